/-
  The chip drawn.
-/
import Derived.Test.YtdgmpllonnddmaaDrMore
import Derived.Test.YtdgmpllonnddmaaNdKeep
import Derived.Test.YtdgmpllonnddmaaDrApp
import Derived.Deep.DeepCutAuto
import Derived.Deep.CutBlock
import Derived.IntWalk
import Derived.Deep.RegionHeld3
import Derived.Test.YtdgmpllonnddmaaNdNew
import Derived.Test.YtdgmpllonnddmaaNdSpec3
namespace Go.Proofs.Ytdgmpllonnddmaa
open Go.RowKit

/-- while a chip is drawn: its box nb, the result's box, its memory, the source -/
structure NSt (w wr : World) (s nb : Nat) (A : Option Addr) (c : Nat) (X : List Bk) : Prop where
  src : Src wr s
  bt : Btw s (s + 1) w wr
  rb : IsBlk wr w.heap.size 25 [.slice none 0 0]
  hnb : w.heap.size < nb
  box : IsBlk wr nb 25 [.slice A X.length c]
  own : ∃ lo hi, w.heap.size + 1 ≤ lo ∧ hi ≤ wr.heap.size ∧ (nb < lo ∨ hi ≤ nb) ∧ OwNd wr lo hi A X.length X
section
variable {w wr w' : World} {s nb c : Nat} {A : Option Addr} {X : List Bk}
theorem NSt.drawn (h : NSt w wr s nb A c X) (hs : s < w.heap.size) (h1 : Src w' s) (h2 : Btw s (s + 1) wr w') : NSt w w' s nb A c X := by
  obtain ⟨lo, hi, k1, k2, k3, k4⟩ := h.own
  have := h.hnb
  exact ⟨h1, h.bt.trans h2, (h2.block _ h.rb.lt (Or.inr (by omega))).trans h.rb, h.hnb, (h2.block _ h.box.lt (Or.inr (by omega))).trans h.box, lo, hi, k1, Nat.le_trans k2 h2.size, k3, k4.btw h2 k2 (Or.inr (by omega))⟩
theorem NSt.below (h : NSt w wr s nb A c X) (h2 : Below wr.heap.size wr w') : NSt w w' s nb A c X := by
  obtain ⟨lo, hi, k1, k2, k3, k4⟩ := h.own
  exact ⟨h.src.below h2 h.src.lt, h.bt.trans (Btw.of_below h2), h.rb.below h2 h.rb.lt, h.hnb, h.box.below h2 h.box.lt, lo, hi, k1, Nat.le_trans k2 h2.size, k3, k4.below h2 k2⟩
theorem NSt.rd (h : NSt w wr s nb A c X) : RdBk wr wr.heap.size A X.length X := by
  obtain ⟨lo, hi, k1, k2, k3, k4⟩ := h.own
  exact k4.rd k2
theorem NSt.cell (h : NSt w wr s nb A c X) : wr.cell? ⟨nb, 0, none⟩ = some (.slice A X.length c) := h.box.cell rfl
theorem NSt.free (h : NSt w wr s nb A c X) : wr.frozen? ⟨nb, 0, none⟩ = false := h.box.free
/-- another chip in the box -/
theorem NSt.take (h : NSt w wr s nb A c X) (hs : s < w.heap.size) {A' : Option Addr} {c' lo hi : Nat} {Y : List Bk} (hl : nb < lo) (hh : hi ≤ wr.heap.size) (ho : OwNd wr lo hi A' Y.length Y) : NSt w (wr.setCell ⟨nb, 0, none⟩ (.slice A' Y.length c')) s nb A' c' Y := by
  have := h.hnb
  exact ⟨h.src.same fun k hk => Below.heap_setCell _ _ _ _ (by dsimp only; omega), h.bt.setCell (Or.inr (by dsimp only; omega)) _, h.rb.other (by dsimp only; omega) _, h.hnb, h.box.set _, lo, hi, by omega, by rw [size_set]; exact hh, Or.inl hl,
    ho.same fun k h1 h2 => Below.heap_setCell _ _ _ _ (by dsimp only; omega)⟩
end
/-- the first chip -/
theorem nst_first {w w1 w2 : World} {s c : Nat} {A : Option Addr} {X : List Bk} (hs : s < w.heap.size) (h1 : Src w1 s) (h2 : Btw s (s + 1) (w.alloc (.cells [.slice none 0 0].toArray 25)) w1) (h3 : Below w1.heap.size w1 w2)
    (ho : OwNd w2 w1.heap.size w2.heap.size A X.length X) : NSt w (w2.alloc (.cells [.slice A X.length c].toArray 25)) s w2.heap.size A c X := by
  have z1 := h2.size
  simp only [size_alloc] at z1
  have z2 := h3.size
  have r1 : IsBlk w1 w.heap.size 25 [.slice none 0 0] := (h2.block _ (by simp) (Or.inr (by omega))).trans (isBlk_new w 25 [.slice none 0 0])
  refine ⟨(h1.below h3 h1.lt).same fun k hk => Below.heap_alloc _ _ _ (by omega), ((((Btw.refl _ _ _).alloc _).trans h2).trans (Btw.of_below h3)).alloc _, (r1.below h3 r1.lt).alloc _, by omega, isBlk_new _ _ _, w1.heap.size, w2.heap.size, by omega, by simp, Or.inr (Nat.le_refl _), ?_⟩
  exact ho.same fun k h1 h2 => Below.heap_alloc _ _ _ (by omega)

/-- while a chip is drawn, an answer y in its box yb beside it -/
structure YSt (w wr : World) (s nb yb : Nat) (A : Option Addr) (c : Nat) (X : List Bk) (A' : Option Addr) (c' : Nat) (r : NdAns) : Prop where
  src : Src wr s
  bt : Btw s (s + 1) w wr
  rb : IsBlk wr w.heap.size 25 [.slice none 0 0]
  hnb : w.heap.size < nb
  box : IsBlk wr nb 25 [.slice A X.length c]
  own : ∃ lo hi, w.heap.size + 1 ≤ lo ∧ hi ≤ wr.heap.size ∧ (nb < lo ∨ hi ≤ nb) ∧ (yb < lo ∨ hi ≤ yb) ∧ OwNd wr lo hi A X.length X
  hyb : nb < yb
  ybox : IsBlk wr yb 29 [.slice A' r.nd.length c', .string r.data, .int .i64 r.code]
  yown : ∃ lo hi, nb < lo ∧ hi ≤ wr.heap.size ∧ (yb < lo ∨ hi ≤ yb) ∧ OwNd wr lo hi A' r.nd.length r.nd
  ok : r.code = 0 → NdOk r.nd
section
variable {w wr w' : World} {s nb yb c c' : Nat} {A A' : Option Addr} {X : List Bk} {r r2 : NdAns}
theorem YSt.nst (h : YSt w wr s nb yb A c X A' c' r) : NSt w wr s nb A c X := by
  obtain ⟨lo, hi, k1, k2, k3, -, k4⟩ := h.own
  exact ⟨h.src, h.bt, h.rb, h.hnb, h.box, lo, hi, k1, k2, k3, k4⟩
theorem YSt.drawn (h : YSt w wr s nb yb A c X A' c' r) (hs : s < w.heap.size) (h1 : Src w' s) (h2 : Btw s (s + 1) wr w') : YSt w w' s nb yb A c X A' c' r := by
  obtain ⟨lo, hi, k1, k2, k3, k5, k4⟩ := h.own
  obtain ⟨lo', hi', l1, l2, l3, l4⟩ := h.yown
  have := h.hnb; have := h.hyb
  exact ⟨h1, h.bt.trans h2, (h2.block _ h.rb.lt (Or.inr (by omega))).trans h.rb, h.hnb, (h2.block _ h.box.lt (Or.inr (by omega))).trans h.box, ⟨lo, hi, k1, Nat.le_trans k2 h2.size, k3, k5, k4.btw h2 k2 (Or.inr (by omega))⟩,
    h.hyb, (h2.block _ h.ybox.lt (Or.inr (by omega))).trans h.ybox, ⟨lo', hi', l1, Nat.le_trans l2 h2.size, l3, l4.btw h2 l2 (Or.inr (by omega))⟩, h.ok⟩
theorem three_same {k yb : Nat} {u0 u1 u2 : Value} (hk : k ≠ yb) : (((w.setCell ⟨yb, 0, none⟩ u0).setCell ⟨yb, 1, none⟩ u1).setCell ⟨yb, 2, none⟩ u2).heap[k]? = w.heap[k]? :=
  (Below.heap_setCell _ _ _ _ (by dsimp only; omega)).trans ((Below.heap_setCell _ _ _ _ (by dsimp only; omega)).trans (Below.heap_setCell _ _ _ _ (by dsimp only; omega)))
theorem three_size {yb : Nat} {u0 u1 u2 : Value} : (((w.setCell ⟨yb, 0, none⟩ u0).setCell ⟨yb, 1, none⟩ u1).setCell ⟨yb, 2, none⟩ u2).heap.size = w.heap.size := by rw [size_set, size_set, size_set]
/-- another answer in y's box, made beside it -/
theorem YSt.put (h : YSt w wr s nb yb A c X A' c' r) (hs : s < w.heap.size) (hb : Below wr.heap.size wr w') {A2 : Option Addr} {c2 : Nat} (ho : OwNd w' wr.heap.size w'.heap.size A2 r2.nd.length r2.nd) (hok : r2.code = 0 → NdOk r2.nd) :
    YSt w (((w'.setCell ⟨yb, 0, none⟩ (.slice A2 r2.nd.length c2)).setCell ⟨yb, 1, none⟩ (.string r2.data)).setCell ⟨yb, 2, none⟩ (.int .i64 r2.code)) s nb yb A c X A2 c2 r2 := by
  obtain ⟨lo, hi, k1, k2, k3, k5, k4⟩ := h.own
  have z1 := h.hnb; have z2 := h.hyb; have z3 := h.ybox.lt; have z4 := hb.size
  have hbt : Btw s (s + 1) w (((w'.setCell ⟨yb, 0, none⟩ (.slice A2 r2.nd.length c2)).setCell ⟨yb, 1, none⟩ (.string r2.data)).setCell ⟨yb, 2, none⟩ (.int .i64 r2.code)) :=
    ((((h.bt.trans (Btw.of_below hb))).setCell (Or.inr (by dsimp only; omega)) _).setCell (Or.inr (by dsimp only; omega)) _).setCell (Or.inr (by dsimp only; omega)) _
  exact ⟨(h.src.below hb h.src.lt).same fun k hk => three_same (by omega), hbt, (three_same (by omega)).trans (h.rb.below hb h.rb.lt), h.hnb, (three_same (by omega)).trans (h.box.below hb h.box.lt),
    ⟨lo, hi, k1, by rw [three_size]; omega, k3, k5, (k4.below hb k2).same fun k _ _ => three_same (by omega)⟩, h.hyb, (((h.ybox.below hb z3).set _).set _).set _,
    ⟨wr.heap.size, w'.heap.size, by omega, by rw [three_size]; exact Nat.le_refl _, Or.inl z3, ho.same fun k _ _ => three_same (by omega)⟩, hok⟩
/-- n = y.Nand -/
theorem YSt.take (h : YSt w wr s nb yb A c X A' c' r) (hs : s < w.heap.size) : NSt w (wr.setCell ⟨nb, 0, none⟩ (.slice A' r.nd.length c')) s nb A' c' r.nd := by
  obtain ⟨lo, hi, l1, l2, -, l4⟩ := h.yown
  exact h.nst.take hs l1 l2 l4
theorem pass_btw (h : Btw s (s + 1) wr w') : ∀ g e cs, s < g → IsBlk wr g e cs → IsBlk w' g e cs := fun g _ _ hg hk => (h.block g hk.lt (Or.inr hg)).trans hk
/-- the first answer: its box made somewhere on the way from w1 on -/
theorem yst_first {w1 W w4 : World} (hN : NSt w w1 s nb A c X) (hs : s < w.heap.size) (hS : Src W s) (hW : Btw s (s + 1) w1 W) (hb : Below W.heap.size W w4) {A2 : Option Addr} {c2 : Nat} (ho : OwNd w4 W.heap.size w4.heap.size A2 r2.nd.length r2.nd) (hok : r2.code = 0 → NdOk r2.nd)
    (y1 : w1.heap.size ≤ yb) (hkW : IsBlk W yb 29 [.slice none 0 0, .string ⟨#[]⟩, .int .i64 0]) :
    YSt w (((w4.setCell ⟨yb, 0, none⟩ (.slice A2 r2.nd.length c2)).setCell ⟨yb, 1, none⟩ (.string r2.data)).setCell ⟨yb, 2, none⟩ (.int .i64 r2.code)) s nb yb A c X A2 c2 r2 := by
  have y2 := hkW.lt
  have hk := hkW.below hb y2
  have z1 := hN.hnb; have z2 := hN.box.lt; have z4 := hb.size; have z5 := hN.bt.size
  have hb2 : Btw s (s + 1) w1 (((w4.setCell ⟨yb, 0, none⟩ (.slice A2 r2.nd.length c2)).setCell ⟨yb, 1, none⟩ (.string r2.data)).setCell ⟨yb, 2, none⟩ (.int .i64 r2.code)) :=
    (((hW.trans (Btw.of_below hb)).setCell (Or.inr y1) _).setCell (Or.inr y1) _).setCell (Or.inr y1) _
  have hS2 : Src (((w4.setCell ⟨yb, 0, none⟩ (.slice A2 r2.nd.length c2)).setCell ⟨yb, 1, none⟩ (.string r2.data)).setCell ⟨yb, 2, none⟩ (.int .i64 r2.code)) s := (hS.below hb hS.lt).same fun k hk => three_same (by omega)
  have hN2 := hN.drawn hs hS2 hb2
  obtain ⟨lo, hi, k1, k2, k3, k4⟩ := hN.own
  exact ⟨hS2, hN2.bt, hN2.rb, hN2.hnb, hN2.box, ⟨lo, hi, k1, Nat.le_trans k2 hb2.size, k3, Or.inr (by omega), k4.btw hb2 k2 (Or.inr (by omega))⟩, by omega, ((hk.set _).set _).set _,
    ⟨W.heap.size, w4.heap.size, by have := hW.size; omega, by rw [three_size]; exact Nat.le_refl _, Or.inl y2, ho.same fun k _ _ => three_same (by omega)⟩, hok⟩
theorem yst_last {w1 W w4 : World} (hN : NSt w w1 s nb A c X) (hs : s < w.heap.size) (hS : Src W s) (hW : Btw s (s + 1) w1 W) (hb : Below W.heap.size W w4) {A2 : Option Addr} {c2 : Nat} (ho : OwNd w4 W.heap.size w4.heap.size A2 r2.nd.length r2.nd) (hok : r2.code = 0 → NdOk r2.nd) :
    YSt w (w4.alloc (.cells [.slice A2 r2.nd.length c2, .string r2.data, .int .i64 r2.code].toArray 29)) s nb w4.heap.size A c X A2 c2 r2 := by
  have z1 := hN.hnb; have z2 := hN.box.lt; have z4 := hb.size; have z5 := hN.bt.size; have z6 := hW.size
  have hb2 : Btw s (s + 1) w1 (w4.alloc (.cells [.slice A2 r2.nd.length c2, .string r2.data, .int .i64 r2.code].toArray 29)) := (hW.trans (Btw.of_below hb)).alloc _
  have hS2 : Src (w4.alloc (.cells [.slice A2 r2.nd.length c2, .string r2.data, .int .i64 r2.code].toArray 29)) s := (hS.below hb hS.lt).same fun k hk => Below.heap_alloc _ _ _ (by have := hS.lt; omega)
  have hN2 := hN.drawn hs hS2 hb2
  obtain ⟨lo, hi, k1, k2, k3, k4⟩ := hN.own
  exact ⟨hS2, hN2.bt, hN2.rb, hN2.hnb, hN2.box, ⟨lo, hi, k1, Nat.le_trans k2 hb2.size, k3, Or.inr (by omega), k4.btw hb2 k2 (Or.inr (by omega))⟩, by omega, isBlk_new _ _ _,
    ⟨W.heap.size, w4.heap.size, by omega, by simp, Or.inr (Nat.le_refl _), ho.same fun k _ _ => Below.heap_alloc _ _ _ (by omega)⟩, hok⟩
/-- what holds of every world on the way from w1 on -/
theorem keep_src {w1 W : World} (hN : NSt w w1 s nb A c X) (hs : s < w.heap.size) (h1 : Src W s) (h2 : Btw s (s + 1) w1 W) : W.cell? ⟨nb, 0, none⟩ = some (.slice A X.length c) ∧ Hid (Src W s ∧ Btw s (s + 1) w1 W) := ⟨(hN.drawn hs h1 h2).cell, h1, h2⟩
theorem src_of {w1 W : World} (h : W.cell? ⟨nb, 0, none⟩ = some (.slice A X.length c) ∧ Hid (Src W s ∧ Btw s (s + 1) w1 W)) : Src W s := h.2.1
theorem btw_of {w1 W : World} (h : W.cell? ⟨nb, 0, none⟩ = some (.slice A X.length c) ∧ Hid (Src W s ∧ Btw s (s + 1) w1 W)) : Btw s (s + 1) w1 W := h.2.2
theorem keep_drew {w1 : World} (hN : NSt w w1 s nb A c X) (hs : s < w.heap.size) : w1.drew.cell? ⟨nb, 0, none⟩ = some (.slice A X.length c) ∧ Hid (Src w1.drew s ∧ Btw s (s + 1) w1 w1.drew) :=
  keep_src hN hs (hN.src.same fun _ _ => rfl) ⟨rfl, rfl, rfl, Nat.le_refl _, fun _ _ _ => rfl⟩
theorem keep_alloc {w1 W : World} (hN : NSt w w1 s nb A c X) (hs : s < w.heap.size) (h : W.cell? ⟨nb, 0, none⟩ = some (.slice A X.length c) ∧ Hid (Src W s ∧ Btw s (s + 1) w1 W)) (o : Obj) :
    (W.alloc o).cell? ⟨nb, 0, none⟩ = some (.slice A X.length c) ∧ Hid (Src (W.alloc o) s ∧ Btw s (s + 1) w1 (W.alloc o)) :=
  keep_src hN hs ((src_of h).same fun k hk => Below.heap_alloc _ _ _ (by have := (src_of h).lt; omega)) ((btw_of h).alloc _)
theorem keep_three {w1 W : World} (hN : NSt w w1 s nb A c X) (hs : s < w.heap.size) (h : W.cell? ⟨nb, 0, none⟩ = some (.slice A X.length c) ∧ Hid (Src W s ∧ Btw s (s + 1) w1 W)) {u0 u1 u2 : Value} (hy : w1.heap.size ≤ yb) :
    (((W.setCell ⟨yb, 0, none⟩ u0).setCell ⟨yb, 1, none⟩ u1).setCell ⟨yb, 2, none⟩ u2).cell? ⟨nb, 0, none⟩ = some (.slice A X.length c) ∧ Hid (Src (((W.setCell ⟨yb, 0, none⟩ u0).setCell ⟨yb, 1, none⟩ u1).setCell ⟨yb, 2, none⟩ u2) s ∧ Btw s (s + 1) w1 (((W.setCell ⟨yb, 0, none⟩ u0).setCell ⟨yb, 1, none⟩ u1).setCell ⟨yb, 2, none⟩ u2)) :=
  keep_src hN hs ((src_of h).same fun k hk => three_same (by have := hN.src.lt; omega)) ((((btw_of h).setCell (Or.inr hy) _).setCell (Or.inr hy) _).setCell (Or.inr hy) _)
theorem rd_of {w1 W : World} (hN : NSt w w1 s nb A c X) (hs : s < w.heap.size) (h : W.cell? ⟨nb, 0, none⟩ = some (.slice A X.length c) ∧ Hid (Src W s ∧ Btw s (s + 1) w1 W)) : RdBk W W.heap.size A X.length X := (hN.drawn hs (src_of h) (btw_of h)).rd
end
theorem new_ok {r : Nat} (h : (r : Int) < 5) : NdOk (newNd (1 + (r : Int))) := by
  have e : (1 + (r : Int)) = ((r + 1 : Nat) : Int) := by omega
  rw [e, newNd_yes (by omega)]
  refine ⟨by simp; omega, fun i hi => ?_⟩
  rw [rep_getD (by simpa using hi)]
  exact ⟨rfl, by decide, fun k _ => zero_ok k⟩
theorem small_ok {X : List Bk} (h : NdOk X) : Small X := ⟨by have := h.1; omega, fun b hb => by
  obtain ⟨i, hi, rfl⟩ := mem_getD hb zeroBk
  have h1 := h.2 i hi
  refine ⟨by have := h1.1; omega, fun p hp => ?_⟩
  obtain ⟨j, hj, rfl⟩ := mem_getD hp zeroPg
  have := h1.2.2 j (by have := h1.1; omega)
  unfold PgBad at this
  omega⟩

/-- a chip drawn: any that fits, of one block at least -/
def RetDrawNd (w : World) (s : Nat) (e : Ending) (w' : World) : Prop :=
  ∃ A c X, e = .returned (.agg #[.slice A X.length c]) ∧ (1 ≤ X.length ∧ Small X) ∧ (∃ lo, w.heap.size ≤ lo ∧ OwNd w' lo w'.heap.size A X.length X) ∧ Src w' s ∧ Btw s (s + 1) w w'
theorem small_set {X : List Bk} {k : Nat} {b : Bk} (h : Small X) (h1 : b.pages.length ≤ 1048576) (h2 : ∀ p ∈ b.pages, p.data.size ≤ 1048576) : Small (X.set k b) := ⟨by simpa using h.1, fun c hc => by
  rcases List.mem_or_eq_of_mem_set hc with h' | h'
  · exact h.2 c h'
  · rw [h']; exact ⟨h1, h2⟩⟩
/-- the end: the chip is handed back, the result's box stored into -/
theorem nd_end {w wx : World} {s lo hi c : Nat} {A : Option Addr} {X : List Bk} {u : Value} (hS : Src wx s) (hsl : s < w.heap.size) (hb : Btw s (s + 1) w wx) (ho : OwNd wx lo hi A X.length X) (hlo : w.heap.size + 1 ≤ lo) (hhi : hi ≤ wx.heap.size) (h1 : 1 ≤ X.length) (h2 : Small X) :
    RetDrawNd w s (.returned (.agg #[.slice A X.length c])) (wx.setCell ⟨w.heap.size, 0, none⟩ u) := by
  refine ⟨A, c, X, rfl, ⟨h1, h2⟩, ⟨lo, by omega, ?_⟩, hS.same fun k hk => Below.heap_setCell _ _ _ _ (by dsimp only; omega), hb.setCell (Or.inr (Nat.le_refl _)) _⟩
  rw [size_set]
  exact (ho.same fun k h1 h2 => Below.heap_setCell _ _ _ _ (by dsimp only; omega)).mono (Nat.le_refl _) hhi
theorem RetDrawNd.drew {w wx : World} {s : Nat} {e : Ending} (h : RetDrawNd w s e wx) : RetDrawNd w s e wx.drew := by
  obtain ⟨A, c, X, h1, h2, ⟨lo, h3, h4⟩, h5, h6⟩ := h
  exact ⟨A, c, X, h1, h2, ⟨lo, h3, h4.same fun _ _ _ => rfl⟩, h5.same fun _ _ => rfl, ⟨h6.os, h6.tape, h6.output, h6.size, h6.block⟩⟩
theorem four_small {P : List Pg} {a b c d b' : Pg} (h : P = [a, b, c, d]) (hs : ∀ p ∈ P, p.data.size ≤ 1048576) (hb : b'.data = b.data) : ∀ p ∈ [a, b', c, d], p.data.size ≤ 1048576 := by
  subst h
  intro p hp
  simp at hp
  rcases hp with rfl | rfl | rfl | rfl
  · exact hs _ (by simp)
  · rw [hb]; exact hs _ (by simp)
  · exact hs _ (by simp)
  · exact hs _ (by simp)
theorem RetDrawNd.alloc {w wx : World} {s : Nat} {e : Ending} (h : RetDrawNd w s e wx) (o : Obj) : RetDrawNd w s e (wx.alloc o) := by
  obtain ⟨A, c, X, h1, h2, ⟨lo, h3, h4⟩, h5, h6⟩ := h
  exact ⟨A, c, X, h1, h2, ⟨lo, h3, (h4.same fun k _ hk => Below.heap_alloc _ _ _ hk).mono (Nat.le_refl _) (by simp)⟩, h5.same fun k hk => Below.heap_alloc _ _ _ (by have := h5.lt; omega), h6.alloc _⟩
theorem first_small {P : List Pg} {a b c d : Pg} {u : Bool} {t : ByteArray} (h : P = [a, b, c, d]) (hs : ∀ p ∈ P, p.data.size ≤ 1048576) (ht : t.size ≤ 1048576) : ∀ p ∈ [⟨u, t⟩, b, c, d], p.data.size ≤ 1048576 := by
  subst h
  intro p hp
  simp at hp
  rcases hp with rfl | rfl | rfl | rfl
  · exact ht
  · exact hs _ (by simp)
  · exact hs _ (by simp)
  · exact hs _ (by simp)
theorem five_small {P : List Pg} {a b c d : Pg} (h : P = [a, b, c, d]) (hs : ∀ p ∈ P, p.data.size ≤ 1048576) : ∀ p ∈ [a, b, c, d, zeroPg], p.data.size ≤ 1048576 := by
  subst h
  intro p hp
  have hp' : p ∈ [a, b, c, d] ∨ p = zeroPg := by simp at hp ⊢; rcases hp with h | h | h | h | h <;> simp [h]
  rcases hp' with h | rfl
  · exact hs _ h
  · exact Nat.zero_le _
theorem four_of {P : List Pg} (h : P.length = 4) : ∃ a b c d, P = [a, b, c, d] := by
  match P, h with
  | [a, b, c, d], _ => exact ⟨a, b, c, d, rfl⟩
set_option maxHeartbeats 40000000 in
set_option maxRecDepth 100000 in
theorem draw_nand (s : Nat) (w : World) (hS : Src w s) :
    Calls Try.prog 30 #[.pointer (some ⟨s, 0, none⟩)] w (RetDrawNd w s) := by
  have HS := Lib.hid hS; clear hS
  have hsl := HS.out.lt
  go_enter Try.func30, Try.ntmps30
  go_wp2_with fail
  have k0 : Src (w.alloc (.cells [.slice none 0 0].toArray 25)) s := HS.out.same fun k hk => Below.heap_alloc _ _ _ (by omega)
  refine (draw_n s 5 _ (by omega) k0).mono ?_
  rintro e w1 ⟨r, rfl, hr, hS1, hb1⟩
  have hr := hr (by omega)
  have HS1 := Lib.hid hS1; have HB1 := Lib.hid hb1
  clear hS1 hb1 k0
  go_wp2_with fail
  refine (spec_nandNew _ w1).mono ?_
  rintro e w2 ⟨A, c, rfl, ho2, hb2⟩
  have N2 := Lib.hid (nst_first (c := c) hsl HS1.out HB1.out hb2 ho2)
  clear ho2 hb2
  go_wp2_with fail
  refine (draw_n s 14 _ (by omega) N2.out.src).mono ?_
  rintro e w3 ⟨q, rfl, hq, hS3, hb3⟩
  have hq := hq (by omega)
  have N3 := Lib.hid (N2.out.drawn hsl hS3 hb3)
  generalize w2.heap.size = nb at *
  clear hS3 hb3 N2 HB1 HS1
  have HOK := Lib.hid (new_ok hr)
  generalize newNd (1 + (r : Int)) = X at *
  go_wp2_with fail
  go_loopw [4] (fun rv wr => ∃ (k : Nat) (A : Option Addr) (c : Nat) (X : List Bk), rv = .int .i64 (k : Int) ∧ k < 14 ∧ NSt w wr s nb A c X ∧ NdOk X) (fun rv _ => (intOf rv).toNat)
  case atStart => exact ⟨q, A, c, X, rfl, by omega, N3.out, HOK.out⟩
  case round =>
    clear N3 HOK hr hq
    obtain ⟨k, A, c, X, rfl, hk14, hN, hok⟩ := hrel
    have hx := hok.1
    have HN := Lib.hid hN; have HOK := Lib.hid hok
    have c0 := hN.cell; have f0 := hN.free
    clear hN hok
    by_cases hk : 0 < k
    · have hkI : (0 : Int) < (k : Int) := by omega
      go_wp2_with fail
      refine (draw_n s _ wr (by omega) HN.out.src).mono ?_
      rintro e w1 ⟨b, rfl, -, hS1, hb1⟩
      have N1 := Lib.hid (HN.out.drawn hsl hS1 hb1)
      clear hS1 hb1 c0 f0
      have c0 := N1.out.cell
      go_wp2_with fail
      go_cut [6] (fun v6 wx => ∃ yb A' c' r, v6 = .pointer (some ⟨yb, 0, none⟩) ∧ YSt w wx s nb yb A c X A' c' r)
      case first =>
        have z1 : s < w1.heap.size := N1.out.src.lt
        have HSM := Lib.hid (small_ok HOK.out)
        go_region_held3 (fun w' => w'.cell? ⟨nb, 0, none⟩ = some (.slice A X.length c) ∧ Hid (Src w' s ∧ Btw s (s + 1) w1 w'))
          (first | exact hs2 | exact hs3 | exact hs4 | exact keep_drew N1.out hsl | exact keep_alloc N1.out hsl (by assumption) _ | exact keep_three N1.out hsl hs4 (by omega))
          (first
            | (go_at_call 33
               refine (draw_n s 5 _ (by omega) (src_of (by assumption))).mono ?_
               rintro e w2 ⟨q2, rfl, hq2, hS2, hb2⟩
               have hq2 := hq2 (by omega)
               have hs2 := keep_src N1.out hsl hS2 ((btw_of (by assumption)).trans hb2)
               have P2 := Lib.hid (pass_btw hb2)
               have z2 := hS2.lt
               have z12 := (btw_of hs2).size
               clear hS2 hb2)
            | (go_at_call 34
               refine (draw_bytes s q2 _ (by omega) (src_of (by assumption))).mono ?_
               rintro e w3 ⟨t, rfl, ht, hS3, hb3⟩
               have hs3 := keep_src N1.out hsl hS3 ((btw_of (by assumption)).trans hb3)
               have P3 := Lib.hid (pass_btw hb3)
               have z3 := hS3.lt
               have z13 := (btw_of hs3).size
               clear hS3 hb3)
            | (go_at_call 15
               refine (spec_program A X.length c X b t _ (by omega) HSM.out (rd_of N1.out hsl (by assumption))).mono ?_
               rintro e w4 ⟨A4, c4, rfl, ho4, hb4⟩
               have hs4 := keep_src N1.out hsl ((src_of (by assumption)).below hb4 (src_of (by assumption)).lt) ((btw_of (by assumption)).trans (Btw.of_below hb4))
               have hok4 : (progAns X (b : Int) t).code = 0 → NdOk (progAns X (b : Int) t).nd := prog_ok
               generalize progAns X (b : Int) t = r4 at ho4 hok4 ⊢
               first
                 | (have kW : IsBlk w3 w1.heap.size 29 [.slice none 0 0, .string ⟨#[]⟩, .int .i64 0] := P3.out _ _ _ z1 (P2.out _ _ _ z1 (isBlk_new w1.drew _ _))
                    have KY := Lib.hid (yst_first (c2 := c4) N1.out hsl (src_of (by assumption)) (btw_of (by assumption)) hb4 ho4 hok4 (Nat.le_refl _) kW)
                    obtain ⟨d0, d1, d2, fd0, fd1, fd2⟩ := blk3 (kW.below hb4 kW.lt)
                    clear kW)
                 | (have kW : IsBlk w3 w2.heap.size 29 [.slice none 0 0, .string ⟨#[]⟩, .int .i64 0] := P3.out _ _ _ z2 (isBlk_new w2 _ _)
                    have KY := Lib.hid (yst_first (c2 := c4) N1.out hsl (src_of (by assumption)) (btw_of (by assumption)) hb4 ho4 hok4 z12 kW)
                    obtain ⟨d0, d1, d2, fd0, fd1, fd2⟩ := blk3 (kW.below hb4 kW.lt)
                    clear kW)
                 | (have kW : IsBlk (w3.alloc _) w3.heap.size 29 [.slice none 0 0, .string ⟨#[]⟩, .int .i64 0] := isBlk_new w3 _ _
                    have KY := Lib.hid (yst_first (c2 := c4) N1.out hsl (src_of (by assumption)) (btw_of (by assumption)) hb4 ho4 hok4 z13 kW)
                    obtain ⟨d0, d1, d2, fd0, fd1, fd2⟩ := blk3 (kW.below hb4 kW.lt)
                    clear kW)
                 | (have KY := Lib.hid (yst_last (c2 := c4) N1.out hsl (src_of (by assumption)) (btw_of (by assumption)) hb4 ho4 hok4))
               clear ho4 hb4 hok4))
        all_goals (go_wp2_with fail; go_meet)
        all_goals exact ⟨_, A4, c4, r4, rfl, KY.out⟩
      case rest =>
        obtain ⟨yb, A', c', r, rfl, hY⟩ := hcut
        have HY := Lib.hid hY; clear hY c0 N1
        go_wp2_with fail
        refine (draw_n s 9 wc (by omega) HY.out.src).mono ?_
        rintro e w5 ⟨q5, rfl, hq5, hS5, hb5⟩
        have HY5 := Lib.hid (HY.out.drawn hsl hS5 hb5)
        clear hS5 hb5
        have HSM := Lib.hid (small_ok HOK.out)
        go_upto_block 2 with fail
        go_cut [] (fun wx => ∃ A' c' r, YSt w wx s nb yb A c X A' c' r)
        case first =>
          have e0 := HY5.out.nst.cell
          obtain ⟨d0, d1, d2, fd0, fd1, fd2⟩ := blk3 HY5.out.ybox
          go_wp2_with fail
          · refine (spec_erase A X.length c X b w5 HSM.out HY5.out.nst.rd).mono ?_
            rintro e w6 ⟨A6, c6, rfl, ho6, hb6⟩
            have KY := Lib.hid (HY5.out.put (c2 := c6) hsl hb6 ho6 erase_ok)
            generalize eraseAns X (b : Int) = r6 at KY ⊢
            obtain ⟨g0, g1, g2, fg0, fg1, fg2⟩ := blk3 (HY5.out.ybox.below hb6 HY5.out.ybox.lt)
            clear ho6 hb6 d0 d1 d2 fd0 fd1 fd2 e0
            go_wp2_with fail
            go_meet
            exact ⟨_, _, _, KY.out⟩
          · refine (draw_one s 2 w5 (by omega) HY5.out.src).mono ?_
            rintro e w6 ⟨bb, rfl, hS6, hb6⟩
            have HY6 := Lib.hid (HY5.out.drawn hsl hS6 hb6)
            clear hS6 hb6 d0 d1 d2 fd0 fd1 fd2 e0
            have e0 := HY6.out.nst.cell
            cases bb
            · go_wp2_with fail
              go_meet
              exact ⟨_, _, _, HY6.out⟩
            · go_wp2_with fail
              refine (spec_markBad A X.length c X b w6 HSM.out HY6.out.nst.rd).mono ?_
              rintro e w7 ⟨A7, c7, rfl, ho7, hb7⟩
              have KY := Lib.hid (HY6.out.put (c2 := c7) hsl hb7 ho7 mark_ok)
              generalize markAns X (b : Int) = r7 at KY ⊢
              obtain ⟨g0, g1, g2, fg0, fg1, fg2⟩ := blk3 (HY6.out.ybox.below hb7 HY6.out.ybox.lt)
              clear ho7 hb7
              go_wp2_with fail
              go_meet
              exact ⟨_, _, _, KY.out⟩
          · go_meet
            exact ⟨_, _, _, HY5.out⟩
        case rest =>
          clear HY5 HY
          obtain ⟨A', c', r, hY⟩ := hcut
          have HY := Lib.hid hY; clear hY
          have e0 := HY.out.nst.cell
          have f0 := HY.out.nst.free
          obtain ⟨d0, d1, d2, fd0, fd1, fd2⟩ := blk3 HY.out.ybox
          go_wp2
          · rename_i hcode
            have hc0 : r.code = 0 := by simpa using hcode
            go_roundw
            case rel => exact ⟨k - 1, A', c', r.nd, congrArg (Value.int .i64) (by omega), by omega, HY.out.take hsl, HY.out.ok hc0⟩
            case measure => simp [intOf]; omega
          · go_roundw
            case rel => exact ⟨k - 1, A, c, X, congrArg (Value.int .i64) (by omega), by omega, HY.out.nst, HOK.out⟩
            case measure => simp [intOf]; omega
    · have hkI : ¬ (0 : Int) < (k : Int) := by omega
      obtain rfl : k = 0 := by omega
      go_wp2_with fail
      refine (draw_one s 15 wr (by omega) HN.out.src).mono ?_
      rintro e w1 ⟨bb, rfl, hS1, hb1⟩
      have N1 := Lib.hid (HN.out.drawn hsl hS1 hb1)
      clear hS1 hb1 c0 f0 HN
      have c0 := N1.out.cell
      have r0 : w1.cell? ⟨w.heap.size, 0, none⟩ = some _ := N1.out.rb.cell rfl
      have fr0 := N1.out.rb.free (j := 0)
      have HSM := Lib.hid (small_ok HOK.out)
      cases bb
      · go_wp2
        refine bodyPost_ret (v := .agg #[.slice A X.length c]) (by simp [results, Try.results30, go_sem, r0]) rfl ?_
        obtain ⟨lo, hi, l1, l2, -, l4⟩ := N1.out.own
        exact nd_end N1.out.src hsl N1.out.bt l4 l1 l2 hx.1 HSM.out
      · go_wp2_with fail
        refine (draw_n s 4 w1 (by omega) N1.out.src).mono ?_
        rintro e w2 ⟨q2, rfl, hq2, hS2, hb2⟩
        have N2 := Lib.hid (N1.out.drawn hsl hS2 hb2)
        clear hS2 hb2 c0 N1 r0 fr0
        have c0 := N2.out.cell
        have r0 : w2.cell? ⟨w.heap.size, 0, none⟩ = some _ := N2.out.rb.cell rfl
        have fr0 := N2.out.rb.free (j := 0)
        obtain ⟨lo, hi, l1, l2, l3, l4⟩ := N2.out.own
        obtain ⟨g, pa, cp, rfl, how⟩ := ow_at l4 hx.1
        obtain ⟨⟨e0, e1, e2⟩, ⟨fe0, fe1, fe2⟩, hgl⟩ := how.cells (k := 0) hx.1
        simp only [Nat.zero_mul, Nat.zero_add] at e0 e1 e2 fe0 fe1 fe2
        have h4 := (HOK.out.2 0 hx.1).1
        obtain ⟨pg1, pg2, pg3, pg4, hpg⟩ := four_of h4
        have hp0 := how.pages 0 hx.1
        have hloc := how.lo' 0 hx.1
        have hrm := how.room 0 hx.1
        rw [h4] at hrm e0
        rw [hpg] at hp0
        have hglo := how.at_lo
        have hghi := how.at_hi
        have HW := Lib.hid how; have HP := Lib.hid hp0; have HR := Lib.hid hrm; have HPG := Lib.hid hpg
        have hnb := N2.out.hnb
        have u1 : w2.cell? ⟨pa 0, 2, none⟩ = some (.bool pg2.used) := Row.cell hp0 (i := 2) (by simp)
        have fu1 : w2.frozen? ⟨pa 0, 2, none⟩ = false := Row.free hp0 2
        have t0 : w2.cell? ⟨pa 0, 1, none⟩ = some (.string pg1.data) := Row.cell hp0 (i := 1) (by simp)
        have ft0 : w2.frozen? ⟨pa 0, 1, none⟩ = false := Row.free hp0 1
        have ne1 : ¬ g = nb := by omega
        have ne2 : ¬ nb = g := by omega
        have ne3 : ¬ pa 0 = nb := by omega
        have ne4 : ¬ nb = pa 0 := by omega
        have ne5 : ¬ w.heap.size = g := by omega
        have ne6 : ¬ g = w.heap.size := by omega
        have ne7 : ¬ w.heap.size = pa 0 := by omega
        have ne8 : ¬ pa 0 = w.heap.size := by omega
        have hxN : 0 < X.length := hx.1
        have hxI : (0 : Int) < (X.length : Int) := by omega
        have HSB := Lib.hid (HSM.out.2 _ (getD_lt (z := zeroBk) hx.1))
        clear how l4 h4 hpg hp0 hrm
        go_wp2_with fail
        · go_region_held3 (fun w' => w'.cell? ⟨nb, 0, none⟩ = some (.slice (some ⟨g, 0, none⟩) X.length c)) (first | exact hs3 | exact hs4 | exact c0)
            (first
              | (go_at_call 54
                 refine (draw_edge s w2.drew (N2.out.src.same fun _ _ => rfl)).mono ?_
                 rintro e w3 ⟨z, rfl, hz1, hz2, hS3, hb2⟩
                 have hb3 : Btw s (s + 1) w2 w3 := ⟨hb2.os, hb2.tape, hb2.output, hb2.size, hb2.block⟩
                 clear hb2
                 have N3 := Lib.hid (N2.out.drawn hsl hS3 hb3)
                 have hs3 : w3.cell? ⟨nb, 0, none⟩ = some (.slice (some ⟨g, 0, none⟩) X.length c) := N3.out.cell
                 have HW3 : Hid (OwBk w3 lo hi g pa cp X) := HW.out.same fun k h1 h2 => hb3.block k (by omega) (Or.inr (by omega))
                 have e13 : w3.cell? ⟨g, 1, none⟩ = some _ := (HW3.out.cells (k := 0) hx.1).1.2.1
                 have fe13 : w3.frozen? ⟨g, 1, none⟩ = false := (HW3.out.cells (k := 0) hx.1).2.1.2.1
                 have r03 : w3.cell? ⟨w.heap.size, 0, none⟩ = some _ := N3.out.rb.cell rfl
                 have fr03 := N3.out.rb.free (j := 0)
                 have hs4 : (w3.setCell ⟨g, 1, none⟩ (.int .i64 z)).cell? ⟨nb, 0, none⟩ = some (.slice (some ⟨g, 0, none⟩) X.length c) := by rw [World.cell?_of_block (Below.heap_setCell _ _ _ _ (by dsimp only; omega))]; exact hs3
                 have hz3 := hb3.size
                 clear hS3 hb3))
          go_wp2
          refine bodyPost_ret (v := .agg #[.slice (some ⟨g, 0, none⟩) X.length c]) (by simp [results, Try.results30, go_sem, r03]) rfl ?_
          have hset := HW3.out.setEr (k := 0) hx.1 z
          simp only [Nat.zero_mul, Nat.zero_add] at hset
          have hfin := nd_end (c := c) (u := .slice (some ⟨g, 0, none⟩) X.length c) (N3.out.src.same fun k hk => Below.heap_setCell _ _ _ _ (by dsimp only; omega)) hsl (N3.out.bt.setCell (Or.inr (by dsimp only; omega)) _) (ow_of hset) l1 (by rw [size_set]; omega) (by simp; omega) (small_set HSM.out HSB.out.1 HSB.out.2)
          rw [List.length_set] at hfin
          exact hfin
        · go_still_tail 16, (by kernel_rfl)
          change wpList _ _ _ _ _ w2.drew
          go_wp2
          refine bodyPost_ret (v := .agg #[.slice (some ⟨g, 0, none⟩) X.length c]) (by simp [results, Try.results30, go_sem, r0]) rfl ?_
          have hset := HW.out.repage (k := 0) hx.1 (fun q _ _ hq => Below.heap_setCell _ _ _ _ hq) (by rw [HPG.out]; rfl) (four_used HP.out (!pg2.used)) (HR.out.set _ _ _)
          have hfin := nd_end (c := c) (u := .slice (some ⟨g, 0, none⟩) X.length c) (N2.out.src.same fun k hk => Below.heap_setCell _ _ _ _ (by dsimp only; omega)) hsl (N2.out.bt.setCell (Or.inr (by dsimp only; omega)) _) (ow_of hset) l1 (by rw [size_set]; omega) (by simp; omega) (small_set HSM.out (by simp) (four_small HPG.out HSB.out.2 rfl))
          rw [List.length_set] at hfin
          exact hfin.drew
        · have lnb : nb < w2.heap.size := N2.out.box.lt
          have lrb : w.heap.size < w2.heap.size := N2.out.rb.lt
          have lpa : pa 0 < w2.heap.size := by omega
          obtain ⟨V, hV⟩ : ∃ x, x = (w2.alloc (.cells #[.bool false, .string ⟨#[]⟩] 58)).drew := ⟨_, rfl⟩
          have HBV : Hid (∀ q, q < w2.heap.size → V.heap[q]? = w2.heap[q]?) := by rw [hV]; exact fun q hq => Below.heap_alloc _ _ _ hq
          have HSV : Hid (V.heap.size = w2.heap.size + 1) := by rw [hV]; show (w2.alloc _).heap.size = _; simp
          have HPV : Hid (OwPg V (pa 0) [pg1, pg2, pg3, pg4]) := Row.same HP.out (HBV.out _ lpa)
          have HRV : Hid (Room V (pa 0) (cp 0) 4) := HR.out.same (HBV.out _ lpa)
          have HWV : Hid (OwBk V lo hi g pa cp X) := HW.out.same fun q _ h2 => HBV.out q (by omega)
          have HNV : Hid (∀ j u, [Value.bool false, .string ⟨#[]⟩][j]? = some u → V.cell? ((⟨w2.heap.size, 0, none⟩ : Addr).add j) = some u) := by
            rw [hV]
            intro j u hj
            rw [add_plain]
            exact (isBlk_new w2 58 [.bool false, .string ⟨#[]⟩]).cell hj
          have HNSV : Hid (NSt w V s nb (some ⟨g, 0, none⟩) c X) := by rw [hV]; exact N2.out.below ⟨rfl, rfl, rfl, by show _ ≤ (w2.alloc _).heap.size; simp, fun q hq => Below.heap_alloc _ _ _ hq⟩
          rw [hV] at HPV HRV HNV
          have HV := Lib.hid hV; clear hV
          go_region_law (
            (refine step_append_page rfl (.tmp 98) (.tmp 100) rfl (by rfl) HPV.out HRV.out (by rfl) HNV.out ?_
             intro g5 cap5 w5 ho5 hr5 hb5 hat5
             rw [← HV.out] at hb5 hat5
             rw [HSV.out] at hat5
             have z5 := hb5.size
             rw [HSV.out] at z5
             have hlt5 : g5 < w5.heap.size := Row.lt ho5
             have hq5 : ∀ q, q < w2.heap.size → q ≠ pa 0 → w5.heap[q]? = V.heap[q]? := fun q h1 h2 => hb5.block q (by rw [HSV.out]; omega) (by omega)
             have c05 : w5.cell? ⟨nb, 0, none⟩ = some (.slice (some ⟨g, 0, none⟩) X.length c) := (World.cell?_of_block (hq5 nb lnb ne4)).trans HNSV.out.cell
             have e05 : w5.cell? ⟨g, 0, none⟩ = some _ := (World.cell?_of_block (hq5 g hgl (by omega))).trans (HWV.out.cells (k := 0) hx.1).1.1
             have fe05 : w5.frozen? ⟨g, 0, none⟩ = false := (World.frozen?_of_block (hq5 g hgl (by omega))).trans (HWV.out.cells (k := 0) hx.1).2.1.1
             have r05 : w5.cell? ⟨w.heap.size, 0, none⟩ = some _ := (World.cell?_of_block (hq5 _ lrb ne7)).trans (HNSV.out.rb.cell rfl)
             have fr05 : w5.frozen? ⟨w.heap.size, 0, none⟩ = false := (World.frozen?_of_block (hq5 _ lrb ne7)).trans (HNSV.out.rb.free (j := 0))
             have HG := Lib.hid (HWV.out.grow (k := 0) hx.1 (fun q _ h2 h3 => hq5 q (by omega) h3) (by omega : hi ≤ w5.heap.size) ⟨by omega, hlt5, by omega⟩ (fun i h1 h2 => by have := HWV.out.lo' i h1; have := HWV.out.apart i 0 h1 hx.1 h2; omega) ho5 hr5)
             have HS5 : Hid (Src w5 s) := HNSV.out.src.same fun k hk => hq5 k (by omega) (by omega)
             have HB5 : Hid (Btw s (s + 1) w w5) := HNSV.out.bt.then ⟨hb5.os, hb5.tape, hb5.output, hb5.size, fun i hi => hq5 i (by omega) (by omega)⟩
             clear ho5 hr5 hb5 hat5 hq5 z5))
          all_goals
            go_wp2
            refine bodyPost_ret (v := .agg #[.slice (some ⟨g, 0, none⟩) X.length c]) (by simp [results, Try.results30, go_sem, r05]) rfl ?_
            have hset := HG.out
            simp only [Nat.zero_mul] at hset
            have hfin := nd_end (c := c) (u := .slice (some ⟨g, 0, none⟩) X.length c) (HS5.out.same fun k hk => Below.heap_setCell _ _ _ _ (by dsimp only; omega)) hsl (HB5.out.setCell (Or.inr (by dsimp only; omega)) _) (ow_of hset) l1 (by rw [size_set]; exact Nat.le_refl _) (by simp; omega) (small_set HSM.out (by simp) (five_small HPG.out HSB.out.2))
            rw [List.length_set] at hfin
            exact hfin
        · go_region_law (
            (go_simp
             go_at_call 33
             refine (draw_n s 3 w2.drew (by omega) (N2.out.src.same fun _ _ => rfl)).mono ?_
             rintro e w3 ⟨q3, rfl, hq3, hS3, hb2⟩
             have hq3 := hq3 (by omega)
             have hb3 : Btw s (s + 1) w2 w3 := ⟨hb2.os, hb2.tape, hb2.output, hb2.size, hb2.block⟩
             clear hb2
             have N3 := Lib.hid (N2.out.drawn hsl hS3 hb3)
             have HW3 : Hid (OwBk w3 lo hi g pa cp X) := HW.out.same fun k h1 h2 => hb3.block k (by omega) (Or.inr (by omega))
             have HR3 : Hid (Room w3 (pa 0) (cp 0) 4) := HR.out.same (hb3.block _ (by omega) (Or.inr (by omega)))
             have HP3 : Hid (OwPg w3 (pa 0) [pg1, pg2, pg3, pg4]) := Row.same HP.out (hb3.block _ (by omega) (Or.inr (by omega)))
             have z3 := hb3.size
             have c03 : w3.cell? ⟨nb, 0, none⟩ = some (.slice (some ⟨g, 0, none⟩) X.length c) := N3.out.cell
             have e03 : w3.cell? ⟨g, 0, none⟩ = some (.slice (some ⟨pa 0, 0, none⟩) 4 (cp 0)) := (World.cell?_of_block (hb3.block _ hgl (Or.inr (by dsimp only; omega)))).trans e0
             have t03 : w3.cell? ⟨pa 0, 1, none⟩ = some (.string pg1.data) := Row.cell HP3.out (i := 1) (by simp)
             have ft03 : w3.frozen? ⟨pa 0, 1, none⟩ = false := Row.free HP3.out 1
             have r03 : w3.cell? ⟨w.heap.size, 0, none⟩ = some _ := N3.out.rb.cell rfl
             have fr03 := N3.out.rb.free (j := 0)
             have l1n : nb < w3.heap.size := N3.out.box.lt
             have l2n : g < w3.heap.size := by omega
             have l3n : pa 0 < w3.heap.size := by omega
             have l4n : w.heap.size < w3.heap.size := N3.out.rb.lt
             have hmk := make_zeros (59 + q3) (59 + (q3 : Int)) (by omega) (by omega)
             have hcv := conv_zeros (59 + q3)
             have hwr : IntKind.i64.wrap (59 + (q3 : Int)) = 59 + (q3 : Int) := IntWalk.i64_in _ (by omega)
             clear hS3 hb3))
          all_goals
            go_wp2
            have hres : (((w3.setCell ⟨pa 0, 1, none⟩ (.string (zerosT (59 + q3)))).setCell ⟨w.heap.size, 0, none⟩ (.slice (some ⟨g, 0, none⟩) X.length c)).alloc (.cells (madeCells #[.int .u8 0] (59 + q3)) 5)).cell? ⟨w.heap.size, 0, none⟩ = some (.slice (some ⟨g, 0, none⟩) X.length c) :=
              (((N3.out.rb.other (a := ⟨pa 0, 1, none⟩) (by dsimp only; omega) _).set (j := 0) _).alloc _).cell rfl
            refine bodyPost_ret (v := .agg #[.slice (some ⟨g, 0, none⟩) X.length c]) (by simp [results, Try.results30, go_sem, hres]) rfl ?_
            have hset := HW3.out.repage (k := 0) hx.1 (fun q _ _ hq => Below.heap_setCell _ _ _ _ hq) (by rw [HPG.out]; rfl) (four_data HP3.out (zerosT (59 + q3))) (HR3.out.set _ _ _)
            have hfin := nd_end (c := c) (u := .slice (some ⟨g, 0, none⟩) X.length c) (N3.out.src.same fun k hk => Below.heap_setCell _ _ _ _ (by dsimp only; omega)) hsl (N3.out.bt.setCell (Or.inr (by dsimp only; omega)) _) (ow_of hset) l1 (by rw [size_set]; omega) (by simp; omega) (small_set HSM.out (by simp) (first_small HPG.out HSB.out.2 (by rw [zerosT_size]; omega)))
            rw [List.length_set] at hfin
            exact hfin.alloc _
end Go.Proofs.Ytdgmpllonnddmaa
