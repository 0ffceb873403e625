/-
  What the laws of histories draw.
-/
import Derived.Test.YtgkkkldajangeaaDrHist
namespace Go.Proofs.Ytgkkkldajangeaa
open Go.RowKit
open Bt (Rc)

theorem own_capR {w : World} {lo n ca size : Nat} {e : TypeId} {A : Option Addr} {xs : List Value} (h : w.ownsRow lo e size (.slice A n ca) n xs) : n ≤ ca := by
  rcases h.2 with ⟨hv, h0⟩ | ⟨g, cap, cur, hv, hb, hh, hc, -⟩
  · omega
  · simp only [Value.slice.injEq] at hv; omega
/-- a draw from a source of the call's own -/
theorem bel_hs {B s : Nat} {w w1 w2 : World} (h : Below B w w1) (hB : B ≤ s) (hs : s < w1.heap.size) (hb : Btw s (s + 1) w1 w2) : Below B w w2 :=
  h.trans ⟨hb.os, hb.tape, hb.output, hb.size, fun i hi => hb.block i (by omega) (Or.inl (by omega))⟩
/-- a drawn history as a call answers it -/
structure DrewH (w w' : World) (A : Option Addr) (ca : Nat) (X : List Rc) : Prop where
  own : OwRc w' w.heap.size w'.heap.size A X.length X
  cap : X.length ≤ ca
  fine : FineH X
  bel : Below w.heap.size w w'
theorem drewH {w w1 w2 : World} {s ca : Nat} {A : Option Addr} {X : List Rc} (h1 : Below w.heap.size w w1) (hs : w.heap.size ≤ s) (hsl : s < w1.heap.size) (hb : Btw s (s + 1) w1 w2)
    (ho : w2.ownsRow w1.heap.size 27 6 (.slice A X.length ca) X.length (rcA X)) (hF : FineH X) : DrewH w w2 A ca X :=
  ⟨(ow_of_own ho).mono h1.size (Nat.le_refl _), own_capR ho, hF, bel_hs h1 hs hsl hb⟩

/-- while something is drawn over a drawn history: the source, the history's box, its row; k blocks of the call's answers lie first -/
structure HB (w wx : World) (k s b : Nat) (A : Option Addr) (ca : Nat) (X : List Rc) : Prop where
  bel : Below w.heap.size w wx
  src : Src wx s
  s0 : w.heap.size + k ≤ s
  box : IsBlk wx b 25 [.slice A X.length ca]
  sb : s < b
  own : wx.ownsRow (s + 1) 27 6 (.slice A X.length ca) X.length (rcA X)
  fine : FineH X
  res : ∀ j, j < k → wx.heap[w.heap.size + j]? = (if j = 0 then some (.cells #[.slice none 0 0] 25 (0, 0)) else some (.cells (recC Rc.zero).toArray 27 (0, 0)))
theorem HB.draw {w wx w' : World} {k s b ca : Nat} {A : Option Addr} {X : List Rc} (h : HB w wx k s b A ca X) (hS : Src w' s) (hb : Btw s (s + 1) wx w') : HB w w' k s b A ca X :=
  ⟨bel_hs h.bel (by have := h.s0; omega) h.src.lt hb, hS, h.s0, (hb.block _ h.box.lt (.inr h.sb)).trans h.box, h.sb,
    own_sameR h.own fun g hg => hb.block g (own_block_ltR h.own hg).2 (.inr (own_block_ltR h.own hg).1), h.fine,
    fun j hj => by rw [← h.res j hj]; exact hb.block _ (by have := h.s0; have := h.src.lt; omega) (.inl (by have := h.s0; omega))⟩
theorem HB.below {w wx w' : World} {k s b ca : Nat} {A : Option Addr} {X : List Rc} (h : HB w wx k s b A ca X) (hb : Below wx.heap.size wx w') : HB w w' k s b A ca X :=
  ⟨h.bel.trans (hb.mono h.bel.size), h.src.below hb h.src.lt, h.s0, h.box.below hb h.box.lt, h.sb, own_belowR h.own hb, h.fine,
    fun j hj => by rw [← h.res j hj]; exact hb.block _ (by have := h.s0; have := h.src.lt; omega)⟩
theorem HB.drew {w wx : World} {k s b ca : Nat} {A : Option Addr} {X : List Rc} (h : HB w wx k s b A ca X) : HB w wx.drew k s b A ca X := h.below (Below.refl _ _).drew
theorem HB.rd {w wx : World} {k s b ca : Nat} {A : Option Addr} {X : List Rc} (h : HB w wx k s b A ca X) : RdRc wx wx.heap.size A X.length X := (ow_of_own h.own).rd (Nat.le_refl _)
theorem HB.begin {w w1 w2 w3 : World} {k s ca : Nat} {A : Option Addr} {X : List Rc} (h1 : Below w.heap.size w w1) (hs : w.heap.size + k ≤ s) (hsl : s < w1.heap.size) (hS : Src w2 s) (hb : Btw s (s + 1) w1 w2)
    (ho : w2.ownsRow w1.heap.size 27 6 (.slice A X.length ca) X.length (rcA X)) (hF : FineH X)
    (hr : ∀ j, j < k → w1.heap[w.heap.size + j]? = (if j = 0 then some (.cells #[.slice none 0 0] 25 (0, 0)) else some (.cells (recC Rc.zero).toArray 27 (0, 0))))
    (he : w3 = w2.alloc (.cells #[.slice A X.length ca] 25)) : HB w w3 k s w2.heap.size A ca X := by
  subst he
  have z := hb.size
  have hx : Below w2.heap.size w2 (w2.alloc (.cells #[.slice A X.length ca] 25)) := (Below.refl _ _).alloc (Nat.le_refl _) _
  exact ⟨(bel_hs h1 (by omega) hsl hb).trans (hx.mono (by have := h1.size; omega)), hS.below hx hS.lt, hs, isBlk_new w2 _ _, by have := hS.lt; omega, own_monoR (own_belowR ho hx) (by omega), hF,
    fun j hj => by rw [← hr j hj, hx.block _ (by omega)]; exact hb.block _ (by omega) (.inl (by omega))⟩
theorem HB.own' {w wx : World} {k s b ca : Nat} {A : Option Addr} {X : List Rc} (h : HB w wx k s b A ca X) : OwRc wx w.heap.size wx.heap.size A X.length X := (ow_of_own h.own).mono (by have := h.s0; omega) (Nat.le_refl _)
theorem HB.drewn {w wx : World} {k s b ca : Nat} {A : Option Addr} {X : List Rc} (h : HB w wx k s b A ca X) : DrewH w wx A ca X := ⟨h.own', own_capR h.own, h.fine, h.bel⟩
/-- the call's answer laid in its block -/
theorem DrewH.set {w wx : World} {ca : Nat} {A : Option Addr} {X : List Rc} (h : DrewH w wx A ca X) {b j : Nat} (hb : w.heap.size ≤ b) (ho : 0 < X.length → ∀ g, A = some ⟨g, 0, none⟩ → g ≠ b) (u : Value) : DrewH w (wx.setCell ⟨b, j, none⟩ u) A ca X :=
  ⟨⟨h.own.1, fun hn => by
    obtain ⟨g, hA, h1, h2, hr⟩ := h.own.2 hn
    exact ⟨g, hA, h1, by simpa [World.setCell] using h2, hr.same (Below.heap_setCell _ _ _ _ (ho hn g hA))⟩⟩, h.cap, h.fine, h.bel.setCell hb _⟩

theorem HB.out0 {w wx : World} {k s b ca : Nat} {A : Option Addr} {X : List Rc} (h : HB w wx k s b A ca X) (hk : 0 < k) : IsBlk wx w.heap.size 25 [.slice none 0 0] := by
  have := h.res 0 hk
  rw [if_pos rfl, Nat.add_zero] at this; exact this
theorem HB.ne0 {w wx : World} {k s b ca : Nat} {A : Option Addr} {X : List Rc} (h : HB w wx k s b A ca X) (hk : 0 < k) : ∀ g, A = some ⟨g, 0, none⟩ → g ≠ w.heap.size := fun g hg => by
  have := (own_block_ltR h.own (g := g) (by rw [hg]; rfl)).1
  have := h.s0
  omega
theorem HB.out1 {w wx : World} {k s b ca : Nat} {A : Option Addr} {X : List Rc} (h : HB w wx k s b A ca X) (hk : 1 < k) : IsBlk wx (w.heap.size + 1) 27 (recC Rc.zero) := by
  have := h.res 1 hk
  rw [if_neg (by omega)] at this; exact this
theorem HB.far {w wx : World} {k s b ca : Nat} {A : Option Addr} {X : List Rc} (h : HB w wx k s b A ca X) {j : Nat} (hj : j < k) : ∀ g, A = some ⟨g, 0, none⟩ → g ≠ w.heap.size + j := fun g hg => by
  have := (own_block_ltR h.own (g := g) (by rw [hg]; rfl)).1
  have := h.s0
  omega
theorem HB.alloc {w wx : World} {k s b ca : Nat} {A : Option Addr} {X : List Rc} (h : HB w wx k s b A ca X) (o : Obj) : HB w (wx.alloc o) k s b A ca X := h.below ((Below.refl _ _).alloc (Nat.le_refl _) _)
theorem DrewH.alloc {w wx : World} {ca : Nat} {A : Option Addr} {X : List Rc} (h : DrewH w wx A ca X) (o : Obj) : DrewH w (wx.alloc o) A ca X :=
  ⟨(h.own.below ((Below.refl _ _).alloc (Nat.le_refl _) o) (Nat.le_refl _)).mono (Nat.le_refl _) (by simp), h.cap, h.fine, h.bel.alloc h.bel.size _⟩
theorem rdBy_hs {w w' : World} {B n : Nat} {A : Option Addr} (h : RdBy w B A n) (hb : Below B w w') {B' : Nat} (hB : B ≤ B') : RdBy w' B' A n := fun hn => by
  obtain ⟨g, off, hA, hg, hc⟩ := h.same (fun k hk => hb.block k hk) hn
  exact ⟨g, off, hA, by omega, hc⟩
set_option maxRecDepth 100000 in
theorem drawLastSeq_any (A : Option Addr) (n c : Nat) (w : World) (hn : n ≤ 1048576) (hA : RdBy w w.heap.size A n) :
    Calls Try.prog 13 #[.slice A n c] w (fun e w' => ∃ A' ca X, e = .returned (.agg #[.slice A' X.length ca]) ∧ DrewH w w' A' ca X) := by
  have HA := Lib.hid hA; clear hA
  go_enter Try.func13, Try.ntmps13
  have HB0 : Hid (Below w.heap.size w (w.alloc (.cells #[.slice none 0 0] 25))) := (Below.refl _ _).alloc (Nat.le_refl _) _
  have HK0 := Lib.hid (isBlk_new w 25 [.slice none 0 0])
  go_wp2_with fail
  refine (draw_sourceZ n c A _ hn (rdBy_hs HA.out HB0.out (by simp))).mono ?_
  rintro e w1 ⟨s, rfl, hs1, hS1, hb1⟩
  simp only [size_alloc] at hs1
  have HS1 := Lib.hid hS1
  have HK1 := Lib.hid (HK0.out.below hb1 (by simp))
  have HB1 := Lib.hid (HB0.out.trans (hb1.mono (by simp))); clear hS1 hb1 HK0 HB0
  go_wp2_with fail
  refine (draw_hist s w1 HS1.out).mono ?_
  rintro e w2 ⟨A2, ca, X, rfl, hS2, hb2, ho2, hF2⟩
  have hsl := HS1.out.src.lt
  have HK2 : Hid (IsBlk w2 w.heap.size 25 [.slice none 0 0]) := (hb2.block _ HK1.out.lt (Or.inl (by omega))).trans HK1.out
  have HD := Lib.hid (drewH HB1.out (by omega) hsl hb2 ho2 hF2)
  have hlo : ∀ g, A2 = some ⟨g, 0, none⟩ → w1.heap.size ≤ g := fun g hg => (own_block_ltR ho2 (g := g) (by rw [hg]; rfl)).1
  have HLO := Lib.hid hlo
  have c0 : w2.cell? ⟨w.heap.size, 0, none⟩ = some (.slice none 0 0) := HK2.out.cell rfl
  have f0 : w2.frozen? ⟨w.heap.size, 0, none⟩ = false := HK2.out.free
  clear hS2 hb2 ho2 hF2 hlo
  go_wp2
  refine bodyPost_ret (v := .agg #[.slice A2 X.length ca]) (by simp [results, Try.results13, go_sem, c0]) rfl ?_
  exact ⟨A2, ca, X, rfl, HD.out.set (Nat.le_refl _) (fun _ g hg e => by have := HLO.out g hg; have := HK1.out.lt; omega) _⟩
set_option maxRecDepth 100000 in
theorem drawPrune_any (A : Option Addr) (n c : Nat) (w : World) (hn : n ≤ 1048576) (hA : RdBy w w.heap.size A n) :
    Calls Try.prog 31 #[.slice A n c] w (fun e w' => ∃ A' ca X, e = .returned (.agg #[.slice A' X.length ca]) ∧ DrewH w w' A' ca X) := by
  have HA := Lib.hid hA; clear hA
  go_enter Try.func31, Try.ntmps31
  have HB0 : Hid (Below w.heap.size w (w.alloc (.cells #[.slice none 0 0] 25))) := (Below.refl _ _).alloc (Nat.le_refl _) _
  have HK0 := Lib.hid (isBlk_new w 25 [.slice none 0 0])
  go_wp2_with fail
  refine (draw_sourceZ n c A _ hn (rdBy_hs HA.out HB0.out (by simp))).mono ?_
  rintro e w1 ⟨s, rfl, hs1, hS1, hb1⟩
  simp only [size_alloc] at hs1
  have HS1 := Lib.hid hS1
  have HK1 := Lib.hid (HK0.out.below hb1 (by simp))
  have HB1 := Lib.hid (HB0.out.trans (hb1.mono (by simp))); clear hS1 hb1 HK0 HB0
  go_wp2_with fail
  refine (draw_hist s w1 HS1.out).mono ?_
  rintro e w2 ⟨A2, ca, X, rfl, hS2, hb2, ho2, hF2⟩
  have hsl := HS1.out.src.lt
  have HK2 : Hid (IsBlk w2 w.heap.size 25 [.slice none 0 0]) := (hb2.block _ HK1.out.lt (Or.inl (by omega))).trans HK1.out
  have HD := Lib.hid (drewH HB1.out (by omega) hsl hb2 ho2 hF2)
  have hlo : ∀ g, A2 = some ⟨g, 0, none⟩ → w1.heap.size ≤ g := fun g hg => (own_block_ltR ho2 (g := g) (by rw [hg]; rfl)).1
  have HLO := Lib.hid hlo
  have c0 : w2.cell? ⟨w.heap.size, 0, none⟩ = some (.slice none 0 0) := HK2.out.cell rfl
  have f0 : w2.frozen? ⟨w.heap.size, 0, none⟩ = false := HK2.out.free
  clear hS2 hb2 ho2 hF2 hlo
  go_wp2
  refine bodyPost_ret (v := .agg #[.slice A2 X.length ca]) (by simp [results, Try.results31, go_sem, c0]) rfl ?_
  exact ⟨A2, ca, X, rfl, HD.out.set (Nat.le_refl _) (fun _ g hg e => by have := HLO.out g hg; have := HK1.out.lt; omega) _⟩

/-- a drawn history with two numbers -/
def RetTr (w : World) (e : Ending) (w' : World) : Prop := ∃ (A' : Option Addr) (ca : Nat) (X : List Rc) (a b : Int), e = .returned (.tuple #[.agg #[.slice A' X.length ca], .int .i64 a, .int .i64 b]) ∧ DrewH w w' A' ca X
set_option maxHeartbeats 1000000 in
set_option maxRecDepth 100000 in
theorem drawTrail_any (A : Option Addr) (n c : Nat) (w : World) (hn : n ≤ 1048576) (hA : RdBy w w.heap.size A n) :
    Calls Try.prog 10 #[.slice A n c] w (RetTr w) := by
  have HA := Lib.hid hA; clear hA
  go_enter Try.func10, Try.ntmps10
  have HB0 : Hid (Below w.heap.size w (w.alloc (.cells #[.slice none 0 0] 25))) := (Below.refl _ _).alloc (Nat.le_refl _) _
  have HK0 := Lib.hid (isBlk_new w 25 [.slice none 0 0])
  go_wp2_with fail
  refine (draw_sourceZ n c A _ hn (rdBy_hs HA.out HB0.out (by simp))).mono ?_
  rintro e w1 ⟨s, rfl, hs1, hS1, hb1⟩
  simp only [size_alloc] at hs1
  have HS1 := Lib.hid hS1
  have HK1 := Lib.hid (HK0.out.below hb1 (by simp))
  have HB1 := Lib.hid (HB0.out.trans (hb1.mono (by simp))); clear hS1 hb1 HK0 HB0
  go_wp2_with fail
  refine (draw_hist s w1 HS1.out).mono ?_
  rintro e w2 ⟨A2, ca, X, rfl, hS2, hb2, ho2, hF2⟩
  have H2 := Lib.hid (HB.begin (k := 1) (w3 := w2.alloc (.cells #[.slice A2 X.length ca] 25)) HB1.out (by omega) HS1.out.src.lt hS2 hb2 ho2 hF2 (fun j hj => by
    obtain rfl : j = 0 := by omega
    rw [if_pos rfl]; exact HK1.out) rfl)
  clear hS2 hb2 ho2 hF2 HS1 HK1 HB1
  go_wp2_with fail
  change Calls _ _ _ (w2.alloc (.cells #[.slice A2 X.length ca] 25)) _
  generalize hV : w2.alloc (.cells #[.slice A2 X.length ca] 25) = W2 at H2 ⊢
  clear hV
  generalize hbb : w2.heap.size = b at H2 ⊢
  clear hbb
  refine (draw_n s 3 W2 (by omega) H2.out.src).mono ?_
  rintro e w3 ⟨q, rfl, hq, hS3, hb3⟩
  have hq := hq (by omega)
  have H3 := Lib.hid (H2.out.draw hS3 hb3)
  clear hS3 hb3 H2
  go_wp2_with fail
  refine (draw_one s 12 w3 (by omega) H3.out.src).mono ?_
  rintro e w4 ⟨b12, rfl, hS4, hb4⟩
  have H4 := Lib.hid (H3.out.draw hS4 hb4)
  clear hS4 hb4 H3
  go_upto_if 15 with fail
  go_cut [7] (fun v7 wx => ∃ z : Int, v7 = .int .i64 z ∧ Hid (HB w wx 1 s b A2 ca X))
  case first =>
    cases b12
    · go_wp2_with fail
      go_meet
      exact ⟨q, rfl, H4⟩
    · have ka := isBlk_new w4 2 [.int .i64 (-1), .int .i64 5, .int .i64 6]
      have HKA := Lib.hid ka; clear ka
      have H4a := Lib.hid (H4.out.alloc (.cells #[.int .i64 (-1), .int .i64 5, .int .i64 6] 2))
      have hsw : s < w4.heap.size := H4.out.src.lt
      go_wp2_with fail
      refine (draw_n s 3 _ (by omega) H4a.out.src).mono ?_
      rintro e w5 ⟨z, rfl, hz, hS5, hb5⟩
      have hz := hz (by omega)
      have H5 := Lib.hid (H4a.out.draw hS5 hb5)
      have k5 : IsBlk w5 w4.heap.size 2 [.int .i64 (-1), .int .i64 5, .int .i64 6] := (hb5.block _ HKA.out.lt (by omega)).trans HKA.out
      obtain ⟨y, hy⟩ : ∃ y : Int, [Value.int .i64 (-1), .int .i64 5, .int .i64 6][z]? = some (.int .i64 y) := by
        have hz' : z = 0 ∨ z = 1 ∨ z = 2 := by omega
        rcases hz' with rfl | rfl | rfl
        · exact ⟨-1, rfl⟩
        · exact ⟨5, rfl⟩
        · exact ⟨6, rfl⟩
      have c5 : w5.cell? ⟨w4.heap.size, z, none⟩ = some (.int .i64 y) := k5.cell hy
      have hzI : (z : Int) < 3 := by omega
      have hzI0 : (0 : Int) ≤ (z : Int) := by omega
      clear hS5 hb5 k5 hy
      go_wp2_with fail
      go_meet
      exact ⟨y, rfl, H5⟩
  case rest =>
    obtain ⟨z, rfl, H5⟩ := hcut
    clear H4
    go_wp2_with fail
    refine (draw_one s 12 wc (by omega) H5.out.src).mono ?_
    rintro e w6 ⟨b12', rfl, hS6, hb6⟩
    have H6 := Lib.hid (H5.out.draw hS6 hb6)
    clear hS6 hb6 H5
    have cb : w6.cell? ⟨b, 0, none⟩ = some (.slice A2 X.length ca) := H6.out.box.cell rfl
    obtain ⟨n2, hn2⟩ : ∃ n2, n2 = X.length := ⟨_, rfl⟩
    have HN := Lib.hid hn2
    rw [← hn2] at cb
    clear hn2
    have hsb := H6.out.sb
    have hs0 := H6.out.s0
    cases b12'
    · go_wp2_with fail
      go_region_held3 (fun w' => w'.cell? ⟨b, 0, none⟩ = some (.slice A2 n2 ca)) (first | exact cb | exact cb7 | exact cb8)
          (first
            | (go_at_call 49
               refine (draw_n s 25 _ (by omega) H6.out.drew.src).mono ?_
               rintro e w7 ⟨y, rfl, -, hS7, hb7⟩
               have H7 := Lib.hid (H6.out.drew.draw hS7 hb7)
               clear hS7 hb7
               have cb7 : w7.cell? ⟨b, 0, none⟩ = some (.slice A2 n2 ca) := by rw [HN.out]; exact H7.out.box.cell rfl
               have c0 : w7.cell? ⟨w.heap.size, 0, none⟩ = some (.slice none 0 0) := (H7.out.out0 (by omega)).cell rfl
               have f0 : w7.frozen? ⟨w.heap.size, 0, none⟩ = false := (H7.out.out0 (by omega)).free
               have cb8 : (w7.setCell ⟨w.heap.size, 0, none⟩ (.slice A2 n2 ca)).cell? ⟨b, 0, none⟩ = some (.slice A2 n2 ca) := by rw [World.cell?_of_block (Below.heap_setCell _ _ _ _ (by dsimp only; omega))]; exact cb7))
      all_goals
        go_wp2
        refine bodyPost_ret (v := .tuple #[.agg #[.slice A2 n2 ca], .int .i64 z, .int .i64 y]) (by simp [results, Try.results10, go_sem, c0]) rfl ?_
        exact ⟨A2, ca, X, z, y, by rw [HN.out], by rw [HN.out]; exact H7.out.drewn.set (Nat.le_refl _) (fun _ => H7.out.ne0 (by omega)) _⟩
    · go_wp2_with fail
      go_region_held3 (fun w' => w'.cell? ⟨b, 0, none⟩ = some (.slice A2 n2 ca)) (first | exact cb | exact cb7 | exact cb8)
          (first
            | (go_at_call 55
               refine (draw_edge s _ H6.out.drew.src).mono ?_
               rintro e w7 ⟨y, rfl, -, -, hS7, hb7⟩
               have H7 := Lib.hid (H6.out.drew.draw hS7 hb7)
               clear hS7 hb7
               have cb7 : w7.cell? ⟨b, 0, none⟩ = some (.slice A2 n2 ca) := by rw [HN.out]; exact H7.out.box.cell rfl
               have c0 : w7.cell? ⟨w.heap.size, 0, none⟩ = some (.slice none 0 0) := (H7.out.out0 (by omega)).cell rfl
               have f0 : w7.frozen? ⟨w.heap.size, 0, none⟩ = false := (H7.out.out0 (by omega)).free
               have cb8 : (w7.setCell ⟨w.heap.size, 0, none⟩ (.slice A2 n2 ca)).cell? ⟨b, 0, none⟩ = some (.slice A2 n2 ca) := by rw [World.cell?_of_block (Below.heap_setCell _ _ _ _ (by dsimp only; omega))]; exact cb7))
      all_goals
        go_wp2
        refine bodyPost_ret (v := .tuple #[.agg #[.slice A2 n2 ca], .int .i64 z, .int .i64 y]) (by simp [results, Try.results10, go_sem, c0]) rfl ?_
        exact ⟨A2, ca, X, z, y, by rw [HN.out], by rw [HN.out]; exact H7.out.drewn.set (Nat.le_refl _) (fun _ => H7.out.ne0 (by omega)) _⟩

set_option maxRecDepth 100000 in
theorem drawAsOf_any (A : Option Addr) (n c : Nat) (w : World) (hn : n ≤ 1048576) (hA : RdBy w w.heap.size A n) :
    Calls Try.prog 11 #[.slice A n c] w (RetTr w) := by
  have HA := Lib.hid hA; clear hA
  go_enter Try.func11, Try.ntmps11
  have HB0 : Hid (Below w.heap.size w (w.alloc (.cells #[.slice none 0 0] 25))) := (Below.refl _ _).alloc (Nat.le_refl _) _
  have HK0 := Lib.hid (isBlk_new w 25 [.slice none 0 0])
  go_wp2_with fail
  refine (drawTrail_any A n c _ hn (rdBy_hs HA.out HB0.out (by simp))).mono ?_
  rintro e w1 ⟨A2, ca, X, a, b, rfl, hD⟩
  have HK1 := Lib.hid (HK0.out.below hD.bel (by simp))
  have hB : Below w.heap.size w w1 := HB0.out.trans (hD.bel.mono (by simp))
  have HD : Hid (DrewH w w1 A2 ca X) := ⟨hD.own.mono (by simp) (Nat.le_refl _), hD.cap, hD.fine, hB⟩
  have hne : 0 < X.length → ∀ g, A2 = some ⟨g, 0, none⟩ → g ≠ w.heap.size := fun hl g hg => by
    obtain ⟨g', hA', h1, h2, -⟩ := hD.own.2 hl
    rw [hg] at hA'
    simp only [Option.some.injEq, Addr.mk.injEq] at hA'
    simp at h1
    omega
  have HNE := Lib.hid hne
  have c0 : w1.cell? ⟨w.heap.size, 0, none⟩ = some (.slice none 0 0) := HK1.out.cell rfl
  have f0 : w1.frozen? ⟨w.heap.size, 0, none⟩ = false := HK1.out.free
  have l0 : w.heap.size < w1.heap.size := HK1.out.lt
  clear hD hB hne
  go_wp2
  refine bodyPost_ret (v := .tuple #[.agg #[.slice A2 X.length ca], .int .i64 a, .int .i64 b]) (by simp [results, Try.results11, go_sem, c0]) rfl ?_
  exact ⟨A2, ca, X, a, b, rfl, HD.out.set (Nat.le_refl _) HNE.out _⟩
set_option maxRecDepth 100000 in
theorem drawTimes_any (A : Option Addr) (n c : Nat) (w : World) (hn : n ≤ 1048576) (hA : RdBy w w.heap.size A n) :
    Calls Try.prog 12 #[.slice A n c] w (fun e w' => ∃ (A' : Option Addr) (ca : Nat) (X : List Rc) (a : Int), e = .returned (.tuple #[.agg #[.slice A' X.length ca], .int .i64 a]) ∧ DrewH w w' A' ca X) := by
  have HA := Lib.hid hA; clear hA
  go_enter Try.func12, Try.ntmps12
  have HB0 : Hid (Below w.heap.size w (w.alloc (.cells #[.slice none 0 0] 25))) := (Below.refl _ _).alloc (Nat.le_refl _) _
  have HK0 := Lib.hid (isBlk_new w 25 [.slice none 0 0])
  go_wp2_with fail
  refine (drawTrail_any A n c _ hn (rdBy_hs HA.out HB0.out (by simp))).mono ?_
  rintro e w1 ⟨A2, ca, X, a, b, rfl, hD⟩
  have HK1 := Lib.hid (HK0.out.below hD.bel (by simp))
  have hB : Below w.heap.size w w1 := HB0.out.trans (hD.bel.mono (by simp))
  have HD : Hid (DrewH w w1 A2 ca X) := ⟨hD.own.mono (by simp) (Nat.le_refl _), hD.cap, hD.fine, hB⟩
  have hne : 0 < X.length → ∀ g, A2 = some ⟨g, 0, none⟩ → g ≠ w.heap.size := fun hl g hg => by
    obtain ⟨g', hA', h1, h2, -⟩ := hD.own.2 hl
    rw [hg] at hA'
    simp only [Option.some.injEq, Addr.mk.injEq] at hA'
    simp at h1
    omega
  have HNE := Lib.hid hne
  have c0 : w1.cell? ⟨w.heap.size, 0, none⟩ = some (.slice none 0 0) := HK1.out.cell rfl
  have f0 : w1.frozen? ⟨w.heap.size, 0, none⟩ = false := HK1.out.free
  have l0 : w.heap.size < w1.heap.size := HK1.out.lt
  clear hD hB hne
  go_wp2
  refine bodyPost_ret (v := .tuple #[.agg #[.slice A2 X.length ca], .int .i64 a]) (by simp [results, Try.results12, go_sem, c0, l0]) rfl ?_
  first
    | exact ⟨A2, ca, X, a, rfl, (HD.out.alloc _).set (Nat.le_refl _) HNE.out _⟩
    | exact ⟨A2, ca, X, a, rfl, (HD.out.set (Nat.le_refl _) HNE.out _).alloc _⟩

set_option maxHeartbeats 1000000 in
set_option maxRecDepth 100000 in
theorem drawHistAdd_any (A : Option Addr) (n c : Nat) (w : World) (hn : n ≤ 1048576) (hA : RdBy w w.heap.size A n) :
    Calls Try.prog 8 #[.slice A n c] w (fun e w' => ∃ (A' : Option Addr) (ca : Nat) (X : List Rc) (r : Rc), e = .returned (.tuple #[.agg #[.slice A' X.length ca], recV r]) ∧ r.d.size ≤ 17 ∧ DrewH w w' A' ca X) := by
  have HA := Lib.hid hA; clear hA
  go_enter Try.func8, Try.ntmps8
  have HB0 : Hid (Below w.heap.size w ((w.alloc (.cells #[.slice none 0 0] 25)).alloc (.cells (recC Rc.zero).toArray 27))) := ((Below.refl _ _).alloc (Nat.le_refl _) _).alloc (by simp) _
  have HK0 : Hid (IsBlk ((w.alloc (.cells #[.slice none 0 0] 25)).alloc (.cells (recC Rc.zero).toArray 27)) w.heap.size 25 [.slice none 0 0]) := (isBlk_new w 25 [.slice none 0 0]).alloc _
  have HK1 : Hid (IsBlk ((w.alloc (.cells #[.slice none 0 0] 25)).alloc (.cells (recC Rc.zero).toArray 27)) (w.heap.size + 1) 27 (recC Rc.zero)) := by
    have k1 := isBlk_new (w.alloc (.cells #[.slice none 0 0] 25)) 27 (recC Rc.zero)
    rw [size_alloc] at k1; exact k1
  go_wp2_with fail
  change Calls _ _ _ ((w.alloc (.cells #[.slice none 0 0] 25)).alloc (.cells (recC Rc.zero).toArray 27)) _
  have hz0 : ((w.alloc (.cells #[.slice none 0 0] 25)).alloc (.cells (recC Rc.zero).toArray 27)).heap.size = w.heap.size + 2 := by simp
  generalize (w.alloc (.cells #[.slice none 0 0] 25)).alloc (.cells (recC Rc.zero).toArray 27) = w0 at HB0 HK0 HK1 hz0 ⊢
  refine (draw_sourceZ n c A _ hn (rdBy_hs HA.out HB0.out (by omega))).mono ?_
  rintro e w1 ⟨s, rfl, hs1, hS1, hb1⟩
  have HS1 := Lib.hid hS1
  have HK2 := Lib.hid (HK0.out.below hb1 HK0.out.lt)
  have HK3 := Lib.hid (HK1.out.below hb1 HK1.out.lt)
  have HB1 := Lib.hid (HB0.out.trans (hb1.mono (by omega))); clear hS1 hb1 HK0 HK1 HB0
  go_wp2_with fail
  refine (draw_hist s w1 HS1.out).mono ?_
  rintro e w2 ⟨A2, ca, X, rfl, hS2, hb2, ho2, hF2⟩
  have H2 := Lib.hid (HB.begin (k := 2) (w3 := w2.alloc (.cells #[.slice A2 X.length ca] 25)) HB1.out (by omega) HS1.out.src.lt hS2 hb2 ho2 hF2 (fun j hj => by
    have hj' : j = 0 ∨ j = 1 := by omega
    rcases hj' with rfl | rfl
    · rw [if_pos rfl]; exact HK2.out
    · rw [if_neg (by omega)]; exact HK3.out) rfl)
  clear hS2 hb2 ho2 hF2 HS1 HK2 HK3 HB1
  go_wp2_with fail
  change Code.wp _ _ _ _ (w2.alloc (.cells #[.slice A2 X.length ca] 25))
  generalize hV : w2.alloc (.cells #[.slice A2 X.length ca] 25) = W2 at H2 ⊢
  clear hV
  generalize hbb : w2.heap.size = b at H2 ⊢
  clear hbb
  obtain ⟨n2, hn2⟩ : ∃ n2, n2 = X.length := ⟨_, rfl⟩
  have HN := Lib.hid hn2
  have cb0 : W2.cell? ⟨b, 0, none⟩ = some (.slice A2 n2 ca) := by rw [hn2]; exact H2.out.box.cell rfl
  have hn49 : n2 ≤ 49 := by rw [hn2]; exact H2.out.fine.len
  clear hn2
  have hsb := H2.out.sb
  have hs0 := H2.out.s0
  have hlf := lastR_fine H2.out.fine
  have HLL : Hid (∀ W, HB w W 2 s b A2 ca X → Calls Try.prog 48 #[.agg #[.slice A2 n2 ca]] W fun e w' => e = .returned (recV (lastR X)) ∧ Below W.heap.size W w') := fun W h => by
    rw [HN.out]; exact l04Last_any A2 X.length ca X W (by have := h.fine.len; omega) h.rd
  generalize lastR X = lr at hlf HLL
  have hf2 := recField_2; have hf3 := recField_3
  go_region_held3 (fun w' => w'.cell? ⟨b, 0, none⟩ = some (.slice A2 n2 ca))
    (first | ((fail_if_success (have := G1)); exact cb0) | ((fail_if_success (have := G2)); exact cb1) | ((fail_if_success (have := G3)); exact cb2) | ((fail_if_success (have := G4)); exact cb3) | ((fail_if_success (have := G5)); exact cb4) | ((fail_if_success (have := G6)); exact cb5) | (rw [World.cell?_of_block (Below.heap_setCell _ _ _ _ (by dsimp only; omega)), World.cell?_of_block (Below.heap_setCell _ _ _ _ (by dsimp only; omega)), World.cell?_of_block (Below.heap_setCell _ _ _ _ (by dsimp only; omega)), World.cell?_of_block (Below.heap_setCell _ _ _ _ (by dsimp only; omega)), World.cell?_of_block (Below.heap_setCell _ _ _ _ (by dsimp only; omega)), World.cell?_of_block (Below.heap_setCell _ _ _ _ (by dsimp only; omega)), World.cell?_of_block (Below.heap_setCell _ _ _ _ (by dsimp only; omega))]; exact cb6) | (rw [World.cell?_of_block (Below.heap_setCell _ _ _ _ (by dsimp only; omega))]; exact cb6) | exact cb6)
    (first
      | (go_at_call 48
         first
           | (refine (HLL.out _ G2.out).mono ?_
              rintro e u3 ⟨rfl, hb3⟩
              have G3 := Lib.hid (G2.out.below hb3)
              have cb3 : u3.cell? ⟨b, 0, none⟩ = some (.slice A2 n2 ca) := by rw [HN.out]; exact G3.out.box.cell rfl
              clear hb3)
           | (fail_if_success (have := G1)
              refine (HLL.out _ H2.out.drew).mono ?_
              rintro e u1 ⟨rfl, hb1⟩
              have G1 := Lib.hid (H2.out.drew.below hb1)
              have cb1 : u1.cell? ⟨b, 0, none⟩ = some (.slice A2 n2 ca) := by rw [HN.out]; exact G1.out.box.cell rfl
              clear hb1))
      | (go_at_call 49
         first
           | (refine (draw_n s 2 _ (by omega) G4.out.src).mono ?_
              rintro e u5 ⟨q5, rfl, hq5, hS5, hb5⟩
              have hq5 := hq5 (by omega)
              have G5 := Lib.hid (G4.out.draw hS5 hb5)
              have cb5 : u5.cell? ⟨b, 0, none⟩ = some (.slice A2 n2 ca) := by rw [HN.out]; exact G5.out.box.cell rfl
              have hw5 : IntKind.i64.wrap (lr.t + (q4 : Int) - (q5 : Int)) = lr.t + (q4 : Int) - (q5 : Int) := IntWalk.i64_in _ (by omega)
              clear hS5 hb5)
           | (fail_if_success (have := G4)
              refine (draw_n s 4 _ (by omega) G3.out.src).mono ?_
              rintro e u4 ⟨q4, rfl, hq4, hS4, hb4⟩
              have hq4 := hq4 (by omega)
              have G4 := Lib.hid (G3.out.draw hS4 hb4)
              have cb4 : u4.cell? ⟨b, 0, none⟩ = some (.slice A2 n2 ca) := by rw [HN.out]; exact G4.out.box.cell rfl
              have hw4 : IntKind.i64.wrap (lr.t + (q4 : Int)) = lr.t + (q4 : Int) := IntWalk.i64_in _ (by omega)
              clear hS4 hb4)
           | (fail_if_success (have := G2)
              refine (draw_n s 3 _ (by omega) G1.out.src).mono ?_
              rintro e u2 ⟨q2, rfl, hq2, hS2, hb2⟩
              have G2 := Lib.hid (G1.out.draw hS2 hb2)
              have cb2 : u2.cell? ⟨b, 0, none⟩ = some (.slice A2 n2 ca) := by rw [HN.out]; exact G2.out.box.cell rfl
              clear hS2 hb2))
      | (go_at_call 47
         refine (draw_rec s _ _ _ (by omega) (by omega) G5.out.src).mono ?_
         rintro e u6 ⟨r, rfl, hr17, hS6, hb6⟩
         have G6 := Lib.hid (G5.out.draw hS6 hb6)
         have cb6 : u6.cell? ⟨b, 0, none⟩ = some (.slice A2 n2 ca) := by rw [HN.out]; exact G6.out.box.cell rfl
         have c0 : u6.cell? ⟨w.heap.size, 0, none⟩ = some (.slice none 0 0) := (G6.out.out0 (by omega)).cell rfl
         have f0 : u6.frozen? ⟨w.heap.size, 0, none⟩ = false := (G6.out.out0 (by omega)).free
         obtain ⟨y0, y1, y2, y3, y4, y5⟩ := rcCells (G6.out.out1 (by omega))
         have g0 : u6.frozen? ⟨w.heap.size + 1, 0, none⟩ = false := (G6.out.out1 (by omega)).free
         have g1 : u6.frozen? ⟨w.heap.size + 1, 1, none⟩ = false := (G6.out.out1 (by omega)).free
         have g2 : u6.frozen? ⟨w.heap.size + 1, 2, none⟩ = false := (G6.out.out1 (by omega)).free
         have g3 : u6.frozen? ⟨w.heap.size + 1, 3, none⟩ = false := (G6.out.out1 (by omega)).free
         have g4 : u6.frozen? ⟨w.heap.size + 1, 4, none⟩ = false := (G6.out.out1 (by omega)).free
         have g5 : u6.frozen? ⟨w.heap.size + 1, 5, none⟩ = false := (G6.out.out1 (by omega)).free
         clear hS6 hb6))
  all_goals
    go_wp2
    refine bodyPost_ret (v := .tuple #[.agg #[.slice A2 n2 ca], recV r]) (by simp [results, Try.results8, go_sem, c0, y0, y1, y2, y3, y4, y5]) rfl ?_
    refine ⟨A2, ca, X, r, by rw [HN.out], hr17, ?_⟩
    rw [HN.out]
    repeat (with_reducible refine DrewH.set ?_ ?_ ?_ _)
    all_goals first | exact G6.out.drewn | omega | (exact fun _ => G6.out.far (j := 1) (by omega)) | (exact fun _ => G6.out.far (j := 0) (by omega))
end Go.Proofs.Ytgkkkldajangeaa
