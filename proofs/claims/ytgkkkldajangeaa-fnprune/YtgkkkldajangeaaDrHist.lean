/-
  A drawn history: some history of at most 49 records, in memory of its own.
-/
import Derived.Test.YtgkkkldajangeaaDrSize
import Derived.Test.YtgkkkldajangeaaDrRec2
import Derived.Test.YtgkkkldajangeaaHsLast
import Derived.Test.YtgkkkldajangeaaHsAddW
import Derived.Test.YtgkkkldajangeaaHsMore
import Derived.Deep.RegionHeld3
namespace Go.Proofs.Ytgkkkldajangeaa
open Go.RowKit
open Bt (Rc)
theorem bel_keep {B : Nat} {W W' : World} (h : Below B W W') {g : Nat} {e : TypeId} {cs : List Value} (hk : IsBlk W g e cs) (hg : g < B) : IsBlk W' g e cs := hk.below h hg
/-- what a drawn history may be -/
structure FineH (X : List Rc) : Prop where
  len : X.length ≤ 49
  each : ∀ r ∈ X, r.d.size ≤ 17 ∧ 0 ≤ r.t ∧ r.t ≤ 1000000
/-- while a history is drawn: the source, the answer's block, the history's block, its row -/
structure HSt (w wx : World) (s : Nat) (A : Option Addr) (ca : Nat) (X : List Rc) : Prop where
  src : Src wx s
  btw : Btw s (s + 1) w wx
  out : IsBlk wx w.heap.size 25 [.slice none 0 0]
  blk : IsBlk wx (w.heap.size + 1) 25 [.slice A X.length ca]
  own : wx.ownsRow (w.heap.size + 2) 27 6 (.slice A X.length ca) X.length (rcA X)
  fine : FineH X
section
variable {w wx w' : World} {s ca : Nat} {A : Option Addr} {X : List Rc}
theorem HSt.draw (h : HSt w wx s A ca X) (hs : s < w.heap.size) (hS : Src w' s) (hb : Btw s (s + 1) wx w') : HSt w w' s A ca X :=
  ⟨hS, h.btw.trans hb, (hb.block _ h.out.lt (by omega)).trans h.out, (hb.block _ h.blk.lt (by omega)).trans h.blk,
    own_sameR h.own fun g hg => hb.block g (own_block_ltR h.own hg).2 (by have := (own_block_ltR h.own hg).1; omega), h.fine⟩
theorem HSt.below (h : HSt w wx s A ca X) (hb : Below wx.heap.size wx w') : HSt w w' s A ca X :=
  ⟨h.src.below hb h.src.lt, h.btw.then ⟨hb.os, hb.tape, hb.output, hb.size, fun k hk => hb.block k (Nat.lt_of_lt_of_le hk h.btw.size)⟩, h.out.below hb h.out.lt, h.blk.below hb h.blk.lt, own_belowR h.own hb, h.fine⟩
theorem HSt.alloc (h : HSt w wx s A ca X) (o : Obj) : HSt w (wx.alloc o) s A ca X := h.below ((Below.refl _ _).alloc (Nat.le_refl _) _)
theorem HSt.drew (h : HSt w wx s A ca X) : HSt w wx.drew s A ca X := ⟨h.src, ⟨h.btw.os, h.btw.tape, h.btw.output, h.btw.size, h.btw.block⟩, h.out, h.blk, h.own, h.fine⟩
theorem HSt.small (h : HSt w wx s A ca X) : SmallR X := ⟨by have := h.fine.len; omega, fun r hr => by have := h.fine.each r hr; omega⟩
theorem HSt.rd (h : HSt w wx s A ca X) : RdRc wx wx.heap.size A X.length X := (ow_of_own h.own).rd (Nat.le_refl _)
end
theorem fine_nil : FineH [] := ⟨by simp, fun r h => by cases h⟩
theorem hRight_nil : hRight [] = true := by simp [hRight, allTo]
theorem lastOf_b {X : List Rc} : 0 ≤ (lastOf X).q ∧ (lastOf X).q ≤ 1000000 := by
  unfold lastOf
  split
  · rename_i h
    by_cases hl : X.length = 0
    · rw [lastR_nil hl]; exact ⟨by decide, by decide⟩
    · have := (hRight_at h (k := X.length - 1) (by omega)).1
      unfold lastR
      generalize X.getD (X.length - 1) Rc.zero = r at this
      obtain ⟨-, -, -, -, h5, h6, -⟩ := this
      exact ⟨by omega, h6⟩
  · exact ⟨by decide, by decide⟩

theorem stOf {w w' : World} {s n ca : Nat} {A : Option Addr} {X : List Rc} {a : Addr} (h : w'.cell? a = some (.slice A n ca) ∧ Hid (HSt w w' s A ca X)) : HSt w w' s A ca X := h.2.out
theorem keepB {w w' w'' : World} {s n ca : Nat} {A : Option Addr} {X : List Rc} (hn : n = X.length) (h : w'.cell? ⟨w.heap.size + 1, 0, none⟩ = some (.slice A n ca) ∧ Hid (HSt w w' s A ca X)) (hb : Below w'.heap.size w' w'') :
    w''.cell? ⟨w.heap.size + 1, 0, none⟩ = some (.slice A n ca) ∧ Hid (HSt w w'' s A ca X) := by
  have h2 := h.2.out.below hb
  exact ⟨by rw [hn]; exact h2.blk.cell rfl, h2⟩
theorem keepA {w w' : World} {s n ca : Nat} {A : Option Addr} {X : List Rc} (hn : n = X.length) (h : w'.cell? ⟨w.heap.size + 1, 0, none⟩ = some (.slice A n ca) ∧ Hid (HSt w w' s A ca X)) (o : Obj) :
    (w'.alloc o).cell? ⟨w.heap.size + 1, 0, none⟩ = some (.slice A n ca) ∧ Hid (HSt w (w'.alloc o) s A ca X) := keepB hn h ((Below.refl _ _).alloc (Nat.le_refl _) _)
theorem keepD {w w' w'' : World} {s n ca : Nat} {A : Option Addr} {X : List Rc} (hn : n = X.length) (hs : s < w.heap.size) (h : w'.cell? ⟨w.heap.size + 1, 0, none⟩ = some (.slice A n ca) ∧ Hid (HSt w w' s A ca X)) (hS : Src w'' s) (hb : Btw s (s + 1) w' w'') :
    w''.cell? ⟨w.heap.size + 1, 0, none⟩ = some (.slice A n ca) ∧ Hid (HSt w w'' s A ca X) := by
  have h2 := h.2.out.draw hs hS hb
  exact ⟨by rw [hn]; exact h2.blk.cell rfl, h2⟩
theorem kD {W W' : World} {s g : Nat} {e : TypeId} {cs : List Value} (P : Hid (Btw s (s + 1) W W')) (hs : s < g) (h : IsBlk W g e cs) : IsBlk W' g e cs := (P.out.block g h.lt (Or.inr hs)).trans h
theorem kB {W W' : World} {g : Nat} {e : TypeId} {cs : List Value} (P : Hid (Below W.heap.size W W')) (h : IsBlk W g e cs) : IsBlk W' g e cs := h.below P.out h.lt
/-- behind 'y := HistAdd(h, r)': the answer in a box of its own -/
structure YAt (w wx : World) (s : Nat) (A : Option Addr) (ca : Nat) (X : List Rc) (b : Nat) (A' : Option Addr) (c' : Nat) (Y : List Rc) (code : Int) : Prop where
  st : HSt w wx s A ca X
  blk : IsBlk wx b 31 [.slice A' Y.length c', .int .i64 code]
  own : wx.ownsRow (w.heap.size + 2) 27 6 (.slice A' Y.length c') Y.length (rcA Y)
theorem yat_last {w W3 W4 : World} {s ca c' : Nat} {A A' : Option Addr} {X Y : List Rc} {code : Int} (h : HSt w W3 s A ca X) (ho : W4.ownsRow W3.heap.size 27 6 (.slice A' Y.length c') Y.length (rcA Y)) (hb : Below W3.heap.size W3 W4) :
    YAt w (W4.alloc (.cells #[.slice A' Y.length c', .int .i64 code] 31)) s A ca X W4.heap.size A' c' Y code := by
  have h3 := h.blk.lt
  exact ⟨(h.below hb).alloc _, isBlk_new W4 31 [.slice A' Y.length c', .int .i64 code], own_belowR (own_monoR ho (by omega)) ((Below.refl _ _).alloc (Nat.le_refl _) _)⟩
theorem HSt.other {w wx : World} {s ca b j : Nat} {A : Option Addr} {X : List Rc} (h : HSt w wx s A ca X) (hs : s < w.heap.size) (hb : w.heap.size + 2 ≤ b) (ha : ∀ g, (Value.slice A X.length ca).ownBlock = some g → g < b) (u : Value) : HSt w (wx.setCell ⟨b, j, none⟩ u) s A ca X :=
  ⟨h.src.same fun k hk => Below.heap_setCell _ _ _ _ (by dsimp only; omega), h.btw.setCell (.inr (by dsimp only; omega)) _, h.out.other (by dsimp only; omega) _, h.blk.other (by dsimp only; omega) _,
    own_sameR h.own fun g hg => Below.heap_setCell _ _ _ _ (by have := ha g hg; dsimp only; omega), h.fine⟩
theorem yat_first {w W3 W4 : World} {s ca c' b : Nat} {A A' : Option Addr} {X Y : List Rc} {code : Int} (h : HSt w W3 s A ca X) (hs : s < w.heap.size) (hb2 : w.heap.size + 2 ≤ b) (ha : ∀ g, (Value.slice A X.length ca).ownBlock = some g → g < b) (hk : IsBlk W3 b 31 [.slice none 0 0, .int .i64 0])
    (ho : W4.ownsRow W3.heap.size 27 6 (.slice A' Y.length c') Y.length (rcA Y)) (hb : Below W3.heap.size W3 W4) :
    YAt w ((W4.setCell ⟨b, 0, none⟩ (.slice A' Y.length c')).setCell ⟨b, 1, none⟩ (.int .i64 code)) s A ca X b A' c' Y code := by
  have h3 := h.blk.lt
  have hbl := hk.lt
  refine ⟨((h.below hb).other hs hb2 ha _).other hs hb2 ha _, ((hk.below hb hbl).set (j := 0) (.slice A' Y.length c')).set (j := 1) (.int .i64 code), ?_⟩
  refine own_monoR (lo := W3.heap.size) ?_ (by omega)
  exact own_otherR (own_otherR ho (by dsimp only; omega) _) (by dsimp only; omega) _

theorem YAt.turn {w wx : World} {s ca c' b : Nat} {A A' : Option Addr} {X Y : List Rc} {code : Int} (h : YAt w wx s A ca X b A' c' Y code) (hs : s < w.heap.size) (hF : FineH Y) : HSt w (wx.setCell ⟨w.heap.size + 1, 0, none⟩ (.slice A' Y.length c')) s A' c' Y :=
  ⟨h.st.src.same fun k hk => Below.heap_setCell _ _ _ _ (by dsimp only; omega), h.st.btw.setCell (.inr (by dsimp only; omega)) _, h.st.out.other (by dsimp only; omega) _, h.st.blk.set (j := 0) _, own_otherR h.own (by dsimp only; omega) _, hF⟩
theorem add_list {X : List Rc} {r : Rc} (h : addCode X r = 0) : addList X r = X ++ [r] := by unfold addList; rw [if_pos h]
theorem fine_add {X : List Rc} {r : Rc} (h : FineH X) (hl : X.length < 48) (hok : r.Ok) : FineH (X ++ [r]) := by
  refine ⟨by simp; omega, fun p hp => ?_⟩
  rcases List.mem_append.1 hp with hp | hp
  · exact h.each p hp
  · simp only [List.mem_singleton] at hp
    subst hp
    obtain ⟨-, -, -, -, -, -, h1, h2, -, -, h3, -⟩ := hok
    exact ⟨by omega, h1, h2⟩
theorem fine_snoc {X : List Rc} {p : Rc} (h : FineH X) (hl : X.length ≤ 48) (hp : p.d.size ≤ 17 ∧ 0 ≤ p.t ∧ p.t ≤ 1000000) : FineH (X ++ [p]) := by
  refine ⟨by simp; omega, fun r hr => ?_⟩
  rcases List.mem_append.1 hr with hr | hr
  · exact h.each r hr
  · simp only [List.mem_singleton] at hr
    subst hr; exact hp
theorem keepY {w wx : World} {s n ca c' b : Nat} {A A' : Option Addr} {X Y : List Rc} {code : Int} (hn : n = X.length) (h : YAt w wx s A ca X b A' c' Y code) : wx.cell? ⟨w.heap.size + 1, 0, none⟩ = some (.slice A n ca) ∧ Hid (HSt w wx s A ca X) :=
  ⟨by rw [hn]; exact h.st.blk.cell rfl, h.st⟩

theorem HSt.put {w wx : World} {s ca g j : Nat} {X Y : List Rc} {v : Value} (h : HSt w wx s (some ⟨g, 0, none⟩) ca X) (hs : s < w.heap.size) (hg : w.heap.size + 2 ≤ g) (he : (rcA X).set j v = rcA Y) (hl : Y.length = X.length) (hF : FineH Y) :
    HSt w (wx.setCell ⟨g, j, none⟩ v) s (some ⟨g, 0, none⟩) ca Y :=
  ⟨h.src.same fun k hk => Below.heap_setCell _ _ _ _ (by dsimp only; omega), h.btw.setCell (.inr (by dsimp only; omega)) _, h.out.other (by dsimp only; omega) _, by rw [hl]; exact h.blk.other (by dsimp only; omega) _,
    by rw [hl, ← he]; exact (h.own.stored j v).1, hF⟩
theorem HSt.some {w wx : World} {s ca : Nat} {A : Option Addr} {X : List Rc} (h : HSt w wx s A ca X) (hl : 0 < X.length) : ∃ g, A = some ⟨g, 0, none⟩ ∧ w.heap.size + 2 ≤ g ∧ g < wx.heap.size := by
  rcases h.own.2 with ⟨hv, h0⟩ | ⟨g, cap, cur, hv, hb, hh, -⟩
  · omega
  · simp only [Value.slice.injEq] at hv
    exact ⟨g, hv.1, hb, lt_of_block hh⟩
def rowsIn : Value → Nat
  | .slice _ n _ => n
  | _ => 0
theorem lastR_fine {X : List Rc} (h : FineH X) : 0 ≤ (lastR X).t ∧ (lastR X).t ≤ 1000000 := by
  by_cases hl : X.length = 0
  · rw [lastR_nil hl]; exact ⟨by decide, by decide⟩
  · have hm : lastR X ∈ X := by
      unfold lastR
      rw [List.getD_eq_getElem?_getD, List.getElem?_eq_getElem (by omega : X.length - 1 < X.length)]
      exact List.getElem_mem _
    exact (h.each _ hm).2
theorem HSt.kept {w wx w7 : World} {s ca : Nat} {A : Option Addr} {X : List Rc} (h : HSt w wx s A ca X) (hg : wx.grownBy w7 (Value.slice A X.length ca).ownBlock) : ∀ k, k < w.heap.size + 2 → w7.heap[k]? = wx.heap[k]? := fun k hk =>
  hg.block k (by have := h.blk.lt; omega) (fun e => by have := (own_block_ltR h.own e.symm).1; omega)
theorem HSt.grow {w wx w7 : World} {s ca cap3 : Nat} {A A3 : Option Addr} {X Y : List Rc} (h : HSt w wx s A ca X) (hs : s < w.heap.size) (hg : wx.grownBy w7 (Value.slice A X.length ca).ownBlock)
    (ho : w7.ownsRow (w.heap.size + 2) 27 6 (.slice A3 Y.length cap3) Y.length (rcA Y)) (hF : FineH Y) : HSt w (w7.setCell ⟨w.heap.size + 1, 0, none⟩ (.slice A3 Y.length cap3)) s A3 cap3 Y := by
  have hk := h.kept hg
  have hb7 : IsBlk w7 (w.heap.size + 1) 25 [.slice A X.length ca] := (hk _ (by omega)).trans h.blk
  refine ⟨h.src.same fun k hk' => ?_, ?_, ?_, hb7.set (j := 0) _, own_otherR ho (by dsimp only; omega) _, hF⟩
  · rw [Below.heap_setCell _ _ _ _ (by dsimp only; omega)]; exact hk k (by omega)
  · refine Btw.setCell ⟨hg.os.trans h.btw.os, hg.tape.trans h.btw.tape, hg.output.trans h.btw.output, Nat.le_trans h.btw.size hg.size, fun k h1 h2 => (hk k (by omega)).trans (h.btw.block k h1 h2)⟩ (.inr (by dsimp only; omega)) _
  · exact IsBlk.other ((hk _ (by omega)).trans h.out) (by dsimp only; omega) _
theorem rcA_put0 (p : Rc) (L : List Rc) (z : Int) : (rcA (p :: L)).set 2 (.int .i64 z) = rcA (⟨p.k, p.s, z, p.t, p.o, p.d⟩ :: L) := by simp [rcA, recC]
theorem rcA_put1 (p q : Rc) (L : List Rc) (z : Int) : (rcA (p :: q :: L)).set 9 (.int .i64 z) = rcA (p :: ⟨q.k, q.s, q.q, z, q.o, q.d⟩ :: L) := by simp [rcA, recC]
theorem fine_cons {p p' : Rc} {L : List Rc} (h : FineH (p :: L)) (hd : p'.d.size ≤ 17 ∧ 0 ≤ p'.t ∧ p'.t ≤ 1000000) : FineH (p' :: L) :=
  ⟨by have := h.len; simpa using this, fun r hr => by
    rcases List.mem_cons.1 hr with e | hr
    · rw [e]; exact hd
    · exact h.each r (List.mem_cons_of_mem _ hr)⟩
theorem fine_cons2 {p q q' : Rc} {L : List Rc} (h : FineH (p :: q :: L)) (hd : q'.d.size ≤ 17 ∧ 0 ≤ q'.t ∧ q'.t ≤ 1000000) : FineH (p :: q' :: L) :=
  ⟨by have := h.len; simpa using this, fun r hr => by
    rcases List.mem_cons.1 hr with e | hr
    · exact h.each r (by rw [e]; exact List.mem_cons_self ..)
    · rcases List.mem_cons.1 hr with e | hr
      · rw [e]; exact hd
      · exact h.each r (List.mem_cons_of_mem _ (List.mem_cons_of_mem _ hr))⟩

set_option maxHeartbeats 2000000 in
set_option maxRecDepth 100000 in
theorem draw_hist (s : Nat) (w : World) (hS : SrcZ w s) : Calls Try.prog 46 #[.pointer (some ⟨s, 0, none⟩)] w (fun e w' => ∃ (A : Option Addr) (ca : Nat) (X : List Rc), e = .returned (.agg #[.slice A X.length ca]) ∧ Src w' s ∧ Btw s (s + 1) w w' ∧ w'.ownsRow w.heap.size 27 6 (.slice A X.length ca) X.length (rcA X) ∧ FineH X) := by
  have HS := Lib.hid hS.src
  have hsl := hS.src.lt
  obtain ⟨A0, n0, c0, a0, m0, sz, hk, hr, hn, ha, hz0, hz1⟩ := hS
  have s3 : w.cell? ⟨s, 3, none⟩ = some (.int .i64 sz) := hk.cell rfl
  clear hk hr ha hn
  have h0 : HSt w ((w.alloc (.cells #[.slice none 0 0] 25)).alloc (.cells #[.slice none 0 0] 25)) s none 0 [] := by
    have k1 := isBlk_new (w.alloc (.cells #[.slice none 0 0] 25)) 25 [.slice none 0 0]
    rw [size_alloc] at k1
    exact ⟨HS.out.same fun k hk => by rw [Below.heap_alloc _ _ _ (by simp; omega), Below.heap_alloc _ _ _ (by omega)], ((Btw.refl _ _ _).alloc _).alloc _, (isBlk_new w 25 [.slice none 0 0]).alloc _, k1, World.ownsRow_nil _ _ _ _, fine_nil⟩
  have H0 := Lib.hid h0; clear h0
  go_enter Try.func46, Try.ntmps46
  go_wp2_with fail
  refine (draw_n s (12 + sz) _ (by omega) H0.out.src).mono ?_
  rintro e w1 ⟨k0, rfl, hk0, hS1, hb1⟩
  have hk0 := hk0 (by omega)
  have H1 := Lib.hid (H0.out.draw hsl hS1 hb1)
  clear hS1 hb1 H0 s3
  go_wp2_with fail
  go_loopw [4, 5] (fun tv kv wr => ∃ (T k : Nat) (A : Option Addr) (ca : Nat) (X : List Rc), tv = .int .i64 (T : Int) ∧ kv = .int .i64 (k : Int) ∧ T + 2 * k ≤ 46 ∧ hRight X = true ∧ Hid (HSt w wr s A ca X)) (fun _ kv _ => (intOf kv).toNat)
  case atStart => exact ⟨0, k0, none, 0, [], rfl, rfl, by omega, hRight_nil, H1⟩
  case round =>
    clear H1
    obtain ⟨T, k, A, ca, X, rfl, rfl, hTk, hX, H⟩ := hrel
    by_cases hk : 0 < k
    · have hki : 0 < (k : Int) := by omega
      go_wp2_with fail
      refine (draw_n s 3 wr (by omega) H.out.src).mono ?_
      rintro e w2 ⟨d, rfl, hd, hS2, hb2⟩
      have hd := hd (by omega)
      have H2 := Lib.hid (H.out.draw hsl hS2 hb2)
      clear hS2 hb2 H
      have hbx : w2.cell? ⟨w.heap.size + 1, 0, none⟩ = some (.slice A X.length ca) := H2.out.blk.cell rfl
      go_wp2_with fail
      have hlq := lastOf_b (X := X)
      have HSQ : Hid (∀ W, HSt w W s A ca X → Calls Try.prog 24 #[.agg #[.slice A X.length ca]] W fun e w' => e = .returned (.int .i64 (lastOf X).q) ∧ Below W.heap.size W w') := fun W h => spec_lastSeq_any A X.length ca X W h.small h.rd
      have HRC : Hid (∀ W q, HSt w W s A ca X → Calls Try.prog 47 #[.pointer (some ⟨s, 0, none⟩), .int .i64 q, .int .i64 ((T : Int) + (d : Int))] W (RetRec W s)) := fun W q h => draw_rec s q _ W (by omega) (by omega) h.src
      have HHA : Hid (∀ W r, r.d.size ≤ 17 → HSt w W s A ca X → Calls Try.prog 15 #[.agg #[.slice A X.length ca], recV r] W (RetHOw W (addList X r) (addCode X r))) := fun W r hr h => spec_histAddW A X.length ca X r W h.small (by omega) h.rd
      obtain ⟨n, hn⟩ : ∃ n, n = X.length := ⟨_, rfl⟩
      have HN := Lib.hid hn
      rw [← hn] at hbx HSQ HHA
      clear hn
      generalize hlqe : (lastOf X).q = lq at hlq HSQ
      clear hlqe
      have hown : ∀ g, (Value.slice A X.length ca).ownBlock = some g → g < w2.heap.size := fun g hg => (own_block_ltR H2.out.own hg).2
      have HOB := Lib.hid hown
      clear hown
      have z2 : w.heap.size + 2 ≤ w2.heap.size := by have := H2.out.blk.lt; omega
      go_cut [6] (fun v6 wx => ∃ b A' c' Y code r, v6 = .pointer (some ⟨b, 0, none⟩) ∧ Y = addList X r ∧ code = addCode X r ∧ r.d.size ≤ 17 ∧ Hid (YAt w wx s A ca X b A' c' Y code))
      case first =>
        go_region_held3 (fun w' => w'.cell? ⟨w.heap.size + 1, 0, none⟩ = some (.slice A n ca) ∧ Hid (HSt w w' s A ca X))
          (first | exact ks1 | exact ks2 | exact ks3 | exact ks4 | exact ⟨hbx, Lib.hid H2.out.drew⟩ | exact keepA HN.out (by assumption) _ | exact ks5)
          (first
            | (go_at_call 24
               refine (HSQ.out _ (stOf (by assumption))).mono ?_
               rintro e u1 ⟨rfl, hb1⟩
               have ks1 := keepB HN.out (by assumption) hb1
               have P1 := Lib.hid hb1
               have z1 : w2.heap.size ≤ u1.heap.size := by have := hb1.size; first | exact this | (simp at this; omega)
               clear hb1)
            | (go_at_call 49
               refine (draw_n s 2 _ (by omega) (stOf (by assumption)).src).mono ?_
               rintro e u2 ⟨d2, rfl, hd2, hS2, hb2⟩
               have hd2 := hd2 (by omega)
               have ks2 := keepD HN.out hsl (by assumption) hS2 hb2
               have P2 := Lib.hid hb2
               have z12 : u1.heap.size ≤ u2.heap.size := by have := hb2.size; first | exact this | (simp at this; omega)
               clear hS2 hb2)
            | (go_at_call 47
               refine (HRC.out _ _ (stOf (by assumption))).mono ?_
               rintro e u3 ⟨r, rfl, hr17, hS3, hb3⟩
               have ks3 := keepD HN.out hsl (by assumption) hS3 hb3
               have P3 := Lib.hid hb3
               have z23 : u2.heap.size ≤ u3.heap.size := by have := hb3.size; first | exact this | (simp at this; omega)
               clear hS3 hb3)
            | (go_at_call 15
               refine (HHA.out _ r hr17 (stOf (by assumption))).mono ?_
               rintro e u4 ⟨A', c', rfl, ho4, hb4⟩
               have ks4 := keepB HN.out (by assumption) hb4
               first
                 | (have kW : IsBlk u3 w2.heap.size 31 [.slice none 0 0, .int .i64 0] := kD P3 (by omega) (kD P2 (by omega) (kB P1 (isBlk_new w2.drew 31 [.slice none 0 0, .int .i64 0])))
                    have KY := Lib.hid (yat_first (code := addCode X r) (stOf (by assumption)) hsl (by omega) (fun g hg => Nat.lt_of_lt_of_le (HOB.out g hg) (by omega)) kW ho4 hb4)
                    have ks5 := keepY HN.out KY.out
                    obtain ⟨d0, d1, fd0, fd1⟩ := blk2 (kW.below hb4 kW.lt)
                    clear kW)
                 | (have kW : IsBlk u3 u1.heap.size 31 [.slice none 0 0, .int .i64 0] := kD P3 (by omega) (kD P2 (by omega) (isBlk_new u1 31 [.slice none 0 0, .int .i64 0]))
                    have KY := Lib.hid (yat_first (code := addCode X r) (stOf (by assumption)) hsl (by omega) (fun g hg => Nat.lt_of_lt_of_le (HOB.out g hg) (by omega)) kW ho4 hb4)
                    have ks5 := keepY HN.out KY.out
                    obtain ⟨d0, d1, fd0, fd1⟩ := blk2 (kW.below hb4 kW.lt)
                    clear kW)
                 | (have kW : IsBlk u3 u2.heap.size 31 [.slice none 0 0, .int .i64 0] := kD P3 (by omega) (isBlk_new u2 31 [.slice none 0 0, .int .i64 0])
                    have KY := Lib.hid (yat_first (code := addCode X r) (stOf (by assumption)) hsl (by omega) (fun g hg => Nat.lt_of_lt_of_le (HOB.out g hg) (by omega)) kW ho4 hb4)
                    have ks5 := keepY HN.out KY.out
                    obtain ⟨d0, d1, fd0, fd1⟩ := blk2 (kW.below hb4 kW.lt)
                    clear kW)
                 | (have kW : IsBlk (u3.alloc (.cells #[.slice none 0 0, .int .i64 0] 31)) u3.heap.size 31 [.slice none 0 0, .int .i64 0] := isBlk_new u3 31 [.slice none 0 0, .int .i64 0]
                    have KY := Lib.hid (yat_first (code := addCode X r) (stOf (by assumption)) hsl (by omega) (fun g hg => Nat.lt_of_lt_of_le (HOB.out g hg) (by omega)) kW ho4 hb4)
                    have ks5 := keepY HN.out KY.out
                    obtain ⟨d0, d1, fd0, fd1⟩ := blk2 (kW.below hb4 kW.lt)
                    clear kW)
                 | (have KY := Lib.hid (yat_last (code := addCode X r) (stOf (by assumption)) ho4 hb4)
                    have ks5 := keepY HN.out KY.out)
               have HYC : Hid (True) := trivial
               clear hb4 ho4))
        all_goals (go_wp2_with fail; go_meet)
        all_goals exact ⟨_, A', c', _, _, r, rfl, rfl, rfl, hr17, KY⟩
      case rest =>
        obtain ⟨b, A', c', Y, code, r, rfl, rfl, rfl, hr17, KY⟩ := hcut
        clear HSQ HRC HHA H2 hbx HOB z2 hlq HN
        obtain ⟨e0, e1, -, -⟩ := blk2 KY.out.blk
        have f0 : wc.frozen? ⟨w.heap.size + 1, 0, none⟩ = false := KY.out.st.blk.free
        have hb0 : wc.cell? ⟨w.heap.size + 1, 0, none⟩ = some (.slice A X.length ca) := KY.out.st.blk.cell rfl
        have lb := KY.out.blk.lt
        have lh := KY.out.st.blk.lt
        by_cases hc : addCode X r = 0
        · have hY := add_list hc
          have hr := hRight_add hc
          have HK := KY
          rw [hc] at e1
          rw [hY] at e0
          have HT : Hid (HSt w (wc.setCell ⟨w.heap.size + 1, 0, none⟩ (.slice A' (X ++ [r]).length c')) s A' c' (X ++ [r])) := (by
            have h := KY.out
            rw [hY] at h
            exact h.turn hsl (fine_add KY.out.st.fine hr.2.1 hr.2.2.1))
          go_wp2_with fail
          go_roundw
          case rel => exact ⟨T + d, k - 1, A', c', X ++ [r], by go_num, by congr 1; omega, by omega, hr.1, by rw [show X.length + 1 = (X ++ [r]).length by simp]; exact HT⟩
          case measure => simp [intOf]; omega
        · have hci : ((addCode X r) == 0) = false := beq_eq_false_iff_ne.2 hc
          go_wp2_with fail
          go_roundw
          case rel => exact ⟨T + d, k - 1, A, ca, X, by go_num, by congr 1; omega, by omega, hX, KY.out.st⟩
          case measure => simp [intOf]; omega
    · obtain rfl : k = 0 := by omega
      clear hk
      go_upto_region 10 with fail
      go_cut [46] (fun v46 wx => ∃ c : Bool, v46 = .bool c ∧ (c = true → 1 < X.length) ∧ Hid (HSt w wx s A ca X))
      case first =>
        go_wp2_with fail
        refine (draw_one s 15 wr (by omega) H.out.src).mono ?_
        rintro e w3 ⟨b15, rfl, hS3, hb3⟩
        have H3 := Lib.hid (H.out.draw hsl hS3 hb3)
        clear hS3 hb3 H
        have hbx : w3.cell? ⟨w.heap.size + 1, 0, none⟩ = some (.slice A X.length ca) := H3.out.blk.cell rfl
        cases b15
        · go_wp2_with fail
          go_meet
          exact ⟨false, rfl, by simp, H3⟩
        · go_wp2_with fail
          go_meet
          exact ⟨_, rfl, (fun h => by have := of_decide_eq_true h; omega), H3⟩
      case rest =>
        obtain ⟨c, rfl, hc1, H3⟩ := hcut
        clear H
        go_upto_if 46 with fail
        go_cut [] (fun wx => ∃ A ca X, Hid (HSt w wx s A ca X))
        case first =>
          cases c
          · go_wp2_with fail
            go_meet
            exact ⟨A, ca, X, H3⟩
          · have hl1 := hc1 rfl
            clear hc1
            have hl1i : 1 < (X.length : Int) := by omega
            obtain ⟨g, rfl, hg1, hg2⟩ := H3.out.some (by omega)
            go_wp2_with fail
            refine (draw_n s 3 wc (by omega) H3.out.src).mono ?_
            rintro e w4 ⟨q, rfl, hq, hS4, hb4⟩
            have hq := hq (by omega)
            have H4 := Lib.hid (H3.out.draw hsl hS4 hb4)
            have hz4 := hb4.size
            clear hS4 hb4 H3
            have hbx : w4.cell? ⟨w.heap.size + 1, 0, none⟩ = some (.slice (some ⟨g, 0, none⟩) X.length ca) := H4.out.blk.cell rfl
            obtain ⟨p1, p2, L, rfl⟩ : ∃ p1 p2 L, X = p1 :: p2 :: L := by
              match X, hl1 with
              | [], h => simp at h
              | [_], h => simp at h
              | p1 :: p2 :: L, _ => exact ⟨p1, p2, L, rfl⟩
            have hF := H4.out.fine
            obtain ⟨n, hn⟩ : ∃ n, n = (p1 :: p2 :: L).length := ⟨_, rfl⟩
            have HN := Lib.hid hn
            rw [← hn] at hl1 hl1i hbx
            clear hn
            by_cases h0 : q = 0
            · subst h0
              have hp := hF.each p1 (List.mem_cons_self ..)
              have h0n : 0 < n := by omega
              go_wp2_with fail
              go_region_held3 (fun w' => w'.cell? ⟨w.heap.size + 1, 0, none⟩ = some (.slice (some ⟨g, 0, none⟩) n ca)) (first | exact hbx | exact hb5 | exact hb6)
                (first
                  | (go_at_call 55
                     refine (draw_edge s _ H4.out.drew.src).mono ?_
                     rintro e w5 ⟨z, rfl, -, -, hS5, hb5⟩
                     have H5 := Lib.hid (H4.out.drew.draw hsl hS5 hb5)
                     clear hS5 hb5
                     have hb5 : w5.cell? ⟨w.heap.size + 1, 0, none⟩ = some (.slice (some ⟨g, 0, none⟩) n ca) := by rw [HN.out]; exact H5.out.blk.cell rfl
                     have c5 : (w5.cell? ⟨g, 2, none⟩) = some (.int .i64 p1.q) := by rw [H5.out.own.cellAt 2 (by simp; omega)]; rfl
                     have f5 : w5.frozen? ⟨g, 2, none⟩ = false := H5.out.own.frozenAt 2
                     have H6 := Lib.hid (H5.out.put (j := 2) (v := .int .i64 z) hsl hg1 (rcA_put0 p1 (p2 :: L) z) rfl (fine_cons hF hp))
                     have hb6 : (w5.setCell ⟨g, 2, none⟩ (.int .i64 z)).cell? ⟨w.heap.size + 1, 0, none⟩ = some (.slice (some ⟨g, 0, none⟩) n ca) := by rw [HN.out]; exact H6.out.blk.cell rfl))
              all_goals
                go_wp2_with fail
                go_meet
                exact ⟨_, _, _, H6⟩
            by_cases h1 : q = 1
            · subst h1
              have hp := hF.each p2 (List.mem_cons_of_mem _ (List.mem_cons_self ..))
              go_wp2_with fail
              go_region_held3 (fun w' => w'.cell? ⟨w.heap.size + 1, 0, none⟩ = some (.slice (some ⟨g, 0, none⟩) n ca)) (first | exact hbx | exact hb5 | exact hb6)
                (first
                  | (go_at_call 49
                     refine (draw_n s 5 _ (by omega) H4.out.drew.src).mono ?_
                     rintro e w5 ⟨z, rfl, hz, hS5, hb5⟩
                     have hz := hz (by omega)
                     have H5 := Lib.hid (H4.out.drew.draw hsl hS5 hb5)
                     clear hS5 hb5
                     have hb5 : w5.cell? ⟨w.heap.size + 1, 0, none⟩ = some (.slice (some ⟨g, 0, none⟩) n ca) := by rw [HN.out]; exact H5.out.blk.cell rfl
                     have c5 : (w5.cell? ⟨g, 9, none⟩) = some (.int .i64 p2.t) := by rw [H5.out.own.cellAt 9 (by simp; omega)]; rfl
                     have f5 : w5.frozen? ⟨g, 9, none⟩ = false := H5.out.own.frozenAt 9
                     have H6 := Lib.hid (H5.out.put (j := 9) (v := .int .i64 (z : Int)) hsl hg1 (rcA_put1 p1 p2 L z) rfl (fine_cons2 hF ⟨hp.1, by dsimp only; omega, by dsimp only; omega⟩))
                     have hb6 : (w5.setCell ⟨g, 9, none⟩ (.int .i64 (z : Int))).cell? ⟨w.heap.size + 1, 0, none⟩ = some (.slice (some ⟨g, 0, none⟩) n ca) := by rw [HN.out]; exact H6.out.blk.cell rfl))
              all_goals
                go_wp2_with fail
                go_meet
                exact ⟨_, _, _, H6⟩
            have e0 : ((q : Int) == 0) = false := beq_eq_false_iff_ne.2 (by omega)
            have e1 : ((q : Int) == 1) = false := beq_eq_false_iff_ne.2 (by omega)
            have d0 : decide (q = 0) = false := decide_eq_false h0
            have d1 : decide (q = 1) = false := decide_eq_false h1
            clear h0 h1
            have hp := hF.each p1 (List.mem_cons_self ..)
            have h0n : 0 < n := by omega
            obtain ⟨ir, hir, zr0, zr1, zr2⟩ := info_parts info_recL
            have Hir := Lib.hid hir; have Zr0 := Lib.hid zr0; have Zr1 := Lib.hid zr1; have Zr2 := Lib.hid zr2
            clear hir zr0 zr1 zr2
            have h0l : 0 < n * 6 := by omega
            have hcA := fun j (hj : j < n * 6) => H4.out.own.cellAt j (by rw [← HN.out]; exact hj)
            have x0 : w4.cell? ⟨g, 0, none⟩ = some (.int .i64 p1.k) := by rw [hcA 0 (by omega)]; rfl
            have x1 : w4.cell? ⟨g, 1, none⟩ = some (.int .i64 p1.s) := by rw [hcA 1 (by omega)]; rfl
            have x2 : w4.cell? ⟨g, 2, none⟩ = some (.int .i64 p1.q) := by rw [hcA 2 (by omega)]; rfl
            have x3 : w4.cell? ⟨g, 3, none⟩ = some (.int .i64 p1.t) := by rw [hcA 3 (by omega)]; rfl
            have x4 : w4.cell? ⟨g, 4, none⟩ = some (.int .i64 p1.o) := by rw [hcA 4 (by omega)]; rfl
            have x5 : w4.cell? ⟨g, 5, none⟩ = some (.string p1.d) := by rw [hcA 5 (by omega)]; rfl
            have HNL : Hid (n ≤ 49 ∧ hRight (p1 :: p2 :: L) = true) := ⟨by rw [HN.out]; exact hF.len, hX⟩
            have hn49 : n ≤ 48 := by rw [HN.out]; exact hRight_len hX
            clear hcA
            have HA4 := Lib.hid ((H4.out.alloc (.cells (recC p1).toArray 27)).drew)
            have RB : Hid (IsBlk (w4.alloc (.cells (recC p1).toArray 27)).drew w4.heap.size 27 (recC p1)) := isBlk_new w4 27 (recC p1)
            have OWA : Hid ((w4.alloc (.cells (recC p1).toArray 27)).drew.ownsRow (w.heap.size + 2) 27 6 (.slice (some ⟨g, 0, none⟩) n ca) n (rcA (p1 :: p2 :: L))) := by
              show World.ownsRow _ _ _ _ _ _ _
              rw [HN.out]; exact HA4.out.own
            have hzz : w.heap.size + 2 ≤ w4.heap.size := by have := H4.out.blk.lt; omega
            have lhb : w.heap.size + 1 < w4.heap.size := by omega
            have lgb : g < w4.heap.size := by omega
            clear hX hF
            go_wp2_with fail
            go_region_law (
              (refine step_append_lies (w4.alloc (.cells (recC p1).toArray 27)).drew rfl (.tmp 50) (.tmp 55) 23 rfl (w.heap.size + 2) 27 ir _ 6 56 Try.underlying23 Hir.out Zr0.out Zr1.out Zr2.out rfl (by omega) (.slice (some ⟨g, 0, none⟩) n ca) n (rcA (p1 :: p2 :: L)) (by rfl) OWA.out ⟨w4.heap.size, 0, none⟩ 1 1 (recC p1) (by rfl) (by rfl) (fun j u hj => by rw [add_plain]; exact RB.out.cell hj) (recC_one p1) (by omega) (by unfold maxLen; omega) (by omega) (by simp; omega) _ (by rfl) ?_
               intro g3 cap3 w7 hown7 hgrow7 hat7 hlt7
               have HOWN7 : Hid (w7.ownsRow (w.heap.size + 2) 27 6 (.slice (some ⟨g3, 0, none⟩) (p1 :: p2 :: L ++ [p1]).length cap3) (p1 :: p2 :: L ++ [p1]).length (rcA (p1 :: p2 :: L ++ [p1]))) := by
                 show World.ownsRow _ _ _ _ _ _ _
                 rw [rcA_snoc, List.length_append, ← HN.out]; exact hown7
               have hk7 := HA4.out.kept (w7 := w7) hgrow7
               have f7 : w7.frozen? ⟨w.heap.size + 1, 0, none⟩ = false := (World.frozen?_of_block (hk7 _ (by dsimp only; omega))).trans HA4.out.blk.free
               have c7 : w7.cell? ⟨w.heap.size + 1, 0, none⟩ = some (.slice (some ⟨g, 0, none⟩) n ca) := by rw [HN.out]; exact (World.cell?_of_block (hk7 _ (by dsimp only; omega))).trans (HA4.out.blk.cell rfl)
               have H7 := Lib.hid (HA4.out.grow hsl hgrow7 HOWN7.out (fine_snoc HA4.out.fine (by rw [← HN.out]; omega) hp))
               clear hown7 hgrow7 hat7 hlt7 hk7))
            all_goals
              go_wp2_with fail
              go_meet
              exact ⟨_, cap3, _, by rw [show n + 1 = (p1 :: p2 :: L ++ [p1]).length by rw [List.length_append, ← HN.out]; rfl]; exact H7⟩
        case rest =>
          clear H3 hc1 hX hTk
          obtain ⟨A, ca, X, H5⟩ := hcut
          go_wp2_with fail
          refine (draw_one s 25 _ (by omega) H5.out.src).mono ?_
          rintro e w5 ⟨b25, rfl, hS5, hb5⟩
          have H6 := Lib.hid (H5.out.draw hsl hS5 hb5)
          clear hS5 hb5 H5
          go_upto_if 75 with fail
          go_cut [] (fun wx => ∃ A ca X, Hid (HSt w wx s A ca X))
          case first =>
            cases b25
            · go_wp2_with fail
              go_meet
              exact ⟨A, ca, X, H6⟩
            · go_wp2_with fail
              go_loopw [82] (fun _ wr => ∃ A ca X, Hid (HSt w wr s A ca X)) (fun _ wr => 60 - rowsIn ((wr.cell? ⟨w.heap.size + 1, 0, none⟩).getD undef))
              case atStart => exact ⟨A, ca, X, H6⟩
              case round =>
                clear H6
                obtain ⟨A, ca, X, H⟩ := hrel
                obtain ⟨n, hn⟩ : ∃ n, n = X.length := ⟨_, rfl⟩
                have HN := Lib.hid hn
                have hbx : wr.cell? ⟨w.heap.size + 1, 0, none⟩ = some (.slice A n ca) := by rw [hn]; exact H.out.blk.cell rfl
                have hn49 : n ≤ 49 := by rw [hn]; exact H.out.fine.len
                clear hn
                go_wp2_with fail
                go_region_held3 (fun w' => w'.cell? ⟨w.heap.size + 1, 0, none⟩ = some (.slice A n ca)) (first | exact hbx | exact hb6)
                  (first
                    | (go_at_call 49
                       refine (draw_n s 2 _ (by omega) H.out.drew.src).mono ?_
                       rintro e w6 ⟨q, rfl, hq, hS6, hb6⟩
                       have hq := hq (by omega)
                       have H6 := Lib.hid (H.out.drew.draw hsl hS6 hb6)
                       clear hS6 hb6
                       have hb6 : w6.cell? ⟨w.heap.size + 1, 0, none⟩ = some (.slice A n ca) := by rw [HN.out]; exact H6.out.blk.cell rfl
                       have hwq : IntKind.i64.wrap (48 + (q : Int)) = 48 + (q : Int) := IntWalk.i64_in _ (by omega)))
                by_cases hlt : (n : Int) < 48 + (q : Int)
                · obtain ⟨ir, hir, zr0, zr1, zr2⟩ := info_parts info_recL
                  have Hir := Lib.hid hir; have Zr0 := Lib.hid zr0; have Zr1 := Lib.hid zr1; have Zr2 := Lib.hid zr2
                  clear hir zr0 zr1 zr2
                  have hlf := lastR_fine H6.out.fine
                  have hn48 : n ≤ 48 := by omega
                  have HLR : Hid (∀ W, Below w6.heap.size w6 W → Calls Try.prog 48 #[.agg #[.slice A n ca]] W fun e w' => e = .returned (recV (lastR X)) ∧ Below W.heap.size W w') := fun W h => l04Last_any A n ca X W (by omega) (by have h6 := (H6.out.below h).rd; rw [HN.out]; exact h6)
                  generalize lastR X = lr at hlf HLR
                  have hf2 := recField_2; have hf3 := recField_3
                  obtain ⟨rr, hrr⟩ : ∃ rr : Rc, rr = ⟨2, 0, IntKind.i64.wrap (lr.q + 1), lr.t, 0, ⟨#[]⟩⟩ := ⟨_, rfl⟩
                  have HRR := Lib.hid hrr; clear hrr
                  have lhb6 : w.heap.size + 1 < w6.heap.size := H6.out.blk.lt
                  go_wp2_with fail
                  go_region_law (first
                    | (go_simp
                       go_at_call 48
                       first
                         | (refine (HLR.out _ ((Below.refl _ _).drew)).mono ?_
                            rintro e u1 ⟨rfl, hb1⟩
                            have P1 := Lib.hid (((Below.refl w6.heap.size w6).drew).trans hb1)
                            have x1 : u1.cell? ⟨w.heap.size + 1, 0, none⟩ = some (.slice A n ca) := by rw [HN.out]; exact (H6.out.below P1.out).blk.cell rfl
                            clear hb1)
                         | (refine (HLR.out _ P1.out).mono ?_
                            rintro e u2 ⟨rfl, hb2⟩
                            have P2 := Lib.hid (P1.out.trans (hb2.mono P1.out.size))
                            have x2 : u2.cell? ⟨w.heap.size + 1, 0, none⟩ = some (.slice A n ca) := by rw [HN.out]; exact (H6.out.below P2.out).blk.cell rfl
                            have lhb : w.heap.size + 1 < u2.heap.size := by have := P2.out.size; omega
                            have HA4 := Lib.hid ((H6.out.below P2.out).alloc (.cells (recC rr).toArray 27))
                            have RB : Hid (IsBlk (u2.alloc (.cells (recC rr).toArray 27)) u2.heap.size 27 (recC rr)) := isBlk_new u2 27 (recC rr)
                            clear hb2))
                    | (rw [show (Obj.cells #[Value.int .i64 2, .int .i64 0, .int .i64 (IntKind.i64.wrap (lr.q + 1)), .int .i64 lr.t, .int .i64 0, .string ⟨#[]⟩] 27) = .cells (recC rr).toArray 27 by rw [HRR.out]]
                       refine step_append_lies (u2.alloc (.cells (recC rr).toArray 27)) rfl (.tmp 84) (.tmp 93) 23 rfl (w.heap.size + 2) 27 ir _ 6 56 Try.underlying23 Hir.out Zr0.out Zr1.out Zr2.out rfl (by omega) (.slice A n ca) n (rcA X) (by rfl) (by rw [HN.out]; exact HA4.out.own) ⟨u2.heap.size, 0, none⟩ 1 1 (recC rr) (by rfl) (by rfl) (fun j u hj => by rw [add_plain]; exact RB.out.cell hj) (recC_one rr) (by omega) (by unfold maxLen; omega) (by omega) (by simp; omega) _ (by rfl) ?_
                       intro g3 cap3 w7 hown7 hgrow7 hat7 hlt7
                       have HOWN7 : Hid (w7.ownsRow (w.heap.size + 2) 27 6 (.slice (some ⟨g3, 0, none⟩) (X ++ [rr]).length cap3) (X ++ [rr]).length (rcA (X ++ [rr]))) := by
                         show World.ownsRow _ _ _ _ _ _ _
                         rw [rcA_snoc, List.length_append, ← HN.out]; exact hown7
                       have hk7 := HA4.out.kept (w7 := w7) (by rw [← HN.out]; exact hgrow7)
                       have f7 : w7.frozen? ⟨w.heap.size + 1, 0, none⟩ = false := (World.frozen?_of_block (hk7 _ (by dsimp only; omega))).trans HA4.out.blk.free
                       have c7 : w7.cell? ⟨w.heap.size + 1, 0, none⟩ = some (.slice A n ca) := by rw [HN.out]; exact (World.cell?_of_block (hk7 _ (by dsimp only; omega))).trans (HA4.out.blk.cell rfl)
                       have H7 := Lib.hid (HA4.out.grow hsl (by rw [← HN.out]; exact hgrow7) HOWN7.out (fine_snoc HA4.out.fine (by rw [← HN.out]; omega) (by rw [HRR.out]; exact ⟨Nat.zero_le _, hlf⟩)))
                       clear hown7 hgrow7 hat7 hlt7 hk7))
                  all_goals
                    go_wp2_with fail
                    go_roundw
                    case rel => exact ⟨some ⟨g3, 0, none⟩, cap3, X ++ [rr], by rw [show n + 1 = (X ++ [rr]).length by rw [List.length_append, ← HN.out]; rfl]; exact H7⟩
                    case measure =>
                      have hc := H7.out.blk.cell (j := 0) rfl
                      rw [List.length_append, ← HN.out] at hc
                      rw [hbx, show (n + 1) = n + [rr].length from rfl, hc]
                      simp only [Option.getD_some, rowsIn, List.length_cons, List.length_nil]
                      omega
                · go_wp2_with fail
                  go_meet
                  exact ⟨A, ca, X, H6⟩
          case rest =>
            obtain ⟨A, ca, X, H7⟩ := hcut
            clear H6
            have hbx : wc.cell? ⟨w.heap.size + 1, 0, none⟩ = some (.slice A X.length ca) := H7.out.blk.cell rfl
            have fo : wc.frozen? ⟨w.heap.size, 0, none⟩ = false := H7.out.out.free
            have co : wc.cell? ⟨w.heap.size, 0, none⟩ = some (.slice none 0 0) := H7.out.out.cell rfl
            go_wp2
            refine bodyPost_ret (v := .agg #[.slice A X.length ca]) (by simp [results, Try.results46, go_sem, co]) rfl ?_
            exact ⟨A, ca, X, rfl, H7.out.src.same fun k hk => Below.heap_setCell _ _ _ _ (by dsimp only; omega), H7.out.btw.setCell (.inr (Nat.le_refl _)) _, own_monoR (own_otherR H7.out.own (by dsimp only; omega) _) (by omega), H7.out.fine⟩
end Go.Proofs.Ytgkkkldajangeaa
