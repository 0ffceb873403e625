/-
  The least and the greatest Erases, and GapOf of both. No condition.
-/
import Derived.Test.YtfpibbhcecdbgaaProg
import Derived.KernelRfl
import Derived.Test.YtfpibbhcecdbgaaNdUse
namespace Go.Proofs.Ytfpibbhcecdbgaa
open Go.RowKit

/-- the least Erases among the first blocks that are not bad: the program's -/
def wrLo (X : List Bk) : Nat → Int
  | 0 => 1000000
  | k + 1 => if (X.getD k zeroBk).bad = true then wrLo X k else if (X.getD k zeroBk).erases < wrLo X k then (X.getD k zeroBk).erases else wrLo X k
/-- the greatest -/
def wrHi (X : List Bk) : Nat → Int
  | 0 => 0
  | k + 1 => if (X.getD k zeroBk).bad = true then wrHi X k else if wrHi X k < (X.getD k zeroBk).erases then (X.getD k zeroBk).erases else wrHi X k
/-- the least: the model's -/
def wrL2 (X : List Bk) : Nat → Int
  | 0 => -1
  | k + 1 => if (X.getD k zeroBk).bad = true then wrL2 X k else if wrL2 X k < 0 ∨ (X.getD k zeroBk).erases < wrL2 X k then (X.getD k zeroBk).erases else wrL2 X k
theorem wr_inv {X : List Bk} (h : ∀ i, i < X.length → 0 ≤ (X.getD i zeroBk).erases ∧ (X.getD i zeroBk).erases ≤ 1000000) : ∀ k, k ≤ X.length → (wrL2 X k = -1 ∧ wrLo X k = 1000000 ∧ wrHi X k = 0) ∨ (0 ≤ wrL2 X k ∧ wrLo X k = wrL2 X k ∧ wrL2 X k ≤ wrHi X k ∧ wrHi X k ≤ 1000000)
  | 0, _ => .inl ⟨rfl, rfl, rfl⟩
  | k + 1, hk => by
    have ih := wr_inv h k (by omega)
    obtain ⟨e0, e1⟩ := h k (by omega)
    simp only [wrL2, wrLo, wrHi]
    generalize X.getD k zeroBk = b at *
    cases b.bad with
    | true => simpa using ih
    | false =>
      simp only [Bool.false_eq_true, if_false]
      right
      rcases ih with ⟨a, b', c⟩ | ⟨a, b', c, d⟩
      · rw [a, b', c, if_pos (by omega)]
        by_cases g : b.erases < 1000000
        · rw [if_pos g]
          by_cases g2 : 0 < b.erases
          · rw [if_pos g2]; omega
          · rw [if_neg g2]; omega
        · rw [if_neg g, if_pos (by omega)]; omega
      · rw [b']
        by_cases g : b.erases < wrL2 X k
        · rw [if_pos (.inr g), if_pos g]
          by_cases g2 : wrHi X k < b.erases
          · rw [if_pos g2]; omega
          · rw [if_neg g2]; omega
        · rw [if_neg (by omega), if_neg g]
          by_cases g2 : wrHi X k < b.erases
          · rw [if_pos g2]; omega
          · rw [if_neg g2]; omega
/-- the greatest minus the least -/
def wrGap (X : List Bk) : Int := wrHi X X.length - (if 0 ≤ wrL2 X X.length then wrL2 X X.length else 0)
theorem nd_er {X : List Bk} (h : NdOk X) : ∀ i, i < X.length → 0 ≤ (X.getD i zeroBk).erases ∧ (X.getD i zeroBk).erases ≤ 1000000 := fun i hi => by
  have := (h.2 i hi).2.1
  omega
theorem wr_impl {X : List Bk} (h : NdOk X) : (if 0 < wrHi X X.length - wrLo X X.length then wrHi X X.length - wrLo X X.length else 0) = wrGap X := by
  unfold wrGap
  rcases wr_inv (nd_er h) X.length (Nat.le_refl _) with ⟨a, b, c⟩ | ⟨a, b, c, d⟩
  · rw [a, b, c]; rfl
  · rw [b, if_pos a]
    by_cases g : 0 < wrHi X X.length - wrL2 X X.length
    · rw [if_pos g]
    · rw [if_neg g]; omega

set_option maxHeartbeats 2000000 in
set_option maxRecDepth 100000 in
theorem erasesRange_any (A : Option Addr) (n ca : Nat) (X : List Bk) (w : World) (hok : NdOk X) (hA : RdBk w w.heap.size A n X) :
    Calls Try.prog 33 #[.agg #[.slice A n ca]] w fun e w' => e = .returned (.tuple #[.int .i64 (wrLo X X.length), .int .i64 (wrHi X X.length)]) ∧ Below w.heap.size w w' := by
  have hl := hA.1
  have hn12 : n ≤ 12 := by rw [← hl]; exact hok.1.2
  have HER := Lib.hid (nd_er hok)
  have HIN := Lib.hid (wr_inv (nd_er hok))
  have HA := Lib.hid hA
  have HL := Lib.hid hl
  have hb0 := box_below w (.cells #[.slice A n ca] 29)
  have k0 := isBlk_new w 29 [.slice A n ca]
  change IsBlk (w.alloc (.cells #[.slice A n ca] 29)) _ _ _ at k0
  have x0 : (w.alloc (.cells #[.slice A n ca] 29)).cell? ⟨w.heap.size, 0, none⟩ = some (.slice A n ca) := k0.cell rfl
  clear hA hok hl
  go_enter Try.func33, Try.ntmps33
  go_wp2
  generalize w.alloc (.cells #[.slice A n ca] 29) = W at hb0 k0 x0 ⊢
  have HB0 := Lib.hid hb0
  clear hb0 k0
  go_loopw [4, 5, 10] (fun l g i wr => ∃ k : Nat, k ≤ n ∧ i = .int .i64 (k : Nat) ∧ l = .int .i64 (wrLo X k) ∧ g = .int .i64 (wrHi X k) ∧ wr = W) (fun _ _ i _ => n - (intOf i).toNat)
  case atStart => exact ⟨0, by omega, rfl, rfl, rfl, rfl⟩
  case round =>
    obtain ⟨k, hk, rfl, rfl, rfl, rfl⟩ := hrel
    by_cases hlt : k < n
    · obtain ⟨g, off, pA, pc, hA', hg, hc0, hc1, hc2, -⟩ := (rd_step HA.out HB0.out).at hlt
      subst hA'
      have hkl : k < X.length := by have := HL.out; omega
      have her := HER.out k hkl
      have hin := HIN.out k (by omega)
      have HLO : Hid (wrLo X (k + 1) = if (X.getD k zeroBk).bad = true then wrLo X k else if (X.getD k zeroBk).erases < wrLo X k then (X.getD k zeroBk).erases else wrLo X k) := rfl
      have HHI : Hid (wrHi X (k + 1) = if (X.getD k zeroBk).bad = true then wrHi X k else if wrHi X k < (X.getD k zeroBk).erases then (X.getD k zeroBk).erases else wrHi X k) := rfl
      generalize X.getD k zeroBk = b at *
      generalize wrLo X k = lo at *
      generalize wrHi X k = hi at *
      obtain ⟨bp, er, bad⟩ := b
      simp only at *
      cases bad with
      | true =>
        go_wp2
        go_roundw
        case rel => exact ⟨k + 1, by omega, by go_num, by first | (rw [HLO.out]; done) | (rw [HLO.out]; rfl), by first | (rw [HHI.out]; done) | (rw [HHI.out]; rfl), by first | rfl | trivial⟩
        case measure => simp [intOf]; omega
      | false =>
        simp only [Bool.false_eq_true, if_false] at HLO HHI
        go_wp2
        go_roundw
        case rel => exact ⟨k + 1, by omega, by go_num, by first | (rw [HLO.out]; done) | (rw [HLO.out]; congr 1; split <;> omega), by first | (rw [HHI.out]; done) | (rw [HHI.out]; congr 1; split <;> omega), by first | rfl | trivial⟩
        case measure => simp [intOf]; omega
    · obtain rfl : k = n := by omega
      go_wp2
      refine bodyPost_ret (v := .tuple #[.int .i64 (wrLo X k), .int .i64 (wrHi X k)]) (by simp [results, Try.results33, go_sem]) rfl ?_
      exact ⟨by rw [HL.out], HB0.out⟩

set_option maxHeartbeats 1000000 in
set_option maxRecDepth 100000 in
theorem erasesGap_any (A : Option Addr) (n ca : Nat) (X : List Bk) (w : World) (hok : NdOk X) (hA : RdBk w w.heap.size A n X) :
    Calls Try.prog 22 #[.agg #[.slice A n ca]] w fun e w' => e = .returned (.int .i64 (wrGap X)) ∧ Below w.heap.size w w' := by
  have HWI := Lib.hid (wr_impl hok)
  have hin := wr_inv (nd_er hok) X.length (Nat.le_refl _)
  have hw : IntKind.i64.wrap (wrHi X X.length - wrLo X X.length) = wrHi X X.length - wrLo X X.length := IntWalk.i64_in _ (by rcases hin with ⟨-, b, c⟩ | ⟨a, b, c, d⟩ <;> omega)
  have HE := Lib.hid (erasesRange_any A n ca X)
  have HOK := Lib.hid hok
  have HA := Lib.hid hA
  clear hok hA hin
  go_enter Try.func22, Try.ntmps22
  go_wp2_with fail
  refine (HE.out _ HOK.out (rd_step HA.out (box_below w (.cells #[.slice A n ca] 29)))).mono ?_
  rintro e w1 ⟨rfl, hb1⟩
  have HB1 := Lib.hid (bel_step (box_below w (.cells #[.slice A n ca] 29)) hb1)
  clear hb1
  generalize wrLo X X.length = lo at *
  generalize wrHi X X.length = hi at *
  go_wp2
  all_goals
    go_ret
    refine ⟨?_, HB1.out⟩
    rw [← HWI.out]
    exact ret_i (by split <;> omega)

/-- the greatest, from none on: the model's -/
def wrH2 (X : List Bk) : Nat → Int
  | 0 => -1
  | k + 1 => if (X.getD k zeroBk).bad = true then wrH2 X k else if wrH2 X k ≤ (X.getD k zeroBk).erases then (X.getD k zeroBk).erases else wrH2 X k
theorem wr_two {X : List Bk} (h : ∀ i, i < X.length → 0 ≤ (X.getD i zeroBk).erases ∧ (X.getD i zeroBk).erases ≤ 1000000) : ∀ k, k ≤ X.length → (wrL2 X k = -1 ∧ wrH2 X k = -1 ∧ wrHi X k = 0 ∧ ∀ i, i < k → (X.getD i zeroBk).bad = true) ∨ (0 ≤ wrL2 X k ∧ wrL2 X k ≤ wrH2 X k ∧ wrH2 X k = wrHi X k ∧ wrH2 X k ≤ 1000000)
  | 0, _ => .inl ⟨rfl, rfl, rfl, fun i hi => absurd hi (by omega)⟩
  | k + 1, hk => by
    have ih := wr_two h k (by omega)
    obtain ⟨e0, e1⟩ := h k (by omega)
    simp only [wrL2, wrH2, wrHi]
    cases hb : (X.getD k zeroBk).bad with
    | true =>
      simp only [if_true]
      rcases ih with ⟨a, b, c, d⟩ | ih
      · refine .inl ⟨a, b, c, fun i hi => ?_⟩
        by_cases e : i = k
        · subst e; exact hb
        · exact d i (by omega)
      · exact .inr ih
    | false =>
      simp only [Bool.false_eq_true, if_false]
      right
      generalize (X.getD k zeroBk).erases = x at *
      rcases ih with ⟨a, b, c, d⟩ | ⟨a, b, c, d⟩
      · rw [a, b, c, if_pos (by omega), if_pos (by omega)]
        refine ⟨e0, by omega, ?_, e1⟩
        split <;> omega
      · rw [c] at b d ⊢
        refine ⟨?_, ?_, ?_, ?_⟩
        · split <;> omega
        · split <;> split <;> omega
        · split <;> split <;> omega
        · split <;> omega
theorem wr_spec {X : List Bk} (h : NdOk X) : wrH2 X X.length - wrL2 X X.length = wrGap X := by
  unfold wrGap
  rcases wr_two (nd_er h) X.length (Nat.le_refl _) with ⟨a, b, c, -⟩ | ⟨a, b, c, d⟩
  · rw [a, b, c]; rfl
  · rw [c, if_pos a]
open Classical in
/-- what GapOf answers -/
noncomputable def gapAns (X : List Bk) : Int := if NdOk X then wrGap X else 0
theorem gapAns_yes {X : List Bk} (h : NdOk X) : gapAns X = wrGap X := if_pos h
theorem gapAns_no {X : List Bk} (h : ¬ NdOk X) : gapAns X = 0 := if_neg h

set_option maxHeartbeats 1000000 in
theorem impl_gapOf (A : Option Addr) (n ca : Nat) (X : List Bk) (w : World) (hX : Small X) (hA : RdBk w w.heap.size A n X) :
    Calls Try.prog 11 #[.agg #[.slice A n ca]] w fun e w' => e = .returned (.int .i64 (gapAns X)) ∧ Below w.heap.size w w' := by
  have HA := Lib.hid hA; have HX := Lib.hid hX; clear hA hX
  go_enter Try.func11, Try.ntmps11
  go_wp2_with fail
  refine (impl_nandRight A n ca X _ HX.out (rd_step HA.out (box_below w (.cells #[.slice A n ca] 29)))).mono ?_
  rintro e w2 ⟨rfl, hb2⟩
  have HB2 := Lib.hid (bel_step (box_below w (.cells #[.slice A n ca] 29)) hb2)
  have k2 := (isBlk_new w 29 [.slice A n ca]).below hb2 (by show w.heap.size < (w.alloc _).heap.size; simp)
  have hx2 : w2.cell? ⟨w.heap.size, 0, none⟩ = some (.slice A n ca) := k2.cell rfl
  clear hb2 k2
  by_cases hok : NdOk X
  · rw [ndB_yes hok]
    have HC := Lib.hid (gapAns_yes hok); have HOK := Lib.hid hok
    clear hok
    go_wp2_with fail
    refine (erasesGap_any A n ca X w2 HOK.out (rd_step HA.out HB2.out)).mono ?_
    rintro e w3 ⟨rfl, hb3⟩
    have HB3 := Lib.hid (bel_step HB2.out hb3)
    clear hb3
    go_wp2
    go_ret
    exact ⟨ret_i HC.out.symm, HB3.out⟩
  · rw [ndB_no hok]
    have HC := Lib.hid (gapAns_no hok)
    clear hok
    go_wp2
    go_ret
    exact ⟨ret_i HC.out.symm, HB2.out⟩

theorem l01MaxE (a b : Int) (w : World) : Calls Try.prog 32 #[.int .i64 a, .int .i64 b] w fun e w' => e = .returned (.int .i64 (if a ≤ b then b else a)) ∧ w = w' := by
  by_cases h : a ≤ b
  · rw [if_pos h]
    have h' : b ≥ a := h
    go_enter Try.func32, Try.ntmps32
    go_wp2
    go_ret
    exact ⟨rfl, by first | rfl | trivial⟩
  · rw [if_neg h]
    have h' : b < a := by omega
    go_enter Try.func32, Try.ntmps32
    go_wp2
    go_ret
    exact ⟨rfl, by first | rfl | trivial⟩

set_option maxHeartbeats 2000000 in
set_option maxRecDepth 100000 in
theorem l11Ends_any (A : Option Addr) (n ca : Nat) (X : List Bk) (w : World) (hok : NdOk X) (hA : RdBk w w.heap.size A n X) :
    Calls Try.prog 21 #[.agg #[.slice A n ca]] w fun e w' => e = .returned (.tuple #[.int .i64 (wrL2 X X.length), .int .i64 (wrH2 X X.length)]) ∧ Below w.heap.size w w' := by
  have HL := Lib.hid hA.1
  have HA := Lib.hid hA
  have hn12 : n ≤ 12 := by rw [← HL.out]; exact hok.1.2
  have HER := Lib.hid (nd_er hok)
  have HIN := Lib.hid (wr_two (nd_er hok))
  have hb0 := box_below w (.cells #[.slice A n ca] 29)
  have k0 := isBlk_new w 29 [.slice A n ca]
  change IsBlk (w.alloc (.cells #[.slice A n ca] 29)) _ _ _ at k0
  clear hA hok
  go_enter Try.func21, Try.ntmps21
  go_wp2_with fail
  generalize w.alloc (.cells #[.slice A n ca] 29) = W at *
  have HB := Lib.hid hb0; have HK := Lib.hid k0
  clear hb0 k0
  go_loopw [4, 5, 6] (fun l g i wr => ∃ k : Nat, k ≤ n ∧ i = .int .i64 (k : Nat) ∧ l = .int .i64 (wrL2 X k) ∧ g = .int .i64 (wrH2 X k) ∧ Hid (Below W.heap.size W wr)) (fun _ _ i _ => n - (intOf i).toNat)
  case atStart => exact ⟨0, by omega, rfl, rfl, rfl, Below.refl _ _⟩
  case round =>
    obtain ⟨k, hk, rfl, rfl, rfl, hbr⟩ := hrel
    have HBR := Lib.hid (bel_step HB.out hbr.out)
    have y0 : wr.cell? ⟨w.heap.size, 0, none⟩ = some (.slice A n ca) := (HK.out.below hbr.out HK.out.lt).cell rfl
    by_cases hlt : k < n
    · obtain ⟨g, off, pA, pc, hA', hg, hc0, hc1, hc2, -⟩ := (rd_step HA.out HBR.out).at hlt
      subst hA'
      have hkl : k < X.length := by have := HL.out; omega
      have her := HER.out k hkl
      have hin := HIN.out k (by omega)
      have HLO : Hid (wrL2 X (k + 1) = if (X.getD k zeroBk).bad = true then wrL2 X k else if wrL2 X k < 0 ∨ (X.getD k zeroBk).erases < wrL2 X k then (X.getD k zeroBk).erases else wrL2 X k) := rfl
      have HHI : Hid (wrH2 X (k + 1) = if (X.getD k zeroBk).bad = true then wrH2 X k else if wrH2 X k ≤ (X.getD k zeroBk).erases then (X.getD k zeroBk).erases else wrH2 X k) := rfl
      generalize X.getD k zeroBk = b at *
      have hinr : wrL2 X k = -1 ∨ 0 ≤ wrL2 X k := by rcases hin with ⟨a, -⟩ | ⟨a, -⟩ <;> omega
      clear hin
      generalize wrL2 X k = lo at *
      generalize wrH2 X k = hi at *
      obtain ⟨bp, er, bad⟩ := b
      simp only at *
      cases bad with
      | true =>
        go_wp2_with fail
        go_roundw
        case rel => exact ⟨k + 1, by omega, by go_num, by first | (rw [HLO.out]; done) | (rw [HLO.out]; rfl), by first | (rw [HHI.out]; done) | (rw [HHI.out]; rfl), Lib.hid (bel_step hbr.out (box_below _ _))⟩
        case measure => simp [intOf]; omega
      | false =>
        simp only [Bool.false_eq_true, if_false] at HLO HHI
        go_wp2_with (refine (l01MaxE _ _ _).mono ?_; rintro e w1 ⟨rfl, rfl⟩)
        all_goals
          go_roundw
          case rel => exact ⟨k + 1, by omega, by go_num, by first | (rw [HLO.out]; done) | (rw [HLO.out]; congr 1; split <;> omega), by rw [HHI.out], Lib.hid (bel_step hbr.out (box_below _ _))⟩
          case measure => simp [intOf]; omega
    · obtain rfl : k = n := by omega
      go_wp2
      refine bodyPost_ret (v := .tuple #[.int .i64 (wrL2 X k), .int .i64 (wrH2 X k)]) (by simp [results, Try.results21, go_sem]) rfl ?_
      exact ⟨by rw [HL.out], HBR.out⟩

set_option maxHeartbeats 1000000 in
theorem spec_gapOf (A : Option Addr) (n ca : Nat) (X : List Bk) (w : World) (hX : Small X) (hA : RdBk w w.heap.size A n X) :
    Calls Try.prog 10 #[.agg #[.slice A n ca]] w fun e w' => e = .returned (.int .i64 (gapAns X)) ∧ Below w.heap.size w w' := by
  have HA := Lib.hid hA; have HX := Lib.hid hX; clear hA hX
  go_enter Try.func10, Try.ntmps10
  go_wp2_with fail
  refine (spec_nandRight A n ca X _ HX.out (rd_step HA.out (box_below w (.cells #[.slice A n ca] 29)))).mono ?_
  rintro e w2 ⟨rfl, hb2⟩
  have HB2 := Lib.hid (bel_step (box_below w (.cells #[.slice A n ca] 29)) hb2)
  have k2 := (isBlk_new w 29 [.slice A n ca]).below hb2 (by show w.heap.size < (w.alloc _).heap.size; simp)
  have hx2 : w2.cell? ⟨w.heap.size, 0, none⟩ = some (.slice A n ca) := k2.cell rfl
  clear hb2 k2
  by_cases hok : NdOk X
  · rw [ndB_yes hok]
    have HC := Lib.hid ((gapAns_yes hok).trans (wr_spec hok).symm); have HOK := Lib.hid hok
    have hin := wr_two (nd_er hok) X.length (Nat.le_refl _)
    have hw : IntKind.i64.wrap (wrH2 X X.length - wrL2 X X.length) = wrH2 X X.length - wrL2 X X.length := IntWalk.i64_in _ (by rcases hin with ⟨a, b, -⟩ | ⟨a, b, c, d⟩ <;> omega)
    clear hok hin
    go_wp2_with fail
    refine (l11Ends_any A n ca X w2 HOK.out (rd_step HA.out HB2.out)).mono ?_
    rintro e w3 ⟨rfl, hb3⟩
    have HB3 := Lib.hid (bel_step HB2.out hb3)
    clear hb3
    generalize wrL2 X X.length = lo at *
    generalize wrH2 X X.length = hi at *
    go_wp2
    go_ret
    exact ⟨ret_i HC.out.symm, HB3.out⟩
  · rw [ndB_no hok]
    have HC := Lib.hid (gapAns_no hok)
    clear hok
    go_wp2
    go_ret
    exact ⟨ret_i HC.out.symm, HB2.out⟩
end Go.Proofs.Ytfpibbhcecdbgaa
