/-
  FreeBlocks, of the program and of the model.
-/
import Derived.Test.YtimlaeicbnnbdaaDoorChecked
import Derived.Test.YtimlaeicbnnbdaaDoorNdUse
namespace Go.Proofs.YtimlaeicbnnbdaaDoor
open Go.RowKit

set_option maxHeartbeats 1000000 in
set_option maxRecDepth 100000 in
theorem isFree_any (A : Option Addr) (ca : Nat) (a b c d : Pg) (er : Int) (bad : Bool) (w : World) (hA : RdPg w w.heap.size A 4 [a, b, c, d]) :
    Calls Tryd.prog 108 #[.agg #[.slice A 4 ca, .int .i64 er, .bool bad]] w fun e w' => e = .returned (.bool (decide (bad = false ∧ uPre [a, b, c, d] = 0))) ∧ Below w.heap.size w w' := by
  have HA := Lib.hid hA; clear hA
  cases bad with
  | true =>
    have HC : Hid (decide (true = false ∧ uPre [a, b, c, d] = 0) = false) := by show _ = _; simp
    go_enter Tryd.func108, Tryd.ntmps108
    go_wp2
    go_ret
    exact ⟨ret_b HC.out.symm, box_below _ _⟩
  | false =>
    go_enter Tryd.func108, Tryd.ntmps108
    go_wp2_with fail
    refine (pagesOf_any A ca a b c d er false _ ((HA.out.below (box_below _ _)).mono (box_below _ _).size)).mono ?_
    rintro e w3 ⟨rfl, hb3⟩
    have HB3 := Lib.hid (bel_step (box_below w _) hb3)
    clear hb3
    go_wp2_with fail
    refine (used_any a b c d w3).mono ?_
    rintro e w4 ⟨rfl, hb4⟩
    have HB4 := Lib.hid (bel_step HB3.out hb4)
    clear hb4
    obtain ⟨u, hu⟩ : ∃ u, u = uPre [a, b, c, d] := ⟨_, rfl⟩
    rw [← hu]
    have HU := Lib.hid hu; clear hu
    by_cases h0 : u = 0
    · subst h0
      have HC : Hid (decide (false = false ∧ uPre [a, b, c, d] = 0) = true) := by show _ = _; simp [← HU.out]
      go_wp2
      go_ret
      exact ⟨ret_b HC.out.symm, HB4.out⟩
    · have HC : Hid (decide (false = false ∧ uPre [a, b, c, d] = 0) = false) := by show _ = _; simp [← HU.out, h0]
      have h0' : ((u : Int) == 0) = false := by simp; omega
      have h0'' : (u == 0) = false := by simpa using h0
      go_wp2
      go_ret
      exact ⟨ret_b HC.out.symm, HB4.out⟩

theorem sumTo_le {f : Nat → Nat} (h : ∀ i, f i ≤ 1) (k : Nat) : sumTo f k ≤ k := by
  induction k with
  | zero => exact Nat.le_refl _
  | succ k ih => have := h k; simp only [sumTo]; omega
theorem freeAns_no {X : List Bk} (h : ¬ NdOk X) : freeAns X = 0 := by unfold freeAns; rw [if_neg h]
theorem freeAns_yes {X : List Bk} (h : NdOk X) : freeAns X = ((nFree X : Nat) : Int) := by unfold freeAns; rw [if_pos h]
def freeOne (b : Bk) : Nat := if b.bad = false ∧ uPre b.pages = 0 then 1 else 0
theorem freeOne_le (b : Bk) : freeOne b ≤ 1 := by unfold freeOne; split <;> omega
theorem nFree_def (X : List Bk) : nFree X = sumTo (fun i => freeOne (X.getD i zeroBk)) X.length := rfl

set_option maxHeartbeats 1000000 in
theorem impl_freeBlocks (A : Option Addr) (n ca : Nat) (X : List Bk) (w : World) (hX : Small X) (hA : RdBk w w.heap.size A n X) :
    Calls Tryd.prog 90 #[.agg #[.slice A n ca]] w fun e w' => e = .returned (.int .i64 (freeAns X)) ∧ Below w.heap.size w w' := by
  have hn : n ≤ 1048576 := by have := hX.1; have := hA.1; omega
  have HL := Lib.hid hA.1
  have HA := Lib.hid hA; have HX := Lib.hid hX; clear hA hX
  go_enter Tryd.func90, Tryd.ntmps90
  go_wp2_with fail
  refine (impl_nandRight A n ca X _ HX.out (box_rd HA.out _)).mono ?_
  rintro e w2 ⟨rfl, hb2⟩
  have k2 := (isBlk_new w 30 [.slice A n ca]).below hb2 (by show w.heap.size < (w.alloc _).heap.size; simp)
  have hx2 : w2.cell? ⟨w.heap.size, 0, none⟩ = some (.slice A n ca) := k2.cell rfl
  have HK2 := Lib.hid k2
  have HB2 := Lib.hid (bel_step (box_below w _) hb2)
  clear hb2 k2
  by_cases hok : NdOk X
  · rw [ndB_yes hok]
    have HOK := Lib.hid hok
    obtain ⟨f, hf⟩ : ∃ f : Nat → Nat, f = fun i => freeOne (X.getD i zeroBk) := ⟨_, rfl⟩
    have HS : Hid (freeAns X = ((sumTo f n : Nat) : Int)) := by show freeAns X = _; rw [freeAns_yes hok, nFree_def, HL.out, hf]
    have HLE : Hid (∀ k, sumTo f k ≤ k) := fun k => sumTo_le (fun i => by rw [hf]; exact freeOne_le _) k
    have HF := Lib.hid hf; clear hf hok
    go_wp2
    go_loopw [3, 11] (fun m i wr => ∃ k : Nat, k ≤ n ∧ i = .int .i64 (k : Nat) ∧ m = .int .i64 ((sumTo f k : Nat) : Int) ∧ Below w.heap.size w wr ∧ IsBlk wr w.heap.size 30 [.slice A n ca]) (fun _ i _ => n - (intOf i).toNat)
    case atStart => exact ⟨0, by omega, rfl, rfl, HB2.out, HK2.out⟩
    case round =>
      obtain ⟨k, hk, rfl, rfl, hbel, hblk⟩ := hrel
      have HW := Lib.hid hbel; have HK := Lib.hid hblk
      have hx0 : wr.cell? ⟨w.heap.size, 0, none⟩ = some (.slice A n ca) := hblk.cell rfl
      by_cases hlt : k < n
      · obtain ⟨g, off, pA, pc, rfl, hg, hc0, hc1, hc2, hpg⟩ := (HA.out.below hbel).at hlt
        have hkl : k < X.length := by have := HL.out; omega
        have HPG := Lib.hid (hpg.mono hbel.size)
        have h4 := (HOK.out.2 k hkl).1
        have hfk : f k = freeOne (X.getD k zeroBk) := by rw [HF.out]
        have HST : Hid (sumTo f (k + 1) = sumTo f k + freeOne (X.getD k zeroBk)) := by show _ = _; rw [sumTo, hfk]
        have hle := HLE.out k
        clear hpg hfk hbel hblk
        generalize X.getD k zeroBk = b at hc0 hc1 hc2 HPG h4 HST
        generalize sumTo f k = s at hle HST
        obtain ⟨ps, er, bd⟩ := b
        simp only at hc0 hc1 hc2 HPG h4
        obtain ⟨a, b, c, d, rfl⟩ := four_of_length h4
        clear h4
        go_wp2_with fail
        refine (isFree_any pA pc a b c d er bd wr HPG.out).mono ?_
        rintro e w3 ⟨rfl, hb3⟩
        have HB3 := Lib.hid (bel_step HW.out hb3)
        have HK3 := Lib.hid (HK.out.below hb3 HK.out.lt)
        clear hb3
        by_cases hfr : bd = false ∧ uPre [a, b, c, d] = 0
        · have HST2 : Hid (sumTo f (k + 1) = s + 1) := by show _ = _; rw [HST.out, freeOne, if_pos hfr]
          rw [decide_eq_true hfr]
          clear HST hfr
          go_wp2
          go_roundw
          case rel => exact ⟨k + 1, by omega, by go_num, by rw [HST2.out]; go_num, HB3.out, HK3.out⟩
          case measure => simp [intOf]; omega
        · have HST2 : Hid (sumTo f (k + 1) = s) := by show _ = _; rw [HST.out, freeOne, if_neg hfr]; rfl
          rw [decide_eq_false hfr]
          clear HST hfr
          go_wp2
          go_roundw
          case rel => exact ⟨k + 1, by omega, by go_num, by rw [HST2.out], HB3.out, HK3.out⟩
          case measure => simp [intOf]; omega
      · clear hbel hblk
        obtain rfl : k = n := by omega
        go_wp2
        go_ret
        exact ⟨ret_i HS.out.symm, HW.out⟩
  · rw [ndB_no hok]
    have HC := Lib.hid (freeAns_no hok)
    go_wp2
    go_ret
    exact ⟨ret_i HC.out.symm, HB2.out⟩

set_option maxHeartbeats 1000000 in
theorem l02Free_any (A : Option Addr) (n ca : Nat) (X : List Bk) (w : World) (hX : Small X) (hok : NdOk X) (hA : RdBk w w.heap.size A n X) :
    Calls Tryd.prog 83 #[.agg #[.slice A n ca]] w fun e w' => e = .returned (.int .i64 ((nFree X : Nat) : Int)) ∧ Below w.heap.size w w' := by
  have hn : n ≤ 1048576 := by have := hX.1; have := hA.1; omega
  have HL := Lib.hid hA.1
  have HA := Lib.hid hA; have HX := Lib.hid hX; have HOK := Lib.hid hok
  obtain ⟨f, hf⟩ : ∃ f : Nat → Nat, f = fun i => freeOne (X.getD i zeroBk) := ⟨_, rfl⟩
  have HS : Hid (nFree X = sumTo f n) := by show nFree X = _; rw [nFree_def, HL.out, hf]
  have HLE : Hid (∀ k, sumTo f k ≤ k) := fun k => sumTo_le (fun i => by rw [hf]; exact freeOne_le _) k
  have HF := Lib.hid hf; clear hf hok hA hX
  rw [HS.out]
  go_enter Tryd.func83, Tryd.ntmps83
  go_wp2
  generalize hW : w.alloc (.cells #[.slice A n ca] 30) = w1
  have HB1 : Hid (Below w.heap.size w w1) := by rw [← hW]; exact (Below.refl _ _).alloc (Nat.le_refl _) _
  have HK1 : Hid (IsBlk w1 w.heap.size 30 [.slice A n ca]) := by rw [← hW]; exact isBlk_new _ _ _
  clear hW
  go_loopw [3, 4] (fun m i wr => ∃ k : Nat, k ≤ n ∧ i = .int .i64 (k : Nat) ∧ m = .int .i64 ((sumTo f k : Nat) : Int) ∧ Below w.heap.size w wr ∧ IsBlk wr w.heap.size 30 [.slice A n ca]) (fun _ i _ => n - (intOf i).toNat)
  case atStart => exact ⟨0, by omega, rfl, rfl, HB1.out, HK1.out⟩
  case round =>
    obtain ⟨k, hk, rfl, rfl, hbel, hblk⟩ := hrel
    have HW := Lib.hid hbel; have HK := Lib.hid hblk
    have hx0 : wr.cell? ⟨w.heap.size, 0, none⟩ = some (.slice A n ca) := hblk.cell rfl
    by_cases hlt : k < n
    · obtain ⟨g, off, pA, pc, rfl, hg, hc0, hc1, hc2, hpg⟩ := (HA.out.below hbel).at hlt
      have hkl : k < X.length := by have := HL.out; omega
      have HPG := Lib.hid (hpg.mono hbel.size)
      have hpl := (HX.out.2 _ (getD_lt (z := zeroBk) hkl)).1
      have HU := Lib.hid (nUsed_ok (HOK.out.2 k hkl))
      have hfk : f k = freeOne (X.getD k zeroBk) := by rw [HF.out]
      have HST : Hid (sumTo f (k + 1) = sumTo f k + freeOne (X.getD k zeroBk)) := by show _ = _; rw [sumTo, hfk]
      have hle := HLE.out k
      clear hpg hfk hbel hblk
      generalize X.getD k zeroBk = b at hc0 hc1 hc2 HPG hpl HST HU
      generalize sumTo f k = s at hle HST
      obtain ⟨ps, er, bd⟩ := b
      simp only at hc0 hc1 hc2 HPG hpl HU
      cases bd with
      | true =>
        have HST2 : Hid (sumTo f (k + 1) = s) := by show _ = _; rw [HST.out, freeOne, if_neg (by simp)]; rfl
        clear HST
        go_wp2
        go_roundw
        case rel => exact ⟨k + 1, by omega, by go_num, by rw [HST2.out], HW.out, HK.out⟩
        case measure => simp [intOf]; omega
      | false =>
        go_wp2_with fail
        refine (l02Used_any _ _ _ ps _ _ wr hpl HPG.out).mono ?_
        rintro e w3 ⟨rfl, hb3⟩
        have HB3 := Lib.hid (bel_step HW.out hb3)
        have HK3 := Lib.hid (HK.out.below hb3 HK.out.lt)
        clear hb3
        rw [HU.out]
        by_cases hfr : uPre ps = 0
        · have HST2 : Hid (sumTo f (k + 1) = s + 1) := by show _ = _; rw [HST.out, freeOne, if_pos ⟨rfl, hfr⟩]
          rw [hfr]
          clear HST hfr
          go_wp2
          go_roundw
          case rel => exact ⟨k + 1, by omega, by go_num, by rw [HST2.out]; go_num, HB3.out, HK3.out⟩
          case measure => simp [intOf]; omega
        · have HST2 : Hid (sumTo f (k + 1) = s) := by show _ = _; rw [HST.out, freeOne, if_neg (fun h => hfr h.2)]; rfl
          generalize uPre ps = u at hfr
          have h0' : ((u : Int) == 0) = false := by simp; omega
          have h0'' : (u == 0) = false := by simpa using hfr
          clear HST
          go_wp2
          go_roundw
          case rel => exact ⟨k + 1, by omega, by go_num, by rw [HST2.out], HB3.out, HK3.out⟩
          case measure => simp [intOf]; omega
    · clear hbel hblk
      obtain rfl : k = n := by omega
      go_wp2
      go_ret
      exact ⟨rfl, HW.out⟩

end Go.Proofs.YtimlaeicbnnbdaaDoor
