/-
  OpenBlock, of the program and of the model.
-/
import Derived.Test.YtimlaeicbnnbdaaDoorChecked
import Derived.Test.YtimlaeicbnnbdaaDoorLgPure
namespace Go.Proofs.YtimlaeicbnnbdaaDoor
open Go.RowKit

set_option maxHeartbeats 1000000 in
set_option maxRecDepth 100000 in
theorem isOpen_any (A : Option Addr) (ca : Nat) (a b c d : Pg) (er : Int) (bad : Bool) (w : World) (hA : RdPg w w.heap.size A 4 [a, b, c, d]) :
    Calls Tryd.prog 107 #[.agg #[.slice A 4 ca, .int .i64 er, .bool bad]] w fun e w' => e = .returned (.bool (opnB ⟨[a, b, c, d], er, bad⟩)) ∧ Below w.heap.size w w' := by
  have HA := Lib.hid hA; clear hA
  have HO : Hid (opnB ⟨[a, b, c, d], er, bad⟩ = (!bad && (decide (0 < uPre [a, b, c, d]) && decide (uPre [a, b, c, d] < 4)))) := Lib.hid rfl
  obtain ⟨O, hO⟩ : ∃ O, O = opnB ⟨[a, b, c, d], er, bad⟩ := ⟨_, rfl⟩
  rw [← hO] at HO ⊢
  clear hO
  go_enter Tryd.func107, Tryd.ntmps107
  go_wp2_with fail
  have hb0 := box_below w (.cells #[.slice A 4 ca, .int .i64 er, .bool bad] 73)
  have k0 := isBlk_new w 73 [.slice A 4 ca, .int .i64 er, .bool bad]
  change Calls _ _ _ (w.alloc (.cells #[.slice A 4 ca, .int .i64 er, .bool bad] 73)) _
  generalize w.alloc (.cells #[.slice A 4 ca, .int .i64 er, .bool bad] 73) = W at hb0 k0 ⊢
  refine (pagesOf_any A ca a b c d er bad _ ((HA.out.below hb0).mono hb0.size)).mono ?_
  rintro e w3 ⟨rfl, hb3⟩
  have HB3 := Lib.hid (bel_step hb0 hb3)
  have HK3 := Lib.hid (k0.below hb3 k0.lt)
  clear hb3 hb0 k0
  go_wp2_with fail
  refine (used_any a b c d w3).mono ?_
  rintro e w4 ⟨rfl, hb4⟩
  have HB4 := Lib.hid (bel_step HB3.out hb4)
  obtain ⟨x0, x1, x2, -, -, -⟩ := blk3 (HK3.out.below hb4 HK3.out.lt)
  clear hb4
  obtain ⟨u, hu⟩ : ∃ u, u = uPre [a, b, c, d] := ⟨_, rfl⟩
  rw [← hu] at HO ⊢
  clear hu
  cases bad with
  | true =>
    have HC : Hid (O = false) := by show _ = _; rw [HO.out]; simp
    go_wp2
    go_ret
    exact ⟨ret_b HC.out.symm, HB4.out⟩
  | false =>
    by_cases h0 : 0 < u
    · by_cases h4 : u < 4
      · have HC : Hid (O = true) := by show _ = _; rw [HO.out]; simp [h0, h4]
        have h4' : decide ((u : Int) < 4) = true := by simp; omega
        clear HO
        go_wp2
        go_ret
        exact ⟨ret_b HC.out.symm, HB4.out⟩
      · have HC : Hid (O = false) := by show _ = _; rw [HO.out]; simp [h4]
        have h4' : decide (u < 4) = false := by simpa using h4
        have h4'' : decide ((u : Int) < 4) = false := by simp; omega
        clear HO
        go_wp2
        go_ret
        exact ⟨ret_b HC.out.symm, HB4.out⟩
    · have HC : Hid (O = false) := by show _ = _; rw [HO.out]; simp [h0]
      have h0' : decide (0 < u) = false := by simpa using h0
      have h0'' : decide (0 < (u : Int)) = false := by simp; omega
      clear HO
      go_wp2
      go_ret
      exact ⟨ret_b HC.out.symm, HB4.out⟩

set_option maxHeartbeats 1000000 in
set_option maxRecDepth 100000 in
theorem indexFunc_any (A : Option Addr) (n ca : Nat) (X : List Bk) (w : World) (hX : Small X) (hok : NdOk X) (hA : RdBk w w.heap.size A n X) :
    Calls Tryd.prog 106 #[.slice A n ca, .func (.func 107) #[] #[]] w fun e w' => e = .returned (.int .i64 (openR X)) ∧ Below w.heap.size w w' := by
  have hn : n ≤ 1048576 := by have := hX.1; have := hA.1; omega
  have HL := Lib.hid hA.1
  have HA := Lib.hid hA; have HX := Lib.hid hX; have HOK := Lib.hid hok; clear hA hX hok
  go_enter Tryd.func106, Tryd.ntmps106
  go_wp2
  go_loopw [8] (fun i wr => ∃ k : Nat, k ≤ n ∧ i = .int .i64 (k : Nat) ∧ (∀ j, j < k → opnB (X.getD j zeroBk) = false) ∧ Below w.heap.size w wr) (fun i _ => n - (intOf i).toNat)
  case atStart => exact ⟨0, by omega, rfl, fun j h => absurd h (by omega), Below.refl _ _⟩
  case round =>
    obtain ⟨k, hk, rfl, hno, hbel⟩ := hrel
    have HNO := Lib.hid hno; have HW := Lib.hid hbel
    clear hno
    by_cases hlt : k < n
    · obtain ⟨g, off, pA, pc, rfl, hg, hc0, hc1, hc2, hpg⟩ := (HA.out.below hbel).at hlt
      have hkl : k < X.length := by have := HL.out; omega
      have HPG := Lib.hid (hpg.mono hbel.size)
      have h4 := (HOK.out.2 k hkl).1
      have HY : Hid (opnB (X.getD k zeroBk) = true → openR X = (k : Int)) := Lib.hid (fun h => firstTo_at (f := fun i => opnB (X.getD i zeroBk)) HNO.out h X.length hkl)
      have HN : Hid (opnB (X.getD k zeroBk) = false → ∀ j, j < k + 1 → opnB (X.getD j zeroBk) = false) := fun h j hj => by
        by_cases e : j = k
        · rw [e]; exact h
        · exact HNO.out j (by omega)
      clear hpg hbel
      generalize X.getD k zeroBk = b at hc0 hc1 hc2 HPG h4 HY HN
      obtain ⟨ps, er, bd⟩ := b
      simp only at hc0 hc1 hc2 HPG h4
      obtain ⟨a, b, c, d, rfl⟩ := four_of_length h4
      clear h4
      go_wp2_with fail
      refine (isOpen_any pA pc a b c d er bd wr HPG.out).mono ?_
      rintro e w3 ⟨rfl, hb3⟩
      have HB3 := Lib.hid (bel_step HW.out hb3)
      clear hb3
      cases ho : opnB ⟨[a, b, c, d], er, bd⟩ with
      | true =>
        have HY' := Lib.hid (HY.out ho)
        clear ho HY HN
        go_wp2
        go_ret
        exact ⟨ret_i HY'.out.symm, HB3.out⟩
      | false =>
        have HN' := Lib.hid (HN.out ho)
        clear ho HY HN
        go_wp2
        go_roundw
        case rel => exact ⟨k + 1, by omega, by go_num, HN'.out, HB3.out⟩
        case measure => simp [intOf]; omega
    · clear hbel
      obtain rfl : k = n := by omega
      have HN : Hid (openR X = -1) := by show _ = _; exact firstTo_none (fun i hi => HNO.out i (by rw [← HL.out]; exact hi))
      go_wp2
      go_ret
      exact ⟨ret_i HN.out.symm, HW.out⟩

set_option maxHeartbeats 1000000 in
theorem impl_openBlock (A : Option Addr) (n ca : Nat) (X : List Bk) (w : World) (hX : Small X) (hA : RdBk w w.heap.size A n X) :
    Calls Tryd.prog 89 #[.agg #[.slice A n ca]] w fun e w' => e = .returned (.int .i64 (openAns X)) ∧ Below w.heap.size w w' := by
  have hn : n ≤ 1048576 := by have := hX.1; have := hA.1; omega
  have HA := Lib.hid hA; have HX := Lib.hid hX; clear hA hX
  go_enter Tryd.func89, Tryd.ntmps89
  go_wp2_with fail
  refine (impl_nandRight A n ca X _ HX.out (box_rd HA.out _)).mono ?_
  rintro e w2 ⟨rfl, hb2⟩
  have k2 := (isBlk_new w 30 [.slice A n ca]).below hb2 (by show w.heap.size < (w.alloc _).heap.size; simp)
  have hx2 : w2.cell? ⟨w.heap.size, 0, none⟩ = some (.slice A n ca) := k2.cell rfl
  have HB2 := Lib.hid (bel_step (box_below w _) hb2)
  clear hb2 k2
  by_cases hok : NdOk X
  · rw [ndB_yes hok]
    have HC := Lib.hid (openAns_yes hok); have HOK := Lib.hid hok
    have hr := openR_range X
    have hl := HX.out.1
    clear hok
    go_wp2_with fail
    refine (indexFunc_any A n ca X w2 HX.out HOK.out (rd_step HA.out HB2.out)).mono ?_
    rintro e w3 ⟨rfl, hb3⟩
    have HB3 := Lib.hid (bel_step HB2.out hb3)
    clear hb3
    have h1 : -1 ≤ openR X := by omega
    have h2 : openR X ≤ 1048576 := by omega
    clear hr
    generalize openR X = z at *
    go_wp2
    go_ret
    exact ⟨ret_i HC.out.symm, HB3.out⟩
  · rw [ndB_no hok]
    have HC := Lib.hid (openAns_no hok)
    go_wp2
    go_ret
    exact ⟨ret_i HC.out.symm, HB2.out⟩

set_option maxHeartbeats 1000000 in
theorem l05Open_any (A : Option Addr) (n ca : Nat) (X : List Bk) (w : World) (hX : Small X) (hok : NdOk X) (hA : RdBk w w.heap.size A n X) :
    Calls Tryd.prog 82 #[.agg #[.slice A n ca]] w fun e w' => e = .returned (.int .i64 (openR X)) ∧ Below w.heap.size w w' := by
  have hn : n ≤ 1048576 := by have := hX.1; have := hA.1; omega
  have HL := Lib.hid hA.1
  have HA := Lib.hid hA; have HX := Lib.hid hX; have HOK := Lib.hid hok
  clear hok hA hX
  go_enter Tryd.func82, Tryd.ntmps82
  go_wp2
  generalize hW : w.alloc (.cells #[.slice A n ca] 30) = w1
  have HB1 : Hid (Below w.heap.size w w1) := by rw [← hW]; exact (Below.refl _ _).alloc (Nat.le_refl _) _
  have HK1 : Hid (IsBlk w1 w.heap.size 30 [.slice A n ca]) := by rw [← hW]; exact isBlk_new _ _ _
  clear hW
  go_loopw [3] (fun i wr => ∃ k : Nat, k ≤ n ∧ i = .int .i64 (k : Nat) ∧ (∀ j, j < k → opnB (X.getD j zeroBk) = false) ∧ Below w.heap.size w wr ∧ IsBlk wr w.heap.size 30 [.slice A n ca]) (fun i _ => n - (intOf i).toNat)
  case atStart => exact ⟨0, by omega, rfl, fun j h => absurd h (by omega), HB1.out, HK1.out⟩
  case round =>
    obtain ⟨k, hk, rfl, hno, hbel, hblk⟩ := hrel
    have HNO := Lib.hid hno; have HW := Lib.hid hbel; have HK := Lib.hid hblk
    have hx0 : wr.cell? ⟨w.heap.size, 0, none⟩ = some (.slice A n ca) := hblk.cell rfl
    clear hno
    by_cases hlt : k < n
    · obtain ⟨g, off, pA, pc, rfl, hg, hc0, hc1, hc2, hpg⟩ := (HA.out.below hbel).at hlt
      have hkl : k < X.length := by have := HL.out; omega
      have HPG := Lib.hid (hpg.mono hbel.size)
      have hpl := (HX.out.2 _ (getD_lt (z := zeroBk) hkl)).1
      have HU := Lib.hid (nUsed_ok (HOK.out.2 k hkl))
      have HY : Hid (opnB (X.getD k zeroBk) = true → openR X = (k : Int)) := Lib.hid (fun h => firstTo_at (f := fun i => opnB (X.getD i zeroBk)) HNO.out h X.length hkl)
      have HN : Hid (opnB (X.getD k zeroBk) = false → ∀ j, j < k + 1 → opnB (X.getD j zeroBk) = false) := fun h j hj => by
        by_cases e : j = k
        · rw [e]; exact h
        · exact HNO.out j (by omega)
      clear hpg hbel hblk
      generalize X.getD k zeroBk = b at hc0 hc1 hc2 HPG hpl HU HY HN
      obtain ⟨ps, er, bd⟩ := b
      simp only at hc0 hc1 hc2 HPG hpl HU
      cases bd with
      | true =>
        have HN' := Lib.hid (HN.out (by simp [opnB]))
        clear HN HY
        go_wp2
        go_roundw
        case rel => exact ⟨k + 1, by omega, by go_num, HN'.out, HW.out, HK.out⟩
        case measure => simp [intOf]; omega
      | false =>
        go_wp2_with fail
        refine (l02Used_any _ _ _ ps _ _ wr hpl HPG.out).mono ?_
        rintro e w3 ⟨rfl, hb3⟩
        have HB3 := Lib.hid (bel_step HW.out hb3)
        have HK3 := Lib.hid (HK.out.below hb3 HK.out.lt)
        clear hb3
        rw [HU.out]
        have HO : Hid (opnB ⟨ps, er, false⟩ = (decide (0 < uPre ps) && decide (uPre ps < 4))) := Lib.hid (by simp [opnB])
        generalize uPre ps = u at HO
        go_wp2_with fail
        refine (l02Is_any _ _ _ _).mono ?_
        rintro e w4 ⟨rfl, rfl⟩
        by_cases h1 : 1 ≤ (u : Int) ∧ (u : Int) ≤ 3
        · have HY' := Lib.hid (HY.out (by rw [HO.out]; simp; omega))
          rw [isB_yes h1]
          clear HY HN HO
          go_wp2
          go_ret
          exact ⟨ret_i HY'.out.symm, HB3.out⟩
        · have HN' := Lib.hid (HN.out (by rw [HO.out]; simp; omega))
          rw [isB_no h1]
          clear HY HN HO
          go_wp2
          go_roundw
          case rel => exact ⟨k + 1, by omega, by go_num, HN'.out, HB3.out, HK3.out⟩
          case measure => simp [intOf]; omega
    · clear hbel hblk
      obtain rfl : k = n := by omega
      have HN : Hid (openR X = -1) := by show _ = _; exact firstTo_none (fun i hi => HNO.out i (by rw [← HL.out]; exact hi))
      go_wp2
      go_ret
      exact ⟨ret_i HN.out.symm, HW.out⟩

end Go.Proofs.YtimlaeicbnnbdaaDoor
