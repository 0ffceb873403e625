/-
  AsOf, of the program and of the document's model.
-/
import Derived.Test.YtloaeglmngcenaaGreatDoorProg
import Derived.KernelRfl
import Derived.Test.YtloaeglmngcenaaGreatDoorHsAsOf
import Derived.Test.YtloaeglmngcenaaGreatDoorHsTrailS
import Derived.Test.YtloaeglmngcenaaGreatDoorHsFloor
namespace Go.Proofs.YtloaeglmngcenaaGreatDoor
open Go.RowKit
open Bt (Rc)

theorem asOf_no {X : List Rc} {s a : Int} (h : ¬ (hRight X = true ∧ (0 ≤ s ∧ s ≤ 5) ∧ (0 ≤ a ∧ a ≤ 1000000))) : asOf X s a = ⟨false, ⟨#[]⟩, 1⟩ := by unfold asOf; rw [if_neg h]
theorem asOf_past {X : List Rc} {s a : Int} (h : hRight X = true ∧ (0 ≤ s ∧ s ≤ 5) ∧ (0 ≤ a ∧ a ≤ 1000000)) (hp : a < floorR X) : asOf X s a = ⟨false, ⟨#[]⟩, 12⟩ := by unfold asOf; rw [if_pos h, if_pos hp]
theorem asOf_yes {X : List Rc} {s a : Int} (h : hRight X = true ∧ (0 ≤ s ∧ s ≤ 5) ∧ (0 ≤ a ∧ a ≤ 1000000)) (hp : ¬ a < floorR X) : asOf X s a = valX X s X.length a := by unfold asOf; rw [if_pos h, if_neg hp]

set_option maxHeartbeats 4000000 in
set_option maxRecDepth 100000 in
theorem impl_asOf (A : Option Addr) (n ca : Nat) (X : List Rc) (s a : Int) (w : World) (hS : SmallR X) (hca : n ≤ ca) (hA : RdRc w w.heap.size A n X) :
    Calls Tryz.prog 185 #[.agg #[.slice A n ca], .int .i64 s, .int .i64 a] w fun e w' => e = .returned (voV (asOf X s a)) ∧ Below w.heap.size w w' := by
  have HL := Lib.hid hA.1
  have HA := Lib.hid hA; have HS := Lib.hid hS; clear hA hS
  go_enter Tryz.func185, Tryz.ntmps185
  go_wp2_with fail
  have hb0 : Below w.heap.size w ((w.alloc (.cells #[.slice A n ca] 29)).alloc (.cells #[.bool false, .string ⟨#[]⟩, .int .i64 0] 68)) := ((Below.refl _ _).alloc (Nat.le_refl _) _).alloc (by simp) _
  have k0 := (isBlk_new w 29 [.slice A n ca]).alloc (.cells #[.bool false, .string ⟨#[]⟩, .int .i64 0] 68)
  have k1 := isBlk_new (w.alloc (.cells #[.slice A n ca] 29)) 68 [.bool false, .string ⟨#[]⟩, .int .i64 0]
  rw [size_alloc] at k1
  change IsBlk ((w.alloc (.cells #[.slice A n ca] 29)).alloc (.cells #[.bool false, .string ⟨#[]⟩, .int .i64 0] 68)) _ _ _ at k0
  change IsBlk ((w.alloc (.cells #[.slice A n ca] 29)).alloc (.cells #[.bool false, .string ⟨#[]⟩, .int .i64 0] 68)) _ _ _ at k1
  generalize (w.alloc (.cells #[.slice A n ca] 29)).alloc (.cells #[.bool false, .string ⟨#[]⟩, .int .i64 0] 68) = W at hb0 k0 k1 ⊢
  refine (impl_histRight_any A n ca X W HS.out (HA.out.next hb0)).mono ?_
  rintro e w1 ⟨rfl, hb1⟩
  have HB1 := Lib.hid (hb0.trans (hb1.mono hb0.size))
  have HK0 := Lib.hid (k0.below hb1 k0.lt)
  have HK1 := Lib.hid (k1.below hb1 k1.lt)
  have hx : w1.cell? ⟨w.heap.size, 0, none⟩ = some (.slice A n ca) := HK0.out.cell rfl
  obtain ⟨d0, d1, d2, fd0, fd1, fd2⟩ := blk3 HK1.out
  clear hb0 hb1 k0 k1
  have HEND : Hid (∀ v : Vo, Below w.heap.size w (((w1.setCell ⟨w.heap.size + 1, 0, none⟩ (.bool v.there)).setCell ⟨w.heap.size + 1, 1, none⟩ (.string v.data)).setCell ⟨w.heap.size + 1, 2, none⟩ (.int .i64 v.code))) := fun v => ((HB1.out.setCell (by simp) _).setCell (by simp) _).setCell (by simp) _
  by_cases hr : hRight X = true
  case neg =>
    have HN := Lib.hid (asOf_no (X := X) (s := s) (a := a) (fun h => hr h.1))
    have hr : hRight X = false := by simpa using hr
    rw [hr]
    clear hr
    go_wp2
    exact bodyPost_ret (v := voV ⟨false, ⟨#[]⟩, 1⟩) (by simp [results, Tryz.results185, go_sem, d0, d1, d2]) rfl ⟨by rw [HN.out], HEND.out ⟨false, ⟨#[]⟩, 1⟩⟩
  rw [hr]
  go_wp2_with fail
  refine (isSector_any s w1).mono ?_
  rintro e w2 ⟨rfl, rfl⟩
  by_cases hs : 0 ≤ s ∧ s ≤ 5
  case neg =>
    have HN := Lib.hid (asOf_no (X := X) (s := s) (a := a) (fun h => hs h.2.1))
    rw [rcIs_no hs]
    clear hr hs
    go_wp2
    exact bodyPost_ret (v := voV ⟨false, ⟨#[]⟩, 1⟩) (by simp [results, Tryz.results185, go_sem, d0, d1, d2]) rfl ⟨by rw [HN.out], HEND.out ⟨false, ⟨#[]⟩, 1⟩⟩
  rw [rcIs_yes hs]
  go_wp2_with fail
  refine (isTime_any a w1).mono ?_
  rintro e w2 ⟨rfl, rfl⟩
  by_cases ha : 0 ≤ a ∧ a ≤ 1000000
  case neg =>
    have HN := Lib.hid (asOf_no (X := X) (s := s) (a := a) (fun h => ha h.2.2))
    rw [rcIs_no ha]
    clear hr hs ha
    go_wp2
    exact bodyPost_ret (v := voV ⟨false, ⟨#[]⟩, 1⟩) (by simp [results, Tryz.results185, go_sem, d0, d1, d2]) rfl ⟨by rw [HN.out], HEND.out ⟨false, ⟨#[]⟩, 1⟩⟩
  rw [rcIs_yes ha]
  have HP := Lib.hid (fun hp => asOf_past (X := X) (s := s) (a := a) ⟨hr, hs, ha⟩ hp)
  have HY := Lib.hid (fun hp => asOf_yes (X := X) (s := s) (a := a) ⟨hr, hs, ha⟩ hp)
  have HFL : Hid (floorOf X = floorR X) := by show _ = _; unfold floorOf; rw [if_pos hr]
  clear hr hs ha
  go_wp2_with fail
  refine (impl_floorOf_any A n ca X w1 HS.out (HA.out.next HB1.out)).mono ?_
  rintro e w2 ⟨rfl, hb2⟩
  rw [HFL.out]
  have HB2 := Lib.hid (HB1.out.trans (hb2.mono HB1.out.size))
  have HK02 := Lib.hid (HK0.out.below hb2 HK0.out.lt)
  have HK12 := Lib.hid (HK1.out.below hb2 HK1.out.lt)
  have hx2 : w2.cell? ⟨w.heap.size, 0, none⟩ = some (.slice A n ca) := HK02.out.cell rfl
  clear d0 d1 d2 fd0 fd1 fd2 hx hb2
  by_cases hp : a < floorR X
  · have HP := Lib.hid (HP.out hp)
    clear HY
    obtain ⟨d0, d1, d2, fd0, fd1, fd2⟩ := blk3 HK12.out
    go_wp2
    exact bodyPost_ret (v := voV ⟨false, ⟨#[]⟩, 12⟩) (by simp [results, Tryz.results185, go_sem, d0, d1, d2]) rfl ⟨by rw [HP.out], ((HB2.out.setCell (by simp) _).setCell (by simp) _).setCell (by simp) _⟩
  · have HY := Lib.hid (HY.out (by omega))
    have hp' : floorR X ≤ a := by omega
    clear HP hp
    go_wp2_with fail
    refine (valueAt_any A n ca X s a w2 HS.out hca (HA.out.next HB2.out)).mono ?_
    rintro e w3 ⟨rfl, hb3⟩
    have HB3 := Lib.hid (HB2.out.trans (hb3.mono HB2.out.size))
    have HK13 := Lib.hid (HK12.out.below hb3 HK12.out.lt)
    obtain ⟨d0, d1, d2, fd0, fd1, fd2⟩ := blk3 HK13.out
    rw [HL.out] at HY
    generalize valX X s n a = v at HY ⊢
    clear hb3 hx2
    go_wp2
    exact bodyPost_ret (v := voV v) (by simp [results, Tryz.results185, go_sem, d0, d1, d2]) rfl ⟨by rw [HY.out], ((HB3.out.setCell (by simp) _).setCell (by simp) _).setCell (by simp) _⟩

theorem endR_trl {X : List Rc} {s a : Int} {n : Nat} (h : (trl X s n a).length = 0) : endR (trlR X s n a) = Rc.zero := by
  unfold trlR; rw [List.eq_nil_of_length_eq_zero h]; rfl
theorem endR_at {X : List Rc} {P : List Nat} (h : 0 < P.length) : endR (P.map fun i => X.getD i Rc.zero) = X.getD (P.getD (P.length - 1) 0) Rc.zero := by
  unfold endR
  rw [List.getLastD_eq_getLast?, List.getLast?_eq_getElem?, List.length_map, List.getElem?_map]
  rw [List.getD_eq_getElem?_getD (l := P), List.getElem?_eq_getElem (show P.length - 1 < P.length by omega)]
  rfl

set_option maxHeartbeats 4000000 in
set_option maxRecDepth 100000 in
theorem l04AsOf_any (A : Option Addr) (n ca : Nat) (X : List Rc) (s a : Int) (w : World) (hn : n ≤ 1048576) (hV : ∀ i, i < n → 1 ≤ (X.getD i Rc.zero).k) (hA : RdRc w w.heap.size A n X) :
    Calls Tryz.prog 187 #[.agg #[.slice A n ca], .int .i64 s, .int .i64 a] w fun e w' => e = .returned (voV (valX X s n a)) ∧ Below w.heap.size w w' := by
  have HA := Lib.hid hA; have HV := Lib.hid hV; clear hA hV
  go_enter Tryz.func187, Tryz.ntmps187
  go_wp2_with fail
  have hb0 : Below w.heap.size w ((w.alloc (.cells #[.slice A n ca] 29)).alloc (.cells #[.bool false, .string ⟨#[]⟩, .int .i64 0] 68)) := ((Below.refl _ _).alloc (Nat.le_refl _) _).alloc (by simp) _
  have k0 := (isBlk_new w 29 [.slice A n ca]).alloc (.cells #[.bool false, .string ⟨#[]⟩, .int .i64 0] 68)
  have k1 := isBlk_new (w.alloc (.cells #[.slice A n ca] 29)) 68 [.bool false, .string ⟨#[]⟩, .int .i64 0]
  rw [size_alloc] at k1
  change IsBlk ((w.alloc (.cells #[.slice A n ca] 29)).alloc (.cells #[.bool false, .string ⟨#[]⟩, .int .i64 0] 68)) _ _ _ at k0
  change IsBlk ((w.alloc (.cells #[.slice A n ca] 29)).alloc (.cells #[.bool false, .string ⟨#[]⟩, .int .i64 0] 68)) _ _ _ at k1
  generalize (w.alloc (.cells #[.slice A n ca] 29)).alloc (.cells #[.bool false, .string ⟨#[]⟩, .int .i64 0] 68) = W at hb0 k0 k1 ⊢
  refine (l04Trail_any A n ca X s a W hn HV.out (HA.out.next hb0)).mono ?_
  rintro e w1 ⟨Al, cl, rfl, ho1, hb1⟩
  have HB1 := Lib.hid (hb0.trans (hb1.mono hb0.size))
  have HK0 := Lib.hid (k0.below hb1 k0.lt)
  have HK1 := Lib.hid (k1.below hb1 k1.lt)
  have hx : w1.cell? ⟨w.heap.size, 0, none⟩ = some (.slice A n ca) := HK0.out.cell rfl
  obtain ⟨d0, d1, d2, fd0, fd1, fd2⟩ := blk3 HK1.out
  have HRD1 := Lib.hid (HA.out.next HB1.out)
  have HVX : Hid (valX X s n a = valR (endR ((trl X s n a).map fun i => X.getD i Rc.zero))) := Lib.hid rfl
  have HPL0 := trl_lt X s n a
  have hPn := trl_len X s n a
  rw [plcs_len] at ho1 ⊢
  have HO1 := Lib.hid ho1
  obtain ⟨P, hP⟩ : ∃ P, P = trl X s n a := ⟨_, rfl⟩
  rw [← hP] at HPL0 hPn HVX HO1 ⊢
  have HPL := Lib.hid HPL0
  clear hb0 hb1 k0 k1 ho1 HPL0 hP
  by_cases h0 : P.length = 0
  · have hP0 : P = [] := List.eq_nil_of_length_eq_zero h0
    subst hP0
    have HV0 : Hid (valX X s n a = ⟨false, ⟨#[]⟩, 0⟩) := by show _ = _; rw [HVX.out]; rfl
    clear h0
    have hl0 : (([] : List Nat).length) = 0 := rfl
    rw [hl0]
    clear hl0
    go_wp2
    have hx' := cell_regrown hx
    refine wp_region_quiet_below (by kernel_rfl) (by kernel_rfl) ?_
    repeat (go_big_quiet_step (fail))
    refine wpQuiet_nil ?_
    intro w2 hw'
    have hb2 : Below w1.heap.size w1 w2 := by obtain ⟨⟨dq, osq⟩, rfl⟩ := hw'; exact below_regrown w1 dq osq
    clear hw' hx' hx d0 d1 d2 fd0 fd1 fd2
    have HB2 := Lib.hid (HB1.out.trans (hb2.mono HB1.out.size))
    obtain ⟨d0, d1, d2, fd0, fd1, fd2⟩ := blk3 (HK1.out.below hb2 HK1.out.lt)
    clear hb2
    go_wp2
    exact bodyPost_ret (v := voV ⟨false, ⟨#[]⟩, 0⟩) (by simp [results, Tryz.results187, go_sem, d0, d1, d2]) rfl ⟨by rw [HV0.out], ((HB2.out.setCell (by simp) _).setCell (by simp) _).setCell (by simp) _⟩
  · have hp : 0 < P.length := by omega
    obtain ⟨gl, rfl, hgl1, hgl2, hrl⟩ := HO1.out.2 hp
    have hcl := hrl.cell (i := P.length - 1) (by omega)
    rw [show nmF (plcs P) (P.length - 1) = .int .i64 ((P.getD (P.length - 1) 0 : Nat) : Int) by
      unfold nmF plcs; simp [List.getD_eq_getElem?_getD, List.getElem?_eq_getElem (show P.length - 1 < P.length by omega)]] at hcl
    have hpn : P.getD (P.length - 1) 0 < n := HPL.out _ (getD_lt (by omega))
    rw [endR_at hp] at HVX
    generalize P.getD (P.length - 1) 0 = pk at *
    obtain ⟨g, off, rfl, hg, hc0, hc1, hc2, hc3, hc4, hc5⟩ := HRD1.out.at hpn
    generalize X.getD pk Rc.zero = r at *
    have hl0 : ((P.length : Int) == 0) = false := beq_eq_false_iff_ne.2 (by omega)
    have hl1 : decide (P.length = 0) = false := decide_eq_false h0
    obtain ⟨m, hm⟩ : ∃ m, P.length = m + 1 := ⟨P.length - 1, by omega⟩
    rw [hm] at hcl hl0 hl1 ⊢
    simp only [Nat.add_sub_cancel] at hcl
    have hml : m ≤ 1048576 := by omega
    have hl2 : ((m : Int) + 1 == 0) = false := beq_eq_false_iff_ne.2 (by omega)
    clear hm h0 hp HO1 HPL hrl
    have hi0 : (0 : Int) ≤ (m : Int) := by omega
    have hi2 : (0 : Int) ≤ (pk : Int) := by omega
    have hi3 : (pk : Int) < (n : Int) := by omega
    have hx' := cell_regrown hx
    have hcl' := cell_regrown hcl
    have hc0' := cell_regrown hc0
    have hc5' := cell_regrown hc5
    by_cases h1 : r.k = 1
    · have h1' : (r.k == 1) = true := by simpa using h1
      have h1'' : (r.k != 1) = false := by simpa using h1
      have HVR : Hid (valX X s n a = ⟨true, r.d, 0⟩) := by show _ = _; rw [HVX.out]; unfold valR; rw [if_pos h1]
      clear h1
      go_wp2
      refine wp_region_quiet_below (by kernel_rfl) (by kernel_rfl) ?_
      repeat (go_big_quiet_step (fail))
      refine wpQuiet_nil ?_
      intro w2 hw'
      have hb2 : Below w1.heap.size w1 w2 := by obtain ⟨⟨dq, osq⟩, rfl⟩ := hw'; exact below_regrown w1 dq osq
      clear hw' hx' hcl' hc0' hc5' d0 d1 d2 fd0 fd1 fd2
      have HB2 := Lib.hid (HB1.out.trans (hb2.mono HB1.out.size))
      obtain ⟨d0, d1, d2, fd0, fd1, fd2⟩ := blk3 (HK1.out.below hb2 HK1.out.lt)
      have e0 : w2.cell? ⟨w.heap.size, 0, none⟩ = some _ := (HK0.out.below hb2 HK0.out.lt).cell rfl
      have e1 := (hb2.cell (p := ⟨gl, m, none⟩) hgl2).trans hcl
      have e2 := (hb2.cell (p := ⟨g, off + pk * 6 + 5, none⟩) hg).trans hc5
      clear hb2 hx hcl hc0 hc1 hc2 hc3 hc4 hc5
      go_wp2
      go_region
      all_goals
        go_wp2
        refine bodyPost_ret (v := voV ⟨true, r.d, 0⟩) (by simp [results, Tryz.results187, go_sem, d0, d1, d2]) rfl ⟨by rw [HVR.out], ?_⟩
        exact (((HB2.out.drew).setCell (by simp) _).setCell (by simp) _).setCell (by simp) _
    · have h1' : (r.k == 1) = false := by simpa using h1
      have h1'' : (r.k != 1) = true := by simpa using h1
      have HVR : Hid (valX X s n a = ⟨false, ⟨#[]⟩, 0⟩) := by show _ = _; rw [HVX.out]; unfold valR; rw [if_neg h1]
      clear h1
      go_wp2
      refine wp_region_quiet_below (by kernel_rfl) (by kernel_rfl) ?_
      repeat (go_big_quiet_step (fail))
      refine wpQuiet_nil ?_
      intro w2 hw'
      have hb2 : Below w1.heap.size w1 w2 := by obtain ⟨⟨dq, osq⟩, rfl⟩ := hw'; exact below_regrown w1 dq osq
      clear hw' hx' hcl' hc0' hc5' d0 d1 d2 fd0 fd1 fd2
      have HB2 := Lib.hid (HB1.out.trans (hb2.mono HB1.out.size))
      obtain ⟨d0, d1, d2, fd0, fd1, fd2⟩ := blk3 (HK1.out.below hb2 HK1.out.lt)
      clear hb2 hx hcl hc0 hc1 hc2 hc3 hc4 hc5
      go_wp2
      exact bodyPost_ret (v := voV ⟨false, ⟨#[]⟩, 0⟩) (by simp [results, Tryz.results187, go_sem, d0, d1, d2]) rfl ⟨by rw [HVR.out], ((HB2.out.setCell (by simp) _).setCell (by simp) _).setCell (by simp) _⟩

set_option maxHeartbeats 4000000 in
set_option maxRecDepth 100000 in
theorem spec_asOf (A : Option Addr) (n ca : Nat) (X : List Rc) (s a : Int) (w : World) (hS : SmallR X) (hA : RdRc w w.heap.size A n X) :
    Calls Tryz.prog 119 #[.agg #[.slice A n ca], .int .i64 s, .int .i64 a] w fun e w' => e = .returned (voV (asOf X s a)) ∧ Below w.heap.size w w' := by
  have hn : n ≤ 1048576 := by rw [← hA.1]; exact hS.1
  have HL := Lib.hid hA.1
  have HA := Lib.hid hA; have HS := Lib.hid hS; clear hA hS
  go_enter Tryz.func119, Tryz.ntmps119
  go_wp2_with fail
  have hb0 : Below w.heap.size w ((w.alloc (.cells #[.slice A n ca] 29)).alloc (.cells #[.bool false, .string ⟨#[]⟩, .int .i64 0] 68)) := ((Below.refl _ _).alloc (Nat.le_refl _) _).alloc (by simp) _
  have k0 := (isBlk_new w 29 [.slice A n ca]).alloc (.cells #[.bool false, .string ⟨#[]⟩, .int .i64 0] 68)
  have k1 := isBlk_new (w.alloc (.cells #[.slice A n ca] 29)) 68 [.bool false, .string ⟨#[]⟩, .int .i64 0]
  rw [size_alloc] at k1
  change IsBlk ((w.alloc (.cells #[.slice A n ca] 29)).alloc (.cells #[.bool false, .string ⟨#[]⟩, .int .i64 0] 68)) _ _ _ at k0
  change IsBlk ((w.alloc (.cells #[.slice A n ca] 29)).alloc (.cells #[.bool false, .string ⟨#[]⟩, .int .i64 0] 68)) _ _ _ at k1
  generalize (w.alloc (.cells #[.slice A n ca] 29)).alloc (.cells #[.bool false, .string ⟨#[]⟩, .int .i64 0] 68) = W at hb0 k0 k1 ⊢
  refine (spec_histRight_any A n ca X W HS.out (HA.out.next hb0)).mono ?_
  rintro e w1 ⟨rfl, hb1⟩
  have HB1 := Lib.hid (hb0.trans (hb1.mono hb0.size))
  have HK0 := Lib.hid (k0.below hb1 k0.lt)
  have HK1 := Lib.hid (k1.below hb1 k1.lt)
  have hx : w1.cell? ⟨w.heap.size, 0, none⟩ = some (.slice A n ca) := HK0.out.cell rfl
  obtain ⟨d0, d1, d2, fd0, fd1, fd2⟩ := blk3 HK1.out
  clear hb0 hb1 k0 k1
  have HEND : Hid (∀ v : Vo, Below w.heap.size w (((w1.setCell ⟨w.heap.size + 1, 0, none⟩ (.bool v.there)).setCell ⟨w.heap.size + 1, 1, none⟩ (.string v.data)).setCell ⟨w.heap.size + 1, 2, none⟩ (.int .i64 v.code))) := fun v => ((HB1.out.setCell (by simp) _).setCell (by simp) _).setCell (by simp) _
  by_cases hr : hRight X = true
  case neg =>
    have HN := Lib.hid (asOf_no (X := X) (s := s) (a := a) (fun h => hr h.1))
    have hr : hRight X = false := by simpa using hr
    rw [hr]
    clear hr
    go_wp2
    exact bodyPost_ret (v := voV ⟨false, ⟨#[]⟩, 1⟩) (by simp [results, Tryz.results119, go_sem, d0, d1, d2]) rfl ⟨by rw [HN.out], HEND.out ⟨false, ⟨#[]⟩, 1⟩⟩
  rw [hr]
  go_wp2_with fail
  refine (l04Sector_any s w1).mono ?_
  rintro e w2 ⟨rfl, rfl⟩
  by_cases hs : 0 ≤ s ∧ s ≤ 5
  case neg =>
    have HN := Lib.hid (asOf_no (X := X) (s := s) (a := a) (fun h => hs h.2.1))
    rw [rcIs_no hs]
    clear hr hs
    go_wp2
    exact bodyPost_ret (v := voV ⟨false, ⟨#[]⟩, 1⟩) (by simp [results, Tryz.results119, go_sem, d0, d1, d2]) rfl ⟨by rw [HN.out], HEND.out ⟨false, ⟨#[]⟩, 1⟩⟩
  rw [rcIs_yes hs]
  go_wp2_with fail
  refine (rcTime_any a w1).mono ?_
  rintro e w2 ⟨rfl, rfl⟩
  by_cases ha : 0 ≤ a ∧ a ≤ 1000000
  case neg =>
    have HN := Lib.hid (asOf_no (X := X) (s := s) (a := a) (fun h => ha h.2.2))
    rw [rcIs_no ha]
    clear hr hs ha
    go_wp2
    exact bodyPost_ret (v := voV ⟨false, ⟨#[]⟩, 1⟩) (by simp [results, Tryz.results119, go_sem, d0, d1, d2]) rfl ⟨by rw [HN.out], HEND.out ⟨false, ⟨#[]⟩, 1⟩⟩
  rw [rcIs_yes ha]
  have HP := Lib.hid (fun hp => asOf_past (X := X) (s := s) (a := a) ⟨hr, hs, ha⟩ hp)
  have HY := Lib.hid (fun hp => asOf_yes (X := X) (s := s) (a := a) ⟨hr, hs, ha⟩ hp)
  have HV : Hid (∀ i, i < n → 1 ≤ (X.getD i Rc.zero).k) := fun i hi => (hRight_at hr (by rw [HL.out]; exact hi)).1.1
  clear hr hs ha
  go_wp2_with fail
  refine (l04Floor_any A n ca X w1 hn (HA.out.next HB1.out)).mono ?_
  rintro e w2 ⟨rfl, hb2⟩
  have HFL : Hid (floorTo X n = floorR X) := by show _ = _; unfold floorR; rw [HL.out]
  rw [HFL.out]
  have HB2 := Lib.hid (HB1.out.trans (hb2.mono HB1.out.size))
  have HK02 := Lib.hid (HK0.out.below hb2 HK0.out.lt)
  have HK12 := Lib.hid (HK1.out.below hb2 HK1.out.lt)
  have hx2 : w2.cell? ⟨w.heap.size, 0, none⟩ = some (.slice A n ca) := HK02.out.cell rfl
  clear d0 d1 d2 fd0 fd1 fd2 hx hb2
  by_cases hp : a < floorR X
  · have HP := Lib.hid (HP.out hp)
    clear HY
    obtain ⟨d0, d1, d2, fd0, fd1, fd2⟩ := blk3 HK12.out
    go_wp2
    exact bodyPost_ret (v := voV ⟨false, ⟨#[]⟩, 12⟩) (by simp [results, Tryz.results119, go_sem, d0, d1, d2]) rfl ⟨by rw [HP.out], ((HB2.out.setCell (by simp) _).setCell (by simp) _).setCell (by simp) _⟩
  · have HY := Lib.hid (HY.out (by omega))
    have hp' : floorR X ≤ a := by omega
    clear HP hp
    go_wp2_with fail
    refine (l04AsOf_any A n ca X s a w2 hn HV.out (HA.out.next HB2.out)).mono ?_
    rintro e w3 ⟨rfl, hb3⟩
    have HB3 := Lib.hid (HB2.out.trans (hb3.mono HB2.out.size))
    have HK13 := Lib.hid (HK12.out.below hb3 HK12.out.lt)
    obtain ⟨d0, d1, d2, fd0, fd1, fd2⟩ := blk3 HK13.out
    rw [HL.out] at HY
    generalize valX X s n a = v at HY ⊢
    clear hb3 hx2
    go_wp2
    exact bodyPost_ret (v := voV v) (by simp [results, Tryz.results119, go_sem, d0, d1, d2]) rfl ⟨by rw [HY.out], ((HB3.out.setCell (by simp) _).setCell (by simp) _).setCell (by simp) _⟩

end Go.Proofs.YtloaeglmngcenaaGreatDoor
