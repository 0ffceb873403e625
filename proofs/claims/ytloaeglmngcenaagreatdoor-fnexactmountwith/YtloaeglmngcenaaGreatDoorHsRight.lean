/-
  The contracts of HistRight, of the program and of the model.
-/
import Derived.Test.YtloaeglmngcenaaGreatDoorProg
import Derived.KernelRfl
import Derived.Test.YtloaeglmngcenaaGreatDoorHsMem
import Derived.Test.YtloaeglmngcenaaGreatDoorHsPure
import Derived.StillTailTactics
import Derived.Deep.QuietTactic
import Derived.BigQuiet
import Derived.Lib.QuietBelow
namespace Go.Proofs.YtloaeglmngcenaaGreatDoor
open Go.RowKit
open Bt (Rc)

set_option maxHeartbeats 1000000 in
theorem follows_any (a b : Rc) (w : World) : Calls Tryz.prog 195 #[recV a, recV b] w fun e w' => e = .returned (.bool (flw b a)) ∧ Below w.heap.size w w' := by
  obtain ⟨k, s, q, t, o, d⟩ := a
  obtain ⟨k', s', q', t', o', d'⟩ := b
  unfold flw
  simp only
  by_cases h1 : q' < q
  · by_cases h2 : t' ≤ t
    · rw [decide_eq_true h1, decide_eq_true h2]
      go_enter Tryz.func195, Tryz.ntmps195
      go_wp2
      go_ret
      exact ⟨rfl, ((Below.refl _ _).alloc (Nat.le_refl _) _).alloc (by simp) _⟩
    · rw [decide_eq_true h1, decide_eq_false h2]
      have h2' : t < t' := by omega
      go_enter Tryz.func195, Tryz.ntmps195
      go_wp2
      go_ret
      exact ⟨by first | rfl | (simp; omega), ((Below.refl _ _).alloc (Nat.le_refl _) _).alloc (by simp) _⟩
  · rw [decide_eq_false h1]
    have h1' : q ≤ q' := by omega
    go_enter Tryz.func195, Tryz.ntmps195
    go_wp2
    go_ret
    exact ⟨by first | rfl | (simp; omega), ((Below.refl _ _).alloc (Nat.le_refl _) _).alloc (by simp) _⟩

set_option maxHeartbeats 2000000 in
theorem impl_histRight_any (A : Option Addr) (n ca : Nat) (X : List Rc) (w : World) (hS : SmallR X) (hA : RdRc w w.heap.size A n X) :
    Calls Tryz.prog 131 #[.agg #[.slice A n ca]] w fun e w' => e = .returned (.bool (hRight X)) ∧ Below w.heap.size w w' := by
  have hn : n ≤ 1048576 := by rw [← hA.1]; exact hS.1
  have HA := Lib.hid hA; have HS := Lib.hid hS; clear hA hS
  by_cases hbig : 48 < n
  · have HR : Hid (hRight X = false) := hRight_big (by have := HA.out.1; omega)
    go_enter Tryz.func131, Tryz.ntmps131
    go_wp2
    go_ret
    exact ⟨ret_b HR.out.symm, (Below.refl _ _).alloc (Nat.le_refl _) _⟩
  have hle : n ≤ 48 := by omega
  have HR : Hid (hRight X = allTo (stepB X) n) := by show _ = _; have h := HA.out.1; rw [hRight_all (by omega), h]
  clear hbig
  go_enter Tryz.func131, Tryz.ntmps131
  go_wp2
  have hb1 : Below w.heap.size w ((w.alloc (.cells #[.slice A n ca] 29)).alloc (.cells #[.int .i64 0, .int .i64 0, .int .i64 0, .int .i64 0, .int .i64 0, .string ⟨#[]⟩] 34)) := ((Below.refl _ _).alloc (Nat.le_refl _) _).alloc (by simp) _
  have k1 := isBlk_new (w.alloc (.cells #[.slice A n ca] 29)) 34 (recC Rc.zero)
  rw [size_alloc] at k1
  change IsBlk ((w.alloc (.cells #[.slice A n ca] 29)).alloc (.cells #[.int .i64 0, .int .i64 0, .int .i64 0, .int .i64 0, .int .i64 0, .string ⟨#[]⟩] 34)) _ _ _ at k1
  generalize (w.alloc (.cells #[.slice A n ca] 29)).alloc (.cells #[.int .i64 0, .int .i64 0, .int .i64 0, .int .i64 0, .int .i64 0, .string ⟨#[]⟩] 34) = W at hb1 k1 ⊢
  have HB1 := Lib.hid hb1; have HK1 := Lib.hid k1; clear hb1 k1
  go_loopw [13] (fun i wr => ∃ k : Nat, k ≤ n ∧ i = .int .i64 (k : Nat) ∧ allTo (stepB X) k = true ∧ IsBlk wr (w.heap.size + 1) 34 (recC (prevR X k)) ∧ Below w.heap.size w wr) (fun i _ => n - (intOf i).toNat)
  case atStart => exact ⟨0, by omega, rfl, rfl, HK1.out, HB1.out⟩
  case round =>
    obtain ⟨k, hk, rfl, hall, hblk, hbel⟩ := hrel
    have HAL := Lib.hid hall; have HW := Lib.hid hbel; have HK := Lib.hid hblk
    clear hall
    by_cases hlt : k < n
    · obtain ⟨g, off, rfl, hg, hc0, hc1, hc2, hc3, hc4, hc5⟩ := (HA.out.below hbel).at hlt
      have hds := HS.out.at k
      have HST : Hid (stepB X k = (decide (X.getD k Rc.zero).Ok && flw (prevR X k) (X.getD k Rc.zero))) := Lib.hid rfl
      have HPS : Hid (prevR X (k + 1) = X.getD k Rc.zero) := prevR_succ X k
      generalize X.getD k Rc.zero = r at *
      generalize prevR X k = p at *
      clear hbel hblk
      go_wp2_with fail
      have hb0 : Below wr.heap.size wr (wr.alloc (.cells #[.int .i64 r.k, .int .i64 r.s, .int .i64 r.q, .int .i64 r.t, .int .i64 r.o, .string r.d] 34)) := (Below.refl _ _).alloc (Nat.le_refl _) _
      have k0 := isBlk_new wr 34 (recC r)
      change IsBlk (wr.alloc (.cells #[.int .i64 r.k, .int .i64 r.s, .int .i64 r.q, .int .i64 r.t, .int .i64 r.o, .string r.d] 34)) _ _ _ at k0
      generalize wr.alloc (.cells #[.int .i64 r.k, .int .i64 r.s, .int .i64 r.q, .int .i64 r.t, .int .i64 r.o, .string r.d] 34) = w0 at hb0 k0 ⊢
      refine (impl_recRight_any r _ (by unfold maxLen; omega)).mono ?_
      rintro e w1 ⟨rfl, hb1⟩
      have hkr := (k0.below hb1 k0.lt)
      have hkp := (HK.out.below hb0 HK.out.lt).below hb1 (Nat.lt_of_lt_of_le HK.out.lt hb0.size)
      have hbl := HW.out.trans ((hb0.trans (hb1.mono hb0.size)).mono HW.out.size)
      have HB := Lib.hid hbl; have HKR := Lib.hid hkr; have HKP := Lib.hid hkp
      obtain ⟨a0, a1, a2, a3, a4, a5⟩ := rcCells hkr
      obtain ⟨b0, b1, b2, b3, b4, b5⟩ := rcCells hkp
      clear hb0 k0 hb1 hkr hkp hbl
      by_cases hok : r.Ok
      · rw [decide_eq_true hok] at HST ⊢
        go_wp2_with fail
        refine (follows_any _ _ _).mono ?_
        rintro e w2 ⟨rfl, hb2⟩
        have hkr := HKR.out.below hb2 HKR.out.lt
        have hkp := HKP.out.below hb2 HKP.out.lt
        have HB2 := Lib.hid (HB.out.trans (hb2.mono HB.out.size))
        have HKP2 := Lib.hid hkp
        clear a0 a1 a2 a3 a4 a5 b0 b1 b2 b3 b4 b5
        obtain ⟨a0, a1, a2, a3, a4, a5⟩ := rcCells hkr
        obtain ⟨b0, b1, b2, b3, b4, b5⟩ := rcCells hkp
        have f0 : w2.frozen? ⟨w.heap.size + 1, 0, none⟩ = false := hkp.free
        have f1 : w2.frozen? ⟨w.heap.size + 1, 1, none⟩ = false := hkp.free
        have f2 : w2.frozen? ⟨w.heap.size + 1, 2, none⟩ = false := hkp.free
        have f3 : w2.frozen? ⟨w.heap.size + 1, 3, none⟩ = false := hkp.free
        have f4 : w2.frozen? ⟨w.heap.size + 1, 4, none⟩ = false := hkp.free
        have f5 : w2.frozen? ⟨w.heap.size + 1, 5, none⟩ = false := hkp.free
        clear hb2 hkr hkp
        by_cases hfl : flw p r = true
        · rw [hfl] at HST ⊢
          go_wp2
          go_roundw
          case rel =>
            refine ⟨k + 1, by omega, by go_num, by rw [allTo, HAL.out, HST.out]; rfl, ?_, ?_⟩
            · rw [HPS.out]
              exact (((((HKP2.out.set _).set _).set _).set _).set _).set _
            · exact (((((HB2.out.setCell (by simp) _).setCell (by simp) _).setCell (by simp) _).setCell (by simp) _).setCell (by simp) _).setCell (by simp) _
          case measure => simp [intOf]; omega
        · have hfl : flw p r = false := by simpa using hfl
          rw [hfl] at HST ⊢
          go_wp2
          go_ret
          exact ⟨ret_b (by rw [HR.out, allTo_no HST.out hlt]), HB2.out⟩
      · rw [decide_eq_false hok] at HST ⊢
        go_wp2
        go_ret
        exact ⟨ret_b (by rw [HR.out, allTo_no HST.out hlt]), HB.out⟩
    · obtain rfl : k = n := by omega
      clear hbel hblk
      go_wp2
      go_ret
      exact ⟨ret_b (by rw [HR.out, HAL.out]), HW.out⟩

set_option maxHeartbeats 2000000 in
theorem spec_histRight_any (A : Option Addr) (n ca : Nat) (X : List Rc) (w : World) (hS : SmallR X) (hA : RdRc w w.heap.size A n X) :
    Calls Tryz.prog 80 #[.agg #[.slice A n ca]] w fun e w' => e = .returned (.bool (hRight X)) ∧ Below w.heap.size w w' := by
  have hn : n ≤ 1048576 := by rw [← hA.1]; exact hS.1
  have HA := Lib.hid hA; have HS := Lib.hid hS; clear hA hS
  by_cases hbig : 48 < n
  · have HR : Hid (hRight X = false) := hRight_big (by have := HA.out.1; omega)
    go_enter Tryz.func80, Tryz.ntmps80
    go_wp2
    go_ret
    exact ⟨ret_b HR.out.symm, (Below.refl _ _).alloc (Nat.le_refl _) _⟩
  have hle : n ≤ 48 := by omega
  have HR : Hid (hRight X = allTo (stepB X) n) := by show _ = _; have h := HA.out.1; rw [hRight_all (by omega), h]
  clear hbig
  go_enter Tryz.func80, Tryz.ntmps80
  go_wp2
  have hb1 : Below w.heap.size w (w.alloc (.cells #[.slice A n ca] 29)) := (Below.refl _ _).alloc (Nat.le_refl _) _
  have k1 := isBlk_new w 29 [.slice A n ca]
  change IsBlk (w.alloc (.cells #[.slice A n ca] 29)) _ _ _ at k1
  generalize w.alloc (.cells #[.slice A n ca] 29) = W at hb1 k1 ⊢
  have HB1 := Lib.hid hb1; have HK1 := Lib.hid k1; clear hb1 k1
  go_loopw [3] (fun i wr => ∃ k : Nat, k ≤ n ∧ i = .int .i64 (k : Nat) ∧ allTo (stepB X) k = true ∧ IsBlk wr w.heap.size 29 [.slice A n ca] ∧ Below w.heap.size w wr) (fun i _ => n - (intOf i).toNat)
  case atStart => exact ⟨0, by omega, rfl, rfl, HK1.out, HB1.out⟩
  case round =>
    obtain ⟨k, hk, rfl, hall, hblk, hbel⟩ := hrel
    have HAL := Lib.hid hall; have HW := Lib.hid hbel; have HK := Lib.hid hblk
    have hx : wr.cell? ⟨w.heap.size, 0, none⟩ = some (.slice A n ca) := hblk.cell rfl
    clear hall hblk
    by_cases hlt : k < n
    · obtain ⟨g, off, rfl, hg, hc0, hc1, hc2, hc3, hc4, hc5⟩ := (HA.out.below hbel).at hlt
      have hds := HS.out.at k
      have HST : Hid (stepB X k = (decide (X.getD k Rc.zero).Ok && flw (prevR X k) (X.getD k Rc.zero))) := Lib.hid rfl
      by_cases hk0 : k = 0
      · subst hk0
        have HZ : Hid ((X.getD 0 Rc.zero).Ok → flw (prevR X 0) (X.getD 0 Rc.zero) = true) := Lib.hid (fun h => flw_zero h)
        generalize X.getD 0 Rc.zero = r at *
        simp only [Nat.zero_mul, Nat.add_zero] at hc0 hc1 hc2 hc3 hc4 hc5
        have hx' := cell_regrown hx
        have hc0' := cell_regrown hc0; have hc1' := cell_regrown hc1; have hc2' := cell_regrown hc2; have hc3' := cell_regrown hc3; have hc4' := cell_regrown hc4; have hc5' := cell_regrown hc5
        clear hbel
        by_cases hok : r.Ok
        · rw [decide_eq_true hok] at HST
          go_wp2
          refine wp_region_quiet_below (by kernel_rfl) (by kernel_rfl) ?_
          repeat (go_big_quiet_step ((go_at_call 84; exact Calls.regrown_of ((spec_recRight_any r _ (by unfold maxLen; omega)).mono (fun e w' h => by rw [decide_eq_true hok] at h; exact h)))))
          refine wpQuiet_nil ?_
          intro w2 hw'
          have hb2 : Below wr.heap.size wr w2 := by obtain ⟨⟨dq, osq⟩, rfl⟩ := hw'; exact below_regrown wr dq osq
          clear hw'
          have HB2 := Lib.hid (HW.out.trans (hb2.mono HW.out.size))
          have HK2 := Lib.hid (HK.out.below hb2 HK.out.lt)
          clear hb2
          go_wp2
          go_roundw
          case rel => exact ⟨1, by omega, by go_num, by rw [allTo, HAL.out, HST.out, HZ.out hok]; rfl, HK2.out, HB2.out⟩
          case measure => simp [intOf]; omega
        · rw [decide_eq_false hok] at HST
          go_wp2
          refine wp_region_quiet_below (by kernel_rfl) (by kernel_rfl) ?_
          repeat (go_big_quiet_step ((go_at_call 84; exact Calls.regrown_of ((spec_recRight_any r _ (by unfold maxLen; omega)).mono (fun e w' h => by rw [decide_eq_false hok] at h; exact h)))))
          refine wpQuiet_nil ?_
          intro w2 hw'
          have hb2 : Below wr.heap.size wr w2 := by obtain ⟨⟨dq, osq⟩, rfl⟩ := hw'; exact below_regrown wr dq osq
          clear hw'
          have HB2 := Lib.hid (HW.out.trans (hb2.mono HW.out.size))
          clear hb2
          go_wp2
          go_ret
          exact ⟨ret_b (by rw [HR.out, allTo_no HST.out hlt]), HB2.out⟩
      · obtain ⟨j, rfl⟩ : ∃ j, k = j + 1 := ⟨k - 1, by omega⟩
        obtain ⟨g', off', hgg, hg', hd0, hd1, hd2, hd3, hd4, hd5⟩ := (HA.out.below hbel).at (show j < n by omega)
        simp only [Option.some.injEq, Addr.mk.injEq, and_true] at hgg
        obtain ⟨rfl, rfl⟩ := hgg
        rw [prevR_succ] at HST
        have hj0 : 0 < j + 1 := by omega
        generalize X.getD (j + 1) Rc.zero = r at *
        generalize X.getD j Rc.zero = p at *
        have hx' := cell_regrown hx
        have hc0' := cell_regrown hc0; have hc1' := cell_regrown hc1; have hc2' := cell_regrown hc2; have hc3' := cell_regrown hc3; have hc4' := cell_regrown hc4; have hc5' := cell_regrown hc5
        have hd2' := cell_regrown hd2; have hd3' := cell_regrown hd3
        clear hbel hd0 hd1 hd4 hd5
        by_cases hok : r.Ok
        · rw [decide_eq_true hok] at HST
          by_cases hq : p.q < r.q
          · have hqf : decide (r.q ≤ p.q) = false := decide_eq_false (by omega)
            by_cases ht : p.t ≤ r.t
            · have hfl : flw p r = true := by simp [flw, hq, ht]
              rw [hfl] at HST
              clear hfl
              go_wp2
              refine wp_region_quiet_below (by kernel_rfl) (by kernel_rfl) ?_
              repeat (go_big_quiet_step ((go_at_call 84; exact Calls.regrown_of ((spec_recRight_any r _ (by unfold maxLen; omega)).mono (fun e w' h => by rw [decide_eq_true hok] at h; exact h)))))
              refine wpQuiet_nil ?_
              intro w2 hw'
              have hb2 : Below wr.heap.size wr w2 := by obtain ⟨⟨dq, osq⟩, rfl⟩ := hw'; exact below_regrown wr dq osq
              clear hw'
              have HB2 := Lib.hid (HW.out.trans (hb2.mono HW.out.size))
              have HK2 := Lib.hid (HK.out.below hb2 HK.out.lt)
              clear hb2
              go_wp2
              go_roundw
              case rel => exact ⟨j + 1 + 1, by omega, by go_num, by rw [allTo, HAL.out, HST.out]; rfl, HK2.out, HB2.out⟩
              case measure => simp [intOf]; omega
            · have hfl : flw p r = false := by simp [flw, ht]
              rw [hfl] at HST
              have ht' : r.t < p.t := by omega
              clear hfl ht
              go_wp2
              refine wp_region_quiet_below (by kernel_rfl) (by kernel_rfl) ?_
              repeat (go_big_quiet_step ((go_at_call 84; exact Calls.regrown_of ((spec_recRight_any r _ (by unfold maxLen; omega)).mono (fun e w' h => by rw [decide_eq_true hok] at h; exact h)))))
              refine wpQuiet_nil ?_
              intro w2 hw'
              have hb2 : Below wr.heap.size wr w2 := by obtain ⟨⟨dq, osq⟩, rfl⟩ := hw'; exact below_regrown wr dq osq
              clear hw'
              have HB2 := Lib.hid (HW.out.trans (hb2.mono HW.out.size))
              clear hb2
              go_wp2
              go_ret
              exact ⟨ret_b (by rw [HR.out, allTo_no HST.out hlt]), HB2.out⟩
          · have hfl : flw p r = false := by simp [flw, hq]
            rw [hfl] at HST
            have hq' : r.q ≤ p.q := by omega
            clear hfl hq
            go_wp2
            refine wp_region_quiet_below (by kernel_rfl) (by kernel_rfl) ?_
            repeat (go_big_quiet_step ((go_at_call 84; exact Calls.regrown_of ((spec_recRight_any r _ (by unfold maxLen; omega)).mono (fun e w' h => by rw [decide_eq_true hok] at h; exact h)))))
            refine wpQuiet_nil ?_
            intro w2 hw'
            have hb2 : Below wr.heap.size wr w2 := by obtain ⟨⟨dq, osq⟩, rfl⟩ := hw'; exact below_regrown wr dq osq
            clear hw'
            have HB2 := Lib.hid (HW.out.trans (hb2.mono HW.out.size))
            clear hb2
            go_wp2
            go_ret
            exact ⟨ret_b (by rw [HR.out, allTo_no HST.out hlt]), HB2.out⟩
        · rw [decide_eq_false hok] at HST
          go_wp2
          refine wp_region_quiet_below (by kernel_rfl) (by kernel_rfl) ?_
          repeat (go_big_quiet_step ((go_at_call 84; exact Calls.regrown_of ((spec_recRight_any r _ (by unfold maxLen; omega)).mono (fun e w' h => by rw [decide_eq_false hok] at h; exact h)))))
          refine wpQuiet_nil ?_
          intro w2 hw'
          have hb2 : Below wr.heap.size wr w2 := by obtain ⟨⟨dq, osq⟩, rfl⟩ := hw'; exact below_regrown wr dq osq
          clear hw'
          have HB2 := Lib.hid (HW.out.trans (hb2.mono HW.out.size))
          clear hb2
          go_wp2
          go_ret
          exact ⟨ret_b (by rw [HR.out, allTo_no HST.out hlt]), HB2.out⟩
    · obtain rfl : k = n := by omega
      clear hbel
      go_wp2
      go_ret
      exact ⟨ret_b (by rw [HR.out, HAL.out]), HW.out⟩
end Go.Proofs.YtloaeglmngcenaaGreatDoor
