/-
  DeltaBytes of the program.
-/
import Derived.Test.YtpgemeojhbeooaaDoorProg
import Derived.KernelRfl
import Derived.Test.YtpgemeojhbeooaaDoorDlEnc
import Derived.OwnWalk
namespace Go.Proofs.YtpgemeojhbeooaaDoor
open Go.RowKit
open Bt (Dop dok)

set_option maxHeartbeats 2000000 in
set_option maxRecDepth 100000 in
theorem impl_deltaBytes (A : Option Addr) (n ca : Nat) (X : List Dop) (w : World) (hX : ∀ o ∈ X, o.x.size ≤ 9223372036854775807) (hF : ∀ o ∈ X, o.f ≤ 9223372036854775807) (hn : n ≤ 9223372036854775807) (hA : RdDo w w.heap.size A n X) :
    Calls Tryd.prog 19 #[.slice A n ca] w fun e w' => e = .returned (strV (Bt.dBytes X)) ∧ Below w.heap.size w w' := by
  have HL : Hid (X.length = n) := hA.1
  have HSTEPS := Lib.hid (stepsOf_any A n ca X w hX hn hA)
  have HFB := Lib.hid hF
  clear hX hA hF
  generalize hD : Bt.dBytes X = D
  have HD := Lib.hid hD; clear hD
  go_enter Tryd.func19, Tryd.ntmps19
  go_wp2_with fail
  refine HSTEPS.out.mono ?_
  rintro e w1 ⟨v1, rfl, ho1, hb1⟩
  have HB1 := Lib.hid hb1; have HOW1' := Lib.hid ho1
  clear hb1 ho1 HSTEPS
  by_cases hok : Bt.okL X = true
  case neg =>
    have hok' : Bt.okL X = false := by simpa using hok
    have HF : Hid (D = []) := HD.out.symm.trans (Bt.dBytes_no hok')
    rw [hok']
    clear hok
    go_wp2
    go_ret
    exact ⟨by rw [HF.out]; rfl, HB1.out⟩
  have HOW1 := Lib.hid (HOW1'.out hok)
  have HOK := Lib.hid hok
  have HDD : Hid (D = Bt.sealed (bstr (Bt.dBody X))) := HD.out.symm.trans (Bt.dBytes_ok hok)
  have hn40 : n ≤ 40 := by have := HL.out; have := Bt.okL_len hok; omega
  have hbl := Bt.dBody_len hok
  rw [HL.out] at HOW1
  rw [hok]
  obtain ⟨A1, c1, rfl, hr1⟩ := own_slice Dop.zero HOW1.out
  have HR1 := Lib.hid hr1
  clear hr1 hok HOW1'
  go_wp2_with fail
  refine (impl_putNum_any (n : Int) _ (by omega) (by omega)).mono ?_
  rintro e w2 ⟨rfl, hb2⟩
  have HB2 : Hid (Below w.heap.size w w2) := HB1.out.trans (hb2.mono HB1.out.size)
  have HB12 := Lib.hid hb2
  clear hb2
  have HE0 : Hid (Bt.putNum (n : Int) = Bt.encTo n (X.take 0)) := (Bt.encTo_nil n).symm
  rw [HE0.out]
  go_wp2
  go_loopw [5, 20] (fun t i wr => ∃ (k : Nat), k ≤ n ∧ i = .int .i64 (k : Nat) ∧ t = strV (Bt.encTo n (X.take k)) ∧ Below w1.heap.size w1 wr) (fun _ i wr => n - (intOf i).toNat)
  case atStart => exact ⟨0, by omega, rfl, rfl, HB12.out⟩
  case round =>
    obtain ⟨k, hk, rfl, rfl, hbel⟩ := hrel
    have HW := Lib.hid hbel
    by_cases hlt : k < n
    · obtain ⟨g, rfl, hg1, hg, hc0⟩ := HR1.out k hlt
      replace hc0 := (hbel.cell (p := ⟨g, k, none⟩) hg).trans hc0
      have hdok := Bt.okL_at HOK.out (k := k) (by have := HL.out; omega)
      have hfb := HFB.out _ (getD_lt (z := Dop.zero) (show k < X.length by have := HL.out; omega))
      have HT := Lib.hid (Bt.take_getD (l := X) (k := k) (by have := HL.out; omega))
      have hel := Bt.encTo_take_len HOK.out n k (by have := HL.out; omega)
      clear hbel
      generalize X.getD k Dop.zero = o at hc0 hdok hfb HT
      have heo := Bt.enc_len hdok
      have HZ : Hid (Bt.encTo n (X.take (k + 1)) = Bt.encTo n (X.take k) ++ o.enc) := by show _ = _; rw [HT.out, Bt.encTo_snoc]
      have hcases := step_enc o hdok hfb
      clear hdok
      generalize Bt.encTo n (X.take k) = E at hel HZ ⊢
      generalize o.enc = EO at heo HZ hcases
      have HAS : Hid (∀ W : World, Calls Tryd.prog 39 #[.slice (some ⟨W.heap.size, 0, none⟩) 2 2] (W.alloc (.cells #[strV E, strV EO] 9)) fun e w' => e = .returned (strV (E ++ EO)) ∧ Below W.heap.size W w') := fun W => by
        have h := assemble_any [bstr E, bstr EO] W.heap.size 0 2 _ (parts_two W 9 _ _) (by simp) (by simp) (by rw [flat_two, bstr_list, bstr_list, List.length_append]; omega)
        rw [flat_two, bstr_list, bstr_list] at h
        exact h.mono fun e w' ⟨he, hb⟩ => ⟨he, ((Below.refl _ _).alloc (Nat.le_refl _) _).trans (hb.mono (by simp))⟩
      rcases hcases with ⟨y, hy, hcall⟩ | ⟨y, hy, hcall⟩
      all_goals
        rw [hy] at hc0
        have HCALL := Lib.hid hcall
        have hm1 := meth_enc_ins y
        have hm2 := meth_enc_cp y
        clear hy hcall
        go_wp2_with fail
        refine (HCALL.out _).mono ?_
        rintro e w3 ⟨rfl, hb3⟩
        have HB3 : Hid (Below w1.heap.size w1 w3) := HW.out.trans (hb3.mono HW.out.size)
        clear hb3
        go_wp2_with fail
        refine (HAS.out _).mono ?_
        rintro e w4 ⟨rfl, hb4⟩
        have HB4 : Hid (Below w1.heap.size w1 w4) := HB3.out.trans (hb4.mono HB3.out.size)
        clear hb4
        go_wp2
        go_roundw
        case rel => exact ⟨k + 1, by omega, by go_num, by rw [HZ.out], HB4.out⟩
        case measure => simp [intOf]; omega
    · obtain rfl : k = n := by omega
      have e : X.take k = X := by rw [← HL.out]; exact List.take_length
      have HE : Hid (Bt.encTo k (X.take k) = Bt.dBody X) := by show _ = _; rw [e]; unfold Bt.dBody; rw [HL.out]
      rw [HE.out]
      clear hbel e
      have HWW := Lib.hid (HB1.out.trans (HW.out.mono HB1.out.size))
      go_wp2_with fail
      refine (impl_seal_any _ _ (by rw [bstr_size]; unfold maxLen; omega)).mono ?_
      rintro e w5 ⟨rfl, hb5⟩
      have HB5 := Lib.hid (HWW.out.trans (hb5.mono HWW.out.size))
      clear hb5
      go_wp2
      go_ret
      exact ⟨by rw [HDD.out]; rfl, HB5.out⟩
end Go.Proofs.YtpgemeojhbeooaaDoor
