/-
  DeltaBytes of the model.
-/
import Derived.Test.YtpgemeojhbeooaaDoorProg
import Derived.KernelRfl
import Derived.Test.YtpgemeojhbeooaaDoorDlSpec
namespace Go.Proofs.YtpgemeojhbeooaaDoor
open Go.RowKit
open Bt (Dop dok)

theorem add_two {P : Program} (a b : List UInt8) (h : a.length + b.length ≤ 100000) (w : World) : (Op.stringOp .add (bstr a) (bstr b)).run P w = .ok (strV (a ++ b)) w := by
  have := add_str (P := P) w (bstr a) (bstr b) (by rw [bstr_size, bstr_size]; omega)
  rwa [bstr_list, bstr_list] at this

set_option maxHeartbeats 2000000 in
set_option maxRecDepth 100000 in
theorem spec_deltaBytes (A : Option Addr) (n ca : Nat) (X : List Dop) (w : World) (hX : ∀ o ∈ X, o.x.size ≤ 9223372036854775807) (hF : ∀ o ∈ X, o.f ≤ 9223372036854775807) (hn : n ≤ 9223372036854775807) (hA : RdDo w w.heap.size A n X) :
    Calls Tryd.prog 20 #[.slice A n ca] w fun e w' => e = .returned (strV (Bt.dBytes X)) ∧ Below w.heap.size w w' := by
  have HL : Hid (X.length = n) := hA.1
  have HA := Lib.hid hA; have HX := Lib.hid hX; have HFB := Lib.hid hF
  clear hX hA hF
  generalize hD : Bt.dBytes X = D
  have HD := Lib.hid hD; clear hD
  by_cases h40 : n ≤ 40
  case neg =>
    have HF : Hid (D = []) := HD.out.symm.trans (Bt.dBytes_no (Bt.okL_long (by have := HL.out; omega)))
    have h40' : 40 < n := by omega
    go_enter Tryd.func20, Tryd.ntmps20
    go_wp2
    go_ret
    exact ⟨by rw [HF.out]; rfl, Below.refl _ _⟩
  go_enter Tryd.func20, Tryd.ntmps20
  go_wp2_with fail
  refine (spec_putNum_any (n : Int) _ (by omega) (by omega)).mono ?_
  rintro e w2 ⟨rfl, hb2⟩
  have HB2 := Lib.hid hb2
  clear hb2
  have HE0 : Hid (Bt.putNum (n : Int) = Bt.encTo n (X.take 0)) := (Bt.encTo_nil n).symm
  rw [HE0.out]
  go_wp2
  go_loopw [3, 4] (fun t i wr => ∃ (k : Nat), k ≤ n ∧ i = .int .i64 (k : Nat) ∧ t = strV (Bt.encTo n (X.take k)) ∧ (Bt.encTo n (X.take k)).length ≤ 10 + 220 * k ∧ (X.take k).all dok = true ∧ Below w.heap.size w wr) (fun _ i wr => n - (intOf i).toNat)
  case atStart => exact ⟨0, by omega, rfl, rfl, by rw [List.take_zero, Bt.encTo_nil]; have := (Bt.putNum_length (n : Int)).2; omega, rfl, HB2.out⟩
  case round =>
    obtain ⟨k, hk, rfl, rfl, hel, hall, hbel⟩ := hrel
    have HW := Lib.hid hbel; have HALL := Lib.hid hall
    clear hall
    by_cases hlt : k < n
    · obtain ⟨g, off, rfl, hg, hc0, hc1, hc2⟩ := (HA.out.below hbel).at hlt
      have hds := HX.out _ (getD_lt (z := Dop.zero) (show k < X.length by have := HL.out; omega))
      have hfb := HFB.out _ (getD_lt (z := Dop.zero) (show k < X.length by have := HL.out; omega))
      have HT := Lib.hid (Bt.take_getD (l := X) (k := k) (by have := HL.out; omega))
      have HBAD := fun h => Lib.hid (Bt.okL_bad (l := X) (k := k) (by have := HL.out; omega) h)
      have HSUC := fun h => Lib.hid (Bt.all_take_succ (l := X) (p := dok) (k := k) (by have := HL.out; omega) HALL.out h)
      clear hbel
      generalize X.getD k Dop.zero = o at hc0 hc1 hc2 hds hfb HT HBAD HSUC
      have HZ : Hid (Bt.encTo n (X.take (k + 1)) = Bt.encTo n (X.take k) ++ o.enc) := by show _ = _; rw [HT.out, Bt.encTo_snoc]
      generalize Bt.encTo n (X.take k) = E at hel HZ ⊢
      have HCALL := Lib.hid (fun W => l09Op_any o W hds)
      by_cases hd : dok o = true
      case neg =>
        have hd' : dok o = false := by simpa using hd
        have HF : Hid (D = []) := HD.out.symm.trans (Bt.dBytes_no (HBAD hd').out)
        rw [hd'] at HCALL
        clear hd hd' HBAD HSUC
        go_wp2_with fail
        with_reducible refine (HCALL.out _).mono ?_
        rintro e w3 ⟨rfl, hb3⟩
        have HB3 := Lib.hid (HW.out.trans (hb3.mono HW.out.size))
        clear hb3
        go_wp2
        go_ret
        exact ⟨by rw [HF.out]; rfl, HB3.out⟩
      rw [hd] at HCALL
      have HS := HSUC hd
      have heo := Bt.enc_len hd
      have hgr : g < wr.heap.size := Nat.lt_of_lt_of_le hg HW.out.size
      rcases Bt.ok_cases hd with ⟨h0, h1, h2, h3⟩ | ⟨h1, h2, h3, h4⟩
      · have HEN : Hid (o.enc = Bt.putNum 0 ++ Bt.putText o.x) := Bt.enc_ins h0
        have hl2 : (Bt.putNum 0).length + (Bt.putText o.x).length ≤ 220 := by rw [HEN.out, List.length_append] at heo; exact heo
        have HP1 := Lib.hid (fun W => spec_putNum_any 0 W (by omega) (by omega))
        have HP2 := Lib.hid (fun W => spec_putText_any o.x W hds)
        have q1 := add_two (P := Tryd.prog) E (Bt.putNum 0) (by omega)
        have q2 := add_two (P := Tryd.prog) (E ++ Bt.putNum 0) (Bt.putText o.x) (by rw [List.length_append]; omega)
        have HZ2 : Hid (Bt.encTo n (X.take (k + 1)) = E ++ Bt.putNum 0 ++ Bt.putText o.x) := by show _ = _; rw [HZ.out, HEN.out, List.append_assoc]
        have hel2 : (E ++ Bt.putNum 0 ++ Bt.putText o.x).length ≤ 10 + 220 * (k + 1) := by rw [List.length_append, List.length_append]; omega
        generalize Bt.putNum 0 = L1 at *
        generalize Bt.putText o.x = L2 at *
        rw [h0] at hc1
        have hde : dopV o = .agg #[.int .i64 o.f, .int .i64 0, .string o.x] := by show Value.agg _ = _; rw [h0]
        rw [hde] at HCALL
        clear hde hd HBAD HSUC h0 h1 heo HZ HEN
        go_wp2_with fail
        with_reducible refine (HCALL.out _).mono ?_
        rintro e w3 ⟨rfl, hb3⟩
        have HB3 := Lib.hid (HW.out.trans (hb3.mono HW.out.size))
        have hc13 := (hb3.cell (p := ⟨g, off + k * 3 + 1, none⟩) hgr).trans hc1
        have hc23 := (hb3.cell (p := ⟨g, off + k * 3 + 2, none⟩) hgr).trans hc2
        have hg3 := Nat.lt_of_lt_of_le hgr hb3.size
        clear hb3 hc0 hc1 hc2
        go_wp2_with fail
        with_reducible refine (HP1.out _).mono ?_
        rintro e w4 ⟨rfl, hb4⟩
        have HB4 := Lib.hid (HB3.out.trans (hb4.mono HB3.out.size))
        have hc14 := (hb4.cell (p := ⟨g, off + k * 3 + 1, none⟩) hg3).trans hc13
        have hc24 := (hb4.cell (p := ⟨g, off + k * 3 + 2, none⟩) hg3).trans hc23
        clear hb4 hc13 hc23
        go_wp2_with fail
        with_reducible refine (HP2.out _).mono ?_
        rintro e w5 ⟨rfl, hb5⟩
        have HB5 := Lib.hid (HB4.out.trans (hb5.mono HB4.out.size))
        clear hb5 hc14 hc24
        go_wp2
        go_roundw
        case rel => exact ⟨k + 1, by omega, by go_num, by rw [HZ2.out, List.append_assoc], by rw [HZ2.out]; exact hel2, HS.out, HB5.out⟩
        case measure => simp [intOf]; omega
      · have HEN : Hid (o.enc = Bt.putNum o.c ++ Bt.putNum o.f) := Bt.enc_cp (by omega)
        have hl2 : (Bt.putNum o.c).length + (Bt.putNum o.f).length ≤ 220 := by rw [HEN.out, List.length_append] at heo; exact heo
        have HP1 := Lib.hid (fun W => spec_putNum_any o.c W (by omega) (by omega))
        have HP2 := Lib.hid (fun W => spec_putNum_any o.f W (by omega) (by omega))
        have q1 := add_two (P := Tryd.prog) E (Bt.putNum o.c) (by omega)
        have q2 := add_two (P := Tryd.prog) (E ++ Bt.putNum o.c) (Bt.putNum o.f) (by rw [List.length_append]; omega)
        have HZ2 : Hid (Bt.encTo n (X.take (k + 1)) = E ++ Bt.putNum o.c ++ Bt.putNum o.f) := by show _ = _; rw [HZ.out, HEN.out, List.append_assoc]
        have hel2 : (E ++ Bt.putNum o.c ++ Bt.putNum o.f).length ≤ 10 + 220 * (k + 1) := by rw [List.length_append, List.length_append]; omega
        generalize Bt.putNum o.c = L1 at *
        generalize Bt.putNum o.f = L2 at *
        have hpos : 0 < o.c := by omega
        clear hd HBAD HSUC heo HZ HEN
        go_wp2_with fail
        with_reducible refine (HCALL.out _).mono ?_
        rintro e w3 ⟨rfl, hb3⟩
        have HB3 := Lib.hid (HW.out.trans (hb3.mono HW.out.size))
        have hc03 := (hb3.cell (p := ⟨g, off + k * 3, none⟩) hgr).trans hc0
        have hc13 := (hb3.cell (p := ⟨g, off + k * 3 + 1, none⟩) hgr).trans hc1
        have hg3 := Nat.lt_of_lt_of_le hgr hb3.size
        clear hb3 hc0 hc1 hc2
        go_wp2_with fail
        with_reducible refine (HP1.out _).mono ?_
        rintro e w4 ⟨rfl, hb4⟩
        have HB4 := Lib.hid (HB3.out.trans (hb4.mono HB3.out.size))
        have hc04 := (hb4.cell (p := ⟨g, off + k * 3, none⟩) hg3).trans hc03
        have hc14 := (hb4.cell (p := ⟨g, off + k * 3 + 1, none⟩) hg3).trans hc13
        clear hb4 hc03 hc13
        go_wp2_with fail
        with_reducible refine (HP2.out _).mono ?_
        rintro e w5 ⟨rfl, hb5⟩
        have HB5 := Lib.hid (HB4.out.trans (hb5.mono HB4.out.size))
        clear hb5 hc04 hc14
        go_wp2
        go_roundw
        case rel => exact ⟨k + 1, by omega, by go_num, by rw [HZ2.out, List.append_assoc], by rw [HZ2.out]; exact hel2, HS.out, HB5.out⟩
        case measure => simp [intOf]; omega
    · obtain rfl : k = n := by omega
      have e : X.take k = X := by rw [← HL.out]; exact List.take_length
      have HOK : Hid (Bt.okL X = true) := Bt.okL_good (by rw [HL.out]; exact h40) (by rw [HL.out]; exact HALL.out)
      have HDD : Hid (D = Bt.sealed (bstr (Bt.dBody X))) := HD.out.symm.trans (Bt.dBytes_ok HOK.out)
      have HE : Hid (Bt.encTo k (X.take k) = Bt.dBody X) := by show _ = _; rw [e]; unfold Bt.dBody; rw [HL.out]
      have hbl := Bt.dBody_len HOK.out
      rw [HE.out]
      clear hbel e hel
      go_wp2_with fail
      refine (spec_seal_any _ _ (by rw [bstr_size]; unfold maxLen; omega)).mono ?_
      rintro e w5 ⟨rfl, hb5⟩
      have HB5 := Lib.hid (HW.out.trans (hb5.mono HW.out.size))
      clear hb5
      go_wp2
      go_ret
      exact ⟨by rw [HDD.out]; rfl, HB5.out⟩
end Go.Proofs.YtpgemeojhbeooaaDoor
