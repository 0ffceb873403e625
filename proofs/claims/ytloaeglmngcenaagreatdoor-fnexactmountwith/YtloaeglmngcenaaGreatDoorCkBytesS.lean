/-
  CkptBytes of the model.
-/
import Derived.Test.YtloaeglmngcenaaGreatDoorProg
import Derived.KernelRfl
import Derived.Test.YtloaeglmngcenaaGreatDoorCkPure
import Derived.Test.YtloaeglmngcenaaGreatDoorCkRow
import Derived.Test.YtloaeglmngcenaaGreatDoorRcBytes
import Derived.Test.YtloaeglmngcenaaGreatDoorHsRight
import Derived.OwnWalk
import Derived.Deep.RegionHeld3
import Derived.Deep.DeepCutAuto
import Derived.Deep.CutBlock
namespace Go.Proofs.YtloaeglmngcenaaGreatDoor
open Go.RowKit
open Bt (Rc)

theorem info_byteC : (Tryz.prog.info? 5).map (fun i => (i.zero, i.size, i.bytes)) = some (some (.int .u8 0), 1, 1) := by kernel_rfl

set_option maxHeartbeats 4000000 in
set_option maxRecDepth 100000 in
theorem l12Bytes_any (num : Int) (A : Option Addr) (n ca : Nat) (X : List Rc) (w : World) (h1 : 1 ≤ num) (h2 : num ≤ 1000001) (hr : hRight X = true) (hA : RdRc w w.heap.size A n X) :
    Calls Tryz.prog 126 #[.int .i64 num, .agg #[.slice A n ca]] w fun e w' => e = .returned (strV (ckText num X)) ∧ Below w.heap.size w w' := by
  have HL : Hid (X.length = n) := hA.1
  have HOK := Lib.hid hr
  have HA := Lib.hid hA; clear hA hr
  have hn : n ≤ 48 := by rw [← HL.out]; exact hRight_len HOK.out
  have HDD : Hid (ckText num X = Bt.sealed (bstr (ckTo num X.length X))) := rfl
  generalize ckText num X = D at HDD ⊢
  have HP1 := Lib.hid (fun W => spec_putNum_any num W (by omega) (by omega))
  have HP2 := Lib.hid (fun W => spec_putNum_any (n : Int) W (by omega) (by omega))
  have l1 := (Bt.putNum_length num).2; have l2 := (Bt.putNum_length (n : Int)).2
  have HE0 : Hid (Bt.putNum num ++ Bt.putNum (n : Int) = ckTo num n []) := by show _ = _; rw [ckTo_nil]
  have q1 : ∀ W, (Op.stringOp .add (bstr (Bt.putNum num)) (bstr (Bt.putNum (n : Int)))).run Tryz.prog W = .ok (strV (ckTo num n [])) W := by
    intro W
    have := add_str (P := Tryz.prog) W (bstr (Bt.putNum num)) (bstr (Bt.putNum (n : Int))) (by rw [bstr_size, bstr_size]; omega)
    rwa [bstr_list, bstr_list, HE0.out] at this
  have HC0 := Lib.hid (fun W => bytes_tx (P := Tryz.prog) Tryz.underlying9 Tryz.underlying22 Tryz.underlying5 (bstr (ckTo num n [])) (by rw [bstr_size, ← HE0.out, List.length_append]; omega) W)
  rw [bstr_list] at HC0
  generalize Bt.putNum num = L1 at HP1 q1
  generalize Bt.putNum (n : Int) = L2 at HP2 q1
  clear l1 l2 HE0
  go_enter Tryz.func126, Tryz.ntmps126
  go_wp2_with fail
  have hb0 : Below w.heap.size w (w.alloc (.cells #[.slice A n ca] 29)) := (Below.refl _ _).alloc (Nat.le_refl _) _
  have k0 := isBlk_new w 29 [.slice A n ca]
  change IsBlk (w.alloc (.cells #[.slice A n ca] 29)) _ _ _ at k0
  generalize w.alloc (.cells #[.slice A n ca] 29) = w1 at hb0 k0 ⊢
  have d0 : w1.cell? ⟨w.heap.size, 0, none⟩ = some (.slice A n ca) := k0.cell rfl
  have hgl := k0.lt
  have HB1 := Lib.hid hb0; have HK1 := Lib.hid k0
  clear hb0 k0
  go_cut [5] (fun v5 wx => TxRow wx (w.heap.size + 1) 5 v5 (ckTo num n []) ∧ IsBlk wx w.heap.size 29 [.slice A n ca] ∧ Below w.heap.size w wx)
  case first =>
    go_region_law (
      (go_simp
       first
         | (go_at_call 162
            with_reducible refine Calls.mono (HP1.out _) ?_
            rintro e wa ⟨rfl, hba⟩
            have hs1 : wa.cell? ⟨w.heap.size, 0, none⟩ = some (.slice A n ca) := (hba.cell (p := ⟨w.heap.size, 0, none⟩) hgl).trans d0
            have HBa : Hid (Below w.heap.size w wa) := HB1.out.drew.trans (hba.mono HB1.out.size)
            have HKa : Hid (IsBlk wa w.heap.size 29 [.slice A n ca]) := IsBlk.below (w := w1.drew) HK1.out hba hgl
            have hgla : w.heap.size < wa.heap.size := Nat.lt_of_lt_of_le hgl hba.size
            clear hba)
         | (go_at_call 162
            with_reducible refine Calls.mono (HP2.out _) ?_
            rintro e wb ⟨rfl, hbb⟩
            have hs2 : wb.cell? ⟨w.heap.size, 0, none⟩ = some (.slice A n ca) := (hbb.cell (p := ⟨w.heap.size, 0, none⟩) hgla).trans hs1
            have HBb : Hid (Below w.heap.size w wb) := HBa.out.trans (hbb.mono HBa.out.size)
            have HKb : Hid (IsBlk wb w.heap.size 29 [.slice A n ca]) := HKa.out.below hbb hgla
            have hglb : w.heap.size < wb.heap.size := Nat.lt_of_lt_of_le hgla hbb.size
            obtain ⟨cv, Wc, hcv, htx, hbc⟩ := HC0.out wb
            have hs3 : Wc.cell? ⟨w.heap.size, 0, none⟩ = some (.slice A n ca) := (hbc.cell (p := ⟨w.heap.size, 0, none⟩) hglb).trans hs2
            have HTX := Lib.hid htx; have HBC := Lib.hid hbc
            clear hbb htx hbc)))
    all_goals (go_wp2_with fail; go_meet)
    all_goals exact ⟨HTX.out.mono (by omega), HKb.out.below HBC.out hglb, HBb.out.trans (HBC.out.mono HBb.out.size)⟩
  case rest =>
    obtain ⟨htx, hkc, hbc⟩ := hcut
    have HTX := Lib.hid htx; have HKC := Lib.hid hkc; have HBC := Lib.hid hbc
    clear d0 hgl HP1 HP2 HC0 q1 htx hkc hbc
    go_wp2_with fail
    go_loopw [5, 6] (fun v i wr => ∃ (k : Nat) (v' : Value), k ≤ n ∧ i = .int .i64 (k : Nat) ∧ v' = v ∧ Hid (TxRow wr (w.heap.size + 1) 5 v' (ckTo num n (X.take k))) ∧ Hid (IsBlk wr w.heap.size 29 [.slice A n ca]) ∧ Hid (Below w.heap.size w wr)) (fun _ i wr => n - (intOf i).toNat)
    case atStart => exact ⟨0, _, by omega, rfl, rfl, by rw [List.take_zero]; exact HTX, HKC, HBC⟩
    case round =>
      clear HTX HKC HBC
      obtain ⟨k, v, hk, rfl, rfl, HTX, HKR, HW⟩ := hrel
      have hx : wr.cell? ⟨w.heap.size, 0, none⟩ = some (.slice A n ca) := HKR.out.cell rfl
      by_cases hlt : k < n
      · obtain ⟨g, off, rfl, hg, hc0, hc1, hc2, hc3, hc4, hc5⟩ := (HA.out.below HW.out).at hlt
        have hrok := (hRight_at HOK.out (k := k) (by have := HL.out; omega)).1
        have HT := Lib.hid (ck_take (X := X) (k := k) (by have := HL.out; omega))
        have hel := ckTo_take_len HOK.out num n k (by have := HL.out; omega)
        generalize X.getD k Rc.zero = r at hc0 hc1 hc2 hc3 hc4 hc5 hrok HT
        have HZ : Hid (ckTo num n (X.take (k + 1)) = ckTo num n (X.take k) ++ Bt.putText (bstr r.bytes)) := by show _ = _; rw [HT.out, ckTo_snoc]
        have hone := ck_one hrok
        have hbz := Bt.Rc.bytes_short hrok
        have HRB := Lib.hid (fun W => l03Bytes_any r W hrok)
        have HPT := Lib.hid (fun W => spec_putText_any (bstr r.bytes) W (by rw [bstr_size]; unfold maxLen; omega))
        generalize ckTo num n (X.take k) = E at *
        generalize Bt.putText (bstr r.bytes) = PT at HPT HZ hone
        generalize r.bytes = RB at HRB HPT
        obtain ⟨rk, rs, rq, rt, ro, rd⟩ := r
        simp only at hc0 hc1 hc2 hc3 hc4 hc5
        have hlg := HKR.out.lt
        have hsz := HW.out.size
        clear hrok hbz HT
        go_wp2_with fail
        with_reducible refine (HRB.out _).mono ?_
        rintro e w3 ⟨rfl, hb3⟩
        have HB3 : Hid (Below w.heap.size w w3) := HW.out.trans (hb3.mono HW.out.size)
        have HT3 := Lib.hid (HTX.out.below hb3); have HK3 := Lib.hid (HKR.out.below hb3 hlg)
        have hs3 := hb3.size
        clear hb3 hc0 hc1 hc2 hc3 hc4 hc5 hx
        go_wp2_with fail
        with_reducible refine (HPT.out _).mono ?_
        rintro e w4 ⟨rfl, hb4⟩
        have HB4 : Hid (Below w.heap.size w w4) := HB3.out.trans (hb4.mono HB3.out.size)
        have HT4 := Lib.hid (HT3.out.below hb4); have HK4 := Lib.hid (HK3.out.below hb4 HK3.out.lt)
        have hs4 := hb4.size
        clear hb4 HT3 HK3
        go_wp2_with (at_builtin; refine wpList_append_tx (w0 := w4) rfl _ _ 22 9 5 rfl Tryz.underlying22 Tryz.underlying9 info_byteC rfl HT4.out (Below.refl _ _) (by omega) rfl (by rw [bstr_size]; omega) ?_; intro v' w5 ho5 hb5; rw [bstr_list, ← HZ.out] at ho5; have HB5 := Lib.hid hb5; have HO5 := Lib.hid ho5; clear hb5 ho5)
        go_roundw
        case rel => exact ⟨k + 1, _, by omega, by go_num, rfl, HO5, HK4.out.below HB5.out (by omega), HB4.out.trans (HB5.out.mono (by omega))⟩
        case measure => simp [intOf]; omega
      · obtain rfl : k = n := by omega
        have e : X.take k = X := by rw [← HL.out]; exact List.take_length
        have HE : Hid (ckTo num k (X.take k) = ckTo num X.length X) := by show _ = _; rw [e, HL.out]
        have hbl := ckTo_len (num := num) HOK.out
        rw [HE.out] at HTX
        have hcv := conv_tx (P := Tryz.prog) Tryz.underlying22 Tryz.underlying5 Tryz.underlying9 HTX.out
        clear e
        go_wp2_with fail
        refine (spec_seal_any _ _ (by rw [bstr_size]; unfold maxLen; omega)).mono ?_
        rintro e w5 ⟨rfl, hb5⟩
        have HB5 := Lib.hid (HW.out.trans (hb5.mono HW.out.size))
        clear hb5
        go_wp2
        go_ret
        exact ⟨by rw [HDD.out]; rfl, HB5.out⟩

set_option maxHeartbeats 2000000 in
theorem spec_ckptBytes (num : Int) (A : Option Addr) (n ca : Nat) (X : List Rc) (w : World) (hS : SmallR X) (hA : RdRc w w.heap.size A n X) :
    Calls Tryz.prog 241 #[.int .i64 num, .agg #[.slice A n ca]] w fun e w' => e = .returned (strV (ckBytes num X)) ∧ Below w.heap.size w w' := by
  have HA := Lib.hid hA; have HS := Lib.hid hS; clear hA hS
  generalize hD : ckBytes num X = D
  have HD := Lib.hid hD; clear hD
  by_cases h1 : 1 ≤ num ∧ num ≤ 1000000
  case neg =>
    have HF : Hid (D = []) := HD.out.symm.trans (ckBytes_no (ckB_num h1))
    have hc := rcIs_no h1
    clear h1
    go_enter Tryz.func241, Tryz.ntmps241
    go_wp2_with fail
    refine (rcIs_any num 1 1000000 _).mono ?_
    rintro e w1 ⟨rfl, rfl⟩
    rw [hc]
    go_wp2
    go_ret
    exact ⟨by rw [HF.out]; rfl, (Below.refl _ _).alloc (Nat.le_refl _) _⟩
  have hc := rcIs_yes h1
  go_enter Tryz.func241, Tryz.ntmps241
  go_wp2_with fail
  have hb0 : Below w.heap.size w (w.alloc (.cells #[.slice A n ca] 29)) := (Below.refl _ _).alloc (Nat.le_refl _) _
  have k0 := isBlk_new w 29 [.slice A n ca]
  change IsBlk (w.alloc (.cells #[.slice A n ca] 29)) _ _ _ at k0
  generalize w.alloc (.cells #[.slice A n ca] 29) = w1 at hb0 k0 ⊢
  refine (rcIs_any num 1 1000000 _).mono ?_
  rintro e w1' ⟨rfl, rfl⟩
  rw [hc]
  have d0 : w1.cell? ⟨w.heap.size, 0, none⟩ = some (.slice A n ca) := k0.cell rfl
  go_wp2_with fail
  refine (spec_histRight_any A n ca X w1 HS.out (HA.out.next hb0)).mono ?_
  rintro e w2 ⟨rfl, hb2⟩
  have HB2 := Lib.hid (hb0.trans (hb2.mono hb0.size))
  have HK2 := Lib.hid (k0.below hb2 k0.lt)
  clear hb0 k0 hb2 d0
  cases hr : hRight X with
  | false =>
    have HF : Hid (D = []) := HD.out.symm.trans (ckBytes_no (by rw [ckB_in h1, hr]))
    go_wp2
    go_ret
    exact ⟨by rw [HF.out]; rfl, HB2.out⟩
  | true =>
    have HF : Hid (D = ckText num X) := HD.out.symm.trans (by unfold ckBytes; rw [if_pos (by rw [ckB_in h1, hr])])
    have HR := Lib.hid hr
    have d0 : w2.cell? ⟨w.heap.size, 0, none⟩ = some (.slice A n ca) := HK2.out.cell rfl
    go_wp2_with fail
    refine (l12Bytes_any num A n ca X w2 (by omega) (by omega) HR.out (HA.out.next HB2.out)).mono ?_
    rintro e w3 ⟨rfl, hb3⟩
    have HB3 := Lib.hid (HB2.out.trans (hb3.mono HB2.out.size))
    clear hb3
    go_wp2
    go_ret
    exact ⟨by rw [HF.out]; rfl, HB3.out⟩
end Go.Proofs.YtloaeglmngcenaaGreatDoor
