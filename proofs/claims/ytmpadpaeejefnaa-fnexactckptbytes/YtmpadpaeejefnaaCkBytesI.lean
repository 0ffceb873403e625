/-
  CkptBytes of the program.
-/
import Derived.Test.YtmpadpaeejefnaaProg
import Derived.KernelRfl
import Derived.Test.YtmpadpaeejefnaaCkPure
import Derived.Test.YtmpadpaeejefnaaRcBytes
import Derived.Test.YtmpadpaeejefnaaHsRight
import Derived.Test.YtmpadpaeejefnaaHsLaw
import Derived.OwnWalk
import Derived.Deep.RegionHeld3
import Derived.Deep.DeepCutAuto
import Derived.Deep.CutBlock
namespace Go.Proofs.Ytmpadpaeejefnaa
open Go.RowKit
open Bt (Rc)

set_option maxHeartbeats 1000000 in
theorem ckptRight_any (num : Int) (A : Option Addr) (n ca : Nat) (X : List Rc) (w : World) (hS : SmallR X) (hA : RdRc w w.heap.size A n X) :
    Calls Try.prog 19 #[.int .i64 num, .agg #[.slice A n ca]] w fun e w' => e = .returned (.bool (ckB num X)) ∧ Below w.heap.size w w' := by
  have HA := Lib.hid hA; have HS := Lib.hid hS; clear hA hS
  by_cases h1 : 1 ≤ num
  · by_cases h2 : num ≤ 1000000
    · rw [ckB_in ⟨h1, h2⟩]
      go_enter Try.func19, Try.ntmps19
      go_wp2_with fail
      have hb0 : Below w.heap.size w (w.alloc (.cells #[.slice A n ca] 29)) := (Below.refl _ _).alloc (Nat.le_refl _) _
      refine (impl_histRight_any A n ca X _ HS.out (HA.out.next hb0)).mono ?_
      rintro e w1 ⟨rfl, hb1⟩
      have HB1 := Lib.hid (hb0.trans (hb1.mono hb0.size))
      clear hb0 hb1
      go_wp2
      go_ret
      exact ⟨rfl, HB1.out⟩
    · have h2' : 1000000 < num := by omega
      rw [ckB_num (by omega)]
      go_enter Try.func19, Try.ntmps19
      go_wp2
      go_ret
      exact ⟨rfl, (Below.refl _ _).alloc (Nat.le_refl _) _⟩
  · have h1' : num < 1 := by omega
    rw [ckB_num (by omega)]
    go_enter Try.func19, Try.ntmps19
    go_wp2
    go_ret
    exact ⟨rfl, (Below.refl _ _).alloc (Nat.le_refl _) _⟩

theorem assemble_two (L1 L2 : List UInt8) (h : L1.length + L2.length ≤ 1000000) (W : World) : Calls Try.prog 20 #[.slice (some ⟨W.heap.size, 0, none⟩) 2 2] (W.alloc (.cells #[strV L1, strV L2] 9)) fun e w' => e = .returned (strV (L1 ++ L2)) ∧ Below W.heap.size W w' := by
  have h := assemble_any [bstr L1, bstr L2] W.heap.size 0 2 _ (parts_two W 9 _ _) (by simp) (by simp) (by rw [flat_two, bstr_list, bstr_list, List.length_append]; omega)
  rw [flat_two, bstr_list, bstr_list] at h
  exact h.mono fun e w' ⟨he, hb⟩ => ⟨he, ((Below.refl _ _).alloc (Nat.le_refl _) _).trans (hb.mono (by simp))⟩

set_option maxHeartbeats 4000000 in
set_option maxRecDepth 100000 in
theorem impl_ckptBytes (num : Int) (A : Option Addr) (n ca : Nat) (X : List Rc) (w : World) (hS : SmallR X) (hA : RdRc w w.heap.size A n X) :
    Calls Try.prog 8 #[.int .i64 num, .agg #[.slice A n ca]] w fun e w' => e = .returned (strV (ckBytes num X)) ∧ Below w.heap.size w w' := by
  have HL : Hid (X.length = n) := hA.1
  have HA := Lib.hid hA; have HS := Lib.hid hS; clear hA hS
  generalize hD : ckBytes num X = D
  have HD := Lib.hid hD; clear hD
  go_enter Try.func8, Try.ntmps8
  go_wp2_with fail
  have hb0 : Below w.heap.size w (w.alloc (.cells #[.slice A n ca] 29)) := (Below.refl _ _).alloc (Nat.le_refl _) _
  have k0 := isBlk_new w 29 [.slice A n ca]
  change IsBlk (w.alloc (.cells #[.slice A n ca] 29)) _ _ _ at k0
  generalize w.alloc (.cells #[.slice A n ca] 29) = W at hb0 k0 ⊢
  refine (ckptRight_any num A n ca X W HS.out (HA.out.next hb0)).mono ?_
  rintro e w1 ⟨rfl, hb1⟩
  have HB1 := Lib.hid (hb0.trans (hb1.mono hb0.size))
  have HK1 := Lib.hid (k0.below hb1 k0.lt)
  clear hb0 hb1 k0
  by_cases hok : ckB num X = true
  case neg =>
    have hok' : ckB num X = false := by simpa using hok
    have HF : Hid (D = []) := HD.out.symm.trans (ckBytes_no hok')
    rw [hok']
    clear hok hok'
    go_wp2
    go_ret
    exact ⟨by rw [HF.out]; rfl, HB1.out⟩
  have HDD : Hid (D = Bt.sealed (bstr (ckTo num X.length X))) := HD.out.symm.trans (ckBytes_ok hok)
  have HOK := Lib.hid (ckB_iff.1 hok).2
  have hnr := (ckB_iff.1 hok).1
  have hn : n ≤ 48 := by rw [← HL.out]; exact hRight_len HOK.out
  have HP1 := Lib.hid (fun W => impl_putNum_any num W (by omega) (by omega))
  have HP2 := Lib.hid (fun W => impl_putNum_any (n : Int) W (by omega) (by omega))
  have l1 := (Bt.putNum_length num).2; have l2 := (Bt.putNum_length (n : Int)).2
  have HE0 : Hid (Bt.putNum num ++ Bt.putNum (n : Int) = ckTo num n (X.take 0)) := by show _ = _; rw [List.take_zero, ckTo_nil]
  have HAS := Lib.hid (fun W => assemble_two (Bt.putNum num) (Bt.putNum (n : Int)) (by omega) W)
  rw [HE0.out] at HAS
  generalize Bt.putNum num = L1 at HP1 HAS
  generalize Bt.putNum (n : Int) = L2 at HP2 HAS
  rw [hok]
  have d0 : w1.cell? ⟨w.heap.size, 0, none⟩ = some (.slice A n ca) := HK1.out.cell rfl
  have hgl := HK1.out.lt
  clear hok hnr l1 l2 HE0
  go_wp2_with fail
  go_cut [5] (fun v5 wx => v5 = strV (ckTo num n (X.take 0)) ∧ wx.cell? ⟨w.heap.size, 0, none⟩ = some (.slice A n ca) ∧ Below w.heap.size w wx)
  case first =>
    go_region_held3 (fun w' => w'.cell? ⟨w.heap.size, 0, none⟩ = some (.slice A n ca))
      (first | exact d0 | exact hs1 | exact hs2 | exact hs3 | go_keep)
      (first
        | (go_at_call 21
           with_reducible refine Calls.mono (HP1.out _) ?_
           rintro e wa ⟨rfl, hba⟩
           have hs1 : wa.cell? ⟨w.heap.size, 0, none⟩ = some (.slice A n ca) := (hba.cell (p := ⟨w.heap.size, 0, none⟩) hgl).trans d0
           have HBa : Hid (Below w.heap.size w wa) := HB1.out.drew.trans (hba.mono HB1.out.size)
           have hgla : w.heap.size < wa.heap.size := Nat.lt_of_lt_of_le hgl hba.size
           clear hba)
        | (go_at_call 21
           with_reducible refine Calls.mono (HP2.out _) ?_
           rintro e wb ⟨rfl, hbb⟩
           have hs2 : wb.cell? ⟨w.heap.size, 0, none⟩ = some (.slice A n ca) := (hbb.cell (p := ⟨w.heap.size, 0, none⟩) hgla).trans hs1
           have HBb : Hid (Below w.heap.size w wb) := HBa.out.trans (hbb.mono HBa.out.size)
           have hglb : w.heap.size < wb.heap.size := Nat.lt_of_lt_of_le hgla hbb.size
           clear hbb)
        | (go_at_call 20
           with_reducible refine Calls.mono (HAS.out _) ?_
           rintro e wd ⟨rfl, hbd⟩
           have hs3 : wd.cell? ⟨w.heap.size, 0, none⟩ = some (.slice A n ca) := (hbd.cell (p := ⟨w.heap.size, 0, none⟩) hglb).trans hs2
           have HBd : Hid (Below w.heap.size w wd) := HBb.out.trans (hbd.mono HBb.out.size)
           clear hbd))
    all_goals (go_wp2_with fail; go_meet)
    all_goals exact ⟨rfl, hs3, HBd.out⟩
  case rest =>
    obtain ⟨rfl, hx, hbc⟩ := hcut
    have HBC := Lib.hid hbc
    clear d0 hgl HP1 HP2 HAS hbc
    go_wp2
    clear hx
    go_loopw [5, 23] (fun t i wr => ∃ (k : Nat), k ≤ n ∧ i = .int .i64 (k : Nat) ∧ t = strV (ckTo num n (X.take k)) ∧ Below w.heap.size w wr) (fun _ i wr => n - (intOf i).toNat)
    case atStart => exact ⟨0, by omega, rfl, rfl, HBC.out⟩
    case round =>
      obtain ⟨k, hk, rfl, rfl, hbel⟩ := hrel
      have HW := Lib.hid hbel
      by_cases hlt : k < n
      · obtain ⟨g, off, rfl, hg, hc0, hc1, hc2, hc3, hc4, hc5⟩ := (HA.out.below hbel).at hlt
        have hrok := (hRight_at HOK.out (k := k) (by have := HL.out; omega)).1
        have HT := Lib.hid (ck_take (X := X) (k := k) (by have := HL.out; omega))
        have hel := ckTo_take_len HOK.out num n k (by have := HL.out; omega)
        clear hbel
        generalize X.getD k Rc.zero = r at hc0 hc1 hc2 hc3 hc4 hc5 hrok HT
        have hds : r.d.size ≤ maxLen := by have := hrok.2.2.2.2.2.2.2.2.2.2.1; unfold maxLen; omega
        have HZ : Hid (ckTo num n (X.take (k + 1)) = ckTo num n (X.take k) ++ Bt.putText (bstr r.bytes)) := by show _ = _; rw [HT.out, ckTo_snoc]
        have hone := ck_one hrok
        have hbz := Bt.Rc.bytes_short hrok
        have HRB := Lib.hid (fun W => impl_recBytes_any r W hds)
        have HPT := Lib.hid (fun W => impl_putText_any (bstr r.bytes) W (by rw [bstr_size]; unfold maxLen; omega))
        have HAS := Lib.hid (fun W => assemble_two (ckTo num n (X.take k)) (Bt.putText (bstr r.bytes)) (by omega) W)
        rw [← HZ.out] at HAS
        generalize ckTo num n (X.take k) = E at *
        generalize Bt.putText (bstr r.bytes) = PT at HPT HAS
        generalize r.bytes = RB at HRB HPT
        obtain ⟨rk, rs, rq, rt, ro, rd⟩ := r
        simp only at hc0 hc1 hc2 hc3 hc4 hc5
        clear hrok hds hone hbz HZ HT hel
        go_wp2_with fail
        refine (HRB.out _).mono ?_
        rintro e w3 ⟨rfl, hb3⟩
        have HB3 : Hid (Below w.heap.size w w3) := (HW.out.alloc HW.out.size _).trans (hb3.mono (by simp; have := HW.out.size; omega))
        clear hb3
        go_wp2_with fail
        refine (HPT.out _).mono ?_
        rintro e w4 ⟨rfl, hb4⟩
        have HB4 : Hid (Below w.heap.size w w4) := HB3.out.trans (hb4.mono HB3.out.size)
        clear hb4
        go_wp2_with fail
        refine (HAS.out _).mono ?_
        rintro e w5 ⟨rfl, hb5⟩
        have HB5 : Hid (Below w.heap.size w w5) := HB4.out.trans (hb5.mono HB4.out.size)
        clear hb5
        go_wp2
        go_roundw
        case rel => exact ⟨k + 1, by omega, by go_num, rfl, HB5.out⟩
        case measure => simp [intOf]; omega
      · obtain rfl : k = n := by omega
        have e : X.take k = X := by rw [← HL.out]; exact List.take_length
        have HE : Hid (ckTo num k (X.take k) = ckTo num X.length X) := by show _ = _; rw [e, HL.out]
        have hbl := ckTo_len (num := num) HOK.out
        rw [HE.out]
        clear hbel e
        go_wp2_with fail
        refine (impl_seal_any _ _ (by rw [bstr_size]; unfold maxLen; omega)).mono ?_
        rintro e w5 ⟨rfl, hb5⟩
        have HB5 := Lib.hid (HW.out.trans (hb5.mono HW.out.size))
        clear hb5
        go_wp2
        go_ret
        exact ⟨by rw [HDD.out]; rfl, HB5.out⟩
end Go.Proofs.Ytmpadpaeejefnaa
