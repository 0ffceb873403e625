/-
  What the laws' own measures of a chip answer: what is left of the room, or -1.
-/
import Derived.Test.YtloaeglmngcenaaGreatDoorProg
import Derived.KernelRfl
import Derived.Test.YtloaeglmngcenaaGreatDoorNdMem
namespace Go.Proofs.YtloaeglmngcenaaGreatDoor
open Go.RowKit

set_option maxHeartbeats 1000000 in
theorem szPage_any (u : Bool) (d : ByteArray) (left : Int) (w : World) (h0 : 0 ≤ left) (h1 : left ≤ 1048576) (hd : d.size ≤ 9223372036854775807) :
    Calls Tryz.prog 274 #[.agg #[.bool u, .string d], .int .i64 left] w fun e w' => e = .returned (.int .i64 (szR d.size left)) ∧ Below w.heap.size w w' := by
  by_cases hc : (d.size : Int) ≤ left
  · rw [szR_ok hc]
    go_enter Tryz.func274, Tryz.ntmps274
    go_wp2
    go_ret
    exact ⟨rfl, (Below.refl _ _).alloc (Nat.le_refl _) _⟩
  · rw [szR_no (by omega)]
    go_enter Tryz.func274, Tryz.ntmps274
    go_wp2
    go_ret
    exact ⟨rfl, (Below.refl _ _).alloc (Nat.le_refl _) _⟩

set_option maxHeartbeats 1000000 in
theorem szPageS_any (A : Option Addr) (n ca : Nat) (X : List Pg) (left : Int) (w : World) (h0 : 0 ≤ left) (h1 : left ≤ 1048576) (hn : n ≤ 9223372036854775807) (hd : ∀ p ∈ X, p.data.size ≤ 9223372036854775807) (hA : RdPg w w.heap.size A n X) :
    Calls Tryz.prog 251 #[.slice A n ca, .int .i64 left] w fun e w' => e = .returned (.int .i64 (szR (szPgs X) left)) ∧ Below w.heap.size w w' := by
  have HA := Lib.hid hA; have HD := Lib.hid hd; clear hA hd
  obtain ⟨f, hf⟩ : ∃ f, f = fun i => (X.getD i zeroPg).data.size := ⟨_, rfl⟩
  have HS : Hid (szPgs X = n + sumTo f n) := by show szPgs X = _; rw [szPgs, HA.out.1, hf]
  have HF := Lib.hid hf; clear hf
  rw [HS.out]
  by_cases hc : (n : Int) ≤ left
  · go_enter Tryz.func251, Tryz.ntmps251
    go_wp2
    go_loopw [1, 5] (fun l i wr => ∃ k : Nat, k ≤ n ∧ i = .int .i64 (k : Nat) ∧ l = .int .i64 (left - n - (sumTo f k : Nat)) ∧ 0 ≤ left - n - (sumTo f k : Nat) ∧ Below w.heap.size w wr) (fun _ i _ => n - (intOf i).toNat)
    case atStart => exact ⟨0, by omega, rfl, by simp [sumTo], by simp [sumTo]; omega, Below.refl _ _⟩
    case round =>
      obtain ⟨k, hk, rfl, rfl, hl, hbel⟩ := hrel
      have HW := Lib.hid hbel
      by_cases hlt : k < n
      · obtain ⟨g, off, rfl, hg, hc0, hc1⟩ := (HA.out.below hbel).at hlt
        have hds := HD.out _ (getD_lt (z := zeroPg) (show k < X.length by have := HA.out.1; omega))
        have hfk : f k = (X.getD k zeroPg).data.size := by rw [HF.out]
        have HST : Hid (sumTo f (k + 1) = sumTo f k + (X.getD k zeroPg).data.size) := by show _ = _; rw [sumTo, hfk]
        have HMN : Hid (sumTo f (k + 1) ≤ sumTo f n) := Lib.hid (sumTo_mono (by omega))
        clear hbel hfk
        generalize X.getD k zeroPg = p at hc0 hc1 hds HST
        generalize sumTo f k = s at hl HST
        by_cases hfit : (p.data.size : Int) ≤ left - n - s
        · have hz := szR_ok hfit
          go_wp2_with fail
          refine (szPage_any _ _ _ _ hl (by omega) hds).mono ?_
          rintro e w2 ⟨rfl, hb2⟩
          have HB2 := Lib.hid (HW.out.trans (hb2.mono HW.out.size))
          clear hb2
          have hnn : 0 ≤ left - n - s - p.data.size := by omega
          go_wp2
          go_roundw
          case rel => exact ⟨k + 1, by omega, by go_num, by rw [HST.out]; go_num, by rw [HST.out]; omega, HB2.out⟩
          case measure => simp [intOf]; omega
        · have hz := szR_no (t := p.data.size) (left := left - n - s) (by omega)
          go_wp2_with fail
          refine (szPage_any _ _ _ _ hl (by omega) hds).mono ?_
          rintro e w2 ⟨rfl, hb2⟩
          have HB2 := Lib.hid (HW.out.trans (hb2.mono HW.out.size))
          clear hb2
          go_wp2
          go_ret
          exact ⟨ret_i (szR_no (by have := HST.out; have := HMN.out; omega)).symm, HB2.out⟩
      · clear hbel
        obtain rfl : k = n := by omega
        go_wp2
        go_ret
        exact ⟨ret_i (by rw [szR_ok (by omega)]; omega), HW.out⟩
  · rw [szR_no (by omega)]
    go_enter Tryz.func251, Tryz.ntmps251
    go_wp2
    go_ret
    exact ⟨rfl, Below.refl _ _⟩

set_option maxHeartbeats 1000000 in
theorem szBlock_any (A : Option Addr) (n ca : Nat) (X : List Pg) (er : Int) (bad : Bool) (left : Int) (w : World) (h0 : 0 ≤ left) (h1 : left ≤ 1048576) (hn : n ≤ 9223372036854775807) (hd : ∀ p ∈ X, p.data.size ≤ 9223372036854775807) (hA : RdPg w w.heap.size A n X) :
    Calls Tryz.prog 203 #[.agg #[.slice A n ca, .int .i64 er, .bool bad], .int .i64 left] w fun e w' => e = .returned (.int .i64 (szR (szPgs X) left)) ∧ Below w.heap.size w w' := by
  have HA := Lib.hid hA; have HD := Lib.hid hd; clear hA hd
  go_enter Tryz.func203, Tryz.ntmps203
  go_wp2_with fail
  refine (szPageS_any A n ca X left _ h0 h1 hn HD.out ?_).mono ?_
  · exact (HA.out.below ((Below.refl _ _).alloc (Nat.le_refl _) _)).mono (by simp)
  rintro e w4 ⟨rfl, hb4⟩
  have HB4 := Lib.hid (((Below.refl w.heap.size w).alloc (Nat.le_refl _) _).trans (hb4.mono (by simp)))
  clear hb4
  by_cases hc : ((szPgs X : Nat) : Int) ≤ left
  · have hz := szR_ok hc
    have hnn : 0 ≤ left - (szPgs X : Nat) := by omega
    go_wp2
    go_ret
    exact ⟨ret_i hz.symm, HB4.out⟩
  · have hz := szR_no (t := szPgs X) (left := left) (by omega)
    go_wp2
    go_ret
    exact ⟨ret_i hz.symm, HB4.out⟩

set_option maxHeartbeats 1000000 in
theorem szBlockS_any (A : Option Addr) (n ca : Nat) (X : List Bk) (left : Int) (w : World) (h0 : 0 ≤ left) (h1 : left ≤ 1048576) (hX : Wide X) (hA : RdBk w w.heap.size A n X) :
    Calls Tryz.prog 137 #[.slice A n ca, .int .i64 left] w fun e w' => e = .returned (.int .i64 (szR (szBks X) left)) ∧ Below w.heap.size w w' := by
  have hn : n ≤ 9223372036854775807 := by rw [← hA.1]; exact hX.1
  have HA := Lib.hid hA; have HD := Lib.hid hX; clear hA hX
  obtain ⟨f, hf⟩ : ∃ f, f = fun i => szPgs (X.getD i zeroBk).pages := ⟨_, rfl⟩
  have HS : Hid (szBks X = n + sumTo f n) := by show szBks X = _; rw [szBks, HA.out.1, hf]
  have HF := Lib.hid hf; clear hf
  rw [HS.out]
  by_cases hc : (n : Int) ≤ left
  · go_enter Tryz.func137, Tryz.ntmps137
    go_wp2
    go_loopw [1, 5] (fun l i wr => ∃ k : Nat, k ≤ n ∧ i = .int .i64 (k : Nat) ∧ l = .int .i64 (left - n - (sumTo f k : Nat)) ∧ 0 ≤ left - n - (sumTo f k : Nat) ∧ Below w.heap.size w wr) (fun _ i _ => n - (intOf i).toNat)
    case atStart => exact ⟨0, by omega, rfl, by simp [sumTo], by simp [sumTo]; omega, Below.refl _ _⟩
    case round =>
      obtain ⟨k, hk, rfl, rfl, hl, hbel⟩ := hrel
      have HW := Lib.hid hbel
      by_cases hlt : k < n
      · obtain ⟨g, off, pA, pc, rfl, hg, hc0, hc1, hc2, hpg⟩ := (HA.out.below hbel).at hlt
        obtain ⟨hpl, -, hds⟩ := HD.out.2 _ (getD_lt (z := zeroBk) (show k < X.length by have := HA.out.1; omega))
        have HPG := Lib.hid (hpg.mono hbel.size); have HDS := Lib.hid hds
        have hfk : f k = szPgs (X.getD k zeroBk).pages := by rw [HF.out]
        have HST : Hid (sumTo f (k + 1) = sumTo f k + szPgs (X.getD k zeroBk).pages) := by show _ = _; rw [sumTo, hfk]
        have HMN : Hid (sumTo f (k + 1) ≤ sumTo f n) := Lib.hid (sumTo_mono (by omega))
        clear hbel hfk hpg hds
        generalize X.getD k zeroBk = b at hc0 hc1 hc2 hpl HST HPG HDS
        generalize sumTo f k = s at hl HST
        by_cases hfit : ((szPgs b.pages : Nat) : Int) ≤ left - n - s
        · have hz := szR_ok hfit
          go_wp2_with fail
          refine (szBlock_any _ _ _ _ _ _ _ _ hl (by omega) hpl HDS.out HPG.out).mono ?_
          rintro e w2 ⟨rfl, hb2⟩
          have HB2 := Lib.hid (HW.out.trans (hb2.mono HW.out.size))
          clear hb2
          have hnn : 0 ≤ left - n - s - (szPgs b.pages : Nat) := by omega
          go_wp2
          go_roundw
          case rel => exact ⟨k + 1, by omega, by go_num, by rw [HST.out]; go_num, by rw [HST.out]; omega, HB2.out⟩
          case measure => simp [intOf]; omega
        · have hz := szR_no (t := szPgs b.pages) (left := left - n - s) (by omega)
          go_wp2_with fail
          refine (szBlock_any _ _ _ _ _ _ _ _ hl (by omega) hpl HDS.out HPG.out).mono ?_
          rintro e w2 ⟨rfl, hb2⟩
          have HB2 := Lib.hid (HW.out.trans (hb2.mono HW.out.size))
          clear hb2
          go_wp2
          go_ret
          exact ⟨ret_i (szR_no (by have := HST.out; have := HMN.out; omega)).symm, HB2.out⟩
      · clear hbel
        obtain rfl : k = n := by omega
        go_wp2
        go_ret
        exact ⟨ret_i (by rw [szR_ok (by omega)]; omega), HW.out⟩
  · rw [szR_no (by omega)]
    go_enter Tryz.func137, Tryz.ntmps137
    go_wp2
    go_ret
    exact ⟨rfl, Below.refl _ _⟩

set_option maxHeartbeats 1000000 in
theorem szNand_any (A : Option Addr) (n ca : Nat) (X : List Bk) (left : Int) (w : World) (h0 : 0 ≤ left) (h1 : left ≤ 1048576) (hX : Wide X) (hA : RdBk w w.heap.size A n X) :
    Calls Tryz.prog 60 #[.agg #[.slice A n ca], .int .i64 left] w fun e w' => e = .returned (.int .i64 (szR (szBks X) left)) ∧ Below w.heap.size w w' := by
  have HA := Lib.hid hA; have HD := Lib.hid hX; clear hA hX
  go_enter Tryz.func60, Tryz.ntmps60
  go_wp2_with fail
  refine (szBlockS_any A n ca X left _ h0 h1 HD.out ?_).mono ?_
  · exact (HA.out.below ((Below.refl _ _).alloc (Nat.le_refl _) _)).mono (by simp)
  rintro e w4 ⟨rfl, hb4⟩
  have HB4 := Lib.hid (((Below.refl w.heap.size w).alloc (Nat.le_refl _) _).trans (hb4.mono (by simp)))
  clear hb4
  by_cases hc : ((szBks X : Nat) : Int) ≤ left
  · have hz := szR_ok hc
    have hnn : 0 ≤ left - (szBks X : Nat) := by omega
    go_wp2
    go_ret
    exact ⟨ret_i hz.symm, HB4.out⟩
  · have hz := szR_no (t := szBks X) (left := left) (by omega)
    go_wp2
    go_ret
    exact ⟨ret_i hz.symm, HB4.out⟩
end Go.Proofs.YtloaeglmngcenaaGreatDoor
