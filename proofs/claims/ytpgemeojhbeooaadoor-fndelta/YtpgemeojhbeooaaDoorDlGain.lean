/-
  DeltaGain, of the program and of the model.
-/
import Derived.Test.YtpgemeojhbeooaaDoorProg
import Derived.KernelRfl
import Derived.Test.YtpgemeojhbeooaaDoorDlOfS
import Derived.Test.YtpgemeojhbeooaaDoorDlBytes
import Derived.Test.YtpgemeojhbeooaaDoorDlBytesS
namespace Go.Proofs.YtpgemeojhbeooaaDoor
open Go.RowKit
open Bt (Dop dok)

theorem dlOf_from {base text : List UInt8} : ∀ o ∈ Bt.dlOf base text, o.f ≤ base.length := by
  refine Bt.dlRun_all (fun o => o.f ≤ base.length) ?_ ?_ _ _ _ _ rfl (by simp)
  · intro t h1 h2; simp only; omega
  · intro i n h1 h2 h3; simp only; omega
theorem dOf_sizes {base text : ByteArray} (h : Bt.dOfCode base text = 0) : base.size ≤ 200 ∧ text.size ≤ 200 := by
  unfold Bt.dOfCode at h
  by_cases h1 : 8000 < base.size ∨ 8000 < text.size
  · rw [if_pos h1] at h; cases h
  rw [if_neg h1] at h
  by_cases h2 : 200 < base.size ∨ 200 < text.size
  · rw [if_pos h2] at h; cases h
  omega
theorem dOfList_from {base text : ByteArray} (h : Bt.dOfCode base text = 0) : ∀ o ∈ Bt.dOfList base text, o.x.size ≤ 9223372036854775807 ∧ o.f ≤ 9223372036854775807 := by
  intro o ho
  have hb := dOf_sizes h
  have hok := Bt.okL_mem (Bt.dOfList_ok base text) ho
  have hx : o.x.size ≤ 200 := by rcases Bt.ok_cases hok with hh | hh <;> omega
  refine ⟨by omega, ?_⟩
  unfold Bt.dOfList at ho
  rw [if_pos h] at ho
  have := dlOf_from o ho
  have hl : base.data.toList.length = base.size := rfl
  omega
theorem dBytes_len (l : List Dop) : (Bt.dBytes l).length ≤ 8814 := by
  cases e : Bt.okL l
  · rw [Bt.dBytes_no e]; simp
  · rw [Bt.dBytes_ok e]
    have := Bt.dBody_len e
    by_cases h : 7996 < (bstr (Bt.dBody l)).size
    · rw [Bt.seal_long h]; simp
    · rw [Bt.seal_ok h, List.length_append, Bt.sum_length, bstr_list]; omega

set_option maxHeartbeats 2000000 in
theorem impl_deltaGain (base text : ByteArray) (w : World) (hb9 : base.size ≤ 9223372036854775807) (ht9 : text.size ≤ 9223372036854775807) :
    Calls Tryd.prog 17 #[.string base, .string text] w fun e w' => e = .returned (.int .i64 (Bt.dGain base text)) ∧ Below w.heap.size w w' := by
  have H := Lib.hid (impl_deltaOf base text w hb9 ht9)
  obtain ⟨R, hR⟩ : ∃ R, R = Bt.dOfList base text := ⟨_, rfl⟩
  obtain ⟨C, hC⟩ : ∃ C, C = Bt.dOfCode base text := ⟨_, rfl⟩
  have HG : Hid (Bt.dGain base text = if C = 0 then (text.size : Int) - ((Bt.dBytes R).length : Int) else 0) := by show _ = _; rw [hR, hC]; rfl
  have HFR : Hid (C = 0 → text.size ≤ 200 ∧ ∀ o ∈ R, o.x.size ≤ 9223372036854775807 ∧ o.f ≤ 9223372036854775807) := by
    intro h; rw [hC] at h; rw [hR]; exact ⟨(dOf_sizes h).2, dOfList_from h⟩
  have hRl : R.length ≤ 40 := by rw [hR]; exact Bt.okL_len (Bt.dOfList_ok base text)
  rw [← hR, ← hC] at H
  clear hR hC
  rw [HG.out]
  obtain ⟨n, hn⟩ : ∃ n, n = R.length := ⟨_, rfl⟩
  have HN := Lib.hid hn
  have hn40 : n ≤ 40 := by omega
  clear hn hRl
  by_cases h0 : C = 0
  case neg =>
    have hcc : (C != 0) = true := by simpa using h0
    rw [if_neg h0]
    go_enter Tryd.func17, Tryd.ntmps17
    go_wp2_with fail
    refine H.out.mono ?_
    rintro e w1 ⟨A, ca, rfl, ho1, hb1⟩
    rw [← HN.out] at ho1 ⊢
    have HB1 := Lib.hid hb1
    clear hb1
    clear ho1 h0
    go_wp2
    go_ret
    exact ⟨rfl, HB1.out.alloc HB1.out.size _⟩
  rw [if_pos h0]
  obtain ⟨ht2, hfr⟩ := HFR.out h0
  have hbl := dBytes_len R
  have HBY : Hid (∀ (A : Option Addr) (ca : Nat) (W : World), RdDo W W.heap.size A n R → Calls Tryd.prog 19 #[.slice A n ca] W fun e w' => e = .returned (strV (Bt.dBytes R)) ∧ Below W.heap.size W w') :=
    fun A ca W h => impl_deltaBytes A n ca R W (fun o ho => (hfr o ho).1) (fun o ho => (hfr o ho).2) (by omega) h
  clear hfr HG HFR
  generalize Bt.dBytes R = BY at hbl HBY ⊢
  subst h0
  go_enter Tryd.func17, Tryd.ntmps17
  go_wp2_with fail
  refine H.out.mono ?_
  rintro e w1 ⟨A, ca, rfl, ho1, hb1⟩
  rw [← HN.out] at ho1 ⊢
  have HB1 := Lib.hid hb1
  clear hb1
  have HO1 := Lib.hid ho1
  clear ho1
  go_wp2_with fail
  refine (HBY.out _ _ _ ((HO1.out.below ((Below.refl _ _).alloc (Nat.le_refl _) _) (Nat.le_refl _)).rd (by simp))).mono ?_
  rintro e w2 ⟨rfl, hb2⟩
  have HB2 : Hid (Below w.heap.size w w2) := (HB1.out.alloc HB1.out.size _).trans (hb2.mono (by have := HB1.out.size; simp; omega))
  clear hb2
  have hbs : (bstr BY).size = BY.length := bstr_size BY
  go_wp2
  go_ret
  exact ⟨by first | rfl | simp, HB2.out⟩

set_option maxHeartbeats 2000000 in
theorem spec_deltaGain (base text : ByteArray) (w : World) (hb9 : base.size ≤ 9223372036854775807) (ht9 : text.size ≤ 9223372036854775807) :
    Calls Tryd.prog 18 #[.string base, .string text] w fun e w' => e = .returned (.int .i64 (Bt.dGain base text)) ∧ Below w.heap.size w w' := by
  have H := Lib.hid (spec_deltaOf base text w hb9 ht9)
  obtain ⟨R, hR⟩ : ∃ R, R = Bt.dOfList base text := ⟨_, rfl⟩
  obtain ⟨C, hC⟩ : ∃ C, C = Bt.dOfCode base text := ⟨_, rfl⟩
  have HG : Hid (Bt.dGain base text = if C = 0 then (text.size : Int) - ((Bt.dBytes R).length : Int) else 0) := by show _ = _; rw [hR, hC]; rfl
  have HFR : Hid (C = 0 → text.size ≤ 200 ∧ ∀ o ∈ R, o.x.size ≤ 9223372036854775807 ∧ o.f ≤ 9223372036854775807) := by
    intro h; rw [hC] at h; rw [hR]; exact ⟨(dOf_sizes h).2, dOfList_from h⟩
  have hRl : R.length ≤ 40 := by rw [hR]; exact Bt.okL_len (Bt.dOfList_ok base text)
  rw [← hR, ← hC] at H
  clear hR hC
  rw [HG.out]
  obtain ⟨n, hn⟩ : ∃ n, n = R.length := ⟨_, rfl⟩
  have HN := Lib.hid hn
  have hn40 : n ≤ 40 := by omega
  clear hn hRl
  by_cases h0 : C = 0
  case neg =>
    have hcc : (C != 0) = true := by simpa using h0
    rw [if_neg h0]
    go_enter Tryd.func18, Tryd.ntmps18
    go_wp2_with fail
    refine H.out.mono ?_
    rintro e w1 ⟨A, ca, rfl, ho1, hb1⟩
    rw [← HN.out] at ho1 ⊢
    have HB1 := Lib.hid hb1
    clear hb1
    clear ho1 h0
    go_wp2
    go_ret
    exact ⟨rfl, HB1.out.alloc HB1.out.size _⟩
  rw [if_pos h0]
  obtain ⟨ht2, hfr⟩ := HFR.out h0
  have hbl := dBytes_len R
  have HBY : Hid (∀ (A : Option Addr) (ca : Nat) (W : World), RdDo W W.heap.size A n R → Calls Tryd.prog 20 #[.slice A n ca] W fun e w' => e = .returned (strV (Bt.dBytes R)) ∧ Below W.heap.size W w') :=
    fun A ca W h => spec_deltaBytes A n ca R W (fun o ho => (hfr o ho).1) (fun o ho => (hfr o ho).2) (by omega) h
  clear hfr HG HFR
  generalize Bt.dBytes R = BY at hbl HBY ⊢
  subst h0
  go_enter Tryd.func18, Tryd.ntmps18
  go_wp2_with fail
  refine H.out.mono ?_
  rintro e w1 ⟨A, ca, rfl, ho1, hb1⟩
  rw [← HN.out] at ho1 ⊢
  have HB1 := Lib.hid hb1
  clear hb1
  have HO1 := Lib.hid ho1
  clear ho1
  go_wp2_with fail
  refine (HBY.out _ _ _ ((HO1.out.below ((Below.refl _ _).alloc (Nat.le_refl _) _) (Nat.le_refl _)).rd (by simp))).mono ?_
  rintro e w2 ⟨rfl, hb2⟩
  have HB2 : Hid (Below w.heap.size w w2) := (HB1.out.alloc HB1.out.size _).trans (hb2.mono (by have := HB1.out.size; simp; omega))
  clear hb2
  have hbs : (bstr BY).size = BY.length := bstr_size BY
  go_wp2
  go_ret
  exact ⟨by first | rfl | simp, HB2.out⟩
end Go.Proofs.YtpgemeojhbeooaaDoor
