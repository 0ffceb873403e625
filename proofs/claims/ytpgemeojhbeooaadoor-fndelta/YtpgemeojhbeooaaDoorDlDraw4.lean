/-
  What the law of deltas draws: a text that is an encoding of operations, perhaps spoiled.
-/
import Derived.Test.YtpgemeojhbeooaaDoorDlDraw3
import Derived.Test.YtpgemeojhbeooaaDoorDlBytesS
import Derived.Test.YtpgemeojhbeooaaDoorDrRec
import Derived.Test.YtpgemeojhbeooaaDoorRcRead2
namespace Go.Proofs.YtpgemeojhbeooaaDoor
open Go.RowKit
open Bt (Dop)

theorem field_textD (a : ByteArray) (b c : Int) (w : World) : (Instr.field 35 (.agg #[.string a, .int .i64 b, .int .i64 c]) 0).run Tryd.prog w = .ok (.string a) w := by
  simp [Instr.field, run_underlying Tryd.underlying35, part, asAgg, go_sem]
theorem seal_len (u : ByteArray) : (Bt.sealed u).length ≤ 8000 := by
  unfold Bt.sealed
  split
  · exact Nat.zero_le _
  · rw [List.length_append, Bt.sum_length]; have : u.data.toList.length = u.size := rfl; omega
set_option maxHeartbeats 800000 in
set_option maxRecDepth 100000 in
theorem drawDeltaRead_any (A : Option Addr) (n c : Nat) (w : World) (hn : n ≤ 1048576) (hA : RdBy w w.heap.size A n) :
    Calls Tryd.prog 9 #[.slice A n c] w (fun e w' => ∃ t : ByteArray, e = .returned (.string t) ∧ t.size ≤ 10000 ∧ Below w.heap.size w w') := by
  have HA := Lib.hid hA; clear hA
  go_enter Tryd.func9, Tryd.ntmps9
  go_wp2_with fail
  refine (draw_source n c A _ hn HA.out).mono ?_
  rintro e w1 ⟨s, rfl, hs1, hS1, hb1⟩
  have HS1 := Lib.hid hS1
  have HB1 := Lib.hid hb1; clear hS1 hb1
  go_wp2_with fail
  refine (draw_ops s w1 HS1.out).mono ?_
  rintro e w4 ⟨b, A', m, ca, L, rfl, hb, hm, hF, ho, hS4, hb4⟩
  have HS4 := Lib.hid hS4
  have HB4 := Lib.hid (bel_dl HB1.out hs1 HS1.out.lt hb4); clear hS4 hb4 HS1 HB1
  have HO := Lib.hid ho; have HF := Lib.hid hF; clear ho hF
  go_wp2_with fail
  refine (spec_deltaBytes A' m ca L _ (fun o h => by have := HF.out o h; omega) (fun o h => (HF.out o h).2) (by omega) (HO.out.rd (Nat.le_refl _))).mono ?_
  rintro e w5 ⟨he, hb5⟩
  obtain ⟨X, he', hx⟩ : ∃ X : ByteArray, e = .returned (.string X) ∧ X.size ≤ 8814 := ⟨bstr (Bt.dBytes L), he, by rw [bstr_size]; exact dBytes_len L⟩
  clear he
  subst he'
  have HS5 := Lib.hid (HS4.out.below hb5 HS4.out.lt)
  have HB5 := Lib.hid (HB4.out.trans (hb5.mono HB4.out.size)); clear hb5 HS4 HB4 HO HF
  go_wp2_with fail
  refine (draw_n s 5 w5 (by omega) HS5.out).mono ?_
  rintro e w6 ⟨p, rfl, hp, hS6, hb6⟩
  have hp := hp (by omega)
  have HS6 := Lib.hid hS6
  have HB6 := Lib.hid (bel_dl HB5.out (by omega) HS5.out.lt hb6); clear hS6 hb6 HS5 HB5
  by_cases h0 : p = 0
  · subst h0
    go_wp2_with fail
    refine (draw_spoil s X _ (by omega) HS6.out).mono ?_
    rintro e w7 ⟨u, rfl, hu, hS7, hb7⟩
    have HB7 := Lib.hid (bel_dl HB6.out (by omega) HS6.out.lt hb7); clear hS7 hb7
    go_wp2
    go_ret
    exact ⟨u, rfl, by omega, HB7.out⟩
  by_cases h1 : p = 1
  · subst h1
    clear h0
    go_wp2_with fail
    refine (draw_n s ((X.size : Int) + 1) _ (by omega) HS6.out).mono ?_
    rintro e w7 ⟨k, rfl, hk, hS7, hb7⟩
    have hk := hk (by omega)
    have HB7 := Lib.hid (bel_dl HB6.out (by omega) HS6.out.lt hb7); clear hS7 hb7
    have hk' : k ≤ X.size := by omega
    go_wp2
    go_ret
    exact ⟨_, rfl, by rw [ext_size hk']; omega, HB7.out⟩
  by_cases h2 : p = 2
  · subst h2
    clear h0 h1
    go_wp2_with fail
    refine (spec_unseal_any X _ (by unfold maxLen; omega)).mono ?_
    rintro e w7 ⟨he, hb7⟩
    obtain ⟨y, cy, he', hy⟩ : ∃ (y : ByteArray) (cy : Int), e = .returned (.agg #[.string y, .int .i64 0, .int .i64 cy]) ∧ y.size ≤ 8000 := ⟨bstr (Bt.opened X).1, (Bt.opened X).2, he, by rw [bstr_size]; exact opened_small X⟩
    clear he
    subst he'
    have HS7 := Lib.hid (HS6.out.below hb7 HS6.out.lt)
    have HB7 := Lib.hid (HB6.out.trans (hb7.mono HB6.out.size)); clear hb7
    have hfl := field_textD y 0 cy w7
    go_wp2_with fail
    refine (draw_spoil s y _ (by omega) HS7.out).mono ?_
    rintro e w8 ⟨u, rfl, hu, hS8, hb8⟩
    have HB8 := Lib.hid (bel_dl HB7.out (by omega) HS7.out.lt hb8); clear hS8 hb8
    go_wp2_with fail
    refine (spec_seal_any u _ (by unfold maxLen; omega)).mono ?_
    rintro e w9 ⟨he, hb9⟩
    obtain ⟨z, he', hz⟩ : ∃ z : ByteArray, e = .returned (.string z) ∧ z.size ≤ 8000 := ⟨bstr (Bt.sealed u), he, by rw [bstr_size]; exact seal_len u⟩
    clear he
    subst he'
    have HB9 := Lib.hid (HB8.out.trans (hb9.mono HB8.out.size)); clear hb9
    go_wp2
    go_ret
    exact ⟨z, rfl, by omega, HB9.out⟩
  have e0 : ((p : Int) == 0) = false := beq_eq_false_iff_ne.2 (by omega)
  have e1 : ((p : Int) == 1) = false := beq_eq_false_iff_ne.2 (by omega)
  have e2 : ((p : Int) == 2) = false := beq_eq_false_iff_ne.2 (by omega)
  have d0 : decide (p = 0) = false := decide_eq_false h0
  have d1 : decide (p = 1) = false := decide_eq_false h1
  have d2 : decide (p = 2) = false := decide_eq_false h2
  clear h0 h1 h2
  go_wp2
  go_ret
  exact ⟨X, rfl, by omega, HB6.out⟩
end Go.Proofs.YtpgemeojhbeooaaDoor
