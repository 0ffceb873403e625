/-
  What the law of deltas draws, and its own comparison of lists of operations. No condition.
-/
import Derived.Test.YtpgemeojhbeooaaDoorProg
import Derived.KernelRfl
import Derived.Test.YtpgemeojhbeooaaDoorDlMem
import Derived.Test.YtpgemeojhbeooaaDoorDrSrc
import Derived.Test.YtpgemeojhbeooaaDoorDlDraw2
import Derived.Test.YtpgemeojhbeooaaDoorDrMore
import Derived.Test.YtpgemeojhbeooaaDoorDlBytesS
import Derived.Test.YtpgemeojhbeooaaDoorDrRec
import Derived.Test.YtpgemeojhbeooaaDoorRcRead2
import Derived.Test.YtpgemeojhbeooaaDoorDlPure
namespace Go.Proofs.YtpgemeojhbeooaaDoor
open Go.RowKit
open Bt (Dop)

theorem rdBy_next {w w' : World} {n : Nat} {A : Option Addr} (h : RdBy w w.heap.size A n) (hb : Below w.heap.size w w') : RdBy w' w'.heap.size A n := fun hn => by
  obtain ⟨g, off, hA, hg, hc⟩ := h.same (fun k hk => hb.block k hk) hn
  exact ⟨g, off, hA, by have := hb.size; omega, hc⟩
theorem tout_fields : Tryd.prog.underlying 35 = some (.struct (Tryd.prog.fieldsOf 35)) := by kernel_rfl
theorem tout_held : Tryd.prog.stoodInHeld 35 = false := by kernel_rfl
theorem tout_guard : Tryd.prog.eqGuardType Tryd.prog.depth 35 = false := by kernel_rfl
set_option maxHeartbeats 2000000 in
theorem equalIn_tout (a : ByteArray) (b c : Int) (w : World) : (Op.equalIn 10000 35 (.agg #[.string a, .int .i64 b, .int .i64 c]) (.agg #[.string a, .int .i64 b, .int .i64 c])).run Tryd.prog w = .ok true w := by
  rw [run_equalIn_agg w 9999 _ _ _ tout_fields tout_held]
  simp [Program.fieldsOf, Tryd.underlying35, Op.eqFields, part, go_sem, Tryd.underlying2, Tryd.underlying9]

theorem dop_fields : Tryd.prog.underlying 41 = some (.struct (Tryd.prog.fieldsOf 41)) := by kernel_rfl
theorem dop_held : Tryd.prog.stoodInHeld 41 = false := by kernel_rfl
theorem dop_guard : Tryd.prog.eqGuardType Tryd.prog.depth 41 = false := by kernel_rfl
set_option maxHeartbeats 2000000 in
theorem equalIn_dop (a : Dop) (w : World) : (Op.equalIn 10000 41 (dopV a) (dopV a)).run Tryd.prog w = .ok true w := by
  obtain ⟨f, c, x⟩ := a
  rw [run_equalIn_agg w 9999 _ _ _ dop_fields dop_held]
  simp [Program.fieldsOf, Tryd.underlying41, Op.eqFields, part, go_sem, Tryd.underlying2, Tryd.underlying9]

theorem rdLit (w : World) (o : Dop) : RdDo (w.alloc (.cells #[.int .i64 o.f, .int .i64 o.c, .string o.x] 41)) (w.alloc (.cells #[.int .i64 o.f, .int .i64 o.c, .string o.x] 41)).heap.size (some ⟨w.heap.size, 0, none⟩) 1 [o] := by
  have hk : IsBlk (w.alloc (.cells #[.int .i64 o.f, .int .i64 o.c, .string o.x] 41)) w.heap.size 41 (dopC o) := isBlk_new w 41 (dopC o)
  refine ⟨rfl, fun _ => ⟨_, 0, rfl, by simp, fun c hc => ?_⟩⟩
  rw [Nat.zero_add]
  match c, hc with
  | 0, _ => exact hk.cell rfl
  | 1, _ => exact hk.cell rfl
  | 2, _ => exact hk.cell rfl

set_option maxHeartbeats 1000000 in
theorem lwOps_same (A B : Option Addr) (n ca cb : Nat) (X : List Dop) (w : World) (hn : n ≤ 2147483648) (hA : RdDo w w.heap.size A n X) (hB : RdDo w w.heap.size B n X) :
    Calls Tryd.prog 12 #[.slice A n ca, .slice B n cb] w fun e w' => e = .returned (.bool true) ∧ Below w.heap.size w w' := by
  have HA := Lib.hid hA; have HB := Lib.hid hB; clear hA hB
  go_enter Tryd.func12, Tryd.ntmps12
  go_wp2
  go_loopw [5] (fun i wr => ∃ k : Nat, k ≤ n ∧ i = .int .i64 (k : Nat) ∧ Below w.heap.size w wr) (fun i _ => n - (intOf i).toNat)
  case atStart => exact ⟨0, by omega, rfl, Below.refl _ _⟩
  case round =>
    obtain ⟨k, hk, rfl, hbel⟩ := hrel
    have HW := Lib.hid hbel
    by_cases hlt : k < n
    · obtain ⟨g, off, rfl, hg, hc0, hc1, hc2⟩ := (HA.out.below hbel).at hlt
      obtain ⟨g', off', rfl, hg', hd0, hd1, hd2⟩ := (HB.out.below hbel).at hlt
      clear hbel
      generalize X.getD k Dop.zero = o at hc0 hc1 hc2 hd0 hd1 hd2
      have hne := equalIn_dop o
      have hgu := dop_guard
      go_wp2
      have hc0' := cell_regrown hc0; have hc1' := cell_regrown hc1; have hc2' := cell_regrown hc2
      have hd0' := cell_regrown hd0; have hd1' := cell_regrown hd1; have hd2' := cell_regrown hd2
      refine wp_region_quiet_below (by kernel_rfl) (by kernel_rfl) ?_
      repeat (go_big_quiet_step (fail))
      refine wpQuiet_nil ?_
      intro w2 hw'
      have hb2 : Below wr.heap.size wr w2 := by obtain ⟨⟨dq, osq⟩, rfl⟩ := hw'; exact below_regrown wr dq osq
      clear hw'
      have HB2 := Lib.hid (HW.out.trans (hb2.mono HW.out.size))
      clear hb2
      go_wp2
      go_roundw
      case rel => exact ⟨k + 1, by omega, by go_num, HB2.out⟩
      case measure => simp [intOf]; omega
    · clear hbel
      go_wp2
      go_ret
      exact ⟨rfl, HW.out⟩
end Go.Proofs.YtpgemeojhbeooaaDoor
namespace Go.Proofs.YtpgemeojhbeooaaDoor
open Go.RowKit
open Bt (Dop)

/-- a draw from a source of the call's own -/
theorem bel_dl {B s : Nat} {w w1 w2 : World} (h : Below B w w1) (hB : B ≤ s) (hs : s < w1.heap.size) (hb : Btw s (s + 1) w1 w2) : Below B w w2 :=
  h.trans ⟨hb.os, hb.tape, hb.output, hb.size, fun i hi => hb.block i (by omega) (Or.inl (by omega))⟩
set_option maxHeartbeats 400000 in
set_option maxRecDepth 100000 in
theorem drawDeltaOf_any (A : Option Addr) (n c : Nat) (w : World) (hn : n ≤ 1048576) (hA : RdBy w w.heap.size A n) :
    Calls Tryd.prog 5 #[.slice A n c] w (fun e w' => ∃ b t : ByteArray, e = .returned (.tuple #[.string b, .string t]) ∧ b.size ≤ 1000 ∧ t.size ≤ 1000 ∧ Below w.heap.size w w') := by
  have HA := Lib.hid hA; clear hA
  go_enter Tryd.func5, Tryd.ntmps5
  go_wp2_with fail
  refine (draw_source n c A _ hn HA.out).mono ?_
  rintro e w1 ⟨s, rfl, hs1, hS1, hb1⟩
  have HS1 := Lib.hid hS1
  have HB1 := Lib.hid hb1; clear hS1 hb1
  go_wp2_with fail
  refine (draw_pair s w1 HS1.out).mono ?_
  rintro e w2 ⟨b, t, rfl, hb, ht, hS2, hb2⟩
  have HB2 := Lib.hid (bel_dl HB1.out hs1 HS1.out.lt hb2); clear hS2 hb2
  go_wp2
  go_ret2
  exact ⟨b, t, rfl, hb, ht, HB2.out⟩
set_option maxHeartbeats 400000 in
set_option maxRecDepth 100000 in
theorem drawDeltaApply_any (A : Option Addr) (n c : Nat) (w : World) (hn : n ≤ 1048576) (hA : RdBy w w.heap.size A n) :
    Calls Tryd.prog 8 #[.slice A n c] w (fun e w' => ∃ (b : ByteArray) (A' : Option Addr) (m ca : Nat) (L : List Dop), e = .returned (.tuple #[.string b, .slice A' m ca]) ∧ b.size ≤ 1000 ∧ m ≤ 41 ∧ FineD L ∧ OwDo w' w.heap.size w'.heap.size A' m L ∧ Below w.heap.size w w') := by
  have HA := Lib.hid hA; clear hA
  go_enter Tryd.func8, Tryd.ntmps8
  go_wp2_with fail
  refine (draw_source n c A _ hn HA.out).mono ?_
  rintro e w1 ⟨s, rfl, hs1, hS1, hb1⟩
  have HS1 := Lib.hid hS1
  have HB1 := Lib.hid hb1; clear hS1 hb1
  go_wp2_with fail
  refine (draw_ops s w1 HS1.out).mono ?_
  rintro e w2 ⟨b, A', m, ca, L, rfl, hb, hm, hF, ho, hS2, hb2⟩
  have HB2 := Lib.hid (bel_dl HB1.out hs1 HS1.out.lt hb2); clear hS2 hb2
  have HO2 := Lib.hid (ho.mono HB1.out.size (Nat.le_refl _)); clear ho
  go_wp2
  go_ret2
  exact ⟨b, A', m, ca, L, rfl, hb, hm, hF, HO2.out, HB2.out⟩
end Go.Proofs.YtpgemeojhbeooaaDoor
namespace Go.Proofs.YtpgemeojhbeooaaDoor
open Go.RowKit
open Bt (Dop)

theorem field_textD (a : ByteArray) (b c : Int) (w : World) : (Instr.field 35 (.agg #[.string a, .int .i64 b, .int .i64 c]) 0).run Tryd.prog w = .ok (.string a) w := by
  simp [Instr.field, run_underlying Tryd.underlying35, part, asAgg, go_sem]
theorem seal_len (u : ByteArray) : (Bt.sealed u).length ≤ 8000 := by
  unfold Bt.sealed
  split
  · exact Nat.zero_le _
  · rw [List.length_append, Bt.sum_length]; have : u.data.toList.length = u.size := rfl; omega
set_option maxHeartbeats 800000 in
set_option maxRecDepth 100000 in
theorem drawDeltaRead_any (A : Option Addr) (n c : Nat) (w : World) (hn : n ≤ 1048576) (hA : RdBy w w.heap.size A n) :
    Calls Tryd.prog 9 #[.slice A n c] w (fun e w' => ∃ t : ByteArray, e = .returned (.string t) ∧ t.size ≤ 10000 ∧ Below w.heap.size w w') := by
  have HA := Lib.hid hA; clear hA
  go_enter Tryd.func9, Tryd.ntmps9
  go_wp2_with fail
  refine (draw_source n c A _ hn HA.out).mono ?_
  rintro e w1 ⟨s, rfl, hs1, hS1, hb1⟩
  have HS1 := Lib.hid hS1
  have HB1 := Lib.hid hb1; clear hS1 hb1
  go_wp2_with fail
  refine (draw_ops s w1 HS1.out).mono ?_
  rintro e w4 ⟨b, A', m, ca, L, rfl, hb, hm, hF, ho, hS4, hb4⟩
  have HS4 := Lib.hid hS4
  have HB4 := Lib.hid (bel_dl HB1.out hs1 HS1.out.lt hb4); clear hS4 hb4 HS1 HB1
  have HO := Lib.hid ho; have HF := Lib.hid hF; clear ho hF
  go_wp2_with fail
  refine (spec_deltaBytes A' m ca L _ (fun o h => by have := HF.out o h; omega) (fun o h => (HF.out o h).2) (by omega) (HO.out.rd (Nat.le_refl _))).mono ?_
  rintro e w5 ⟨he, hb5⟩
  obtain ⟨X, he', hx⟩ : ∃ X : ByteArray, e = .returned (.string X) ∧ X.size ≤ 8814 := ⟨bstr (Bt.dBytes L), he, by rw [bstr_size]; exact dBytes_len L⟩
  clear he
  subst he'
  have HS5 := Lib.hid (HS4.out.below hb5 HS4.out.lt)
  have HB5 := Lib.hid (HB4.out.trans (hb5.mono HB4.out.size)); clear hb5 HS4 HB4 HO HF
  go_wp2_with fail
  refine (draw_n s 5 w5 (by omega) HS5.out).mono ?_
  rintro e w6 ⟨p, rfl, hp, hS6, hb6⟩
  have hp := hp (by omega)
  have HS6 := Lib.hid hS6
  have HB6 := Lib.hid (bel_dl HB5.out (by omega) HS5.out.lt hb6); clear hS6 hb6 HS5 HB5
  by_cases h0 : p = 0
  · subst h0
    go_wp2_with fail
    refine (draw_spoil s X _ (by omega) HS6.out).mono ?_
    rintro e w7 ⟨u, rfl, hu, hS7, hb7⟩
    have HB7 := Lib.hid (bel_dl HB6.out (by omega) HS6.out.lt hb7); clear hS7 hb7
    go_wp2
    go_ret
    exact ⟨u, rfl, by omega, HB7.out⟩
  by_cases h1 : p = 1
  · subst h1
    clear h0
    go_wp2_with fail
    refine (draw_n s ((X.size : Int) + 1) _ (by omega) HS6.out).mono ?_
    rintro e w7 ⟨k, rfl, hk, hS7, hb7⟩
    have hk := hk (by omega)
    have HB7 := Lib.hid (bel_dl HB6.out (by omega) HS6.out.lt hb7); clear hS7 hb7
    have hk' : k ≤ X.size := by omega
    go_wp2
    go_ret
    exact ⟨_, rfl, by rw [ext_size hk']; omega, HB7.out⟩
  by_cases h2 : p = 2
  · subst h2
    clear h0 h1
    go_wp2_with fail
    refine (spec_unseal_any X _ (by unfold maxLen; omega)).mono ?_
    rintro e w7 ⟨he, hb7⟩
    obtain ⟨y, cy, he', hy⟩ : ∃ (y : ByteArray) (cy : Int), e = .returned (.agg #[.string y, .int .i64 0, .int .i64 cy]) ∧ y.size ≤ 8000 := ⟨bstr (Bt.opened X).1, (Bt.opened X).2, he, by rw [bstr_size]; exact opened_small X⟩
    clear he
    subst he'
    have HS7 := Lib.hid (HS6.out.below hb7 HS6.out.lt)
    have HB7 := Lib.hid (HB6.out.trans (hb7.mono HB6.out.size)); clear hb7
    have hfl := field_textD y 0 cy w7
    go_wp2_with fail
    refine (draw_spoil s y _ (by omega) HS7.out).mono ?_
    rintro e w8 ⟨u, rfl, hu, hS8, hb8⟩
    have HB8 := Lib.hid (bel_dl HB7.out (by omega) HS7.out.lt hb8); clear hS8 hb8
    go_wp2_with fail
    refine (spec_seal_any u _ (by unfold maxLen; omega)).mono ?_
    rintro e w9 ⟨he, hb9⟩
    obtain ⟨z, he', hz⟩ : ∃ z : ByteArray, e = .returned (.string z) ∧ z.size ≤ 8000 := ⟨bstr (Bt.sealed u), he, by rw [bstr_size]; exact seal_len u⟩
    clear he
    subst he'
    have HB9 := Lib.hid (HB8.out.trans (hb9.mono HB8.out.size)); clear hb9
    go_wp2
    go_ret
    exact ⟨z, rfl, by omega, HB9.out⟩
  have e0 : ((p : Int) == 0) = false := beq_eq_false_iff_ne.2 (by omega)
  have e1 : ((p : Int) == 1) = false := beq_eq_false_iff_ne.2 (by omega)
  have e2 : ((p : Int) == 2) = false := beq_eq_false_iff_ne.2 (by omega)
  have d0 : decide (p = 0) = false := decide_eq_false h0
  have d1 : decide (p = 1) = false := decide_eq_false h1
  have d2 : decide (p = 2) = false := decide_eq_false h2
  clear h0 h1 h2
  go_wp2
  go_ret
  exact ⟨X, rfl, by omega, HB6.out⟩
end Go.Proofs.YtpgemeojhbeooaaDoor
namespace Go.Proofs.YtpgemeojhbeooaaDoor.Bt
theorem dReadList_most (t : ByteArray) : (dReadList t).length ≤ 40 := by
  by_cases h : (opened t).2 = 0
  · by_cases ha : drAcc (bstr (opened t).1)
    · rw [(dRead_ok h ha).2, drTo_len]
      have := ha.2.2.1
      omega
    · rw [(dRead_no h ha).2]; simp
  · rw [(dRead_seal h).2]; simp
end Go.Proofs.YtpgemeojhbeooaaDoor.Bt
