/-
  Draws of records: one of some texts, a spoiled text, a record, its encoding spoiled.
-/
import Derived.Test.YtpgemeojhbeooaaDoorDrPick
import Derived.Test.YtpgemeojhbeooaaDoorRcRead2
import Derived.Deep.RegionHeld3
import Derived.Deep.RegionLaw
import Derived.Deep.DeepCutAuto
import Derived.Deep.CutBlock
namespace Go.Proofs.YtpgemeojhbeooaaDoor
open Go.RowKit
open Bt (Rc)

/-- 'string([]byte{c})' -/
theorem conv_one (c : UInt8) (w : World) : (convert 22 9 (.slice (some ⟨w.heap.size, 0, none⟩) 1 1)).run Tryd.prog (w.alloc (.cells #[.int .u8 (c.toNat : Int)] 5)) = .ok (strV [c]) (w.alloc (.cells #[.int .u8 (c.toNat : Int)] 5)) :=
  conv_blk Tryd.underlying22 Tryd.underlying5 Tryd.underlying9 (isBlk_new w 5 [byteV c]) ⟨[], rfl⟩ rfl
theorem add_ex (a b : ByteArray) (h : a.size + b.size ≤ 4294967296) : ∃ u : ByteArray, u.size = a.size + b.size ∧ ∀ w : World, (Op.stringOp .add a b).run Tryd.prog w = .ok (.string u) w :=
  ⟨bstr (a.data.toList ++ b.data.toList), by rw [bstr_size, List.length_append]; rfl, fun w => add_str w a b h⟩
theorem src_two {w w2 : World} {s : Nat} (hS : Src w2 s) (hb : Btw s (s + 1) w w2) (o : Obj) (k : Nat) : Src ((w2.alloc o).drewN k) s ∧ Btw s (s + 1) w ((w2.alloc o).drewN k) :=
  ⟨hS.same fun j hj => Below.heap_alloc _ _ _ (by have := hS.lt; omega), hb.trans ⟨rfl, rfl, rfl, by simp [World.drewN], fun j hj _ => Below.heap_alloc _ _ _ hj⟩⟩
set_option maxHeartbeats 4000000 in
set_option maxRecDepth 100000 in
theorem draw_spoil (s : Nat) (t : ByteArray) (w : World) (ht : t.size ≤ 1048575) (hS : Src w s) :
    Calls Tryd.prog 30 #[.pointer (some ⟨s, 0, none⟩), .string t] w (fun e w' => ∃ u : ByteArray, e = .returned (.string u) ∧ u.size ≤ t.size + 1 ∧ Src w' s ∧ Btw s (s + 1) w w') := by
  have HS := Lib.hid hS; clear hS
  have hsl := HS.out.lt
  go_enter Tryd.func30, Tryd.ntmps30
  go_wp2_with fail
  refine (draw_n s ((t.size : Int) + 1) w (by omega) HS.out).mono ?_
  rintro e w1 ⟨k, rfl, hk, hS1, hb1⟩
  have hk := hk (by omega)
  have HS1 := Lib.hid hS1; have HB1 := Lib.hid hb1; clear hS1 hb1
  go_wp2_with fail
  refine (draw_n s 17 w1 (by omega) HS1.out).mono ?_
  rintro e w2 ⟨r, rfl, hr, hS2, hb2⟩
  have hr := hr (by omega)
  have HS2 := Lib.hid hS2; have HB2 := Lib.hid (HB1.out.trans hb2); clear hS2 hb2 HS1 HB1
  have hconv := fun c => conv_one c w2
  have hkl : k ≤ t.size := by omega
  obtain ⟨U1, hU1, q1⟩ : ∃ U1 : UInt8 → ByteArray, (∀ c, (U1 c).size = k + 1) ∧ ∀ c (w : World), (Op.stringOp .add (t.extract 0 k) (bstr [c])).run Tryd.prog w = .ok (.string (U1 c)) w := by
    refine ⟨fun c => (add_ex (t.extract 0 k) (bstr [c]) (by rw [ext_size hkl, bstr_size]; simp; omega)).choose, fun c => ?_, fun c => (add_ex (t.extract 0 k) (bstr [c]) (by rw [ext_size hkl, bstr_size]; simp; omega)).choose_spec.2⟩
    have h := (add_ex (t.extract 0 k) (bstr [c]) (by rw [ext_size hkl, bstr_size]; simp; omega)).choose_spec.1
    exact h.trans (by rw [ext_size hkl, bstr_size]; rfl)
  obtain ⟨U2, hU2, q2⟩ : ∃ U2 : UInt8 → ByteArray, (∀ c, (U2 c).size = t.size + 1) ∧ ∀ c (w : World), (Op.stringOp .add (U1 c) (t.extract k t.size)).run Tryd.prog w = .ok (.string (U2 c)) w := by
    have hs : ∀ c, (U1 c).size + (t.extract k t.size).size ≤ 4294967296 := fun c => by rw [hU1, ext_len (Nat.le_refl _)]; omega
    refine ⟨fun c => (add_ex _ _ (hs c)).choose, fun c => ?_, fun c => (add_ex _ _ (hs c)).choose_spec.2⟩
    have h := (add_ex _ _ (hs c)).choose_spec.1
    exact h.trans (by rw [hU1, ext_len (Nat.le_refl _)]; omega)
  obtain ⟨U4, hU4, q4⟩ : ∃ U4 : UInt8 → ByteArray, (∀ c, (U4 c).size ≤ t.size + 1) ∧ ∀ c (w : World), (Op.stringOp .add (U1 c) (t.extract (k + 1) t.size)).run Tryd.prog w = .ok (.string (U4 c)) w := by
    have hs : ∀ c, (U1 c).size + (t.extract (k + 1) t.size).size ≤ 4294967296 := fun c => by rw [hU1, ext_len (Nat.le_refl _)]; omega
    refine ⟨fun c => (add_ex _ _ (hs c)).choose, fun c => ?_, fun c => (add_ex _ _ (hs c)).choose_spec.2⟩
    have h := (add_ex _ _ (hs c)).choose_spec.1
    exact Nat.le_trans (Nat.le_of_eq h) (by rw [hU1, ext_len (Nat.le_refl _)]; omega)
  obtain ⟨U3, hU3, q3⟩ : ∃ U3 : ByteArray, U3.size ≤ t.size + 1 ∧ ∀ w : World, (Op.stringOp .add (t.extract 0 k) (t.extract (k + 1) t.size)).run Tryd.prog w = .ok (.string U3) w := by
    have hs : (t.extract 0 k).size + (t.extract (k + 1) t.size).size ≤ 4294967296 := by rw [ext_size hkl, ext_len (Nat.le_refl _)]; omega
    refine ⟨(add_ex _ _ hs).choose, ?_, (add_ex _ _ hs).choose_spec.2⟩
    have h := (add_ex _ _ hs).choose_spec.1
    exact Nat.le_trans (Nat.le_of_eq h) (by rw [ext_size hkl, ext_len (Nat.le_refl _)]; omega)
  have HU2 := Lib.hid hU2; have HU4 := Lib.hid hU4; have HU3 := Lib.hid hU3; clear hU1 hU2 hU3 hU4
  by_cases hkt : k = t.size
  · have hkI : ((k : Int) == (t.size : Int)) = true := by simp [hkt]
    clear hkt
    go_wp2_with fail
    go_quiet (fail)
    go_wp2
    go_ret
    exact ⟨_, rfl, Nat.le_of_eq (HU2.out _), (src_two HS2.out HB2.out _ _).1, (src_two HS2.out HB2.out _ _).2⟩
  · have hkI : ((k : Int) == (t.size : Int)) = false := by simp; omega
    have hk1 : (k : Int) + 1 ≤ (t.size : Int) := by omega
    have hkw : IntKind.i64.wrap ((k : Int) + 1) = (k : Int) + 1 := IntWalk.i64_in _ (by omega)
    go_wp2_with fail
    refine (draw_one s 3 _ (by omega) (HS2.out.same fun j hj => Below.heap_alloc _ _ _ (by have := HS2.out.lt; omega))).mono ?_
    rintro e w3 ⟨b, rfl, hS3, hb3⟩
    have HS3 := Lib.hid hS3; have HB3 := Lib.hid ((HB2.out.alloc _).trans hb3); clear hS3 hb3
    cases b
    · go_wp2_with fail
      refine (draw_one s 2 _ (by omega) HS3.out).mono ?_
      rintro e w4 ⟨b, rfl, hS4, hb4⟩
      have HS4 := Lib.hid hS4; have HB4 := Lib.hid (HB3.out.trans hb4); clear hS4 hb4
      cases b
      · go_wp2_with fail
        go_quiet (fail)
        go_wp2
        go_ret
        exact ⟨_, rfl, HU4.out _, HS4.out.same fun _ _ => rfl, HB4.out.trans ⟨rfl, rfl, rfl, Nat.le_refl _, fun _ _ _ => rfl⟩⟩
      · go_wp2_with fail
        go_quiet (fail)
        go_wp2
        go_ret
        exact ⟨_, rfl, HU3.out, HS4.out.same fun _ _ => rfl, HB4.out.trans ⟨rfl, rfl, rfl, Nat.le_refl _, fun _ _ _ => rfl⟩⟩
    · go_wp2_with fail
      go_quiet (fail)
      go_wp2
      go_ret
      exact ⟨_, rfl, Nat.le_of_eq (HU2.out _), HS3.out.same fun _ _ => rfl, HB3.out.trans ⟨rfl, rfl, rfl, Nat.le_refl _, fun _ _ _ => rfl⟩⟩
end Go.Proofs.YtpgemeojhbeooaaDoor
