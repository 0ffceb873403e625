/-
  FnDelta's own comparison of lists of operations.
-/
import Derived.Test.YtpgemeojhbeooaaDoorProg
import Derived.KernelRfl
import Derived.Test.YtpgemeojhbeooaaDoorDlMem
import Derived.Test.YtpgemeojhbeooaaDoorDrSrc
namespace Go.Proofs.YtpgemeojhbeooaaDoor
open Go.RowKit
open Bt (Dop)

theorem rdBy_next {w w' : World} {n : Nat} {A : Option Addr} (h : RdBy w w.heap.size A n) (hb : Below w.heap.size w w') : RdBy w' w'.heap.size A n := fun hn => by
  obtain ⟨g, off, hA, hg, hc⟩ := h.same (fun k hk => hb.block k hk) hn
  exact ⟨g, off, hA, by have := hb.size; omega, hc⟩
theorem tout_fields : Tryd.prog.underlying 35 = some (.struct (Tryd.prog.fieldsOf 35)) := by kernel_rfl
theorem tout_held : Tryd.prog.stoodInHeld 35 = false := by kernel_rfl
theorem tout_guard : Tryd.prog.eqGuardType Tryd.prog.depth 35 = false := by kernel_rfl
set_option maxHeartbeats 2000000 in
theorem equalIn_tout (a : ByteArray) (b c : Int) (w : World) : (Op.equalIn 10000 35 (.agg #[.string a, .int .i64 b, .int .i64 c]) (.agg #[.string a, .int .i64 b, .int .i64 c])).run Tryd.prog w = .ok true w := by
  rw [run_equalIn_agg w 9999 _ _ _ tout_fields tout_held]
  simp [Program.fieldsOf, Tryd.underlying35, Op.eqFields, part, go_sem, Tryd.underlying2, Tryd.underlying9]

theorem dop_fields : Tryd.prog.underlying 41 = some (.struct (Tryd.prog.fieldsOf 41)) := by kernel_rfl
theorem dop_held : Tryd.prog.stoodInHeld 41 = false := by kernel_rfl
theorem dop_guard : Tryd.prog.eqGuardType Tryd.prog.depth 41 = false := by kernel_rfl
set_option maxHeartbeats 2000000 in
theorem equalIn_dop (a : Dop) (w : World) : (Op.equalIn 10000 41 (dopV a) (dopV a)).run Tryd.prog w = .ok true w := by
  obtain ⟨f, c, x⟩ := a
  rw [run_equalIn_agg w 9999 _ _ _ dop_fields dop_held]
  simp [Program.fieldsOf, Tryd.underlying41, Op.eqFields, part, go_sem, Tryd.underlying2, Tryd.underlying9]

theorem rdLit (w : World) (o : Dop) : RdDo (w.alloc (.cells #[.int .i64 o.f, .int .i64 o.c, .string o.x] 41)) (w.alloc (.cells #[.int .i64 o.f, .int .i64 o.c, .string o.x] 41)).heap.size (some ⟨w.heap.size, 0, none⟩) 1 [o] := by
  have hk : IsBlk (w.alloc (.cells #[.int .i64 o.f, .int .i64 o.c, .string o.x] 41)) w.heap.size 41 (dopC o) := isBlk_new w 41 (dopC o)
  refine ⟨rfl, fun _ => ⟨_, 0, rfl, by simp, fun c hc => ?_⟩⟩
  rw [Nat.zero_add]
  match c, hc with
  | 0, _ => exact hk.cell rfl
  | 1, _ => exact hk.cell rfl
  | 2, _ => exact hk.cell rfl

set_option maxHeartbeats 1000000 in
theorem lwOps_same (A B : Option Addr) (n ca cb : Nat) (X : List Dop) (w : World) (hn : n ≤ 2147483648) (hA : RdDo w w.heap.size A n X) (hB : RdDo w w.heap.size B n X) :
    Calls Tryd.prog 12 #[.slice A n ca, .slice B n cb] w fun e w' => e = .returned (.bool true) ∧ Below w.heap.size w w' := by
  have HA := Lib.hid hA; have HB := Lib.hid hB; clear hA hB
  go_enter Tryd.func12, Tryd.ntmps12
  go_wp2
  go_loopw [5] (fun i wr => ∃ k : Nat, k ≤ n ∧ i = .int .i64 (k : Nat) ∧ Below w.heap.size w wr) (fun i _ => n - (intOf i).toNat)
  case atStart => exact ⟨0, by omega, rfl, Below.refl _ _⟩
  case round =>
    obtain ⟨k, hk, rfl, hbel⟩ := hrel
    have HW := Lib.hid hbel
    by_cases hlt : k < n
    · obtain ⟨g, off, rfl, hg, hc0, hc1, hc2⟩ := (HA.out.below hbel).at hlt
      obtain ⟨g', off', rfl, hg', hd0, hd1, hd2⟩ := (HB.out.below hbel).at hlt
      clear hbel
      generalize X.getD k Dop.zero = o at hc0 hc1 hc2 hd0 hd1 hd2
      have hne := equalIn_dop o
      have hgu := dop_guard
      go_wp2
      have hc0' := cell_regrown hc0; have hc1' := cell_regrown hc1; have hc2' := cell_regrown hc2
      have hd0' := cell_regrown hd0; have hd1' := cell_regrown hd1; have hd2' := cell_regrown hd2
      refine wp_region_quiet_below (by kernel_rfl) (by kernel_rfl) ?_
      repeat (go_big_quiet_step (fail))
      refine wpQuiet_nil ?_
      intro w2 hw'
      have hb2 : Below wr.heap.size wr w2 := by obtain ⟨⟨dq, osq⟩, rfl⟩ := hw'; exact below_regrown wr dq osq
      clear hw'
      have HB2 := Lib.hid (HW.out.trans (hb2.mono HW.out.size))
      clear hb2
      go_wp2
      go_roundw
      case rel => exact ⟨k + 1, by omega, by go_num, HB2.out⟩
      case measure => simp [intOf]; omega
    · clear hbel
      go_wp2
      go_ret
      exact ⟨rfl, HW.out⟩
end Go.Proofs.YtpgemeojhbeooaaDoor
