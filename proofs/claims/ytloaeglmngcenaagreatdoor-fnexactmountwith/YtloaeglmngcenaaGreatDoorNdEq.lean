/-
  What the laws' own comparisons answer: pages, blocks, chips compared field by field.
-/
import Derived.Test.YtloaeglmngcenaaGreatDoorProg
import Derived.KernelRfl
import Derived.Test.YtloaeglmngcenaaGreatDoorNdMem
import Derived.StillTailTactics
import Derived.Deep.QuietTactic
import Derived.BigQuiet
import Derived.Lib.QuietBelow
namespace Go.Proofs.YtloaeglmngcenaaGreatDoor
open Go.RowKit

set_option maxHeartbeats 1000000 in
theorem eqPage_same (u : Bool) (d : ByteArray) (w : World) :
    Calls Tryz.prog 276 #[.agg #[.bool u, .string d], .agg #[.bool u, .string d]] w fun e w' => e = .returned (.bool true) ∧ Below w.heap.size w w' := by
  go_enter Tryz.func276, Tryz.ntmps276
  go_wp2
  go_ret
  exact ⟨rfl, ((Below.refl _ _).alloc (Nat.le_refl _) _).alloc (by simp) _⟩

set_option maxHeartbeats 1000000 in
theorem eqPageS_same (A B : Option Addr) (n ca cb : Nat) (X : List Pg) (w : World) (hn : n ≤ 2147483648) (hA : RdPg w w.heap.size A n X) (hB : RdPg w w.heap.size B n X) :
    Calls Tryz.prog 253 #[.slice A n ca, .slice B n cb] w fun e w' => e = .returned (.bool true) ∧ Below w.heap.size w w' := by
  have HA := Lib.hid hA; have HB := Lib.hid hB; clear hA hB
  go_enter Tryz.func253, Tryz.ntmps253
  go_wp2
  go_loopw [5] (fun i wr => ∃ k : Nat, k ≤ n ∧ i = .int .i64 (k : Nat) ∧ Below w.heap.size w wr) (fun i _ => n - (intOf i).toNat)
  case atStart => exact ⟨0, by omega, rfl, Below.refl _ _⟩
  case round =>
    obtain ⟨k, hk, rfl, hbel⟩ := hrel
    have HW := Lib.hid hbel
    by_cases hlt : k < n
    · obtain ⟨g, off, rfl, hg, hc0, hc1⟩ := (HA.out.below hbel).at hlt
      obtain ⟨g', off', rfl, hg', hd0, hd1⟩ := (HB.out.below hbel).at hlt
      clear hbel
      go_wp2
      have hc0' := cell_regrown hc0; have hc1' := cell_regrown hc1; have hd0' := cell_regrown hd0; have hd1' := cell_regrown hd1
      refine wp_region_quiet_below (by kernel_rfl) (by kernel_rfl) ?_
      repeat (go_big_quiet_step ((go_at_call 276; exact Calls.regrown_of (eqPage_same _ _ _))))
      refine wpQuiet_nil ?_
      intro w2 hw'
      have hb2 : Below wr.heap.size wr w2 := by obtain ⟨⟨dq, osq⟩, rfl⟩ := hw'; exact below_regrown wr dq osq
      clear hw'
      have HB2 := Lib.hid (HW.out.trans (hb2.mono HW.out.size))
      clear hb2
      go_wp2
      go_roundw
      case rel => exact ⟨k + 1, by omega, by go_num, HB2.out⟩
      case measure => simp [intOf]; omega
    · clear hbel
      go_wp2
      go_ret
      exact ⟨rfl, HW.out⟩
set_option maxHeartbeats 1000000 in
theorem eqBlock_same (A B : Option Addr) (n ca cb : Nat) (X : List Pg) (er : Int) (bad : Bool) (w : World) (hn : n ≤ 2147483648) (hA : RdPg w w.heap.size A n X) (hB : RdPg w w.heap.size B n X) :
    Calls Tryz.prog 207 #[.agg #[.slice A n ca, .int .i64 er, .bool bad], .agg #[.slice B n cb, .int .i64 er, .bool bad]] w fun e w' => e = .returned (.bool true) ∧ Below w.heap.size w w' := by
  have HA := Lib.hid hA; have HB := Lib.hid hB; clear hA hB
  go_enter Tryz.func207, Tryz.ntmps207
  go_wp2_with fail
  refine (eqPageS_same A B n ca cb X _ hn ?_ ?_).mono ?_
  · exact (HA.out.below (((Below.refl _ _).alloc (Nat.le_refl _) _).alloc (by simp) _)).mono (by simp; omega)
  · exact (HB.out.below (((Below.refl _ _).alloc (Nat.le_refl _) _).alloc (by simp) _)).mono (by simp; omega)
  rintro e w4 ⟨rfl, hb4⟩
  have k0 := (((isBlk_new w 128 [Value.slice A n ca, .int .i64 er, .bool bad]).alloc _).below hb4 (by simp; omega))
  have k1 := ((isBlk_new (w.alloc _) 128 [Value.slice B n cb, .int .i64 er, .bool bad]).below hb4 (by simp))
  have HB4 := Lib.hid ((((Below.refl w.heap.size w).alloc (Nat.le_refl _) _).alloc (by simp) _).trans (hb4.mono (by simp; omega)))
  simp only [size_alloc] at k0 k1
  obtain ⟨c0, c1, c2, -, -, -⟩ := blk3 k0
  obtain ⟨d0, d1, d2, -, -, -⟩ := blk3 k1
  clear hb4 k0 k1
  go_wp2
  go_ret
  exact ⟨rfl, HB4.out⟩

set_option maxHeartbeats 1000000 in
theorem eqBlockS_same (A B : Option Addr) (n ca cb : Nat) (X : List Bk) (w : World) (hn : n ≤ 2147483648) (hp : ∀ b ∈ X, b.pages.length ≤ 2147483648) (hA : RdBk w w.heap.size A n X) (hB : RdBk w w.heap.size B n X) :
    Calls Tryz.prog 142 #[.slice A n ca, .slice B n cb] w fun e w' => e = .returned (.bool true) ∧ Below w.heap.size w w' := by
  have HA := Lib.hid hA; have HB := Lib.hid hB; have HP := Lib.hid hp; clear hA hB hp
  go_enter Tryz.func142, Tryz.ntmps142
  go_wp2
  go_loopw [5] (fun i wr => ∃ k : Nat, k ≤ n ∧ i = .int .i64 (k : Nat) ∧ Below w.heap.size w wr) (fun i _ => n - (intOf i).toNat)
  case atStart => exact ⟨0, by omega, rfl, Below.refl _ _⟩
  case round =>
    obtain ⟨k, hk, rfl, hbel⟩ := hrel
    have HW := Lib.hid hbel
    by_cases hlt : k < n
    · obtain ⟨g, off, pA, pc, rfl, hg, hc0, hc1, hc2, hpa⟩ := (HA.out.below hbel).at hlt
      obtain ⟨g', off', pA', pc', rfl, hg', hd0, hd1, hd2, hpb⟩ := (HB.out.below hbel).at hlt
      have hpl := HP.out _ (getD_lt (z := zeroBk) (show k < X.length by have := HA.out.1; omega))
      have HPA := Lib.hid (hpa.mono hbel.size); have HPB := Lib.hid (hpb.mono hbel.size)
      clear hbel hpa hpb
      generalize X.getD k zeroBk = b at hc0 hc1 hc2 hd0 hd1 hd2 hpl HPA HPB
      go_wp2
      have hc0' := cell_regrown hc0; have hc1' := cell_regrown hc1; have hc2' := cell_regrown hc2; have hd0' := cell_regrown hd0; have hd1' := cell_regrown hd1; have hd2' := cell_regrown hd2
      refine wp_region_quiet_below (by kernel_rfl) (by kernel_rfl) ?_
      repeat (go_big_quiet_step ((go_at_call 207; exact Calls.regrown_of (eqBlock_same _ _ _ _ _ b.pages _ _ _ hpl ((HPA.out.below (below_regrown _ _ _)).mono (below_regrown _ _ _).size) ((HPB.out.below (below_regrown _ _ _)).mono (below_regrown _ _ _).size)))))
      refine wpQuiet_nil ?_
      intro w2 hw'
      have hb2 : Below wr.heap.size wr w2 := by obtain ⟨⟨dq, osq⟩, rfl⟩ := hw'; exact below_regrown wr dq osq
      clear hw'
      have HB2 := Lib.hid (HW.out.trans (hb2.mono HW.out.size))
      clear hb2
      go_wp2
      go_roundw
      case rel => exact ⟨k + 1, by omega, by go_num, HB2.out⟩
      case measure => simp [intOf]; omega
    · clear hbel
      go_wp2
      go_ret
      exact ⟨rfl, HW.out⟩

set_option maxHeartbeats 1000000 in
theorem eqNand_same (A B : Option Addr) (n ca cb : Nat) (X : List Bk) (w : World) (hn : n ≤ 2147483648) (hp : ∀ b ∈ X, b.pages.length ≤ 2147483648) (hA : RdBk w w.heap.size A n X) (hB : RdBk w w.heap.size B n X) :
    Calls Tryz.prog 65 #[.agg #[.slice A n ca], .agg #[.slice B n cb]] w fun e w' => e = .returned (.bool true) ∧ Below w.heap.size w w' := by
  have HA := Lib.hid hA; have HB := Lib.hid hB; have HP := Lib.hid hp; clear hA hB hp
  go_enter Tryz.func65, Tryz.ntmps65
  go_wp2_with fail
  refine (eqBlockS_same A B n ca cb X _ hn HP.out ?_ ?_).mono ?_
  · exact (HA.out.below (((Below.refl _ _).alloc (Nat.le_refl _) _).alloc (by simp) _)).mono (by simp; omega)
  · exact (HB.out.below (((Below.refl _ _).alloc (Nat.le_refl _) _).alloc (by simp) _)).mono (by simp; omega)
  rintro e w4 ⟨rfl, hb4⟩
  have HB4 := Lib.hid ((((Below.refl w.heap.size w).alloc (Nat.le_refl _) _).alloc (by simp) _).trans (hb4.mono (by simp; omega)))
  clear hb4
  go_wp2
  go_ret
  exact ⟨rfl, HB4.out⟩

end Go.Proofs.YtloaeglmngcenaaGreatDoor
