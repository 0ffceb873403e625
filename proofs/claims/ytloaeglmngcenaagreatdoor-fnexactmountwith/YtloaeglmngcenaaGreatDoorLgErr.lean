/-
  errors.Is over the program's three sentinels of chapter 6, and failureCode. Go's own text of errors.Is and errors.is is walked.
-/
import Derived.Test.YtloaeglmngcenaaGreatDoorProg
import Derived.KernelRfl
import Derived.WalkKit
import Derived.LaidEql
import Derived.Stop.Asserts
import Derived.RowKitTokens
import Derived.Test.YtloaeglmngcenaaGreatDoorBtMem
namespace Go.Proofs.YtloaeglmngcenaaGreatDoor
open Go.RowKit Go.Extern.Stop Go.Stop Go.Extern

theorem es_typeOf (v : Value) (w : World) : (Extern.ReflectliteType.typeOf #[.iface 383 v]).run Tryz.prog w = .ok (.iface 290 (.agg #[.pointer (some ⟨4, 383, none⟩)])) w := by kernel_rfl
/-- the model's entry for a type's method Comparable, behind a name -/
def esCmp : Array Value → Sem Value := Extern.ReflectliteType.method fun t => do Rtype.noPackHeld "Comparable" t; pure (.bool (← typeInfo t).comparable)
theorem es_comparable (w : World) : (esCmp #[.agg #[.pointer (some ⟨4, 383, none⟩)]]).run Tryz.prog w = .ok (.bool true) w := by kernel_rfl
theorem es_methodComparable (v : Value) (w : World) : (Go.method 514 290 v "Comparable").run Tryz.prog w = .ok (352, v) w := by kernel_rfl
theorem es_comp : (Tryz.prog.info? 383).map (·.comparable) = some true := by kernel_rfl
theorem es_size : (Tryz.prog.info? 402).map (·.size) = some 1 := by kernel_rfl
theorem es_noIs (v : Value) (xT : TypeId) (w : World) : (Instr.typeAssert (.iface 383 v) xT 292 true).run Tryz.prog w = .ok (.tuple #[.nilIface, .bool false]) w := run_typeAssert_lacksB Tryz.underlying292 (by kernel_rfl) (by kernel_rfl) v xT w
theorem es_noUnwrap (v : Value) (xT : TypeId) (w : World) : (Instr.typeAssert (.iface 383 v) xT 295 true).run Tryz.prog w = .ok (.tuple #[.nilIface, .bool false]) w := run_typeAssert_lacksB Tryz.underlying295 (by kernel_rfl) (by kernel_rfl) v xT w
theorem es_noUnwraps (v : Value) (xT : TypeId) (w : World) : (Instr.typeAssert (.iface 383 v) xT 297 true).run Tryz.prog w = .ok (.tuple #[.nilIface, .bool false]) w := run_typeAssert_lacksB Tryz.underlying297 (by kernel_rfl) (by kernel_rfl) v xT w

/-- an error is the sentinel that it is -/
theorem is_same (a : Addr) (w : World) :
    Calls Tryz.prog 148 #[.iface 383 (.pointer (some a)), .iface 383 (.pointer (some a))] w fun e w' => e = .returned (.bool true) ∧ w = w' := by
  obtain ⟨i, hi, hcmp⟩ := Option.map_eq_some_iff.1 es_comp
  obtain ⟨j, hj, hjs⟩ := Option.map_eq_some_iff.1 es_size
  have h8 := @run_callFunc_extern Tryz.prog 218 _ Extern.ReflectliteType.typeOf Tryz.func218 (by kernel_rfl) (by kernel_rfl) (by kernel_rfl) (by kernel_rfl)
  have h32 := @run_callFunc_extern Tryz.prog 352 _ esCmp Tryz.func352 (by kernel_rfl) (by kernel_rfl) (by kernel_rfl) (by kernel_rfl)
  have tT := es_typeOf
  have cT := es_comparable
  have mR := es_methodComparable
  have heq := run_eql_iface_ptr_same (P := Tryz.prog) w a Tryz.underlying109 Tryz.underlying383 hi hcmp hj
  go_enter Tryz.func148, Tryz.ntmps148
  go_wp2
  refine wp_loop_rounds 1 ?_
  rw [rounds_succ]
  go_wp2
  go_ret
  exact ⟨rfl, rfl⟩
/-- no error is no sentinel -/
theorem is_nil (b : Addr) (w : World) :
    Calls Tryz.prog 148 #[.nilIface, .iface 383 (.pointer (some b))] w fun e w' => e = .returned (.bool false) ∧ w = w' := by
  have hn := run_eql_iface_nil_left (P := Tryz.prog) w 383 (.pointer (some b)) Tryz.underlying109
  go_enter Tryz.func148, Tryz.ntmps148
  go_wp2
  go_ret
  exact ⟨rfl, rfl⟩
/-- an error is no other sentinel -/
theorem is_other (a b : Addr) (w : World) (hne : a ≠ b) (ha : ∃ c t, w.heap[a.block]? = some (.cells c t (0, 0))) (hb : ∃ c t, w.heap[b.block]? = some (.cells c t (0, 0))) :
    Calls Tryz.prog 148 #[.iface 383 (.pointer (some a)), .iface 383 (.pointer (some b))] w fun e w' => e = .returned (.bool false) ∧ w = w' := by
  obtain ⟨ca, ta, ha⟩ := ha
  obtain ⟨cb, tb, hb⟩ := hb
  obtain ⟨i, hi, hcmp⟩ := Option.map_eq_some_iff.1 es_comp
  obtain ⟨j, hj, hjs⟩ := Option.map_eq_some_iff.1 es_size
  have h8 := @run_callFunc_extern Tryz.prog 218 _ Extern.ReflectliteType.typeOf Tryz.func218 (by kernel_rfl) (by kernel_rfl) (by kernel_rfl) (by kernel_rfl)
  have h32 := @run_callFunc_extern Tryz.prog 352 _ esCmp Tryz.func352 (by kernel_rfl) (by kernel_rfl) (by kernel_rfl) (by kernel_rfl)
  have tT := es_typeOf
  have cT := es_comparable
  have mR := es_methodComparable
  have nE := es_noIs
  have uE := es_noUnwrap
  have vE := es_noUnwraps
  have heq := run_eql_iface_ptr_other (P := Tryz.prog) w Tryz.underlying109 Tryz.underlying383 hi hcmp hj (by rw [hjs]; decide) hne ha hb
  clear ha hb
  go_enter Tryz.func148, Tryz.ntmps148
  go_wp2
  refine wp_loop_rounds 1 ?_
  rw [rounds_succ]
  go_wp2
  go_ret
  exact ⟨rfl, rfl⟩

/-- the three sentinels, as they lie in memory -/
def esV (a : Addr) : Value := .iface 383 (.pointer (some a))
structure Sents (w : World) (a0 a1 a2 : Addr) : Prop where
  v0 : w.cell? ⟨0, 0, none⟩ = some (.iface 383 (.pointer (some a0)))
  v1 : w.cell? ⟨2, 0, none⟩ = some (.iface 383 (.pointer (some a1)))
  v2 : w.cell? ⟨1, 0, none⟩ = some (.iface 383 (.pointer (some a2)))
  b0 : ∃ c t, w.heap[a0.block]? = some (.cells c t (0, 0))
  b1 : ∃ c t, w.heap[a1.block]? = some (.cells c t (0, 0))
  b2 : ∃ c t, w.heap[a2.block]? = some (.cells c t (0, 0))
  n01 : a0 ≠ a1
  n02 : a0 ≠ a2
  n12 : a1 ≠ a2
theorem Sents.below {w w' : World} {a0 a1 a2 : Addr} (h : Sents w a0 a1 a2) (hb : Below w.heap.size w w') : Sents w' a0 a1 a2 := by
  have hk : ∀ b : Nat, (∃ c t, w.heap[b]? = some (.cells c t (0, 0))) → ∃ c t, w'.heap[b]? = some (.cells c t (0, 0)) := fun b hx => by
    obtain ⟨c, t, hx⟩ := hx
    exact ⟨c, t, (hb.block b (lt_of_block hx)).trans hx⟩
  have hc : ∀ (p : Addr) (v : Value), w.cell? p = some v → w'.cell? p = some v := fun p v hx => (hb.cell (World.block_lt_of_cell? _ _ hx)).trans hx
  exact ⟨hc _ _ h.v0, hc _ _ h.v1, hc _ _ h.v2, hk _ h.b0, hk _ h.b1, hk _ h.b2, h.n01, h.n02, h.n12⟩

/-- the two sentinels that a mount may answer with, as their variables read -/
structure Two (w : World) (a0 a2 : Addr) : Prop where
  v0 : w.cell? ⟨0, 0, none⟩ = some (.iface 383 (.pointer (some a0)))
  v2 : w.cell? ⟨1, 0, none⟩ = some (.iface 383 (.pointer (some a2)))
theorem Two.below {w w' : World} {a0 a2 : Addr} (h : Two w a0 a2) (hb : Below w.heap.size w w') : Two w' a0 a2 := by
  have hc : ∀ (p : Addr) (v : Value), w.cell? p = some v → w'.cell? p = some v := fun p v hx => (hb.cell (World.block_lt_of_cell? _ _ hx)).trans hx
  exact ⟨hc _ _ h.v0, hc _ _ h.v2⟩
theorem Sents.two {w : World} {a0 a1 a2 : Addr} (h : Sents w a0 a1 a2) : Two w a0 a2 := ⟨h.v0, h.v2⟩

set_option maxHeartbeats 1000000 in
theorem failure_nil (a0 a1 a2 : Addr) (w : World) (hs : Sents w a0 a1 a2) :
    Calls Tryz.prog 72 #[.nilIface] w fun e w' => e = .returned (.int .i64 0) ∧ w = w' := by
  have g0 := hs.v0; have g1 := hs.v1; have g2 := hs.v2
  clear hs
  go_enter Tryz.func72, Tryz.ntmps72
  go_wp2_with (go_at_call 148; refine (is_nil _ _).mono ?_; rintro e w' ⟨rfl, rfl⟩)
  go_ret
  exact ⟨rfl, rfl⟩
set_option maxHeartbeats 1000000 in
theorem failure_inv (a0 a1 a2 : Addr) (w : World) (hs : Sents w a0 a1 a2) :
    Calls Tryz.prog 72 #[.iface 383 (.pointer (some a0))] w fun e w' => e = .returned (.int .i64 1) ∧ w = w' := by
  have g0 := hs.v0; have g1 := hs.v1; have g2 := hs.v2
  clear hs
  go_enter Tryz.func72, Tryz.ntmps72
  go_wp2_with (go_at_call 148; refine (is_same _ _).mono ?_; rintro e w' ⟨rfl, rfl⟩)
  go_ret
  exact ⟨rfl, rfl⟩
set_option maxHeartbeats 1000000 in
theorem failure_room (a0 a1 a2 : Addr) (w : World) (hs : Sents w a0 a1 a2) :
    Calls Tryz.prog 72 #[.iface 383 (.pointer (some a1))] w fun e w' => e = .returned (.int .i64 9) ∧ w = w' := by
  have g0 := hs.v0; have g1 := hs.v1; have g2 := hs.v2
  have HS := Lib.hid hs
  clear hs
  go_enter Tryz.func72, Tryz.ntmps72
  go_wp2_with fail
  refine (is_other _ _ _ HS.out.n01.symm HS.out.b1 HS.out.b0).mono ?_
  rintro e w' ⟨rfl, rfl⟩
  go_wp2_with fail
  refine (is_same _ _).mono ?_
  rintro e w' ⟨rfl, rfl⟩
  go_wp2
  go_ret
  exact ⟨rfl, rfl⟩
set_option maxHeartbeats 1000000 in
theorem failure_hist (a0 a1 a2 : Addr) (w : World) (hs : Sents w a0 a1 a2) :
    Calls Tryz.prog 72 #[.iface 383 (.pointer (some a2))] w fun e w' => e = .returned (.int .i64 10) ∧ w = w' := by
  have g0 := hs.v0; have g1 := hs.v1; have g2 := hs.v2
  have HS := Lib.hid hs
  clear hs
  go_enter Tryz.func72, Tryz.ntmps72
  go_wp2_with fail
  refine (is_other _ _ _ HS.out.n02.symm HS.out.b2 HS.out.b0).mono ?_
  rintro e w' ⟨rfl, rfl⟩
  go_wp2_with fail
  refine (is_other _ _ _ HS.out.n12.symm HS.out.b2 HS.out.b1).mono ?_
  rintro e w' ⟨rfl, rfl⟩
  go_wp2_with fail
  refine (is_same _ _).mono ?_
  rintro e w' ⟨rfl, rfl⟩
  go_wp2
  go_ret
  exact ⟨rfl, rfl⟩
end Go.Proofs.YtloaeglmngcenaaGreatDoor
