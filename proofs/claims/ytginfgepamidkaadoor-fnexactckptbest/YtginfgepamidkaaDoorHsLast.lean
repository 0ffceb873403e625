/-
  The contracts of the last record and of the floor, of the program and of the model.
-/
import Derived.Test.YtginfgepamidkaaDoorProg
import Derived.KernelRfl
import Derived.Test.YtginfgepamidkaaDoorHsRight
namespace Go.Proofs.YtginfgepamidkaaDoor
open Go.RowKit
open Bt (Rc)

theorem recField_2 (k s q t o : Int) (d : ByteArray) (w : World) : (Instr.field 52 (.agg #[.int .i64 k, .int .i64 s, .int .i64 q, .int .i64 t, .int .i64 o, .string d]) 2).run Tryd.prog w = .ok (.int .i64 q) w := by
  simp [Instr.field, run_underlying Tryd.underlying52, part, asAgg, go_sem]
theorem recField_3 (k s q t o : Int) (d : ByteArray) (w : World) : (Instr.field 52 (.agg #[.int .i64 k, .int .i64 s, .int .i64 q, .int .i64 t, .int .i64 o, .string d]) 3).run Tryd.prog w = .ok (.int .i64 t) w := by
  simp [Instr.field, run_underlying Tryd.underlying52, part, asAgg, go_sem]
theorem recField_4 (k s q t o : Int) (d : ByteArray) (w : World) : (Instr.field 52 (.agg #[.int .i64 k, .int .i64 s, .int .i64 q, .int .i64 t, .int .i64 o, .string d]) 4).run Tryd.prog w = .ok (.int .i64 o) w := by
  simp [Instr.field, run_underlying Tryd.underlying52, part, asAgg, go_sem]

/-- the cells of the record at place k of what reads as X, the row's first record spelled as the walk spells it -/
theorem RdRc.last {w : World} {B n : Nat} {A : Option Addr} {X : List Rc} (h : RdRc w B A n X) (hn : 0 < n) :
    ∃ g off, A = some ⟨g, off, none⟩ ∧ g < B ∧ w.cell? ⟨g, off + (n - 1) * 6, none⟩ = some (.int .i64 (lastR X).k) ∧ w.cell? ⟨g, off + (n - 1) * 6 + 1, none⟩ = some (.int .i64 (lastR X).s) ∧
      w.cell? ⟨g, off + (n - 1) * 6 + 2, none⟩ = some (.int .i64 (lastR X).q) ∧ w.cell? ⟨g, off + (n - 1) * 6 + 3, none⟩ = some (.int .i64 (lastR X).t) ∧
      w.cell? ⟨g, off + (n - 1) * 6 + 4, none⟩ = some (.int .i64 (lastR X).o) ∧ w.cell? ⟨g, off + (n - 1) * 6 + 5, none⟩ = some (.string (lastR X).d) := by
  have := h.at (k := n - 1) (by omega)
  unfold lastR
  rw [h.1]
  exact this

end Go.Proofs.YtginfgepamidkaaDoor
