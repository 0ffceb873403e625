/-
  '[]byte(s)': a row of bytes of the call's own, written and turned back. No condition.
-/
import Derived.Test.YtgkkkldajangeaaProg
import Derived.KernelRfl
import Derived.Test.YtgkkkldajangeaaBtMem
import Derived.Lib.ConvBytes
namespace Go.Proofs.Ytgkkkldajangeaa
open Go.RowKit

/-- block g holds the bytes l, and room behind them; nothing of it is frozen -/
def ByRow (w : World) (g : Nat) (l : List UInt8) : Prop := ∃ (more : List Value) (m : Nat), m = l.length + more.length ∧ w.heap[g]? = some (.cells (l.map byteV ++ more).toArray 5 (m, m + 1))
theorem ByRow.lt {w : World} {g : Nat} {l : List UInt8} (h : ByRow w g l) : g < w.heap.size := by obtain ⟨more, m, -, hh⟩ := h; exact lt_of_block hh
theorem ByRow.cell {w : World} {g j : Nat} {l : List UInt8} (h : ByRow w g l) (hj : j < l.length) : w.cell? ⟨g, j, none⟩ = some (.int .u8 ((l.getD j 0).toNat : Int)) := by
  obtain ⟨more, m, -, hh⟩ := h
  rw [cell_of_row w g j _ _ _ hh]
  simp [List.getElem?_append_left, hj, byteV, List.getD_eq_getElem?_getD]
theorem ByRow.free {w : World} {g j : Nat} {l : List UInt8} (h : ByRow w g l) (hj : j < l.length) : w.frozen? ⟨g, j, none⟩ = false := by
  obtain ⟨more, m, hm, hh⟩ := h
  have : ¬ m ≤ j := by omega
  simp [World.frozen?, hh, this]
theorem ByRow.set {w : World} {g j : Nat} {l : List UInt8} (h : ByRow w g l) (hj : j < l.length) (c : UInt8) : ByRow (w.setCell ⟨g, j, none⟩ (.int .u8 (c.toNat : Int))) g (l.set j c) := by
  have hlt := h.lt
  obtain ⟨more, m, hm, hh⟩ := h
  refine ⟨more, m, by rw [List.length_set]; exact hm, ?_⟩
  have h' : w.heap[g] = .cells (l.map byteV ++ more).toArray 5 (m, m + 1) := by simpa [Array.getElem?_eq_getElem hlt] using hh
  show (w.heap.modify g _)[g]? = _
  rw [Array.getElem?_eq_getElem (by simpa using hlt), Array.getElem_modify_self, h']
  simp [List.map_set, List.set_append_left, hj, byteV]
theorem ByRow.below {w w' : World} {g B : Nat} {l : List UInt8} (h : ByRow w g l) (hb : Below B w w') (hg : g < B) : ByRow w' g l := by
  obtain ⟨more, m, hm, hh⟩ := h
  exact ⟨more, m, hm, (hb.block g hg).trans hh⟩
theorem bytes_row (s : ByteArray) (W : World) : ∃ cap W', (convert 9 22 (.string s)).run Try.prog W = .ok (.slice (some ⟨W.heap.size, 0, none⟩) s.size cap) W' ∧ W'.heap.size = W.heap.size + 1 ∧ Below W.heap.size W W' ∧ ByRow W' W.heap.size s.data.toList := by
  refine ⟨_, _, Lib.run_convert_string_bytes W 9 22 5 s Try.underlying9 Try.underlying22 Try.underlying5, Lib.bytesWorld_size W _ s, ⟨?_, ?_, ?_, ?_, fun k hk => Lib.bytesWorld_at_old W _ s k hk⟩, ?_⟩
  · simp [Lib.bytesWorld, World.freeze, World.alloc, World.drew, -World.alloc_eq, -World.drew_eq]
  · simp [Lib.bytesWorld, World.freeze, World.alloc, World.drew, -World.alloc_eq, -World.drew_eq]
  · simp [Lib.bytesWorld, World.freeze, World.alloc, World.drew, -World.alloc_eq, -World.drew_eq]
  · rw [Lib.bytesWorld_size]; omega
  · refine ⟨List.replicate (grownCap W s.size 0 5 - s.size) (.int .u8 0), (Lib.bytesCells W 5 s).size, ?_, ?_⟩
    · simp [Lib.bytesCells]
    · rw [Lib.bytesWorld_at_new]
      congr 2
      rw [Lib.bytesCells]
      apply Array.toList_inj.1
      simp [byteV]
theorem row_text {w : World} {g n c : Nat} {l : List UInt8} (h : ByRow w g l) (hn : l.length = n) : (convert 22 9 (.slice (some ⟨g, 0, none⟩) n c)).run Try.prog w = .ok (strV l) w := by
  subst hn
  refine run_convert_bytes_back w 22 9 5 _ c l Try.underlying22 Try.underlying5 Try.underlying9 fun j hj => ?_
  rw [add_plain, h.cell hj]
  simp [List.getD_eq_getElem?_getD, List.getElem?_eq_getElem hj]
end Go.Proofs.Ytgkkkldajangeaa
