/-
  '[]byte(s)': the bytes of a string in a block of their own.
-/
import Derived.Test.YtpgemeojhbeooaaDoorProg
import Derived.KernelRfl
import Derived.Test.YtpgemeojhbeooaaDoorDlMatch
import Derived.Lib.ConvBytes
namespace Go.Proofs.YtpgemeojhbeooaaDoor
open Go.RowKit

theorem bytes_made (s : ByteArray) (W : World) : ∃ cap W', (convert 9 22 (.string s)).run Tryd.prog W = .ok (.slice (some ⟨W.heap.size, 0, none⟩) s.size cap) W' ∧ s.size ≤ cap ∧ W'.heap.size = W.heap.size + 1 ∧ Below W.heap.size W W' ∧
    RdL W' W'.heap.size (some ⟨W.heap.size, 0, none⟩) s.size s.data.toList := by
  refine ⟨_, _, Lib.run_convert_string_bytes W 9 22 5 s Tryd.underlying9 Tryd.underlying22 Tryd.underlying5, ?_, Lib.bytesWorld_size W _ s, ⟨?_, ?_, ?_, ?_, fun k hk => Lib.bytesWorld_at_old W _ s k hk⟩, rfl, fun hn => ⟨_, 0, rfl, ?_, fun i hi => ?_⟩⟩
  · exact grownCap_ge W _ _ _
  · simp [Lib.bytesWorld, World.freeze, World.alloc, World.drew, -World.alloc_eq, -World.drew_eq]
  · simp [Lib.bytesWorld, World.freeze, World.alloc, World.drew, -World.alloc_eq, -World.drew_eq]
  · simp [Lib.bytesWorld, World.freeze, World.alloc, World.drew, -World.alloc_eq, -World.drew_eq]
  · rw [Lib.bytesWorld_size]; omega
  · rw [Lib.bytesWorld_size]; omega
  · rw [Nat.zero_add, Lib.bytesWorld_cell W _ s i hi]
    unfold byteV
    rw [List.getD_eq_getElem?_getD, List.getElem?_eq_getElem hi]; rfl
end Go.Proofs.YtpgemeojhbeooaaDoor
