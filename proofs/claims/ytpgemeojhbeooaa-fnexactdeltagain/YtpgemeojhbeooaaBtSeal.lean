/-
  The contracts of Unseal, of the program and of the model, and of the law's comparison of two results.
-/
import Derived.Test.YtpgemeojhbeooaaProg
import Derived.KernelRfl
import Derived.Test.YtpgemeojhbeooaaBtText
import Derived.WalkKit
import Derived.Lib.Hide
import Derived.Lib.QuietBelow
import Derived.BigQuiet
namespace Go.Proofs.Ytpgemeojhbeooaa
open Go.RowKit

/-- a TextOut as a value -/
abbrev toutV (t : List UInt8) (at_ code : Int) : Value := .agg #[strV t, .int .i64 at_, .int .i64 code]

theorem str_eq {a b : ByteArray} (h : a.data.toList = b.data.toList) : (a.toList == b.toList) = true := by rw [ByteArray.toList_eq, ByteArray.toList_eq, h]; simp
theorem str_ne {a b : ByteArray} (h : ¬ a.data.toList = b.data.toList) : (a.toList == b.toList) = false := by rw [ByteArray.toList_eq, ByteArray.toList_eq]; simpa using h
theorem ext_take (s : ByteArray) (k : Nat) : (s.extract 0 k).data.toList = s.data.toList.take k := by simp
theorem ext_drop (s : ByteArray) (k : Nat) : (s.extract k s.size).data.toList = s.data.toList.drop k := by
  have : s.data.size = s.size := rfl
  simp [List.take_of_length_le, this]
theorem ext_size {s : ByteArray} {k : Nat} (h : k ≤ s.size) : (s.extract 0 k).size = k := by
  have : (s.extract 0 k).data.toList.length = k := by rw [ext_take, List.length_take, len_list]; omega
  exact this

theorem Calls.regrown_same {P : Program} {f : FuncId} {args : Array Value} {w : World} {d : Nat} {os : Array Obj} {v : Value}
    (h : Calls P f args (Sort.grow (redrawn w d) os) fun e w' => e = .returned v ∧ (Sort.grow (redrawn w d) os) = w') : Calls P f args (Sort.grow (redrawn w d) os) fun e w'' => e = .returned v ∧ ∃ p : Regrown, w'' = Sort.grow (redrawn w p.d) p.os :=
  h.mono fun _ _ ⟨he, hb⟩ => ⟨he, ⟨⟨d, os⟩, hb.symm⟩⟩

set_option maxHeartbeats 2000000 in
theorem eqTextOut_same (s : ByteArray) (a c : Int) (w : World) :
    Calls Try.prog 15 #[.agg #[.string s, .int .i64 a, .int .i64 c], .agg #[.string s, .int .i64 a, .int .i64 c]] w fun e w' => e = .returned (.bool true) ∧ Below w.heap.size w w' := by
  go_enter Try.func15, Try.ntmps15
  go_wp2
  go_ret
  exact ⟨rfl, ((Below.refl _ _).alloc (Nat.le_refl _) _).alloc (by simp) _⟩
end Go.Proofs.Ytpgemeojhbeooaa
