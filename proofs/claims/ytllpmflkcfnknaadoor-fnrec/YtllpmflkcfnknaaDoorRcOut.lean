/-
  Answers of RecRead compared; what an encoding and a reading say of each other, as FnRec asks.
-/
import Derived.Test.YtllpmflkcfnknaaDoorDrRec3
namespace Go.Proofs.YtllpmflkcfnknaaDoor
open Go.RowKit
open Bt (Rc)
theorem rout_fields : Tryd.prog.underlying 29 = some (.struct (Tryd.prog.fieldsOf 29)) := by kernel_rfl
theorem rout_held : Tryd.prog.stoodInHeld 29 = false := by kernel_rfl
theorem rout_guard : Tryd.prog.eqGuardType Tryd.prog.depth 29 = false := by kernel_rfl
set_option maxHeartbeats 2000000 in
theorem equalIn_out (k s q t o : Int) (d : ByteArray) (c : Int) (w : World) : (Op.equalIn 10000 29 (routV (⟨k, s, q, t, o, d⟩, c)) (routV (⟨k, s, q, t, o, d⟩, c))).run Tryd.prog w = .ok true w := by
  rw [run_equalIn_agg w 9999 _ _ _ rout_fields rout_held]
  simp [Program.fieldsOf, Tryd.underlying29, Op.eqFields, part, go_sem, Tryd.underlying2]
theorem bytes_nil {r : Rc} (h : r.Ok) : 0 < (bstr r.bytes).size := by
  rw [bstr_size, Bt.Rc.bytes_ok h, Bt.sealed]
  split
  · rename_i hb; rw [bstr_size] at hb; have := Bt.Rc.body_length h; omega
  · rw [List.length_append, Bt.sum_length]; omega
theorem recRead_short (t : ByteArray) : (Bt.recRead t).1.d.size ≤ 16 := by
  unfold Bt.recRead
  split
  · exact Nat.zero_le _
  split
  · rename_i h
    obtain ⟨-, -, h1, h2, h3, h4, h5, h6, h7, h8, h9, h10, h11, -⟩ := h
    exact h11
  · exact Nat.zero_le _
theorem bstr_back (t : ByteArray) : bstr t.data.toList = t := by simp [bstr]
end Go.Proofs.YtllpmflkcfnknaaDoor
