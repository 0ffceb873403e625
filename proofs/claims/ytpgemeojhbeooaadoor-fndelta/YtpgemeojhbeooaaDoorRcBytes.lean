/-
  The contracts of RecBytes and of what it calls, of the program and of the model.
-/
import Derived.Test.YtpgemeojhbeooaaDoorProg
import Derived.KernelRfl
import Derived.Test.YtpgemeojhbeooaaDoorBtText
import Derived.Test.YtpgemeojhbeooaaDoorRcRight
import Derived.WalkKit
import Derived.Lib.Hide
import Derived.Laws.RangeString
import Derived.Lib.QuietBelow
import Derived.BigQuiet
namespace Go.Proofs.YtpgemeojhbeooaaDoor
open Go.RowKit
open Bt (Rc)

/-- the letters of the numbers of a record -/
def letterAt (j : Nat) : Int := match j with | 0 => 107 | 1 => 115 | 2 => 113 | 3 => 116 | _ => 111

/-- the numbers of a record in their order -/
def Bt.Rc.num (r : Rc) (j : Nat) : Int := match j with | 0 => r.k | 1 => r.s | 2 => r.q | 3 => r.t | _ => r.o
/-- the encodings of the first numbers -/
def headTo (r : Rc) : Nat → List UInt8
  | 0 => []
  | j + 1 => headTo r j ++ Bt.putNum (r.num j)
theorem headTo_length (r : Rc) (j : Nat) : (headTo r j).length ≤ 10 * j := by
  induction j with
  | zero => simp [headTo]
  | succ j ih => have := (Bt.putNum_length (r.num j)).2; simp only [headTo, List.length_append]; omega
theorem headTo_body (r : Rc) : headTo r 5 ++ Bt.putText r.d = r.body := by simp [headTo, Bt.Rc.body, Bt.Rc.num, List.append_assoc]

/-! a string that is ranged over, its reader in a block that need not be the newest -/
def setIter (w : World) (g : Nat) (s : ByteArray) (pos : Nat) : World := { w with heap := w.heap.setIfInBounds g (.stringIter s pos) }
def IterAt (w : World) (g : Nat) (s : ByteArray) (pos : Nat) : Prop := w.heap[g]? = some (.stringIter s pos)
def iterPos (w : World) (g : Nat) : Nat := match w.heap[g]? with | some (.stringIter _ p) => p | _ => 0
theorem IterAt.pos {w : World} {g : Nat} {s : ByteArray} {p : Nat} (h : IterAt w g s p) : iterPos w g = p := by unfold IterAt at h; simp [iterPos, h]
theorem IterAt.lt {w : World} {g : Nat} {s : ByteArray} {p : Nat} (h : IterAt w g s p) : g < w.heap.size := lt_of_block h
theorem IterAt.below {w w' : World} {g B : Nat} {s : ByteArray} {p : Nat} (h : IterAt w g s p) (hb : Below B w w') (hg : g < B) : IterAt w' g s p := (hb.block g hg).trans h
theorem IterAt.set {w : World} {g : Nat} {s : ByteArray} {p : Nat} (h : IterAt w g s p) (q : Nat) : IterAt (setIter w g s q) g s q := by
  have := h.lt
  unfold IterAt setIter
  simp [this]
theorem setIter_size (w : World) (g : Nat) (s : ByteArray) (p : Nat) : (setIter w g s p).heap.size = w.heap.size := by simp [setIter]
theorem setIter_block (w : World) (g : Nat) (s : ByteArray) (p k : Nat) (h : k ≠ g) : (setIter w g s p).heap[k]? = w.heap[k]? := by
  simp only [setIter]
  rw [Array.getElem?_setIfInBounds]
  rw [if_neg (fun e => h e.symm)]
theorem bel_setIter {B : Nat} {w0 w : World} (h : Below B w0 w) {g : Nat} (hg : B ≤ g) (s : ByteArray) (p : Nat) : Below B w0 (setIter w g s p) :=
  ⟨h.os, h.tape, h.output, by rw [setIter_size]; exact h.size, fun k hk => (setIter_block w g s p k (by omega)).trans (h.block k hk)⟩
theorem IsBlk.setIter' {w : World} {g : Nat} {e : TypeId} {cs : List Value} (h : IsBlk w g e cs) {k : Nat} (hk : g ≠ k) (s : ByteArray) (p : Nat) : IsBlk (setIter w k s p) g e cs := (setIter_block w k s p g hk).trans h
theorem run_next_in {P : Program} {w : World} {g : Nat} {s : ByteArray} {pos : Nat} (ty : TypeId) (hi : IterAt w g s pos) (h : pos < s.size) (ha : (s[pos]'h).toNat < 128) :
    (Instr.next (.pointer (some ⟨g, 0, none⟩)) true ty).run P w = .ok (.tuple #[.bool true, .int .i64 pos, .int .i32 (s[pos]'h).toNat]) (setIter w g s (pos + 1)) := by
  unfold IterAt at hi
  simp only [Instr.next, getObj, setObj, Sem.run_bind, Sem.run, hi, Result.andThen, h, if_true, decode_ascii s pos h ha]
  simp [goInt, setIter]
theorem run_next_out {P : Program} {w : World} {g : Nat} {s : ByteArray} {pos : Nat} (ty : TypeId) (hi : IterAt w g s pos) (h : ¬ pos < s.size) :
    (Instr.next (.pointer (some ⟨g, 0, none⟩)) true ty).run P w = .ok (.tuple #[.bool false]) w := by
  unfold IterAt at hi
  simp [Instr.next, getObj, Sem.run, hi, h]
/-- the text of the letters -/
def letters : ByteArray := ⟨#[107, 115, 113, 116, 111]⟩
theorem letters_at {j : Nat} (h : j < 5) : ∃ h' : j < letters.size, (letters[j]'h').toNat < 128 ∧ (((letters[j]'h').toNat : Nat) : Int) = letterAt j := by
  match j, h with
  | 0, _ => exact ⟨by decide, by decide, by decide⟩
  | 1, _ => exact ⟨by decide, by decide, by decide⟩
  | 2, _ => exact ⟨by decide, by decide, by decide⟩
  | 3, _ => exact ⟨by decide, by decide, by decide⟩
  | 4, _ => exact ⟨by decide, by decide, by decide⟩
/-- the next letter -/
theorem next_letter {P : Program} {w : World} {g j : Nat} (ty : TypeId) (hi : IterAt w g letters j) (h : j < 5) :
    (Instr.next (.pointer (some ⟨g, 0, none⟩)) true ty).run P w = .ok (.tuple #[.bool true, .int .i64 j, .int .i32 (letterAt j)]) (setIter w g letters (j + 1)) := by
  obtain ⟨h', ha, he⟩ := letters_at h
  rw [run_next_in ty hi h' ha, he]
theorem num_cell {w : World} {g : Nat} {e : TypeId} {r : Rc} (h : IsBlk w g e (recC r)) {j : Nat} (hj : j < 5) : w.cell? ⟨g, j, none⟩ = some (.int .i64 (r.num j)) := by
  match j, hj with
  | 0, _ => exact h.cell rfl
  | 1, _ => exact h.cell rfl
  | 2, _ => exact h.cell rfl
  | 3, _ => exact h.cell rfl
  | 4, _ => exact h.cell rfl
theorem num_small {r : Rc} (h : r.Ok) (j : Nat) : -9223372036854775808 ≤ r.num j ∧ r.num j ≤ 9223372036854775807 := by
  obtain ⟨h1, h2, h3, h4, h5, h6, h7, h8, h9, h10, -⟩ := h
  unfold Rc.num
  split <;> omega

end Go.Proofs.YtpgemeojhbeooaaDoor
