/-
  One element of one cell, appended to a row of the call's own.
-/
import Derived.Test.YtloaeglmngcenaaGreatDoorProg
import Derived.KernelRfl
import Derived.Test.YtloaeglmngcenaaGreatDoorHsNum
import Derived.RangeFuncBox
namespace Go.Proofs.YtloaeglmngcenaaGreatDoor
open Go.RowKit

/-- 's = append(s, x)' of one element of one cell, s the call's own: also what did not turn -/
theorem wpList_append_oneG {P : Program} {w0 wr : World} {ops : Array Oper} {rest : List Oper} {o : Oper} {a : Act} {Q : Exit → Act → World → Prop} {α : Type} (enc : α → Value)
    (henc : ∀ x, (enc x).oneCell' = true) (hgd : o.guard = none) (s x : Operand) (t e : TypeId) (z : Value) (bytes : Nat) (hI : OneInfo P t e z bytes)
    (ho : o.op = .call { callee := .builtin .append, args := #[s, x], argTypes := #[t, t] })
    {base n : Nat} {v : Value} {l : List α} (hown : wr.ownsRow base e 1 v n (l.map enc)) (hbel : Below base w0 wr) (hbase : base ≤ wr.heap.size)
    {g0 : Nat} (hg0 : g0 = wr.heap.size) (hs : a.eval s = v) (hx : a.eval x = .slice (some ⟨g0, 0, none⟩) 1 1) (c : α) {y : Value} (hy : y = enc c) (hb1 : n + 1 ≤ 4294967296) (hb2 : bytes ≤ 16)
    (h : ∀ g cap w', w'.ownsRow base e 1 (.slice (some ⟨g, 0, none⟩) (n + 1) cap) (n + 1) ((l ++ [c]).map enc) → Below base w0 w' → (∀ k, k < wr.heap.size → v.ownBlock ≠ some k → w'.heap[k]? = wr.heap[k]?) → wr.heap.size ≤ w'.heap.size → wpList P ops Q rest (a.put o.dst (.slice (some ⟨g, 0, none⟩) (n + 1) cap)) w') :
    wpList P ops Q (o :: rest) a (wr.alloc (.cells #[y] e)) := by
  obtain ⟨i0, hi, hz0, hz1, hz2⟩ := info_parts hI.info
  subst hy hg0
  refine wpList_append_own _ hgd s x t ho base e i0 z 1 bytes hI.slice hi hz0 hz1 hz2 hI.zero (by decide) v n (l.map enc) hs (hown.alloc _) ⟨wr.heap.size, 0, none⟩ 1 1 [enc c] hx rfl ?_ ?_ ?_ ?_ ?_ ?_
  · intro j u hj
    match j, hj with
    | 0, hj => simp at hj; subst hj; rw [add_plain]; simp
  · intro u hu
    simp at hu; subst hu; exact henc c
  · unfold maxLen; omega
  · calc (n + 1) * bytes ≤ 4294967296 * 16 := Nat.mul_le_mul hb1 hb2
      _ ≤ 140737488355328 := by decide
  · simp; omega
  · intro v' w' ho' hg _
    obtain ⟨g', cap', rfl⟩ := ownsRow_succ ho'
    refine h g' cap' w' ?_ ((hbel.alloc hbase _).grown hg (by simp; omega) fun k hk => (hown.lt k hk).1) (fun k hk hne => ?_) ?_
    · rw [List.map_append]; exact ho'
    · exact (hg.block k (by simp; omega) (fun e => hne e.symm)).trans (Below.heap_alloc _ _ _ hk)
    · have := hg.size; simp at this; omega
end Go.Proofs.YtloaeglmngcenaaGreatDoor
