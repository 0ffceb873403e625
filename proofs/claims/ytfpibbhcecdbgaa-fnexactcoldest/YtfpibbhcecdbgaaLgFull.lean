/-
  The full blocks of a chip, with a size for each; comparing numbers.
-/
import Derived.RangeFuncNested
import Derived.RangeFuncBound
import Derived.RangeFuncCalls
import Derived.RangeFuncLeaves
import Derived.Shelf.Abstract
import Derived.Shelf.RegionOpen
import Derived.WalkKit
import Derived.OwnWalkIn
import Derived.TacticsInMore
import Derived.LoopNIn
import Derived.LoopIn
import Derived.Deep.RegionHeld3
import Derived.Scope
import Derived.RangeFuncBox
import Derived.Test.YtfpibbhcecdbgaaProg
import Derived.KernelRfl
import Derived.Test.YtfpibbhcecdbgaaNdUse
namespace Go.Proofs.Ytfpibbhcecdbgaa
open Go.RowKit Go.Shelf Go.ChangeShapes
attribute [local go_sem] Oper.semAt_some

/-- a block that may be erased -/
noncomputable def fulB (b : Bk) : Bool := decide (b.bad = false ∧ uPre b.pages = 4)
/-- the full blocks, with the sizes of their loads -/
noncomputable def fulls (X : List Bk) (L : Nat → Nat) : Nat → List (Int × Int)
  | 0 => []
  | k + 1 => if fulB (X.getD k zeroBk) = true then fulls X L k ++ [((k : Int), (L k : Int))] else fulls X L k
theorem fulls_yes {X : List Bk} {L : Nat → Nat} {k : Nat} (h : fulB (X.getD k zeroBk) = true) : fulls X L (k + 1) = fulls X L k ++ [((k : Int), (L k : Int))] := by rw [fulls, if_pos h]
theorem fulls_no {X : List Bk} {L : Nat → Nat} {k : Nat} (h : fulB (X.getD k zeroBk) = false) : fulls X L (k + 1) = fulls X L k := by rw [fulls, if_neg (by rw [h]; simp)]
theorem fulls_len (X : List Bk) (L : Nat → Nat) (k : Nat) : (fulls X L k).length ≤ k := by
  induction k with
  | zero => simp [fulls]
  | succ k ih => rw [fulls]; split <;> (try rw [List.length_append, List.length_singleton]) <;> omega
theorem fulls_pre (X : List Bk) (L : Nat → Nat) {k N : Nat} (h : k ≤ N) : ∃ rest, fulls X L k ++ rest = fulls X L N := by
  induction N with
  | zero => exact ⟨[], by rw [show k = 0 by omega]; simp⟩
  | succ N ih =>
    rcases Nat.lt_or_ge k (N + 1) with h1 | h1
    · obtain ⟨r, hr⟩ := ih (by omega)
      rw [fulls]
      split
      · exact ⟨r ++ [_], by rw [← List.append_assoc, hr]⟩
      · exact ⟨r, hr⟩
    · obtain rfl : k = N + 1 := by omega
      exact ⟨[], by simp⟩
theorem fulls_nonneg (X : List Bk) (L : Nat → Nat) (k : Nat) : ∀ x ∈ fulls X L k, 0 ≤ x.2 := by
  induction k with
  | zero => intro x h; simp [fulls] at h
  | succ k ih =>
    intro x h
    rw [fulls] at h
    split at h
    · rcases List.mem_append.1 h with h | h
      · exact ih x h
      · rw [List.mem_singleton.1 h]; simp
    · exact ih x h
/-- the first block with the least size, below 4 -/
def vstep (s : Int × Int) (x : Int × Int) : Int × Int := if x.2 < s.2 then x else s
def vic (l : List (Int × Int)) : Int × Int := l.foldl vstep (-1, 4)
theorem vic_snoc (l : List (Int × Int)) (x : Int × Int) : vic (l ++ [x]) = vstep (vic l) x := by simp [vic]
theorem vic_stays {l rest : List (Int × Int)} (h : (vic l).2 = 0) (hr : ∀ x ∈ rest, 0 ≤ x.2) : vic (l ++ rest) = vic l := by
  have : ∀ (rest : List (Int × Int)) (s : Int × Int), s.2 = 0 → (∀ x ∈ rest, 0 ≤ x.2) → rest.foldl vstep s = s := by
    intro rest
    induction rest with
    | nil => intro s _ _; rfl
    | cons a l ih =>
      intro s hs ha
      have e : vstep s a = s := by unfold vstep; rw [if_neg (by have := ha a (by simp); omega)]
      rw [List.foldl_cons, e]
      exact ih s hs (fun x hx => ha x (by simp [hx]))
  unfold vic at *
  rw [List.foldl_append]
  exact this rest _ h hr

def cmpI (x y : Int) : Int := if x < y then -1 else if x > y then 1 else 0
set_option maxHeartbeats 1000000 in
theorem isFull_any (A : Option Addr) (ca : Nat) (a b c d : Pg) (er : Int) (bad : Bool) (w : World) (hA : RdPg w w.heap.size A 4 [a, b, c, d]) :
    Calls Try.prog 30 #[.agg #[.slice A 4 ca, .int .i64 er, .bool bad]] w fun e w' => e = .returned (.bool (decide (bad = false ∧ uPre [a, b, c, d] = 4))) ∧ Below w.heap.size w w' := by
  have HA := Lib.hid hA; clear hA
  cases bad with
  | true =>
    have HC : Hid (decide (true = false ∧ uPre [a, b, c, d] = 4) = false) := by show _ = _; simp
    go_enter Try.func30, Try.ntmps30
    go_wp2
    go_ret
    exact ⟨ret_b HC.out.symm, box_below _ _⟩
  | false =>
    go_enter Try.func30, Try.ntmps30
    go_wp2_with fail
    refine (pagesOf_any A ca a b c d er false _ ((HA.out.below (box_below _ _)).mono (box_below _ _).size)).mono ?_
    rintro e w3 ⟨rfl, hb3⟩
    have HB3 := Lib.hid (bel_step (box_below w _) hb3)
    clear hb3
    go_wp2_with fail
    refine (used_any a b c d w3).mono ?_
    rintro e w4 ⟨rfl, hb4⟩
    have HB4 := Lib.hid (bel_step HB3.out hb4)
    clear hb4
    obtain ⟨u, hu⟩ : ∃ u, u = uPre [a, b, c, d] := ⟨_, rfl⟩
    rw [← hu]
    have HU := Lib.hid hu; clear hu
    by_cases h0 : u = 4
    · subst h0
      have HC : Hid (decide (false = false ∧ uPre [a, b, c, d] = 4) = true) := by show _ = _; simp [← HU.out]
      go_wp2
      go_ret
      exact ⟨ret_b HC.out.symm, HB4.out⟩
    · have HC : Hid (decide (false = false ∧ uPre [a, b, c, d] = 4) = false) := by show _ = _; simp [← HU.out, h0]
      have h0' : ((u : Int) == 4) = false := by simp; omega
      go_wp2
      go_ret
      exact ⟨ret_b HC.out.symm, HB4.out⟩

end Go.Proofs.Ytfpibbhcecdbgaa
