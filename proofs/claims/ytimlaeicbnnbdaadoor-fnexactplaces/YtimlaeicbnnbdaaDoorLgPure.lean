/-
  Plain mathematics of chapter 6 (the log): the open block, the free block with the least Erases, the block for the next page. No condition.
-/
import Derived.Test.YtimlaeicbnnbdaaDoorNdUse
import Derived.Test.YtimlaeicbnnbdaaDoorNdFree
namespace Go.Proofs.YtimlaeicbnnbdaaDoor

/-- the first place below n at which f holds; -1 without -/
def firstTo (f : Nat → Bool) : Nat → Int
  | 0 => -1
  | k + 1 => if firstTo f k = -1 then (if f k = true then (k : Int) else -1) else firstTo f k
theorem firstTo_none {f : Nat → Bool} {n : Nat} (h : ∀ i, i < n → f i = false) : firstTo f n = -1 := by
  induction n with
  | zero => rfl
  | succ n ih => simp only [firstTo]; rw [if_pos (ih fun i hi => h i (by omega)), h n (by omega)]; rfl
theorem firstTo_at {f : Nat → Bool} {k : Nat} (h : ∀ i, i < k → f i = false) (hk : f k = true) : ∀ n, k < n → firstTo f n = (k : Int) := by
  intro n
  induction n with
  | zero => intro h; omega
  | succ n ih =>
    intro hn
    simp only [firstTo]
    by_cases e : k = n
    · subst e; rw [if_pos (firstTo_none h), if_pos hk]
    · rw [ih (by omega), if_neg (by omega)]
theorem firstTo_cases (f : Nat → Bool) (n : Nat) : (firstTo f n = -1 ∧ ∀ i, i < n → f i = false) ∨ ∃ k : Nat, k < n ∧ firstTo f n = (k : Int) ∧ f k = true ∧ ∀ i, i < k → f i = false := by
  induction n with
  | zero => exact .inl ⟨rfl, fun i h => absurd h (by omega)⟩
  | succ n ih =>
    rcases ih with ⟨h1, h2⟩ | ⟨k, h1, h2, h3, h4⟩
    · cases e : f n with
      | true => exact .inr ⟨n, by omega, by simp only [firstTo]; rw [if_pos h1, if_pos e], e, h2⟩
      | false =>
        refine .inl ⟨by simp only [firstTo]; rw [if_pos h1, e]; rfl, fun i hi => ?_⟩
        by_cases e' : i = n
        · subst e'; exact e
        · exact h2 i (by omega)
    · exact .inr ⟨k, by omega, by simp only [firstTo]; rw [h2, if_neg (by omega)], h3, h4⟩

/-- a block that can be programmed further -/
def opnB (b : Bk) : Bool := !b.bad && (decide (0 < uPre b.pages) && decide (uPre b.pages < 4))
def openR (X : List Bk) : Int := firstTo (fun i => opnB (X.getD i zeroBk)) X.length
def fre (b : Bk) : Bool := decide (b.bad = false ∧ uPre b.pages = 0)
/-- the first free block with the least Erases, among the first k; -1 without -/
def leastTo (X : List Bk) : Nat → Int
  | 0 => -1
  | k + 1 => if fre (X.getD k zeroBk) = true ∧ (leastTo X k = -1 ∨ (X.getD k zeroBk).erases < (X.getD (leastTo X k).toNat zeroBk).erases) then (k : Int) else leastTo X k
theorem leastTo_range (X : List Bk) (k : Nat) : leastTo X k = -1 ∨ (0 ≤ leastTo X k ∧ leastTo X k < k) := by
  induction k with
  | zero => exact .inl rfl
  | succ k ih =>
    simp only [leastTo]
    split
    · right; omega
    · rcases ih with h | h
      · exact .inl h
      · right; omega
theorem leastTo_yes {X : List Bk} {k : Nat} (h : fre (X.getD k zeroBk) = true) (h' : leastTo X k = -1 ∨ (X.getD k zeroBk).erases < (X.getD (leastTo X k).toNat zeroBk).erases) : leastTo X (k + 1) = (k : Int) := by simp only [leastTo]; rw [if_pos ⟨h, h'⟩]
theorem leastTo_busy {X : List Bk} {k : Nat} (h : fre (X.getD k zeroBk) = false) : leastTo X (k + 1) = leastTo X k := by simp only [leastTo]; rw [if_neg (by simp only [List.getD_eq_getElem?_getD] at h ⊢; rw [h]; simp)]
theorem leastTo_more {X : List Bk} {k : Nat} (h1 : leastTo X k ≠ -1) (h2 : ¬ (X.getD k zeroBk).erases < (X.getD (leastTo X k).toNat zeroBk).erases) : leastTo X (k + 1) = leastTo X k := by
  simp only [leastTo]; rw [if_neg]
  rintro ⟨-, h | h⟩
  · exact h1 h
  · exact h2 h
def nextR (X : List Bk) (r : Int) : Int := if openR X = -1 then (if ((nFree X : Nat) : Int) ≤ r then -1 else leastTo X X.length) else openR X
open Classical in
noncomputable def openAns (X : List Bk) : Int := if NdOk X then openR X else -1
open Classical in
noncomputable def nextAns (X : List Bk) (r : Int) : Int := if NdOk X ∧ (0 ≤ r ∧ r ≤ 12) then nextR X r else -1
theorem openAns_no {X : List Bk} (h : ¬ NdOk X) : openAns X = -1 := by unfold openAns; rw [if_neg h]
theorem openAns_yes {X : List Bk} (h : NdOk X) : openAns X = openR X := by unfold openAns; rw [if_pos h]
theorem nextAns_no {X : List Bk} {r : Int} (h : ¬ NdOk X) : nextAns X r = -1 := by unfold nextAns; rw [if_neg (fun x => h x.1)]
theorem nextAns_out {X : List Bk} {r : Int} (h : ¬ (0 ≤ r ∧ r ≤ 12)) : nextAns X r = -1 := by unfold nextAns; rw [if_neg (fun x => h x.2)]
theorem nextAns_yes {X : List Bk} {r : Int} (h : NdOk X) (h' : 0 ≤ r ∧ r ≤ 12) : nextAns X r = nextR X r := by unfold nextAns; rw [if_pos ⟨h, h'⟩]
theorem openR_range (X : List Bk) : openR X = -1 ∨ (0 ≤ openR X ∧ openR X < X.length) := by
  rcases firstTo_cases (fun i => opnB (X.getD i zeroBk)) X.length with ⟨h, -⟩ | ⟨k, hk, h, -⟩
  · exact .inl h
  · right; unfold openR; rw [h]; omega
theorem nextR_range (X : List Bk) (r : Int) : nextR X r = -1 ∨ (0 ≤ nextR X r ∧ nextR X r < X.length) := by
  unfold nextR
  split
  · split
    · exact .inl rfl
    · exact leastTo_range X X.length
  · rcases openR_range X with h | h
    · exact .inl h
    · exact .inr h
end Go.Proofs.YtimlaeicbnnbdaaDoor
