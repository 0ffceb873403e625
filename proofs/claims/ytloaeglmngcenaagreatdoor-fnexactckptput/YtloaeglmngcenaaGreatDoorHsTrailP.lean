/-
  Plain mathematics of trails (chapter 5): the records that determine what a sector contains at a time. No condition.
-/
import Derived.Test.YtloaeglmngcenaaGreatDoorHsPure
namespace Go.Proofs.YtloaeglmngcenaaGreatDoor
open Bt (Rc)

/-- record r determines what sector s contains -/
def tch (r : Rc) (s : Int) : Bool := if r.k = 1 ∨ r.k = 2 then decide (r.s = s) else decide (r.k = 3)
/-- it does so at the time a -/
def hit (r : Rc) (s a : Int) : Bool := decide (r.t ≤ a) && tch r s
theorem hit_late {r : Rc} {s a : Int} (h : a < r.t) : hit r s a = false := by unfold hit; rw [decide_eq_false (by omega)]; rfl
theorem hit_tch {r : Rc} {s a : Int} (h : r.t ≤ a) : hit r s a = tch r s := by unfold hit; rw [decide_eq_true h]; rfl
/-- the last place below k that does so, -1 without -/
def lastT (X : List Rc) (s a : Int) : Nat → Int
  | 0 => -1
  | k + 1 => if hit (X.getD k Rc.zero) s a = true then (k : Int) else lastT X s a k
theorem lastT_yes {X : List Rc} {s a : Int} {k : Nat} (h : hit (X.getD k Rc.zero) s a = true) : lastT X s a (k + 1) = (k : Int) := by simp only [lastT, h, if_true]
theorem lastT_no {X : List Rc} {s a : Int} {k : Nat} (h : hit (X.getD k Rc.zero) s a = false) : lastT X s a (k + 1) = lastT X s a k := by simp only [lastT, h]; rfl
theorem lastT_ge (X : List Rc) (s a : Int) (k : Nat) : -1 ≤ lastT X s a k := by
  induction k with
  | zero => simp [lastT]
  | succ k ih => simp only [lastT]; split <;> omega
theorem lastT_lt (X : List Rc) (s a : Int) (k : Nat) : lastT X s a k < (k : Int) := by
  induction k with
  | zero => simp [lastT]
  | succ k ih => simp only [lastT]; split <;> omega
/-- the places of a trail among the first m records -/
def trl (X : List Rc) (s : Int) : Nat → Int → List Nat
  | 0, _ => []
  | m + 1, a => if hit (X.getD m Rc.zero) s a = true then m :: (if (X.getD m Rc.zero).k = 3 then trl X s m (X.getD m Rc.zero).o else []) else trl X s m a
theorem trl_zero (X : List Rc) (s a : Int) : trl X s 0 a = [] := rfl
theorem trl_no {X : List Rc} {s a : Int} {m : Nat} (h : hit (X.getD m Rc.zero) s a = false) : trl X s (m + 1) a = trl X s m a := by simp only [trl, h]; rfl
theorem trl_roll {X : List Rc} {s a : Int} {m : Nat} (h : hit (X.getD m Rc.zero) s a = true) (hk : (X.getD m Rc.zero).k = 3) : trl X s (m + 1) a = m :: trl X s m (X.getD m Rc.zero).o := by simp only [trl, h, hk, if_true]
theorem trl_end {X : List Rc} {s a : Int} {m : Nat} (h : hit (X.getD m Rc.zero) s a = true) (hk : (X.getD m Rc.zero).k ≠ 3) : trl X s (m + 1) a = [m] := by simp only [trl, h, hk, if_true, if_false]
theorem trl_of_last (X : List Rc) (s a : Int) (m : Nat) : (lastT X s a m = -1 ∧ trl X s m a = []) ∨
    ∃ i : Nat, i < m ∧ lastT X s a m = (i : Int) ∧ hit (X.getD i Rc.zero) s a = true ∧ trl X s m a = i :: (if (X.getD i Rc.zero).k = 3 then trl X s i (X.getD i Rc.zero).o else []) := by
  induction m with
  | zero => exact .inl ⟨rfl, rfl⟩
  | succ m ih =>
    by_cases h : hit (X.getD m Rc.zero) s a = true
    · refine .inr ⟨m, by omega, lastT_yes h, h, ?_⟩
      simp only [trl, h, if_true]
    · have h : hit (X.getD m Rc.zero) s a = false := by simpa using h
      rw [lastT_no h, trl_no h]
      rcases ih with ih | ⟨i, h1, h2, h3, h4⟩
      · exact .inl ih
      · exact .inr ⟨i, by omega, h2, h3, h4⟩
theorem trl_lt (X : List Rc) (s : Int) : ∀ (m : Nat) (a : Int), ∀ i ∈ trl X s m a, i < m := by
  intro m
  induction m with
  | zero => intro a i hi; cases hi
  | succ m ih =>
    intro a i hi
    by_cases h : hit (X.getD m Rc.zero) s a = true
    · by_cases hk : (X.getD m Rc.zero).k = 3
      · rw [trl_roll h hk] at hi
        rcases List.mem_cons.1 hi with rfl | hi
        · omega
        · have := ih _ i hi; omega
      · rw [trl_end h hk] at hi
        have := List.mem_singleton.1 hi; omega
    · rw [trl_no (by simpa using h)] at hi
      have := ih _ i hi; omega
theorem trl_len (X : List Rc) (s : Int) : ∀ (m : Nat) (a : Int), (trl X s m a).length ≤ m := by
  intro m
  induction m with
  | zero => intro a; simp [trl]
  | succ m ih =>
    intro a
    simp only [trl]
    split
    · split
      · have := ih (X.getD m Rc.zero).o
        rw [List.length_cons]; omega
      · simp
    · have := ih a; omega
/-- the records of a trail -/
def trlR (X : List Rc) (s : Int) (m : Nat) (a : Int) : List Rc := (trl X s m a).map fun i => X.getD i Rc.zero
theorem trlR_len (X : List Rc) (s : Int) (m : Nat) (a : Int) : (trlR X s m a).length ≤ m := by unfold trlR; rw [List.length_map]; exact trl_len X s m a
theorem trlR_of_last (X : List Rc) (s a : Int) (m : Nat) : (lastT X s a m = -1 ∧ trlR X s m a = []) ∨
    ∃ i : Nat, i < m ∧ lastT X s a m = (i : Int) ∧ trlR X s m a = X.getD i Rc.zero :: (if (X.getD i Rc.zero).k = 3 then trlR X s i (X.getD i Rc.zero).o else []) := by
  rcases trl_of_last X s a m with ⟨h1, h2⟩ | ⟨i, h1, h2, h3, h4⟩
  · exact .inl ⟨h1, by unfold trlR; rw [h2]; rfl⟩
  · refine .inr ⟨i, h1, h2, ?_⟩
    unfold trlR
    rw [h4, List.map_cons]
    split <;> rfl
/-- the Seqs of a trail, as Trail answers them -/
def trailOf (X : List Rc) (s a : Int) : List Int := if hRight X = true ∧ 0 ≤ s ∧ s ≤ 5 then (trlR X s X.length a).map (·.q) else []
theorem trailOf_len (X : List Rc) (s a : Int) : (trailOf X s a).length ≤ X.length := by
  unfold trailOf
  split
  · rw [List.length_map]; exact trlR_len X s X.length a
  · simp
end Go.Proofs.YtloaeglmngcenaaGreatDoor
