/-
  Plain mathematics of chapter 5 (histories): which are valid, the last record, the floor. No condition.
-/
import Derived.Test.YtloaeglmngcenaaGreatDoorNdPure
import Derived.Test.YtloaeglmngcenaaGreatDoorRcPure
namespace Go.Proofs.YtloaeglmngcenaaGreatDoor
open Bt (Rc)

/-- a holds at all places below k -/
def allTo (f : Nat → Bool) : Nat → Bool
  | 0 => true
  | k + 1 => allTo f k && f k
theorem allTo_iff {f : Nat → Bool} {k : Nat} : allTo f k = true ↔ ∀ i, i < k → f i = true := by
  induction k with
  | zero => simp [allTo]
  | succ k ih =>
    simp only [allTo, Bool.and_eq_true, ih]
    constructor
    · rintro ⟨h1, h2⟩ i hi
      by_cases e : i = k
      · subst e; exact h2
      · exact h1 i (by omega)
    · intro h
      exact ⟨fun i hi => h i (by omega), h k (by omega)⟩
theorem allTo_no {f : Nat → Bool} {k n : Nat} (h : f k = false) (hk : k < n) : allTo f n = false := by
  cases e : allTo f n with
  | false => rfl
  | true => have := (allTo_iff.1 e) k hk; rw [h] at this; cases this
theorem allTo_congr {f g : Nat → Bool} {n : Nat} (h : ∀ i, i < n → f i = g i) : allTo f n = allTo g n := by
  induction n with
  | zero => rfl
  | succ n ih => simp only [allTo]; rw [ih (fun i hi => h i (by omega)), h n (by omega)]

/-- record a may come directly behind record b -/
def flw (b a : Rc) : Bool := decide (b.q < a.q) && decide (b.t ≤ a.t)
/-- the record ahead of place k; the zero one ahead of the first -/
def prevR (X : List Rc) (k : Nat) : Rc := if k = 0 then Rc.zero else X.getD (k - 1) Rc.zero
def stepB (X : List Rc) (k : Nat) : Bool := decide (X.getD k Rc.zero).Ok && flw (prevR X k) (X.getD k Rc.zero)
def hRight (X : List Rc) : Bool := decide (X.length ≤ 48) && allTo (stepB X) X.length
theorem prevR_zero (X : List Rc) : prevR X 0 = Rc.zero := rfl
theorem prevR_succ (X : List Rc) (k : Nat) : prevR X (k + 1) = X.getD k Rc.zero := by unfold prevR; rw [if_neg (by omega)]; rfl
theorem flw_zero {a : Rc} (h : a.Ok) : flw Rc.zero a = true := by
  obtain ⟨h1, h2, h3, h4, h5, h6, h7, h8, -⟩ := h
  have e1 : (Rc.zero.q < a.q) := by show (0 : Int) < a.q; omega
  have e2 : (Rc.zero.t ≤ a.t) := by show (0 : Int) ≤ a.t; omega
  simp only [flw, decide_eq_true e1, decide_eq_true e2, Bool.and_self]
theorem hRight_big {X : List Rc} (h : 48 < X.length) : hRight X = false := by unfold hRight; rw [decide_eq_false (by omega)]; rfl
theorem hRight_all {X : List Rc} (h : X.length ≤ 48) : hRight X = allTo (stepB X) X.length := by unfold hRight; rw [decide_eq_true h]; rfl
theorem hRight_len {X : List Rc} (h : hRight X = true) : X.length ≤ 48 := by
  unfold hRight at h; simp only [Bool.and_eq_true, decide_eq_true_eq] at h; exact h.1
theorem hRight_at {X : List Rc} (h : hRight X = true) {k : Nat} (hk : k < X.length) : (X.getD k Rc.zero).Ok ∧ (prevR X k).q < (X.getD k Rc.zero).q ∧ (prevR X k).t ≤ (X.getD k Rc.zero).t := by
  rw [hRight_all (hRight_len h)] at h
  have := (allTo_iff.1 h) k hk
  simp only [stepB, flw, Bool.and_eq_true, decide_eq_true_eq] at this
  exact this
theorem hRight_iff {X : List Rc} : hRight X = true ↔ X.length ≤ 48 ∧ ∀ k, k < X.length → (X.getD k Rc.zero).Ok ∧ (prevR X k).q < (X.getD k Rc.zero).q ∧ (prevR X k).t ≤ (X.getD k Rc.zero).t := by
  constructor
  · intro h; exact ⟨hRight_len h, fun k hk => hRight_at h hk⟩
  · rintro ⟨h1, h2⟩
    rw [hRight_all h1, allTo_iff]
    intro i hi
    simp only [stepB, flw, Bool.and_eq_true, decide_eq_true_eq]
    exact h2 i hi
/-- the last record, the zero one without -/
def lastR (X : List Rc) : Rc := X.getD (X.length - 1) Rc.zero
theorem lastR_prev (X : List Rc) : prevR X X.length = lastR X := by
  unfold prevR lastR
  split
  · rename_i h
    rw [List.eq_nil_of_length_eq_zero h]; rfl
  · rfl
theorem lastR_nil {X : List Rc} (h : X.length = 0) : lastR X = Rc.zero := by rw [List.eq_nil_of_length_eq_zero h]; rfl
/-- the last record of a valid history, the zero one of an invalid one -/
def lastOf (X : List Rc) : Rc := if hRight X = true then lastR X else Rc.zero
/-- the floor among the first k records -/
def floorTo (X : List Rc) : Nat → Int
  | 0 => 0
  | k + 1 => if (X.getD k Rc.zero).k = 4 ∧ floorTo X k ≤ (X.getD k Rc.zero).o then (X.getD k Rc.zero).o else floorTo X k
def floorR (X : List Rc) : Int := floorTo X X.length
def floorOf (X : List Rc) : Int := if hRight X = true then floorR X else 0
theorem floorTo_nonneg (X : List Rc) (k : Nat) : 0 ≤ floorTo X k := by
  induction k with
  | zero => simp [floorTo]
  | succ k ih => simp only [floorTo]; split <;> omega
theorem floorTo_succ (X : List Rc) (k : Nat) : floorTo X (k + 1) = if (X.getD k Rc.zero).k = 4 ∧ floorTo X k ≤ (X.getD k Rc.zero).o then (X.getD k Rc.zero).o else floorTo X k := rfl
/-- the record that the floor is taken from, among the first k -/
def floorRecTo (X : List Rc) : Nat → Rc
  | 0 => Rc.zero
  | k + 1 => if (X.getD k Rc.zero).k = 4 ∧ (floorRecTo X k).o ≤ (X.getD k Rc.zero).o then X.getD k Rc.zero else floorRecTo X k
theorem floorRecTo_o (X : List Rc) (k : Nat) : (floorRecTo X k).o = floorTo X k := by
  induction k with
  | zero => rfl
  | succ k ih => simp only [floorRecTo, floorTo, ih]; split <;> simp_all
end Go.Proofs.YtloaeglmngcenaaGreatDoor
