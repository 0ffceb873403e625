/-
  Plain mathematics of chapter 3 (the flash chip): pages, blocks and chips as lists. No condition.
-/
import Derived.WalkKit
namespace Go.Proofs.YtloaeglmngcenaaGreatDoor

structure Pg where
  used : Bool
  data : ByteArray
structure Bk where
  pages : List Pg
  erases : Int
  bad : Bool
def zeroPg : Pg := ⟨false, ⟨#[]⟩⟩
def zeroBk : Bk := ⟨[], 0, false⟩

theorem pg_ext {a b : Pg} (h1 : a.used = b.used) (h2 : a.data = b.data) : a = b := by cases a; cases b; simp_all
theorem bk_ext {a b : Bk} (h1 : a.pages = b.pages) (h2 : a.erases = b.erases) (h3 : a.bad = b.bad) : a = b := by cases a; cases b; simp_all

/-- the cells of a row of pages, of a row of blocks (whose pages lie in the blocks pa, with room for cp) -/
def pgF (X : List Pg) (c : Nat) : Value := if c % 2 = 0 then .bool (X.getD (c / 2) zeroPg).used else .string (X.getD (c / 2) zeroPg).data
def bkF (pA : Nat → Option Addr) (cp : Nat → Nat) (X : List Bk) (c : Nat) : Value :=
  if c % 3 = 0 then .slice (pA (c / 3)) (X.getD (c / 3) zeroBk).pages.length (cp (c / 3)) else if c % 3 = 1 then .int .i64 (X.getD (c / 3) zeroBk).erases else .bool (X.getD (c / 3) zeroBk).bad

theorem pgF_0 (X : List Pg) (k : Nat) : pgF X (k * 2) = .bool (X.getD k zeroPg).used := by
  unfold pgF; rw [if_pos (by omega), show k * 2 / 2 = k by omega]
theorem pgF_1 (X : List Pg) (k : Nat) : pgF X (k * 2 + 1) = .string (X.getD k zeroPg).data := by
  unfold pgF; rw [if_neg (by omega), show (k * 2 + 1) / 2 = k by omega]
theorem bkF_0 (pA : Nat → Option Addr) (cp : Nat → Nat) (X : List Bk) (k : Nat) : bkF pA cp X (k * 3) = .slice (pA k) (X.getD k zeroBk).pages.length (cp k) := by
  unfold bkF; rw [if_pos (by omega), show k * 3 / 3 = k by omega]
theorem bkF_1 (pA : Nat → Option Addr) (cp : Nat → Nat) (X : List Bk) (k : Nat) : bkF pA cp X (k * 3 + 1) = .int .i64 (X.getD k zeroBk).erases := by
  unfold bkF; rw [if_neg (by omega), if_pos (by omega), show (k * 3 + 1) / 3 = k by omega]
theorem bkF_2 (pA : Nat → Option Addr) (cp : Nat → Nat) (X : List Bk) (k : Nat) : bkF pA cp X (k * 3 + 2) = .bool (X.getD k zeroBk).bad := by
  unfold bkF; rw [if_neg (by omega), if_neg (by omega), show (k * 3 + 2) / 3 = k by omega]

/-- the first k rows of X, nothing behind them -/
def upto {α : Type} (k size : Nat) (f z : Nat → α) (c : Nat) : α := if c < k * size then f c else z c
theorem upto_zero {α : Type} {size : Nat} {f z : Nat → α} (c : Nat) : upto 0 size f z c = z c := by simp [upto]
theorem upto_lt {α : Type} {k size c : Nat} {f z : Nat → α} (h : c < k * size) : upto k size f z c = f c := if_pos h
theorem upto_ge {α : Type} {k size c : Nat} {f z : Nat → α} (h : k * size ≤ c) : upto k size f z c = z c := if_neg (by omega)
theorem upto_set2 {α : Type} {k c : Nat} {f z : Nat → α} {u0 u1 : α} (h0 : f (k * 2) = u0) (h1 : f (k * 2 + 1) = u1) :
    (if c = k * 2 + 1 then u1 else if c = k * 2 then u0 else upto k 2 f z c) = upto (k + 1) 2 f z c := by
  subst h0 h1
  by_cases e1 : c = k * 2 + 1
  · rw [if_pos e1, upto_lt (by omega), e1]
  · rw [if_neg e1]
    by_cases e0 : c = k * 2
    · rw [if_pos e0, upto_lt (by omega), e0]
    · rw [if_neg e0]
      by_cases hc : c < k * 2
      · rw [upto_lt hc, upto_lt (by omega)]
      · rw [upto_ge (by omega), upto_ge (by omega)]
theorem upto_set3 {α : Type} {k c : Nat} {f z : Nat → α} {u0 u1 u2 : α} (h0 : f (k * 3) = u0) (h1 : f (k * 3 + 1) = u1) (h2 : f (k * 3 + 2) = u2) :
    (if c = k * 3 + 2 then u2 else if c = k * 3 + 1 then u1 else if c = k * 3 then u0 else upto k 3 f z c) = upto (k + 1) 3 f z c := by
  subst h0 h1 h2
  by_cases e2 : c = k * 3 + 2
  · rw [if_pos e2, upto_lt (by omega), e2]
  · rw [if_neg e2]
    by_cases e1 : c = k * 3 + 1
    · rw [if_pos e1, upto_lt (by omega), e1]
    · rw [if_neg e1]
      by_cases e0 : c = k * 3
      · rw [if_pos e0, upto_lt (by omega), e0]
      · rw [if_neg e0]
        by_cases hc : c < k * 3
        · rw [upto_lt hc, upto_lt (by omega)]
        · rw [upto_ge (by omega), upto_ge (by omega)]
theorem getD_lt {α : Type} {l : List α} {k : Nat} {z : α} (h : k < l.length) : l.getD k z ∈ l := by
  rw [List.getD_eq_getElem?_getD, List.getElem?_eq_getElem h]; exact List.getElem_mem h
theorem getD_take {α : Type} {l : List α} {k i : Nat} {z : α} (h : i < k) : (l.take k).getD i z = l.getD i z := by
  rw [List.getD_eq_getElem?_getD, List.getD_eq_getElem?_getD, List.getElem?_take_of_lt h]
theorem take_snoc' {α : Type} {l : List α} {k : Nat} (z : α) (h : k < l.length) : l.take (k + 1) = l.take k ++ [l.getD k z] := by
  rw [List.take_succ_eq_append_getElem h]; simp [List.getD_eq_getElem?_getD, List.getElem?_eq_getElem h]
theorem list_ext_getD {α : Type} {a b : List α} (z : α) (hl : a.length = b.length) (h : ∀ i, i < a.length → a.getD i z = b.getD i z) : a = b := by
  apply List.ext_getElem hl
  intro i h1 h2
  have := h i h1
  simpa [List.getD_eq_getElem?_getD, List.getElem?_eq_getElem h1, List.getElem?_eq_getElem h2] using this

/-- how much a chip holds: its blocks, pages and bytes -/
def sumTo (f : Nat → Nat) : Nat → Nat
  | 0 => 0
  | k + 1 => sumTo f k + f k
theorem sumTo_mono {f : Nat → Nat} {j k : Nat} (h : j ≤ k) : sumTo f j ≤ sumTo f k := by
  induction k with
  | zero => obtain rfl : j = 0 := by omega
            exact Nat.le_refl _
  | succ k ih =>
    by_cases e : j = k + 1
    · subst e; exact Nat.le_refl _
    · have := ih (by omega); simp only [sumTo]; omega
theorem sumTo_ge {f : Nat → Nat} {i k : Nat} (h : i < k) : f i ≤ sumTo f k := by
  have := sumTo_mono (f := f) (show i + 1 ≤ k from h); simp only [sumTo] at this; omega
def szPgs (X : List Pg) : Nat := X.length + sumTo (fun i => (X.getD i zeroPg).data.size) X.length
def szBks (X : List Bk) : Nat := X.length + sumTo (fun i => szPgs (X.getD i zeroBk).pages) X.length
def szR (t : Nat) (left : Int) : Int := if (t : Int) ≤ left then left - t else -1
theorem szR_ok {t : Nat} {left : Int} (h : (t : Int) ≤ left) : szR t left = left - t := if_pos h
theorem szR_no {t : Nat} {left : Int} (h : left < t) : szR t left = -1 := if_neg (by omega)
theorem mem_getD {α : Type} {l : List α} {x : α} (h : x ∈ l) (z : α) : ∃ i, i < l.length ∧ l.getD i z = x := by
  obtain ⟨i, hi, rfl⟩ := List.getElem_of_mem h
  exact ⟨i, hi, by simp [List.getD_eq_getElem?_getD, List.getElem?_eq_getElem hi]⟩
/-- what fits in the room that the laws leave -/
def Small (X : List Bk) : Prop := X.length ≤ 1048576 ∧ ∀ b ∈ X, b.pages.length ≤ 1048576 ∧ ∀ p ∈ b.pages, p.data.size ≤ 1048576
theorem small_of_sz {X : List Bk} (h : szBks X ≤ 1048576) : Small X := by
  unfold szBks at h
  refine ⟨by omega, fun b hb => ?_⟩
  obtain ⟨i, hi, rfl⟩ := mem_getD hb zeroBk
  have h1 := sumTo_ge (f := fun i => szPgs (X.getD i zeroBk).pages) hi
  have h2 : szPgs (X.getD i zeroBk).pages ≤ 1048576 := by omega
  unfold szPgs at h2
  refine ⟨by omega, fun p hp => ?_⟩
  obtain ⟨j, hj, rfl⟩ := mem_getD hp zeroPg
  have h3 := sumTo_ge (f := fun j => ((X.getD i zeroBk).pages.getD j zeroPg).data.size) hj
  omega
/-- what Go's own limits leave -/
def Wide (X : List Bk) : Prop := X.length ≤ 9223372036854775807 ∧ ∀ b ∈ X, b.pages.length ≤ 9223372036854775807 ∧ (-9223372036854775808 ≤ b.erases ∧ b.erases ≤ 9223372036854775807) ∧ ∀ p ∈ b.pages, p.data.size ≤ 9223372036854775807

end Go.Proofs.YtloaeglmngcenaaGreatDoor
