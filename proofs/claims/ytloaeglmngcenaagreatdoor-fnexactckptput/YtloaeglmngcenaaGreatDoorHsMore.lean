/-
  Plain mathematics of histories, more: what a record added later leaves as it was. No condition.
-/
import Derived.Test.YtloaeglmngcenaaGreatDoorHsAsOf2
import Derived.Test.YtloaeglmngcenaaGreatDoorHsApp
namespace Go.Proofs.YtloaeglmngcenaaGreatDoor
open Go.RowKit
open Bt (Rc)

theorem rc_snoc_lt {X : List Rc} {r : Rc} {k : Nat} (h : k < X.length) : (X ++ [r]).getD k Rc.zero = X.getD k Rc.zero := by
  rw [List.getD_eq_getElem?_getD, List.getElem?_append_left h, ← List.getD_eq_getElem?_getD]
theorem rc_snoc_eq (X : List Rc) (r : Rc) : (X ++ [r]).getD X.length Rc.zero = r := by
  rw [List.getD_eq_getElem?_getD, List.getElem?_append_right (Nat.le_refl _)]; simp
theorem prevR_snoc {X : List Rc} {r : Rc} {k : Nat} (h : k ≤ X.length) : prevR (X ++ [r]) k = prevR X k := by
  unfold prevR
  split
  · rfl
  · rw [rc_snoc_lt (by omega)]
theorem hRight_add {X : List Rc} {r : Rc} (h : addCode X r = 0) : hRight (X ++ [r]) = true ∧ X.length < 48 ∧ r.Ok ∧ hRight X = true ∧ (lastR X).q < r.q ∧ (lastR X).t ≤ r.t := by
  unfold addCode at h
  split at h
  · rename_i hc
    split at h
    · cases h
    · rename_i hl
      simp only [Bool.and_eq_true, decide_eq_true_eq] at hc
      obtain ⟨hX, hok, hf⟩ := hc
      have hlen := hRight_len hX
      simp only [flw, Bool.and_eq_true, decide_eq_true_eq] at hf
      refine ⟨hRight_iff.2 ⟨by simp; omega, fun k hk => ?_⟩, by omega, hok, hX, hf.1, hf.2⟩
      by_cases hk' : k < X.length
      · rw [rc_snoc_lt hk', prevR_snoc (by omega)]
        exact hRight_at hX hk'
      · have : k = X.length := by simp at hk; omega
        subst this
        rw [rc_snoc_eq, prevR_snoc (Nat.le_refl _), lastR_prev]
        exact ⟨hok, hf.1, hf.2⟩
  · cases h
theorem trl_snoc {X : List Rc} {r : Rc} (s : Int) : ∀ (m : Nat) (a : Int), m ≤ X.length → trl (X ++ [r]) s m a = trl X s m a
  | 0, _, _ => rfl
  | m + 1, a, h => by
    have e : (X ++ [r]).getD m Rc.zero = X.getD m Rc.zero := rc_snoc_lt (by omega)
    simp only [trl, e]
    rw [trl_snoc s m a (by omega), trl_snoc s m _ (by omega)]
theorem trlR_snoc {X : List Rc} {r : Rc} (s : Int) (m : Nat) (a : Int) (h : m ≤ X.length) : trlR (X ++ [r]) s m a = trlR X s m a := by
  unfold trlR
  rw [trl_snoc s m a h]
  apply List.map_congr_left
  intro i hi
  exact rc_snoc_lt (by have := trl_lt X s m a i hi; omega)
theorem floorTo_snoc {X : List Rc} {r : Rc} : ∀ m, m ≤ X.length → floorTo (X ++ [r]) m = floorTo X m
  | 0, _ => rfl
  | m + 1, h => by rw [floorTo_succ, floorTo_succ, floorTo_snoc m (by omega), rc_snoc_lt (by omega)]
theorem floorR_snoc (X : List Rc) (r : Rc) : floorR (X ++ [r]) = if r.k = 4 ∧ floorR X ≤ r.o then r.o else floorR X := by
  unfold floorR
  rw [show (X ++ [r]).length = X.length + 1 by simp, floorTo_succ, rc_snoc_eq, floorTo_snoc _ (Nat.le_refl _)]
theorem floorR_grows (X : List Rc) (r : Rc) : floorR X ≤ floorR (X ++ [r]) := by
  rw [floorR_snoc]; split <;> omega
theorem valX_early {X : List Rc} {r : Rc} {s a : Int} (h : a < r.t) : valX (X ++ [r]) s (X ++ [r]).length a = valX X s X.length a := by
  unfold valX trlR
  rw [show (X ++ [r]).length = X.length + 1 by simp, trl_no (by rw [rc_snoc_eq]; exact hit_late h)]
  exact congrArg (fun L => valR (endR L)) (trlR_snoc s X.length a (Nat.le_refl _))
theorem valX_write {X : List Rc} {r : Rc} {a : Int} (hk : r.k = 1) (h : r.t ≤ a) : valX (X ++ [r]) r.s (X ++ [r]).length a = ⟨true, r.d, 0⟩ := by
  have hh : hit r r.s a = true := by rw [hit_tch h]; unfold tch; rw [if_pos (.inl hk)]; simp
  unfold valX trlR
  rw [show (X ++ [r]).length = X.length + 1 by simp, trl_end (by rw [rc_snoc_eq]; exact hh) (by rw [rc_snoc_eq]; omega)]
  simp only [List.map_cons, List.map_nil]
  rw [rc_snoc_eq]
  show valR r = _
  rw [valR, if_pos hk]
theorem valX_roll {X : List Rc} {r : Rc} {s a : Int} (hk : r.k = 3) (h : r.t ≤ a) : valX (X ++ [r]) s (X ++ [r]).length a = valX X s X.length r.o := by
  have hh : hit r s a = true := by rw [hit_tch h]; unfold tch; rw [if_neg (by omega), decide_eq_true hk]
  have e : trlR (X ++ [r]) s (X ++ [r]).length a = r :: trlR X s X.length r.o := by
    rw [show (X ++ [r]).length = X.length + 1 by simp]
    have h1 := trl_roll (X := X ++ [r]) (s := s) (a := a) (m := X.length) (by rw [rc_snoc_eq]; exact hh) (by rw [rc_snoc_eq]; exact hk)
    rw [rc_snoc_eq] at h1
    rw [← trlR_snoc (r := r) s X.length r.o (Nat.le_refl _)]
    unfold trlR
    rw [h1, List.map_cons, rc_snoc_eq]
  unfold valX
  rw [e]
  by_cases hn : trlR X s X.length r.o = []
  · rw [hn]
    show valR r = valR Rc.zero
    rw [valR, valR, if_neg (by omega), if_neg (by decide)]
  · congr 1
    unfold endR
    obtain ⟨b, L, hL⟩ := List.exists_cons_of_ne_nil hn
    rw [hL]
    simp [List.getLastD]
theorem floorOf_of {X : List Rc} (h : hRight X = true) : floorOf X = floorR X := by unfold floorOf; rw [if_pos h]
theorem floorR_nonneg (X : List Rc) : 0 ≤ floorR X := floorTo_nonneg X _
theorem tell_early {X : List Rc} {r : Rc} {s a : Int} (h : addCode X r = 0) (hs : 0 ≤ s ∧ s ≤ 5) (h1 : floorOf (X ++ [r]) ≤ a) (h2 : a < r.t) : asOf (X ++ [r]) s a = asOf X s a := by
  obtain ⟨hY, -, hok, hX, -⟩ := hRight_add h
  rw [floorOf_of hY] at h1
  have hf := floorR_grows X r
  have h0 := floorR_nonneg (X ++ [r])
  have ht : r.t ≤ 1000000 := hok.2.2.2.2.2.2.2.1
  rw [asOf_yes ⟨hY, hs, by omega, by omega⟩ (by omega), asOf_yes ⟨hX, hs, by omega, by omega⟩ (by omega), valX_early h2]
theorem tell_roll {X : List Rc} {r : Rc} {s : Int} (h : addCode X r = 0) (hs : 0 ≤ s ∧ s ≤ 5) (hk : r.k = 3) (h1 : floorOf X ≤ r.o) (h2 : r.o < r.t) : asOf (X ++ [r]) s r.t = asOf X s r.o := by
  obtain ⟨hY, -, hok, hX, -⟩ := hRight_add h
  rw [floorOf_of hX] at h1
  have hf : floorR (X ++ [r]) = floorR X := by rw [floorR_snoc, if_neg (by omega)]
  have h0 := floorR_nonneg X
  have ht : r.t ≤ 1000000 := hok.2.2.2.2.2.2.2.1
  rw [asOf_yes ⟨hY, hs, by omega, by omega⟩ (by omega), asOf_yes ⟨hX, hs, by omega, by omega⟩ (by omega), valX_roll hk (by omega)]
theorem tell_write {X : List Rc} {r : Rc} (h : addCode X r = 0) (hk : r.k = 1) : asOf (X ++ [r]) r.s r.t = ⟨true, r.d, 0⟩ ∨ r.t < floorOf X := by
  obtain ⟨hY, -, hok, hX, -⟩ := hRight_add h
  have hf : floorR (X ++ [r]) = floorR X := by rw [floorR_snoc, if_neg (by omega)]
  have h0 := floorR_nonneg X
  have ht : r.t ≤ 1000000 := hok.2.2.2.2.2.2.2.1
  by_cases hp : r.t < floorR X
  · right; rw [floorOf_of hX]; exact hp
  · left
    rw [asOf_yes ⟨hY, ⟨hok.2.2.1, hok.2.2.2.1⟩, by omega, by omega⟩ (by omega), valX_write hk (by omega)]
end Go.Proofs.YtloaeglmngcenaaGreatDoor
