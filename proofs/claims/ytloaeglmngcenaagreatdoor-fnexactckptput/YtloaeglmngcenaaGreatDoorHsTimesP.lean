/-
  Plain mathematics of Times (chapter 5): the times at which a sector may change, each once, in increasing order. No condition.
-/
import Derived.Test.YtloaeglmngcenaaGreatDoorHsTrailP
import Derived.Test.YtloaeglmngcenaaGreatDoorHsAddN
namespace Go.Proofs.YtloaeglmngcenaaGreatDoor
open Bt (Rc)

/-- z behind T, unless T ends with it -/
def pushT (T : List Int) (z : Int) : List Int := if 0 < T.length ∧ z ≤ T.getD (T.length - 1) 0 then T else T ++ [z]
def timesTo (X : List Rc) (s f : Int) : Nat → List Int
  | 0 => []
  | k + 1 => if (decide (f ≤ (X.getD k Rc.zero).t) && tch (X.getD k Rc.zero) s) = true then pushT (timesTo X s f k) (X.getD k Rc.zero).t else timesTo X s f k
theorem timesTo_no {X : List Rc} {s f : Int} {k : Nat} (h : (decide (f ≤ (X.getD k Rc.zero).t) && tch (X.getD k Rc.zero) s) = false) : timesTo X s f (k + 1) = timesTo X s f k := by simp only [timesTo, h]; rfl
theorem timesTo_yes {X : List Rc} {s f : Int} {k : Nat} (h : (decide (f ≤ (X.getD k Rc.zero).t) && tch (X.getD k Rc.zero) s) = true) : timesTo X s f (k + 1) = pushT (timesTo X s f k) (X.getD k Rc.zero).t := by simp only [timesTo, h, if_true]
theorem pushT_len (T : List Int) (z : Int) : (pushT T z).length ≤ T.length + 1 := by unfold pushT; split <;> simp
theorem timesTo_len (X : List Rc) (s f : Int) (k : Nat) : (timesTo X s f k).length ≤ k := by
  induction k with
  | zero => simp [timesTo]
  | succ k ih =>
    simp only [timesTo]
    split
    · have := pushT_len (timesTo X s f k) (X.getD k Rc.zero).t; omega
    · omega
def timesOf (X : List Rc) (s : Int) : List Int := if hRight X = true ∧ 0 ≤ s ∧ s ≤ 5 then timesTo X s (floorR X) X.length else []
theorem timesOf_len (X : List Rc) (s : Int) : (timesOf X s).length ≤ X.length := by
  unfold timesOf
  split
  · exact timesTo_len _ _ _ _
  · simp
/-- increasing, and all at most b -/
structure Upw (T : List Int) (b : Int) : Prop where
  srt : Srt T
  le : ∀ k, k < T.length → T.getD k 0 ≤ b
theorem upw_nil (b : Int) : Upw [] b := ⟨fun a b _ h => absurd h (by simp), fun k h => absurd h (by simp)⟩
theorem Upw.mono {T : List Int} {b c : Int} (h : Upw T b) (hbc : b ≤ c) : Upw T c := ⟨h.srt, fun k hk => Int.le_trans (h.le k hk) hbc⟩
theorem getD_snoc_lt {T : List Int} {z : Int} {k : Nat} (h : k < T.length) : (T ++ [z]).getD k 0 = T.getD k 0 := by
  rw [List.getD_eq_getElem?_getD, List.getD_eq_getElem?_getD, List.getElem?_append_left h]
theorem getD_snoc_eq (T : List Int) (z : Int) : (T ++ [z]).getD T.length 0 = z := by
  rw [List.getD_eq_getElem?_getD, List.getElem?_append_right (Nat.le_refl _)]; simp
theorem Upw.push {T : List Int} {b z : Int} (h : Upw T b) (hb : b ≤ z) : Upw (pushT T z) z := by
  unfold pushT
  split
  · exact h.mono hb
  · rename_i hn
    have hlast : ∀ k, k < T.length → T.getD k 0 < z := by
      intro k hk
      by_cases e : k = T.length - 1
      · subst e
        have : ¬ z ≤ T.getD (T.length - 1) 0 := fun h' => hn ⟨by omega, h'⟩
        omega
      · have h1 := h.srt k (T.length - 1) (by omega) (by omega)
        have : ¬ z ≤ T.getD (T.length - 1) 0 := fun h' => hn ⟨by omega, h'⟩
        omega
    refine ⟨fun a b hab hb => ?_, fun k hk => ?_⟩
    · rw [List.length_append] at hb
      simp only [List.length_cons, List.length_nil] at hb
      by_cases e : b = T.length
      · subst e
        rw [getD_snoc_eq, getD_snoc_lt (by omega)]
        exact hlast a (by omega)
      · rw [getD_snoc_lt (by omega), getD_snoc_lt (by omega)]
        exact h.srt a b hab (by omega)
    · rw [List.length_append] at hk
      simp only [List.length_cons, List.length_nil] at hk
      by_cases e : k = T.length
      · subst e; rw [getD_snoc_eq]; exact Int.le_refl _
      · rw [getD_snoc_lt (by omega)]; exact Int.le_of_lt (hlast k (by omega))
/-- a number that is at least all of them belongs at the end, or is there -/
theorem Upw.ends {T : List Int} {z : Int} (h : Upw T z) : ∀ i, Cut T z i → (i < T.length ∧ T.getD i 0 = z) ∨ i = T.length := by
  intro i hc
  by_cases e : i < T.length
  · exact .inl ⟨e, by have := hc.hi i (Nat.le_refl _) e; have := h.le i e; omega⟩
  · exact .inr (by have := hc.le; omega)
theorem Upw.added {T T' : List Int} {z : Int} (h : Upw T z) (ha : Added T z T') : T' = pushT T z := by
  obtain ⟨i, hc, rfl⟩ := ha
  by_cases e : i < T.length ∧ T.getD i 0 = z
  · rw [if_pos e]
    unfold pushT
    rw [if_pos]
    refine ⟨by omega, ?_⟩
    by_cases e' : i = T.length - 1
    · rw [← e', e.2]; exact Int.le_refl _
    · have := h.srt i (T.length - 1) (by omega) (by omega)
      omega
  · rw [if_neg e]
    rcases h.ends i hc with h' | rfl
    · exact absurd h' e
    · unfold pushT
      rw [if_neg]
      · rw [List.take_of_length_le (Nat.le_refl _), List.drop_eq_nil_of_le (Nat.le_refl _)]
      · rintro ⟨h1, h2⟩
        have := hc.lo (T.length - 1) (by omega)
        omega
/-- the times so far: increasing, none behind the last record's -/
theorem times_upw {X : List Rc} (hX : hRight X = true) (s f : Int) : ∀ k, k ≤ X.length → Upw (timesTo X s f k) (prevR X k).t := by
  intro k
  induction k with
  | zero => intro _; exact upw_nil _
  | succ k ih =>
    intro hk
    have h := ih (by omega)
    have ht := (hRight_at hX (show k < X.length by omega)).2.2
    rw [prevR_succ]
    simp only [timesTo]
    split
    · exact h.push ht
    · exact h.mono ht
end Go.Proofs.YtloaeglmngcenaaGreatDoor
