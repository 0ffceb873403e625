/-
  Plain mathematics of pruning: what is not needed may go. No condition.
-/
import Derived.Test.YtloaeglmngcenaaGreatDoorHsMore
import Derived.Test.YtloaeglmngcenaaGreatDoorHsNeedP
import Derived.Test.YtloaeglmngcenaaGreatDoorHsTimesP
namespace Go.Proofs.YtloaeglmngcenaaGreatDoor
open Go.RowKit
open Bt (Rc)

noncomputable def kp (X : List Rc) (i : Nat) : Bool := nd X i || decide (i + 1 = X.length)
theorem pr_yes {X : List Rc} {k : Nat} (h : kp X k = true) : prTo X (k + 1) = prTo X k ++ [X.getD k Rc.zero] := prTo_yes h
theorem pr_no {X : List Rc} {k : Nat} (h : kp X k = false) : prTo X (k + 1) = prTo X k := prTo_no h
theorem pr_pre (X : List Rc) (k : Nat) : ∀ m, k ≤ m → ∃ L, prTo X m = prTo X k ++ L
  | 0, h => ⟨[], by obtain rfl : k = 0 := by omega
                    simp⟩
  | m + 1, h => by
    by_cases e : k = m + 1
    · subst e; exact ⟨[], by simp⟩
    · obtain ⟨L, hL⟩ := pr_pre X k m (by omega)
      cases hk : kp X m
      · exact ⟨L, by rw [pr_no hk, hL]⟩
      · exact ⟨L ++ [X.getD m Rc.zero], by rw [pr_yes hk, hL, List.append_assoc]⟩
theorem pr_at {X : List Rc} {k j : Nat} (hk : k ≤ X.length) (hj : j < (prTo X k).length) : (prTo X X.length).getD j Rc.zero = (prTo X k).getD j Rc.zero := by
  obtain ⟨L, hL⟩ := pr_pre X k X.length hk
  rw [hL, List.getD_eq_getElem?_getD, List.getElem?_append_left hj, ← List.getD_eq_getElem?_getD]
theorem pr_last {X : List Rc} {k : Nat} (hk : k < X.length) (h : kp X k = true) : (prTo X X.length).getD (prTo X k).length Rc.zero = X.getD k Rc.zero := by
  have h1 : (prTo X k).length < (prTo X (k + 1)).length := by rw [pr_yes h]; simp
  rw [pr_at (by omega) h1, pr_yes h, rc_snoc_eq]
theorem trl_sel {X : List Rc} (s : Int) : ∀ k, k ≤ X.length → ∀ a, (∀ i ∈ trl X s k a, kp X i = true) → trlR (prTo X X.length) s (prTo X k).length a = trlR X s k a
  | 0, _, _, _ => rfl
  | k + 1, hk, a, h => by
    have ih := trl_sel (X := X) s k (by omega)
    by_cases hh : hit (X.getD k Rc.zero) s a = true
    · by_cases h3 : (X.getD k Rc.zero).k = 3
      · rw [trl_roll hh h3] at h
        have hkp := h k (List.mem_cons_self ..)
        have hp := pr_last (by omega) hkp
        have e : (prTo X (k + 1)).length = (prTo X k).length + 1 := by rw [pr_yes hkp]; simp
        have h1 := ih (X.getD k Rc.zero).o (fun i hi => h i (List.mem_cons_of_mem _ hi))
        have t1 := trl_roll (X := prTo X X.length) (s := s) (a := a) (m := (prTo X k).length) (by rw [hp]; exact hh) (by rw [hp]; exact h3)
        rw [hp] at t1
        unfold trlR at h1 ⊢
        rw [e, t1, trl_roll hh h3, List.map_cons, List.map_cons, h1, hp]
      · rw [trl_end hh h3] at h
        have hkp := h k (List.mem_cons_self ..)
        have hp := pr_last (by omega) hkp
        have e : (prTo X (k + 1)).length = (prTo X k).length + 1 := by rw [pr_yes hkp]; simp
        have t1 := trl_end (X := prTo X X.length) (s := s) (a := a) (m := (prTo X k).length) (by rw [hp]; exact hh) (by rw [hp]; exact h3)
        unfold trlR
        rw [e, t1, trl_end hh h3, List.map_cons, List.map_cons, hp]
        rfl
    · have hh : hit (X.getD k Rc.zero) s a = false := by simpa using hh
      rw [trl_no hh] at h
      have h1 := ih a h
      have eX : trlR X s (k + 1) a = trlR X s k a := by unfold trlR; rw [trl_no hh]
      rw [eX]
      cases hkp : kp X k
      · rw [pr_no hkp]; exact h1
      · have hp := pr_last (by omega) hkp
        have e : (prTo X (k + 1)).length = (prTo X k).length + 1 := by rw [pr_yes hkp]; simp
        have t1 := trl_no (X := prTo X X.length) (s := s) (a := a) (m := (prTo X k).length) (by rw [hp]; exact hh)
        rw [← h1]
        unfold trlR
        rw [e, t1]
theorem trl_same {X : List Rc} (s : Int) {a b : Int} : ∀ m, (∀ i, i < m → ((X.getD i Rc.zero).t ≤ a ↔ (X.getD i Rc.zero).t ≤ b)) → trl X s m a = trl X s m b
  | 0, _ => rfl
  | m + 1, h => by
    have hm : hit (X.getD m Rc.zero) s a = hit (X.getD m Rc.zero) s b := by
      unfold hit
      rw [decide_eq_decide.2 (h m (by omega))]
    have ih := trl_same (X := X) s m (fun i hi => h i (by omega))
    simp only [trl, hm, ih]
theorem best_to (X : List Rc) {f a : Int} (hf : f ≤ a) : ∀ k, ∃ t, (t = f ∨ ∃ j, j < k ∧ f ≤ (X.getD j Rc.zero).t ∧ (X.getD j Rc.zero).t = t) ∧ f ≤ t ∧ t ≤ a ∧ ∀ i, i < k → (X.getD i Rc.zero).t ≤ a → (X.getD i Rc.zero).t ≤ t
  | 0 => ⟨f, .inl rfl, Int.le_refl _, hf, fun i h => absurd h (Nat.not_lt_zero _)⟩
  | k + 1 => by
    obtain ⟨t, h1, h2, h3, h4⟩ := best_to X hf k
    by_cases hk : (X.getD k Rc.zero).t ≤ a ∧ t < (X.getD k Rc.zero).t
    · refine ⟨(X.getD k Rc.zero).t, .inr ⟨k, by omega, by omega, rfl⟩, by omega, hk.1, fun i hi hia => ?_⟩
      by_cases e : i = k
      · subst e; exact Int.le_refl _
      · have := h4 i (by omega) hia; omega
    · refine ⟨t, ?_, h2, h3, fun i hi hia => ?_⟩
      · rcases h1 with h1 | ⟨j, hj, h1⟩
        · exact .inl h1
        · exact .inr ⟨j, by omega, h1⟩
      · by_cases e : i = k
        · subst e; omega
        · exact h4 i (by omega) hia
theorem best {X : List Rc} (hX : hRight X = true) {f a : Int} (hf : f ≤ a) (s : Int) : ∃ t, t ∈ tmsTo X f X.length ∧ trl X s X.length a = trl X s X.length t := by
  obtain ⟨t, h1, h2, h3, h4⟩ := best_to X hf X.length
  refine ⟨t, (tms_mem hX f t X.length (Nat.le_refl _)).2 h1, trl_same s _ fun i hi => ⟨h4 i hi, fun h => by omega⟩⟩
theorem nd_true {X : List Rc} {i : Nat} : nd X i = true ↔ (Mk X (tmsTo X (floorR X) X.length) i ∨ flP X X.length = (i : Int)) := by unfold nd; simp
theorem kept_trail {X : List Rc} (hX : hRight X = true) {s : Nat} (hs : s < 6) {a : Int} (ha : floorR X ≤ a) : ∀ i ∈ trl X (s : Int) X.length a, kp X i = true := by
  intro i hi
  obtain ⟨t, ht, e⟩ := best hX ha (s : Int)
  rw [e] at hi
  have : nd X i = true := nd_true.2 (.inl ⟨t, ht, s, hs, hi⟩)
  unfold kp; rw [this]; rfl
theorem trail_kept {X : List Rc} (hX : hRight X = true) {s : Nat} (hs : s < 6) {a : Int} (ha : floorR X ≤ a) : trlR (prTo X X.length) (s : Int) (prTo X X.length).length a = trlR X (s : Int) X.length a :=
  trl_sel _ _ (Nat.le_refl _) a (kept_trail hX hs ha)

theorem pr_mem (X : List Rc) : ∀ k j, j < (prTo X k).length → ∃ i, i < k ∧ kp X i = true ∧ (prTo X k).getD j Rc.zero = X.getD i Rc.zero
  | 0, j, h => absurd h (by simp [prTo])
  | k + 1, j, h => by
    cases hk : kp X k
    · rw [pr_no hk] at h ⊢
      obtain ⟨i, h1, h2, h3⟩ := pr_mem X k j h
      exact ⟨i, by omega, h2, h3⟩
    · rw [pr_yes hk] at h ⊢
      by_cases hj : j < (prTo X k).length
      · obtain ⟨i, h1, h2, h3⟩ := pr_mem X k j hj
        exact ⟨i, by omega, h2, by rw [rc_snoc_lt hj]; exact h3⟩
      · have : j = (prTo X k).length := by simp at h; omega
        subst this
        exact ⟨k, by omega, hk, rc_snoc_eq _ _⟩
theorem mem_pr {X : List Rc} {i : Nat} (hi : i < X.length) (h : kp X i = true) : ∃ j, j < (prTo X X.length).length ∧ (prTo X X.length).getD j Rc.zero = X.getD i Rc.zero := by
  refine ⟨(prTo X i).length, ?_, pr_last hi h⟩
  obtain ⟨L, hL⟩ := pr_pre X (i + 1) X.length (by omega)
  rw [hL, pr_yes h]; simp
theorem lastR_snoc (L : List Rc) (r : Rc) : lastR (L ++ [r]) = r := by
  unfold lastR
  rw [show (L ++ [r]).length - 1 = L.length by simp]
  exact rc_snoc_eq L r
theorem right_pre {X : List Rc} (hX : hRight X = true) : ∀ k, k ≤ X.length → hRight (prTo X k) = true ∧ (lastR (prTo X k)).q ≤ (prevR X k).q ∧ (lastR (prTo X k)).t ≤ (prevR X k).t
  | 0, _ => ⟨by simp [prTo, hRight, allTo], by rw [lastR_nil (by simp [prTo]), prevR_zero]; exact Int.le_refl _, by rw [lastR_nil (by simp [prTo]), prevR_zero]; exact Int.le_refl _⟩
  | k + 1, hk => by
    obtain ⟨h1, h2, h3⟩ := right_pre hX k (by omega)
    obtain ⟨hok, hq, ht⟩ := hRight_at hX (show k < X.length by omega)
    have hl := hRight_len hX
    rw [prevR_succ]
    cases hkp : kp X k
    · rw [pr_no hkp]; exact ⟨h1, by omega, by omega⟩
    · rw [pr_yes hkp, lastR_snoc]
      have hlen := prTo_len X k
      have hc : addCode (prTo X k) (X.getD k Rc.zero) = 0 := by
        refine (add_ok ?_ (by omega)).1
        simp only [Bool.and_eq_true, decide_eq_true_eq, flw]
        exact ⟨h1, hok, by omega, by omega⟩
      exact ⟨(hRight_add hc).1, Int.le_refl _, Int.le_refl _⟩
theorem prune_right {X : List Rc} (hX : hRight X = true) : hRight (prTo X X.length) = true := (right_pre hX _ (Nat.le_refl _)).1
theorem prune_last {X : List Rc} : lastR (prTo X X.length) = lastR X := by
  by_cases h0 : X.length = 0
  · have : X = [] := List.eq_nil_of_length_eq_zero h0
    subst this; rfl
  · obtain ⟨k, hk⟩ : ∃ k, X.length = k + 1 := ⟨X.length - 1, by omega⟩
    have hkp : kp X k = true := by unfold kp; rw [decide_eq_true hk.symm]; simp
    have e : prTo X X.length = prTo X k ++ [X.getD k Rc.zero] := by rw [hk]; exact pr_yes hkp
    rw [e, lastR_snoc]
    unfold lastR; rw [hk]; rfl
def Pf (X : List Rc) (i : Nat) : Prop := (X.getD i Rc.zero).k = 4 ∧ (X.getD i Rc.zero).o = floorR X
theorem floor_met (X : List Rc) : ∀ k, floorTo X k = 0 ∨ ∃ i, i < k ∧ (X.getD i Rc.zero).k = 4 ∧ (X.getD i Rc.zero).o = floorTo X k
  | 0 => .inl rfl
  | k + 1 => by
    rw [floorTo_succ]
    split
    · rename_i h; exact .inr ⟨k, by omega, h.1, rfl⟩
    · rcases floor_met X k with h | ⟨i, h1, h2⟩
      · exact .inl h
      · exact .inr ⟨i, by omega, h2⟩
theorem flP_spec (X : List Rc) : ∀ k, (flP X k = -1 ∧ ∀ i, i < k → ¬ Pf X i) ∨ ∃ i : Nat, i < k ∧ flP X k = (i : Int) ∧ Pf X i ∧ ∀ j, i < j → j < k → ¬ Pf X j
  | 0 => .inl ⟨rfl, fun i h => absurd h (Nat.not_lt_zero _)⟩
  | k + 1 => by
    by_cases hp : (X.getD k Rc.zero).k = 4 ∧ (X.getD k Rc.zero).o = floorR X
    · right
      refine ⟨k, by omega, ?_, hp, fun j h1 h2 => by omega⟩
      simp only [flP]; rw [if_pos hp]
    · have e : flP X (k + 1) = flP X k := by simp only [flP]; rw [if_neg hp]
      rw [e]
      rcases flP_spec X k with ⟨h1, h2⟩ | ⟨i, h1, h2, h3, h4⟩
      · left
        refine ⟨h1, fun i hi => ?_⟩
        by_cases e : i = k
        · subst e; exact hp
        · exact h2 i (by omega)
      · right
        refine ⟨i, by omega, h2, h3, fun j hj hj' => ?_⟩
        by_cases e : j = k
        · subst e; exact hp
        · exact h4 j hj (by omega)
theorem prune_floor {X : List Rc} : floorR (prTo X X.length) = floorR X := by
  apply Int.le_antisymm
  · rcases floor_met (prTo X X.length) (prTo X X.length).length with h | ⟨j, hj, h4, ho⟩
    · unfold floorR; rw [h]; exact floorTo_nonneg X _
    · obtain ⟨i, hi, -, e⟩ := pr_mem X X.length j hj
      rw [e] at h4 ho
      unfold floorR
      rw [← ho]
      exact floorTo_ge X hi h4
  · rcases floor_met X X.length with h | ⟨i, hi, h4, ho⟩
    · unfold floorR; rw [h]; exact floorTo_nonneg _ _
    · rcases flP_spec X X.length with ⟨-, h2⟩ | ⟨l, h1, h2, h3, -⟩
      · exact absurd ⟨h4, ho⟩ (h2 i hi)
      · have hk : kp X l = true := by unfold kp; rw [nd_true.2 (.inr h2)]; rfl
        obtain ⟨j, hj, e⟩ := mem_pr h1 hk
        have := floorTo_ge (prTo X X.length) hj (by rw [e]; exact h3.1)
        rw [e, h3.2] at this
        exact this
theorem prune_tell {X : List Rc} (hX : hRight X = true) {s : Nat} (hs : s < 6) {a : Int} (ha : floorR X ≤ a) : asOf (prTo X X.length) (s : Int) a = asOf X (s : Int) a := by
  by_cases h : 0 ≤ a ∧ a ≤ 1000000
  · have hv : valX (prTo X X.length) (s : Int) (prTo X X.length).length a = valX X (s : Int) X.length a := by unfold valX; rw [trail_kept hX hs ha]
    rw [asOf_yes ⟨prune_right hX, by omega, h⟩ (by rw [prune_floor]; omega), asOf_yes ⟨hX, by omega, h⟩ (by omega), hv]
  · rw [asOf_no (fun c => h c.2.2), asOf_no (fun c => h c.2.2)]
end Go.Proofs.YtloaeglmngcenaaGreatDoor
