/-
  Plain mathematics of Needed and Prune (chapter 5): which records are needed. No condition.
-/
import Derived.Test.YtloaeglmngcenaaGreatDoorHsTimesP
import Derived.Test.YtloaeglmngcenaaGreatDoorHsIns
namespace Go.Proofs.YtloaeglmngcenaaGreatDoor
open Bt (Rc)

/-- the floor and the later Times of the first k records -/
def tmsTo (X : List Rc) (f : Int) : Nat → List Int
  | 0 => [f]
  | k + 1 => if f ≤ (X.getD k Rc.zero).t then pushT (tmsTo X f k) (X.getD k Rc.zero).t else tmsTo X f k
theorem tmsTo_yes {X : List Rc} {f : Int} {k : Nat} (h : f ≤ (X.getD k Rc.zero).t) : tmsTo X f (k + 1) = pushT (tmsTo X f k) (X.getD k Rc.zero).t := by simp only [tmsTo]; rw [if_pos h]
theorem tmsTo_no {X : List Rc} {f : Int} {k : Nat} (h : ¬ f ≤ (X.getD k Rc.zero).t) : tmsTo X f (k + 1) = tmsTo X f k := by simp only [tmsTo]; rw [if_neg h]
theorem tmsTo_len (X : List Rc) (f : Int) (k : Nat) : (tmsTo X f k).length ≤ k + 1 := by
  induction k with
  | zero => simp [tmsTo]
  | succ k ih =>
    simp only [tmsTo]
    split
    · have := pushT_len (tmsTo X f k) (X.getD k Rc.zero).t; omega
    · omega
theorem upw_one (f : Int) : Upw [f] f := ⟨fun a b h1 h2 => by simp at h2; omega, fun k hk => by simp at hk; subst hk; simp⟩
/-- at record k all times so far are at most its own, if that is from the floor on -/
theorem tms_upw {X : List Rc} (hX : hRight X = true) (f : Int) : ∀ k, k ≤ X.length → Upw (tmsTo X f k) (if f ≤ (prevR X k).t then (prevR X k).t else f) := by
  intro k
  induction k with
  | zero =>
    intro _
    split
    · rename_i h; exact (upw_one f).mono h
    · exact upw_one f
  | succ k ih =>
    intro hk
    have h := ih (by omega)
    have ht := (hRight_at hX (show k < X.length by omega)).2.2
    rw [prevR_succ]
    by_cases hf : f ≤ (X.getD k Rc.zero).t
    · rw [tmsTo_yes hf, if_pos hf]
      refine h.push ?_
      split <;> omega
    · rw [tmsTo_no hf, if_neg hf]
      rw [if_neg (by omega)] at h
      exact h
theorem tms_next {X : List Rc} (hX : hRight X = true) {f : Int} {k : Nat} (hk : k < X.length) (hf : f ≤ (X.getD k Rc.zero).t) : Upw (tmsTo X f k) (X.getD k Rc.zero).t := by
  have ht := (hRight_at hX hk).2.2
  refine (tms_upw hX f k (by omega)).mono ?_
  split <;> omega
theorem pushT_mem {T : List Int} {z q : Int} (h : Upw T z) : q ∈ pushT T z ↔ q = z ∨ q ∈ T := by
  unfold pushT
  split
  · rename_i hz
    constructor
    · exact .inr
    · rintro (rfl | h')
      · have h1 := h.le (T.length - 1) (by omega)
        have e : T.getD (T.length - 1) 0 = q := by omega
        rw [← e]; exact getD_lt (by omega)
      · exact h'
  · rw [List.mem_append, List.mem_singleton]
    exact ⟨fun h => h.symm, fun h => h.symm⟩
theorem tms_mem {X : List Rc} (hX : hRight X = true) (f q : Int) : ∀ k, k ≤ X.length → (q ∈ tmsTo X f k ↔ q = f ∨ ∃ j, j < k ∧ f ≤ (X.getD j Rc.zero).t ∧ (X.getD j Rc.zero).t = q) := by
  intro k
  induction k with
  | zero => intro _; simp [tmsTo]
  | succ k ih =>
    intro hk
    by_cases hf : f ≤ (X.getD k Rc.zero).t
    · rw [tmsTo_yes hf, pushT_mem (tms_next hX (by omega) hf), ih (by omega)]
      constructor
      · rintro (h | h | ⟨j, h1, h2⟩)
        · exact .inr ⟨k, by omega, hf, h.symm⟩
        · exact .inl h
        · exact .inr ⟨j, by omega, h2⟩
      · rintro (h | ⟨j, h1, h2, h3⟩)
        · exact .inr (.inl h)
        · by_cases e : j = k
          · subst e; exact .inl h3.symm
          · exact .inr (.inr ⟨j, by omega, h2, h3⟩)
    · rw [tmsTo_no hf, ih (by omega)]
      constructor
      · rintro (h | ⟨j, h1, h2⟩)
        · exact .inl h
        · exact .inr ⟨j, by omega, h2⟩
      · rintro (h | ⟨j, h1, h2, h3⟩)
        · exact .inl h
        · by_cases e : j = k
          · subst e; exact absurd h2 hf
          · exact .inr ⟨j, by omega, h2, h3⟩

/-- place i lies in the trail of one of the first m sectors at one of the times T -/
def Mk (X : List Rc) (T : List Int) (i : Nat) : Prop := ∃ t ∈ T, ∃ s : Nat, s < 6 ∧ i ∈ trl X (s : Int) X.length t
/-- Seq q does -/
def Seen (X : List Rc) (T : List Int) (q : Int) : Prop := ∃ t ∈ T, ∃ s : Nat, s < 6 ∧ ∃ r ∈ trlR X (s : Int) X.length t, r.q = q
theorem prev_lt {X : List Rc} (hX : hRight X = true) : ∀ {i j : Nat}, i < j → j < X.length → (X.getD i Rc.zero).q < (X.getD j Rc.zero).q := by
  intro i j
  induction j with
  | zero => intro h; omega
  | succ j ih =>
    intro h1 h2
    have h := (hRight_at hX h2).2.1
    rw [prevR_succ] at h
    by_cases e : i = j
    · subst e; exact h
    · have := ih (by omega) (by omega); omega
theorem seq_inj {X : List Rc} (hX : hRight X = true) {i j : Nat} (hi : i < X.length) (hj : j < X.length) (h : (X.getD i Rc.zero).q = (X.getD j Rc.zero).q) : i = j := by
  rcases Nat.lt_trichotomy i j with h1 | h1 | h1
  · have := prev_lt hX h1 hj; omega
  · exact h1
  · have := prev_lt hX h1 hi; omega
theorem seen_iff {X : List Rc} (hX : hRight X = true) (T : List Int) {i : Nat} (hi : i < X.length) : Seen X T (X.getD i Rc.zero).q ↔ Mk X T i := by
  constructor
  · rintro ⟨t, ht, s, hs, r, hr, hq⟩
    refine ⟨t, ht, s, hs, ?_⟩
    unfold trlR at hr
    obtain ⟨j, hj, rfl⟩ := List.mem_map.1 hr
    have := seq_inj hX (trl_lt X _ _ _ j hj) hi hq
    subst this; exact hj
  · rintro ⟨t, ht, s, hs, hi'⟩
    exact ⟨t, ht, s, hs, _, by unfold trlR; exact List.mem_map.2 ⟨i, hi', rfl⟩, rfl⟩
/-- the record that the floor is taken from, and its place -/
def flR (X : List Rc) : Rc := floorRecTo X X.length
def flP (X : List Rc) : Nat → Int
  | 0 => -1
  | k + 1 => if (X.getD k Rc.zero).k = 4 ∧ (X.getD k Rc.zero).o = floorR X then (k : Int) else flP X k
theorem floorTo_mono (X : List Rc) {j k : Nat} (h : j ≤ k) : floorTo X j ≤ floorTo X k := by
  induction k with
  | zero => obtain rfl : j = 0 := by omega
            exact Int.le_refl _
  | succ k ih =>
    by_cases e : j = k + 1
    · subst e; exact Int.le_refl _
    · have := ih (by omega)
      rw [floorTo_succ]; split <;> omega
theorem floorTo_ge (X : List Rc) {i k : Nat} (h : i < k) (h4 : (X.getD i Rc.zero).k = 4) : (X.getD i Rc.zero).o ≤ floorTo X k := by
  refine Int.le_trans ?_ (floorTo_mono X (show i + 1 ≤ k from h))
  rw [floorTo_succ]
  split
  · exact Int.le_refl _
  · rename_i hn
    have : ¬ floorTo X i ≤ (X.getD i Rc.zero).o := fun h' => hn ⟨h4, h'⟩
    omega
/-- a place of a valid history holds the floor's record just where the last floor of that height lies -/
theorem fl_iff {X : List Rc} (hX : hRight X = true) : ∀ k, k ≤ X.length → ∀ i, i < k → (floorTo X k = floorR X → (X.getD i Rc.zero = floorRecTo X k ↔ flP X k = (i : Int))) := by
  intro k
  induction k with
  | zero => intro _ i hi; omega
  | succ k ih =>
    intro hk i hi hfl
    by_cases h4 : (X.getD k Rc.zero).k = 4 ∧ (X.getD k Rc.zero).o = floorR X
    · have e1 : floorRecTo X (k + 1) = X.getD k Rc.zero := by
        simp only [floorRecTo]
        rw [if_pos]
        refine ⟨h4.1, ?_⟩
        rw [floorRecTo_o, h4.2, ← hfl]; exact floorTo_mono X (by omega)
      have e2 : flP X (k + 1) = (k : Int) := by simp only [flP]; rw [if_pos h4]
      rw [e1, e2]
      constructor
      · intro h
        have := seq_inj hX (show i < X.length by omega) (show k < X.length by omega) (by rw [h])
        omega
      · intro h
        obtain rfl : k = i := by omega
        rfl
    · have e1 : floorRecTo X (k + 1) = floorRecTo X k ∧ floorTo X k = floorR X := by
        rw [floorTo_succ] at hfl
        simp only [floorRecTo]
        by_cases hc : (X.getD k Rc.zero).k = 4 ∧ floorTo X k ≤ (X.getD k Rc.zero).o
        · rw [if_pos hc] at hfl; exact absurd ⟨hc.1, hfl⟩ h4
        · rw [if_neg hc] at hfl
          rw [floorRecTo_o, if_neg hc]
          exact ⟨rfl, hfl⟩
      have e2 : flP X (k + 1) = flP X k := by simp only [flP]; rw [if_neg h4]
      rw [e1.1, e2]
      by_cases e : i = k
      · subst e
        constructor
        · intro h
          exfalso
          -- the floor's record lies ahead of i, or is the zero one
          have hz : ∀ m, m ≤ i → floorRecTo X m = Rc.zero ∨ ∃ j, j < m ∧ floorRecTo X m = X.getD j Rc.zero := by
            intro m
            induction m with
            | zero => intro _; exact .inl rfl
            | succ m ihm =>
              intro hm
              simp only [floorRecTo]
              split
              · exact .inr ⟨m, by omega, rfl⟩
              · rcases ihm (by omega) with h' | ⟨j, h1, h2⟩
                · exact .inl h'
                · exact .inr ⟨j, by omega, h2⟩
          rcases hz i (Nat.le_refl _) with h' | ⟨j, h1, h2⟩
          · have hok := (hRight_at hX (show i < X.length by omega)).1
            rw [h, h'] at hok
            exact absurd hok.1 (by decide)
          · have := seq_inj hX (show i < X.length by omega) (show j < X.length by omega) (by rw [h, h2])
            omega
        · intro h
          exfalso
          have hp : ∀ m, flP X m < (m : Int) := by
            intro m
            induction m with
            | zero => simp [flP]
            | succ m ihm => simp only [flP]; split <;> omega
          have := hp i
          omega
      · exact ih (by omega) i (by omega) e1.2
open Classical in
/-- place i is needed -/
noncomputable def nd (X : List Rc) (i : Nat) : Bool := decide (Mk X (tmsTo X (floorR X) X.length) i ∨ flP X X.length = (i : Int))
open Classical in
theorem nd_iff {X : List Rc} (hX : hRight X = true) {i : Nat} (hi : i < X.length) : nd X i = true ↔ (X.getD i Rc.zero = flR X ∨ Seen X (tmsTo X (floorR X) X.length) (X.getD i Rc.zero).q) := by
  unfold nd
  rw [decide_eq_true_eq, seen_iff hX _ hi, ← fl_iff hX X.length (Nat.le_refl _) i hi rfl]
  exact Or.comm
noncomputable def ndTo (X : List Rc) : Nat → List Int
  | 0 => []
  | k + 1 => if nd X k = true then ndTo X k ++ [(X.getD k Rc.zero).q] else ndTo X k
noncomputable def prTo (X : List Rc) : Nat → List Rc
  | 0 => []
  | k + 1 => if (nd X k || decide (k + 1 = X.length)) = true then prTo X k ++ [X.getD k Rc.zero] else prTo X k
noncomputable def neededOf (X : List Rc) : List Int := if hRight X = true then ndTo X X.length else []
noncomputable def pruneOf (X : List Rc) : List Rc := if hRight X = true then prTo X X.length else []
theorem ndTo_yes {X : List Rc} {k : Nat} (h : nd X k = true) : ndTo X (k + 1) = ndTo X k ++ [(X.getD k Rc.zero).q] := by simp only [ndTo]; rw [if_pos h]
theorem ndTo_no {X : List Rc} {k : Nat} (h : nd X k = false) : ndTo X (k + 1) = ndTo X k := by simp only [ndTo]; rw [if_neg (by rw [h]; simp)]
theorem prTo_yes {X : List Rc} {k : Nat} (h : (nd X k || decide (k + 1 = X.length)) = true) : prTo X (k + 1) = prTo X k ++ [X.getD k Rc.zero] := by simp only [prTo]; rw [if_pos h]
theorem prTo_no {X : List Rc} {k : Nat} (h : (nd X k || decide (k + 1 = X.length)) = false) : prTo X (k + 1) = prTo X k := by simp only [prTo]; rw [if_neg (by rw [h]; simp)]
theorem ndTo_len (X : List Rc) (k : Nat) : (ndTo X k).length ≤ k := by
  induction k with
  | zero => simp [ndTo]
  | succ k ih => simp only [ndTo]; split
                 · rw [List.length_append]; simp; omega
                 · omega
theorem prTo_len (X : List Rc) (k : Nat) : (prTo X k).length ≤ k := by
  induction k with
  | zero => simp [prTo]
  | succ k ih => simp only [prTo]; split
                 · rw [List.length_append]; simp; omega
                 · omega
theorem neededOf_len (X : List Rc) : (neededOf X).length ≤ X.length := by
  unfold neededOf
  split
  · exact ndTo_len _ _
  · simp
theorem pruneOf_len (X : List Rc) : (pruneOf X).length ≤ X.length := by
  unfold pruneOf
  split
  · exact prTo_len _ _
  · simp
theorem neededOf_no {X : List Rc} (h : ¬ hRight X = true) : neededOf X = [] := by unfold neededOf; rw [if_neg h]
theorem neededOf_yes {X : List Rc} (h : hRight X = true) : neededOf X = ndTo X X.length := by unfold neededOf; rw [if_pos h]
theorem pruneOf_no {X : List Rc} (h : ¬ hRight X = true) : pruneOf X = [] := by unfold pruneOf; rw [if_neg h]
theorem pruneOf_yes {X : List Rc} (h : hRight X = true) : pruneOf X = prTo X X.length := by unfold pruneOf; rw [if_pos h]
end Go.Proofs.YtloaeglmngcenaaGreatDoor
