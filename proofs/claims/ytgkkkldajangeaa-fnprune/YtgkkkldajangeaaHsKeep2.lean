/-
  Plain mathematics of pruning: its times, and that it is done once. No condition.
-/
import Derived.Test.YtgkkkldajangeaaHsKeep
namespace Go.Proofs.Ytgkkkldajangeaa
open Go.RowKit
open Bt (Rc)

theorem prev_le {X : List Rc} (hX : hRight X = true) : ∀ {i j : Nat}, i ≤ j → j < X.length → (X.getD i Rc.zero).t ≤ (X.getD j Rc.zero).t := by
  intro i j
  induction j with
  | zero => intro h _; obtain rfl : i = 0 := by omega
            exact Int.le_refl _
  | succ j ih =>
    intro h1 h2
    have h := (hRight_at hX h2).2.2
    rw [prevR_succ] at h
    by_cases e : i = j + 1
    · subst e; exact Int.le_refl _
    · have := ih (by omega) (by omega); omega
theorem times_mem {X : List Rc} (hX : hRight X = true) (s f q : Int) : ∀ k, k ≤ X.length → (q ∈ timesTo X s f k ↔ ∃ j, j < k ∧ f ≤ (X.getD j Rc.zero).t ∧ tch (X.getD j Rc.zero) s = true ∧ (X.getD j Rc.zero).t = q)
  | 0, _ => ⟨fun h => by simp [timesTo] at h, fun ⟨j, h, _⟩ => absurd h (Nat.not_lt_zero _)⟩
  | k + 1, hk => by
    have ih := times_mem hX s f q k (by omega)
    have hu := (times_upw hX s f k (by omega)).mono (hRight_at hX (show k < X.length by omega)).2.2
    by_cases hc : f ≤ (X.getD k Rc.zero).t ∧ tch (X.getD k Rc.zero) s = true
    · rw [timesTo_yes (by rw [decide_eq_true hc.1, hc.2]; rfl), pushT_mem hu, ih]
      constructor
      · rintro (rfl | ⟨j, h1, h2, h3, h4⟩)
        · exact ⟨k, by omega, hc.1, hc.2, rfl⟩
        · exact ⟨j, by omega, h2, h3, h4⟩
      · rintro ⟨j, h1, h2, h3, h4⟩
        by_cases e : j = k
        · subst e; exact .inl h4.symm
        · exact .inr ⟨j, by omega, h2, h3, h4⟩
    · rw [timesTo_no (by
        cases hd : decide (f ≤ (X.getD k Rc.zero).t)
        · rfl
        · cases ht : tch (X.getD k Rc.zero) s
          · rfl
          · exact absurd ⟨of_decide_eq_true hd, ht⟩ hc), ih]
      constructor
      · rintro ⟨j, h1, h2⟩; exact ⟨j, by omega, h2⟩
      · rintro ⟨j, h1, h2, h3, h4⟩
        by_cases e : j = k
        · subst e; exact absurd ⟨h2, h3⟩ hc
        · exact ⟨j, by omega, h2, h3, h4⟩
theorem srt_pw {L : List Int} (h : Srt L) : L.Pairwise (· < ·) := by
  rw [List.pairwise_iff_getElem]
  intro i j hi hj hij
  have := h i j hij hj
  rw [List.getD_eq_getElem?_getD, List.getElem?_eq_getElem hi, List.getD_eq_getElem?_getD, List.getElem?_eq_getElem hj] at this
  exact this
theorem pw_eq : ∀ {L M : List Int}, L.Pairwise (· < ·) → M.Pairwise (· < ·) → (∀ q, q ∈ L ↔ q ∈ M) → L = M
  | [], [], _, _, _ => rfl
  | [], b :: M, _, _, h => absurd ((h b).2 (List.mem_cons_self ..)) (by simp)
  | a :: L, [], _, _, h => absurd ((h a).1 (List.mem_cons_self ..)) (by simp)
  | a :: L, b :: M, hL, hM, h => by
    rw [List.pairwise_cons] at hL hM
    have e : a = b := by
      have h1 := (h a).1 (List.mem_cons_self ..)
      have h2 := (h b).2 (List.mem_cons_self ..)
      rcases List.mem_cons.1 h1 with e | h1
      · exact e
      · rcases List.mem_cons.1 h2 with e | h2
        · exact e.symm
        · have := hM.1 a h1; have := hL.1 b h2; omega
    subst e
    congr 1
    refine pw_eq hL.2 hM.2 fun q => ⟨fun hq => ?_, fun hq => ?_⟩
    · rcases List.mem_cons.1 ((h q).1 (List.mem_cons_of_mem _ hq)) with e | h'
      · subst e; have := hL.1 q hq; omega
      · exact h'
    · rcases List.mem_cons.1 ((h q).2 (List.mem_cons_of_mem _ hq)) with e | h'
      · subst e; have := hM.1 q hq; omega
      · exact h'
theorem lastT_hit {X : List Rc} {s a : Int} {i : Nat} (h : hit (X.getD i Rc.zero) s a = true) : ∀ m, i < m → (i : Int) ≤ lastT X s a m
  | 0, hi => absurd hi (Nat.not_lt_zero _)
  | m + 1, hi => by
    by_cases hh : hit (X.getD m Rc.zero) s a = true
    · rw [lastT_yes hh]; omega
    · have hh : hit (X.getD m Rc.zero) s a = false := by simpa using hh
      rw [lastT_no hh]
      have : i ≠ m := fun e => by subst e; rw [h] at hh; cases hh
      exact lastT_hit h m (by omega)
theorem prune_times {X : List Rc} (hX : hRight X = true) {s : Nat} (hs : s < 6) : timesOf (prTo X X.length) (s : Int) = timesOf X (s : Int) := by
  have hP := prune_right hX
  unfold timesOf
  rw [if_pos ⟨hP, by omega, by omega⟩, if_pos ⟨hX, by omega, by omega⟩, prune_floor]
  refine pw_eq (srt_pw (times_upw hP _ _ _ (Nat.le_refl _)).srt) (srt_pw (times_upw hX _ _ _ (Nat.le_refl _)).srt) fun q => ?_
  rw [times_mem hP _ _ q _ (Nat.le_refl _), times_mem hX _ _ q _ (Nat.le_refl _)]
  constructor
  · rintro ⟨j, h1, h2, h3, h4⟩
    obtain ⟨i, hi, -, e⟩ := pr_mem X X.length j h1
    rw [e] at h2 h3 h4
    exact ⟨i, hi, h2, h3, h4⟩
  · rintro ⟨i, h1, h2, h3, h4⟩
    have hhit : hit (X.getD i Rc.zero) (s : Int) (X.getD i Rc.zero).t = true := by rw [hit_tch (Int.le_refl _)]; exact h3
    have hge := lastT_hit hhit X.length h1
    rcases trl_of_last X (s : Int) (X.getD i Rc.zero).t X.length with ⟨h5, -⟩ | ⟨l, h5, h6, h7, h8⟩
    · omega
    · have hkp := kept_trail hX hs (a := (X.getD i Rc.zero).t) h2 l (by rw [h8]; exact List.mem_cons_self ..)
      have hlt : (X.getD i Rc.zero).t ≤ (X.getD l Rc.zero).t := prev_le hX (by omega) h5
      have hle : (X.getD l Rc.zero).t ≤ (X.getD i Rc.zero).t := by
        unfold hit at h7
        simp only [Bool.and_eq_true, decide_eq_true_eq] at h7
        exact h7.1
      have htc : tch (X.getD l Rc.zero) (s : Int) = true := by
        unfold hit at h7
        simp only [Bool.and_eq_true] at h7
        exact h7.2
      obtain ⟨j, hj, e⟩ := mem_pr h5 hkp
      exact ⟨j, hj, by rw [e]; omega, by rw [e]; exact htc, by rw [e]; omega⟩
theorem pr_all {X : List Rc} (h : ∀ i, i < X.length → kp X i = true) : ∀ k, k ≤ X.length → prTo X k = X.take k
  | 0, _ => by simp [prTo]
  | k + 1, hk => by
    rw [pr_yes (h k (by omega)), pr_all h k (by omega), List.take_succ_eq_append_getElem (by omega), List.getD_eq_getElem?_getD, List.getElem?_eq_getElem (by omega)]
    rfl
theorem prune_once {X : List Rc} (hX : hRight X = true) : prTo (prTo X X.length) (prTo X X.length).length = prTo X X.length := by
  have hP := prune_right hX
  have hfl := prune_floor (X := X)
  have hall : ∀ j, j < (prTo X X.length).length → kp (prTo X X.length) j = true := by
    intro j hj
    obtain ⟨i, hi, hk, e⟩ := pr_mem X X.length j hj
    by_cases hlast : i + 1 = X.length
    · have hl := prune_last (X := X)
      have : (prTo X X.length).getD ((prTo X X.length).length - 1) Rc.zero = X.getD i Rc.zero := by
        have h1 : lastR X = X.getD i Rc.zero := by unfold lastR; rw [show X.length - 1 = i by omega]
        rw [← h1, ← hl]; rfl
      have hjl := seq_inj hP hj (show (prTo X X.length).length - 1 < (prTo X X.length).length by omega) (by rw [e, this])
      unfold kp
      rw [decide_eq_true (show j + 1 = (prTo X X.length).length by omega)]
      simp
    · have hnd : nd X i = true := by
        unfold kp at hk
        rw [decide_eq_false hlast, Bool.or_false] at hk; exact hk
      have hndP : nd (prTo X X.length) j = true := by
        rcases nd_true.1 hnd with ⟨t, ht, s, hs, hm⟩ | hf
        · have hft : floorR X ≤ t := by
            rcases (tms_mem hX (floorR X) t X.length (Nat.le_refl _)).1 ht with rfl | ⟨j', -, h1, h2⟩
            · exact Int.le_refl _
            · omega
          have hr : X.getD i Rc.zero ∈ trlR X (s : Int) X.length t := List.mem_map.2 ⟨i, hm, rfl⟩
          rw [← trail_kept hX hs hft] at hr
          unfold trlR at hr
          obtain ⟨j', hj', e'⟩ := List.mem_map.1 hr
          have hjj := seq_inj hP (trl_lt _ _ _ _ j' hj') hj (by rw [e', e])
          subst hjj
          obtain ⟨t', ht', e2⟩ := best hP (f := floorR (prTo X X.length)) (a := t) (by rw [hfl]; exact hft) (s : Int)
          exact nd_true.2 (.inl ⟨t', ht', s, hs, by rw [← e2]; exact hj'⟩)
        · rcases flP_spec X X.length with ⟨h1, -⟩ | ⟨l, h1, h2, h3, h4⟩
          · rw [h1] at hf; omega
          · obtain rfl : l = i := by omega
            have hPj : Pf (prTo X X.length) j := by unfold Pf; rw [e, hfl]; exact h3
            rcases flP_spec (prTo X X.length) (prTo X X.length).length with ⟨-, h6⟩ | ⟨m, h5, h6, h7, h8⟩
            · exact absurd hPj (h6 j hj)
            · rcases Nat.lt_trichotomy j m with hlt | rfl | hgt
              · exfalso
                obtain ⟨i', hi', -, e'⟩ := pr_mem X X.length m h5
                have hq := prev_lt hP hlt h5
                rw [e, e'] at hq
                have hii : l < i' := by
                  rcases Nat.lt_or_ge l i' with h | h
                  · exact h
                  · rcases Nat.lt_or_ge i' l with h' | h'
                    · have := prev_lt hX h' hi; omega
                    · obtain rfl : l = i' := by omega
                      omega
                have hPi : Pf X i' := by unfold Pf at h7 ⊢; rw [e', hfl] at h7; exact h7
                exact h4 i' hii hi' hPi
              · exact nd_true.2 (.inr h6)
              · exact absurd hPj (h8 j hgt hj)
      unfold kp; rw [hndP]; rfl
  rw [pr_all hall _ (Nat.le_refl _), List.take_of_length_le (Nat.le_refl _)]
end Go.Proofs.Ytgkkkldajangeaa
