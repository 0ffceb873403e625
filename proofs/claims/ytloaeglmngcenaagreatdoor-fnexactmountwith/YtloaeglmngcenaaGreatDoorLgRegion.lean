/-
  A region whose order is free, by an invariant over what has been done of it.
-/
import Derived.OrdersIn
import Derived.TacticsIn
import Derived.Test.YtloaeglmngcenaaGreatDoorProg
import Derived.KernelRfl
namespace Go.Proofs.YtloaeglmngcenaaGreatDoor

theorem count_set : ∀ (l : List Bool) (i : Nat), l[i]? = some false → (l.set i true).countP (fun b => !b) + 1 = l.countP (fun b => !b)
  | [], i, h => by simp at h
  | b :: l, 0, h => by simp at h; subst h; simp
  | b :: l, i + 1, h => by
    have := count_set l i (by simpa using h)
    simp only [List.set_cons_succ, List.countP_cons]
    omega
/-- operation j has been carried out -/
def Dn (L : Array Bool) (j : Nat) : Prop := L.getD j false = true
theorem Dn.set {L : Array Bool} {i j : Nat} (h : Dn (L.setIfInBounds i true) j) : j = i ∨ Dn L j := by
  by_cases e : j = i
  · exact .inl e
  · refine .inr ?_
    unfold Dn at h ⊢
    simpa [Array.getD_eq_getD_getElem?, Array.getElem?_setIfInBounds, Ne.symm e] using h
theorem Dn.stay {L : Array Bool} {i j : Nat} (h : Dn L j) : Dn (L.setIfInBounds i true) j := by
  unfold Dn at h ⊢
  by_cases e : i = j
  · subst e
    have hs : i < L.size := by
      rcases Nat.lt_or_ge i L.size with h' | h'
      · exact h'
      · simp [Array.getD_eq_getD_getElem?, Array.getElem?_eq_none h'] at h
    simp [Array.getD_eq_getD_getElem?, hs]
  · simpa [Array.getD_eq_getD_getElem?, Array.getElem?_setIfInBounds, e] using h
theorem Dn.new {L : Array Bool} {i : Nat} (h : i < L.size) : Dn (L.setIfInBounds i true) i := by
  unfold Dn
  simp [Array.getD_eq_getD_getElem?, h]
theorem Dn.not {L : Array Bool} {i : Nat} (h : i < L.size) (hn : L.getD i true = false) : ¬ Dn L i := by
  unfold Dn
  simp [Array.getD_eq_getD_getElem?, Array.getElem?_eq_getElem h] at hn ⊢
  exact hn
theorem Dn.other {L : Array Bool} {i j : Nat} (hij : j ≠ i) (h : ¬ Dn L j) : ¬ Dn (L.setIfInBounds i true) j := fun h' => (h'.set).elim hij h

section
variable {F : Fence} {n : Nat} {P : Program} {ops : Array Oper} {Q : Exit → Act → World → Prop} {md : Region.Mode}
theorem wpAnyIn_inv (Inv : Array Bool → Act → World → Prop) (hsz : ∀ L a w, Inv L a w → L.size = ops.size)
    (hstep : ∀ L a w, Inv L a w → ∀ i o, ops[i]? = some o → i < L.size → L.getD i true = false → (∀ e ∈ o.after, Region.binds md e = true → Dn L e.on) → wpOpIn F n P ops Q i (Inv (L.setIfInBounds i true)) a w)
    (hdone : ∀ L a w, Inv L a w → Region.ready md ops L = [] → Q .normal a w) :
    ∀ (fuel : Nat) (L : Array Bool) (a : Act) (w : World), L.toList.countP (fun b => !b) ≤ fuel → Inv L a w → wpAnyIn F n P md ops Q fuel L a w := by
  intro fuel
  induction fuel with
  | zero =>
    intro L a w hc hI
    have hr : Region.ready md ops L = [] := by
      unfold Region.ready
      refine List.filter_eq_nil_iff.2 (fun i hi => ?_)
      have hlt : i < L.size := by rw [hsz L a w hI]; simpa using hi
      have h0 : L.toList.countP (fun b => !b) = 0 := by omega
      have h1 := List.countP_eq_zero.1 h0 (L[i]'hlt) (by simp)
      simp [Array.getD_eq_getD_getElem?, Array.getElem?_eq_getElem hlt]
      intro h2
      simp [h2] at h1
    exact ⟨hr, hdone L a w hI hr⟩
  | succ fuel ih =>
    intro L a w hc hI
    refine ⟨hdone L a w hI, fun i hi => ?_⟩
    unfold Region.ready at hi
    rw [List.mem_filter] at hi
    obtain ⟨h1, h2⟩ := hi
    have hlt : i < L.size := by rw [hsz L a w hI]; simpa using h1
    rw [Bool.and_eq_true] at h2
    have hL : L.getD i true = false := by simpa using h2.1
    cases ho : ops[i]? with
    | none => rw [ho] at h2; simp at h2
    | some o =>
      rw [ho] at h2
      have hd : ∀ e ∈ o.after, Region.binds md e = true → Dn L e.on := by
        intro e he hb
        have h3 : o.after.all (fun e => !Region.binds md e || L.getD e.on false) = true := by simpa using h2.2
        rw [Array.all_eq_true'] at h3
        have h4 := h3 e he
        rw [hb] at h4
        simpa [Dn] using h4
      refine wpOpIn_mono (fun a' w' h => ih _ a' w' ?_ h) (hstep L a w hI i o ho hlt hL hd)
      have hb : L.toList[i]? = some false := by
        simp [Array.getD_eq_getD_getElem?, Array.getElem?_eq_getElem hlt] at hL
        simp [Array.getElem?_eq_getElem hlt, hL]
      have := count_set L.toList i hb
      rw [Array.toList_setIfInBounds]
      omega
/-- where nothing may come up any more, whatever has all that it waits for has been carried out -/
theorem ready_nil {L : Array Bool} (h : Region.ready md ops L = []) (hs : L.size = ops.size) {i : Nat} {o : Oper} (ho : ops[i]? = some o) (hd : ∀ e ∈ o.after, Dn L e.on) : Dn L i := by
  have hlt : i < ops.size := (Array.getElem?_eq_some_iff.1 ho).1
  have hlt' : i < L.size := by omega
  cases hL : L.getD i true with
  | true => simp [Array.getD_eq_getD_getElem?, Array.getElem?_eq_getElem hlt'] at hL; simp [Dn, Array.getD_eq_getD_getElem?, Array.getElem?_eq_getElem hlt', hL]
  | false =>
    have hm : i ∈ Region.ready md ops L := by
      unfold Region.ready
      rw [List.mem_filter]
      refine ⟨by simpa using hlt, ?_⟩
      rw [hL, ho]
      simp only [Bool.not_false, Bool.true_and, Option.map_some, Option.getD_some]
      rw [Array.all_eq_true']
      intro e he
      have h1 : L.getD e.on false = true := hd e he
      rw [h1, Bool.or_true]
    rw [h] at hm; cases hm
/-- one operation, by the laws for lists of them -/
theorem wpOpIn_of_list {i : Nat} {o : Oper} {K : Act → World → Prop} {a : Act} {w : World} (ho : ops[i]? = some o) (hg : o.guard = none)
    (h : wpListIn F n P ops (fun e a w => match e with | .normal => K a w | e => Q e a w) [o] a w) : wpOpIn F n P ops Q i K a w := by
  unfold wpOpIn
  rw [ho]
  have hw : Region.wanted o (yielded ops a.tmps) = true := by simp [Region.wanted, hg]
  simp only [hw, if_true]
  unfold wpListIn at h
  rw [if_pos hw] at h
  unfold Oper.wpIn at *
  refine ⟨h.1, ?_⟩
  have h := h.2
  generalize (o.semAt F.round a.eval).run P w = r at *
  cases r with
  | ok x w' => cases x <;> simp only [Oper.uponIn, wpListIn] at h ⊢ <;> exact h
  | halt x w' => cases x <;> simp only [Oper.uponIn] at h ⊢ <;> exact h
end
end Go.Proofs.YtloaeglmngcenaaGreatDoor
