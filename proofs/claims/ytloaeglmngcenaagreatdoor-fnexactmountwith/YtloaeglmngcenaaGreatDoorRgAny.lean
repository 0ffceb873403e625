/-
  A region whose order is free, by an invariant over what has been done of it, outside of a range over a function. Over any program.
-/
import Derived.Orders
import Derived.Tactics
import Derived.Test.YtloaeglmngcenaaGreatDoorLgRegion
namespace Go.Proofs.YtloaeglmngcenaaGreatDoor
section
variable {P : Program} {ops : Array Oper} {Q : Exit → Act → World → Prop} {md : Region.Mode}
theorem wpAny_inv (Inv : Array Bool → Act → World → Prop) (hsz : ∀ L a w, Inv L a w → L.size = ops.size)
    (hstep : ∀ L a w, Inv L a w → ∀ i o, ops[i]? = some o → i < L.size → L.getD i true = false → (∀ e ∈ o.after, Region.binds md e = true → Dn L e.on) → wpOp P ops Q i (Inv (L.setIfInBounds i true)) a w)
    (hdone : ∀ L a w, Inv L a w → Region.ready md ops L = [] → Q .normal a w) :
    ∀ (fuel : Nat) (L : Array Bool) (a : Act) (w : World), L.toList.countP (fun b => !b) ≤ fuel → Inv L a w → wpAny P md ops Q fuel L a w := by
  intro fuel
  induction fuel with
  | zero =>
    intro L a w hc hI
    have hr : Region.ready md ops L = [] := by
      unfold Region.ready
      refine List.filter_eq_nil_iff.2 (fun i hi => ?_)
      have hlt : i < L.size := by rw [hsz L a w hI]; simpa using hi
      have h0 : L.toList.countP (fun b => !b) = 0 := by omega
      have h1 := List.countP_eq_zero.1 h0 (L[i]'hlt) (by simp)
      simp [Array.getD_eq_getD_getElem?, Array.getElem?_eq_getElem hlt]
      intro h2
      simp [h2] at h1
    exact ⟨hr, hdone L a w hI hr⟩
  | succ fuel ih =>
    intro L a w hc hI
    refine ⟨hdone L a w hI, fun i hi => ?_⟩
    unfold Region.ready at hi
    rw [List.mem_filter] at hi
    obtain ⟨h1, h2⟩ := hi
    have hlt : i < L.size := by rw [hsz L a w hI]; simpa using h1
    rw [Bool.and_eq_true] at h2
    have hL : L.getD i true = false := by simpa using h2.1
    cases ho : ops[i]? with
    | none => rw [ho] at h2; simp at h2
    | some o =>
      rw [ho] at h2
      have hd : ∀ e ∈ o.after, Region.binds md e = true → Dn L e.on := by
        intro e he hb
        have h3 : o.after.all (fun e => !Region.binds md e || L.getD e.on false) = true := by simpa using h2.2
        rw [Array.all_eq_true'] at h3
        have h4 := h3 e he
        rw [hb] at h4
        simpa [Dn] using h4
      refine wpOp_mono (fun a' w' h => ih _ a' w' ?_ h) (hstep L a w hI i o ho hlt hL hd)
      have hb : L.toList[i]? = some false := by
        simp [Array.getD_eq_getD_getElem?, Array.getElem?_eq_getElem hlt] at hL
        simp [Array.getElem?_eq_getElem hlt, hL]
      have := count_set L.toList i hb
      rw [Array.toList_setIfInBounds]
      omega
/-- one operation, by the laws for lists of them -/
theorem wpOp_of_list {i : Nat} {o : Oper} {K : Act → World → Prop} {a : Act} {w : World} (ho : ops[i]? = some o) (hg : o.guard = none)
    (h : wpList P ops (fun e a w => match e with | .normal => K a w | e => Q e a w) [o] a w) : wpOp P ops Q i K a w := by
  unfold wpOp
  rw [ho]
  have hw : Region.wanted o (yielded ops a.tmps) = true := by simp [Region.wanted, hg]
  simp only [hw, if_true]
  unfold wpList at h
  rw [if_pos hw] at h
  refine h.imp (fun h => ?_) (fun h => h)
  unfold Oper.wp at *
  generalize (execOp a.eval o).run P w = r at *
  cases r with
  | ok x w' => cases x <;> simp only [Oper.upon, wpList] at h ⊢ <;> exact h
  | halt x w' => cases x <;> simp only [Oper.upon] at h ⊢ <;> exact h
end
end Go.Proofs.YtloaeglmngcenaaGreatDoor
