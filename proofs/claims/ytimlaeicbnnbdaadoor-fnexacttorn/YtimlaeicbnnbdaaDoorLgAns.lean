/-
  What Append and Torn answer (chapter 6), as mathematics. No condition.
-/
import Derived.Test.YtimlaeicbnnbdaaDoorLgPure
import Derived.Test.YtimlaeicbnnbdaaDoorNdSpec3
import Derived.Test.YtimlaeicbnnbdaaDoorNdAns
namespace Go.Proofs.YtimlaeicbnnbdaaDoor

theorem leastTo_fre (X : List Bk) : ∀ k l : Nat, leastTo X k = (l : Int) → fre (X.getD l zeroBk) = true := by
  intro k
  induction k with
  | zero => intro l h; simp only [leastTo] at h; omega
  | succ k ih =>
    intro l h
    simp only [leastTo] at h
    split at h
    · rename_i h1
      obtain rfl : k = l := by omega
      exact h1.1
    · exact ih l h
/-- the block for the next page takes one more page -/
theorem next_ready {X : List Bk} {r : Int} (h : nextR X r ≠ -1) : ∃ k : Nat, nextR X r = (k : Int) ∧ k < X.length ∧ (X.getD k zeroBk).bad = false ∧ uPre (X.getD k zeroBk).pages < 4 := by
  have hr := nextR_range X r
  refine ⟨(nextR X r).toNat, by omega, by omega, ?_⟩
  unfold nextR at h ⊢
  split at h
  · rename_i h1
    rw [if_pos h1]
    split at h
    · exact absurd rfl h
    · rename_i h2
      rw [if_neg h2]
      obtain ⟨l, hl, hk⟩ : ∃ l : Nat, leastTo X X.length = (l : Int) ∧ l < X.length := by
        rcases leastTo_range X X.length with e | ⟨h0, h1⟩
        · exact absurd e h
        · exact ⟨(leastTo X X.length).toNat, by omega, by omega⟩
      have hf := leastTo_fre X X.length l hl
      rw [hl, show ((l : Int)).toNat = l from rfl]
      simp only [fre, decide_eq_true_eq] at hf
      exact ⟨hf.1, by omega⟩
  · rename_i h1
    rw [if_neg h1]
    rcases firstTo_cases (fun i => opnB (X.getD i zeroBk)) X.length with ⟨h2, -⟩ | ⟨k, hk, h2, h3, -⟩
    · exact absurd h2 h1
    · have e : openR X = (k : Int) := h2
      rw [e, show ((k : Int)).toNat = k from rfl]
      simp only [opnB, Bool.and_eq_true, Bool.not_eq_true', decide_eq_true_eq] at h3
      exact ⟨h3.1, h3.2.2⟩
theorem late_ok {X : List Bk} {k : Nat} {d : ByteArray} (hb : (X.getD k zeroBk).bad = false) (hu : uPre (X.getD k zeroBk).pages < 4) : (progLate X k d).code = 0 ∧ (progLate X k d).data = ⟨#[]⟩ := by
  unfold progLate
  rw [if_neg (by rw [hb]; simp), if_neg (by omega)]
  exact ⟨rfl, rfl⟩
theorem prog_late {X : List Bk} {k : Nat} {d : ByteArray} (hok : NdOk X) (hk : k < X.length) (hd : d.size ≤ 60) : progAns X (k : Int) d = progLate X k d := by
  unfold progAns progLate
  rw [if_neg (by omega), if_neg (by rw [blkCode_ok hok (by omega) (by omega)]; simp), if_neg (by omega), show ((k : Int)).toNat = k from rfl]
noncomputable def putAns (X : List Bk) (r : Int) (d : ByteArray) : NdAns := if nextR X r = -1 then ill 9 else progLate X (nextR X r).toNat d
open Classical in
noncomputable def appAns (X : List Bk) (ok : Bool) (d : ByteArray) (r : Int) : NdAns := if NdOk X ∧ ok = true ∧ (0 ≤ r ∧ r ≤ 12) then putAns X r d else ill 1
open Classical in
noncomputable def tornAns (X : List Bk) (d : ByteArray) : NdAns := if 8000 < d.size then ill 2 else if NdOk X ∧ d.size ≤ 60 then putAns X 0 (d.extract 0 (d.size / 2)) else ill 1
theorem putAns_full {X : List Bk} {r : Int} {d : ByteArray} (h : nextR X r = -1) : putAns X r d = ill 9 := by unfold putAns; rw [if_pos h]
theorem putAns_at {X : List Bk} {r : Int} {d : ByteArray} {k : Nat} (h : nextR X r = (k : Int)) : putAns X r d = progLate X k d := by unfold putAns; rw [if_neg (by omega), h]; rfl
theorem ill_few (c : Int) : Few (ill c).nd := ⟨by simp [ill], fun b hb => by simp [ill] at hb⟩
theorem putAns_few {X : List Bk} {r : Int} {d : ByteArray} (hok : NdOk X) (hd : d.size ≤ 60) : Few (putAns X r d).nd := by
  by_cases h : nextR X r = -1
  · rw [putAns_full h]; exact ill_few _
  · obtain ⟨k, hk, hkl, -, -⟩ := next_ready h
    rw [putAns_at hk, ← prog_late hok hkl hd]
    exact progAns_few X (k : Int) d
theorem appAns_few (X : List Bk) (ok : Bool) (d : ByteArray) (r : Int) (hd : d.size ≤ 60) : Few (appAns X ok d r).nd := by
  unfold appAns
  split
  · rename_i h; exact putAns_few h.1 hd
  · exact ill_few _
theorem ext_half (d : ByteArray) : (d.extract 0 (d.size / 2)).size = d.size / 2 := by
  rw [ByteArray.size_extract]; omega
theorem tornAns_few (X : List Bk) (d : ByteArray) : Few (tornAns X d).nd := by
  unfold tornAns
  split
  · exact ill_few _
  · split
    · rename_i h; exact putAns_few h.1 (by rw [ext_half]; omega)
    · exact ill_few _
end Go.Proofs.YtimlaeicbnnbdaaDoor
