/-
  What Mount answers, in plain words: the code, and the records.
-/
import Derived.Test.YtfpibbhcecdbgaaGreatDoorLgRecs
import Derived.Test.YtfpibbhcecdbgaaGreatDoorLgMountP
import Derived.Test.YtfpibbhcecdbgaaGreatDoorHsPure
import Derived.Test.YtfpibbhcecdbgaaGreatDoorHsMem
namespace Go.Proofs.YtfpibbhcecdbgaaGreatDoor
open Bt (Rc)

/-- the code of Mount, and its records -/
noncomputable def mntCode (X : List Bk) : Int := if ndB X = true then (if hRight (mnt (recsTo X X.length)) = true then 0 else 10) else 1
noncomputable def mntList (X : List Bk) : List Rc := if mntCode X = 0 then mnt (recsTo X X.length) else []
theorem mnt_no {X : List Bk} (h : ¬ NdOk X) : mntCode X = 1 ∧ mntList X = [] := by
  have e : mntCode X = 1 := by unfold mntCode; rw [ndB_no h]; rfl
  exact ⟨e, by unfold mntList; rw [e]; rfl⟩
theorem mnt_bad {X : List Bk} (h : NdOk X) (hr : hRight (mnt (recsTo X X.length)) = false) : mntCode X = 10 ∧ mntList X = [] := by
  have e : mntCode X = 10 := by unfold mntCode; rw [ndB_yes h, hr]; rfl
  exact ⟨e, by unfold mntList; rw [e]; rfl⟩
theorem mnt_ok {X : List Bk} (h : NdOk X) (hr : hRight (mnt (recsTo X X.length)) = true) : mntCode X = 0 ∧ mntList X = mnt (recsTo X X.length) := by
  have e : mntCode X = 0 := by unfold mntCode; rw [ndB_yes h, hr]; rfl
  exact ⟨e, by unfold mntList; rw [e]; rfl⟩
theorem mnt_codes (X : List Bk) : mntCode X = 0 ∨ mntCode X = 1 ∨ mntCode X = 10 := by
  unfold mntCode
  split
  · split
    · exact .inl rfl
    · exact .inr (.inr rfl)
  · exact .inr (.inl rfl)
theorem mnt_upto {X : List Bk} (h : NdOk X) (i : Nat) (hi : i ≤ X.length) : (mnt (recsTo X i)).length ≤ 48 ∧ ∀ r ∈ mnt (recsTo X i), r.Ok := by
  constructor
  · have h1 := mnt_len (recsTo X i); have h2 := recsTo_len h i hi; have h3 := h.1.2; omega
  · intro r hr
    obtain ⟨x, hx, rfl⟩ := mnt_mem hr
    exact (recsTo_good h i hi x hx).2
theorem mnt_smallR {X : List Bk} (h : NdOk X) : SmallR (mnt (recsTo X X.length)) := by
  obtain ⟨h1, h2⟩ := mnt_upto h X.length (Nat.le_refl _)
  refine ⟨by omega, fun r hr => ?_⟩
  have := (h2 r hr).2.2.2.2.2.2.2.2.2.2.1
  omega
theorem mntList_len (X : List Bk) : (mntList X).length ≤ 48 := by
  by_cases h : NdOk X
  · cases hr : hRight (mnt (recsTo X X.length)) with
    | true => rw [(mnt_ok h hr).2]; exact (mnt_upto h X.length (Nat.le_refl _)).1
    | false => rw [(mnt_bad h hr).2]; simp
  · rw [(mnt_no h).2]; simp
theorem mnt_right {X : List Bk} (h : mntCode X = 0) : NdOk X := by
  by_cases ho : NdOk X
  · exact ho
  · rw [(mnt_no ho).1] at h; cases h
theorem mnt_zero {X : List Bk} (h : mntCode X = 0) : NdOk X ∧ mntList X = mnt (recsTo X X.length) ∧ hRight (mntList X) = true := by
  have ho := mnt_right h
  cases hr : hRight (mnt (recsTo X X.length)) with
  | true => exact ⟨ho, (mnt_ok ho hr).2, by rw [(mnt_ok ho hr).2]; exact hr⟩
  | false => rw [(mnt_bad ho hr).1] at h; cases h
end Go.Proofs.YtfpibbhcecdbgaaGreatDoor
