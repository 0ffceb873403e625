/-
  A chip that the call owns, changed in one field; what Program, Erase and MarkBad answer, as mathematics.
-/
import Derived.Test.YtimlaeicbnnbdaaDoorNdMake
namespace Go.Proofs.YtimlaeicbnnbdaaDoor
open Go.RowKit

theorem set_getD {α : Type} {l : List α} {k i : Nat} {v z : α} (hk : k < l.length) : (l.set k v).getD i z = if i = k then v else l.getD i z := by
  by_cases e : i = k
  · subst e; simp [List.getD_eq_getElem?_getD, hk]
  · rw [if_neg e, List.getD_eq_getElem?_getD, List.getD_eq_getElem?_getD, List.getElem?_set_ne (by omega)]

section
variable {w : World} {lo hi g k : Nat} {pa cp : Nat → Nat} {X : List Bk}
theorem bkF_other {pA pA' : Nat → Option Addr} {cp cp' : Nat → Nat} {X X' : List Bk} {c : Nat} (h1 : pA (c / 3) = pA' (c / 3)) (h2 : cp (c / 3) = cp' (c / 3)) (h3 : X.getD (c / 3) zeroBk = X'.getD (c / 3) zeroBk) : bkF pA cp X c = bkF pA' cp' X' c := by
  unfold bkF; rw [h1, h2, h3]
theorem OwBk.setBad (h : OwBk w lo hi g pa cp X) (hk : k < X.length) (b : Bool) :
    OwBk (w.setCell ⟨g, k * 3 + 2, none⟩ (.bool b)) lo hi g pa cp (X.set k ⟨(X.getD k zeroBk).pages, (X.getD k zeroBk).erases, b⟩) := by
  refine ⟨h.at_lo, h.at_hi, ?_, by simpa using h.lo', by simpa using h.apart, ?_, fun i hi' => ?_⟩
  · rw [List.length_set]
    refine (h.row.set _ _).congr fun c hc => ?_
    by_cases e2 : c = k * 3 + 2
    · rw [if_pos e2, e2, bkF_2, set_getD hk, if_pos rfl]
    · rw [if_neg e2]
      by_cases e1 : c = k * 3 + 1
      · rw [e1, bkF_1, bkF_1, set_getD hk, if_pos rfl]
      · by_cases e0 : c = k * 3
        · rw [e0, bkF_0, bkF_0, set_getD hk, if_pos rfl]
        · exact bkF_other rfl rfl (by rw [set_getD hk, if_neg (by omega)])
  · intro i hi'
    rw [List.length_set] at hi'
    rw [set_getD hk]
    have := h.lo' i hi'
    by_cases e : i = k
    · rw [if_pos e]; subst e; exact Row.other (h.pages i hi') (by dsimp only; omega) _
    · rw [if_neg e]; exact Row.other (h.pages i hi') (by dsimp only; omega) _
  · rw [List.length_set] at hi'
    rw [set_getD hk]
    split
    · rename_i e; subst e; exact (h.room i hi').set _ _ _
    · exact (h.room i hi').set _ _ _
theorem OwBk.setEr (h : OwBk w lo hi g pa cp X) (hk : k < X.length) (z : Int) :
    OwBk (w.setCell ⟨g, k * 3 + 1, none⟩ (.int .i64 z)) lo hi g pa cp (X.set k ⟨(X.getD k zeroBk).pages, z, (X.getD k zeroBk).bad⟩) := by
  refine ⟨h.at_lo, h.at_hi, ?_, by simpa using h.lo', by simpa using h.apart, ?_, fun i hi' => ?_⟩
  · rw [List.length_set]
    refine (h.row.set _ _).congr fun c hc => ?_
    by_cases e1 : c = k * 3 + 1
    · rw [if_pos e1, e1, bkF_1, set_getD hk, if_pos rfl]
    · rw [if_neg e1]
      by_cases e2 : c = k * 3 + 2
      · rw [e2, bkF_2, bkF_2, set_getD hk, if_pos rfl]
      · by_cases e0 : c = k * 3
        · rw [e0, bkF_0, bkF_0, set_getD hk, if_pos rfl]
        · exact bkF_other rfl rfl (by rw [set_getD hk, if_neg (by omega)])
  · intro i hi'
    rw [List.length_set] at hi'
    rw [set_getD hk]
    have := h.lo' i hi'
    by_cases e : i = k
    · rw [if_pos e]; subst e; exact Row.other (h.pages i hi') (by dsimp only; omega) _
    · rw [if_neg e]; exact Row.other (h.pages i hi') (by dsimp only; omega) _
  · rw [List.length_set] at hi'
    rw [set_getD hk]
    split
    · rename_i e; subst e; exact (h.room i hi').set _ _ _
    · exact (h.room i hi').set _ _ _
/-- other pages for a block: they lie at p, where nothing of the chip lies -/
theorem OwBk.setPgs {p c : Nat} {Y : List Pg} (h : OwBk w lo hi g pa cp X) (hk : k < X.length) (hp : lo ≤ p ∧ p < hi ∧ p ≠ g) (hpa : ∀ i, i < X.length → pa i ≠ p) (ho : OwPg w p Y) (hc : c = Y.length) :
    OwBk (w.setCell ⟨g, k * 3, none⟩ (.slice (some ⟨p, 0, none⟩) Y.length c)) lo hi g (fun i => if i = k then p else pa i) (fun i => if i = k then c else cp i) (X.set k ⟨Y, (X.getD k zeroBk).erases, (X.getD k zeroBk).bad⟩) := by
  refine ⟨h.at_lo, h.at_hi, ?_, ?_, ?_, ?_, fun i hi' => ?_⟩
  · rw [List.length_set]
    refine (h.row.set _ _).congr fun c' hc => ?_
    by_cases e0 : c' = k * 3
    · rw [if_pos e0, e0, bkF_0, set_getD hk, if_pos rfl, if_pos rfl, if_pos rfl]
    · rw [if_neg e0]
      by_cases e1 : c' = k * 3 + 1
      · rw [e1, bkF_1, bkF_1, set_getD hk, if_pos rfl]
      · by_cases e2 : c' = k * 3 + 2
        · rw [e2, bkF_2, bkF_2, set_getD hk, if_pos rfl]
        · exact bkF_other (by rw [if_neg (by omega)]) (by rw [if_neg (by omega)]) (by rw [set_getD hk, if_neg (by omega)])
  · intro i hi'
    rw [List.length_set] at hi'
    by_cases e : i = k
    · rw [if_pos e]; exact hp
    · rw [if_neg e]; exact h.lo' i hi'
  · intro i j hi' hj hne
    rw [List.length_set] at hi' hj
    by_cases e : i = k
    · rw [if_pos e, if_neg (by omega)]; exact (hpa j hj).symm
    · rw [if_neg e]
      by_cases e' : j = k
      · rw [if_pos e']; exact hpa i hi'
      · rw [if_neg e']; exact h.apart i j hi' hj hne
  · intro i hi'
    rw [List.length_set] at hi'
    rw [set_getD hk]
    have := h.lo' i hi'
    by_cases e : i = k
    · rw [if_pos e, if_pos e]; exact Row.other ho (by dsimp only; omega) _
    · rw [if_neg e, if_neg e]; exact Row.other (h.pages i hi') (by dsimp only; omega) _
  · rw [List.length_set] at hi'
    rw [set_getD hk]
    by_cases e : i = k
    · rw [if_pos e, if_pos e, if_pos e, hc]; exact Room.full _ _ _
    · rw [if_neg e, if_neg e, if_neg e]; exact (h.room i hi').set _ _ _
/-- one page of a block -/
theorem OwBk.setPg {j : Nat} {u : Bool} {d : ByteArray} (h : OwBk w lo hi g pa cp X) (hk : k < X.length) (hj : j < (X.getD k zeroBk).pages.length) :
    OwBk ((w.setCell ⟨pa k, j * 2, none⟩ (.bool u)).setCell ⟨pa k, j * 2 + 1, none⟩ (.string d)) lo hi g pa cp (X.set k ⟨(X.getD k zeroBk).pages.set j ⟨u, d⟩, (X.getD k zeroBk).erases, (X.getD k zeroBk).bad⟩) := by
  have hpk := h.lo' k hk
  refine ⟨h.at_lo, h.at_hi, ?_, by simpa using h.lo', by simpa using h.apart, ?_, fun i hi' => ?_⟩
  · rw [List.length_set]
    refine (Row.other (Row.other h.row (by dsimp only; omega) _) (by dsimp only; omega) _).congr fun c hc => ?_
    by_cases e : c / 3 = k
    · have h3 : c = k * 3 ∨ c = k * 3 + 1 ∨ c = k * 3 + 2 := by omega
      rcases h3 with e | e | e
      · rw [e, bkF_0, bkF_0, set_getD hk, if_pos rfl]; simp
      · rw [e, bkF_1, bkF_1, set_getD hk, if_pos rfl]
      · rw [e, bkF_2, bkF_2, set_getD hk, if_pos rfl]
    · exact bkF_other rfl rfl (by rw [set_getD hk, if_neg e])
  · intro i hi'
    rw [List.length_set] at hi'
    rw [set_getD hk]
    by_cases e : i = k
    · rw [if_pos e]
      subst e
      show Row _ _ (((X.getD i zeroBk).pages.set j ⟨u, d⟩).length * 2) _
      rw [List.length_set]
      refine ((Row.set (h.pages i hi') _ _).set _ _).congr fun c hc => ?_
      by_cases e1 : c = j * 2 + 1
      · rw [if_pos e1, e1, pgF_1, set_getD hj, if_pos rfl]
      · rw [if_neg e1]
        by_cases e0 : c = j * 2
        · rw [if_pos e0, e0, pgF_0, set_getD hj, if_pos rfl]
        · rw [if_neg e0]
          unfold pgF
          rw [set_getD hj, if_neg (show ¬ c / 2 = j by omega)]
    · rw [if_neg e]
      have := h.apart i k hi' hk e
      exact Row.other (Row.other (h.pages i hi') (by dsimp only; omega) _) (by dsimp only; omega) _
  · rw [List.length_set] at hi'
    rw [set_getD hk]
    split
    · rename_i e; subst e; dsimp only; rw [List.length_set]; exact ((h.room i hi').set _ _ _).set _ _ _
    · exact ((h.room i hi').set _ _ _).set _ _ _
end

/-! what the functions answer -/
structure NdAns where
  nd : List Bk
  data : ByteArray
  code : Int
def ill (c : Int) : NdAns := ⟨[], ⟨#[]⟩, c⟩
def RetAns (w : World) (r : NdAns) (e : Ending) (w' : World) : Prop := RetOut w r.nd r.data r.code e w'
open Classical in
noncomputable def markAns (X : List Bk) (bi : Int) : NdAns :=
  if blkCode X bi ≠ 0 then ill (blkCode X bi) else ⟨X.set bi.toNat ⟨(X.getD bi.toNat zeroBk).pages, (X.getD bi.toNat zeroBk).erases, true⟩, ⟨#[]⟩, 0⟩
open Classical in
noncomputable def eraseAns (X : List Bk) (bi : Int) : NdAns :=
  if blkCode X bi ≠ 0 then ill (blkCode X bi) else if (X.getD bi.toNat zeroBk).bad = true then ill 11 else if (X.getD bi.toNat zeroBk).erases = 1000000 then ill 9
  else ⟨X.set bi.toNat ⟨[zeroPg, zeroPg, zeroPg, zeroPg], (X.getD bi.toNat zeroBk).erases + 1, (X.getD bi.toNat zeroBk).bad⟩, ⟨#[]⟩, 0⟩
open Classical in
noncomputable def progAns (X : List Bk) (bi : Int) (d : ByteArray) : NdAns :=
  if 8000 < d.size then ill 2 else if blkCode X bi ≠ 0 then ill (blkCode X bi) else if 60 < d.size then ill 1 else if (X.getD bi.toNat zeroBk).bad = true then ill 11
  else if uPre (X.getD bi.toNat zeroBk).pages = 4 then ill 9
  else ⟨X.set bi.toNat ⟨(X.getD bi.toNat zeroBk).pages.set (uPre (X.getD bi.toNat zeroBk).pages) ⟨true, d⟩, (X.getD bi.toNat zeroBk).erases, (X.getD bi.toNat zeroBk).bad⟩, ⟨#[]⟩, 0⟩
open Classical in
noncomputable def pageAns (X : List Bk) (bi pi : Int) : NdAns :=
  if blkCode X bi ≠ 0 then ill (blkCode X bi) else if pi < 0 ∨ 4 ≤ pi then ill 8 else if ((X.getD bi.toNat zeroBk).pages.getD pi.toNat zeroPg).used = false then ill 10
  else ⟨X, ((X.getD bi.toNat zeroBk).pages.getD pi.toNat zeroPg).data, 0⟩

theorem blkCode_zero {X : List Bk} {bi : Int} (h : blkCode X bi = 0) : NdOk X ∧ ∃ k : Nat, bi = (k : Int) ∧ k < X.length := by
  unfold blkCode at h
  split at h
  · omega
  · rename_i h1
    split at h
    · omega
    · exact ⟨by simpa using h1, bi.toNat, by omega, by omega⟩
end Go.Proofs.YtimlaeicbnnbdaaDoor
