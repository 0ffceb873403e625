/-
  firstRecs, the part without memory: which records are taken while their Seqs are struck off the map.
-/
import Derived.Test.YtkiklcdkliebaaaGreatDoorChecked
import Derived.Test.YtkiklcdkliebaaaGreatDoorLgPlaces
import Derived.Test.YtkiklcdkliebaaaGreatDoorLgMountP
namespace Go.Proofs.YtkiklcdkliebaaaGreatDoor
open Go.RowKit
open Bt (Rc)

def fltStep (g : Int → Bool) (l : List Rc) (x : Int × Rc) : List Rc := if g x.2.q = true ∧ ∀ a ∈ l, a.q ≠ x.2.q then l ++ [x.2] else l
/-- the first record of each Seq that g lets by -/
def flt (g : Int → Bool) (R : List (Int × Rc)) : List Rc := R.foldl (fltStep g) []
theorem flt_snoc (g : Int → Bool) (R : List (Int × Rc)) (x : Int × Rc) : flt g (R ++ [x]) = fltStep g (flt g R) x := by simp [flt]
theorem flt_fsts (g : Int → Bool) (R : List (Int × Rc)) (h : ∀ x ∈ R, g x.2.q = true) : flt g R = fsts R := by
  induction R using snoc_ind with
  | h0 => rfl
  | h1 R x ih =>
    rw [flt_snoc, fsts_snoc, ih (fun y hy => h y (List.mem_append_left _ hy))]
    unfold fltStep fstStep
    have hx := h x (by simp)
    simp [hx]
theorem flt_len (g : Int → Bool) (R : List (Int × Rc)) : (flt g R).length ≤ R.length := by
  induction R using snoc_ind with
  | h0 => simp [flt]
  | h1 R x ih => rw [flt_snoc, List.length_append]; unfold fltStep; split <;> simp <;> omega
/-- the map still holds the Seqs that g lets by and that are not taken -/
def Left (D : DataW Unit) (g : Int → Bool) (l : List Rc) : Prop := ∀ q, Maps.has D (.int .i64 q) = true ↔ (g q = true ∧ ∀ a ∈ l, a.q ≠ q)
theorem left_start (D : DataW Unit) : Left D (fun q => Maps.has D (.int .i64 q)) [] := fun q => by simp
theorem Left.yes {D : DataW Unit} {g : Int → Bool} {l : List Rc} (h : Left D g l) {x : Int × Rc} (hx : Maps.has D (.int .i64 x.2.q) = true) : fltStep g l x = l ++ [x.2] ∧ Left (D.del (.int .i64 x.2.q)) g (l ++ [x.2]) := by
  refine ⟨by unfold fltStep; rw [if_pos ((h x.2.q).1 hx)], fun q => ?_⟩
  by_cases e : q = x.2.q
  · subst e
    rw [Maps.has_del_same]
    constructor
    · intro h1; cases h1
    · intro h1; exact absurd rfl (h1.2 x.2 (by simp))
  · rw [Maps.has_del_other (by simpa using e), h q]
    constructor
    · rintro ⟨h1, h2⟩
      refine ⟨h1, fun a ha => ?_⟩
      rcases List.mem_append.1 ha with ha | ha
      · exact h2 a ha
      · rw [List.mem_singleton] at ha; subst ha; exact fun e' => e e'.symm
    · rintro ⟨h1, h2⟩
      exact ⟨h1, fun a ha => h2 a (List.mem_append_left _ ha)⟩
theorem Left.no {D : DataW Unit} {g : Int → Bool} {l : List Rc} (h : Left D g l) {x : Int × Rc} (hx : Maps.has D (.int .i64 x.2.q) = false) : fltStep g l x = l := by
  unfold fltStep
  rw [if_neg (fun h' => by rw [(h x.2.q).2 h'] at hx; cases hx)]
theorem tells_has {D : DataW Unit} {R : List (Int × Rc)} (h : Tells D R) {x : Int × Rc} (hx : x ∈ R) : Maps.has D (.int .i64 x.2.q) = true := by
  cases hh : Maps.has D (.int .i64 x.2.q) with
  | true => rfl
  | false =>
    have h1 := (Maps.atKey_of_not_has hh .nil).symm.trans (h.2 x.2.q)
    have h2 : x.1 ∈ plc R x.2.q := by
      unfold plc
      rw [List.mem_map]
      exact ⟨x, List.mem_filter.2 ⟨hx, by simp⟩, rfl⟩
    cases hp : plc R x.2.q with
    | nil => rw [hp] at h2; cases h2
    | cons a l => rw [hp] at h1; cases h1
/-- the map of rows, as a map alone: its reader is fixed at the world in which it was made -/
theorem map_of_groups {w : World} {P : Program} {k e : TypeId} {base b n : Nat} {D : DataW Unit} (h : w.ownsGroups P k base e .i64 b n D) : w.ownsMap P k (rowElem w base e .i64) b n D := by
  obtain ⟨es, clock, h1, h2, h3, h4, -⟩ := h
  exact ⟨es, clock, h1, h2, h3, h4⟩
end Go.Proofs.YtkiklcdkliebaaaGreatDoor
