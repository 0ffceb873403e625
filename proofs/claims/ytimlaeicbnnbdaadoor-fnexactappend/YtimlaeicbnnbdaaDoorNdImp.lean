/-
  MarkBad, Erase and Program, of the program.
-/
import Derived.Test.YtimlaeicbnnbdaaDoorChecked
import Derived.Test.YtimlaeicbnnbdaaDoorNdUpd
import Derived.Deep.RegionHeld3
namespace Go.Proofs.YtimlaeicbnnbdaaDoor
open Go.RowKit

theorem ow_at {w : World} {lo hi n k : Nat} {A : Option Addr} {X : List Bk} (h : OwNd w lo hi A n X) (hk : k < n) : ∃ g pa cp, A = some ⟨g, 0, none⟩ ∧ OwBk w lo hi g pa cp X := h.2 (by omega)
theorem ow_of {w : World} {lo hi g : Nat} {pa cp : Nat → Nat} {X : List Bk} (h : OwBk w lo hi g pa cp X) : OwNd w lo hi (some ⟨g, 0, none⟩) X.length X := ⟨rfl, fun _ => ⟨g, pa, cp, rfl, h⟩⟩
theorem OwBk.below {w w' : World} {lo hi g B : Nat} {pa cp : Nat → Nat} {X : List Bk} (h : OwBk w lo hi g pa cp X) (hb : Below B w w') (hB : hi ≤ B) : OwBk w' lo hi g pa cp X := h.same fun k _ hk => hb.block k (by omega)
theorem OwBk.mono {w : World} {lo hi lo' hi' g : Nat} {pa cp : Nat → Nat} {X : List Bk} (ho : OwBk w lo hi g pa cp X) (hl : lo' ≤ lo) (hh : hi ≤ hi') : OwBk w lo' hi' g pa cp X :=
  ⟨by have := ho.at_lo; omega, by have := ho.at_hi; omega, ho.row, fun i hi => by have := ho.lo' i hi; exact ⟨by omega, by omega, this.2.2⟩, ho.apart, ho.pages, ho.room⟩
theorem OwBk.cells {w : World} {lo hi g k : Nat} {pa cp : Nat → Nat} {X : List Bk} (h : OwBk w lo hi g pa cp X) (hk : k < X.length) :
    (w.cell? ⟨g, k * 3, none⟩ = some (.slice (some ⟨pa k, 0, none⟩) (X.getD k zeroBk).pages.length (cp k)) ∧ w.cell? ⟨g, k * 3 + 1, none⟩ = some (.int .i64 (X.getD k zeroBk).erases) ∧ w.cell? ⟨g, k * 3 + 2, none⟩ = some (.bool (X.getD k zeroBk).bad)) ∧
      (w.frozen? ⟨g, k * 3, none⟩ = false ∧ w.frozen? ⟨g, k * 3 + 1, none⟩ = false ∧ w.frozen? ⟨g, k * 3 + 2, none⟩ = false) ∧ g < w.heap.size := by
  refine ⟨⟨?_, ?_, ?_⟩, ⟨h.row.free _, h.row.free _, h.row.free _⟩, h.row.lt⟩
  · rw [h.row.cell (by omega), bkF_0]
  · rw [h.row.cell (by omega), bkF_1]
  · rw [h.row.cell (by omega), bkF_2]
/-- a store elsewhere -/
theorem OwBk.other {w : World} {lo hi g : Nat} {pa cp : Nat → Nat} {X : List Bk} (h : OwBk w lo hi g pa cp X) {a : Addr} (ha : a.block < lo ∨ hi ≤ a.block) (u : Value) : OwBk (w.setCell a u) lo hi g pa cp X :=
  h.same fun k h1 h2 => Below.heap_setCell _ _ _ _ (by omega)

theorem OwBk.alloc {w : World} {lo hi g : Nat} {pa cp : Nat → Nat} {X : List Bk} (h : OwBk w lo hi g pa cp X) (hh : hi ≤ w.heap.size) (o : Obj) : OwBk (w.alloc o) lo hi g pa cp X := h.below (box_below _ _) hh
theorem size_set (w : World) (a : Addr) (u : Value) : (w.setCell a u).heap.size = w.heap.size := by simp [World.setCell]

end Go.Proofs.YtimlaeicbnnbdaaDoor
