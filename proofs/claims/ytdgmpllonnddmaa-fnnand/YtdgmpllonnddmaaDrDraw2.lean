/-
  What the laws of chapter 3 draw: the rest.
-/
import Derived.Test.YtdgmpllonnddmaaDrDraw
namespace Go.Proofs.Ytdgmpllonnddmaa
open Go.RowKit

theorem draw_erase (A : Option Addr) (n c : Nat) (w : World) (hn : n ≤ 1048576) (hA : RdBy w w.heap.size A n) :
    Calls Try.prog 6 #[.slice A n c] w (fun e w' => ∃ A' c' X z, e = .returned (.tuple #[.agg #[.slice A' X.length c'], .int .i64 z]) ∧ (1 ≤ X.length ∧ Small X) ∧ OwNd w' w.heap.size w'.heap.size A' X.length X ∧ Below w.heap.size w w') := by
  have HA := Lib.hid hA; clear hA
  go_enter Try.func6, Try.ntmps6
  go_wp2_with fail
  have HB0 : Hid (Below w.heap.size w (w.alloc (.cells #[.slice none 0 0] 25))) := (Below.refl _ _).alloc (Nat.le_refl _) _
  have HK0 := Lib.hid (isBlk_new w 25 [.slice none 0 0])
  refine (draw_usedOf A n c _ hn (HA.out.belowB HB0.out (by simp))).mono ?_
  rintro e w1 ⟨A1, c1, X, z, rfl, hX, hrd, hb1⟩
  have hk1 := HK0.out.below hb1 (by simp)
  have r1 : w1.cell? ⟨w.heap.size, 0, none⟩ = some _ := hk1.cell rfl
  have fr1 := hk1.free (j := 0)
  have HB1 := Lib.hid (HB0.out.trans (hb1.mono (by simp)))
  simp only [size_alloc] at hrd
  have HRD := Lib.hid hrd
  clear hb1 hk1 hrd
  go_wp2
  refine bodyPost_ret (v := .tuple #[.agg #[.slice A1 X.length c1], .int .i64 z]) (by simp [results, Try.results6, go_sem, r1]) rfl ?_
  refine ⟨A1, c1, X, z, rfl, hX, ?_, HB1.out.setCell (Nat.le_refl _) _⟩
  rw [size_set]
  exact (HRD.out.same fun k h1 h2 => Below.heap_setCell _ _ _ _ (by dsimp only; omega)).mono (by omega) (Nat.le_refl _)
theorem draw_markBad (A : Option Addr) (n c : Nat) (w : World) (hn : n ≤ 1048576) (hA : RdBy w w.heap.size A n) :
    Calls Try.prog 8 #[.slice A n c] w (fun e w' => ∃ A' c' X z, e = .returned (.tuple #[.agg #[.slice A' X.length c'], .int .i64 z]) ∧ (1 ≤ X.length ∧ Small X) ∧ OwNd w' w.heap.size w'.heap.size A' X.length X ∧ Below w.heap.size w w') := by
  have HA := Lib.hid hA; clear hA
  go_enter Try.func8, Try.ntmps8
  go_wp2_with fail
  have HB0 : Hid (Below w.heap.size w (w.alloc (.cells #[.slice none 0 0] 25))) := (Below.refl _ _).alloc (Nat.le_refl _) _
  have HK0 := Lib.hid (isBlk_new w 25 [.slice none 0 0])
  refine (draw_usedOf A n c _ hn (HA.out.belowB HB0.out (by simp))).mono ?_
  rintro e w1 ⟨A1, c1, X, z, rfl, hX, hrd, hb1⟩
  have hk1 := HK0.out.below hb1 (by simp)
  have r1 : w1.cell? ⟨w.heap.size, 0, none⟩ = some _ := hk1.cell rfl
  have fr1 := hk1.free (j := 0)
  have HB1 := Lib.hid (HB0.out.trans (hb1.mono (by simp)))
  simp only [size_alloc] at hrd
  have HRD := Lib.hid hrd
  clear hb1 hk1 hrd
  go_wp2
  refine bodyPost_ret (v := .tuple #[.agg #[.slice A1 X.length c1], .int .i64 z]) (by simp [results, Try.results8, go_sem, r1]) rfl ?_
  refine ⟨A1, c1, X, z, rfl, hX, ?_, HB1.out.setCell (Nat.le_refl _) _⟩
  rw [size_set]
  exact (HRD.out.same fun k h1 h2 => Below.heap_setCell _ _ _ _ (by dsimp only; omega)).mono (by omega) (Nat.le_refl _)
end Go.Proofs.Ytdgmpllonnddmaa
