/-
  What the laws of chapter 3 draw.
-/
import Derived.Test.YtdgmpllonnddmaaDrNand
import Derived.Test.YtdgmpllonnddmaaDrBlk
import Derived.Deep.RegionHeld3
namespace Go.Proofs.Ytdgmpllonnddmaa
open Go.RowKit

theorem RdBy.belowB {w w' : World} {B n : Nat} {A : Option Addr} (h : RdBy w B A n) (hb : Below B w w') {B' : Nat} (hB : B ≤ B') : RdBy w' B' A n := fun hn => by
  obtain ⟨g, off, hA, hg, hc⟩ := h.same (fun k hk => hb.block k hk) hn
  exact ⟨g, off, hA, by omega, hc⟩
/-- a draw from a source of the call's own -/
theorem bel_draw {B s : Nat} {w w1 w2 : World} (h : Below B w w1) (hB : B ≤ s) (hs : s < w1.heap.size) (hb : Btw s (s + 1) w1 w2) : Below B w w2 :=
  h.trans ⟨hb.os, hb.tape, hb.output, hb.size, fun i hi => hb.block i (by omega) (Or.inl (by omega))⟩
theorem draw_nandNew (A : Option Addr) (n c : Nat) (w : World) (hn : n ≤ 1048576) (hA : RdBy w w.heap.size A n) :
    Calls Try.prog 13 #[.slice A n c] w (fun e w' => ∃ z : Int, e = .returned (.int .i64 z) ∧ -1 ≤ z ∧ z ≤ 14 ∧ Below w.heap.size w w') := by
  have HA := Lib.hid hA; clear hA
  go_enter Try.func13, Try.ntmps13
  go_wp2_with fail
  refine (draw_source n c A w hn HA.out).mono ?_
  rintro e w1 ⟨s, rfl, hs1, hS1, hb1⟩
  have HS1 := Lib.hid hS1; have HB1 := Lib.hid hb1; clear hS1 hb1
  go_wp2_with fail
  refine (draw_n s 15 w1 (by omega) HS1.out).mono ?_
  rintro e w2 ⟨r, rfl, hr, hS2, hb2⟩
  have hr := hr (by omega)
  have HB2 := Lib.hid (bel_draw HB1.out hs1 HS1.out.lt hb2); clear hS2 hb2
  go_wp2
  go_ret
  exact ⟨_, rfl, by omega, by omega, HB2.out⟩
theorem draw_freeBlocks (A : Option Addr) (n c : Nat) (w : World) (hn : n ≤ 1048576) (hA : RdBy w w.heap.size A n) :
    Calls Try.prog 12 #[.slice A n c] w (fun e w' => ∃ A' c' X, e = .returned (.agg #[.slice A' X.length c']) ∧ (1 ≤ X.length ∧ Small X) ∧ OwNd w' w.heap.size w'.heap.size A' X.length X ∧ Below w.heap.size w w') := by
  have HA := Lib.hid hA; clear hA
  go_enter Try.func12, Try.ntmps12
  go_wp2_with fail
  have HB0 : Hid (Below w.heap.size w (w.alloc (.cells #[.slice none 0 0] 25))) := (Below.refl _ _).alloc (Nat.le_refl _) _
  have HK0 := Lib.hid (isBlk_new w 25 [.slice none 0 0])
  refine (draw_source n c A _ hn (HA.out.belowB HB0.out (by simp))).mono ?_
  rintro e w1 ⟨s, rfl, hs1, hS1, hb1⟩
  simp only [size_alloc] at hs1
  have HS1 := Lib.hid hS1
  have HK1 := Lib.hid (HK0.out.below hb1 (by simp))
  have HB1 := Lib.hid (HB0.out.trans (hb1.mono (by simp))); clear hS1 hb1
  go_wp2_with fail
  refine (draw_nand s w1 HS1.out).mono ?_
  rintro e w2 ⟨A2, c2, X, rfl, hX, ⟨lo, hlo, ho⟩, hS2, hb2⟩
  have hk2 : IsBlk w2 w.heap.size 25 [.slice none 0 0] := (hb2.block _ HK1.out.lt (Or.inl (by omega))).trans HK1.out
  have r0 : w2.cell? ⟨w.heap.size, 0, none⟩ = some _ := hk2.cell rfl
  have fr0 := hk2.free (j := 0)
  have HB2 := Lib.hid (bel_draw HB1.out (by omega) HS1.out.lt hb2)
  have HO := Lib.hid ho
  have hlt1 := HK1.out.lt
  clear ho hS2 hb2 hk2
  go_wp2
  refine bodyPost_ret (v := .agg #[.slice A2 X.length c2]) (by simp [results, Try.results12, go_sem, r0]) rfl ?_
  refine ⟨A2, c2, X, rfl, hX, ?_, HB2.out.setCell (by dsimp only; omega) _⟩
  exact (HO.out.same fun k h1 h2 => Below.heap_setCell _ _ _ _ (by dsimp only; omega)).mono (by omega) (by rw [size_set]; exact Nat.le_refl _)
theorem draw_usedOf (A : Option Addr) (n c : Nat) (w : World) (hn : n ≤ 1048576) (hA : RdBy w w.heap.size A n) :
    Calls Try.prog 11 #[.slice A n c] w (fun e w' => ∃ A' c' X z, e = .returned (.tuple #[.agg #[.slice A' X.length c'], .int .i64 z]) ∧ (1 ≤ X.length ∧ Small X) ∧ OwNd w' w.heap.size w'.heap.size A' X.length X ∧ Below w.heap.size w w') := by
  have HA := Lib.hid hA; clear hA
  go_enter Try.func11, Try.ntmps11
  go_wp2_with fail
  have HB0 : Hid (Below w.heap.size w (w.alloc (.cells #[.slice none 0 0] 25))) := (Below.refl _ _).alloc (Nat.le_refl _) _
  have HK0 := Lib.hid (isBlk_new w 25 [.slice none 0 0])
  refine (draw_source n c A _ hn (HA.out.belowB HB0.out (by simp))).mono ?_
  rintro e w1 ⟨s, rfl, hs1, hS1, hb1⟩
  simp only [size_alloc] at hs1
  have HS1 := Lib.hid hS1
  have HK1 := Lib.hid (HK0.out.below hb1 (by simp))
  have HB1 := Lib.hid (HB0.out.trans (hb1.mono (by simp))); clear hS1 hb1
  go_wp2_with fail
  refine (draw_nand s w1 HS1.out).mono ?_
  rintro e w2 ⟨A2, c2, X, rfl, hX, ⟨lo, hlo, ho⟩, hS2, hb2⟩
  have hk2 : IsBlk w2 w.heap.size 25 [.slice none 0 0] := (hb2.block _ HK1.out.lt (Or.inl (by omega))).trans HK1.out
  have HK2 := Lib.hid hk2; have HS2 := Lib.hid hS2
  have HB2 := Lib.hid (bel_draw HB1.out (by omega) HS1.out.lt hb2)
  have HO := Lib.hid ho
  have hlt1 := HK1.out.lt
  clear ho hS2 hb2 hk2
  go_wp2_with fail
  have HSV : Hid (Src (w2.alloc (.cells #[.slice A2 X.length c2] 25)) s) := HS2.out.same fun k hk => Below.heap_alloc _ _ _ (by have := HS2.out.lt; omega)
  have HKV := Lib.hid (isBlk_new w2 25 [.slice A2 X.length c2])
  have HRV := Lib.hid (HK2.out.alloc (.cells #[.slice A2 X.length c2] 25))
  have HOV : Hid (OwNd (w2.alloc (.cells #[.slice A2 X.length c2] 25)) lo w2.heap.size A2 X.length X) := HO.out.same fun k _ hk => Below.heap_alloc _ _ _ hk
  have HBV := Lib.hid (HB2.out.alloc HB2.out.size (.cells #[.slice A2 X.length c2] 25))
  have hsw : s < w2.heap.size := HS2.out.lt
  have hsw1 : s < w1.heap.size := HS1.out.lt
  have hw12 : w.heap.size < w2.heap.size := HK2.out.lt
  change Code.wp _ _ _ _ (w2.alloc (.cells #[.slice A2 X.length c2] 25))
  generalize w2.alloc (.cells #[.slice A2 X.length c2] 25) = V at HSV HKV HRV HOV HBV ⊢
  generalize w2.heap.size = nb at *
  have hs0 : V.cell? ⟨nb, 0, none⟩ = some (.slice A2 X.length c2) := HKV.out.cell rfl
  clear HB1 HS1 HK1 HK2 HO HB2 HS2 HB0 HK0
  go_region_held3 (fun w' => w'.cell? ⟨nb, 0, none⟩ = some (.slice A2 X.length c2)) (first | exact hs0 | exact hs3 | exact hs4)
    (first
      | (go_at_call 31
         refine (draw_block s A2 c2 X.length V.drew hX.1 hX.2.1 (HSV.out.same fun _ _ => rfl)).mono ?_
         rintro e w3 ⟨z, rfl, hz1, hz2, hS3, hb2⟩
         have hb3 : Btw s (s + 1) V w3 := ⟨hb2.os, hb2.tape, hb2.output, hb2.size, hb2.block⟩
         clear hb2
         have z3 := hb3.size
         have lk := HKV.out.lt
         have hk3 : IsBlk w3 nb 25 [.slice A2 X.length c2] := (hb3.block _ lk (Or.inr (by omega))).trans HKV.out
         have hr3 : IsBlk w3 w.heap.size 25 [.slice none 0 0] := (hb3.block _ HRV.out.lt (Or.inl (by omega))).trans HRV.out
         have hs3 : w3.cell? ⟨nb, 0, none⟩ = some (.slice A2 X.length c2) := hk3.cell rfl
         have r3 : w3.cell? ⟨w.heap.size, 0, none⟩ = some _ := hr3.cell rfl
         have fr3 := hr3.free (j := 0)
         have hs4 : (w3.setCell ⟨w.heap.size, 0, none⟩ (.slice A2 X.length c2)).cell? ⟨nb, 0, none⟩ = some (.slice A2 X.length c2) := (hk3.other (a := ⟨w.heap.size, 0, none⟩) (by dsimp only; omega) _).cell rfl
         have HO3 : Hid (OwNd w3 lo nb A2 X.length X) := HOV.out.btw hb3 (by omega) (Or.inr (by omega))
         have HB3 : Hid (Below w.heap.size w w3) := bel_draw HBV.out (by omega) (by omega) hb3
         clear hS3 hb3 hk3 hr3))
  all_goals
    go_wp2
    refine bodyPost_ret (v := .tuple #[.agg #[.slice A2 X.length c2], .int .i64 z]) (by simp [results, Try.results11, go_sem, r3]) rfl ?_
    refine ⟨A2, c2, X, z, rfl, hX, ?_, HB3.out.setCell (by dsimp only; omega) _⟩
    exact (HO3.out.same fun k h1 h2 => Below.heap_setCell _ _ _ _ (by dsimp only; omega)).mono (by omega) (by rw [size_set]; omega)
end Go.Proofs.Ytdgmpllonnddmaa
