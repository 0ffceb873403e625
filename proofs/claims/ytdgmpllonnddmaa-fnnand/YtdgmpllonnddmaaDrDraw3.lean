/-
  What the laws of chapter 3 draw: the rest.
-/
import Derived.Test.YtdgmpllonnddmaaDrDraw
import Derived.Deep.RegionHeld3
import Derived.IntWalk
namespace Go.Proofs.Ytdgmpllonnddmaa
open Go.RowKit

/-- after a chip is drawn: its box nb, the result's box, its memory, the source -/
structure DSt (w wr : World) (s nb : Nat) (A : Option Addr) (c : Nat) (X : List Bk) : Prop where
  src : Src wr s
  kb : IsBlk wr nb 25 [.slice A X.length c]
  kr : IsBlk wr w.heap.size 25 [.slice none 0 0]
  hs : w.heap.size < s
  hsn : s < nb
  own : ∃ lo hi, s < lo ∧ hi ≤ nb ∧ OwNd wr lo hi A X.length X
  bel : Below w.heap.size w wr
section
variable {w wr w' : World} {s nb c : Nat} {A : Option Addr} {X : List Bk}
theorem DSt.drawn (h : DSt w wr s nb A c X) (h1 : Src w' s) (h2 : Btw s (s + 1) wr w') : DSt w w' s nb A c X := by
  obtain ⟨lo, hi, k1, k2, k3⟩ := h.own
  have z1 := h.hs; have z2 := h.hsn; have z3 := h.kb.lt
  exact ⟨h1, (h2.block _ h.kb.lt (Or.inr (by omega))).trans h.kb, (h2.block _ h.kr.lt (Or.inl (by omega))).trans h.kr, h.hs, h.hsn, ⟨lo, hi, k1, k2, k3.btw h2 (by omega) (Or.inr (by omega))⟩, bel_draw h.bel (by omega) h.src.lt h2⟩
theorem DSt.same (h : DSt w wr s nb A c X) (h2 : Below wr.heap.size wr w') : DSt w w' s nb A c X := by
  obtain ⟨lo, hi, k1, k2, k3⟩ := h.own
  have z3 := h.kb.lt
  exact ⟨h.src.below h2 h.src.lt, h.kb.below h2 h.kb.lt, h.kr.below h2 h.kr.lt, h.hs, h.hsn, ⟨lo, hi, k1, k2, k3.below h2 (by omega)⟩, h.bel.trans (h2.mono h.bel.size)⟩
theorem DSt.cell (h : DSt w wr s nb A c X) : wr.cell? ⟨nb, 0, none⟩ = some (.slice A X.length c) := h.kb.cell rfl
theorem DSt.fin (h : DSt w wr s nb A c X) (u : Value) : OwNd (wr.setCell ⟨w.heap.size, 0, none⟩ u) w.heap.size (wr.setCell ⟨w.heap.size, 0, none⟩ u).heap.size A X.length X ∧ Below w.heap.size w (wr.setCell ⟨w.heap.size, 0, none⟩ u) := by
  obtain ⟨lo, hi, k1, k2, k3⟩ := h.own
  have z1 := h.hs; have z3 := h.kb.lt
  refine ⟨?_, h.bel.setCell (Nat.le_refl _) _⟩
  rw [size_set]
  exact (k3.same fun k h1 h2 => Below.heap_setCell _ _ _ _ (by dsimp only; omega)).mono (by omega) (by omega)
theorem DSt.cell4 (h : DSt w wr s nb A c X) (u : Value) : (wr.setCell ⟨w.heap.size, 0, none⟩ u).cell? ⟨nb, 0, none⟩ = some (.slice A X.length c) := by
  have z1 := h.hs; have z2 := h.hsn
  exact (h.kb.other (a := ⟨w.heap.size, 0, none⟩) (by dsimp only; omega) _).cell rfl
end
theorem dst_first {w w2 : World} {s lo c : Nat} {A : Option Addr} {X : List Bk} (h1 : Src w2 s) (h2 : IsBlk w2 w.heap.size 25 [.slice none 0 0]) (h3 : w.heap.size < s) (h4 : s < lo) (ho : OwNd w2 lo w2.heap.size A X.length X) (hb : Below w.heap.size w w2) :
    DSt w (w2.alloc (.cells #[.slice A X.length c] 25)) s w2.heap.size A c X :=
  ⟨h1.same fun k hk => Below.heap_alloc _ _ _ (by have := h1.lt; omega), isBlk_new w2 _ [_], h2.alloc _, h3, h1.lt, ⟨lo, w2.heap.size, h4, Nat.le_refl _, ho.same fun k _ hk => Below.heap_alloc _ _ _ hk⟩, hb.alloc hb.size _⟩
theorem draw_pageAt (A : Option Addr) (n c : Nat) (w : World) (hn : n ≤ 1048576) (hA : RdBy w w.heap.size A n) :
    Calls Try.prog 10 #[.slice A n c] w (fun e w' => ∃ A' c' X z y, e = .returned (.tuple #[.agg #[.slice A' X.length c'], .int .i64 z, .int .i64 y]) ∧ (1 ≤ X.length ∧ Small X) ∧ OwNd w' w.heap.size w'.heap.size A' X.length X ∧ Below w.heap.size w w') := by
  have HA := Lib.hid hA; clear hA
  go_enter Try.func10, Try.ntmps10
  go_wp2_with fail
  have HB0 : Hid (Below w.heap.size w (w.alloc (.cells #[.slice none 0 0] 25))) := (Below.refl _ _).alloc (Nat.le_refl _) _
  have HK0 := Lib.hid (isBlk_new w 25 [.slice none 0 0])
  refine (draw_source n c A _ hn (HA.out.belowB HB0.out (by simp))).mono ?_
  rintro e w1 ⟨s, rfl, hs1, hS1, hb1⟩
  simp only [size_alloc] at hs1
  have HS1 := Lib.hid hS1
  have HK1 := Lib.hid (HK0.out.below hb1 (by simp))
  have HB1 := Lib.hid (HB0.out.trans (hb1.mono (by simp))); clear hS1 hb1
  go_wp2_with fail
  refine (draw_nand s w1 HS1.out).mono ?_
  rintro e w2 ⟨A2, c2, X, rfl, hX, ⟨lo, hlo, ho⟩, hS2, hb2⟩
  have hk2 : IsBlk w2 w.heap.size 25 [.slice none 0 0] := (hb2.block _ HK1.out.lt (Or.inl (by omega))).trans HK1.out
  have HK2 := Lib.hid hk2; have HS2 := Lib.hid hS2
  have HB2 := Lib.hid (bel_draw HB1.out (by omega) HS1.out.lt hb2)
  have HO := Lib.hid ho
  have hlt1 := HK1.out.lt
  clear ho hS2 hb2 hk2
  go_wp2_with fail
  have D0 := Lib.hid (dst_first (c := c2) HS2.out HK2.out (by omega) (by have := HS1.out.lt; omega) HO.out HB2.out)
  clear HB1 HS1 HK1 HK2 HO HB2 HS2 HB0 HK0
  refine (draw_block s A2 c2 X.length _ hX.1 hX.2.1 D0.out.src).mono ?_
  rintro e w3 ⟨z, rfl, hz1, hz2, hS3, hb3⟩
  have D3 := Lib.hid (D0.out.drawn hS3 hb3)
  clear hS3 hb3 D0
  generalize w2.heap.size = nb at *
  have hs0 := D3.out.cell
  go_wp2_with fail
  go_region_held3 (fun w' => w'.cell? ⟨nb, 0, none⟩ = some (.slice A2 X.length c2)) (first | exact hs0 | exact hs4 | exact hs5)
    (first
      | (go_at_call 33
         refine (draw_n s 6 w3.drew (by omega) (D3.out.src.same fun _ _ => rfl)).mono ?_
         rintro e w4 ⟨q, rfl, hq, hS4, hb2⟩
         have hq := hq (by omega)
         have D4 := Lib.hid (D3.out.drawn hS4 ⟨hb2.os, hb2.tape, hb2.output, hb2.size, hb2.block⟩)
         have hs4 := D4.out.cell
         have hs5 := D4.out.cell4 (.slice A2 X.length c2)
         have r4 : w4.cell? ⟨w.heap.size, 0, none⟩ = some _ := D4.out.kr.cell rfl
         have fr4 := D4.out.kr.free (j := 0)
         have hwr : IntKind.i64.wrap ((q : Int) - 1) = (q : Int) - 1 := IntWalk.i64_in _ (by omega)
         clear hS4 hb2))
  all_goals
    go_wp2
    refine bodyPost_ret (v := .tuple #[.agg #[.slice A2 X.length c2], .int .i64 z, .int .i64 ((q : Int) - 1)]) (by simp [results, Try.results10, go_sem, r4]) rfl ?_
    exact ⟨A2, c2, X, z, (q : Int) - 1, rfl, hX, (D4.out.fin _).1, (D4.out.fin _).2⟩
theorem draw_program (A : Option Addr) (n c : Nat) (w : World) (hn : n ≤ 1048576) (hA : RdBy w w.heap.size A n) :
    Calls Try.prog 4 #[.slice A n c] w (fun e w' => ∃ A' c' X z t, e = .returned (.tuple #[.agg #[.slice A' X.length c'], .int .i64 z, .string t]) ∧ t.size ≤ 61 ∧ (1 ≤ X.length ∧ Small X) ∧ OwNd w' w.heap.size w'.heap.size A' X.length X ∧ Below w.heap.size w w') := by
  have HA := Lib.hid hA; clear hA
  go_enter Try.func4, Try.ntmps4
  go_wp2_with fail
  have HB0 : Hid (Below w.heap.size w (w.alloc (.cells #[.slice none 0 0] 25))) := (Below.refl _ _).alloc (Nat.le_refl _) _
  have HK0 := Lib.hid (isBlk_new w 25 [.slice none 0 0])
  refine (draw_source n c A _ hn (HA.out.belowB HB0.out (by simp))).mono ?_
  rintro e w1 ⟨s, rfl, hs1, hS1, hb1⟩
  simp only [size_alloc] at hs1
  have HS1 := Lib.hid hS1
  have HK1 := Lib.hid (HK0.out.below hb1 (by simp))
  have HB1 := Lib.hid (HB0.out.trans (hb1.mono (by simp))); clear hS1 hb1
  go_wp2_with fail
  refine (draw_nand s w1 HS1.out).mono ?_
  rintro e w2 ⟨A2, c2, X, rfl, hX, ⟨lo, hlo, ho⟩, hS2, hb2⟩
  have hk2 : IsBlk w2 w.heap.size 25 [.slice none 0 0] := (hb2.block _ HK1.out.lt (Or.inl (by omega))).trans HK1.out
  have HK2 := Lib.hid hk2; have HS2 := Lib.hid hS2
  have HB2 := Lib.hid (bel_draw HB1.out (by omega) HS1.out.lt hb2)
  have HO := Lib.hid ho
  have hlt1 := HK1.out.lt
  clear ho hS2 hb2 hk2
  go_wp2_with fail
  have D0 := Lib.hid (dst_first (c := c2) HS2.out HK2.out (by omega) (by have := HS1.out.lt; omega) HO.out HB2.out)
  clear HB1 HS1 HK1 HK2 HO HB2 HS2 HB0 HK0
  refine (draw_block s A2 c2 X.length _ hX.1 hX.2.1 D0.out.src).mono ?_
  rintro e w3 ⟨z, rfl, hz1, hz2, hS3, hb3⟩
  have D3 := Lib.hid (D0.out.drawn hS3 hb3)
  clear hS3 hb3 D0
  generalize w2.heap.size = nb at *
  have hs0 := D3.out.cell
  go_wp2_with fail
  refine (draw_one s 12 w3 (by omega) D3.out.src).mono ?_
  rintro e w4 ⟨bb, rfl, hS4, hb4⟩
  have D4 := Lib.hid (D3.out.drawn hS4 hb4)
  clear hS4 hb4 hs0 D3
  have hs0 := D4.out.cell
  cases bb
  · go_wp2_with fail
    go_region_held3 (fun w' => w'.cell? ⟨nb, 0, none⟩ = some (.slice A2 X.length c2)) (first | exact hs0 | exact hs5 | exact hs6 | exact hs7)
      (first
        | (go_at_call 33
           refine (draw_n s 5 w4.drew (by omega) (D4.out.src.same fun _ _ => rfl)).mono ?_
           rintro e w5 ⟨q, rfl, hq, hS5, hb2⟩
           have hq := hq (by omega)
           have D5 := Lib.hid (D4.out.drawn hS5 ⟨hb2.os, hb2.tape, hb2.output, hb2.size, hb2.block⟩)
           have hs5 := D5.out.cell
           clear hS5 hb2)
        | (go_at_call 34
           refine (draw_bytes s q w5 (by omega) D5.out.src).mono ?_
           rintro e w6 ⟨t, rfl, ht, hS6, hb2⟩
           have D6 := Lib.hid (D5.out.drawn hS6 hb2)
           have hs6 := D6.out.cell
           have hs7 := D6.out.cell4 (.slice A2 X.length c2)
           have r6 : w6.cell? ⟨w.heap.size, 0, none⟩ = some _ := D6.out.kr.cell rfl
           have fr6 := D6.out.kr.free (j := 0)
           clear hS6 hb2))
    all_goals
      go_wp2
      refine bodyPost_ret (v := .tuple #[.agg #[.slice A2 X.length c2], .int .i64 z, .string t]) (by simp [results, Try.results4, go_sem, r6]) rfl ?_
      exact ⟨A2, c2, X, z, t, rfl, by omega, hX, (D6.out.fin _).1, (D6.out.fin _).2⟩
  · go_wp2_with fail
    go_region_law (
      (go_simp
       go_at_call 33
       refine (draw_n s 3 w4.drew (by omega) (D4.out.src.same fun _ _ => rfl)).mono ?_
       rintro e w5 ⟨q, rfl, hq, hS5, hb2⟩
       have hq := hq (by omega)
       have D5 := Lib.hid (D4.out.drawn hS5 ⟨hb2.os, hb2.tape, hb2.output, hb2.size, hb2.block⟩)
       have hs5 := D5.out.cell
       have r5 : w5.cell? ⟨w.heap.size, 0, none⟩ = some _ := D5.out.kr.cell rfl
       have fr5 := D5.out.kr.free (j := 0)
       have l1n : nb < w5.heap.size := D5.out.kb.lt
       have l4n : w.heap.size < w5.heap.size := D5.out.kr.lt
       have hmk := make_zeros (59 + q) (59 + (q : Int)) (by omega) (by omega)
       have hcv := conv_zeros (59 + q)
       have hcv2 := conv_zeros (59 + q) (w5.setCell ⟨w.heap.size, 0, none⟩ (.slice A2 X.length c2))
       rw [size_set] at hcv2
       have hwr : IntKind.i64.wrap (59 + (q : Int)) = 59 + (q : Int) := IntWalk.i64_in _ (by omega)
       clear hS5 hb2))
    all_goals
      go_wp2
      have hres : ((w5.setCell ⟨w.heap.size, 0, none⟩ (.slice A2 X.length c2)).alloc (.cells (madeCells #[.int .u8 0] (59 + q)) 5)).cell? ⟨w.heap.size, 0, none⟩ = some (.slice A2 X.length c2) := ((D5.out.kr.set (j := 0) _).alloc _).cell rfl
      refine bodyPost_ret (v := .tuple #[.agg #[.slice A2 X.length c2], .int .i64 z, .string (zerosT (59 + q))]) (by simp [results, Try.results4, go_sem, hres]) rfl ?_
      exact ⟨A2, c2, X, z, zerosT (59 + q), rfl, by rw [zerosT_size]; omega, hX, ((D5.out.fin _).1.same fun k _ hk => Below.heap_alloc _ _ _ hk).mono (Nat.le_refl _) (by simp), (D5.out.fin _).2.alloc (D5.out.fin _).2.size _⟩
end Go.Proofs.Ytdgmpllonnddmaa
