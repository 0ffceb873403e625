/-
  MarkBad, Erase and Program, of the program.
-/
import Derived.Test.YtdgmpllonnddmaaChecked
import Derived.Test.YtdgmpllonnddmaaNdUpd
import Derived.Deep.RegionHeld3
namespace Go.Proofs.Ytdgmpllonnddmaa
open Go.RowKit

theorem ow_at {w : World} {lo hi n k : Nat} {A : Option Addr} {X : List Bk} (h : OwNd w lo hi A n X) (hk : k < n) : ∃ g pa cp, A = some ⟨g, 0, none⟩ ∧ OwBk w lo hi g pa cp X := h.2 (by omega)
theorem ow_of {w : World} {lo hi g : Nat} {pa cp : Nat → Nat} {X : List Bk} (h : OwBk w lo hi g pa cp X) : OwNd w lo hi (some ⟨g, 0, none⟩) X.length X := ⟨rfl, fun _ => ⟨g, pa, cp, rfl, h⟩⟩
theorem OwBk.below {w w' : World} {lo hi g B : Nat} {pa cp : Nat → Nat} {X : List Bk} (h : OwBk w lo hi g pa cp X) (hb : Below B w w') (hB : hi ≤ B) : OwBk w' lo hi g pa cp X := h.same fun k _ hk => hb.block k (by omega)
theorem OwBk.mono {w : World} {lo hi lo' hi' g : Nat} {pa cp : Nat → Nat} {X : List Bk} (ho : OwBk w lo hi g pa cp X) (hl : lo' ≤ lo) (hh : hi ≤ hi') : OwBk w lo' hi' g pa cp X :=
  ⟨by have := ho.at_lo; omega, by have := ho.at_hi; omega, ho.row, fun i hi => by have := ho.lo' i hi; exact ⟨by omega, by omega, this.2.2⟩, ho.apart, ho.pages, ho.room⟩
theorem OwBk.cells {w : World} {lo hi g k : Nat} {pa cp : Nat → Nat} {X : List Bk} (h : OwBk w lo hi g pa cp X) (hk : k < X.length) :
    (w.cell? ⟨g, k * 3, none⟩ = some (.slice (some ⟨pa k, 0, none⟩) (X.getD k zeroBk).pages.length (cp k)) ∧ w.cell? ⟨g, k * 3 + 1, none⟩ = some (.int .i64 (X.getD k zeroBk).erases) ∧ w.cell? ⟨g, k * 3 + 2, none⟩ = some (.bool (X.getD k zeroBk).bad)) ∧
      (w.frozen? ⟨g, k * 3, none⟩ = false ∧ w.frozen? ⟨g, k * 3 + 1, none⟩ = false ∧ w.frozen? ⟨g, k * 3 + 2, none⟩ = false) ∧ g < w.heap.size := by
  refine ⟨⟨?_, ?_, ?_⟩, ⟨h.row.free _, h.row.free _, h.row.free _⟩, h.row.lt⟩
  · rw [h.row.cell (by omega), bkF_0]
  · rw [h.row.cell (by omega), bkF_1]
  · rw [h.row.cell (by omega), bkF_2]
/-- a store elsewhere -/
theorem OwBk.other {w : World} {lo hi g : Nat} {pa cp : Nat → Nat} {X : List Bk} (h : OwBk w lo hi g pa cp X) {a : Addr} (ha : a.block < lo ∨ hi ≤ a.block) (u : Value) : OwBk (w.setCell a u) lo hi g pa cp X :=
  h.same fun k h1 h2 => Below.heap_setCell _ _ _ _ (by omega)

theorem OwBk.alloc {w : World} {lo hi g : Nat} {pa cp : Nat → Nat} {X : List Bk} (h : OwBk w lo hi g pa cp X) (hh : hi ≤ w.heap.size) (o : Obj) : OwBk (w.alloc o) lo hi g pa cp X := h.below (box_below _ _) hh
theorem size_set (w : World) (a : Addr) (u : Value) : (w.setCell a u).heap.size = w.heap.size := by simp [World.setCell]

set_option maxHeartbeats 2000000 in
theorem impl_markBad (A : Option Addr) (n ca : Nat) (X : List Bk) (bi : Int) (w : World) (hX : Small X) (hA : RdBk w w.heap.size A n X) :
    Calls Try.prog 9 #[.agg #[.slice A n ca], .int .i64 bi] w (RetAns w (markAns X bi)) := by
  have HL := Lib.hid hA.1
  have HA := Lib.hid hA; have HX := Lib.hid hX; clear hA hX
  go_enter Try.func9, Try.ntmps9
  go_wp2_with fail
  refine (impl_blockCode A n ca X bi _ HX.out ((HA.out.below (((Below.refl _ _).alloc (Nat.le_refl _) _).alloc (by simp) _)).mono (by simp; omega))).mono ?_
  rintro e w2 ⟨rfl, hb2⟩
  have k0 := ((isBlk_new w 25 [.slice A n ca]).alloc _).below hb2 (by simp; omega)
  have k1 := (isBlk_new (w.alloc _) 29 [.slice none 0 0, .string ⟨#[]⟩, .int .i64 0]).below hb2 (by simp)
  simp only [size_alloc] at k1
  have HB2 := Lib.hid ((((Below.refl w.heap.size w).alloc (Nat.le_refl _) _).alloc (by simp) _).trans (hb2.mono (by simp; omega)))
  have HK0 := Lib.hid k0; have HK1 := Lib.hid k1
  have hx2 : w2.cell? ⟨w.heap.size, 0, none⟩ = some (.slice A n ca) := k0.cell rfl
  obtain ⟨d0, d1, d2, fd0, fd1, fd2⟩ := blk3 k1
  clear hb2 k0 k1
  by_cases hc : blkCode X bi = 0
  · rw [hc]
    obtain ⟨hok, k, rfl, hkl⟩ := blkCode_zero hc
    have HANS : Hid (markAns X (k : Int) = ⟨X.set k ⟨(X.getD k zeroBk).pages, (X.getD k zeroBk).erases, true⟩, ⟨#[]⟩, 0⟩) := by
      show markAns X (k : Int) = _; unfold markAns; rw [if_neg (by simp [hc])]; rfl
    have HOK := Lib.hid hok
    have hkn : k < n := by have := HL.out; omega
    have hn12 : n ≤ 12 := by have := hok.1; have := HL.out; omega
    clear hok hc
    go_wp2_with fail
    refine (impl_copyNand A n ca X w2 HX.out HOK.out (rd_step HA.out HB2.out)).mono ?_
    rintro e w3 ⟨A3, c3, rfl, ho3, hb3⟩
    obtain ⟨g, pa, cp, rfl, how⟩ := ow_at ho3 hkl
    have HB3 := Lib.hid (bel_step HB2.out hb3)
    have HK13 := Lib.hid (HK1.out.below hb3 HK1.out.lt)
    have hlt1 := HK1.out.lt
    have h23 := hb3.size
    rw [HL.out]
    clear hb3 ho3 hx2 d0 d1 d2 fd0 fd1 fd2
    obtain ⟨d0, d1, d2, fd0, fd1, fd2⟩ := blk3 HK13.out
    obtain ⟨⟨-, -, e2⟩, ⟨-, -, fe2⟩, hgl⟩ := how.cells hkl
    have hlo := how.at_lo
    have HOW := Lib.hid how
    clear how
    have ne1 : ¬ g = w.heap.size + 1 := by omega
    have ne2 : ¬ w.heap.size + 1 = g := by omega
    have ne3 : ¬ g = w3.heap.size := by omega
    have ne4 : ¬ w3.heap.size = g := by omega
    have lt5 : w.heap.size + 1 < w3.heap.size := by omega
    go_wp2
    refine bodyPost_ret (v := .agg #[.slice (some ⟨g, 0, none⟩) n c3, .string ⟨#[]⟩, .int .i64 0]) (by simp [results, Try.results9, go_sem, d0, d1, d2, lt5]) rfl ?_
    rw [HANS.out]
    refine ⟨some ⟨g, 0, none⟩, c3, by simp [HL.out], ?_, ?_⟩
    · refine OwNd.mono (lo := w2.heap.size) (hi := w3.heap.size) ?_ HB2.out.size (by simp [World.setCell])
      refine ow_of (pa := pa) (cp := cp) ?_
      repeat (first | focus ((with_reducible refine OwBk.other ?_ ?_ _); rotate_left 1; (dsimp only; omega)) | focus ((with_reducible refine OwBk.alloc ?_ ?_ _); rotate_left 1; (simp only [size_set]; omega)))
      exact OwBk.setBad HOW.out hkl true
    · have hh := HB3.out
      have hsz := HB2.out.size
      repeat (first | with_reducible refine Below.setCell ?_ ?_ _ | with_reducible refine Below.alloc ?_ ?_ _)
      all_goals first | exact hh | (simp only [size_set]; omega) | (dsimp only; omega)
  · have hne : (blkCode X bi == 0) = false := by simpa using hc
    have HANS : Hid (markAns X bi = ill (blkCode X bi)) := by show markAns X bi = _; unfold markAns; rw [if_pos hc]
    go_wp2
    refine bodyPost_ret (v := .agg #[.slice none 0 0, .string ⟨#[]⟩, .int .i64 (blkCode X bi)]) (by simp [results, Try.results9, go_sem, d0, d1, d2]) rfl ?_
    rw [HANS.out]
    refine ⟨none, 0, rfl, ow_nil _ _ _ _, ?_⟩
    repeat (with_reducible refine Below.setCell ?_ ?_ _)
    all_goals first | exact HB2.out | (dsimp only; omega)

set_option maxHeartbeats 2000000 in
theorem impl_erase (A : Option Addr) (n ca : Nat) (X : List Bk) (bi : Int) (w : World) (hX : Small X) (hA : RdBk w w.heap.size A n X) :
    Calls Try.prog 7 #[.agg #[.slice A n ca], .int .i64 bi] w (RetAns w (eraseAns X bi)) := by
  have HL := Lib.hid hA.1
  have HA := Lib.hid hA; have HX := Lib.hid hX; clear hA hX
  go_enter Try.func7, Try.ntmps7
  go_wp2_with fail
  refine (impl_blockCode A n ca X bi _ HX.out ((HA.out.below (((Below.refl _ _).alloc (Nat.le_refl _) _).alloc (by simp) _)).mono (by simp; omega))).mono ?_
  rintro e w2 ⟨rfl, hb2⟩
  have k0 := ((isBlk_new w 25 [.slice A n ca]).alloc _).below hb2 (by simp; omega)
  have k1 := (isBlk_new (w.alloc _) 29 [.slice none 0 0, .string ⟨#[]⟩, .int .i64 0]).below hb2 (by simp)
  simp only [size_alloc] at k1
  have HB2 := Lib.hid ((((Below.refl w.heap.size w).alloc (Nat.le_refl _) _).alloc (by simp) _).trans (hb2.mono (by simp; omega)))
  have HK0 := Lib.hid k0; have HK1 := Lib.hid k1
  have hx2 : w2.cell? ⟨w.heap.size, 0, none⟩ = some (.slice A n ca) := k0.cell rfl
  obtain ⟨d0, d1, d2, fd0, fd1, fd2⟩ := blk3 k1
  clear hb2 k0 k1
  by_cases hc : blkCode X bi = 0
  · rw [hc]
    obtain ⟨hok, k, rfl, hkl⟩ := blkCode_zero hc
    have HDEF : Hid (eraseAns X (k : Int) = if (X.getD k zeroBk).bad = true then ill 11 else if (X.getD k zeroBk).erases = 1000000 then ill 9 else ⟨X.set k ⟨[zeroPg, zeroPg, zeroPg, zeroPg], (X.getD k zeroBk).erases + 1, (X.getD k zeroBk).bad⟩, ⟨#[]⟩, 0⟩) := by
      show eraseAns X (k : Int) = _; unfold eraseAns; rw [if_neg (by simp [hc])]; rfl
    have HOK := Lib.hid hok
    have hkn : k < n := by have := HL.out; omega
    have hn12 : n ≤ 12 := by have := hok.1; have := HL.out; omega
    obtain ⟨g0, off, pA, pc, rfl, hg0, hc0, hc1, hc2, -⟩ := (HA.out.below HB2.out).at hkn
    have her := (hok.2 k hkl).2.1
    have HEQ : Hid (X.getD k zeroBk = X.getD k zeroBk) := rfl
    obtain ⟨b, hb⟩ : ∃ b, b = X.getD k zeroBk := ⟨_, rfl⟩
    rw [← hb] at hc0 hc1 hc2 her HDEF
    have HBK := Lib.hid hb
    clear hok hc HEQ hb
    by_cases hbad : b.bad = true
    · have HANS := Lib.hid (HDEF.out.trans (if_pos hbad))
      rw [hbad] at hc2
      go_wp2
      refine bodyPost_ret (v := .agg #[.slice none 0 0, .string ⟨#[]⟩, .int .i64 11]) (by simp [results, Try.results7, go_sem, d0, d1, d2]) rfl ?_
      rw [HANS.out]
      refine ⟨none, 0, rfl, ow_nil _ _ _ _, ?_⟩
      repeat (with_reducible refine Below.setCell ?_ ?_ _)
      all_goals first | exact HB2.out | (dsimp only; omega)
    have hbad' : b.bad = false := by simpa using hbad
    rw [hbad'] at hc2
    by_cases hmax : b.erases = 1000000
    · have HANS := Lib.hid ((HDEF.out.trans (if_neg hbad)).trans (if_pos hmax))
      rw [hmax] at hc1
      go_wp2
      refine bodyPost_ret (v := .agg #[.slice none 0 0, .string ⟨#[]⟩, .int .i64 9]) (by simp [results, Try.results7, go_sem, d0, d1, d2]) rfl ?_
      rw [HANS.out]
      refine ⟨none, 0, rfl, ow_nil _ _ _ _, ?_⟩
      repeat (with_reducible refine Below.setCell ?_ ?_ _)
      all_goals first | exact HB2.out | (dsimp only; omega)
    have hmax' : (b.erases == 1000000) = false := by simpa using hmax
    have HANS := Lib.hid ((HDEF.out.trans (if_neg hbad)).trans (if_neg hmax))
    rw [hbad'] at HANS
    clear HDEF hmax hbad
    go_wp2_with fail
    refine (impl_copyNand _ n ca X w2 HX.out HOK.out (rd_step HA.out HB2.out)).mono ?_
    rintro e w3 ⟨A3, c3, rfl, ho3, hb3⟩
    obtain ⟨g, pa, cp, rfl, how⟩ := ow_at ho3 hkl
    have HB3 := Lib.hid (bel_step HB2.out hb3)
    have HK13 := Lib.hid (HK1.out.below hb3 HK1.out.lt)
    have hlt1 := HK1.out.lt
    have h23 := hb3.size
    rw [HL.out]
    clear hb3 ho3 hx2 d0 d1 d2 fd0 fd1 fd2 hc0 hc1 hc2
    go_wp2
    have k4 := isBlk_new w3 25 [.slice (some ⟨g, 0, none⟩) n c3]
    have hb4 := box_below w3 (.cells #[.slice (some ⟨g, 0, none⟩) n c3] 25)
    change Code.wp _ _ _ _ (w3.alloc (.cells #[.slice (some ⟨g, 0, none⟩) n c3] 25))
    generalize w3.alloc (.cells #[.slice (some ⟨g, 0, none⟩) n c3] 25) = w4 at k4 hb4 ⊢
    have HOW := Lib.hid (how.below hb4 (Nat.le_refl _))
    have HB4 := Lib.hid (bel_step HB3.out hb4)
    have HK14 := Lib.hid (HK13.out.below hb4 HK13.out.lt)
    have HK4 := Lib.hid k4
    have hx4 : w4.cell? ⟨w3.heap.size, 0, none⟩ = some (.slice (some ⟨g, 0, none⟩) n c3) := k4.cell rfl
    obtain ⟨⟨e0, e1, e2⟩, ⟨fe0, fe1, fe2⟩, hgl⟩ := HOW.out.cells hkl
    have h34 := hb4.size
    have hlt4 := k4.lt
    have hlo := how.at_lo
    have hhi := how.at_hi
    clear k4 hb4 how
    have ne3 : ¬ g = w3.heap.size := by omega
    have ne4 : ¬ w3.heap.size = g := by omega
    go_region_held3 (fun w' => w'.cell? ⟨w3.heap.size, 0, none⟩ = some (.slice (some ⟨g, 0, none⟩) n c3))
      (first | exact hx4 | exact hs5 | exact (World.cell?_setCell_other w5 ⟨g, k * 3, none⟩ ⟨w3.heap.size, 0, none⟩ _ (by simp)).trans hs5 | go_keep)
      (first
        | (go_at_call 41
           refine (emptyPages_any w4.drew).mono ?_
           rintro e w5 ⟨rfl, ho5, hb5⟩
           have hs5 : w5.cell? ⟨w3.heap.size, 0, none⟩ = some (.slice (some ⟨g, 0, none⟩) n c3) := (hb5.cell (p := ⟨w3.heap.size, 0, none⟩) hlt4).trans hx4
           have hs50 : w5.cell? ⟨g, k * 3, none⟩ = some (.slice (some ⟨pa k, 0, none⟩) (X.getD k zeroBk).pages.length (cp k)) := (hb5.cell (p := ⟨g, k * 3, none⟩) hgl).trans e0
           have hs5f : w5.frozen? ⟨g, k * 3, none⟩ = false := (hb5.frozen (p := ⟨g, k * 3, none⟩) hgl).trans fe0
           have HB5 : Hid (Below w4.heap.size w4 w5) := Below.trans (Below.refl _ _).drew hb5
           have HO5 := Lib.hid ho5
           clear ho5 hb5))
    have h45 := HB5.out.size
    have hop : OwBk w5 w2.heap.size w5.heap.size g pa cp X := (HOW.out.below HB5.out h34).mono (Nat.le_refl _) (by omega)
    have how6 := hop.setPgs (k := k) (p := w4.heap.size) (c := 4) (Y := [zeroPg, zeroPg, zeroPg, zeroPg]) hkl ⟨by omega, Row.lt HO5.out, by omega⟩ (fun i hi => by have := HOW.out.lo' i hi; omega) HO5.out rfl
    have HB6 : Hid (Below w.heap.size w (w5.setCell ⟨g, k * 3, none⟩ (.slice (some ⟨w4.heap.size, 0, none⟩) 4 4))) := (bel_step HB4.out HB5.out).setCell (by have := HB2.out.size; dsimp only; omega) _
    have hx6 : (w5.setCell ⟨g, k * 3, none⟩ (.slice (some ⟨w4.heap.size, 0, none⟩) 4 4)).cell? ⟨w3.heap.size, 0, none⟩ = some (.slice (some ⟨g, 0, none⟩) n c3) := (World.cell?_setCell_other w5 ⟨g, k * 3, none⟩ ⟨w3.heap.size, 0, none⟩ _ (by simp)).trans hs5
    have k16 := (HK14.out.below HB5.out HK14.out.lt).other (a := ⟨g, k * 3, none⟩) (by dsimp only; omega) (.slice (some ⟨w4.heap.size, 0, none⟩) 4 4)
    have hs6 : (w5.setCell ⟨g, k * 3, none⟩ (.slice (some ⟨w4.heap.size, 0, none⟩) 4 4)).heap.size = w5.heap.size := size_set _ _ _
    change OwBk (w5.setCell ⟨g, k * 3, none⟩ (.slice (some ⟨w4.heap.size, 0, none⟩) 4 4)) _ _ _ _ _ _ at how6
    generalize w5.setCell ⟨g, k * 3, none⟩ (.slice (some ⟨w4.heap.size, 0, none⟩) 4 4) = w6 at how6 HB6 hx6 k16 hs6 ⊢
    have hkl6 : k < (X.set k ⟨[zeroPg, zeroPg, zeroPg, zeroPg], (X.getD k zeroBk).erases, (X.getD k zeroBk).bad⟩).length := by simpa using hkl
    obtain ⟨⟨-, q1, -⟩, ⟨-, fq1, -⟩, hgl6⟩ := how6.cells hkl6
    rw [set_getD hkl, if_pos rfl, ← HBK.out] at q1
    obtain ⟨d0, d1, d2, fd0, fd1, fd2⟩ := blk3 k16
    have HOW6 := Lib.hid how6
    have HS6 := Lib.hid hs6
    have lt5 : w.heap.size + 1 < w3.heap.size := by omega
    have ne1 : ¬ g = w.heap.size + 1 := by omega
    have ne2 : ¬ w.heap.size + 1 = g := by omega
    clear how6 k16 hop hs6 hs5 hs50 hs5f hx4 e0 e1 e2 fe0 fe1 fe2
    go_wp2
    refine bodyPost_ret (v := .agg #[.slice (some ⟨g, 0, none⟩) n c3, .string ⟨#[]⟩, .int .i64 0]) (by simp [results, Try.results7, go_sem, d0, d1, d2]) rfl ?_
    rw [HANS.out]
    refine ⟨some ⟨g, 0, none⟩, c3, by simp [HL.out], ?_, ?_⟩
    · refine OwNd.mono (lo := w2.heap.size) (hi := w5.heap.size) ?_ HB2.out.size (by simp only [size_set]; have := HS6.out; omega)
      refine ow_of (pa := fun i => if i = k then w4.heap.size else pa i) (cp := fun i => if i = k then 4 else cp i) ?_
      repeat (first | focus ((with_reducible refine OwBk.other ?_ ?_ _); rotate_left 1; (dsimp only; omega)))
      have hfin := HOW6.out.setEr hkl6 (b.erases + 1)
      rw [set_getD hkl, if_pos rfl, List.set_set] at hfin
      rw [← HBK.out, hbad'] at hfin
      exact hfin
    · have hsz := HB2.out.size
      repeat (with_reducible refine Below.setCell ?_ ?_ _)
      all_goals first | exact HB6.out | (dsimp only; omega)
  · have hne : (blkCode X bi == 0) = false := by simpa using hc
    have HANS : Hid (eraseAns X bi = ill (blkCode X bi)) := by show eraseAns X bi = _; unfold eraseAns; rw [if_pos hc]
    go_wp2
    refine bodyPost_ret (v := .agg #[.slice none 0 0, .string ⟨#[]⟩, .int .i64 (blkCode X bi)]) (by simp [results, Try.results7, go_sem, d0, d1, d2]) rfl ?_
    rw [HANS.out]
    refine ⟨none, 0, rfl, ow_nil _ _ _ _, ?_⟩
    repeat (with_reducible refine Below.setCell ?_ ?_ _)
    all_goals first | exact HB2.out | (dsimp only; omega)
end Go.Proofs.Ytdgmpllonnddmaa
