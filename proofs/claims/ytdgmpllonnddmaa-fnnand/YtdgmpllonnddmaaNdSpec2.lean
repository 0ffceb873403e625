/-
  MarkBad, Erase and Program, of the document's model.
-/
import Derived.Test.YtdgmpllonnddmaaChecked
import Derived.Test.YtdgmpllonnddmaaNdSpec
import Derived.Test.YtdgmpllonnddmaaNdImp
import Derived.IntWalk
import Derived.StillTailTactics
namespace Go.Proofs.Ytdgmpllonnddmaa
open Go.RowKit

set_option maxHeartbeats 2000000 in
theorem spec_markBad (A : Option Addr) (n ca : Nat) (X : List Bk) (bi : Int) (w : World) (hX : Small X) (hA : RdBk w w.heap.size A n X) :
    Calls Try.prog 17 #[.agg #[.slice A n ca], .int .i64 bi] w (RetAns w (markAns X bi)) := by
  have HL := Lib.hid hA.1
  have HA := Lib.hid hA; have HX := Lib.hid hX; clear hA hX
  go_enter Try.func17, Try.ntmps17
  go_wp2_with fail
  refine (spec_l02Code A n ca X bi _ HX.out ((HA.out.below (((Below.refl _ _).alloc (Nat.le_refl _) _).alloc (by simp) _)).mono (by simp; omega))).mono ?_
  rintro e w2 ⟨rfl, hb2⟩
  have k0 := ((isBlk_new w 25 [.slice A n ca]).alloc _).below hb2 (by simp; omega)
  have k1 := (isBlk_new (w.alloc _) 29 [.slice none 0 0, .string ⟨#[]⟩, .int .i64 0]).below hb2 (by simp)
  simp only [size_alloc] at k1
  have HB2 := Lib.hid ((((Below.refl w.heap.size w).alloc (Nat.le_refl _) _).alloc (by simp) _).trans (hb2.mono (by simp; omega)))
  have HK0 := Lib.hid k0; have HK1 := Lib.hid k1
  have hx2 : w2.cell? ⟨w.heap.size, 0, none⟩ = some (.slice A n ca) := k0.cell rfl
  obtain ⟨d0, d1, d2, fd0, fd1, fd2⟩ := blk3 k1
  clear hb2 k0 k1
  by_cases hc : blkCode X bi = 0
  · rw [hc]
    obtain ⟨hok, k, rfl, hkl⟩ := blkCode_zero hc
    have HANS : Hid (markAns X (k : Int) = ⟨X.set k ⟨(X.getD k zeroBk).pages, (X.getD k zeroBk).erases, true⟩, ⟨#[]⟩, 0⟩) := by
      show markAns X (k : Int) = _; unfold markAns; rw [if_neg (by simp [hc])]; rfl
    have HOK := Lib.hid hok
    have hkn : k < n := by have := HL.out; omega
    have hn12 : n ≤ 12 := by have := hok.1; have := HL.out; omega
    clear hok hc
    go_wp2_with fail
    refine (spec_l02Copy A n ca X w2 HOK.out (rd_step HA.out HB2.out)).mono ?_
    rintro e w3 ⟨A3, c3, rfl, ho3, hb3⟩
    obtain ⟨g, pa, cp, rfl, how⟩ := ow_at ho3 hkl
    have HB3 := Lib.hid (bel_step HB2.out hb3)
    have HK13 := Lib.hid (HK1.out.below hb3 HK1.out.lt)
    have hlt1 := HK1.out.lt
    have h23 := hb3.size
    rw [HL.out]
    clear hb3 ho3 hx2 d0 d1 d2 fd0 fd1 fd2
    obtain ⟨d0, d1, d2, fd0, fd1, fd2⟩ := blk3 HK13.out
    obtain ⟨⟨-, -, e2⟩, ⟨-, -, fe2⟩, hgl⟩ := how.cells hkl
    have hlo := how.at_lo
    have HOW := Lib.hid how
    clear how
    have ne1 : ¬ g = w.heap.size + 1 := by omega
    have ne2 : ¬ w.heap.size + 1 = g := by omega
    have ne3 : ¬ g = w3.heap.size := by omega
    have ne4 : ¬ w3.heap.size = g := by omega
    have lt5 : w.heap.size + 1 < w3.heap.size := by omega
    go_wp2
    refine bodyPost_ret (v := .agg #[.slice (some ⟨g, 0, none⟩) n c3, .string ⟨#[]⟩, .int .i64 0]) (by simp [results, Try.results17, go_sem, d0, d1, d2, lt5]) rfl ?_
    rw [HANS.out]
    refine ⟨some ⟨g, 0, none⟩, c3, by simp [HL.out], ?_, ?_⟩
    · refine OwNd.mono (lo := w2.heap.size) (hi := w3.heap.size) ?_ HB2.out.size (by simp [World.setCell])
      refine ow_of (pa := pa) (cp := cp) ?_
      repeat (first | focus ((with_reducible refine OwBk.other ?_ ?_ _); rotate_left 1; (dsimp only; omega)) | focus ((with_reducible refine OwBk.alloc ?_ ?_ _); rotate_left 1; (simp only [size_set]; omega)))
      exact OwBk.setBad HOW.out hkl true
    · have hh := HB3.out
      have hsz := HB2.out.size
      repeat (first | with_reducible refine Below.setCell ?_ ?_ _ | with_reducible refine Below.alloc ?_ ?_ _)
      all_goals first | exact hh | (simp only [size_set]; omega) | (dsimp only; omega)
  · have hne : (blkCode X bi == 0) = false := by simpa using hc
    have HANS : Hid (markAns X bi = ill (blkCode X bi)) := by show markAns X bi = _; unfold markAns; rw [if_pos hc]
    clear d0 d1 d2 fd0 fd1 fd2
    go_wp2_with fail
    refine (l02Ill_any _ w2).mono ?_
    rintro e wi ⟨rfl, hbi⟩
    have HBI := Lib.hid (bel_step HB2.out hbi)
    obtain ⟨d0, d1, d2, fd0, fd1, fd2⟩ := blk3 (HK1.out.below hbi HK1.out.lt)
    clear hbi
    go_wp2
    refine bodyPost_ret (v := .agg #[.slice none 0 0, .string ⟨#[]⟩, .int .i64 (blkCode X bi)]) (by simp [results, Try.results17, go_sem, d0, d1, d2]) rfl ?_
    rw [HANS.out]
    refine ⟨none, 0, rfl, ow_nil _ _ _ _, ?_⟩
    repeat (with_reducible refine Below.setCell ?_ ?_ _)
    all_goals first | exact HBI.out | (dsimp only; omega)

theorem mk4 (W : World) : (Instr.makeSlice 45 (.int .i64 4) (.int .i64 4)).run Try.prog W = .ok (.slice (some ⟨W.heap.size, 0, none⟩) 4 4) (W.alloc (.cells (pcells zeroPg zeroPg zeroPg zeroPg).toArray 58)) := by
  kernel_rfl

set_option maxHeartbeats 2000000 in
set_option maxRecDepth 100000 in
theorem spec_erase (A : Option Addr) (n ca : Nat) (X : List Bk) (bi : Int) (w : World) (hX : Small X) (hA : RdBk w w.heap.size A n X) :
    Calls Try.prog 16 #[.agg #[.slice A n ca], .int .i64 bi] w (RetAns w (eraseAns X bi)) := by
  have HL := Lib.hid hA.1
  have HA := Lib.hid hA; have HX := Lib.hid hX; clear hA hX
  go_enter Try.func16, Try.ntmps16
  go_wp2_with fail
  refine (spec_l02Code A n ca X bi _ HX.out ((HA.out.below (((Below.refl _ _).alloc (Nat.le_refl _) _).alloc (by simp) _)).mono (by simp; omega))).mono ?_
  rintro e w2 ⟨rfl, hb2⟩
  have k0 := ((isBlk_new w 25 [.slice A n ca]).alloc _).below hb2 (by simp; omega)
  have k1 := (isBlk_new (w.alloc _) 29 [.slice none 0 0, .string ⟨#[]⟩, .int .i64 0]).below hb2 (by simp)
  simp only [size_alloc] at k1
  have HB2 := Lib.hid ((((Below.refl w.heap.size w).alloc (Nat.le_refl _) _).alloc (by simp) _).trans (hb2.mono (by simp; omega)))
  have HK0 := Lib.hid k0; have HK1 := Lib.hid k1
  have hx2 : w2.cell? ⟨w.heap.size, 0, none⟩ = some (.slice A n ca) := k0.cell rfl
  obtain ⟨d0, d1, d2, fd0, fd1, fd2⟩ := blk3 k1
  clear hb2 k0 k1
  by_cases hc : blkCode X bi = 0
  · rw [hc]
    obtain ⟨hok, k, rfl, hkl⟩ := blkCode_zero hc
    have HDEF : Hid (eraseAns X (k : Int) = if (X.getD k zeroBk).bad = true then ill 11 else if (X.getD k zeroBk).erases = 1000000 then ill 9 else ⟨X.set k ⟨[zeroPg, zeroPg, zeroPg, zeroPg], (X.getD k zeroBk).erases + 1, (X.getD k zeroBk).bad⟩, ⟨#[]⟩, 0⟩) := by
      show eraseAns X (k : Int) = _; unfold eraseAns; rw [if_neg (by simp [hc])]; rfl
    have HOK := Lib.hid hok
    have hkn : k < n := by have := HL.out; omega
    have hn12 : n ≤ 12 := by have := hok.1; have := HL.out; omega
    obtain ⟨g0, off, pA, pc, rfl, hg0, hc0, hc1, hc2, -⟩ := (HA.out.below HB2.out).at hkn
    have her := (hok.2 k hkl).2.1
    have HEQ : Hid (X.getD k zeroBk = X.getD k zeroBk) := rfl
    obtain ⟨b, hb⟩ : ∃ b, b = X.getD k zeroBk := ⟨_, rfl⟩
    rw [← hb] at hc0 hc1 hc2 her HDEF
    have HBK := Lib.hid hb
    have HC1 := Lib.hid hc1
    clear hok hc HEQ hb
    by_cases hbad : b.bad = true
    · have HANS := Lib.hid (HDEF.out.trans (if_pos hbad))
      rw [hbad] at hc2
      clear d0 d1 d2 fd0 fd1 fd2
      go_wp2_with fail
      refine (l02Ill_any _ w2).mono ?_
      rintro e wi ⟨rfl, hbi⟩
      have HBI := Lib.hid (bel_step HB2.out hbi)
      obtain ⟨d0, d1, d2, fd0, fd1, fd2⟩ := blk3 (HK1.out.below hbi HK1.out.lt)
      clear hbi
      go_wp2
      refine bodyPost_ret (v := .agg #[.slice none 0 0, .string ⟨#[]⟩, .int .i64 11]) (by simp [results, Try.results16, go_sem, d0, d1, d2]) rfl ?_
      rw [HANS.out]
      refine ⟨none, 0, rfl, ow_nil _ _ _ _, ?_⟩
      repeat (with_reducible refine Below.setCell ?_ ?_ _)
      all_goals first | exact HBI.out | (dsimp only; omega)
    have hbad' : b.bad = false := by simpa using hbad
    rw [hbad'] at hc2
    by_cases hmax : b.erases = 1000000
    · have HANS := Lib.hid ((HDEF.out.trans (if_neg hbad)).trans (if_pos hmax))
      rw [hmax] at hc1
      clear d0 d1 d2 fd0 fd1 fd2
      go_wp2_with fail
      refine (l02Ill_any _ w2).mono ?_
      rintro e wi ⟨rfl, hbi⟩
      have HBI := Lib.hid (bel_step HB2.out hbi)
      obtain ⟨d0, d1, d2, fd0, fd1, fd2⟩ := blk3 (HK1.out.below hbi HK1.out.lt)
      clear hbi
      go_wp2
      refine bodyPost_ret (v := .agg #[.slice none 0 0, .string ⟨#[]⟩, .int .i64 9]) (by simp [results, Try.results16, go_sem, d0, d1, d2]) rfl ?_
      rw [HANS.out]
      refine ⟨none, 0, rfl, ow_nil _ _ _ _, ?_⟩
      repeat (with_reducible refine Below.setCell ?_ ?_ _)
      all_goals first | exact HBI.out | (dsimp only; omega)
    have hmax' : decide ((1000000 : Int) ≤ b.erases) = false := by simp; omega
    have hmax'' : b.erases + 1 ≤ 1000000 := by omega
    have HANS := Lib.hid ((HDEF.out.trans (if_neg hbad)).trans (if_neg hmax))
    rw [hbad'] at HANS
    clear HDEF hmax hbad
    go_wp2_with fail
    refine (spec_l02Copy _ n ca X w2 HOK.out (rd_step HA.out HB2.out)).mono ?_
    rintro e w3 ⟨A3, c3, rfl, ho3, hb3⟩
    obtain ⟨g, pa, cp, rfl, how⟩ := ow_at ho3 hkl
    have HB3 := Lib.hid (bel_step HB2.out hb3)
    have HB23 := Lib.hid hb3
    have HK13 := Lib.hid (HK1.out.below hb3 HK1.out.lt)
    have hlt1 := HK1.out.lt
    have h23 := hb3.size
    rw [HL.out]
    clear hb3 ho3 hx2 d0 d1 d2 fd0 fd1 fd2 hc0 hc1 hc2
    go_wp2
    have k4 := isBlk_new w3 25 [.slice (some ⟨g, 0, none⟩) n c3]
    have hb4 := box_below w3 (.cells #[.slice (some ⟨g, 0, none⟩) n c3] 25)
    change Code.wp _ _ _ _ (w3.alloc (.cells #[.slice (some ⟨g, 0, none⟩) n c3] 25))
    generalize w3.alloc (.cells #[.slice (some ⟨g, 0, none⟩) n c3] 25) = w4 at k4 hb4 ⊢
    have HOW := Lib.hid (how.below hb4 (Nat.le_refl _))
    have HB4 := Lib.hid (bel_step HB3.out hb4)
    have HB24 : Hid (Below w2.heap.size w2 w4) := bel_step HB23.out hb4
    have HK14 := Lib.hid (HK13.out.below hb4 HK13.out.lt)
    have HK4 := Lib.hid k4
    have hx4 : w4.cell? ⟨w3.heap.size, 0, none⟩ = some (.slice (some ⟨g, 0, none⟩) n c3) := k4.cell rfl
    obtain ⟨⟨e0, e1, e2⟩, ⟨fe0, fe1, fe2⟩, hgl⟩ := HOW.out.cells hkl
    have h34 := hb4.size
    have hlt4 := k4.lt
    have hlo := how.at_lo
    have hhi := how.at_hi
    clear k4 hb4 how
    have ne3 : ¬ g = w3.heap.size := by omega
    have ne4 : ¬ w3.heap.size = g := by omega
    have hi2 : (0 : Int) ≤ (k : Int) := by omega
    have hi3 : (k : Int) < (n : Int) := by omega
    have hmk := mk4
    go_region_held3 (fun w' => w'.cell? ⟨w3.heap.size, 0, none⟩ = some (.slice (some ⟨g, 0, none⟩) n c3))
      (first | exact hx4 | go_keep)
      (first | fail)
    have hw : ((w4.setCell ⟨g, k * 3, none⟩ (.slice (some ⟨w4.heap.size, 0, none⟩) 4 4)).alloc (.cells (pcells zeroPg zeroPg zeroPg zeroPg).toArray 58)).drew = ((w4.alloc (.cells (pcells zeroPg zeroPg zeroPg zeroPg).toArray 58)).drew).setCell ⟨g, k * 3, none⟩ (.slice (some ⟨w4.heap.size, 0, none⟩) 4 4) := by
      rw [World.setCell_drew, World.setCell_alloc_past _ _ _ _ hgl]
    rw [hw]
    have HB5 : Hid (Below w4.heap.size w4 (w4.alloc (.cells (pcells zeroPg zeroPg zeroPg zeroPg).toArray 58)).drew) := (box_below w4 _).drew
    have HO5 : Hid (OwPg (w4.alloc (.cells (pcells zeroPg zeroPg zeroPg zeroPg).toArray 58)).drew w4.heap.size [zeroPg, zeroPg, zeroPg, zeroPg]) := ow_of_blk (isBlk_new w4 58 (pcells zeroPg zeroPg zeroPg zeroPg))
    have hs5 : (w4.alloc (.cells (pcells zeroPg zeroPg zeroPg zeroPg).toArray 58)).drew.cell? ⟨w3.heap.size, 0, none⟩ = some (.slice (some ⟨g, 0, none⟩) n c3) := (HB5.out.cell (p := ⟨w3.heap.size, 0, none⟩) hlt4).trans hx4
    clear hw
    generalize (w4.alloc (.cells (pcells zeroPg zeroPg zeroPg zeroPg).toArray 58)).drew = w5 at HB5 HO5 hs5 ⊢
    have h45 := HB5.out.size
    have hop : OwBk w5 w2.heap.size w5.heap.size g pa cp X := (HOW.out.below HB5.out h34).mono (Nat.le_refl _) (by omega)
    have how6 := hop.setPgs (k := k) (p := w4.heap.size) (c := 4) (Y := [zeroPg, zeroPg, zeroPg, zeroPg]) hkl ⟨by omega, Row.lt HO5.out, by omega⟩ (fun i hi => by have := HOW.out.lo' i hi; omega) HO5.out rfl
    have HB6 : Hid (Below w.heap.size w (w5.setCell ⟨g, k * 3, none⟩ (.slice (some ⟨w4.heap.size, 0, none⟩) 4 4))) := (bel_step HB4.out HB5.out).setCell (by have := HB2.out.size; dsimp only; omega) _
    have hx6 : (w5.setCell ⟨g, k * 3, none⟩ (.slice (some ⟨w4.heap.size, 0, none⟩) 4 4)).cell? ⟨w3.heap.size, 0, none⟩ = some (.slice (some ⟨g, 0, none⟩) n c3) := (World.cell?_setCell_other w5 ⟨g, k * 3, none⟩ ⟨w3.heap.size, 0, none⟩ _ (by simp)).trans hs5
    have k16 := (HK14.out.below HB5.out HK14.out.lt).other (a := ⟨g, k * 3, none⟩) (by dsimp only; omega) (.slice (some ⟨w4.heap.size, 0, none⟩) 4 4)
    have hs6 : (w5.setCell ⟨g, k * 3, none⟩ (.slice (some ⟨w4.heap.size, 0, none⟩) 4 4)).heap.size = w5.heap.size := size_set _ _ _
    have HB26x : Hid (Below w2.heap.size w2 (w5.setCell ⟨g, k * 3, none⟩ (.slice (some ⟨w4.heap.size, 0, none⟩) 4 4))) := ((HB24.out.trans (HB5.out.mono (by omega))).setCell (by dsimp only; omega) _)
    change OwBk (w5.setCell ⟨g, k * 3, none⟩ (.slice (some ⟨w4.heap.size, 0, none⟩) 4 4)) _ _ _ _ _ _ at how6
    generalize w5.setCell ⟨g, k * 3, none⟩ (.slice (some ⟨w4.heap.size, 0, none⟩) 4 4) = w6 at how6 HB6 hx6 k16 hs6 HB26x ⊢
    have hkl6 : k < (X.set k ⟨[zeroPg, zeroPg, zeroPg, zeroPg], (X.getD k zeroBk).erases, (X.getD k zeroBk).bad⟩).length := by simpa using hkl
    obtain ⟨⟨-, q1, -⟩, ⟨-, fq1, -⟩, hgl6⟩ := how6.cells hkl6
    rw [set_getD hkl, if_pos rfl, ← HBK.out] at q1
    obtain ⟨d0, d1, d2, fd0, fd1, fd2⟩ := blk3 k16
    have HOW6 := Lib.hid how6
    have HB26 : Hid (Below w2.heap.size w2 w6) := HB26x.out
    have HS6 := Lib.hid hs6
    have lt5 : w.heap.size + 1 < w3.heap.size := by omega
    have ne1 : ¬ g = w.heap.size + 1 := by omega
    have ne2 : ¬ w.heap.size + 1 = g := by omega
    have hbw6 : Below w2.heap.size w2 w6 := HB26.out
    have x06 : w6.cell? ⟨w.heap.size, 0, none⟩ = some (.slice (some ⟨g0, off, none⟩) n ca) := (HK0.out.below hbw6 HK0.out.lt).cell rfl
    have x16 : w6.cell? ⟨g0, off + k * 3 + 1, none⟩ = some (.int .i64 b.erases) := (hbw6.cell (p := ⟨g0, off + k * 3 + 1, none⟩) (by have := HB2.out.size; dsimp only; omega)).trans HC1.out
    clear how6 k16 hop hs6 hs5 hx4 e0 e1 e2 fe0 fe1 fe2 hbw6
    have hwr : IntKind.i64.wrap (b.erases + 1) = b.erases + 1 := IntWalk.i64_in _ (by omega)
    go_wp2
    go_still_tail 12, (by kernel_rfl)
    change wpList _ _ _ _ _ w6.drew
    have HOW6d : Hid (OwBk w6.drew w2.heap.size w5.heap.size g (fun i => if i = k then w4.heap.size else pa i) (fun i => if i = k then 4 else cp i) (X.set k ⟨[zeroPg, zeroPg, zeroPg, zeroPg], (X.getD k zeroBk).erases, (X.getD k zeroBk).bad⟩)) := HOW6.out.same fun _ _ _ => rfl
    have HB6d : Hid (Below w.heap.size w w6.drew) := HB6.out.drew
    have HS6d : Hid (w6.drew.heap.size = w5.heap.size) := HS6.out
    have hgl6d : g < w6.drew.heap.size := hgl6
    have q1d : w6.drew.cell? ⟨g, k * 3 + 1, none⟩ = some (.int .i64 b.erases) := q1
    have fq1d : w6.drew.frozen? ⟨g, k * 3 + 1, none⟩ = false := fq1
    have hx6d : w6.drew.cell? ⟨w3.heap.size, 0, none⟩ = some (.slice (some ⟨g, 0, none⟩) n c3) := hx6
    have d0d : w6.drew.cell? ⟨w.heap.size + 1, 0, none⟩ = some (.slice none 0 0) := d0
    have d1d : w6.drew.cell? ⟨w.heap.size + 1, 1, none⟩ = some (.string ⟨#[]⟩) := d1
    have d2d : w6.drew.cell? ⟨w.heap.size + 1, 2, none⟩ = some (.int .i64 0) := d2
    have fd0d : w6.drew.frozen? ⟨w.heap.size + 1, 0, none⟩ = false := fd0
    have fd1d : w6.drew.frozen? ⟨w.heap.size + 1, 1, none⟩ = false := fd1
    have fd2d : w6.drew.frozen? ⟨w.heap.size + 1, 2, none⟩ = false := fd2
    clear q1 fq1 hx6 d0 d1 d2 fd0 fd1 fd2 x06 x16 HOW6 HB6 HS6 HB26 hgl6
    generalize w6.drew = w7 at HOW6d HB6d HS6d hgl6d q1d fq1d hx6d d0d d1d d2d fd0d fd1d fd2d ⊢
    have HOW6 := HOW6d; have HB6 := HB6d; have HS6 := HS6d; have d0 := d0d; have d1 := d1d; have d2 := d2d
    clear HOW6d HB6d HS6d
    go_wp2
    refine bodyPost_ret (v := .agg #[.slice (some ⟨g, 0, none⟩) n c3, .string ⟨#[]⟩, .int .i64 0]) (by simp [results, Try.results16, go_sem, d0, d1, d2]) rfl ?_
    rw [HANS.out]
    refine ⟨some ⟨g, 0, none⟩, c3, by simp [HL.out], ?_, ?_⟩
    · refine OwNd.mono (lo := w2.heap.size) (hi := w5.heap.size) ?_ HB2.out.size (by simp only [size_set]; have := HS6.out; omega)
      refine ow_of (pa := fun i => if i = k then w4.heap.size else pa i) (cp := fun i => if i = k then 4 else cp i) ?_
      repeat (first | focus ((with_reducible refine OwBk.other ?_ ?_ _); rotate_left 1; (dsimp only; omega)))
      have hfin := HOW6.out.setEr hkl6 (b.erases + 1)
      rw [set_getD hkl, if_pos rfl, List.set_set] at hfin
      rw [← HBK.out, hbad'] at hfin
      exact hfin
    · have hsz := HB2.out.size
      repeat (with_reducible refine Below.setCell ?_ ?_ _)
      all_goals first | exact HB6.out | (dsimp only; omega)
  · have hne : (blkCode X bi == 0) = false := by simpa using hc
    have HANS : Hid (eraseAns X bi = ill (blkCode X bi)) := by show eraseAns X bi = _; unfold eraseAns; rw [if_pos hc]
    clear d0 d1 d2 fd0 fd1 fd2
    go_wp2_with fail
    refine (l02Ill_any _ w2).mono ?_
    rintro e wi ⟨rfl, hbi⟩
    have HBI := Lib.hid (bel_step HB2.out hbi)
    obtain ⟨d0, d1, d2, fd0, fd1, fd2⟩ := blk3 (HK1.out.below hbi HK1.out.lt)
    clear hbi
    go_wp2
    refine bodyPost_ret (v := .agg #[.slice none 0 0, .string ⟨#[]⟩, .int .i64 (blkCode X bi)]) (by simp [results, Try.results16, go_sem, d0, d1, d2]) rfl ?_
    rw [HANS.out]
    refine ⟨none, 0, rfl, ow_nil _ _ _ _, ?_⟩
    repeat (with_reducible refine Below.setCell ?_ ?_ _)
    all_goals first | exact HBI.out | (dsimp only; omega)

end Go.Proofs.Ytdgmpllonnddmaa
