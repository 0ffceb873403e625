/-
  Program and PageAt, of the document's model.
-/
import Derived.Test.YtdgmpllonnddmaaChecked
import Derived.Test.YtdgmpllonnddmaaNdSpec2
namespace Go.Proofs.Ytdgmpllonnddmaa
open Go.RowKit

open Classical in
noncomputable def progLate (X : List Bk) (k : Nat) (t : ByteArray) : NdAns :=
  if (X.getD k zeroBk).bad = true then ill 11 else if uPre (X.getD k zeroBk).pages = 4 then ill 9
  else ⟨X.set k ⟨(X.getD k zeroBk).pages.set (uPre (X.getD k zeroBk).pages) ⟨true, t⟩, (X.getD k zeroBk).erases, (X.getD k zeroBk).bad⟩, ⟨#[]⟩, 0⟩

set_option maxHeartbeats 2000000 in
set_option maxRecDepth 100000 in
theorem spec_l02Program (A : Option Addr) (n ca k : Nat) (X : List Bk) (t : ByteArray) (w : World) (hok : NdOk X) (hkl : k < X.length) (hA : RdBk w w.heap.size A n X) :
    Calls Try.prog 44 #[.agg #[.slice A n ca], .int .i64 (k : Int), .string t] w (RetAns w (progLate X k t)) := by
  have HL := Lib.hid hA.1
  have HA := Lib.hid hA; have HOK := Lib.hid hok
  have hkn : k < n := by have := hA.1; omega
  have hn12 : n ≤ 12 := by have := hok.1; have := HL.out; omega
  clear hA
  obtain ⟨g0, off, pA, pc, rfl, hg0, hc0, hc1, hc2, hpg⟩ := HA.out.at hkn
  have h4 := (hok.2 k hkl).1
  have HU := Lib.hid (nUsed_ok (hok.2 k hkl))
  obtain ⟨b, hb⟩ : ∃ b, b = X.getD k zeroBk := ⟨_, rfl⟩
  have HDEF : Hid (progLate X k t = if b.bad = true then ill 11 else if uPre b.pages = 4 then ill 9 else ⟨X.set k ⟨b.pages.set (uPre b.pages) ⟨true, t⟩, b.erases, b.bad⟩, ⟨#[]⟩, 0⟩) := by show progLate X k t = _; unfold progLate; rw [← hb]
  have HPG := Lib.hid hpg
  rw [← hb] at hc0 hc1 hc2 HPG h4 HU
  have HBK := Lib.hid hb
  clear hok hb hpg
  obtain ⟨ps, er, bd⟩ := b
  simp only at hc0 hc1 hc2 HPG h4 HU HDEF
  obtain ⟨pa0, pb0, pc0, pd0, rfl⟩ := four_of_length h4
  clear h4
  have hx0 : (w.alloc (.cells #[.slice (some ⟨g0, off, none⟩) n ca] 25)).cell? ⟨w.heap.size, 0, none⟩ = some (.slice (some ⟨g0, off, none⟩) n ca) := (isBlk_new w 25 [.slice (some ⟨g0, off, none⟩) n ca]).cell rfl
  go_enter Try.func44, Try.ntmps44
  go_wp2_with fail
  refine (l02Used_any _ _ _ [pa0, pb0, pc0, pd0] _ _ _ (by simp) ((HPG.out.below (((Below.refl _ _).alloc (Nat.le_refl _) _).alloc (by simp) _)).mono (by simp; omega))).mono ?_
  rintro e w2 ⟨rfl, hb2⟩
  have k0 := ((isBlk_new w 25 [.slice (some ⟨g0, off, none⟩) n ca]).alloc _).below hb2 (by simp; omega)
  have k1 := (isBlk_new (w.alloc _) 29 [.slice none 0 0, .string ⟨#[]⟩, .int .i64 0]).below hb2 (by simp)
  simp only [size_alloc] at k1
  have hbw := (((Below.refl w.heap.size w).alloc (Nat.le_refl _) _).alloc (by simp) _).trans (hb2.mono (by simp; omega))
  have HB2 := Lib.hid hbw
  have HK0 := Lib.hid k0; have HK1 := Lib.hid k1
  have hx2 : w2.cell? ⟨w.heap.size, 0, none⟩ = some (.slice (some ⟨g0, off, none⟩) n ca) := k0.cell rfl
  have e2 : w2.cell? ⟨g0, off + k * 3 + 2, none⟩ = some (.bool bd) := (hbw.cell (p := ⟨g0, off + k * 3 + 2, none⟩) hg0).trans hc2
  clear hb2 k0 k1 hbw hx0 hc0 hc1 hc2
  rw [HU.out]
  obtain ⟨u, hu⟩ : ∃ u, u = uPre [pa0, pb0, pc0, pd0] := ⟨_, rfl⟩
  have hule : u ≤ 4 := by rw [hu]; exact uPre_le [pa0, pb0, pc0, pd0]
  rw [← hu] at HDEF
  rw [← hu]
  clear hu HU
  cases bd with
  | true =>
    have HANS : Hid (progLate X k t = ill 11) := HDEF.out.trans (if_pos rfl)
    go_wp2_with fail
    refine (l02Ill_any _ w2).mono ?_
    rintro e wi ⟨rfl, hbi⟩
    have HBI := Lib.hid (bel_step HB2.out hbi)
    obtain ⟨d0, d1, d2, fd0, fd1, fd2⟩ := blk3 (HK1.out.below hbi HK1.out.lt)
    clear hbi
    go_wp2
    refine bodyPost_ret (v := .agg #[.slice none 0 0, .string ⟨#[]⟩, .int .i64 11]) (by simp [results, Try.results44, go_sem, d0, d1, d2]) rfl ?_
    rw [HANS.out]
    refine ⟨none, 0, rfl, ow_nil _ _ _ _, ?_⟩
    repeat (with_reducible refine Below.setCell ?_ ?_ _)
    all_goals first | exact HBI.out | (dsimp only; omega)
  | false =>
    by_cases hu4 : u = 4
    · have HANS := Lib.hid ((HDEF.out.trans (if_neg (by simp))).trans (if_pos hu4))
      subst hu4
      clear HDEF
      go_wp2_with fail
      refine (l02Ill_any _ w2).mono ?_
      rintro e wi ⟨rfl, hbi⟩
      have HBI := Lib.hid (bel_step HB2.out hbi)
      obtain ⟨d0, d1, d2, fd0, fd1, fd2⟩ := blk3 (HK1.out.below hbi HK1.out.lt)
      clear hbi
      go_wp2
      refine bodyPost_ret (v := .agg #[.slice none 0 0, .string ⟨#[]⟩, .int .i64 9]) (by simp [results, Try.results44, go_sem, d0, d1, d2]) rfl ?_
      rw [HANS.out]
      refine ⟨none, 0, rfl, ow_nil _ _ _ _, ?_⟩
      repeat (with_reducible refine Below.setCell ?_ ?_ _)
      all_goals first | exact HBI.out | (dsimp only; omega)
    have HANS := Lib.hid ((HDEF.out.trans (if_neg (by simp))).trans (if_neg hu4))
    have hul : u < 4 := by omega
    have hul' : decide ((4 : Int) ≤ (u : Int)) = false := by simp; omega
    clear HDEF hu4
    go_wp2_with fail
    refine (spec_l02Copy _ n ca X w2 HOK.out (rd_step HA.out HB2.out)).mono ?_
    rintro e w4 ⟨A4, c4, rfl, ho4, hb4⟩
    obtain ⟨g, qa, cp, rfl, how⟩ := ow_at ho4 hkl
    have HB4 := Lib.hid (bel_step HB2.out hb4)
    have HK14 := Lib.hid (HK1.out.below hb4 HK1.out.lt)
    have hlt1 := HK1.out.lt
    have h24 := hb4.size
    rw [HL.out]
    obtain ⟨⟨e0, -, -⟩, ⟨fe0, -, -⟩, hgl⟩ := how.cells hkl
    have HPGk : Hid (OwPg w4 (qa k) (X.getD k zeroBk).pages) := how.pages k hkl
    have hqk := how.lo' k hkl
    have hlo := how.at_lo
    rw [← HBK.out] at e0 HPGk
    simp only at e0 HPGk
    have p0 := Row.cell HPGk.out (i := u * 2) (by simp; omega)
    have p1 := Row.cell HPGk.out (i := u * 2 + 1) (by simp; omega)
    have fp0 := Row.free HPGk.out (u * 2)
    have fp1 := Row.free HPGk.out (u * 2 + 1)
    have hql := Row.lt HPGk.out
    have HOW := Lib.hid how
    obtain ⟨d0, d1, d2, fd0, fd1, fd2⟩ := blk3 HK14.out
    have ne1 : ¬ g = qa k := by have := hqk.2.2; omega
    have ne1' : ¬ qa k = g := by have := hqk.2.2; omega
    have ne2 : ¬ qa k = w4.heap.size := by omega
    have ne2' : ¬ w4.heap.size = qa k := by omega
    have ne3 : ¬ qa k = w.heap.size + 1 := by omega
    have ne3' : ¬ w.heap.size + 1 = qa k := by omega
    have lt5 : w.heap.size + 1 < w4.heap.size := by omega
    clear hb4 ho4 how hx2 e2
    go_wp2
    refine bodyPost_ret (v := .agg #[.slice (some ⟨g, 0, none⟩) n c4, .string ⟨#[]⟩, .int .i64 0]) (by simp [results, Try.results44, go_sem, d0, d1, d2, lt5]) rfl ?_
    rw [HANS.out]
    refine ⟨some ⟨g, 0, none⟩, c4, by simp [HL.out], ?_, ?_⟩
    · refine OwNd.mono (lo := w2.heap.size) (hi := w4.heap.size) ?_ HB2.out.size (by simp [World.setCell])
      refine ow_of (pa := qa) (cp := cp) ?_
      repeat (first | focus ((with_reducible refine OwBk.other ?_ ?_ _); rotate_left 1; (dsimp only; omega)) | focus ((with_reducible refine OwBk.alloc ?_ ?_ _); rotate_left 1; (simp only [size_set]; omega)))
      have hfin := HOW.out.setPg (k := k) (j := u) (u := true) (d := t) hkl (by rw [← HBK.out]; exact hul)
      rw [← HBK.out] at hfin
      exact hfin
    · have hh := HB4.out
      have hsz := HB2.out.size
      repeat (first | with_reducible refine Below.setCell ?_ ?_ _ | with_reducible refine Below.alloc ?_ ?_ _)
      all_goals first | exact hh | (simp only [size_set]; omega) | (dsimp only; omega)

set_option maxHeartbeats 2000000 in
theorem spec_program (A : Option Addr) (n ca : Nat) (X : List Bk) (bi : Int) (t : ByteArray) (w : World) (ht : t.size ≤ 2147483648) (hX : Small X) (hA : RdBk w w.heap.size A n X) :
    Calls Try.prog 15 #[.agg #[.slice A n ca], .int .i64 bi, .string t] w (RetAns w (progAns X bi t)) := by
  have HL := Lib.hid hA.1
  have hn : n ≤ 1048576 := by have := hX.1; have := hA.1; omega
  have HA := Lib.hid hA; have HX := Lib.hid hX; clear hA hX
  by_cases hbig : 8000 < t.size
  · have HANS : Hid (progAns X bi t = ill 2) := if_pos hbig
    go_enter Try.func15, Try.ntmps15
    go_wp2_with fail
    refine (l02Ill_any _ _).mono ?_
    rintro e wi ⟨rfl, hbi⟩
    have HBI := Lib.hid (bel_step (((Below.refl w.heap.size w).alloc (Nat.le_refl _) _).alloc (by simp) _) hbi)
    have k1 := (isBlk_new (w.alloc _) 29 [.slice none 0 0, .string ⟨#[]⟩, .int .i64 0]).below hbi (by simp)
    simp only [size_alloc] at k1
    obtain ⟨d0, d1, d2, fd0, fd1, fd2⟩ := blk3 k1
    clear hbi k1
    go_wp2
    refine bodyPost_ret (v := .agg #[.slice none 0 0, .string ⟨#[]⟩, .int .i64 2]) (by simp [results, Try.results15, go_sem, d0, d1, d2]) rfl ?_
    rw [HANS.out]
    refine ⟨none, 0, rfl, ow_nil _ _ _ _, ?_⟩
    repeat (with_reducible refine Below.setCell ?_ ?_ _)
    all_goals first | exact HBI.out | (dsimp only; omega)
  go_enter Try.func15, Try.ntmps15
  go_wp2_with fail
  refine (spec_nandRight A n ca X _ HX.out ((HA.out.below (((Below.refl _ _).alloc (Nat.le_refl _) _).alloc (by simp) _)).mono (by simp; omega))).mono ?_
  rintro e w2 ⟨rfl, hb2⟩
  have k0 := ((isBlk_new w 25 [.slice A n ca]).alloc _).below hb2 (by simp; omega)
  have k1 := (isBlk_new (w.alloc _) 29 [.slice none 0 0, .string ⟨#[]⟩, .int .i64 0]).below hb2 (by simp)
  simp only [size_alloc] at k1
  have HB2 := Lib.hid ((((Below.refl w.heap.size w).alloc (Nat.le_refl _) _).alloc (by simp) _).trans (hb2.mono (by simp; omega)))
  have HK0 := Lib.hid k0; have HK1 := Lib.hid k1
  have hx2 : w2.cell? ⟨w.heap.size, 0, none⟩ = some (.slice A n ca) := k0.cell rfl
  clear hb2 k0 k1
  by_cases hok : NdOk X
  · rw [ndB_yes hok]
    go_wp2_with fail
    refine (l02There_any A n ca bi w2 hn).mono ?_
    rintro e w3 ⟨rfl, hb3⟩
    have HB3 := Lib.hid (bel_step HB2.out hb3)
    have HK03 := Lib.hid (HK0.out.below hb3 HK0.out.lt)
    have HK13 := Lib.hid (HK1.out.below hb3 HK1.out.lt)
    have hx3 : w3.cell? ⟨w.heap.size, 0, none⟩ = some (.slice A n ca) := HK03.out.cell rfl
    clear hb3 hx2
    by_cases h0 : 0 ≤ bi ∧ bi ≤ (n : Int) - 1
    · rw [isB_yes h0]
      obtain ⟨k, rfl⟩ : ∃ k : Nat, bi = (k : Int) := ⟨bi.toNat, by omega⟩
      have hkl : k < X.length := by have := HL.out; omega
      have hc := blkCode_ok hok (bi := (k : Int)) (by omega) (by omega)
      by_cases h60 : 60 < t.size
      · have HANS : Hid (progAns X (k : Int) t = ill 1) := by show progAns X (k : Int) t = _; unfold progAns; rw [if_neg hbig, if_neg (by simp [hc]), if_pos h60]
        clear hc h0
        go_wp2_with fail
        refine (l02Ill_any _ w3).mono ?_
        rintro e wi ⟨rfl, hbi⟩
        have HBI := Lib.hid (bel_step HB3.out hbi)
        obtain ⟨d0, d1, d2, fd0, fd1, fd2⟩ := blk3 (HK13.out.below hbi HK13.out.lt)
        clear hbi
        go_wp2
        refine bodyPost_ret (v := .agg #[.slice none 0 0, .string ⟨#[]⟩, .int .i64 1]) (by simp [results, Try.results15, go_sem, d0, d1, d2]) rfl ?_
        rw [HANS.out]
        refine ⟨none, 0, rfl, ow_nil _ _ _ _, ?_⟩
        repeat (with_reducible refine Below.setCell ?_ ?_ _)
        all_goals first | exact HBI.out | (dsimp only; omega)
      · have HANS : Hid (progAns X (k : Int) t = progLate X k t) := by show progAns X (k : Int) t = _; unfold progAns progLate; rw [if_neg hbig, if_neg (by simp [hc]), if_neg h60]; rfl
        have HOK := Lib.hid hok
        clear hc h0 hok
        go_wp2_with fail
        refine (spec_l02Program A n ca k X t w3 HOK.out hkl (rd_step HA.out HB3.out)).mono ?_
        rintro e w4 ⟨A4, c4, rfl, ho4, hb4⟩
        have HB4 := Lib.hid (bel_step HB3.out hb4)
        obtain ⟨d0, d1, d2, fd0, fd1, fd2⟩ := blk3 (HK13.out.below hb4 HK13.out.lt)
        have HO4 := Lib.hid ho4
        have hlt3 := HK13.out.lt
        clear hb4 ho4
        generalize hR : progLate X k t = R at HANS HO4 ⊢
        clear hR
        go_wp2
        refine bodyPost_ret (v := .agg #[.slice A4 R.nd.length c4, .string R.data, .int .i64 R.code]) (by simp [results, Try.results15, go_sem, d0, d1, d2]) rfl ?_
        rw [HANS.out]
        refine ⟨A4, c4, rfl, ?_, ?_⟩
        · refine OwNd.mono (lo := w3.heap.size) (hi := w4.heap.size) (HO4.out.same fun j h1 h2 => ?_) HB3.out.size (by simp only [size_set]; exact Nat.le_refl _)
          rw [Below.heap_setCell _ _ _ _ (by dsimp only; omega), Below.heap_setCell _ _ _ _ (by dsimp only; omega), Below.heap_setCell _ _ _ _ (by dsimp only; omega)]
        · repeat (with_reducible refine Below.setCell ?_ ?_ _)
          all_goals first | exact HB4.out | (dsimp only; omega)
    · rw [isB_no h0]
      have hc := blkCode_none hok (bi := bi) (by rw [HL.out]; omega)
      have HANS : Hid (progAns X bi t = ill 6) := by show progAns X bi t = _; unfold progAns; rw [if_neg hbig, if_pos (by rw [hc]; omega), hc]
      clear hc
      go_wp2_with fail
      refine (l02Ill_any _ w3).mono ?_
      rintro e wi ⟨rfl, hbi⟩
      have HBI := Lib.hid (bel_step HB3.out hbi)
      obtain ⟨d0, d1, d2, fd0, fd1, fd2⟩ := blk3 (HK13.out.below hbi HK13.out.lt)
      clear hbi
      go_wp2
      refine bodyPost_ret (v := .agg #[.slice none 0 0, .string ⟨#[]⟩, .int .i64 6]) (by simp [results, Try.results15, go_sem, d0, d1, d2]) rfl ?_
      rw [HANS.out]
      refine ⟨none, 0, rfl, ow_nil _ _ _ _, ?_⟩
      repeat (with_reducible refine Below.setCell ?_ ?_ _)
      all_goals first | exact HBI.out | (dsimp only; omega)
  · rw [ndB_no hok]
    have hc := blkCode_form hok (bi := bi)
    have HANS : Hid (progAns X bi t = ill 1) := by show progAns X bi t = _; unfold progAns; rw [if_neg hbig, if_pos (by rw [hc]; omega), hc]
    clear hc
    go_wp2_with fail
    refine (l02Ill_any _ w2).mono ?_
    rintro e wi ⟨rfl, hbi⟩
    have HBI := Lib.hid (bel_step HB2.out hbi)
    obtain ⟨d0, d1, d2, fd0, fd1, fd2⟩ := blk3 (HK1.out.below hbi HK1.out.lt)
    clear hbi
    go_wp2
    refine bodyPost_ret (v := .agg #[.slice none 0 0, .string ⟨#[]⟩, .int .i64 1]) (by simp [results, Try.results15, go_sem, d0, d1, d2]) rfl ?_
    rw [HANS.out]
    refine ⟨none, 0, rfl, ow_nil _ _ _ _, ?_⟩
    repeat (with_reducible refine Below.setCell ?_ ?_ _)
    all_goals first | exact HBI.out | (dsimp only; omega)

set_option maxHeartbeats 4000000 in
set_option maxRecDepth 100000 in
theorem spec_pageAt (A : Option Addr) (n ca : Nat) (X : List Bk) (bi pi : Int) (w : World) (hX : Small X) (hA : RdBk w w.heap.size A n X) :
    Calls Try.prog 19 #[.agg #[.slice A n ca], .int .i64 bi, .int .i64 pi] w (RetAns w (pageAns X bi pi)) := by
  have HL := Lib.hid hA.1
  have HA := Lib.hid hA; have HX := Lib.hid hX; clear hA hX
  go_enter Try.func19, Try.ntmps19
  go_wp2_with fail
  refine (spec_l02Code A n ca X bi _ HX.out ((HA.out.below (((Below.refl _ _).alloc (Nat.le_refl _) _).alloc (by simp) _)).mono (by simp; omega))).mono ?_
  rintro e w2 ⟨rfl, hb2⟩
  have k0 := ((isBlk_new w 25 [.slice A n ca]).alloc _).below hb2 (by simp; omega)
  have k1 := (isBlk_new (w.alloc _) 29 [.slice none 0 0, .string ⟨#[]⟩, .int .i64 0]).below hb2 (by simp)
  simp only [size_alloc] at k1
  have HB2 := Lib.hid ((((Below.refl w.heap.size w).alloc (Nat.le_refl _) _).alloc (by simp) _).trans (hb2.mono (by simp; omega)))
  have HK0 := Lib.hid k0; have HK1 := Lib.hid k1
  have hx2 : w2.cell? ⟨w.heap.size, 0, none⟩ = some (.slice A n ca) := k0.cell rfl
  clear hb2 k0 k1
  by_cases hc : blkCode X bi = 0
  · rw [hc]
    obtain ⟨hok, k, rfl, hkl⟩ := blkCode_zero hc
    have hkn : k < n := by have := HL.out; omega
    have hn12 : n ≤ 12 := by have := hok.1; have := HL.out; omega
    go_wp2_with fail
    refine (l02Is_any _ _ _ _).mono ?_
    rintro e w3 ⟨rfl, rfl⟩
    by_cases hp : 0 ≤ pi ∧ pi ≤ 3
    · rw [isB_yes hp]
      obtain ⟨j, rfl⟩ : ∃ j : Nat, pi = (j : Int) := ⟨pi.toNat, by omega⟩
      have hj : j < 4 := by omega
      have HDEF : Hid (pageAns X (k : Int) (j : Int) = if ((X.getD k zeroBk).pages.getD j zeroPg).used = false then ill 10 else ⟨X, ((X.getD k zeroBk).pages.getD j zeroPg).data, 0⟩) := by
        show pageAns X (k : Int) (j : Int) = _; unfold pageAns; rw [if_neg (by simp [hc]), if_neg (by omega)]; rfl
      have HOK := Lib.hid hok
      obtain ⟨g0, off, pA, pc, rfl, hg0, hc0, hc1, hc2, hpg⟩ := (HA.out.below HB2.out).at hkn
      have h4 := (hok.2 k hkl).1
      obtain ⟨b, hb⟩ : ∃ b, b = X.getD k zeroBk := ⟨_, rfl⟩
      rw [← hb] at hc0 hpg h4 HDEF
      have HBK := Lib.hid hb
      rw [h4] at hc0 hpg
      obtain ⟨pg, po, rfl, hpgl, hd0, hd1⟩ := hpg.at hj
      generalize b.pages.getD j zeroPg = q at hd0 hd1 HDEF
      obtain ⟨qu, qd⟩ := q
      simp only at hd0 hd1 HDEF
      have hsz2 := HB2.out.size
      have hg2 : g0 < w2.heap.size := by omega
      have hp2 : pg < w2.heap.size := by omega
      clear hok hc hb hp hpg hc1 hc2
      cases qu with
      | false =>
        have HANS : Hid (pageAns X (k : Int) (j : Int) = ill 10) := HDEF.out
        clear HDEF
        go_wp2_with fail
        refine (l02Ill_any _ w2).mono ?_
        rintro e wi ⟨rfl, hbi⟩
        have HBI := Lib.hid (bel_step HB2.out hbi)
        obtain ⟨d0, d1, d2, fd0, fd1, fd2⟩ := blk3 (HK1.out.below hbi HK1.out.lt)
        clear hbi
        go_wp2
        refine bodyPost_ret (v := .agg #[.slice none 0 0, .string ⟨#[]⟩, .int .i64 10]) (by simp [results, Try.results19, go_sem, d0, d1, d2]) rfl ?_
        rw [HANS.out]
        refine ⟨none, 0, rfl, ow_nil _ _ _ _, ?_⟩
        repeat (with_reducible refine Below.setCell ?_ ?_ _)
        all_goals first | exact HBI.out | (dsimp only; omega)
      | true =>
        have HANS := Lib.hid (HDEF.out.trans (if_neg (by simp)))
        clear HDEF
        have hi0 : (0 : Int) ≤ (j : Int) := by omega
        have hi1 : (j : Int) < 4 := by omega
        have hi2 : (0 : Int) ≤ (k : Int) := by omega
        have hi3 : (k : Int) < (n : Int) := by omega
        have hlt1 := HK1.out.lt
        have hlt0 := HK0.out.lt
        go_wp2
        go_region_held3 (fun w' => w'.cell? ⟨w.heap.size, 0, none⟩ = some (.slice (some ⟨g0, off, none⟩) n ca) ∧ w'.cell? ⟨g0, off + k * 3, none⟩ = some (.slice (some ⟨pg, po, none⟩) 4 pc) ∧ w'.cell? ⟨pg, po + j * 2 + 1, none⟩ = some (.string qd))
          (first | exact ⟨hx2, hc0, hd1⟩ | exact hs5 | exact hs6 | go_keep)
          (first
            | (go_at_call 46
               refine (spec_l02Copy _ n ca X w2.drew HOK.out ((rd_step HA.out HB2.out).below (Below.refl _ _).drew)).mono ?_
               rintro e w5 ⟨A5, c5, rfl, ho5, hb5'⟩
               have hb5 : Below w2.heap.size w2 w5 := Below.trans (Below.refl _ _).drew hb5'
               have hs5 : w5.cell? ⟨w.heap.size, 0, none⟩ = some (.slice (some ⟨g0, off, none⟩) n ca) ∧ w5.cell? ⟨g0, off + k * 3, none⟩ = some (.slice (some ⟨pg, po, none⟩) 4 pc) ∧ w5.cell? ⟨pg, po + j * 2 + 1, none⟩ = some (.string qd) :=
                 ⟨(hb5.cell (p := ⟨w.heap.size, 0, none⟩) hlt0).trans hx2, (hb5.cell (p := ⟨g0, off + k * 3, none⟩) hg2).trans hc0, (hb5.cell (p := ⟨pg, po + j * 2 + 1, none⟩) hp2).trans hd1⟩
               have k15 := HK1.out.below hb5 HK1.out.lt
               obtain ⟨d0, d1, d2, fd0, fd1, fd2⟩ := blk3 k15
               have hs6 : (((w5.setCell ⟨w.heap.size + 1, 0, none⟩ (.slice A5 n c5)).setCell ⟨w.heap.size + 1, 1, none⟩ (.string qd)).setCell ⟨w.heap.size + 1, 2, none⟩ (.int .i64 0)).cell? ⟨w.heap.size, 0, none⟩ = some (.slice (some ⟨g0, off, none⟩) n ca) ∧
                   (((w5.setCell ⟨w.heap.size + 1, 0, none⟩ (.slice A5 n c5)).setCell ⟨w.heap.size + 1, 1, none⟩ (.string qd)).setCell ⟨w.heap.size + 1, 2, none⟩ (.int .i64 0)).cell? ⟨g0, off + k * 3, none⟩ = some (.slice (some ⟨pg, po, none⟩) 4 pc) ∧
                   (((w5.setCell ⟨w.heap.size + 1, 0, none⟩ (.slice A5 n c5)).setCell ⟨w.heap.size + 1, 1, none⟩ (.string qd)).setCell ⟨w.heap.size + 1, 2, none⟩ (.int .i64 0)).cell? ⟨pg, po + j * 2 + 1, none⟩ = some (.string qd) := by
                 have o1 : ∀ (W : World) (i : Nat) (u : Value), (W.setCell ⟨w.heap.size + 1, i, none⟩ u).cell? ⟨w.heap.size, 0, none⟩ = W.cell? ⟨w.heap.size, 0, none⟩ := fun W i u => World.cell?_setCell_other _ _ _ _ (by simp)
                 have o2 : ∀ (W : World) (i : Nat) (u : Value), (W.setCell ⟨w.heap.size + 1, i, none⟩ u).cell? ⟨g0, off + k * 3, none⟩ = W.cell? ⟨g0, off + k * 3, none⟩ := fun W i u => World.cell?_setCell_other _ _ _ _ (by simp)
                 have o3 : ∀ (W : World) (i : Nat) (u : Value), (W.setCell ⟨w.heap.size + 1, i, none⟩ u).cell? ⟨pg, po + j * 2 + 1, none⟩ = W.cell? ⟨pg, po + j * 2 + 1, none⟩ := fun W i u => World.cell?_setCell_other _ _ _ _ (by simp)
                 rw [o1, o1, o1, o2, o2, o2, o3, o3, o3]
                 exact hs5
               have HO5 : Hid (OwNd w5 w2.heap.size w5.heap.size A5 X.length X) := ho5
               have HB5 := Lib.hid (bel_step HB2.out hb5)
               have h25 := hb5.size
               rw [HL.out] at HO5
               rw [HL.out]
               clear ho5 hb5 hb5' k15))
        all_goals
          go_wp2
          refine bodyPost_ret (v := .agg #[.slice A5 n c5, .string qd, .int .i64 0]) (by simp [results, Try.results19, go_sem, d0, d1, d2]) rfl ?_
          rw [HANS.out]
          refine ⟨A5, c5, by rw [HL.out], ?_, ?_⟩
          · rw [HL.out]
            refine OwNd.mono (lo := w2.heap.size) (hi := w5.heap.size) (HO5.out.same fun j h1 h2 => ?_) HB2.out.size (by simp only [size_set]; exact Nat.le_refl _)
            rw [Below.heap_setCell _ _ _ _ (by dsimp only; omega), Below.heap_setCell _ _ _ _ (by dsimp only; omega), Below.heap_setCell _ _ _ _ (by dsimp only; omega)]
          · repeat (with_reducible refine Below.setCell ?_ ?_ _)
            all_goals first | exact HB5.out | (dsimp only; omega)
    · rw [isB_no hp]
      have HANS : Hid (pageAns X (k : Int) pi = ill 8) := by show pageAns X (k : Int) pi = _; unfold pageAns; rw [if_neg (by simp [hc]), if_pos (by omega)]
      clear hok hc
      go_wp2_with fail
      refine (l02Ill_any _ w2).mono ?_
      rintro e wi ⟨rfl, hbi⟩
      have HBI := Lib.hid (bel_step HB2.out hbi)
      obtain ⟨d0, d1, d2, fd0, fd1, fd2⟩ := blk3 (HK1.out.below hbi HK1.out.lt)
      clear hbi
      go_wp2
      refine bodyPost_ret (v := .agg #[.slice none 0 0, .string ⟨#[]⟩, .int .i64 8]) (by simp [results, Try.results19, go_sem, d0, d1, d2]) rfl ?_
      rw [HANS.out]
      refine ⟨none, 0, rfl, ow_nil _ _ _ _, ?_⟩
      repeat (with_reducible refine Below.setCell ?_ ?_ _)
      all_goals first | exact HBI.out | (dsimp only; omega)
  · have hne : (blkCode X bi == 0) = false := by simpa using hc
    have HANS : Hid (pageAns X bi pi = ill (blkCode X bi)) := by show pageAns X bi pi = _; unfold pageAns; rw [if_pos hc]
    go_wp2_with fail
    refine (l02Ill_any _ w2).mono ?_
    rintro e wi ⟨rfl, hbi⟩
    have HBI := Lib.hid (bel_step HB2.out hbi)
    obtain ⟨d0, d1, d2, fd0, fd1, fd2⟩ := blk3 (HK1.out.below hbi HK1.out.lt)
    clear hbi
    go_wp2
    refine bodyPost_ret (v := .agg #[.slice none 0 0, .string ⟨#[]⟩, .int .i64 (blkCode X bi)]) (by simp [results, Try.results19, go_sem, d0, d1, d2]) rfl ?_
    rw [HANS.out]
    refine ⟨none, 0, rfl, ow_nil _ _ _ _, ?_⟩
    repeat (with_reducible refine Below.setCell ?_ ?_ _)
    all_goals first | exact HBI.out | (dsimp only; omega)
end Go.Proofs.Ytdgmpllonnddmaa
