/-
  Program and PageAt, of the document's model.
-/
import Derived.Test.YtimlaeicbnnbdaaDoorChecked
import Derived.Test.YtimlaeicbnnbdaaDoorNdSpec2
namespace Go.Proofs.YtimlaeicbnnbdaaDoor
open Go.RowKit

open Classical in
noncomputable def progLate (X : List Bk) (k : Nat) (t : ByteArray) : NdAns :=
  if (X.getD k zeroBk).bad = true then ill 11 else if uPre (X.getD k zeroBk).pages = 4 then ill 9
  else ⟨X.set k ⟨(X.getD k zeroBk).pages.set (uPre (X.getD k zeroBk).pages) ⟨true, t⟩, (X.getD k zeroBk).erases, (X.getD k zeroBk).bad⟩, ⟨#[]⟩, 0⟩

set_option maxHeartbeats 2000000 in
set_option maxRecDepth 100000 in
theorem spec_l02Program (A : Option Addr) (n ca k : Nat) (X : List Bk) (t : ByteArray) (w : World) (hok : NdOk X) (hkl : k < X.length) (hA : RdBk w w.heap.size A n X) :
    Calls Tryd.prog 52 #[.agg #[.slice A n ca], .int .i64 (k : Int), .string t] w (RetAns w (progLate X k t)) := by
  have HL := Lib.hid hA.1
  have HA := Lib.hid hA; have HOK := Lib.hid hok
  have hkn : k < n := by have := hA.1; omega
  have hn12 : n ≤ 12 := by have := hok.1; have := HL.out; omega
  clear hA
  obtain ⟨g0, off, pA, pc, rfl, hg0, hc0, hc1, hc2, hpg⟩ := HA.out.at hkn
  have h4 := (hok.2 k hkl).1
  have HU := Lib.hid (nUsed_ok (hok.2 k hkl))
  obtain ⟨b, hb⟩ : ∃ b, b = X.getD k zeroBk := ⟨_, rfl⟩
  have HDEF : Hid (progLate X k t = if b.bad = true then ill 11 else if uPre b.pages = 4 then ill 9 else ⟨X.set k ⟨b.pages.set (uPre b.pages) ⟨true, t⟩, b.erases, b.bad⟩, ⟨#[]⟩, 0⟩) := by show progLate X k t = _; unfold progLate; rw [← hb]
  have HPG := Lib.hid hpg
  rw [← hb] at hc0 hc1 hc2 HPG h4 HU
  have HBK := Lib.hid hb
  clear hok hb hpg
  obtain ⟨ps, er, bd⟩ := b
  simp only at hc0 hc1 hc2 HPG h4 HU HDEF
  obtain ⟨pa0, pb0, pc0, pd0, rfl⟩ := four_of_length h4
  clear h4
  have hx0 : (w.alloc (.cells #[.slice (some ⟨g0, off, none⟩) n ca] 30)).cell? ⟨w.heap.size, 0, none⟩ = some (.slice (some ⟨g0, off, none⟩) n ca) := (isBlk_new w 30 [.slice (some ⟨g0, off, none⟩) n ca]).cell rfl
  go_enter Tryd.func52, Tryd.ntmps52
  go_wp2_with fail
  refine (l02Used_any _ _ _ [pa0, pb0, pc0, pd0] _ _ _ (by simp) ((HPG.out.below (((Below.refl _ _).alloc (Nat.le_refl _) _).alloc (by simp) _)).mono (by simp; omega))).mono ?_
  rintro e w2 ⟨rfl, hb2⟩
  have k0 := ((isBlk_new w 30 [.slice (some ⟨g0, off, none⟩) n ca]).alloc _).below hb2 (by simp; omega)
  have k1 := (isBlk_new (w.alloc _) 41 [.slice none 0 0, .string ⟨#[]⟩, .int .i64 0]).below hb2 (by simp)
  simp only [size_alloc] at k1
  have hbw := (((Below.refl w.heap.size w).alloc (Nat.le_refl _) _).alloc (by simp) _).trans (hb2.mono (by simp; omega))
  have HB2 := Lib.hid hbw
  have HK0 := Lib.hid k0; have HK1 := Lib.hid k1
  have hx2 : w2.cell? ⟨w.heap.size, 0, none⟩ = some (.slice (some ⟨g0, off, none⟩) n ca) := k0.cell rfl
  have e2 : w2.cell? ⟨g0, off + k * 3 + 2, none⟩ = some (.bool bd) := (hbw.cell (p := ⟨g0, off + k * 3 + 2, none⟩) hg0).trans hc2
  clear hb2 k0 k1 hbw hx0 hc0 hc1 hc2
  rw [HU.out]
  obtain ⟨u, hu⟩ : ∃ u, u = uPre [pa0, pb0, pc0, pd0] := ⟨_, rfl⟩
  have hule : u ≤ 4 := by rw [hu]; exact uPre_le [pa0, pb0, pc0, pd0]
  rw [← hu] at HDEF
  rw [← hu]
  clear hu HU
  cases bd with
  | true =>
    have HANS : Hid (progLate X k t = ill 11) := HDEF.out.trans (if_pos rfl)
    go_wp2_with fail
    refine (l02Ill_any _ w2).mono ?_
    rintro e wi ⟨rfl, hbi⟩
    have HBI := Lib.hid (bel_step HB2.out hbi)
    obtain ⟨d0, d1, d2, fd0, fd1, fd2⟩ := blk3 (HK1.out.below hbi HK1.out.lt)
    clear hbi
    go_wp2
    refine bodyPost_ret (v := .agg #[.slice none 0 0, .string ⟨#[]⟩, .int .i64 11]) (by simp [results, Tryd.results52, go_sem, d0, d1, d2]) rfl ?_
    rw [HANS.out]
    refine ⟨none, 0, rfl, ow_nil _ _ _ _, ?_⟩
    repeat (with_reducible refine Below.setCell ?_ ?_ _)
    all_goals first | exact HBI.out | (dsimp only; omega)
  | false =>
    by_cases hu4 : u = 4
    · have HANS := Lib.hid ((HDEF.out.trans (if_neg (by simp))).trans (if_pos hu4))
      subst hu4
      clear HDEF
      go_wp2_with fail
      refine (l02Ill_any _ w2).mono ?_
      rintro e wi ⟨rfl, hbi⟩
      have HBI := Lib.hid (bel_step HB2.out hbi)
      obtain ⟨d0, d1, d2, fd0, fd1, fd2⟩ := blk3 (HK1.out.below hbi HK1.out.lt)
      clear hbi
      go_wp2
      refine bodyPost_ret (v := .agg #[.slice none 0 0, .string ⟨#[]⟩, .int .i64 9]) (by simp [results, Tryd.results52, go_sem, d0, d1, d2]) rfl ?_
      rw [HANS.out]
      refine ⟨none, 0, rfl, ow_nil _ _ _ _, ?_⟩
      repeat (with_reducible refine Below.setCell ?_ ?_ _)
      all_goals first | exact HBI.out | (dsimp only; omega)
    have HANS := Lib.hid ((HDEF.out.trans (if_neg (by simp))).trans (if_neg hu4))
    have hul : u < 4 := by omega
    have hul' : decide ((4 : Int) ≤ (u : Int)) = false := by simp; omega
    clear HDEF hu4
    go_wp2_with fail
    refine (spec_l02Copy _ n ca X w2 HOK.out (rd_step HA.out HB2.out)).mono ?_
    rintro e w4 ⟨A4, c4, rfl, ho4, hb4⟩
    obtain ⟨g, qa, cp, rfl, how⟩ := ow_at ho4 hkl
    have HB4 := Lib.hid (bel_step HB2.out hb4)
    have HK14 := Lib.hid (HK1.out.below hb4 HK1.out.lt)
    have hlt1 := HK1.out.lt
    have h24 := hb4.size
    rw [HL.out]
    obtain ⟨⟨e0, -, -⟩, ⟨fe0, -, -⟩, hgl⟩ := how.cells hkl
    have HPGk : Hid (OwPg w4 (qa k) (X.getD k zeroBk).pages) := how.pages k hkl
    have hqk := how.lo' k hkl
    have hlo := how.at_lo
    rw [← HBK.out] at e0 HPGk
    simp only at e0 HPGk
    have p0 := Row.cell HPGk.out (i := u * 2) (by simp; omega)
    have p1 := Row.cell HPGk.out (i := u * 2 + 1) (by simp; omega)
    have fp0 := Row.free HPGk.out (u * 2)
    have fp1 := Row.free HPGk.out (u * 2 + 1)
    have hql := Row.lt HPGk.out
    have HOW := Lib.hid how
    obtain ⟨d0, d1, d2, fd0, fd1, fd2⟩ := blk3 HK14.out
    have ne1 : ¬ g = qa k := by have := hqk.2.2; omega
    have ne1' : ¬ qa k = g := by have := hqk.2.2; omega
    have ne2 : ¬ qa k = w4.heap.size := by omega
    have ne2' : ¬ w4.heap.size = qa k := by omega
    have ne3 : ¬ qa k = w.heap.size + 1 := by omega
    have ne3' : ¬ w.heap.size + 1 = qa k := by omega
    have lt5 : w.heap.size + 1 < w4.heap.size := by omega
    clear hb4 ho4 how hx2 e2
    go_wp2
    refine bodyPost_ret (v := .agg #[.slice (some ⟨g, 0, none⟩) n c4, .string ⟨#[]⟩, .int .i64 0]) (by simp [results, Tryd.results52, go_sem, d0, d1, d2, lt5]) rfl ?_
    rw [HANS.out]
    refine ⟨some ⟨g, 0, none⟩, c4, by simp [HL.out], ?_, ?_⟩
    · refine OwNd.mono (lo := w2.heap.size) (hi := w4.heap.size) ?_ HB2.out.size (by simp [World.setCell])
      refine ow_of (pa := qa) (cp := cp) ?_
      repeat (first | focus ((with_reducible refine OwBk.other ?_ ?_ _); rotate_left 1; (dsimp only; omega)) | focus ((with_reducible refine OwBk.alloc ?_ ?_ _); rotate_left 1; (simp only [size_set]; omega)))
      have hfin := HOW.out.setPg (k := k) (j := u) (u := true) (d := t) hkl (by rw [← HBK.out]; exact hul)
      rw [← HBK.out] at hfin
      exact hfin
    · have hh := HB4.out
      have hsz := HB2.out.size
      repeat (first | with_reducible refine Below.setCell ?_ ?_ _ | with_reducible refine Below.alloc ?_ ?_ _)
      all_goals first | exact hh | (simp only [size_set]; omega) | (dsimp only; omega)

end Go.Proofs.YtimlaeicbnnbdaaDoor
