/-
  Program, of the program.
-/
import Derived.Test.YtimlaeicbnnbdaaDoorChecked
import Derived.Test.YtimlaeicbnnbdaaDoorNdImp
namespace Go.Proofs.YtimlaeicbnnbdaaDoor
open Go.RowKit

def progCode (b : Bk) (d : ByteArray) : Int := if 60 < d.size then 1 else if b.bad = true then 11 else if uPre b.pages = 4 then 9 else 0

set_option maxHeartbeats 1000000 in
set_option maxRecDepth 100000 in
theorem programCode_any (A : Option Addr) (ca : Nat) (a b c d : Pg) (er : Int) (bad : Bool) (t : ByteArray) (w : World) (ht : t.size ≤ 2147483648) (hA : RdPg w w.heap.size A 4 [a, b, c, d]) :
    Calls Tryd.prog 93 #[.agg #[.slice A 4 ca, .int .i64 er, .bool bad], .string t] w fun e w' => e = .returned (.int .i64 (progCode ⟨[a, b, c, d], er, bad⟩ t)) ∧ Below w.heap.size w w' := by
  have HA := Lib.hid hA; clear hA
  by_cases h60 : 60 < t.size
  · have HC : Hid (progCode ⟨[a, b, c, d], er, bad⟩ t = 1) := if_pos h60
    go_enter Tryd.func93, Tryd.ntmps93
    go_wp2
    go_ret
    exact ⟨ret_i HC.out.symm, box_below _ _⟩
  cases bad with
  | true =>
    have HC : Hid (progCode ⟨[a, b, c, d], er, true⟩ t = 11) := (if_neg h60).trans (if_pos rfl)
    go_enter Tryd.func93, Tryd.ntmps93
    go_wp2
    go_ret
    exact ⟨ret_i HC.out.symm, box_below _ _⟩
  | false =>
    have HC : Hid (progCode ⟨[a, b, c, d], er, false⟩ t = if uPre [a, b, c, d] = 4 then 9 else 0) := (if_neg h60).trans (if_neg (by simp))
    go_enter Tryd.func93, Tryd.ntmps93
    go_wp2_with fail
    refine (pagesOf_any A ca a b c d er false _ ((HA.out.below (box_below _ _)).mono (box_below _ _).size)).mono ?_
    rintro e w3 ⟨rfl, hb3⟩
    have HB3 := Lib.hid (bel_step (box_below w _) hb3)
    clear hb3
    go_wp2_with fail
    refine (used_any a b c d w3).mono ?_
    rintro e w4 ⟨rfl, hb4⟩
    have HB4 := Lib.hid (bel_step HB3.out hb4)
    clear hb4
    obtain ⟨u, hu⟩ : ∃ u, u = uPre [a, b, c, d] := ⟨_, rfl⟩
    rw [← hu] at HC
    rw [← hu]
    clear hu
    by_cases h4 : u = 4
    · subst h4
      have HC2 : Hid (progCode ⟨[a, b, c, d], er, false⟩ t = 9) := HC.out
      clear HC
      go_wp2
      go_ret
      exact ⟨ret_i HC2.out.symm, HB4.out⟩
    · have HC2 := Lib.hid (HC.out.trans (if_neg h4))
      have h4' : ((u : Int) == 4) = false := by simp; omega
      have h4'' : (u == 4) = false := by simpa using h4
      clear HC
      go_wp2
      go_ret
      exact ⟨ret_i HC2.out.symm, HB4.out⟩

/-- one string assembled is that string -/
theorem assemble_one (t : ByteArray) (g cap : Nat) (w : World) (hc : w.cell? ⟨g, 0, none⟩ = some (.string t)) (ht : t.size ≤ 2147483648) :
    Calls Tryd.prog 62 #[.slice (some ⟨g, 0, none⟩) 1 cap] w fun e w' => e = .returned (.string t) ∧ Below w.heap.size w w' := by
  have h := assemble_any [t] g 0 cap w (fun i hi => by
    match i, hi with
    | 0, _ => simpa using hc) (by have := World.block_lt_of_cell? _ _ hc; simpa using this) (by simp) (by rw [flat_one, len_list]; exact ht)
  have e : strV t.data.toList = .string t := by rw [strV, bstr_of]
  rw [flat_one, e] at h
  exact h

set_option maxHeartbeats 4000000 in
set_option maxRecDepth 100000 in
theorem impl_program (A : Option Addr) (n ca : Nat) (X : List Bk) (bi : Int) (t : ByteArray) (w : World) (ht : t.size ≤ 2147483648) (hX : Small X) (hA : RdBk w w.heap.size A n X) :
    Calls Tryd.prog 61 #[.agg #[.slice A n ca], .int .i64 bi, .string t] w (RetAns w (progAns X bi t)) := by
  have HL := Lib.hid hA.1
  have HA := Lib.hid hA; have HX := Lib.hid hX; clear hA hX
  by_cases hbig : 8000 < t.size
  · have HANS : Hid (progAns X bi t = ill 2) := if_pos hbig
    go_enter Tryd.func61, Tryd.ntmps61
    go_wp2
    refine bodyPost_ret (v := .agg #[.slice none 0 0, .string ⟨#[]⟩, .int .i64 2]) (by simp [results, Tryd.results61, go_sem]) rfl ?_
    rw [HANS.out]
    exact ⟨none, 0, rfl, ow_nil _ _ _ _, ((Below.refl _ _).alloc (Nat.le_refl _) _).alloc (by simp) _⟩
  go_enter Tryd.func61, Tryd.ntmps61
  go_wp2_with fail
  refine (impl_blockCode A n ca X bi _ HX.out ((HA.out.below (((Below.refl _ _).alloc (Nat.le_refl _) _).alloc (by simp) _)).mono (by simp; omega))).mono ?_
  rintro e w2 ⟨rfl, hb2⟩
  have k0 := ((isBlk_new w 30 [.slice A n ca]).alloc _).below hb2 (by simp; omega)
  have k1 := (isBlk_new (w.alloc _) 41 [.slice none 0 0, .string ⟨#[]⟩, .int .i64 0]).below hb2 (by simp)
  simp only [size_alloc] at k1
  have HB2 := Lib.hid ((((Below.refl w.heap.size w).alloc (Nat.le_refl _) _).alloc (by simp) _).trans (hb2.mono (by simp; omega)))
  have HK0 := Lib.hid k0; have HK1 := Lib.hid k1
  have hx2 : w2.cell? ⟨w.heap.size, 0, none⟩ = some (.slice A n ca) := k0.cell rfl
  clear hb2 k0 k1
  by_cases hc : blkCode X bi = 0
  · rw [hc]
    obtain ⟨hok, k, rfl, hkl⟩ := blkCode_zero hc
    have HDEF : Hid (progAns X (k : Int) t = if 60 < t.size then ill 1 else if (X.getD k zeroBk).bad = true then ill 11 else if uPre (X.getD k zeroBk).pages = 4 then ill 9
        else ⟨X.set k ⟨(X.getD k zeroBk).pages.set (uPre (X.getD k zeroBk).pages) ⟨true, t⟩, (X.getD k zeroBk).erases, (X.getD k zeroBk).bad⟩, ⟨#[]⟩, 0⟩) := by
      show progAns X (k : Int) t = _; unfold progAns; rw [if_neg hbig, if_neg (by simp [hc])]; rfl
    have HOK := Lib.hid hok
    have hkn : k < n := by have := HL.out; omega
    have hn12 : n ≤ 12 := by have := hok.1; have := HL.out; omega
    obtain ⟨g0, off, pA, pc, rfl, hg0, hc0, hc1, hc2, hpg⟩ := (HA.out.below HB2.out).at hkn
    have h4 := (hok.2 k hkl).1
    obtain ⟨b, hb⟩ : ∃ b, b = X.getD k zeroBk := ⟨_, rfl⟩
    have HPG := Lib.hid (hpg.mono HB2.out.size)
    rw [← hb] at hc0 hc1 hc2 HDEF HPG h4
    have HBK := Lib.hid hb
    clear hok hc hb hpg
    obtain ⟨ps, er, bd⟩ := b
    simp only at hc0 hc1 hc2 HPG h4 HDEF
    obtain ⟨pa0, pb0, pc0, pd0, rfl⟩ := four_of_length h4
    clear h4
    go_wp2_with fail
    refine (programCode_any pA pc pa0 pb0 pc0 pd0 er bd t w2 ht HPG.out).mono ?_
    rintro e w3 ⟨rfl, hb3⟩
    have HB3 := Lib.hid (bel_step HB2.out hb3)
    have HK03 := Lib.hid (HK0.out.below hb3 HK0.out.lt)
    have HK13 := Lib.hid (HK1.out.below hb3 HK1.out.lt)
    have h23 := hb3.size
    have hlt1 := HK1.out.lt
    have hx3 : w3.cell? ⟨w.heap.size, 0, none⟩ = some (.slice (some ⟨g0, off, none⟩) n ca) := HK03.out.cell rfl
    have HPG3 := Lib.hid ((HPG.out.below hb3).mono hb3.size)
    clear hb3 hx2 hc0 hc1 hc2
    by_cases hpc : progCode ⟨[pa0, pb0, pc0, pd0], er, bd⟩ t = 0
    · rw [hpc]
      have h60 : ¬ 60 < t.size := by intro h; rw [progCode, if_pos h] at hpc; omega
      have hbd : ¬ bd = true := by intro h; rw [progCode, if_neg h60, if_pos h] at hpc; omega
      have hu4 : ¬ uPre [pa0, pb0, pc0, pd0] = 4 := by intro h; rw [progCode, if_neg h60, if_neg hbd, if_pos h] at hpc; omega
      have HANS := Lib.hid (((HDEF.out.trans (if_neg h60)).trans (if_neg hbd)).trans (if_neg hu4))
      have hule : uPre [pa0, pb0, pc0, pd0] ≤ 4 := uPre_le [pa0, pb0, pc0, pd0]
      clear HDEF hpc hbd
      go_wp2_with fail
      refine (impl_copyNand _ n ca X w3 HX.out HOK.out (rd_step HA.out HB3.out)).mono ?_
      rintro e w4 ⟨A4, c4, rfl, ho4, hb4⟩
      obtain ⟨g, qa, cp, rfl, how⟩ := ow_at ho4 hkl
      have HB4 := Lib.hid (bel_step HB3.out hb4)
      have HK04 := Lib.hid (HK03.out.below hb4 HK03.out.lt)
      have HK14 := Lib.hid (HK13.out.below hb4 HK13.out.lt)
      have h34 := hb4.size
      rw [HL.out]
      have hx4 : w4.cell? ⟨w.heap.size, 0, none⟩ = some (.slice (some ⟨g0, off, none⟩) n ca) := HK04.out.cell rfl
      have HPG4 := Lib.hid ((HPG3.out.below hb4).mono hb4.size)
      obtain ⟨g1, off1, pA1, pc1, he, -, hc0, hc1, hc2, hpg1⟩ := (HA.out.below HB4.out).at hkn
      injection he with he; injection he with he1 he2; subst he1 he2
      rw [← HBK.out] at hc0 hc1 hc2 hpg1
      simp only at hc0 hc1 hc2 hpg1
      have HPG41 := Lib.hid (hpg1.mono HB4.out.size)
      have hg4 : g0 < w4.heap.size := Nat.lt_of_lt_of_le hg0 HB4.out.size
      have hw4 : w.heap.size < w4.heap.size := HK04.out.lt
      clear hb4 ho4 hx3 hpg1
      go_wp2_with fail
      have k5 := isBlk_new w4 30 [.slice (some ⟨g, 0, none⟩) n c4]
      have hb5 := box_below w4 (.cells #[.slice (some ⟨g, 0, none⟩) n c4] 30)
      change Calls _ _ _ (w4.alloc (.cells #[.slice (some ⟨g, 0, none⟩) n c4] 30)) _
      generalize w4.alloc (.cells #[.slice (some ⟨g, 0, none⟩) n c4] 30) = w5 at k5 hb5 ⊢
      refine (pagesOf_any _ _ pa0 pb0 pc0 pd0 _ _ w5 ((HPG41.out.below hb5).mono hb5.size)).mono ?_
      rintro e w6 ⟨rfl, hb6⟩
      have hb56 := hb5.trans (hb6.mono hb5.size)
      have HB56 := Lib.hid hb56
      have HK6 := Lib.hid (k5.below hb6 k5.lt)
      have hw45 := k5.lt
      clear hb5 hb6 k5 hb56
      go_wp2_with fail
      refine (used_any pa0 pb0 pc0 pd0 w6).mono ?_
      rintro e w7 ⟨rfl, hb7⟩
      have HB47 : Hid (Below w4.heap.size w4 w7) := bel_step HB56.out hb7
      have HK7 := Lib.hid (HK6.out.below hb7 HK6.out.lt)
      have HK17 := Lib.hid (HK14.out.below HB47.out HK14.out.lt)
      have HOW := Lib.hid ((how.below HB47.out (Nat.le_refl _)).mono (Nat.le_refl _) HB47.out.size)
      have h47 := HB47.out.size
      have hx7 : w7.cell? ⟨w4.heap.size, 0, none⟩ = some (.slice (some ⟨g, 0, none⟩) n c4) := HK7.out.cell rfl
      have hlt7 := HK7.out.lt
      obtain ⟨⟨e0, -, -⟩, ⟨fe0, -, -⟩, hgl⟩ := HOW.out.cells hkl
      have HPGk : Hid (OwPg w7 (qa k) (X.getD k zeroBk).pages) := HOW.out.pages k hkl
      have hqk := HOW.out.lo' k hkl
      have hlo := HOW.out.at_lo
      rw [← HBK.out] at e0 HPGk
      simp only at e0 HPGk
      clear hb7 hx4 hc0 hc1 hc2
      obtain ⟨u, hu⟩ : ∃ u, u = uPre [pa0, pb0, pc0, pd0] := ⟨_, rfl⟩
      rw [← hu] at hu4 hule HANS
      rw [← hu]
      clear hu
      have hul : u < 4 := by omega
      have p0 := Row.cell HPGk.out (i := u * 2) (by simp; omega)
      have p1 := Row.cell HPGk.out (i := u * 2 + 1) (by simp; omega)
      have fp0 := Row.free HPGk.out (u * 2)
      have fp1 := Row.free HPGk.out (u * 2 + 1)
      have hql := Row.lt HPGk.out
      go_wp2
      have hi0 : (0 : Int) ≤ (u : Int) := by omega
      have hi1 : (u : Int) < 4 := by omega
      have hi2 : (0 : Int) ≤ (k : Int) := by omega
      have hi3 : (k : Int) < (n : Int) := by omega
      have ne1 : ¬ g = qa k := by have := hqk.2.2; omega
      have ne2 : ¬ w4.heap.size = qa k := by have := (how.lo' k hkl).2.1; omega
      go_region_held3 (fun w' => w'.cell? ⟨w4.heap.size, 0, none⟩ = some (.slice (some ⟨g, 0, none⟩) n c4) ∧ w'.cell? ⟨g, k * 3, none⟩ = some (.slice (some ⟨qa k, 0, none⟩) 4 (cp k)))
        (first | exact ⟨hx7, e0⟩ | exact hs8 | exact hs9 | go_keep)
        (first
          | (go_at_call 62
             refine (assemble_one t w7.heap.size 1 ((w7.alloc (.cells #[.string t] 9)).drew) (by simp) ht).mono ?_
             rintro e w8 ⟨rfl, hb8⟩
             have hb78 : Below w7.heap.size w7 w8 := ((box_below w7 _).drew).trans (hb8.mono (by simp))
             have hs8 : w8.cell? ⟨w4.heap.size, 0, none⟩ = some (.slice (some ⟨g, 0, none⟩) n c4) ∧ w8.cell? ⟨g, k * 3, none⟩ = some (.slice (some ⟨qa k, 0, none⟩) 4 (cp k)) :=
               ⟨(hb78.cell (p := ⟨w4.heap.size, 0, none⟩) hlt7).trans hx7, (hb78.cell (p := ⟨g, k * 3, none⟩) hgl).trans e0⟩
             have p08 : w8.cell? ⟨qa k, u * 2, none⟩ = some _ := (hb78.cell (p := ⟨qa k, u * 2, none⟩) hql).trans p0
             have p18 : w8.cell? ⟨qa k, u * 2 + 1, none⟩ = some _ := (hb78.cell (p := ⟨qa k, u * 2 + 1, none⟩) hql).trans p1
             have fp08 : w8.frozen? ⟨qa k, u * 2, none⟩ = false := (hb78.frozen (p := ⟨qa k, u * 2, none⟩) hql).trans fp0
             have fp18 : w8.frozen? ⟨qa k, u * 2 + 1, none⟩ = false := (hb78.frozen (p := ⟨qa k, u * 2 + 1, none⟩) hql).trans fp1
             have hs9 : ((w8.setCell ⟨qa k, u * 2, none⟩ (.bool true)).setCell ⟨qa k, u * 2 + 1, none⟩ (.string t)).cell? ⟨w4.heap.size, 0, none⟩ = some (.slice (some ⟨g, 0, none⟩) n c4) ∧
                 ((w8.setCell ⟨qa k, u * 2, none⟩ (.bool true)).setCell ⟨qa k, u * 2 + 1, none⟩ (.string t)).cell? ⟨g, k * 3, none⟩ = some (.slice (some ⟨qa k, 0, none⟩) 4 (cp k)) :=
               ⟨(World.cell?_setCell_other _ _ _ _ (by simp)).trans ((World.cell?_setCell_other _ _ _ _ (by simp)).trans hs8.1), (World.cell?_setCell_other _ _ _ _ (by simp)).trans ((World.cell?_setCell_other _ _ _ _ (by simp)).trans hs8.2)⟩
             have HB78 := Lib.hid hb78
             clear hb8 hb78))
      all_goals
        have hb9 : Below w.heap.size w ((w8.setCell ⟨qa k, u * 2, none⟩ (.bool true)).setCell ⟨qa k, u * 2 + 1, none⟩ (.string t)) := ((bel_step (bel_step HB4.out HB47.out) HB78.out).setCell (by have := HB3.out.size; dsimp only; omega) _).setCell (by have := HB3.out.size; dsimp only; omega) _
        have how9 := (HOW.out.below HB78.out (Nat.le_refl _)).setPg (k := k) (j := u) (u := true) (d := t) hkl (by rw [← HBK.out]; exact hul)
        have k19 := ((HK17.out.below HB78.out HK17.out.lt).other (a := ⟨qa k, u * 2, none⟩) (by dsimp only; omega) (.bool true)).other (a := ⟨qa k, u * 2 + 1, none⟩) (by dsimp only; omega) (.string t)
        have hs9z : ((w8.setCell ⟨qa k, u * 2, none⟩ (.bool true)).setCell ⟨qa k, u * 2 + 1, none⟩ (.string t)).heap.size = w8.heap.size := by simp only [size_set]
        generalize (w8.setCell ⟨qa k, u * 2, none⟩ (.bool true)).setCell ⟨qa k, u * 2 + 1, none⟩ (.string t) = w9 at hb9 how9 k19 hs9z hs9 ⊢
        obtain ⟨x9, -⟩ := hs9
        obtain ⟨d0, d1, d2, fd0, fd1, fd2⟩ := blk3 k19
        rw [← HBK.out] at how9
        have HOW9 := Lib.hid how9; have HB9 := Lib.hid hb9; have HSZ := Lib.hid hs9z
        have h78 := HB78.out.size
        clear how9 hb9 k19 hs9z hs8 p08 p18 fp08 fp18 p0 p1 fp0 fp1 e0 fe0 hx7
        go_wp2
        refine bodyPost_ret (v := .agg #[.slice (some ⟨g, 0, none⟩) n c4, .string ⟨#[]⟩, .int .i64 0]) (by simp [results, Tryd.results61, go_sem, d0, d1, d2]) rfl ?_
        rw [HANS.out]
        refine ⟨some ⟨g, 0, none⟩, c4, by simp [HL.out], ?_, ?_⟩
        · refine OwNd.mono (lo := w3.heap.size) (hi := w7.heap.size) ?_ HB3.out.size (by simp only [size_set]; have := HSZ.out; omega)
          refine ow_of (pa := qa) (cp := cp) ?_
          repeat (first | focus ((with_reducible refine OwBk.other ?_ ?_ _); rotate_left 1; (dsimp only; omega)))
          exact HOW9.out
        · have hsz := HB2.out.size
          repeat (with_reducible refine Below.setCell ?_ ?_ _)
          all_goals first | exact HB9.out | (dsimp only; omega)
    · have hne : (progCode ⟨[pa0, pb0, pc0, pd0], er, bd⟩ t == 0) = false := by simpa using hpc
      obtain ⟨d0, d1, d2, fd0, fd1, fd2⟩ := blk3 HK13.out
      have HANS : Hid (progAns X (k : Int) t = ill (progCode ⟨[pa0, pb0, pc0, pd0], er, bd⟩ t)) := by
        show progAns X (k : Int) t = _
        rw [HDEF.out]
        unfold progCode at hpc ⊢
        by_cases h60 : 60 < t.size
        · rw [if_pos h60, if_pos h60]
        · rw [if_neg h60] at hpc ⊢
          rw [if_neg h60]
          by_cases hbd : bd = true
          · rw [if_pos hbd, if_pos hbd]
          · rw [if_neg hbd] at hpc ⊢
            rw [if_neg hbd]
            by_cases hu4 : uPre [pa0, pb0, pc0, pd0] = 4
            · rw [if_pos hu4, if_pos hu4]
            · rw [if_neg hu4] at hpc; exact absurd rfl hpc
      go_wp2
      refine bodyPost_ret (v := .agg #[.slice none 0 0, .string ⟨#[]⟩, .int .i64 (progCode ⟨[pa0, pb0, pc0, pd0], er, bd⟩ t)]) (by simp [results, Tryd.results61, go_sem, d0, d1, d2]) rfl ?_
      rw [HANS.out]
      refine ⟨none, 0, rfl, ow_nil _ _ _ _, ?_⟩
      repeat (with_reducible refine Below.setCell ?_ ?_ _)
      all_goals first | exact HB3.out | (dsimp only; omega)
  · have hne : (blkCode X bi == 0) = false := by simpa using hc
    obtain ⟨d0, d1, d2, fd0, fd1, fd2⟩ := blk3 HK1.out
    have HANS : Hid (progAns X bi t = ill (blkCode X bi)) := by show progAns X bi t = _; unfold progAns; rw [if_neg hbig, if_pos hc]
    go_wp2
    refine bodyPost_ret (v := .agg #[.slice none 0 0, .string ⟨#[]⟩, .int .i64 (blkCode X bi)]) (by simp [results, Tryd.results61, go_sem, d0, d1, d2]) rfl ?_
    rw [HANS.out]
    refine ⟨none, 0, rfl, ow_nil _ _ _ _, ?_⟩
    repeat (with_reducible refine Below.setCell ?_ ?_ _)
    all_goals first | exact HB2.out | (dsimp only; omega)
end Go.Proofs.YtimlaeicbnnbdaaDoor
