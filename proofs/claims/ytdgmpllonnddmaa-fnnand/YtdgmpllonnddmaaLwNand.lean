/-
  The laws' own comparison of chips.
-/
import Derived.Test.YtdgmpllonnddmaaNdEq
import Derived.Test.YtdgmpllonnddmaaNdUse
import Derived.Deep.DeepCutAuto
import Derived.Deep.RegionHeld3
namespace Go.Proofs.Ytdgmpllonnddmaa
open Go.RowKit

theorem two_new (wr : World) (e : TypeId) (c1 c2 : List Value) : IsBlk ((wr.alloc (.cells c1.toArray e)).alloc (.cells c2.toArray e)).drew wr.heap.size e c1 ∧ IsBlk ((wr.alloc (.cells c1.toArray e)).alloc (.cells c2.toArray e)).drew (wr.heap.size + 1) e c2 ∧ Below wr.heap.size wr ((wr.alloc (.cells c1.toArray e)).alloc (.cells c2.toArray e)).drew := by
  have h := isBlk_new (wr.alloc (.cells c1.toArray e)) e c2
  simp only [size_alloc] at h
  exact ⟨(isBlk_new wr e c1).alloc _, h, (((Below.refl _ _).alloc (Nat.le_refl _) _).alloc (by simp) _).drew⟩
set_option maxHeartbeats 4000000 in
set_option maxRecDepth 100000 in
theorem lwNand_same (A B : Option Addr) (n ca cb : Nat) (X : List Bk) (w : World) (hX : Small X) (hA : RdBk w w.heap.size A n X) (hB : RdBk w w.heap.size B n X) :
    Calls Try.prog 24 #[.agg #[.slice A n ca], .agg #[.slice B n cb]] w fun e w' => e = .returned (.bool true) ∧ Below w.heap.size w w' := by
  have HL := Lib.hid hA.1
  have hn : n ≤ 1048576 := by have := hX.1; have := hA.1; omega
  have HA := Lib.hid hA; have HB := Lib.hid hB; have HX := Lib.hid hX; clear hA hB hX
  go_enter Try.func24, Try.ntmps24
  go_wp2_with fail
  have k0 := (isBlk_new w 25 [.slice A n ca]).alloc (.cells #[.slice B n cb] 25)
  have k1 := isBlk_new (w.alloc (.cells #[.slice A n ca] 25)) 25 [.slice B n cb]
  simp only [size_alloc] at k1
  have hb0 : Below w.heap.size w ((w.alloc (.cells #[.slice A n ca] 25)).alloc (.cells #[.slice B n cb] 25)) := ((Below.refl _ _).alloc (Nat.le_refl _) _).alloc (by simp) _
  change Code.wp _ _ _ _ ((w.alloc (.cells #[.slice A n ca] 25)).alloc (.cells #[.slice B n cb] 25))
  generalize (w.alloc (.cells #[.slice A n ca] 25)).alloc (.cells #[.slice B n cb] 25) = W at k0 k1 hb0 ⊢
  have HK0 := Lib.hid k0; have HK1 := Lib.hid k1; have HB0 := Lib.hid hb0
  clear k0 k1 hb0
  go_loopw [5] (fun i wr => ∃ k : Nat, k ≤ n ∧ i = .int .i64 (k : Nat) ∧ Below W.heap.size W wr) (fun i _ => n - (intOf i).toNat)
  case atStart => exact ⟨0, by omega, rfl, Below.refl _ _⟩
  case round =>
    obtain ⟨k, hk, rfl, hbw⟩ := hrel
    have hbel : Below w.heap.size w wr := HB0.out.trans (hbw.mono HB0.out.size)
    have a0 : wr.cell? ⟨w.heap.size, 0, none⟩ = some (.slice A n ca) := (HK0.out.below hbw HK0.out.lt).cell rfl
    have b0 : wr.cell? ⟨w.heap.size + 1, 0, none⟩ = some (.slice B n cb) := (HK1.out.below hbw HK1.out.lt).cell rfl
    have la : w.heap.size < wr.heap.size := (HK0.out.below hbw HK0.out.lt).lt
    have lb : w.heap.size + 1 < wr.heap.size := (HK1.out.below hbw HK1.out.lt).lt
    have HBW := Lib.hid hbw; have HBL := Lib.hid hbel
    by_cases hlt : k < n
    · obtain ⟨g, off, pA, pc, rfl, hg, hc0, hc1, hc2, hpa⟩ := (HA.out.below hbel).at hlt
      obtain ⟨g', off', pA', pc', rfl, hg', hd0, hd1, hd2, hpb⟩ := (HB.out.below hbel).at hlt
      have hkl : k < X.length := by have := HL.out; omega
      have hpl := (HX.out.2 _ (getD_lt (z := zeroBk) hkl)).1
      have HPA := Lib.hid (hpa.mono hbel.size); have HPB := Lib.hid (hpb.mono hbel.size)
      have lg : g < wr.heap.size := by have := hbel.size; omega
      have lg' : g' < wr.heap.size := by have := hbel.size; omega
      have hltI : (k : Int) < (n : Int) := by omega
      clear hbel hpa hpb hbw
      generalize X.getD k zeroBk = b at hc0 hc1 hc2 hd0 hd1 hd2 hpl HPA HPB
      go_wp2_with fail
      go_cut [6, 7] (fun v6 v7 wx => ∃ g1 g2, v6 = .pointer (some ⟨g1, 0, none⟩) ∧ v7 = .pointer (some ⟨g2, 0, none⟩) ∧ IsBlk wx g1 47 [.slice pA b.pages.length pc, .int .i64 b.erases, .bool b.bad] ∧ IsBlk wx g2 47 [.slice pA' b.pages.length pc', .int .i64 b.erases, .bool b.bad] ∧ Below wr.heap.size wr wx)
      case first =>
        have HKEEP : Hid (∀ V, Below wr.heap.size wr V → V.cell? ⟨w.heap.size, 0, none⟩ = some (.slice (some ⟨g, off, none⟩) n ca) ∧ V.cell? ⟨w.heap.size + 1, 0, none⟩ = some (.slice (some ⟨g', off', none⟩) n cb) ∧ V.cell? ⟨g, off + k * 3, none⟩ = some (.slice pA b.pages.length pc) ∧ V.cell? ⟨g, off + k * 3 + 1, none⟩ = some (.int .i64 b.erases) ∧ V.cell? ⟨g, off + k * 3 + 2, none⟩ = some (.bool b.bad) ∧ V.cell? ⟨g', off' + k * 3, none⟩ = some (.slice pA' b.pages.length pc') ∧ V.cell? ⟨g', off' + k * 3 + 1, none⟩ = some (.int .i64 b.erases) ∧ V.cell? ⟨g', off' + k * 3 + 2, none⟩ = some (.bool b.bad)) :=
          fun V hV => ⟨(hV.cell (p := ⟨w.heap.size, 0, none⟩) la).trans a0, (hV.cell (p := ⟨w.heap.size + 1, 0, none⟩) lb).trans b0, (hV.cell (p := ⟨g, off + k * 3, none⟩) lg).trans hc0, (hV.cell (p := ⟨g, off + k * 3 + 1, none⟩) lg).trans hc1, (hV.cell (p := ⟨g, off + k * 3 + 2, none⟩) lg).trans hc2, (hV.cell (p := ⟨g', off' + k * 3, none⟩) lg').trans hd0, (hV.cell (p := ⟨g', off' + k * 3 + 1, none⟩) lg').trans hd1, (hV.cell (p := ⟨g', off' + k * 3 + 2, none⟩) lg').trans hd2⟩
        go_region_held3 (fun V => V.cell? ⟨w.heap.size, 0, none⟩ = some (.slice (some ⟨g, off, none⟩) n ca) ∧ V.cell? ⟨w.heap.size + 1, 0, none⟩ = some (.slice (some ⟨g', off', none⟩) n cb) ∧ V.cell? ⟨g, off + k * 3, none⟩ = some (.slice pA b.pages.length pc) ∧ V.cell? ⟨g, off + k * 3 + 1, none⟩ = some (.int .i64 b.erases) ∧ V.cell? ⟨g, off + k * 3 + 2, none⟩ = some (.bool b.bad) ∧ V.cell? ⟨g', off' + k * 3, none⟩ = some (.slice pA' b.pages.length pc') ∧ V.cell? ⟨g', off' + k * 3 + 1, none⟩ = some (.int .i64 b.erases) ∧ V.cell? ⟨g', off' + k * 3 + 2, none⟩ = some (.bool b.bad))
          ((refine HKEEP.out _ ?_; repeat (first | (with_reducible refine Below.drew ?_) | (with_reducible refine Below.setCell ?_ ?_ _) | (with_reducible refine Below.alloc ?_ ?_ _) | (with_reducible exact Below.refl _ _) | focus (simp; done) | focus (simp; omega)))) (fail)
        all_goals (go_wp2_with fail; go_meet)
        · exact ⟨_, _, rfl, rfl, (two_new wr _ [_, _, _] [_, _, _]).1, (two_new wr _ [_, _, _] [_, _, _]).2.1, (two_new wr _ [_, _, _] [_, _, _]).2.2⟩
        · exact ⟨_, _, rfl, rfl, (two_new wr _ [_, _, _] [_, _, _]).2.1, (two_new wr _ [_, _, _] [_, _, _]).1, (two_new wr _ [_, _, _] [_, _, _]).2.2⟩
      case rest =>
        obtain ⟨g1, g2, rfl, rfl, hk1, hk2, hbc⟩ := hcut
        have HBWc := Lib.hid (HBW.out.trans (hbc.mono HBW.out.size)); have HBLc := Lib.hid (HBL.out.trans (hbc.mono HBL.out.size))
        have HPAc := Lib.hid ((HPA.out.below hbc).mono hbc.size); have HPBc := Lib.hid ((HPB.out.below hbc).mono hbc.size)
        have HK1c := Lib.hid hk1; have HK2c := Lib.hid hk2
        obtain ⟨x0, x1, x2, -, -, -⟩ := blk3 hk1
        obtain ⟨y0, y1, y2, -, -, -⟩ := blk3 hk2
        clear hbc hk1 hk2 HBW HBL HPA HPB hc0 hc1 hc2 hd0 hd1 hd2 a0 b0 la lb lg lg'
        go_wp2
        go_loopw [8] (fun j wi => ∃ m : Nat, m ≤ b.pages.length ∧ j = .int .i64 (m : Nat) ∧ Below wc.heap.size wc wi) (fun j _ => b.pages.length - (intOf j).toNat)
        case atStart => exact ⟨0, by omega, rfl, Below.refl _ _⟩
        case round =>
          obtain ⟨m, hm, rfl, hbi⟩ := hrel
          clear x0 x1 x2 y0 y1 y2
          have x0 : wr.cell? ⟨g1, 0, none⟩ = some _ := (HK1c.out.below hbi HK1c.out.lt).cell rfl
          have y0 : wr.cell? ⟨g2, 0, none⟩ = some _ := (HK2c.out.below hbi HK2c.out.lt).cell rfl
          have HBI := Lib.hid hbi
          by_cases hlm : m < b.pages.length
          · obtain ⟨gp, po, rfl, hgp, hp0, hp1⟩ := (HPAc.out.below hbi).at hlm
            obtain ⟨gq, qo, rfl, hgq, hq0, hq1⟩ := (HPBc.out.below hbi).at hlm
            have hlmI : (m : Int) < (b.pages.length : Int) := by omega
            clear hbi
            generalize b.pages.getD m zeroPg = p at hp0 hp1 hq0 hq1
            go_wp2_with fail
            go_quiet (fail)
            generalize hW : wr.drewN nq = w9
            have HB9 : Hid (Below wc.heap.size wc w9) := by rw [← hW]; exact ⟨HBI.out.os, HBI.out.tape, HBI.out.output, HBI.out.size, HBI.out.block⟩
            clear hW
            go_wp2
            go_roundw
            case rel => exact ⟨m + 1, by omega, by go_num, HB9.out⟩
            case measure => simp [intOf]; omega
          · clear hbi
            go_wp2
            go_roundw
            case rel => exact ⟨k + 1, by omega, by go_num, HBWc.out.trans (HBI.out.mono HBWc.out.size)⟩
            case measure => simp [intOf]; omega
    · clear hbel hbw
      go_wp2
      go_ret
      exact ⟨rfl, HBL.out⟩
end Go.Proofs.Ytdgmpllonnddmaa
