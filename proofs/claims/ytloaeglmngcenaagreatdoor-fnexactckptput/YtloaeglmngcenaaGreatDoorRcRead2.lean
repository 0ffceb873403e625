/-
  The contracts of RecRead, of the program and of the model, and of the law's comparison of two results.
-/
import Derived.Test.YtloaeglmngcenaaGreatDoorProg
import Derived.KernelRfl
import Derived.Test.YtloaeglmngcenaaGreatDoorRcRead
import Derived.Test.YtloaeglmngcenaaGreatDoorBtGet2
import Derived.Test.YtloaeglmngcenaaGreatDoorBtSeal
import Derived.Test.YtloaeglmngcenaaGreatDoorRcBytes
import Derived.Test.YtloaeglmngcenaaGreatDoorNdMem
import Derived.WalkKit
import Derived.Lib.Hide
import Derived.Deep.RegionLaw
import Derived.Deep.RegionHeld3
import Derived.Deep.DeepCutAuto
import Derived.Deep.CutBlock
import Derived.BigQuiet
import Derived.Deep.QuietTactic
namespace Go.Proofs.YtloaeglmngcenaaGreatDoor
open Go.RowKit
open Bt (Rc)

set_option maxHeartbeats 8000000 in
theorem reader_text_any (g : Nat) (s : ByteArray) (x : Int × Bool) (w : World) (hs : s.size ≤ maxLen) (hx : x.1 ≤ 9223372036854775807) (hk : IsBlk w g 135 (rdC s x)) :
    Calls Tryz.prog 101 #[.pointer (some ⟨g, 0, none⟩)] w fun e w' => e = .returned (strV (Bt.rdText s x).1) ∧ IsBlk w' g 135 (rdC s (Bt.rdText s x).2) ∧ Btw g (g + 1) w w' := by
  obtain ⟨at_, bad⟩ := x
  have HK := Lib.hid hk
  have hc0 : w.cell? ⟨g, 0, none⟩ = some _ := hk.cell rfl
  have hc1 : w.cell? ⟨g, 1, none⟩ = some _ := hk.cell rfl
  have hc2 : w.cell? ⟨g, 2, none⟩ = some _ := hk.cell rfl
  clear hk
  have hlg := HK.out.lt
  generalize hN : Bt.getText s at_ = G
  obtain ⟨n, a, c⟩ := G
  have HRB := fun (h : bad = true ∨ c ≠ 0) => Lib.hid (Bt.rdText_bad (s := s) (x := (at_, bad)) (by rw [hN]; exact h))
  have HRO := fun (h : ¬ (bad = true ∨ c ≠ 0)) => Lib.hid (Bt.rdText_ok (s := s) (x := (at_, bad)) (by rw [hN]; exact h))
  have HN := Lib.hid hN
  rw [hN] at HRO
  generalize Bt.rdText s (at_, bad) = RN at HRB HRO ⊢
  clear hN
  go_enter Tryz.func101, Tryz.ntmps101
  go_wp2_with fail
  go_cut [3] (fun v3 wx => ∃ nb, v3 = .pointer (some ⟨nb, 0, none⟩) ∧ IsBlk wx nb 131 [strV n, .int .i64 a, .int .i64 c] ∧ Below w.heap.size w wx)
  case first =>
    have HKEEP : Hid (∀ V, Below w.heap.size w V → V.cell? ⟨g, 0, none⟩ = some (.string s) ∧ V.cell? ⟨g, 1, none⟩ = some (.int .i64 at_)) :=
      fun V hV => ⟨(hV.cell (p := ⟨g, 0, none⟩) hlg).trans hc0, (hV.cell (p := ⟨g, 1, none⟩) hlg).trans hc1⟩
    go_region_held3 (fun V => V.cell? ⟨g, 0, none⟩ = some (.string s) ∧ V.cell? ⟨g, 1, none⟩ = some (.int .i64 at_))
      (first | exact HKEEP.out _ BB.out | exact HKEEP.out _ (BB.out.alloc BB.out.size _) | exact HKEEP.out _ (Below.refl _ _).drew | exact HKEEP.out _ ((Below.refl _ _).drew.alloc (Nat.le_refl _) _) | exact HKEEP.out _ (((BB.out.setCell (Nat.le_refl _) _).setCell (Nat.le_refl _) _).setCell (Nat.le_refl _) _))
      (first
        | (go_at_call 174
           refine (spec_getText_any s at_ _ hs hx).mono ?_
           rintro e w2 ⟨rfl, hb2⟩
           rw [HN.out]
           first
             | (have HH : Hid (IsBlk w2 w.heap.size 131 [.string ⟨#[]⟩, .int .i64 0, .int .i64 0]) ∧ Hid (Below w.heap.size w w2) := new_drew _ _ hb2
                obtain ⟨KB, BB⟩ := HH
                obtain ⟨d0, d1, d2, fd0, fd1, fd2⟩ := blk3 KB.out)
             | (have BB : Hid (Below w.heap.size w w2) := (Below.refl w.heap.size w).drew.trans hb2)
           clear hb2))
    all_goals (go_wp2_with fail; go_meet)
    all_goals first
      | exact ⟨_, rfl, ((KB.out.set _).set _).set _, ((BB.out.setCell (Nat.le_refl _) _).setCell (Nat.le_refl _) _).setCell (Nat.le_refl _) _⟩
      | exact ⟨_, rfl, isBlk_new w2 _ [_, _, _], BB.out.alloc BB.out.size _⟩
  case rest =>
    obtain ⟨nb, rfl, hkb, hbx⟩ := hcut
    have HKB := Lib.hid hkb; have HBX := Lib.hid hbx
    have HKc := Lib.hid (HK.out.below hbx hlg)
    have hk0 : wc.cell? ⟨g, 0, none⟩ = some _ := HKc.out.cell rfl
    have hk1 : wc.cell? ⟨g, 1, none⟩ = some _ := HKc.out.cell rfl
    have hk2 : wc.cell? ⟨g, 2, none⟩ = some _ := HKc.out.cell rfl
    obtain ⟨d0, d1, d2, fd0, fd1, fd2⟩ := blk3 hkb
    have fk1 := HKc.out.free (j := 1)
    have fk2 := HKc.out.free (j := 2)
    clear hkb hbx hc0 hc1 hc2
    cases bad
    · by_cases h0 : c = 0
      · subst h0
        have HO := HRO (by simp)
        clear HRB HRO
        go_wp2_with fail
        go_ret
        exact ⟨by rw [HO.out]; rfl, by rw [HO.out]; exact HKc.out.set (j := 1) (.int .i64 a), (Btw.of_below (lo := g) (hi := g + 1) HBX.out).setCell (p := ⟨g, 1, none⟩) (Or.inl ⟨Nat.le_refl _, Nat.lt_succ_self _⟩) _⟩
      · have HB := HRB (.inr h0)
        have hcc : (c != 0) = true := by simpa using h0
        clear HRB HRO
        go_wp2_with fail
        go_ret
        exact ⟨by rw [HB.out]; rfl, by rw [HB.out]; exact HKc.out.set (j := 2) (.bool true), (Btw.of_below (lo := g) (hi := g + 1) HBX.out).setCell (p := ⟨g, 2, none⟩) (Or.inl ⟨Nat.le_refl _, Nat.lt_succ_self _⟩) _⟩
    · have HB := HRB (.inl rfl)
      clear HRB HRO
      go_wp2_with fail
      go_ret
      exact ⟨by rw [HB.out]; rfl, by rw [HB.out]; exact HKc.out.set (j := 2) (.bool true), (Btw.of_below (lo := g) (hi := g + 1) HBX.out).setCell (p := ⟨g, 2, none⟩) (Or.inl ⟨Nat.le_refl _, Nat.lt_succ_self _⟩) _⟩
theorem opened_small (s : ByteArray) : (Bt.opened s).1.length ≤ 8000 := by
  by_cases h : (Bt.opened s).2 = 0
  · obtain ⟨h1, h2, h3, -⟩ := Bt.opened_split h; omega
  · have : (Bt.opened s).1 = [] := by
      unfold Bt.opened at h ⊢
      split
      · rfl
      · split
        · rfl
        · split
          · rfl
          · simp_all
    rw [this]; simp
/-- the cells of a RecOut -/
abbrev routC (x : Rc × Int) : List Value := [.int .i64 x.1.k, .int .i64 x.1.s, .int .i64 x.1.q, .int .i64 x.1.t, .int .i64 x.1.o, .string x.1.d, .int .i64 x.2]
theorem routCells {w : World} {g : Nat} {e : TypeId} {x : Rc × Int} (h : IsBlk w g e (routC x)) : (w.cell? ⟨g, 0, none⟩ = some (.int .i64 x.1.k) ∧ w.cell? ⟨g, 1, none⟩ = some (.int .i64 x.1.s) ∧ w.cell? ⟨g, 2, none⟩ = some (.int .i64 x.1.q) ∧
    w.cell? ⟨g, 3, none⟩ = some (.int .i64 x.1.t) ∧ w.cell? ⟨g, 4, none⟩ = some (.int .i64 x.1.o) ∧ w.cell? ⟨g, 5, none⟩ = some (.string x.1.d) ∧ w.cell? ⟨g, 6, none⟩ = some (.int .i64 x.2)) ∧
    (w.frozen? ⟨g, 0, none⟩ = false ∧ w.frozen? ⟨g, 1, none⟩ = false ∧ w.frozen? ⟨g, 2, none⟩ = false ∧ w.frozen? ⟨g, 3, none⟩ = false ∧ w.frozen? ⟨g, 4, none⟩ = false ∧ w.frozen? ⟨g, 5, none⟩ = false ∧ w.frozen? ⟨g, 6, none⟩ = false) :=
  ⟨⟨h.cell rfl, h.cell rfl, h.cell rfl, h.cell rfl, h.cell rfl, h.cell rfl, h.cell rfl⟩, h.free, h.free, h.free, h.free, h.free, h.free, h.free⟩

theorem getText_small (s : ByteArray) (p : Int) : (Bt.getText s p).1.length ≤ 8000 := by
  by_cases h1 : (Bt.getNum s p).2.2 ≠ 0
  · rw [Bt.getText_code h1]; simp
  by_cases h2 : (Bt.getNum s p).1 < 0 ∨ 8000 < (Bt.getNum s p).1
  · rw [Bt.getText_size h1 h2]; simp
  by_cases h3 : (s.size : Int) < (Bt.getNum s p).2.1 + (Bt.getNum s p).1
  · rw [Bt.getText_short h1 h2 h3]; simp
  rw [Bt.getText_ok h1 h2 h3]
  have hat := (Bt.getNum_at s p).1
  rw [len_list, ext_len (by omega)]
  omega
theorem rdEnd_small (s : ByteArray) : (Bt.rdEnd s).1.length ≤ 8000 := by
  unfold Bt.rdEnd Bt.rdText
  split
  · simp
  · exact getText_small _ _
theorem rdRec_small (s : ByteArray) : (Bt.rdRec s).d.size ≤ maxLen := by
  have := rdEnd_small s
  simp only [Bt.rdRec, bstr_size]; unfold maxLen; omega
theorem whole_iff (s : ByteArray) : rdWhole s = true ↔ ((Bt.rdEnd s).2.2 = false ∧ (Bt.rdEnd s).2.1 = (s.size : Int)) := by simp [rdWhole]
/-- seven stores into the call's own block -/
theorem bel_seven {w w2 : World} (h : Below w.heap.size w w2) (v0 v1 v2 v3 v4 v5 v6 : Value) :
    Below w.heap.size w (((((((w2.setCell ⟨w.heap.size, 0, none⟩ v0).setCell ⟨w.heap.size, 1, none⟩ v1).setCell ⟨w.heap.size, 2, none⟩ v2).setCell ⟨w.heap.size, 3, none⟩ v3).setCell ⟨w.heap.size, 4, none⟩ v4).setCell ⟨w.heap.size, 5, none⟩ v5).setCell ⟨w.heap.size, 6, none⟩ v6) :=
  ((((((h.setCell (p := ⟨w.heap.size, 0, none⟩) (Nat.le_refl _) v0).setCell (p := ⟨w.heap.size, 1, none⟩) (Nat.le_refl _) v1).setCell (p := ⟨w.heap.size, 2, none⟩) (Nat.le_refl _) v2).setCell (p := ⟨w.heap.size, 3, none⟩) (Nat.le_refl _) v3).setCell (p := ⟨w.heap.size, 4, none⟩) (Nat.le_refl _) v4).setCell (p := ⟨w.heap.size, 5, none⟩) (Nat.le_refl _) v5).setCell (p := ⟨w.heap.size, 6, none⟩) (Nat.le_refl _) v6

set_option maxHeartbeats 8000000 in
theorem impl_recRead_any (s : ByteArray) (w : World) (hs : s.size ≤ maxLen) (hg : ErrType w) : Calls Tryz.prog 227 #[.string s] w fun e w' => e = .returned (routV (Bt.recRead s)) ∧ Below w.heap.size w w' := by
  have HG := Lib.hid hg; clear hg
  have HC := fun h => Lib.hid (Bt.recRead_code (t := s) h)
  have HBd := fun h h1 => Lib.hid (Bt.recRead_bad (t := s) h h1)
  have HOk := fun h h1 => Lib.hid (Bt.recRead_ok (t := s) h h1)
  have hsm := opened_small s
  generalize Bt.recRead s = RR at *
  go_enter Tryz.func227, Tryz.ntmps227
  go_wp2_with fail
  refine (impl_unseal_any s _ hs).mono ?_
  rintro e w1 ⟨rfl, hb1⟩
  obtain ⟨HB1, HR1⟩ := rcStep ((Below.refl w.heap.size w).alloc (Nat.le_refl _) _) (isBlk_new w 53 (routC (Rc.zero, 0))) hb1
  clear hb1
  generalize hO : Bt.opened s = O at *
  obtain ⟨u, c⟩ := O
  clear hO
  simp only at HC HBd HOk hsm
  obtain ⟨⟨z0, z1, z2, z3, z4, z5, z6⟩, f0, f1, f2, f3, f4, f5, f6⟩ := routCells HR1.out
  have hl1 : w.heap.size < w1.heap.size := HR1.out.lt
  by_cases h0 : c = 0
  · subst h0
    clear HC
    go_wp2_with fail
    refine (readRec_any (bstr u) _ (by rw [bstr_size]; unfold maxLen; omega) (HG.out.below (HB1.out.alloc HB1.out.size _))).mono ?_
    rintro e w2 ⟨rfl, hb2⟩
    obtain ⟨HB2, HR2⟩ := rcStep (HB1.out.alloc HB1.out.size _) (HR1.out.alloc _) hb2
    have HS := Lib.hid (rdRec_small (bstr u))
    clear hb2 z0 z1 z2 z3 z4 z5 z6 f0 f1 f2 f3 f4 f5 f6 hl1
    cases hwh : rdWhole (bstr u)
    · rw [rrV_no hwh]
      have HBo := HBd (by simp) (fun h => by have := (whole_iff _).2 ⟨h.1, h.2.1⟩; rw [hwh] at this; cases this)
      clear HBd HOk hwh
      obtain ⟨⟨z0, z1, z2, z3, z4, z5, z6⟩, f0, f1, f2, f3, f4, f5, f6⟩ := routCells HR2.out
      have hl2 : w.heap.size < w2.heap.size := HR2.out.lt
      go_wp2
      exact bodyPost_ret (v := routV (Rc.zero, 3)) (by simp [results, Tryz.results227, go_sem, z0, z1, z2, z3, z4, z5, z6, hl2, Rc.zero]) rfl ⟨by rw [HBo.out], (bel_seven HB2.out _ _ _ _ _ _ _).alloc (bel_seven HB2.out _ _ _ _ _ _ _).size _⟩
    · rw [rrV_yes hwh]
      have HWh := Lib.hid ((whole_iff _).1 hwh)
      clear hwh
      generalize Bt.rdRec (bstr u) = r at *
      go_wp2_with fail
      refine (impl_recRight_any r _ HS.out).mono ?_
      rintro e w3 ⟨rfl, hb3⟩
      obtain ⟨HB3, HR3⟩ := rcStep (HB2.out.alloc HB2.out.size _) (HR2.out.alloc _) hb3
      have HK3 := Lib.hid ((isBlk_new w2 34 (recC r)).below hb3 (by simp))
      have hl2 : w.heap.size < w2.heap.size := HR2.out.lt
      clear hb3
      obtain ⟨⟨z0, z1, z2, z3, z4, z5, z6⟩, f0, f1, f2, f3, f4, f5, f6⟩ := routCells HR3.out
      obtain ⟨k0, k1, k2, k3, k4, k5⟩ := rcCells HK3.out
      by_cases hok : r.Ok
      · rw [decide_eq_true hok]
        have HOo := HOk (by simp) ⟨HWh.out.1, HWh.out.2, hok⟩
        clear HBd HOk hok
        go_wp2
        exact bodyPost_ret (v := routV (r, 0)) (by simp [results, Tryz.results227, go_sem, z0, z1, z2, z3, z4, z5, z6]) rfl ⟨by rw [HOo.out], bel_seven HB3.out _ _ _ _ _ _ _⟩
      · rw [decide_eq_false hok]
        have HBo := HBd (by simp) (fun h => hok h.2.2)
        clear HBd HOk hok
        go_wp2
        exact bodyPost_ret (v := routV (Rc.zero, 3)) (by simp [results, Tryz.results227, go_sem, z0, z1, z2, z3, z4, z5, z6, Rc.zero]) rfl ⟨by rw [HBo.out], bel_seven HB3.out _ _ _ _ _ _ _⟩
  · have HCo := HC h0
    have hcc : (c != 0) = true := by simpa using h0
    clear HC HBd HOk
    go_wp2
    exact bodyPost_ret (v := routV (Rc.zero, c)) (by simp [results, Tryz.results227, go_sem, z0, z1, z2, z3, z4, z5, z6, hl1, Rc.zero]) rfl ⟨by rw [HCo.out], (bel_seven HB1.out _ _ _ _ _ _ _).alloc (bel_seven HB1.out _ _ _ _ _ _ _).size _⟩

/-! the model's reader, call by call -/
theorem rdAt_wf (s : ByteArray) (j : Nat) : (Bt.rdAt s j).1 ≤ 9223372036854775807 := by
  induction j with
  | zero => simp [Bt.rdAt]
  | succ j ih => exact rdNum_wf ih
theorem reader_at (g j : Nat) (s : ByteArray) (w : World) (hs : s.size ≤ maxLen) (hk : IsBlk w g 135 (rdC s (Bt.rdAt s j))) :
    Calls Tryz.prog 100 #[.pointer (some ⟨g, 0, none⟩)] w fun e w' => e = .returned (.int .i64 (Bt.rdVal s j)) ∧ IsBlk w' g 135 (rdC s (Bt.rdAt s (j + 1))) ∧ Btw g (g + 1) w w' :=
  reader_num_any g s (Bt.rdAt s j) w hs (rdAt_wf s j) hk
theorem reader_end (g : Nat) (s : ByteArray) (w : World) (hs : s.size ≤ maxLen) (hk : IsBlk w g 135 (rdC s (Bt.rdAt s 5))) :
    Calls Tryz.prog 101 #[.pointer (some ⟨g, 0, none⟩)] w fun e w' => e = .returned (strV (Bt.rdEnd s).1) ∧ IsBlk w' g 135 (rdC s (Bt.rdEnd s).2) ∧ Btw g (g + 1) w w' :=
  reader_text_any g s (Bt.rdAt s 5) w hs (rdAt_wf s 5) hk
/-- behind the calls so far: the result's block, the reader, the record -/
structure RSt (w wk : World) (g xb : Nat) (rd x : List Value) : Prop where
  bel : Below w.heap.size w wk
  rb : IsBlk wk w.heap.size 53 (routC (Rc.zero, 0))
  rdr : IsBlk wk g 135 rd
  xr : IsBlk wk xb 34 x
  hg : w.heap.size < g
  hx : g < xb
theorem RSt.call {w wk w' : World} {g xb : Nat} {rd rd' x : List Value} (h : RSt w wk g xb rd x) (hk : IsBlk w' g 135 rd') (hb : Btw g (g + 1) wk w') : RSt w w' g xb rd' x :=
  ⟨h.bel.trans ((hb.below (Nat.le_of_lt h.rdr.lt)).mono (Nat.le_of_lt h.hg)), (hb.block _ h.rb.lt (Or.inl h.hg)).trans h.rb, hk, (hb.block _ h.xr.lt (Or.inr (by have := h.hx; omega))).trans h.xr, h.hg, h.hx⟩
theorem RSt.put {w wk : World} {g xb : Nat} {rd x : List Value} (h : RSt w wk g xb rd x) (j : Nat) (v : Value) : RSt w (wk.setCell ⟨xb, j, none⟩ v) g xb rd (x.set j v) :=
  have := h.hg; have := h.hx
  ⟨h.bel.setCell (by dsimp only; omega) _, h.rb.other (by dsimp only; omega) _, h.rdr.other (by dsimp only; omega) _, h.xr.set _, h.hg, h.hx⟩
theorem RSt.below {w wk w' : World} {g xb : Nat} {rd x : List Value} (h : RSt w wk g xb rd x) (hb : Below wk.heap.size wk w') : RSt w w' g xb rd x :=
  ⟨h.bel.trans (hb.mono h.bel.size), h.rb.below hb h.rb.lt, h.rdr.below hb h.rdr.lt, h.xr.below hb h.xr.lt, h.hg, h.hx⟩

set_option maxHeartbeats 8000000 in
theorem spec_recRead_any (s : ByteArray) (w : World) (hs : s.size ≤ maxLen) : Calls Tryz.prog 29 #[.string s] w fun e w' => e = .returned (routV (Bt.recRead s)) ∧ Below w.heap.size w w' := by
  have HC := fun h => Lib.hid (Bt.recRead_code (t := s) h)
  have HBd := fun h h1 => Lib.hid (Bt.recRead_bad (t := s) h h1)
  have HOk := fun h h1 => Lib.hid (Bt.recRead_ok (t := s) h h1)
  have HEnd := fun h h1 => Lib.hid (Bt.ends_iff (t := s) h h1)
  have hsm := opened_small s
  generalize Bt.recRead s = RR at *
  go_enter Tryz.func29, Tryz.ntmps29
  go_wp2_with fail
  refine (spec_unseal_any s _ hs).mono ?_
  rintro e w1 ⟨rfl, hb1⟩
  obtain ⟨HB1, HR1⟩ := rcStep ((Below.refl w.heap.size w).alloc (Nat.le_refl _) _) (isBlk_new w 53 (routC (Rc.zero, 0))) hb1
  clear hb1
  generalize hO : Bt.opened s = O at *
  obtain ⟨u, c⟩ := O
  clear hO
  simp only at HC HBd HOk HEnd hsm
  have hl1 : w.heap.size < w1.heap.size := HR1.out.lt
  by_cases h0 : c = 0
  · subst h0
    clear HC
    replace HEnd := HEnd rfl
    replace HBd := HBd (by simp)
    replace HOk := HOk (by simp)
    have hsu : (bstr u).size ≤ maxLen := by rw [bstr_size]; unfold maxLen; omega
    go_wp2_with fail
    generalize hV : World.alloc (World.alloc w1 _) _ = V
    generalize hg : w1.heap.size + 1 = g
    have HBV : Hid (Below w.heap.size w V) := by rw [← hV]; exact (HB1.out.alloc HB1.out.size _).alloc (by simp; have := HB1.out.size; omega) _
    have HRV : Hid (IsBlk V w.heap.size 53 (routC (Rc.zero, 0))) := by rw [← hV]; exact (HR1.out.alloc _).alloc _
    have HGV : Hid (IsBlk V g 135 (rdC (bstr u) (Bt.rdAt (bstr u) 0))) := by
      rw [← hV, ← hg]
      have h := isBlk_new (w1.alloc (.cells #[strV u, .int .i64 0, .int .i64 0] 131)) 135 (rdC (bstr u) (0, false))
      rw [size_alloc] at h
      exact h
    have hgw : w.heap.size < g := by omega
    clear hV hl1
    refine (reader_at g 0 (bstr u) _ hsu HGV.out).mono ?_
    rintro e w2 ⟨rfl, hk2, hb2⟩
    have HB2 := Lib.hid (HBV.out.trans ((hb2.below (Nat.le_of_lt HGV.out.lt)).mono (Nat.le_of_lt hgw)))
    have HR2 : Hid (IsBlk w2 w.heap.size 53 (routC (Rc.zero, 0))) := (hb2.block _ HRV.out.lt (Or.inl hgw)).trans HRV.out
    have HG2 := Lib.hid hk2
    have hg2 : g < w2.heap.size := hk2.lt
    clear hk2 hb2 HBV HRV HGV HB1 HR1
    go_wp2_with fail
    generalize hx : w2.heap.size = xb at *
    have RS1 : Hid (RSt w (w2.alloc (.cells #[.int .i64 (Bt.rdVal (bstr u) 0), .int .i64 0, .int .i64 0, .int .i64 0, .int .i64 0, .string ⟨#[]⟩] 34)) g xb (rdC (bstr u) (Bt.rdAt (bstr u) 1)) (recC (rdPart (bstr u) 1))) :=
      ⟨HB2.out.alloc HB2.out.size _, HR2.out.alloc _, HG2.out.alloc _, by rw [← hx]; exact isBlk_new w2 _ _, hgw, hg2⟩
    clear hx HB2 HR2 HG2
    generalize w2.alloc _ = V2 at *
    refine (reader_at g 1 (bstr u) _ hsu RS1.out.rdr).mono ?_
    rintro e w3 ⟨rfl, hk3, hb3⟩
    have M3 := Lib.hid (RS1.out.call hk3 hb3)
    have hc3 := num_cell M3.out.xr (j := 1) (by omega)
    have hf3 := M3.out.xr.free (j := 1)
    have RS2 : Hid (RSt w (w3.setCell ⟨xb, 1, none⟩ (.int .i64 (Bt.rdVal (bstr u) 1))) g xb (rdC (bstr u) (Bt.rdAt (bstr u) 2)) (recC (rdPart (bstr u) 2))) := by
      have h := M3.out.put 1 (.int .i64 (Bt.rdVal (bstr u) 1))
      rw [rdPart_set (bstr u) (by omega)] at h
      exact h
    clear hk3 hb3 RS1 M3
    go_wp2_with fail
    clear hc3 hf3
    generalize w3.setCell _ _ = V3 at *
    refine (reader_at g 2 (bstr u) _ hsu RS2.out.rdr).mono ?_
    rintro e w4 ⟨rfl, hk4, hb4⟩
    have M4 := Lib.hid (RS2.out.call hk4 hb4)
    have hc4 := num_cell M4.out.xr (j := 2) (by omega)
    have hf4 := M4.out.xr.free (j := 2)
    have RS3 : Hid (RSt w (w4.setCell ⟨xb, 2, none⟩ (.int .i64 (Bt.rdVal (bstr u) 2))) g xb (rdC (bstr u) (Bt.rdAt (bstr u) 3)) (recC (rdPart (bstr u) 3))) := by
      have h := M4.out.put 2 (.int .i64 (Bt.rdVal (bstr u) 2))
      rw [rdPart_set (bstr u) (by omega)] at h
      exact h
    clear hk4 hb4 RS2 M4
    go_wp2_with fail
    clear hc4 hf4
    generalize w4.setCell _ _ = V4 at *
    refine (reader_at g 3 (bstr u) _ hsu RS3.out.rdr).mono ?_
    rintro e w5 ⟨rfl, hk5, hb5⟩
    have M5 := Lib.hid (RS3.out.call hk5 hb5)
    have hc5 := num_cell M5.out.xr (j := 3) (by omega)
    have hf5 := M5.out.xr.free (j := 3)
    have RS4 : Hid (RSt w (w5.setCell ⟨xb, 3, none⟩ (.int .i64 (Bt.rdVal (bstr u) 3))) g xb (rdC (bstr u) (Bt.rdAt (bstr u) 4)) (recC (rdPart (bstr u) 4))) := by
      have h := M5.out.put 3 (.int .i64 (Bt.rdVal (bstr u) 3))
      rw [rdPart_set (bstr u) (by omega)] at h
      exact h
    clear hk5 hb5 RS3 M5
    go_wp2_with fail
    clear hc5 hf5
    generalize w5.setCell _ _ = V5 at *
    refine (reader_at g 4 (bstr u) _ hsu RS4.out.rdr).mono ?_
    rintro e w6 ⟨rfl, hk6, hb6⟩
    have M6 := Lib.hid (RS4.out.call hk6 hb6)
    have hc6 := num_cell M6.out.xr (j := 4) (by omega)
    have hf6 := M6.out.xr.free (j := 4)
    have RS5 : Hid (RSt w (w6.setCell ⟨xb, 4, none⟩ (.int .i64 (Bt.rdVal (bstr u) 4))) g xb (rdC (bstr u) (Bt.rdAt (bstr u) 5)) (recC (rdPart (bstr u) 5))) := by
      have h := M6.out.put 4 (.int .i64 (Bt.rdVal (bstr u) 4))
      rw [rdPart_set (bstr u) (by omega)] at h
      exact h
    clear hk6 hb6 RS4 M6
    go_wp2_with fail
    clear hc6 hf6
    generalize w6.setCell _ _ = V6 at *
    refine (reader_end g (bstr u) _ hsu RS5.out.rdr).mono ?_
    rintro e w7 ⟨rfl, hk7, hb7⟩
    have M7 := Lib.hid (RS5.out.call hk7 hb7)
    have hc7 : w7.cell? ⟨xb, 5, none⟩ = some _ := M7.out.xr.cell rfl
    have hf7 := M7.out.xr.free (j := 5)
    have RS6 : Hid (RSt w (w7.setCell ⟨xb, 5, none⟩ (strV (Bt.rdEnd (bstr u)).1)) g xb (rdC (bstr u) (Bt.rdEnd (bstr u)).2) (recC (Bt.rdRec (bstr u)))) := by
      have h := M7.out.put 5 (strV (Bt.rdEnd (bstr u)).1)
      have e : (recC (rdPart (bstr u) 5)).set 5 (strV (Bt.rdEnd (bstr u)).1) = recC (Bt.rdRec (bstr u)) := by simp [rdPart, pv, Bt.rdRec]
      rw [e] at h
      exact h
    obtain ⟨m0, m1, m2, m3, m4, -⟩ := rcCells M7.out.xr
    have k0 : w7.cell? ⟨xb, 0, none⟩ = some (.int .i64 (Bt.rdRec (bstr u)).k) := by simpa [rdPart, pv, Bt.rdRec] using m0
    have k1 : w7.cell? ⟨xb, 1, none⟩ = some (.int .i64 (Bt.rdRec (bstr u)).s) := by simpa [rdPart, pv, Bt.rdRec] using m1
    have k2 : w7.cell? ⟨xb, 2, none⟩ = some (.int .i64 (Bt.rdRec (bstr u)).q) := by simpa [rdPart, pv, Bt.rdRec] using m2
    have k3 : w7.cell? ⟨xb, 3, none⟩ = some (.int .i64 (Bt.rdRec (bstr u)).t) := by simpa [rdPart, pv, Bt.rdRec] using m3
    have k4 : w7.cell? ⟨xb, 4, none⟩ = some (.int .i64 (Bt.rdRec (bstr u)).o) := by simpa [rdPart, pv, Bt.rdRec] using m4
    have b2 : w7.cell? ⟨g, 2, none⟩ = some (.bool (Bt.rdEnd (bstr u)).2.2) := hk7.cell rfl
    have HD : Hid (strV (Bt.rdEnd (bstr u)).1 = .string (Bt.rdRec (bstr u)).d) := rfl
    rw [HD.out] at RS6 ⊢
    obtain ⟨⟨z0, z1, z2, z3, z4, z5, z6⟩, f0, f1, f2, f3, f4, f5, f6⟩ := routCells M7.out.rb
    have HM7 := Lib.hid M7.out.bel
    clear hk7 hb7 RS5 M7 m0 m1 m2 m3 m4
    have HS := Lib.hid (rdRec_small (bstr u))
    generalize Bt.rdRec (bstr u) = r at *
    generalize (Bt.rdEnd (bstr u)).2.2 = bad at *
    cases bad
    · replace HEnd := HEnd rfl
      have HF : Hid (r.bytes = s.data.toList → RR = (r, 0)) := fun heq => (HOk ⟨rfl, HEnd.out.1 heq⟩).out
      have HF2 : Hid (¬ r.bytes = s.data.toList → RR = (Rc.zero, 3)) := fun heq => (HBd (fun h => heq (HEnd.out.2 ⟨h.2.1, h.2.2⟩))).out
      clear HOk HBd HEnd
      go_wp2_with fail
      refine (spec_recBytes_any r _ HS.out).mono ?_
      rintro e w8 ⟨rfl, hb8⟩
      have RS8 := Lib.hid (RS6.out.below hb8)
      clear hb8 z0 z1 z2 z3 z4 z5 z6 f0 f1 f2 f3 f4 f5 f6 k0 k1 k2 k3 k4 b2 hc7 hf7
      obtain ⟨⟨z0, z1, z2, z3, z4, z5, z6⟩, f0, f1, f2, f3, f4, f5, f6⟩ := routCells RS8.out.rb
      obtain ⟨k0, k1, k2, k3, k4, k5⟩ := rcCells RS8.out.xr
      by_cases heq : r.bytes = s.data.toList
      · have HOo := Lib.hid (HF.out heq)
        have hq : ((bstr r.bytes).toList == s.toList) = true := str_eq (by rw [bstr_list, heq])
        clear HF HF2 heq
        go_wp2
        exact bodyPost_ret (v := routV (r, 0)) (by simp [results, Tryz.results29, go_sem, z0, z1, z2, z3, z4, z5, z6]) rfl ⟨by rw [HOo.out], bel_seven RS8.out.bel _ _ _ _ _ _ _⟩
      · have HBo := Lib.hid (HF2.out heq)
        have hq : ((bstr r.bytes).toList == s.toList) = false := str_ne (by rw [bstr_list]; exact heq)
        clear HF HF2
        go_wp2
        exact bodyPost_ret (v := routV (Rc.zero, 3)) (by simp [results, Tryz.results29, go_sem, z0, z1, z2, z3, z4, z5, z6, Rc.zero]) rfl ⟨by rw [HBo.out], bel_seven RS8.out.bel _ _ _ _ _ _ _⟩
    · have HBo := HBd (fun h => by cases h.1)
      clear HOk HBd HEnd
      go_wp2
      exact bodyPost_ret (v := routV (Rc.zero, 3)) (by simp [results, Tryz.results29, go_sem, z0, z1, z2, z3, z4, z5, z6, Rc.zero]) rfl ⟨by rw [HBo.out], bel_seven RS6.out.bel _ _ _ _ _ _ _⟩
  · have HCo := HC h0
    have hcc : (c != 0) = true := by simpa using h0
    clear HC HBd HOk HEnd
    obtain ⟨⟨z0, z1, z2, z3, z4, z5, z6⟩, f0, f1, f2, f3, f4, f5, f6⟩ := routCells HR1.out
    go_wp2
    exact bodyPost_ret (v := routV (Rc.zero, c)) (by simp [results, Tryz.results29, go_sem, z0, z1, z2, z3, z4, z5, z6, hl1, Rc.zero]) rfl ⟨by rw [HCo.out], (bel_seven HB1.out _ _ _ _ _ _ _).alloc (bel_seven HB1.out _ _ _ _ _ _ _).size _⟩

/-! the law's comparison -/
set_option maxHeartbeats 4000000 in
theorem eqRec_same (r : Rc) (w : World) : Calls Tryz.prog 202 #[recV r, recV r] w fun e w' => e = .returned (.bool true) ∧ Below w.heap.size w w' := by
  go_enter Tryz.func202, Tryz.ntmps202
  go_wp2
  go_ret
  exact ⟨rfl, ((Below.refl _ _).alloc (Nat.le_refl _) _).alloc (by simp) _⟩
end Go.Proofs.YtloaeglmngcenaaGreatDoor
