/-
  The contracts of RecRead and of what it calls, of the program and of the model.
-/
import Derived.Test.YtloaeglmngcenaaGreatDoorProg
import Derived.KernelRfl
import Derived.Test.YtloaeglmngcenaaGreatDoorBtGet2
import Derived.Test.YtloaeglmngcenaaGreatDoorBtSeal
import Derived.Test.YtloaeglmngcenaaGreatDoorRcBytes
import Derived.Test.YtloaeglmngcenaaGreatDoorNdMem
import Derived.WalkKit
import Derived.Lib.Hide
import Derived.Deep.RegionLaw
import Derived.Deep.RegionHeld3
import Derived.Deep.DeepCutAuto
import Derived.Deep.CutBlock
import Derived.BigQuiet
import Derived.Deep.QuietTactic
namespace Go.Proofs.YtloaeglmngcenaaGreatDoor
open Go.RowKit
open Bt (Rc)

/-- a RecOut as a value -/
abbrev routV (x : Rc × Int) : Value := .agg #[.int .i64 x.1.k, .int .i64 x.1.s, .int .i64 x.1.q, .int .i64 x.1.t, .int .i64 x.1.o, .string x.1.d, .int .i64 x.2]
/-- what readRec answers -/
def rdWhole (s : ByteArray) : Bool := decide ((Bt.rdEnd s).2.2 = false ∧ (Bt.rdEnd s).2.1 = (s.size : Int))
/-- the numbers that are read so far -/
def pv (s : ByteArray) (j i : Nat) : Int := if i < j then Bt.rdVal s i else 0
def rdPart (s : ByteArray) (j : Nat) : Rc := ⟨pv s j 0, pv s j 1, pv s j 2, pv s j 3, pv s j 4, ⟨#[]⟩⟩
theorem rdPart_zero (s : ByteArray) : rdPart s 0 = Rc.zero := by simp [rdPart, pv, Rc.zero]
theorem rdPart_set (s : ByteArray) {j : Nat} (h : j < 5) : (recC (rdPart s j)).set j (.int .i64 (Bt.rdVal s j)) = recC (rdPart s (j + 1)) := by
  match j, h with
  | 0, _ | 1, _ | 2, _ | 3, _ | 4, _ => simp [rdPart, pv]
theorem rdAt_bad {s : ByteArray} {k : Nat} (h : (Bt.rdAt s k).2 = true) : (Bt.rdAt s (k + 1)).2 = true := by rw [Bt.rdAt, Bt.rdNum_bad (.inl h)]
theorem rdAt_bads {s : ByteArray} {k m : Nat} (h : (Bt.rdAt s k).2 = true) (hm : k ≤ m) : (Bt.rdAt s m).2 = true := by
  induction hm with
  | refl => exact h
  | step _ ih => exact rdAt_bad ih
theorem rdWhole_bad {s : ByteArray} {k : Nat} (h : (Bt.rdAt s k).2 = true) (hk : k ≤ 5) : rdWhole s = false := by
  have h5 := rdAt_bads h hk
  simp only [rdWhole, decide_eq_false_iff_not, Bt.rdEnd, Bt.rdText_bad (.inl h5)]
  simp

/-- the values that readRec returns -/
def rrV (s : ByteArray) : Value := .tuple (if rdWhole s then #[recV (Bt.rdRec s), .bool true] else #[recV Rc.zero, .bool false])

theorem rrV_no {s : ByteArray} (h : rdWhole s = false) : rrV s = .tuple #[recV Rc.zero, .bool false] := by simp [rrV, h]
theorem rrV_yes {s : ByteArray} (h : rdWhole s = true) : rrV s = .tuple #[recV (Bt.rdRec s), .bool true] := by simp [rrV, h]

theorem bel_six {w w2 : World} (h : Below w.heap.size w w2) (v0 v1 v2 v3 v4 v5 : Value) (o : Obj) :
    Below w.heap.size w (((((((w2.setCell ⟨w.heap.size, 0, none⟩ v0).setCell ⟨w.heap.size, 1, none⟩ v1).setCell ⟨w.heap.size, 2, none⟩ v2).setCell ⟨w.heap.size, 3, none⟩ v3).setCell ⟨w.heap.size, 4, none⟩ v4).setCell ⟨w.heap.size, 5, none⟩ v5).alloc o) := by
  have h6 := (((((h.setCell (p := ⟨w.heap.size, 0, none⟩) (Nat.le_refl _) v0).setCell (p := ⟨w.heap.size, 1, none⟩) (Nat.le_refl _) v1).setCell (p := ⟨w.heap.size, 2, none⟩) (Nat.le_refl _) v2).setCell (p := ⟨w.heap.size, 3, none⟩) (Nat.le_refl _) v3).setCell (p := ⟨w.heap.size, 4, none⟩) (Nat.le_refl _) v4).setCell (p := ⟨w.heap.size, 5, none⟩) (Nat.le_refl _) v5
  exact h6.alloc h6.size o

set_option maxHeartbeats 8000000 in
theorem readRec_any (s : ByteArray) (w : World) (hs : s.size ≤ maxLen) (hg : ErrType w) : Calls Tryz.prog 260 #[.string s] w fun e w' => e = .returned (rrV s) ∧ Below w.heap.size w w' := by
  have HG := Lib.hid hg; clear hg
  have HRR := fun (h : rdWhole s = false) => Lib.hid (rrV_no h)
  have HRY := fun (h : rdWhole s = true) => Lib.hid (rrV_yes h)
  generalize rrV s = RR at *
  go_enter Tryz.func260, Tryz.ntmps260
  go_wp2
  generalize hW : World.iter _ _ 0 = W
  have HBW : Hid (Below w.heap.size w W) := by rw [← hW]; exact ((((Below.refl _ _).alloc (Nat.le_refl _) _).alloc (by simp) _).alloc (by simp; omega) _)
  have HRW : Hid (IsBlk W w.heap.size 34 (recC Rc.zero)) := by rw [← hW]; exact ((isBlk_new w _ _).alloc _).alloc _
  have HKW : Hid (IsBlk W (w.heap.size + 1) 34 (recC (rdPart s 0))) := by
    rw [← hW, rdPart_zero]
    have := ((isBlk_new (w.alloc (.cells (recC Rc.zero).toArray 34)) 34 (recC Rc.zero)).alloc (.stringIter letters 0))
    rw [size_alloc] at this
    exact this
  have HIW : Hid (IterAt W (w.heap.size + 1 + 1) letters 0) := by
    rw [← hW]
    have := World.iter_heap ((w.alloc (.cells (recC Rc.zero).toArray 34)).alloc (.cells (recC Rc.zero).toArray 34)) letters 0
    rw [size_alloc, size_alloc] at this
    exact this
  clear hW
  go_loopw [5] (fun x wr => ∃ j : Nat, j ≤ 5 ∧ x = .int .i64 (Bt.rdAt s j).1 ∧ (Bt.rdAt s j).2 = false ∧ IsBlk wr w.heap.size 34 (recC Rc.zero) ∧ IsBlk wr (w.heap.size + 1) 34 (recC (rdPart s j)) ∧ IterAt wr (w.heap.size + 1 + 1) letters j ∧ Below w.heap.size w wr) (fun _ wr => 5 - iterPos wr (w.heap.size + 1 + 1))
  case atStart => exact ⟨0, by omega, rfl, rfl, HRW.out, HKW.out, HIW.out, HBW.out⟩
  case round =>
    obtain ⟨j, hj, rfl, hbad, hr, hk, hi, hb⟩ := hrel
    have hpos := hi.pos
    have HR := Lib.hid hr; have HK := Lib.hid hk; have HB := Lib.hid hb; have HI := Lib.hid hi; have HBad := Lib.hid hbad
    have hat := (Bt.rdAt_body j hbad).2.1
    clear hr hk hi hb hbad
    by_cases hlt : j < 5
    · have hnext := next_letter (P := Tryz.prog) 0 HI.out hlt
      obtain ⟨wn, hwn⟩ : ∃ wn, wn = setIter wr (w.heap.size + 1 + 1) letters (j + 1) := ⟨_, rfl⟩
      rw [← hwn] at hnext
      have HRn : Hid (IsBlk wn w.heap.size 34 (recC Rc.zero)) := by rw [hwn]; exact HR.out.setIter' (by omega) _ _
      have HKn : Hid (IsBlk wn (w.heap.size + 1) 34 (recC (rdPart s j))) := by rw [hwn]; exact HK.out.setIter' (by omega) _ _
      have HIn : Hid (IterAt wn (w.heap.size + 1 + 1) letters (j + 1)) := by rw [hwn]; exact HI.out.set _
      have HBn : Hid (Below w.heap.size w wn) := by rw [hwn]; exact bel_setIter HB.out (by omega) _ _
      clear hwn
      have hat' : (Bt.rdAt s j).1 ≤ 9223372036854775807 := by unfold maxLen at hs; omega
      go_wp2_with fail
      refine (impl_getNum_any s _ _ hs hat' (HG.out.below HBn.out)).mono ?_
      rintro e w2 ⟨rfl, hb2⟩
      obtain ⟨HB2, HK2⟩ := rcStep HBn.out HKn.out hb2
      have HR2 := Lib.hid (HRn.out.below hb2 HRn.out.lt)
      have HI2 := Lib.hid (HIn.out.below hb2 HIn.out.lt)
      clear hb2
      have HOKC : Hid ((Bt.getNum s (Bt.rdAt s j).1).2.2 = 0 → Bt.rdVal s j = (Bt.getNum s (Bt.rdAt s j).1).1 ∧ (Bt.rdAt s (j + 1)).1 = (Bt.getNum s (Bt.rdAt s j).1).2.1 ∧ (Bt.rdAt s (j + 1)).2 = false) := by
        intro h0
        have hc : ¬ ((Bt.rdAt s j).2 = true ∨ (Bt.getNum s (Bt.rdAt s j).1).2.2 ≠ 0) := by simp [HBad.out, h0]
        exact ⟨by rw [Bt.rdVal, Bt.rdNum_ok hc], by rw [Bt.rdAt, Bt.rdNum_ok hc], by rw [Bt.rdAt, Bt.rdNum_ok hc]⟩
      have HBADC : Hid ((Bt.getNum s (Bt.rdAt s j).1).2.2 ≠ 0 → rdWhole s = false) := fun h0 => rdWhole_bad (k := j + 1) (by rw [Bt.rdAt, Bt.rdNum_bad (.inr h0)]) (by omega)
      generalize hN : Bt.getNum s (Bt.rdAt s j).1 = G at HOKC HBADC
      obtain ⟨n, a, c⟩ := G
      clear hN
      by_cases h0 : c = 0
      · subst h0
        obtain ⟨e1, e2, e3⟩ := HOKC.out rfl
        have E1 := Lib.hid e1; have E2 := Lib.hid e2; have E3 := Lib.hid e3
        clear e1 e2 e3
        have hlt2 : w.heap.size + 1 < w2.heap.size := HK2.out.lt
        go_wp2
        generalize hV : w2.alloc _ = V
        have HBV : Hid (Below w.heap.size w V) := by rw [← hV]; exact HB2.out.alloc HB2.out.size _
        have HRV : Hid (IsBlk V w.heap.size 34 (recC Rc.zero)) := by rw [← hV]; exact HR2.out.alloc _
        have HKV : Hid (IsBlk V (w.heap.size + 1) 34 (recC (rdPart s j))) := by rw [← hV]; exact HK2.out.alloc _
        have HIV : Hid (IterAt V (w.heap.size + 1 + 1) letters (j + 1)) := by rw [← hV]; exact HI2.out.below ((Below.refl _ _).alloc (Nat.le_refl _) _) HI2.out.lt
        have HNV : Hid (IsBlk V w2.heap.size 218 [.int .i64 n, .int .i64 a, .int .i64 0]) := by rw [← hV]; exact isBlk_new w2 _ _
        clear hV
        generalize w2.heap.size = nb at *
        have hn0 : V.cell? ⟨nb, 0, none⟩ = some _ := HNV.out.cell rfl
        have hn1 : V.cell? ⟨nb, 1, none⟩ = some _ := HNV.out.cell rfl
        have hkj := num_cell HKV.out hlt
        have hfj := HKV.out.free (j := j)
        go_region_law ((go_simp; go_at_call 155; refine (numberOf_any _ j _ hlt).mono ?_; rintro e w9 ⟨rfl, rfl⟩))
        all_goals
          have hne : nb ≠ w.heap.size + 1 := by omega
          go_wp2
          go_roundw
          case rel => exact ⟨j + 1, by omega, by rw [E2.out], E3.out, HRV.out.other (by dsimp only; omega) _, by have h := HKV.out.set (j := j) (.int .i64 n); rw [← E1.out, rdPart_set s hlt] at h; rw [← E1.out]; exact h, (Below.heap_setCell _ _ _ _ (by dsimp only; omega)).trans HIV.out, (HBV.out.setCell (by dsimp only; omega) _).drew⟩
          case measure =>
            have hp : iterPos (V.setCell ⟨w.heap.size + 1, j, none⟩ (.int .i64 n)).drew (w.heap.size + 1 + 1) = j + 1 := IterAt.pos ((Below.heap_setCell _ _ _ _ (by dsimp only; omega)).trans HIV.out)
            rw [hp, hpos]; omega
      · have hcc : (c != 0) = true := by simpa using h0
        have HRRo := HRR (HBADC.out h0)
        obtain ⟨hz0, hz1, hz2, hz3, hz4, hz5⟩ := rcCells HR2.out
        have hf0 := HR2.out.free (j := 0); have hf1 := HR2.out.free (j := 1); have hf2 := HR2.out.free (j := 2); have hf3 := HR2.out.free (j := 3); have hf4 := HR2.out.free (j := 4); have hf5 := HR2.out.free (j := 5)
        have hlt2 : w.heap.size < w2.heap.size := HR2.out.lt
        go_wp2
        exact bodyPost_ret (v := .tuple #[recV Rc.zero, .bool false]) (by simp [results, Tryz.results260, go_sem, hz0, hz1, hz2, hz3, hz4, hz5, hlt2, Rc.zero]) rfl ⟨by rw [HRRo.out], bel_six HB2.out _ _ _ _ _ _ _⟩
    · obtain rfl : j = 5 := by omega
      have hend := run_next_out (P := Tryz.prog) 0 HI.out (by decide)
      have hat' : (Bt.rdAt s 5).1 ≤ 9223372036854775807 := by unfold maxLen at hs; omega
      go_wp2_with fail
      refine (impl_getText_any s _ _ hs hat' (HG.out.below HB.out)).mono ?_
      rintro e w2 ⟨rfl, hb2⟩
      obtain ⟨HB2, HK2⟩ := rcStep HB.out HK.out hb2
      have HR2 := Lib.hid (HR.out.below hb2 HR.out.lt)
      clear hb2
      have HE : Hid ((Bt.getText s (Bt.rdAt s 5).1).2.2 = 0 → Bt.rdEnd s = ((Bt.getText s (Bt.rdAt s 5).1).1, ((Bt.getText s (Bt.rdAt s 5).1).2.1, false))) := by
        intro h0
        have hc : ¬ ((Bt.rdAt s 5).2 = true ∨ (Bt.getText s (Bt.rdAt s 5).1).2.2 ≠ 0) := by simp [HBad.out, h0]
        rw [Bt.rdEnd, Bt.rdText_ok hc]
      have HBADC : Hid ((Bt.getText s (Bt.rdAt s 5).1).2.2 ≠ 0 → rdWhole s = false) := by
        intro h0
        simp only [rdWhole, Bt.rdEnd, Bt.rdText_bad (.inr h0)]
        simp
      generalize hN : Bt.getText s (Bt.rdAt s 5).1 = G at HE HBADC
      obtain ⟨t, a, c⟩ := G
      clear hN
      obtain ⟨hz0, hz1, hz2, hz3, hz4, hz5⟩ := rcCells HR2.out
      have hf0 := HR2.out.free (j := 0); have hf1 := HR2.out.free (j := 1); have hf2 := HR2.out.free (j := 2); have hf3 := HR2.out.free (j := 3); have hf4 := HR2.out.free (j := 4); have hf5 := HR2.out.free (j := 5)
      have hlt2 : w.heap.size < w2.heap.size := HR2.out.lt
      have hlt3 : w.heap.size + 1 < w2.heap.size := HK2.out.lt
      by_cases h0 : c = 0
      · subst h0
        have HE := HE.out rfl
        by_cases h1 : a = (s.size : Int)
        · subst h1
          have HRYo := HRY (by rw [rdWhole, HE]; simp)
          obtain ⟨hk0, hk1, hk2, hk3, hk4, hk5⟩ := rcCells HK2.out
          have hfk := HK2.out.free (j := 5)
          have HRec : Hid (Bt.rdRec s = ⟨(rdPart s 5).k, (rdPart s 5).s, (rdPart s 5).q, (rdPart s 5).t, (rdPart s 5).o, bstr t⟩) := by show _ = _; simp [rdPart, pv, Bt.rdRec, HE]
          go_wp2
          exact bodyPost_ret (v := .tuple #[recV ⟨(rdPart s 5).k, (rdPart s 5).s, (rdPart s 5).q, (rdPart s 5).t, (rdPart s 5).o, bstr t⟩, .bool true]) (by simp [results, Tryz.results260, go_sem, hz0, hz1, hz2, hz3, hz4, hz5, hlt2]) rfl ⟨by rw [HRYo.out, HRec.out], bel_six (HB2.out.setCell (by simp) _) _ _ _ _ _ _ _⟩
        · have HRRo := HRR (by rw [rdWhole, HE]; simp [h1])
          have hcc : (a != (s.size : Int)) = true := by simpa using h1
          go_wp2
          exact bodyPost_ret (v := .tuple #[recV Rc.zero, .bool false]) (by simp [results, Tryz.results260, go_sem, hz0, hz1, hz2, hz3, hz4, hz5, hlt2, Rc.zero]) rfl ⟨by rw [HRRo.out], bel_six HB2.out _ _ _ _ _ _ _⟩
      · have hcc : (c != 0) = true := by simpa using h0
        have HRRo := HRR (HBADC.out h0)
        go_wp2
        exact bodyPost_ret (v := .tuple #[recV Rc.zero, .bool false]) (by simp [results, Tryz.results260, go_sem, hz0, hz1, hz2, hz3, hz4, hz5, hlt2, Rc.zero]) rfl ⟨by rw [HRRo.out], bel_six HB2.out _ _ _ _ _ _ _⟩

/-- the model's reader in memory -/
abbrev rdC (s : ByteArray) (x : Int × Bool) : List Value := [.string s, .int .i64 x.1, .bool x.2]
theorem rdNum_wf {s : ByteArray} {x : Int × Bool} (h : x.1 ≤ 9223372036854775807) : (Bt.rdNum s x).2.1 ≤ 9223372036854775807 := by
  by_cases hc : x.2 = true ∨ (Bt.getNum s x.1).2.2 ≠ 0
  · rw [Bt.rdNum_bad hc]; exact h
  · rw [Bt.rdNum_ok hc]
    have hc : (Bt.getNum s x.1).2.2 = 0 := by
      by_cases e : (Bt.getNum s x.1).2.2 = 0
      · exact e
      · exact absurd (.inr e) hc
    have := (Bt.getNum_at s x.1).2 hc
    simp only
    omega

/-- a block laid ahead of a call, behind it -/
theorem new_drew {w w2 : World} (e : TypeId) (cs : List Value) (hb : Below (w.drew.alloc (.cells cs.toArray e)).heap.size (w.drew.alloc (.cells cs.toArray e)) w2) : Hid (IsBlk w2 w.heap.size e cs) ∧ Hid (Below w.heap.size w w2) :=
  ⟨(isBlk_new w.drew e cs).below hb (by rw [size_alloc]; exact Nat.lt_succ_self _), ((Below.refl w.heap.size w).drew.alloc (Nat.le_refl _) _).trans (hb.mono (by rw [size_alloc]; exact Nat.le_succ _))⟩

set_option maxHeartbeats 8000000 in
theorem reader_num_any (g : Nat) (s : ByteArray) (x : Int × Bool) (w : World) (hs : s.size ≤ maxLen) (hx : x.1 ≤ 9223372036854775807) (hk : IsBlk w g 135 (rdC s x)) :
    Calls Tryz.prog 100 #[.pointer (some ⟨g, 0, none⟩)] w fun e w' => e = .returned (.int .i64 (Bt.rdNum s x).1) ∧ IsBlk w' g 135 (rdC s (Bt.rdNum s x).2) ∧ Btw g (g + 1) w w' := by
  obtain ⟨at_, bad⟩ := x
  have HK := Lib.hid hk
  have hc0 : w.cell? ⟨g, 0, none⟩ = some _ := hk.cell rfl
  have hc1 : w.cell? ⟨g, 1, none⟩ = some _ := hk.cell rfl
  have hc2 : w.cell? ⟨g, 2, none⟩ = some _ := hk.cell rfl
  clear hk
  have hlg := HK.out.lt
  generalize hN : Bt.getNum s at_ = G
  obtain ⟨n, a, c⟩ := G
  have HRB := fun (h : bad = true ∨ c ≠ 0) => Lib.hid (Bt.rdNum_bad (s := s) (x := (at_, bad)) (by rw [hN]; exact h))
  have HRO := fun (h : ¬ (bad = true ∨ c ≠ 0)) => Lib.hid (Bt.rdNum_ok (s := s) (x := (at_, bad)) (by rw [hN]; exact h))
  have HN := Lib.hid hN
  rw [hN] at HRO
  generalize Bt.rdNum s (at_, bad) = RN at HRB HRO ⊢
  clear hN
  go_enter Tryz.func100, Tryz.ntmps100
  go_wp2_with fail
  go_cut [3] (fun v3 wx => ∃ nb, v3 = .pointer (some ⟨nb, 0, none⟩) ∧ IsBlk wx nb 218 [.int .i64 n, .int .i64 a, .int .i64 c] ∧ Below w.heap.size w wx)
  case first =>
    have HKEEP : Hid (∀ V, Below w.heap.size w V → V.cell? ⟨g, 0, none⟩ = some (.string s) ∧ V.cell? ⟨g, 1, none⟩ = some (.int .i64 at_)) :=
      fun V hV => ⟨(hV.cell (p := ⟨g, 0, none⟩) hlg).trans hc0, (hV.cell (p := ⟨g, 1, none⟩) hlg).trans hc1⟩
    go_region_held3 (fun V => V.cell? ⟨g, 0, none⟩ = some (.string s) ∧ V.cell? ⟨g, 1, none⟩ = some (.int .i64 at_))
      (first | exact HKEEP.out _ BB.out | exact HKEEP.out _ (BB.out.alloc BB.out.size _) | exact HKEEP.out _ (Below.refl _ _).drew | exact HKEEP.out _ ((Below.refl _ _).drew.alloc (Nat.le_refl _) _) | exact HKEEP.out _ (((BB.out.setCell (Nat.le_refl _) _).setCell (Nat.le_refl _) _).setCell (Nat.le_refl _) _))
      (first
        | (go_at_call 173
           refine (spec_getNum_any s at_ _ hs hx).mono ?_
           rintro e w2 ⟨rfl, hb2⟩
           rw [HN.out]
           first
             | (have HH : Hid (IsBlk w2 w.heap.size 218 [.int .i64 0, .int .i64 0, .int .i64 0]) ∧ Hid (Below w.heap.size w w2) := new_drew _ _ hb2
                obtain ⟨KB, BB⟩ := HH
                obtain ⟨d0, d1, d2, fd0, fd1, fd2⟩ := blk3 KB.out)
             | (have BB : Hid (Below w.heap.size w w2) := (Below.refl w.heap.size w).drew.trans hb2)
           clear hb2))
    all_goals (go_wp2_with fail; go_meet)
    all_goals first
      | exact ⟨_, rfl, ((KB.out.set _).set _).set _, ((BB.out.setCell (Nat.le_refl _) _).setCell (Nat.le_refl _) _).setCell (Nat.le_refl _) _⟩
      | exact ⟨_, rfl, isBlk_new w2 _ [_, _, _], BB.out.alloc BB.out.size _⟩
  case rest =>
    obtain ⟨nb, rfl, hkb, hbx⟩ := hcut
    have HKB := Lib.hid hkb; have HBX := Lib.hid hbx
    have HKc := Lib.hid (HK.out.below hbx hlg)
    have hk0 : wc.cell? ⟨g, 0, none⟩ = some _ := HKc.out.cell rfl
    have hk1 : wc.cell? ⟨g, 1, none⟩ = some _ := HKc.out.cell rfl
    have hk2 : wc.cell? ⟨g, 2, none⟩ = some _ := HKc.out.cell rfl
    obtain ⟨d0, d1, d2, fd0, fd1, fd2⟩ := blk3 hkb
    have fk1 := HKc.out.free (j := 1)
    have fk2 := HKc.out.free (j := 2)
    clear hkb hbx hc0 hc1 hc2
    cases bad
    · by_cases h0 : c = 0
      · subst h0
        have HO := HRO (by simp)
        clear HRB HRO
        go_wp2_with fail
        go_ret
        exact ⟨by rw [HO.out]; rfl, by rw [HO.out]; exact HKc.out.set (j := 1) (.int .i64 a), (Btw.of_below (lo := g) (hi := g + 1) HBX.out).setCell (p := ⟨g, 1, none⟩) (Or.inl ⟨Nat.le_refl _, Nat.lt_succ_self _⟩) _⟩
      · have HB := HRB (.inr h0)
        have hcc : (c != 0) = true := by simpa using h0
        clear HRB HRO
        go_wp2_with fail
        go_ret
        exact ⟨by rw [HB.out]; rfl, by rw [HB.out]; exact HKc.out.set (j := 2) (.bool true), (Btw.of_below (lo := g) (hi := g + 1) HBX.out).setCell (p := ⟨g, 2, none⟩) (Or.inl ⟨Nat.le_refl _, Nat.lt_succ_self _⟩) _⟩
    · have HB := HRB (.inl rfl)
      clear HRB HRO
      go_wp2_with fail
      go_ret
      exact ⟨by rw [HB.out]; rfl, by rw [HB.out]; exact HKc.out.set (j := 2) (.bool true), (Btw.of_below (lo := g) (hi := g + 1) HBX.out).setCell (p := ⟨g, 2, none⟩) (Or.inl ⟨Nat.le_refl _, Nat.lt_succ_self _⟩) _⟩
end Go.Proofs.YtloaeglmngcenaaGreatDoor
