/-
  The contracts of RecRead and of what it calls, of the program and of the model.
-/
import Derived.Test.YtpgemeojhbeooaaDoorProg
import Derived.KernelRfl
import Derived.Test.YtpgemeojhbeooaaDoorBtGet2
import Derived.Test.YtpgemeojhbeooaaDoorBtSeal
import Derived.Test.YtpgemeojhbeooaaDoorRcBytes
import Derived.Test.YtpgemeojhbeooaaDoorNdMem
import Derived.WalkKit
import Derived.Lib.Hide
import Derived.Deep.RegionLaw
import Derived.Deep.RegionHeld3
import Derived.Deep.DeepCutAuto
import Derived.Deep.CutBlock
import Derived.BigQuiet
import Derived.Deep.QuietTactic
namespace Go.Proofs.YtpgemeojhbeooaaDoor
open Go.RowKit
open Bt (Rc)

/-- a RecOut as a value -/
abbrev routV (x : Rc × Int) : Value := .agg #[.int .i64 x.1.k, .int .i64 x.1.s, .int .i64 x.1.q, .int .i64 x.1.t, .int .i64 x.1.o, .string x.1.d, .int .i64 x.2]
/-- what readRec answers -/
def rdWhole (s : ByteArray) : Bool := decide ((Bt.rdEnd s).2.2 = false ∧ (Bt.rdEnd s).2.1 = (s.size : Int))
/-- the numbers that are read so far -/
def pv (s : ByteArray) (j i : Nat) : Int := if i < j then Bt.rdVal s i else 0
def rdPart (s : ByteArray) (j : Nat) : Rc := ⟨pv s j 0, pv s j 1, pv s j 2, pv s j 3, pv s j 4, ⟨#[]⟩⟩
theorem rdPart_zero (s : ByteArray) : rdPart s 0 = Rc.zero := by simp [rdPart, pv, Rc.zero]
theorem rdPart_set (s : ByteArray) {j : Nat} (h : j < 5) : (recC (rdPart s j)).set j (.int .i64 (Bt.rdVal s j)) = recC (rdPart s (j + 1)) := by
  match j, h with
  | 0, _ | 1, _ | 2, _ | 3, _ | 4, _ => simp [rdPart, pv]
theorem rdAt_bad {s : ByteArray} {k : Nat} (h : (Bt.rdAt s k).2 = true) : (Bt.rdAt s (k + 1)).2 = true := by rw [Bt.rdAt, Bt.rdNum_bad (.inl h)]
theorem rdAt_bads {s : ByteArray} {k m : Nat} (h : (Bt.rdAt s k).2 = true) (hm : k ≤ m) : (Bt.rdAt s m).2 = true := by
  induction hm with
  | refl => exact h
  | step _ ih => exact rdAt_bad ih
theorem rdWhole_bad {s : ByteArray} {k : Nat} (h : (Bt.rdAt s k).2 = true) (hk : k ≤ 5) : rdWhole s = false := by
  have h5 := rdAt_bads h hk
  simp only [rdWhole, decide_eq_false_iff_not, Bt.rdEnd, Bt.rdText_bad (.inl h5)]
  simp

/-- the values that readRec returns -/
def rrV (s : ByteArray) : Value := .tuple (if rdWhole s then #[recV (Bt.rdRec s), .bool true] else #[recV Rc.zero, .bool false])

theorem rrV_no {s : ByteArray} (h : rdWhole s = false) : rrV s = .tuple #[recV Rc.zero, .bool false] := by simp [rrV, h]
theorem rrV_yes {s : ByteArray} (h : rdWhole s = true) : rrV s = .tuple #[recV (Bt.rdRec s), .bool true] := by simp [rrV, h]

theorem bel_six {w w2 : World} (h : Below w.heap.size w w2) (v0 v1 v2 v3 v4 v5 : Value) (o : Obj) :
    Below w.heap.size w (((((((w2.setCell ⟨w.heap.size, 0, none⟩ v0).setCell ⟨w.heap.size, 1, none⟩ v1).setCell ⟨w.heap.size, 2, none⟩ v2).setCell ⟨w.heap.size, 3, none⟩ v3).setCell ⟨w.heap.size, 4, none⟩ v4).setCell ⟨w.heap.size, 5, none⟩ v5).alloc o) := by
  have h6 := (((((h.setCell (p := ⟨w.heap.size, 0, none⟩) (Nat.le_refl _) v0).setCell (p := ⟨w.heap.size, 1, none⟩) (Nat.le_refl _) v1).setCell (p := ⟨w.heap.size, 2, none⟩) (Nat.le_refl _) v2).setCell (p := ⟨w.heap.size, 3, none⟩) (Nat.le_refl _) v3).setCell (p := ⟨w.heap.size, 4, none⟩) (Nat.le_refl _) v4).setCell (p := ⟨w.heap.size, 5, none⟩) (Nat.le_refl _) v5
  exact h6.alloc h6.size o

/-- the model's reader in memory -/
abbrev rdC (s : ByteArray) (x : Int × Bool) : List Value := [.string s, .int .i64 x.1, .bool x.2]
theorem rdNum_wf {s : ByteArray} {x : Int × Bool} (h : x.1 ≤ 9223372036854775807) : (Bt.rdNum s x).2.1 ≤ 9223372036854775807 := by
  by_cases hc : x.2 = true ∨ (Bt.getNum s x.1).2.2 ≠ 0
  · rw [Bt.rdNum_bad hc]; exact h
  · rw [Bt.rdNum_ok hc]
    have hc : (Bt.getNum s x.1).2.2 = 0 := by
      by_cases e : (Bt.getNum s x.1).2.2 = 0
      · exact e
      · exact absurd (.inr e) hc
    have := (Bt.getNum_at s x.1).2 hc
    simp only
    omega

/-- a block laid ahead of a call, behind it -/
theorem new_drew {w w2 : World} (e : TypeId) (cs : List Value) (hb : Below (w.drew.alloc (.cells cs.toArray e)).heap.size (w.drew.alloc (.cells cs.toArray e)) w2) : Hid (IsBlk w2 w.heap.size e cs) ∧ Hid (Below w.heap.size w w2) :=
  ⟨(isBlk_new w.drew e cs).below hb (by rw [size_alloc]; exact Nat.lt_succ_self _), ((Below.refl w.heap.size w).drew.alloc (Nat.le_refl _) _).trans (hb.mono (by rw [size_alloc]; exact Nat.le_succ _))⟩

set_option maxHeartbeats 8000000 in
theorem reader_num_any (g : Nat) (s : ByteArray) (x : Int × Bool) (w : World) (hs : s.size ≤ maxLen) (hx : x.1 ≤ 9223372036854775807) (hk : IsBlk w g 66 (rdC s x)) :
    Calls Tryd.prog 36 #[.pointer (some ⟨g, 0, none⟩)] w fun e w' => e = .returned (.int .i64 (Bt.rdNum s x).1) ∧ IsBlk w' g 66 (rdC s (Bt.rdNum s x).2) ∧ Btw g (g + 1) w w' := by
  obtain ⟨at_, bad⟩ := x
  have HK := Lib.hid hk
  have hc0 : w.cell? ⟨g, 0, none⟩ = some _ := hk.cell rfl
  have hc1 : w.cell? ⟨g, 1, none⟩ = some _ := hk.cell rfl
  have hc2 : w.cell? ⟨g, 2, none⟩ = some _ := hk.cell rfl
  clear hk
  have hlg := HK.out.lt
  generalize hN : Bt.getNum s at_ = G
  obtain ⟨n, a, c⟩ := G
  have HRB := fun (h : bad = true ∨ c ≠ 0) => Lib.hid (Bt.rdNum_bad (s := s) (x := (at_, bad)) (by rw [hN]; exact h))
  have HRO := fun (h : ¬ (bad = true ∨ c ≠ 0)) => Lib.hid (Bt.rdNum_ok (s := s) (x := (at_, bad)) (by rw [hN]; exact h))
  have HN := Lib.hid hN
  rw [hN] at HRO
  generalize Bt.rdNum s (at_, bad) = RN at HRB HRO ⊢
  clear hN
  go_enter Tryd.func36, Tryd.ntmps36
  go_wp2_with fail
  go_cut [3] (fun v3 wx => ∃ nb, v3 = .pointer (some ⟨nb, 0, none⟩) ∧ IsBlk wx nb 88 [.int .i64 n, .int .i64 a, .int .i64 c] ∧ Below w.heap.size w wx)
  case first =>
    have HKEEP : Hid (∀ V, Below w.heap.size w V → V.cell? ⟨g, 0, none⟩ = some (.string s) ∧ V.cell? ⟨g, 1, none⟩ = some (.int .i64 at_)) :=
      fun V hV => ⟨(hV.cell (p := ⟨g, 0, none⟩) hlg).trans hc0, (hV.cell (p := ⟨g, 1, none⟩) hlg).trans hc1⟩
    go_region_held3 (fun V => V.cell? ⟨g, 0, none⟩ = some (.string s) ∧ V.cell? ⟨g, 1, none⟩ = some (.int .i64 at_))
      (first | exact HKEEP.out _ BB.out | exact HKEEP.out _ (BB.out.alloc BB.out.size _) | exact HKEEP.out _ (Below.refl _ _).drew | exact HKEEP.out _ ((Below.refl _ _).drew.alloc (Nat.le_refl _) _) | exact HKEEP.out _ (((BB.out.setCell (Nat.le_refl _) _).setCell (Nat.le_refl _) _).setCell (Nat.le_refl _) _))
      (first
        | (go_at_call 60
           refine (spec_getNum_any s at_ _ hs hx).mono ?_
           rintro e w2 ⟨rfl, hb2⟩
           rw [HN.out]
           first
             | (have HH : Hid (IsBlk w2 w.heap.size 88 [.int .i64 0, .int .i64 0, .int .i64 0]) ∧ Hid (Below w.heap.size w w2) := new_drew _ _ hb2
                obtain ⟨KB, BB⟩ := HH
                obtain ⟨d0, d1, d2, fd0, fd1, fd2⟩ := blk3 KB.out)
             | (have BB : Hid (Below w.heap.size w w2) := (Below.refl w.heap.size w).drew.trans hb2)
           clear hb2))
    all_goals (go_wp2_with fail; go_meet)
    all_goals first
      | exact ⟨_, rfl, ((KB.out.set _).set _).set _, ((BB.out.setCell (Nat.le_refl _) _).setCell (Nat.le_refl _) _).setCell (Nat.le_refl _) _⟩
      | exact ⟨_, rfl, isBlk_new w2 _ [_, _, _], BB.out.alloc BB.out.size _⟩
  case rest =>
    obtain ⟨nb, rfl, hkb, hbx⟩ := hcut
    have HKB := Lib.hid hkb; have HBX := Lib.hid hbx
    have HKc := Lib.hid (HK.out.below hbx hlg)
    have hk0 : wc.cell? ⟨g, 0, none⟩ = some _ := HKc.out.cell rfl
    have hk1 : wc.cell? ⟨g, 1, none⟩ = some _ := HKc.out.cell rfl
    have hk2 : wc.cell? ⟨g, 2, none⟩ = some _ := HKc.out.cell rfl
    obtain ⟨d0, d1, d2, fd0, fd1, fd2⟩ := blk3 hkb
    have fk1 := HKc.out.free (j := 1)
    have fk2 := HKc.out.free (j := 2)
    clear hkb hbx hc0 hc1 hc2
    cases bad
    · by_cases h0 : c = 0
      · subst h0
        have HO := HRO (by simp)
        clear HRB HRO
        go_wp2_with fail
        go_ret
        exact ⟨by rw [HO.out]; rfl, by rw [HO.out]; exact HKc.out.set (j := 1) (.int .i64 a), (Btw.of_below (lo := g) (hi := g + 1) HBX.out).setCell (p := ⟨g, 1, none⟩) (Or.inl ⟨Nat.le_refl _, Nat.lt_succ_self _⟩) _⟩
      · have HB := HRB (.inr h0)
        have hcc : (c != 0) = true := by simpa using h0
        clear HRB HRO
        go_wp2_with fail
        go_ret
        exact ⟨by rw [HB.out]; rfl, by rw [HB.out]; exact HKc.out.set (j := 2) (.bool true), (Btw.of_below (lo := g) (hi := g + 1) HBX.out).setCell (p := ⟨g, 2, none⟩) (Or.inl ⟨Nat.le_refl _, Nat.lt_succ_self _⟩) _⟩
    · have HB := HRB (.inl rfl)
      clear HRB HRO
      go_wp2_with fail
      go_ret
      exact ⟨by rw [HB.out]; rfl, by rw [HB.out]; exact HKc.out.set (j := 2) (.bool true), (Btw.of_below (lo := g) (hi := g + 1) HBX.out).setCell (p := ⟨g, 2, none⟩) (Or.inl ⟨Nat.le_refl _, Nat.lt_succ_self _⟩) _⟩
end Go.Proofs.YtpgemeojhbeooaaDoor
