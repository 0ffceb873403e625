/-
  The contracts of RecRead, of the program and of the model, and of the law's comparison of two results.
-/
import Derived.Test.YtpgemeojhbeooaaDoorProg
import Derived.KernelRfl
import Derived.Test.YtpgemeojhbeooaaDoorRcRead
import Derived.Test.YtpgemeojhbeooaaDoorBtGet2
import Derived.Test.YtpgemeojhbeooaaDoorBtSeal
import Derived.Test.YtpgemeojhbeooaaDoorRcBytes
import Derived.Test.YtpgemeojhbeooaaDoorNdMem
import Derived.WalkKit
import Derived.Lib.Hide
import Derived.Deep.RegionLaw
import Derived.Deep.RegionHeld3
import Derived.Deep.DeepCutAuto
import Derived.Deep.CutBlock
import Derived.BigQuiet
import Derived.Deep.QuietTactic
namespace Go.Proofs.YtpgemeojhbeooaaDoor
open Go.RowKit
open Bt (Rc)

set_option maxHeartbeats 8000000 in
theorem reader_text_any (g : Nat) (s : ByteArray) (x : Int × Bool) (w : World) (hs : s.size ≤ maxLen) (hx : x.1 ≤ 9223372036854775807) (hk : IsBlk w g 66 (rdC s x)) :
    Calls Tryd.prog 37 #[.pointer (some ⟨g, 0, none⟩)] w fun e w' => e = .returned (strV (Bt.rdText s x).1) ∧ IsBlk w' g 66 (rdC s (Bt.rdText s x).2) ∧ Btw g (g + 1) w w' := by
  obtain ⟨at_, bad⟩ := x
  have HK := Lib.hid hk
  have hc0 : w.cell? ⟨g, 0, none⟩ = some _ := hk.cell rfl
  have hc1 : w.cell? ⟨g, 1, none⟩ = some _ := hk.cell rfl
  have hc2 : w.cell? ⟨g, 2, none⟩ = some _ := hk.cell rfl
  clear hk
  have hlg := HK.out.lt
  generalize hN : Bt.getText s at_ = G
  obtain ⟨n, a, c⟩ := G
  have HRB := fun (h : bad = true ∨ c ≠ 0) => Lib.hid (Bt.rdText_bad (s := s) (x := (at_, bad)) (by rw [hN]; exact h))
  have HRO := fun (h : ¬ (bad = true ∨ c ≠ 0)) => Lib.hid (Bt.rdText_ok (s := s) (x := (at_, bad)) (by rw [hN]; exact h))
  have HN := Lib.hid hN
  rw [hN] at HRO
  generalize Bt.rdText s (at_, bad) = RN at HRB HRO ⊢
  clear hN
  go_enter Tryd.func37, Tryd.ntmps37
  go_wp2_with fail
  go_cut [3] (fun v3 wx => ∃ nb, v3 = .pointer (some ⟨nb, 0, none⟩) ∧ IsBlk wx nb 35 [strV n, .int .i64 a, .int .i64 c] ∧ Below w.heap.size w wx)
  case first =>
    have HKEEP : Hid (∀ V, Below w.heap.size w V → V.cell? ⟨g, 0, none⟩ = some (.string s) ∧ V.cell? ⟨g, 1, none⟩ = some (.int .i64 at_)) :=
      fun V hV => ⟨(hV.cell (p := ⟨g, 0, none⟩) hlg).trans hc0, (hV.cell (p := ⟨g, 1, none⟩) hlg).trans hc1⟩
    go_region_held3 (fun V => V.cell? ⟨g, 0, none⟩ = some (.string s) ∧ V.cell? ⟨g, 1, none⟩ = some (.int .i64 at_))
      (first | exact HKEEP.out _ BB.out | exact HKEEP.out _ (BB.out.alloc BB.out.size _) | exact HKEEP.out _ (Below.refl _ _).drew | exact HKEEP.out _ ((Below.refl _ _).drew.alloc (Nat.le_refl _) _) | exact HKEEP.out _ (((BB.out.setCell (Nat.le_refl _) _).setCell (Nat.le_refl _) _).setCell (Nat.le_refl _) _))
      (first
        | (go_at_call 61
           refine (spec_getText_any s at_ _ hs hx).mono ?_
           rintro e w2 ⟨rfl, hb2⟩
           rw [HN.out]
           first
             | (have HH : Hid (IsBlk w2 w.heap.size 35 [.string ⟨#[]⟩, .int .i64 0, .int .i64 0]) ∧ Hid (Below w.heap.size w w2) := new_drew _ _ hb2
                obtain ⟨KB, BB⟩ := HH
                obtain ⟨d0, d1, d2, fd0, fd1, fd2⟩ := blk3 KB.out)
             | (have BB : Hid (Below w.heap.size w w2) := (Below.refl w.heap.size w).drew.trans hb2)
           clear hb2))
    all_goals (go_wp2_with fail; go_meet)
    all_goals first
      | exact ⟨_, rfl, ((KB.out.set _).set _).set _, ((BB.out.setCell (Nat.le_refl _) _).setCell (Nat.le_refl _) _).setCell (Nat.le_refl _) _⟩
      | exact ⟨_, rfl, isBlk_new w2 _ [_, _, _], BB.out.alloc BB.out.size _⟩
  case rest =>
    obtain ⟨nb, rfl, hkb, hbx⟩ := hcut
    have HKB := Lib.hid hkb; have HBX := Lib.hid hbx
    have HKc := Lib.hid (HK.out.below hbx hlg)
    have hk0 : wc.cell? ⟨g, 0, none⟩ = some _ := HKc.out.cell rfl
    have hk1 : wc.cell? ⟨g, 1, none⟩ = some _ := HKc.out.cell rfl
    have hk2 : wc.cell? ⟨g, 2, none⟩ = some _ := HKc.out.cell rfl
    obtain ⟨d0, d1, d2, fd0, fd1, fd2⟩ := blk3 hkb
    have fk1 := HKc.out.free (j := 1)
    have fk2 := HKc.out.free (j := 2)
    clear hkb hbx hc0 hc1 hc2
    cases bad
    · by_cases h0 : c = 0
      · subst h0
        have HO := HRO (by simp)
        clear HRB HRO
        go_wp2_with fail
        go_ret
        exact ⟨by rw [HO.out]; rfl, by rw [HO.out]; exact HKc.out.set (j := 1) (.int .i64 a), (Btw.of_below (lo := g) (hi := g + 1) HBX.out).setCell (p := ⟨g, 1, none⟩) (Or.inl ⟨Nat.le_refl _, Nat.lt_succ_self _⟩) _⟩
      · have HB := HRB (.inr h0)
        have hcc : (c != 0) = true := by simpa using h0
        clear HRB HRO
        go_wp2_with fail
        go_ret
        exact ⟨by rw [HB.out]; rfl, by rw [HB.out]; exact HKc.out.set (j := 2) (.bool true), (Btw.of_below (lo := g) (hi := g + 1) HBX.out).setCell (p := ⟨g, 2, none⟩) (Or.inl ⟨Nat.le_refl _, Nat.lt_succ_self _⟩) _⟩
    · have HB := HRB (.inl rfl)
      clear HRB HRO
      go_wp2_with fail
      go_ret
      exact ⟨by rw [HB.out]; rfl, by rw [HB.out]; exact HKc.out.set (j := 2) (.bool true), (Btw.of_below (lo := g) (hi := g + 1) HBX.out).setCell (p := ⟨g, 2, none⟩) (Or.inl ⟨Nat.le_refl _, Nat.lt_succ_self _⟩) _⟩
theorem opened_small (s : ByteArray) : (Bt.opened s).1.length ≤ 8000 := by
  by_cases h : (Bt.opened s).2 = 0
  · obtain ⟨h1, h2, h3, -⟩ := Bt.opened_split h; omega
  · have : (Bt.opened s).1 = [] := by
      unfold Bt.opened at h ⊢
      split
      · rfl
      · split
        · rfl
        · split
          · rfl
          · simp_all
    rw [this]; simp
/-- the cells of a RecOut -/
abbrev routC (x : Rc × Int) : List Value := [.int .i64 x.1.k, .int .i64 x.1.s, .int .i64 x.1.q, .int .i64 x.1.t, .int .i64 x.1.o, .string x.1.d, .int .i64 x.2]
theorem routCells {w : World} {g : Nat} {e : TypeId} {x : Rc × Int} (h : IsBlk w g e (routC x)) : (w.cell? ⟨g, 0, none⟩ = some (.int .i64 x.1.k) ∧ w.cell? ⟨g, 1, none⟩ = some (.int .i64 x.1.s) ∧ w.cell? ⟨g, 2, none⟩ = some (.int .i64 x.1.q) ∧
    w.cell? ⟨g, 3, none⟩ = some (.int .i64 x.1.t) ∧ w.cell? ⟨g, 4, none⟩ = some (.int .i64 x.1.o) ∧ w.cell? ⟨g, 5, none⟩ = some (.string x.1.d) ∧ w.cell? ⟨g, 6, none⟩ = some (.int .i64 x.2)) ∧
    (w.frozen? ⟨g, 0, none⟩ = false ∧ w.frozen? ⟨g, 1, none⟩ = false ∧ w.frozen? ⟨g, 2, none⟩ = false ∧ w.frozen? ⟨g, 3, none⟩ = false ∧ w.frozen? ⟨g, 4, none⟩ = false ∧ w.frozen? ⟨g, 5, none⟩ = false ∧ w.frozen? ⟨g, 6, none⟩ = false) :=
  ⟨⟨h.cell rfl, h.cell rfl, h.cell rfl, h.cell rfl, h.cell rfl, h.cell rfl, h.cell rfl⟩, h.free, h.free, h.free, h.free, h.free, h.free, h.free⟩

theorem getText_small (s : ByteArray) (p : Int) : (Bt.getText s p).1.length ≤ 8000 := by
  by_cases h1 : (Bt.getNum s p).2.2 ≠ 0
  · rw [Bt.getText_code h1]; simp
  by_cases h2 : (Bt.getNum s p).1 < 0 ∨ 8000 < (Bt.getNum s p).1
  · rw [Bt.getText_size h1 h2]; simp
  by_cases h3 : (s.size : Int) < (Bt.getNum s p).2.1 + (Bt.getNum s p).1
  · rw [Bt.getText_short h1 h2 h3]; simp
  rw [Bt.getText_ok h1 h2 h3]
  have hat := (Bt.getNum_at s p).1
  rw [len_list, ext_len (by omega)]
  omega
theorem rdEnd_small (s : ByteArray) : (Bt.rdEnd s).1.length ≤ 8000 := by
  unfold Bt.rdEnd Bt.rdText
  split
  · simp
  · exact getText_small _ _
theorem rdRec_small (s : ByteArray) : (Bt.rdRec s).d.size ≤ maxLen := by
  have := rdEnd_small s
  simp only [Bt.rdRec, bstr_size]; unfold maxLen; omega
theorem whole_iff (s : ByteArray) : rdWhole s = true ↔ ((Bt.rdEnd s).2.2 = false ∧ (Bt.rdEnd s).2.1 = (s.size : Int)) := by simp [rdWhole]
/-- seven stores into the call's own block -/
theorem bel_seven {w w2 : World} (h : Below w.heap.size w w2) (v0 v1 v2 v3 v4 v5 v6 : Value) :
    Below w.heap.size w (((((((w2.setCell ⟨w.heap.size, 0, none⟩ v0).setCell ⟨w.heap.size, 1, none⟩ v1).setCell ⟨w.heap.size, 2, none⟩ v2).setCell ⟨w.heap.size, 3, none⟩ v3).setCell ⟨w.heap.size, 4, none⟩ v4).setCell ⟨w.heap.size, 5, none⟩ v5).setCell ⟨w.heap.size, 6, none⟩ v6) :=
  ((((((h.setCell (p := ⟨w.heap.size, 0, none⟩) (Nat.le_refl _) v0).setCell (p := ⟨w.heap.size, 1, none⟩) (Nat.le_refl _) v1).setCell (p := ⟨w.heap.size, 2, none⟩) (Nat.le_refl _) v2).setCell (p := ⟨w.heap.size, 3, none⟩) (Nat.le_refl _) v3).setCell (p := ⟨w.heap.size, 4, none⟩) (Nat.le_refl _) v4).setCell (p := ⟨w.heap.size, 5, none⟩) (Nat.le_refl _) v5).setCell (p := ⟨w.heap.size, 6, none⟩) (Nat.le_refl _) v6

/-! the model's reader, call by call -/
theorem rdAt_wf (s : ByteArray) (j : Nat) : (Bt.rdAt s j).1 ≤ 9223372036854775807 := by
  induction j with
  | zero => simp [Bt.rdAt]
  | succ j ih => exact rdNum_wf ih
theorem reader_at (g j : Nat) (s : ByteArray) (w : World) (hs : s.size ≤ maxLen) (hk : IsBlk w g 66 (rdC s (Bt.rdAt s j))) :
    Calls Tryd.prog 36 #[.pointer (some ⟨g, 0, none⟩)] w fun e w' => e = .returned (.int .i64 (Bt.rdVal s j)) ∧ IsBlk w' g 66 (rdC s (Bt.rdAt s (j + 1))) ∧ Btw g (g + 1) w w' :=
  reader_num_any g s (Bt.rdAt s j) w hs (rdAt_wf s j) hk
theorem reader_end (g : Nat) (s : ByteArray) (w : World) (hs : s.size ≤ maxLen) (hk : IsBlk w g 66 (rdC s (Bt.rdAt s 5))) :
    Calls Tryd.prog 37 #[.pointer (some ⟨g, 0, none⟩)] w fun e w' => e = .returned (strV (Bt.rdEnd s).1) ∧ IsBlk w' g 66 (rdC s (Bt.rdEnd s).2) ∧ Btw g (g + 1) w w' :=
  reader_text_any g s (Bt.rdAt s 5) w hs (rdAt_wf s 5) hk
/-! the law's comparison -/
end Go.Proofs.YtpgemeojhbeooaaDoor
