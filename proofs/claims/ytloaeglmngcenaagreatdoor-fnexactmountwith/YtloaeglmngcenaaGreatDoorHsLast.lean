/-
  The contracts of the last record and of the floor, of the program and of the model.
-/
import Derived.Test.YtloaeglmngcenaaGreatDoorProg
import Derived.KernelRfl
import Derived.Test.YtloaeglmngcenaaGreatDoorHsRight
namespace Go.Proofs.YtloaeglmngcenaaGreatDoor
open Go.RowKit
open Bt (Rc)

theorem recField_2 (k s q t o : Int) (d : ByteArray) (w : World) : (Instr.field 34 (.agg #[.int .i64 k, .int .i64 s, .int .i64 q, .int .i64 t, .int .i64 o, .string d]) 2).run Tryz.prog w = .ok (.int .i64 q) w := by
  simp [Instr.field, run_underlying Tryz.underlying34, part, asAgg, go_sem]
theorem recField_3 (k s q t o : Int) (d : ByteArray) (w : World) : (Instr.field 34 (.agg #[.int .i64 k, .int .i64 s, .int .i64 q, .int .i64 t, .int .i64 o, .string d]) 3).run Tryz.prog w = .ok (.int .i64 t) w := by
  simp [Instr.field, run_underlying Tryz.underlying34, part, asAgg, go_sem]
theorem recField_4 (k s q t o : Int) (d : ByteArray) (w : World) : (Instr.field 34 (.agg #[.int .i64 k, .int .i64 s, .int .i64 q, .int .i64 t, .int .i64 o, .string d]) 4).run Tryz.prog w = .ok (.int .i64 o) w := by
  simp [Instr.field, run_underlying Tryz.underlying34, part, asAgg, go_sem]

/-- the cells of the record at place k of what reads as X, the row's first record spelled as the walk spells it -/
theorem RdRc.last {w : World} {B n : Nat} {A : Option Addr} {X : List Rc} (h : RdRc w B A n X) (hn : 0 < n) :
    ∃ g off, A = some ⟨g, off, none⟩ ∧ g < B ∧ w.cell? ⟨g, off + (n - 1) * 6, none⟩ = some (.int .i64 (lastR X).k) ∧ w.cell? ⟨g, off + (n - 1) * 6 + 1, none⟩ = some (.int .i64 (lastR X).s) ∧
      w.cell? ⟨g, off + (n - 1) * 6 + 2, none⟩ = some (.int .i64 (lastR X).q) ∧ w.cell? ⟨g, off + (n - 1) * 6 + 3, none⟩ = some (.int .i64 (lastR X).t) ∧
      w.cell? ⟨g, off + (n - 1) * 6 + 4, none⟩ = some (.int .i64 (lastR X).o) ∧ w.cell? ⟨g, off + (n - 1) * 6 + 5, none⟩ = some (.string (lastR X).d) := by
  have := h.at (k := n - 1) (by omega)
  unfold lastR
  rw [h.1]
  exact this

set_option maxHeartbeats 1000000 in
theorem lastRec_any (A : Option Addr) (n ca : Nat) (X : List Rc) (w : World) (hS : SmallR X) (hA : RdRc w w.heap.size A n X) :
    Calls Tryz.prog 200 #[.agg #[.slice A n ca]] w fun e w' => e = .returned (recV (lastOf X)) ∧ Below w.heap.size w w' := by
  have hn : n ≤ 1048576 := by rw [← hA.1]; exact hS.1
  have HA := Lib.hid hA; have HS := Lib.hid hS; clear hA hS
  go_enter Tryz.func200, Tryz.ntmps200
  go_wp2_with fail
  have hb0 : Below w.heap.size w ((w.alloc (.cells #[.slice A n ca] 29)).alloc (.cells #[.int .i64 0, .int .i64 0, .int .i64 0, .int .i64 0, .int .i64 0, .string ⟨#[]⟩] 34)) := ((Below.refl _ _).alloc (Nat.le_refl _) _).alloc (by simp) _
  have k0 := (isBlk_new w 29 [.slice A n ca]).alloc (.cells #[.int .i64 0, .int .i64 0, .int .i64 0, .int .i64 0, .int .i64 0, .string ⟨#[]⟩] 34)
  have k1 := isBlk_new (w.alloc (.cells #[.slice A n ca] 29)) 34 (recC Rc.zero)
  rw [size_alloc] at k1
  change IsBlk ((w.alloc (.cells #[.slice A n ca] 29)).alloc (.cells #[.int .i64 0, .int .i64 0, .int .i64 0, .int .i64 0, .int .i64 0, .string ⟨#[]⟩] 34)) _ _ _ at k1
  change IsBlk ((w.alloc (.cells #[.slice A n ca] 29)).alloc (.cells #[.int .i64 0, .int .i64 0, .int .i64 0, .int .i64 0, .int .i64 0, .string ⟨#[]⟩] 34)) _ _ _ at k0
  generalize (w.alloc (.cells #[.slice A n ca] 29)).alloc (.cells #[.int .i64 0, .int .i64 0, .int .i64 0, .int .i64 0, .int .i64 0, .string ⟨#[]⟩] 34) = W at hb0 k0 k1 ⊢
  refine (impl_histRight_any A n ca X W HS.out (HA.out.next hb0)).mono ?_
  rintro e w1 ⟨rfl, hb1⟩
  have HB1 := Lib.hid (hb0.trans (hb1.mono hb0.size))
  have kx := k0.below hb1 k0.lt
  have kz := k1.below hb1 k1.lt
  have hx : w1.cell? ⟨w.heap.size, 0, none⟩ = some (.slice A n ca) := kx.cell rfl
  obtain ⟨a0, a1, a2, a3, a4, a5⟩ := rcCells kz
  have f0 : w1.frozen? ⟨w.heap.size + 1, 0, none⟩ = false := kz.free
  have f1 : w1.frozen? ⟨w.heap.size + 1, 1, none⟩ = false := kz.free
  have f2 : w1.frozen? ⟨w.heap.size + 1, 2, none⟩ = false := kz.free
  have f3 : w1.frozen? ⟨w.heap.size + 1, 3, none⟩ = false := kz.free
  have f4 : w1.frozen? ⟨w.heap.size + 1, 4, none⟩ = false := kz.free
  have f5 : w1.frozen? ⟨w.heap.size + 1, 5, none⟩ = false := kz.free
  have HRD := Lib.hid (HA.out.next HB1.out)
  clear hb0 k0 k1 hb1 kx kz
  have HL : Hid (lastOf X = if hRight X = true then lastR X else Rc.zero) := Lib.hid rfl
  by_cases hr : hRight X = true
  · rw [hr] at HL ⊢
    by_cases h0 : n = 0
    · subst h0
      have HZ : Hid (lastR X = Rc.zero) := lastR_nil HA.out.1
      clear hr
      go_wp2
      exact bodyPost_ret (v := recV Rc.zero) (by simp [results, Tryz.results200, go_sem, Rc.zero, a0, a1, a2, a3, a4, a5]) rfl ⟨by rw [HL.out, if_pos (by trivial), HZ.out], (((((HB1.out.setCell (by simp) _).setCell (by simp) _).setCell (by simp) _).setCell (by simp) _).setCell (by simp) _).setCell (by simp) _⟩
    · have hp : 0 < n := by omega
      have hn0 : decide (n = 0) = false := by simpa using h0
      have hn1 : ((n : Int) == 0) = false := by simp; omega
      obtain ⟨g, off, rfl, hg, hc0, hc1, hc2, hc3, hc4, hc5⟩ := HRD.out.last hp
      generalize lastR X = r at *
      obtain ⟨m, rfl⟩ : ∃ m, n = m + 1 := ⟨n - 1, by omega⟩
      simp only [Nat.add_sub_cancel] at hc0 hc1 hc2 hc3 hc4 hc5
      clear hr
      go_wp2
      exact bodyPost_ret (v := recV r) (by simp [results, Tryz.results200, go_sem, a0, a1, a2, a3, a4, a5]) rfl ⟨by rw [HL.out, if_pos (by trivial)], (((((HB1.out.setCell (by simp) _).setCell (by simp) _).setCell (by simp) _).setCell (by simp) _).setCell (by simp) _).setCell (by simp) _⟩
  · have hr : hRight X = false := by simpa using hr
    rw [hr] at HL ⊢
    clear hr
    go_wp2
    exact bodyPost_ret (v := recV Rc.zero) (by simp [results, Tryz.results200, go_sem, Rc.zero, a0, a1, a2, a3, a4, a5]) rfl ⟨by rw [HL.out, if_neg (by decide)], (((((HB1.out.setCell (by simp) _).setCell (by simp) _).setCell (by simp) _).setCell (by simp) _).setCell (by simp) _).setCell (by simp) _⟩

set_option maxHeartbeats 1000000 in
theorem impl_lastSeq_any (A : Option Addr) (n ca : Nat) (X : List Rc) (w : World) (hS : SmallR X) (hA : RdRc w w.heap.size A n X) :
    Calls Tryz.prog 206 #[.agg #[.slice A n ca]] w fun e w' => e = .returned (.int .i64 (lastOf X).q) ∧ Below w.heap.size w w' := by
  have HA := Lib.hid hA; have HS := Lib.hid hS; clear hA hS
  have hf := recField_2
  go_enter Tryz.func206, Tryz.ntmps206
  go_wp2_with fail
  have hb0 : Below w.heap.size w (w.alloc (.cells #[.slice A n ca] 29)) := (Below.refl _ _).alloc (Nat.le_refl _) _
  refine (lastRec_any A n ca X _ HS.out (HA.out.next hb0)).mono ?_
  rintro e w1 ⟨rfl, hb1⟩
  have HB1 := Lib.hid (hb0.trans (hb1.mono hb0.size))
  clear hb0 hb1
  go_wp2
  go_ret
  exact ⟨rfl, HB1.out⟩

set_option maxHeartbeats 1000000 in
theorem impl_lastTime_any (A : Option Addr) (n ca : Nat) (X : List Rc) (w : World) (hS : SmallR X) (hA : RdRc w w.heap.size A n X) :
    Calls Tryz.prog 184 #[.agg #[.slice A n ca]] w fun e w' => e = .returned (.int .i64 (lastOf X).t) ∧ Below w.heap.size w w' := by
  have HA := Lib.hid hA; have HS := Lib.hid hS; clear hA hS
  have hf := recField_3
  go_enter Tryz.func184, Tryz.ntmps184
  go_wp2_with fail
  have hb0 : Below w.heap.size w (w.alloc (.cells #[.slice A n ca] 29)) := (Below.refl _ _).alloc (Nat.le_refl _) _
  refine (lastRec_any A n ca X _ HS.out (HA.out.next hb0)).mono ?_
  rintro e w1 ⟨rfl, hb1⟩
  have HB1 := Lib.hid (hb0.trans (hb1.mono hb0.size))
  clear hb0 hb1
  go_wp2
  go_ret
  exact ⟨rfl, HB1.out⟩

set_option maxHeartbeats 1000000 in
theorem l04Last_any (A : Option Addr) (n ca : Nat) (X : List Rc) (w : World) (hn : n ≤ 1048576) (hA : RdRc w w.heap.size A n X) :
    Calls Tryz.prog 102 #[.agg #[.slice A n ca]] w fun e w' => e = .returned (recV (lastR X)) ∧ Below w.heap.size w w' := by
  have HA := Lib.hid hA; clear hA
  by_cases h0 : n = 0
  · subst h0
    have HZ : Hid (lastR X = Rc.zero) := lastR_nil HA.out.1
    go_enter Tryz.func102, Tryz.ntmps102
    go_wp2
    exact bodyPost_ret (v := recV Rc.zero) (by simp [results, Tryz.results102, go_sem, Rc.zero]) rfl ⟨by rw [HZ.out], ((((((((Below.refl _ _).alloc (Nat.le_refl _) _).alloc (by simp) _)))))) ⟩
  · have hp : 0 < n := by omega
    have hn0 : decide (n = 0) = false := by simpa using h0
    have hn1 : ((n : Int) == 0) = false := by simp; omega
    obtain ⟨g, off, rfl, hg, hc0, hc1, hc2, hc3, hc4, hc5⟩ := HA.out.last hp
    generalize lastR X = r at *
    obtain ⟨m, rfl⟩ : ∃ m, n = m + 1 := ⟨n - 1, by omega⟩
    simp only [Nat.add_sub_cancel] at hc0 hc1 hc2 hc3 hc4 hc5
    go_enter Tryz.func102, Tryz.ntmps102
    go_wp2
    exact bodyPost_ret (v := recV r) (by simp [results, Tryz.results102, go_sem]) rfl ⟨rfl, ((((((((Below.refl _ _).alloc (Nat.le_refl _) _).alloc (by simp) _)))))) ⟩

set_option maxHeartbeats 1000000 in
theorem spec_lastSeq_any (A : Option Addr) (n ca : Nat) (X : List Rc) (w : World) (hS : SmallR X) (hA : RdRc w w.heap.size A n X) :
    Calls Tryz.prog 50 #[.agg #[.slice A n ca]] w fun e w' => e = .returned (.int .i64 (lastOf X).q) ∧ Below w.heap.size w w' := by
  have hn : n ≤ 1048576 := by rw [← hA.1]; exact hS.1
  have HA := Lib.hid hA; have HS := Lib.hid hS; clear hA hS
  have hf := recField_2
  go_enter Tryz.func50, Tryz.ntmps50
  go_wp2_with fail
  have hb0 : Below w.heap.size w (w.alloc (.cells #[.slice A n ca] 29)) := (Below.refl _ _).alloc (Nat.le_refl _) _
  have k0 := isBlk_new w 29 [.slice A n ca]
  change IsBlk (w.alloc (.cells #[.slice A n ca] 29)) _ _ _ at k0
  generalize w.alloc (.cells #[.slice A n ca] 29) = W at hb0 k0 ⊢
  refine (spec_histRight_any A n ca X _ HS.out (HA.out.next hb0)).mono ?_
  rintro e w1 ⟨rfl, hb1⟩
  have HB1 := Lib.hid (hb0.trans (hb1.mono hb0.size))
  have kx := k0.below hb1 k0.lt
  have hx : w1.cell? ⟨w.heap.size, 0, none⟩ = some (.slice A n ca) := kx.cell rfl
  clear hb0 hb1 k0 kx
  have HL : Hid (lastOf X = if hRight X = true then lastR X else Rc.zero) := Lib.hid rfl
  by_cases hr : hRight X = true
  · rw [hr] at HL ⊢
    clear hr
    go_wp2_with fail
    refine (l04Last_any A n ca X _ hn (HA.out.next HB1.out)).mono ?_
    rintro e w2 ⟨rfl, hb2⟩
    have HB2 := Lib.hid (HB1.out.trans (hb2.mono HB1.out.size))
    clear hb2
    go_wp2
    go_ret
    exact ⟨ret_i (by rw [HL.out, if_pos (by trivial)]), HB2.out⟩
  · have hr : hRight X = false := by simpa using hr
    rw [hr] at HL ⊢
    clear hr
    go_wp2
    go_ret
    exact ⟨ret_i (by rw [HL.out, if_neg (by decide)]; rfl), HB1.out⟩

end Go.Proofs.YtloaeglmngcenaaGreatDoor
