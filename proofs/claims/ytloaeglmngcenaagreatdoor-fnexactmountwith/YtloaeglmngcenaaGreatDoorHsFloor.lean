/-
  The contracts of the floor, of the program and of the model.
-/
import Derived.Test.YtloaeglmngcenaaGreatDoorProg
import Derived.KernelRfl
import Derived.Test.YtloaeglmngcenaaGreatDoorHsLast
namespace Go.Proofs.YtloaeglmngcenaaGreatDoor
open Go.RowKit
open Bt (Rc)

set_option maxHeartbeats 1000000 in
theorem floorRec_any (A : Option Addr) (n ca : Nat) (X : List Rc) (w : World) (hn : n ≤ 1048576) (hA : RdRc w w.heap.size A n X) :
    Calls Tryz.prog 245 #[.slice A n ca] w fun e w' => e = .returned (recV (floorRecTo X n)) ∧ Below w.heap.size w w' := by
  have HA := Lib.hid hA; clear hA
  go_enter Tryz.func245, Tryz.ntmps245
  go_wp2
  have hb1 : Below w.heap.size w ((w.alloc (.cells #[.int .i64 0, .int .i64 0, .int .i64 0, .int .i64 0, .int .i64 0, .string ⟨#[]⟩] 34)).alloc (.cells #[.int .i64 0, .int .i64 0, .int .i64 0, .int .i64 0, .int .i64 0, .string ⟨#[]⟩] 34)) := ((Below.refl _ _).alloc (Nat.le_refl _) _).alloc (by simp) _
  have k0 := (isBlk_new w 34 (recC Rc.zero)).alloc (.cells #[.int .i64 0, .int .i64 0, .int .i64 0, .int .i64 0, .int .i64 0, .string ⟨#[]⟩] 34)
  have k1 := isBlk_new (w.alloc (.cells #[.int .i64 0, .int .i64 0, .int .i64 0, .int .i64 0, .int .i64 0, .string ⟨#[]⟩] 34)) 34 (recC Rc.zero)
  rw [size_alloc] at k1
  change IsBlk ((w.alloc (.cells #[.int .i64 0, .int .i64 0, .int .i64 0, .int .i64 0, .int .i64 0, .string ⟨#[]⟩] 34)).alloc (.cells #[.int .i64 0, .int .i64 0, .int .i64 0, .int .i64 0, .int .i64 0, .string ⟨#[]⟩] 34)) _ _ _ at k1
  change IsBlk ((w.alloc (.cells #[.int .i64 0, .int .i64 0, .int .i64 0, .int .i64 0, .int .i64 0, .string ⟨#[]⟩] 34)).alloc (.cells #[.int .i64 0, .int .i64 0, .int .i64 0, .int .i64 0, .int .i64 0, .string ⟨#[]⟩] 34)) _ _ _ at k0
  generalize (w.alloc (.cells #[.int .i64 0, .int .i64 0, .int .i64 0, .int .i64 0, .int .i64 0, .string ⟨#[]⟩] 34)).alloc (.cells #[.int .i64 0, .int .i64 0, .int .i64 0, .int .i64 0, .int .i64 0, .string ⟨#[]⟩] 34) = W at hb1 k0 k1 ⊢
  have HB1 := Lib.hid hb1; have HK1 := Lib.hid k1; have HK0 := Lib.hid k0; clear hb1 k1 k0
  go_loopw [8] (fun i wr => ∃ k : Nat, k ≤ n ∧ i = .int .i64 (k : Nat) ∧ IsBlk wr w.heap.size 34 (recC Rc.zero) ∧ IsBlk wr (w.heap.size + 1) 34 (recC (floorRecTo X k)) ∧ Below w.heap.size w wr) (fun i _ => n - (intOf i).toNat)
  case atStart => exact ⟨0, by omega, rfl, HK0.out, HK1.out, HB1.out⟩
  case round =>
    obtain ⟨k, hk, rfl, hz, hblk, hbel⟩ := hrel
    have HW := Lib.hid hbel; have HK := Lib.hid hblk; have HZ := Lib.hid hz
    by_cases hlt : k < n
    · obtain ⟨g, off, rfl, hg, hc0, hc1, hc2, hc3, hc4, hc5⟩ := (HA.out.below hbel).at hlt
      have HST : Hid (floorRecTo X (k + 1) = if (X.getD k Rc.zero).k = 4 ∧ (floorRecTo X k).o ≤ (X.getD k Rc.zero).o then X.getD k Rc.zero else floorRecTo X k) := Lib.hid rfl
      obtain ⟨b0, b1, b2, b3, b4, b5⟩ := rcCells hblk
      have f0 : wr.frozen? ⟨w.heap.size + 1, 0, none⟩ = false := hblk.free
      have f1 : wr.frozen? ⟨w.heap.size + 1, 1, none⟩ = false := hblk.free
      have f2 : wr.frozen? ⟨w.heap.size + 1, 2, none⟩ = false := hblk.free
      have f3 : wr.frozen? ⟨w.heap.size + 1, 3, none⟩ = false := hblk.free
      have f4 : wr.frozen? ⟨w.heap.size + 1, 4, none⟩ = false := hblk.free
      have f5 : wr.frozen? ⟨w.heap.size + 1, 5, none⟩ = false := hblk.free
      have hlt1 : w.heap.size + 1 < wr.heap.size := hblk.lt
      clear hbel hblk hz
      generalize X.getD k Rc.zero = r at *
      generalize floorRecTo X k = p at *
      by_cases h4 : r.k = 4
      · have h4' : (r.k == 4) = true := by simpa using h4
        by_cases ho : p.o ≤ r.o
        · rw [if_pos ⟨h4, ho⟩] at HST
          clear h4
          go_wp2
          go_roundw
          case rel =>
            have hB := (((((HW.out.setCell (p := ⟨w.heap.size + 1, 0, none⟩) (by simp) (.int .i64 r.k)).setCell (p := ⟨w.heap.size + 1, 1, none⟩) (by simp) (.int .i64 r.s)).setCell (p := ⟨w.heap.size + 1, 2, none⟩) (by simp) (.int .i64 r.q)).setCell (p := ⟨w.heap.size + 1, 3, none⟩) (by simp) (.int .i64 r.t)).setCell (p := ⟨w.heap.size + 1, 4, none⟩) (by simp) (.int .i64 r.o)).setCell (p := ⟨w.heap.size + 1, 5, none⟩) (by simp) (.string r.d)
            refine ⟨k + 1, by omega, by go_num, ?_, ?_, hB.alloc hB.size _⟩
            · refine IsBlk.alloc ?_ _
              repeat (with_reducible refine IsBlk.other ?_ ?_ _)
              all_goals first | exact HZ.out | (dsimp only; omega)
            · rw [HST.out]
              exact ((((((HK.out.set _).set _).set _).set _).set _).set _).alloc _
          case measure => simp [intOf]; omega
        · rw [if_neg (by rintro ⟨-, h⟩; exact ho h)] at HST
          have ho' : r.o < p.o := by omega
          clear h4
          go_wp2
          go_roundw
          case rel => exact ⟨k + 1, by omega, by go_num, HZ.out.alloc _, by rw [HST.out]; exact HK.out.alloc _, HW.out.alloc HW.out.size _⟩
          case measure => simp [intOf]; omega
      · have h4' : (r.k == 4) = false := by simpa using h4
        rw [if_neg (by rintro ⟨h, -⟩; exact h4 h)] at HST
        clear h4
        go_wp2
        go_roundw
        case rel => exact ⟨k + 1, by omega, by go_num, HZ.out.alloc _, by rw [HST.out]; exact HK.out.alloc _, HW.out.alloc HW.out.size _⟩
        case measure => simp [intOf]; omega
    · obtain rfl : k = n := by omega
      obtain ⟨b0, b1, b2, b3, b4, b5⟩ := rcCells hblk
      obtain ⟨a0, a1, a2, a3, a4, a5⟩ := rcCells hz
      have f0 : wr.frozen? ⟨w.heap.size, 0, none⟩ = false := hz.free
      have f1 : wr.frozen? ⟨w.heap.size, 1, none⟩ = false := hz.free
      have f2 : wr.frozen? ⟨w.heap.size, 2, none⟩ = false := hz.free
      have f3 : wr.frozen? ⟨w.heap.size, 3, none⟩ = false := hz.free
      have f4 : wr.frozen? ⟨w.heap.size, 4, none⟩ = false := hz.free
      have f5 : wr.frozen? ⟨w.heap.size, 5, none⟩ = false := hz.free
      clear hbel hblk hz
      obtain ⟨p, hp⟩ : ∃ p, p = floorRecTo X k := ⟨_, rfl⟩
      rw [← hp] at b0 b1 b2 b3 b4 b5
      have HP := Lib.hid hp; clear hp
      go_wp2
      exact bodyPost_ret (v := recV p) (by simp [results, Tryz.results245, go_sem, a0, a1, a2, a3, a4, a5]) rfl ⟨by rw [HP.out], (((((HW.out.setCell (by simp) _).setCell (by simp) _).setCell (by simp) _).setCell (by simp) _).setCell (by simp) _).setCell (by simp) _⟩

set_option maxHeartbeats 1000000 in
theorem impl_floorOf_any (A : Option Addr) (n ca : Nat) (X : List Rc) (w : World) (hS : SmallR X) (hA : RdRc w w.heap.size A n X) :
    Calls Tryz.prog 238 #[.agg #[.slice A n ca]] w fun e w' => e = .returned (.int .i64 (floorOf X)) ∧ Below w.heap.size w w' := by
  have hn : n ≤ 1048576 := by rw [← hA.1]; exact hS.1
  have HA := Lib.hid hA; have HS := Lib.hid hS; clear hA hS
  have hf := recField_4
  go_enter Tryz.func238, Tryz.ntmps238
  go_wp2_with fail
  have hb0 : Below w.heap.size w (w.alloc (.cells #[.slice A n ca] 29)) := (Below.refl _ _).alloc (Nat.le_refl _) _
  have k0 := isBlk_new w 29 [.slice A n ca]
  change IsBlk (w.alloc (.cells #[.slice A n ca] 29)) _ _ _ at k0
  generalize w.alloc (.cells #[.slice A n ca] 29) = W at hb0 k0 ⊢
  refine (impl_histRight_any A n ca X _ HS.out (HA.out.next hb0)).mono ?_
  rintro e w1 ⟨rfl, hb1⟩
  have HB1 := Lib.hid (hb0.trans (hb1.mono hb0.size))
  have kx := k0.below hb1 k0.lt
  have hx : w1.cell? ⟨w.heap.size, 0, none⟩ = some (.slice A n ca) := kx.cell rfl
  clear hb0 hb1 k0 kx
  have HL : Hid (floorOf X = if hRight X = true then floorTo X n else 0) := by show _ = _; have h := HA.out.1; rw [← h]; rfl
  by_cases hr : hRight X = true
  · rw [hr] at HL ⊢
    clear hr
    go_wp2_with fail
    refine (floorRec_any A n ca X _ hn (HA.out.next HB1.out)).mono ?_
    rintro e w2 ⟨rfl, hb2⟩
    have HB2 := Lib.hid (HB1.out.trans (hb2.mono HB1.out.size))
    clear hb2
    have HF := Lib.hid (floorRecTo_o X n)
    generalize floorRecTo X n = p at *
    go_wp2
    go_ret
    exact ⟨ret_i (by rw [HL.out, if_pos (by trivial), HF.out]), HB2.out⟩
  · have hr : hRight X = false := by simpa using hr
    rw [hr] at HL ⊢
    clear hr
    go_wp2
    go_ret
    exact ⟨ret_i (by rw [HL.out, if_neg (by decide)]), HB1.out⟩

set_option maxHeartbeats 1000000 in
theorem l01Max_any (a b : Int) (w : World) : Calls Tryz.prog 105 #[.int .i64 a, .int .i64 b] w fun e w' => e = .returned (.int .i64 (if a ≤ b then b else a)) ∧ w = w' := by
  by_cases h : a ≤ b
  · rw [if_pos h]
    go_enter Tryz.func105, Tryz.ntmps105
    go_wp2
    go_ret
    exact ⟨rfl, rfl⟩
  · rw [if_neg h]
    have h' : b < a := by omega
    go_enter Tryz.func105, Tryz.ntmps105
    go_wp2
    go_ret
    exact ⟨rfl, rfl⟩

set_option maxHeartbeats 1000000 in
theorem l04Floor_any (A : Option Addr) (n ca : Nat) (X : List Rc) (w : World) (hn : n ≤ 1048576) (hA : RdRc w w.heap.size A n X) :
    Calls Tryz.prog 112 #[.agg #[.slice A n ca]] w fun e w' => e = .returned (.int .i64 (floorTo X n)) ∧ Below w.heap.size w w' := by
  have HA := Lib.hid hA; clear hA
  go_enter Tryz.func112, Tryz.ntmps112
  go_wp2
  have hb1 : Below w.heap.size w (w.alloc (.cells #[.slice A n ca] 29)) := (Below.refl _ _).alloc (Nat.le_refl _) _
  have k1 := isBlk_new w 29 [.slice A n ca]
  change IsBlk (w.alloc (.cells #[.slice A n ca] 29)) _ _ _ at k1
  generalize w.alloc (.cells #[.slice A n ca] 29) = W at hb1 k1 ⊢
  have hx : W.cell? ⟨w.heap.size, 0, none⟩ = some (.slice A n ca) := k1.cell rfl
  have HB1 := Lib.hid hb1; have HRD := Lib.hid (HA.out.next hb1); clear hb1 k1
  go_loop [3, 4] (fun f i => ∃ k : Nat, k ≤ n ∧ i = .int .i64 (k : Nat) ∧ f = .int .i64 (floorTo X k)) (fun _ i => n - (intOf i).toNat)
  case atStart => exact ⟨0, by omega, rfl, rfl⟩
  case round =>
    obtain ⟨k, hk, rfl, rfl⟩ := hrel
    by_cases hlt : k < n
    · obtain ⟨g, off, rfl, hg, hc0, hc1, hc2, hc3, hc4, hc5⟩ := HRD.out.at hlt
      have HST : Hid (floorTo X (k + 1) = if (X.getD k Rc.zero).k = 4 ∧ floorTo X k ≤ (X.getD k Rc.zero).o then (X.getD k Rc.zero).o else floorTo X k) := Lib.hid rfl
      generalize X.getD k Rc.zero = r at *
      generalize floorTo X k = p at *
      by_cases h4 : r.k = 4
      · have h4' : (r.k == 4) = true := by simpa using h4
        have HST2 : Hid (floorTo X (k + 1) = if p ≤ r.o then r.o else p) := by show _ = _; rw [HST.out]; simp [h4]
        clear h4 HST
        go_wp2_with fail
        refine (l01Max_any _ _ _).mono ?_
        rintro e w1 ⟨rfl, rfl⟩
        generalize hm : (if p ≤ r.o then r.o else p) = m at HST2 ⊢
        clear hm
        go_wp2
        go_round
        case rel => exact ⟨k + 1, by omega, by go_num, by rw [HST2.out]⟩
        case measure => simp [intOf]; omega
      · have h4' : (r.k == 4) = false := by simpa using h4
        rw [if_neg (by rintro ⟨h, -⟩; exact h4 h)] at HST
        clear h4
        go_wp2
        go_round
        case rel => exact ⟨k + 1, by omega, by go_num, by rw [HST.out]⟩
        case measure => simp [intOf]; omega
    · obtain rfl : k = n := by omega
      go_wp2
      go_ret
      exact ⟨rfl, HB1.out⟩

set_option maxHeartbeats 1000000 in
theorem spec_floorOf_any (A : Option Addr) (n ca : Nat) (X : List Rc) (w : World) (hS : SmallR X) (hA : RdRc w w.heap.size A n X) :
    Calls Tryz.prog 40 #[.agg #[.slice A n ca]] w fun e w' => e = .returned (.int .i64 (floorOf X)) ∧ Below w.heap.size w w' := by
  have hn : n ≤ 1048576 := by rw [← hA.1]; exact hS.1
  have HA := Lib.hid hA; have HS := Lib.hid hS; clear hA hS
  go_enter Tryz.func40, Tryz.ntmps40
  go_wp2_with fail
  have hb0 : Below w.heap.size w (w.alloc (.cells #[.slice A n ca] 29)) := (Below.refl _ _).alloc (Nat.le_refl _) _
  have k0 := isBlk_new w 29 [.slice A n ca]
  change IsBlk (w.alloc (.cells #[.slice A n ca] 29)) _ _ _ at k0
  generalize w.alloc (.cells #[.slice A n ca] 29) = W at hb0 k0 ⊢
  refine (spec_histRight_any A n ca X _ HS.out (HA.out.next hb0)).mono ?_
  rintro e w1 ⟨rfl, hb1⟩
  have HB1 := Lib.hid (hb0.trans (hb1.mono hb0.size))
  have kx := k0.below hb1 k0.lt
  have hx : w1.cell? ⟨w.heap.size, 0, none⟩ = some (.slice A n ca) := kx.cell rfl
  clear hb0 hb1 k0 kx
  have HL : Hid (floorOf X = if hRight X = true then floorTo X n else 0) := by show _ = _; have h := HA.out.1; rw [← h]; rfl
  by_cases hr : hRight X = true
  · rw [hr] at HL ⊢
    clear hr
    go_wp2_with fail
    refine (l04Floor_any A n ca X _ hn (HA.out.next HB1.out)).mono ?_
    rintro e w2 ⟨rfl, hb2⟩
    have HB2 := Lib.hid (HB1.out.trans (hb2.mono HB1.out.size))
    clear hb2
    go_wp2
    go_ret
    exact ⟨ret_i (by rw [HL.out, if_pos (by trivial)]), HB2.out⟩
  · have hr : hRight X = false := by simpa using hr
    rw [hr] at HL ⊢
    clear hr
    go_wp2
    go_ret
    exact ⟨ret_i (by rw [HL.out, if_neg (by decide)]), HB1.out⟩
end Go.Proofs.YtloaeglmngcenaaGreatDoor
