/-
  What is marked is held: the laws' own look at the marks of a chip.
-/
import Derived.Test.YtkiklcdkliebaaaGreatDoorChecked
import Derived.Test.YtkiklcdkliebaaaGreatDoorNdMark
import Derived.BigQuiet
import Derived.Lib.QuietBelow
namespace Go.Proofs.YtkiklcdkliebaaaGreatDoor
open Go.RowKit

theorem heldText_eq (l : List UInt8) : ((bstr l).toList == (bstr l).toList) = true := by simp

set_option maxHeartbeats 1000000 in
theorem heldPageS_any (g n ca k : Nat) (w : World) (hn : n ≤ 16777216) (hk : k ≤ 16777216) (hA : Row w g (n * 2) (mkF k)) :
    Calls Tryz.prog 126 #[.slice (some ⟨g, 0, none⟩) n ca, .int .i64 (k : Int)] w fun e w' => e = .returned (.int .i64 ((k + 2 * n : Nat) : Int)) ∧ Below w.heap.size w w' := by
  have HA := Lib.hid hA; have hg := hA.lt; clear hA
  go_enter Tryz.func126, Tryz.ntmps126
  go_wp2
  go_loopw [1, 5] (fun l i wr => ∃ j : Nat, j ≤ n ∧ i = .int .i64 (j : Nat) ∧ l = .int .i64 ((k + j * 2 : Nat) : Int) ∧ Below w.heap.size w wr) (fun _ i _ => n - (intOf i).toNat)
  case atStart => exact ⟨0, by omega, rfl, by simp, Below.refl _ _⟩
  case round =>
    obtain ⟨j, hj, rfl, rfl, hbel⟩ := hrel
    have HW := Lib.hid hbel
    by_cases hlt : j < n
    · have hr := HA.out.below hbel hg
      have hc0 := hr.cell (i := j * 2) (by omega)
      have hc1 := hr.cell (i := j * 2 + 1) (by omega)
      rw [mkF_0] at hc0
      rw [mkF_1] at hc1
      obtain ⟨m, hm⟩ : ∃ m, m = k + j * 2 := ⟨_, rfl⟩
      have HM := Lib.hid hm
      have hm2 : m ≤ 67108864 := by omega
      rw [← hm] at hc0 hc1 ⊢
      clear hr hbel hm
      have hq := heldText_eq (mkT (m + 1))
      generalize hT : mkT (m + 1) = T at hc1 hq
      have HT := Lib.hid hT; clear hT
      have HMT := Lib.hid (fun W => markText_succ m W (by omega))
      rw [HT.out] at HMT
      go_wp2
      have hc1' := cell_regrown hc1
      refine wp_region_quiet_below (by kernel_rfl) (by kernel_rfl) ?_
      repeat (go_big_quiet_step ((go_at_call 107; exact Calls.regrown_of (HMT.out _))))
      refine wpQuiet_nil ?_
      intro w2 hw'
      have hb2 : Below wr.heap.size wr w2 := by obtain ⟨⟨dq, osq⟩, rfl⟩ := hw'; exact below_regrown wr dq osq
      clear hw'
      have HB2 := Lib.hid (HW.out.trans (hb2.mono HW.out.size))
      clear hb2
      go_wp2
      go_roundw
      case rel => exact ⟨j + 1, by omega, by go_num, by have := HM.out; go_num, HB2.out⟩
      case measure => simp [intOf]; omega
    · clear hbel
      obtain rfl : j = n := by omega
      go_wp2
      go_ret
      exact ⟨ret_i (by omega), HW.out⟩

set_option maxHeartbeats 1000000 in
theorem heldBlockS_any (A : Option Addr) (lo hi n ca k : Nat) (X : List Bk) (w : World) (hn : n ≤ 2097152) (hk : kAt X k n ≤ 16777216) (_hh : hi ≤ w.heap.size) (hA : MkNd w lo hi A n X k) :
    Calls Tryz.prog 88 #[.slice A n ca, .int .i64 (k : Int)] w fun e w' => e = .returned (.int .i64 ((kAt X k n : Nat) : Int)) ∧ Below w.heap.size w w' := by
  have hl := hA.1
  by_cases h0 : n = 0
  · subst h0
    clear hA hl
    go_enter Tryz.func88, Tryz.ntmps88
    go_wp2
    refine wp_loop_rounds 1 ?_
    rw [rounds_succ]
    go_wp2
    go_ret
    exact ⟨ret_i (by rw [kAt_zero]), Below.refl _ _⟩
  · have HMk := Lib.hid hA
    obtain ⟨g, pa, cp, rfl, ho⟩ := hA.2 (by omega)
    have HO := Lib.hid ho; have HL := Lib.hid hl; clear hA hl ho
    go_enter Tryz.func88, Tryz.ntmps88
    go_wp2
    go_loopw [1, 5] (fun l i wr => ∃ j : Nat, j ≤ n ∧ i = .int .i64 (j : Nat) ∧ l = .int .i64 ((kAt X k j : Nat) : Int) ∧ Below w.heap.size w wr) (fun _ i _ => n - (intOf i).toNat)
    case atStart => exact ⟨0, by omega, rfl, rfl, Below.refl _ _⟩
    case round =>
      obtain ⟨j, hj, rfl, rfl, hbel⟩ := hrel
      have HW := Lib.hid hbel
      by_cases hlt : j < n
      · have hjl : j < X.length := by have := HL.out; omega
        have hb1 : kAt X k j + 2 * nPg X j + 2 ≤ 16777216 := by rw [← kAt_succ]; exact Nat.le_trans (kAt_mono X k (by omega)) hk
        have hr := HO.out.row.below hbel HO.out.row.lt
        have HPG := Lib.hid ((HO.out.pages j hjl).below hbel (HO.out.pages j hjl).lt)
        have hc0 := hr.cell (i := j * 3) (by omega)
        rw [mkB_0] at hc0
        have HR := Lib.hid hr
        clear hr hbel
        have HK : Hid (kAt X k (j + 1) = kAt X k j + 2 * nPg X j + 2) := kAt_succ X k j
        go_wp2_with fail
        refine (heldPageS_any (pa j) (nPg X j) _ (kAt X k j) _ (by omega) (by omega) HPG.out).mono ?_
        rintro e w1 ⟨rfl, hb2⟩
        have hr2 := HR.out.below hb2 HR.out.lt
        have hc1 := hr2.cell (i := j * 3 + 1) (by omega)
        have hc2 := hr2.cell (i := j * 3 + 2) (by omega)
        rw [mkB_1] at hc1
        rw [mkB_2] at hc2
        have HB2 := Lib.hid (HW.out.trans (hb2.mono HW.out.size))
        clear hb2 hr2
        obtain ⟨m, hm⟩ : ∃ m, m = kAt X k j + 2 * nPg X j := ⟨_, rfl⟩
        have HM := Lib.hid hm
        have hm2 : m ≤ 16777216 := by omega
        rw [← hm] at hc1 hc2 ⊢
        rw [show ((m + 1 : Nat) : Int) = (m : Int) + 1 by omega] at hc2
        clear hm
        go_wp2
        go_roundw
        case rel => exact ⟨j + 1, by omega, by go_num, by rw [HK.out, ← HM.out]; go_num, HB2.out⟩
        case measure => simp [intOf]; omega
      · clear hbel
        obtain rfl : j = n := by omega
        go_wp2
        go_ret
        exact ⟨rfl, HW.out⟩

set_option maxHeartbeats 1000000 in
theorem heldNand_any (A : Option Addr) (lo hi n ca k : Nat) (X : List Bk) (w : World) (hn : n ≤ 2097152) (hk : kAt X k n ≤ 16777216) (hh : hi ≤ w.heap.size) (hA : MkNd w lo hi A n X k) :
    Calls Tryz.prog 53 #[.agg #[.slice A n ca], .int .i64 (k : Int)] w fun e w' => e = .returned (.int .i64 ((kAt X k n : Nat) : Int)) ∧ Below w.heap.size w w' := by
  have HA := Lib.hid hA; clear hA
  go_enter Tryz.func53, Tryz.ntmps53
  go_wp2_with fail
  refine (heldBlockS_any A lo hi n ca k X _ hn hk (by simp; omega) (HA.out.below ((Below.refl _ _).alloc (Nat.le_refl _) _) hh)).mono ?_
  rintro e w1 ⟨rfl, hb⟩
  have HB := Lib.hid (((Below.refl w.heap.size w).alloc (Nat.le_refl _) _).trans (hb.mono (by simp)))
  clear hb
  go_wp2
  go_ret
  exact ⟨rfl, HB.out⟩

set_option maxHeartbeats 1000000 in
theorem heldNandOut_any (A : Option Addr) (lo hi n ca k : Nat) (X : List Bk) (d : ByteArray) (code : Int) (w : World) (hn : n ≤ 2097152) (hk : kAt X k n ≤ 16777216) (hh : hi ≤ w.heap.size) (hA : MkNd w lo hi A n X k) :
    Calls Tryz.prog 28 #[.agg #[.slice A n ca, .string d, .int .i64 code], .int .i64 (k : Int)] w fun e w' => e = .returned (.int .i64 ((kAt X k n : Nat) : Int)) ∧ Below w.heap.size w w' := by
  have HA := Lib.hid hA; clear hA
  go_enter Tryz.func28, Tryz.ntmps28
  go_wp2_with fail
  refine (heldNand_any A lo hi n ca k X _ hn hk (by simp; omega) (HA.out.below ((Below.refl _ _).alloc (Nat.le_refl _) _) hh)).mono ?_
  rintro e w1 ⟨rfl, hb⟩
  have HB := Lib.hid (((Below.refl w.heap.size w).alloc (Nat.le_refl _) _).trans (hb.mono (by simp)))
  clear hb
  go_wp2
  go_ret
  exact ⟨rfl, HB.out⟩
end Go.Proofs.YtkiklcdkliebaaaGreatDoor
