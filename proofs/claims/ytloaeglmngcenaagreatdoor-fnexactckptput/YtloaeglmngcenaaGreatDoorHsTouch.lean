/-
  The contracts of touches and lastTouch.
-/
import Derived.Test.YtloaeglmngcenaaGreatDoorProg
import Derived.KernelRfl
import Derived.Test.YtloaeglmngcenaaGreatDoorHsMem
import Derived.Test.YtloaeglmngcenaaGreatDoorHsTrailP
namespace Go.Proofs.YtloaeglmngcenaaGreatDoor
open Go.RowKit
open Bt (Rc)

set_option maxHeartbeats 1000000 in
theorem touches_any (r : Rc) (s : Int) (w : World) : Calls Tryz.prog 297 #[recV r, .int .i64 s] w fun e w' => e = .returned (.bool (tch r s)) ∧ Below w.heap.size w w' := by
  obtain ⟨k, sc, q, t, o, d⟩ := r
  have hb : ∀ x, Below w.heap.size w (w.alloc x) := fun x => (Below.refl _ _).alloc (Nat.le_refl _) _
  have HB := Lib.hid hb; clear hb
  unfold tch
  simp only
  by_cases h1 : k = 1
  · subst h1
    rw [if_pos (by omega)]
    by_cases hs : sc = s
    · have hs' : (sc == s) = true := by simpa using hs
      rw [decide_eq_true hs]
      clear hs
      go_enter Tryz.func297, Tryz.ntmps297
      go_wp2
      go_ret
      exact ⟨rfl, HB.out _⟩
    · have hs' : (sc == s) = false := by simpa using hs
      rw [decide_eq_false hs]
      clear hs
      go_enter Tryz.func297, Tryz.ntmps297
      go_wp2
      go_ret
      exact ⟨rfl, HB.out _⟩
  by_cases h2 : k = 2
  · subst h2
    rw [if_pos (by omega)]
    by_cases hs : sc = s
    · have hs' : (sc == s) = true := by simpa using hs
      rw [decide_eq_true hs]
      clear hs
      go_enter Tryz.func297, Tryz.ntmps297
      go_wp2
      go_ret
      exact ⟨rfl, HB.out _⟩
    · have hs' : (sc == s) = false := by simpa using hs
      rw [decide_eq_false hs]
      clear hs
      go_enter Tryz.func297, Tryz.ntmps297
      go_wp2
      go_ret
      exact ⟨rfl, HB.out _⟩
  rw [if_neg (by omega)]
  have e1 : (k == 1) = false := by simpa using h1
  have e2 : (k == 2) = false := by simpa using h2
  by_cases h3 : k = 3
  · subst h3
    go_enter Tryz.func297, Tryz.ntmps297
    go_wp2
    go_ret
    exact ⟨rfl, HB.out _⟩
  · have e3 : (k == 3) = false := by simpa using h3
    rw [decide_eq_false h3]
    clear h1 h2 h3
    go_enter Tryz.func297, Tryz.ntmps297
    go_wp2
    go_ret
    exact ⟨rfl, HB.out _⟩

set_option maxHeartbeats 1000000 in
theorem lastTouch_any (A : Option Addr) (N m ca : Nat) (X : List Rc) (s a : Int) (w : World) (hm : m ≤ N) (hN : N ≤ 1048576) (hA : RdRc w w.heap.size A N X) :
    Calls Tryz.prog 271 #[.slice A m ca, .int .i64 s, .int .i64 a] w fun e w' => e = .returned (.int .i64 (lastT X s a m)) ∧ Below w.heap.size w w' := by
  have HA := Lib.hid hA; clear hA
  go_enter Tryz.func271, Tryz.ntmps271
  go_wp2
  go_loopw [7] (fun i wr => ∃ k : Nat, k ≤ m ∧ i = .int .i64 ((k : Int) - 1) ∧ lastT X s a k = lastT X s a m ∧ Below w.heap.size w wr) (fun i _ => (intOf i + 1).toNat)
  case atStart => exact ⟨m, by omega, rfl, rfl, Below.refl _ _⟩
  case round =>
    obtain ⟨k, hk, rfl, hl, hbel⟩ := hrel
    have HL := Lib.hid hl; have HW := Lib.hid hbel
    clear hl
    by_cases h0 : k = 0
    · subst h0
      clear hbel
      go_wp2
      go_ret
      exact ⟨ret_i (by rw [← HL.out]; rfl), HW.out⟩
    · obtain ⟨j, rfl⟩ : ∃ j, k = j + 1 := ⟨k - 1, by omega⟩
      obtain ⟨g, off, rfl, hg, hc0, hc1, hc2, hc3, hc4, hc5⟩ := (HA.out.below hbel).at (k := j) (by omega)
      have HY : Hid (hit (X.getD j Rc.zero) s a = true → lastT X s a (j + 1) = (j : Int)) := Lib.hid (fun h => lastT_yes h)
      have HNo : Hid (hit (X.getD j Rc.zero) s a = false → lastT X s a (j + 1) = lastT X s a j) := Lib.hid (fun h => lastT_no h)
      rw [show (((j + 1 : Nat) : Int) - 1) = (j : Int) by omega]
      generalize X.getD j Rc.zero = r at *
      clear hbel
      have hj0 : (0 : Int) ≤ (j : Int) := by omega
      by_cases ht : a < r.t
      · have HH := Lib.hid (hit_late (s := s) ht)
        go_wp2
        go_roundw
        case rel => exact ⟨j, by omega, by go_num, by rw [← HL.out, HNo.out HH.out], HW.out⟩
        case measure => simp [intOf]
      · have ht' : r.t ≤ a := by omega
        have HH := Lib.hid (hit_tch (s := s) ht')
        clear ht
        go_wp2_with fail
        refine (touches_any r s _).mono ?_
        rintro e w1 ⟨rfl, hb1⟩
        have HB1 := Lib.hid (HW.out.trans (hb1.mono HW.out.size))
        clear hb1
        by_cases htc : tch r s = true
        · rw [htc] at HH ⊢
          clear htc
          go_wp2
          go_ret
          exact ⟨ret_i (by rw [← HL.out, HY.out HH.out]), HB1.out⟩
        · have htc : tch r s = false := by simpa using htc
          rw [htc] at HH ⊢
          clear htc
          go_wp2
          go_roundw
          case rel => exact ⟨j, by omega, by go_num, by rw [← HL.out, HNo.out HH.out], HB1.out⟩
          case measure => simp [intOf]
end Go.Proofs.YtloaeglmngcenaaGreatDoor
