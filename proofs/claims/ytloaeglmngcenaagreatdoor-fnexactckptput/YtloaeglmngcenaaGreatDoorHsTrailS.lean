/-
  Trail, of the document's model.
-/
import Derived.Test.YtloaeglmngcenaaGreatDoorProg
import Derived.KernelRfl
import Derived.Test.YtloaeglmngcenaaGreatDoorHsTrailI
import Derived.Test.YtloaeglmngcenaaGreatDoorHsOne
namespace Go.Proofs.YtloaeglmngcenaaGreatDoor
open Go.RowKit
open Bt (Rc)

set_option maxHeartbeats 1000000 in
theorem l04Sector_any (n : Int) (w : World) : Calls Tryz.prog 186 #[.int .i64 n] w fun e w' => e = .returned (.bool (rcIs 0 5 n)) ∧ w = w' := by
  go_enter Tryz.func186, Tryz.ntmps186
  go_wp2_with fail
  refine (rcIs_any _ _ _ _).mono ?_
  rintro e w1 ⟨rfl, rfl⟩
  go_wp2
  go_ret
  exact ⟨rfl, rfl⟩

def placeV (i : Nat) : Value := .int .i64 (i : Int)
theorem oneCell_place (i : Nat) : (placeV i).oneCell' = true := rfl
theorem info_int : (Tryz.prog.info? 3).map (fun i => (i.zero, i.size, i.bytes)) = some (some (.int .i64 0), 1, 8) := by kernel_rfl
theorem int_one : OneInfo Tryz.prog 269 3 (.int .i64 0) 8 := ⟨Tryz.underlying269, info_int, rfl⟩
theorem num_one : OneInfo Tryz.prog 48 2 (.int .i64 0) 8 := ⟨Tryz.underlying48, info_num, rfl⟩
theorem oneCell_num (z : Int) : (numV z).oneCell' = true := rfl
def plcs (P : List Nat) : List Int := P.map fun i : Nat => (i : Int)
theorem plcs_len (P : List Nat) : (plcs P).length = P.length := List.length_map _
theorem plcs_place (P : List Nat) : P.map placeV = (plcs P).map numV := by unfold plcs; rw [List.map_map]; rfl
theorem tch_roll {r : Rc} (s : Int) (h : r.k = 3) : tch r s = true := by unfold tch; rw [if_neg (by omega), decide_eq_true h]
theorem tch_same {r : Rc} {s : Int} (h : r.k = 1 ∨ r.k = 2) (hs : r.s = s) : tch r s = true := by unfold tch; rw [if_pos h, decide_eq_true hs]
theorem tch_other {r : Rc} {s : Int} (h : r.k = 1 ∨ r.k = 2) (hs : r.s ≠ s) : tch r s = false := by unfold tch; rw [if_pos h, decide_eq_false hs]
theorem tch_none {r : Rc} (s : Int) (h : 3 < r.k) : tch r s = false := by unfold tch; rw [if_neg (by omega), decide_eq_false (by omega)]

set_option maxHeartbeats 4000000 in
set_option maxRecDepth 100000 in
theorem l04Trail_any (A : Option Addr) (n ca : Nat) (X : List Rc) (s a : Int) (w : World) (hn : n ≤ 1048576) (hV : ∀ i, i < n → 1 ≤ (X.getD i Rc.zero).k) (hA : RdRc w w.heap.size A n X) :
    Calls Tryz.prog 240 #[.slice A n ca, .int .i64 s, .int .i64 a] w (RetNs w (plcs (trl X s n a))) := by
  have HA := Lib.hid hA; have HV := Lib.hid hV; clear hA hV
  go_enter Tryz.func240, Tryz.ntmps240
  go_wp2
  have hb0 : Below w.heap.size w (w.alloc (.cells #[] 3)) := (Below.refl _ _).alloc (Nat.le_refl _) _
  have ho0 : (w.alloc (.cells #[] 3)).ownsRow w.heap.size 3 1 (.slice (some ⟨w.heap.size, 0, none⟩) 0 0) 0 (([] : List Nat).map placeV) := ⟨rfl, .inr ⟨w.heap.size, 0, #[], rfl, Nat.le_refl _, isBlk_new w 3 [], Nat.le_refl _, by simp [maxLen], rfl, rfl⟩⟩
  generalize w.alloc (.cells #[] 3) = W at hb0 ho0 ⊢
  have HB0 := Lib.hid hb0; have HO0 := Lib.hid ho0; clear hb0 ho0
  go_loopw [2, 7, 8] (fun at' out i wr => ∃ (k : Nat) (b : Int) (P : List Nat), k ≤ n ∧ i = .int .i64 ((k : Int) - 1) ∧ at' = .int .i64 b ∧ P ++ trl X s k b = trl X s n a ∧ wr.ownsRow w.heap.size 3 1 out P.length (P.map placeV) ∧ Below w.heap.size w wr) (fun _ _ i _ => (intOf i + 1).toNat)
  case atStart => exact ⟨n, a, [], Nat.le_refl _, rfl, rfl, rfl, HO0.out, HB0.out⟩
  case round =>
    obtain ⟨k, b, P, hk, rfl, rfl, htr, hown, hbel⟩ := hrel
    have HTR := Lib.hid htr; have HOW := Lib.hid hown; have HW := Lib.hid hbel
    have hPl : P.length ≤ n := by
      have h1 := congrArg List.length htr
      rw [List.length_append] at h1
      have := trl_len X s n a
      omega
    clear htr hown
    by_cases h0 : k = 0
    · subst h0
      clear hbel
      go_wp2
      go_ret
      have hP : P = trl X s n a := by rw [← HTR.out, trl_zero, List.append_nil]
      obtain ⟨Av, cv, rfl⟩ := own_slice HOW.out
      have h := HOW.out
      rw [plcs_place, ← plcs_len] at h
      rw [← hP]
      exact ⟨Av, cv, by rw [plcs_len]; rfl, owNs_of_own h, HW.out⟩
    · obtain ⟨j, rfl⟩ : ∃ j, k = j + 1 := ⟨k - 1, by omega⟩
      obtain ⟨g, off, rfl, hg, hc0, hc1, hc2, hc3, hc4, hc5⟩ := (HA.out.below hbel).at (k := j) (by omega)
      have hkk := HV.out j (by omega)
      have HNo : Hid (hit (X.getD j Rc.zero) s b = false → trl X s (j + 1) b = trl X s j b) := Lib.hid (fun h => trl_no h)
      have HRo : Hid (hit (X.getD j Rc.zero) s b = true → (X.getD j Rc.zero).k = 3 → trl X s (j + 1) b = j :: trl X s j (X.getD j Rc.zero).o) := Lib.hid (fun h1 h2 => trl_roll h1 h2)
      have HEn : Hid (hit (X.getD j Rc.zero) s b = true → (X.getD j Rc.zero).k ≠ 3 → trl X s (j + 1) b = [j]) := Lib.hid (fun h1 h2 => trl_end h1 h2)
      rw [show (((j + 1 : Nat) : Int) - 1) = (j : Int) by omega]
      generalize X.getD j Rc.zero = r at *
      have hj0 : (0 : Int) ≤ (j : Int) := by omega
      have hjn : (j : Int) < (n : Int) := by omega
      have hb1 : Below wr.heap.size wr (wr.alloc (.cells #[.int .i64 r.k, .int .i64 r.s, .int .i64 r.q, .int .i64 r.t, .int .i64 r.o, .string r.d] 34)) := (Below.refl _ _).alloc (Nat.le_refl _) _
      have HO1 := Lib.hid (own_belowR HOW.out hb1)
      have HB1 := Lib.hid (hbel.trans (hb1.mono hbel.size))
      have hs1 : w.heap.size ≤ (wr.alloc (.cells #[.int .i64 r.k, .int .i64 r.s, .int .i64 r.q, .int .i64 r.t, .int .i64 r.o, .string r.d] 34)).heap.size := HB1.out.size
      have HS1 := Lib.hid hs1
      clear hbel hb1 hs1
      by_cases ht : b < r.t
      · have HH := Lib.hid (hit_late (s := s) ht)
        go_wp2
        go_roundw
        case rel => exact ⟨j, b, P, by omega, by go_num, rfl, by rw [← HTR.out, HNo.out HH.out], HO1.out, HB1.out⟩
        case measure => simp [intOf]
      have ht' : r.t ≤ b := by omega
      have HHT := Lib.hid (hit_tch (s := s) ht')
      clear ht
      by_cases h3 : r.k = 3
      · have HK3 := Lib.hid h3
        have h3' : (r.k == 3) = true := by simpa using h3
        have HTT := Lib.hid (tch_roll s h3)
        clear h3
        go_wp2_with (at_builtin; refine wpList_append_oneG placeV oneCell_place rfl _ _ 269 3 _ 8 int_one rfl HO1.out HB1.out HS1.out (g0 := wr.heap.size + 1) (by simp) rfl rfl j rfl (by omega) (by omega) ?_; intro g2 cap2 w2 ho2 hb2 hk2 hz2; have HO2 := Lib.hid ho2; have HB2 := Lib.hid hb2; obtain ⟨x0, x1, x2, x3, x4, x5⟩ := rcCells (r := r) ((hk2 wr.heap.size (by simp) (fun e => by have := (own_block_ltR HOW.out e).2; omega)).trans (isBlk_new wr 34 (recC r))); clear ho2 hb2 hk2 hz2)
        go_roundw
        case rel => exact ⟨j, r.o, P ++ [j], by omega, by go_num, rfl, by rw [← HTR.out, HRo.out (by rw [HHT.out, HTT.out]) HK3.out, List.append_assoc]; rfl, by rw [List.length_append]; exact HO2.out, HB2.out⟩
        case measure => simp [intOf]
      have h3' : (r.k == 3) = false := by simpa using h3
      by_cases h2 : r.k ≤ 2
      · have h12 : r.k = 1 ∨ r.k = 2 := by omega
        by_cases hss : r.s = s
        · have hss' : (r.s == s) = true := by simpa using hss
          have HTT := Lib.hid (tch_same h12 hss)
          have HK3 := Lib.hid h3
          clear h3 h12 hss
          go_wp2_with (at_builtin; refine wpList_append_oneG placeV oneCell_place rfl _ _ 269 3 _ 8 int_one rfl HO1.out HB1.out HS1.out (g0 := wr.heap.size + 1) (by simp) rfl rfl j rfl (by omega) (by omega) ?_; intro g2 cap2 w2 ho2 hb2 hk2 hz2; have HO2 := Lib.hid ho2; have HB2 := Lib.hid hb2; clear ho2 hb2 hk2 hz2)
          go_ret
          have hP : trl X s n a = P ++ [j] := by rw [← HTR.out, HEn.out (by rw [HHT.out, HTT.out]) HK3.out]
          have h := HO2.out
          rw [plcs_place] at h
          rw [hP]
          have hl : (plcs (P ++ [j])).length = P.length + 1 := by rw [plcs_len, List.length_append]; rfl
          rw [← hl] at h
          exact ⟨some ⟨g2, 0, none⟩, cap2, by rw [hl]; rfl, owNs_of_own h, HB2.out⟩
        · have hss' : (r.s == s) = false := by simpa using hss
          have HTT := Lib.hid (tch_other h12 hss)
          clear h3 h12 hss
          go_wp2
          go_roundw
          case rel => exact ⟨j, b, P, by omega, by go_num, rfl, by rw [← HTR.out, HNo.out (by rw [HHT.out, HTT.out])], HO1.out, HB1.out⟩
          case measure => simp [intOf]
      · have HTT := Lib.hid (tch_none s (show 3 < r.k by omega))
        have h2' : 2 < r.k := by omega
        clear h3 h2
        go_wp2
        go_roundw
        case rel => exact ⟨j, b, P, by omega, by go_num, rfl, by rw [← HTR.out, HNo.out (by rw [HHT.out, HTT.out])], HO1.out, HB1.out⟩
        case measure => simp [intOf]
end Go.Proofs.YtloaeglmngcenaaGreatDoor
