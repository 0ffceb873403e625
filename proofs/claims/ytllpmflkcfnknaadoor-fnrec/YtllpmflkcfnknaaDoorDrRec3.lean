/-
  What the law of records draws: a record, and a text that is an encoding, perhaps spoiled.
-/
import Derived.Test.YtllpmflkcfnknaaDoorDrRec
import Derived.Test.YtllpmflkcfnknaaDoorDrRec2
import Derived.Test.YtllpmflkcfnknaaDoorRcBack
namespace Go.Proofs.YtllpmflkcfnknaaDoor
open Go.RowKit
open Bt (Rc)

theorem rdBy_below {w w' : World} {B n : Nat} {A : Option Addr} (h : RdBy w B A n) (hb : Below B w w') {B' : Nat} (hB : B ≤ B') : RdBy w' B' A n := fun hn => by
  obtain ⟨g, off, hA, hg, hc⟩ := h.same (fun k hk => hb.block k hk) hn
  exact ⟨g, off, hA, by omega, hc⟩
/-- a draw from a source of the call's own -/
theorem bel_drawn {B s : Nat} {w w1 w2 : World} (h : Below B w w1) (hB : B ≤ s) (hs : s < w1.heap.size) (hb : Btw s (s + 1) w1 w2) : Below B w w2 :=
  h.trans ⟨hb.os, hb.tape, hb.output, hb.size, fun i hi => hb.block i (by omega) (Or.inl (by omega))⟩
theorem sealed_len (u : ByteArray) : (Bt.sealed u).length ≤ 8000 := by
  unfold Bt.sealed
  split
  · exact Nat.zero_le _
  · rw [List.length_append, Bt.sum_length]; have : u.data.toList.length = u.size := rfl; omega
set_option maxHeartbeats 400000 in
set_option maxRecDepth 100000 in
theorem drawRecRight_any (A : Option Addr) (n c : Nat) (w : World) (hn : n ≤ 1048576) (hA : RdBy w w.heap.size A n) :
    Calls Tryd.prog 14 #[.slice A n c] w (fun e w' => ∃ r : Rc, e = .returned (recV r) ∧ r.d.size ≤ 17 ∧ Below w.heap.size w w') := by
  have HA := Lib.hid hA; clear hA
  go_enter Tryd.func14, Tryd.ntmps14
  go_wp2_with fail
  have HB0 : Hid (Below w.heap.size w (w.alloc (.cells (recC Rc.zero).toArray 24))) := (Below.refl _ _).alloc (Nat.le_refl _) _
  have HK0 := Lib.hid (isBlk_new w 24 (recC Rc.zero))
  refine (draw_source n c A _ hn (rdBy_below HA.out HB0.out (by simp))).mono ?_
  rintro e w1 ⟨s, rfl, hs1, hS1, hb1⟩
  simp only [size_alloc] at hs1
  have HS1 := Lib.hid hS1
  have HK1 := Lib.hid (HK0.out.below hb1 (by simp))
  have HB1 := Lib.hid (HB0.out.trans (hb1.mono (by simp))); clear hS1 hb1 HK0 HB0
  go_wp2_with fail
  refine (draw_n s 9 w1 (by omega) HS1.out).mono ?_
  rintro e w2 ⟨q, rfl, hq, hS2, hb2⟩
  have hq := hq (by omega)
  have HS2 := Lib.hid hS2
  have HK2 : Hid (IsBlk w2 w.heap.size 24 (recC Rc.zero)) := (hb2.block _ HK1.out.lt (Or.inl (by omega))).trans HK1.out
  have HB2 := Lib.hid (bel_drawn HB1.out (by omega) HS1.out.lt hb2); clear hS2 hb2 HS1 HK1 HB1
  go_wp2_with fail
  refine (draw_n s 20 w2 (by omega) HS2.out).mono ?_
  rintro e w3 ⟨t, rfl, ht, hS3, hb3⟩
  have ht := ht (by omega)
  have HS3 := Lib.hid hS3
  have HK3 : Hid (IsBlk w3 w.heap.size 24 (recC Rc.zero)) := (hb3.block _ HK2.out.lt (Or.inl (by omega))).trans HK2.out
  have HB3 := Lib.hid (bel_drawn HB2.out (by omega) HS2.out.lt hb3); clear hS3 hb3 HS2 HK2 HB2
  go_wp2_with fail
  refine (draw_rec s _ (t : Int) w3 (by omega) (by omega) HS3.out).mono ?_
  rintro e w4 ⟨r, rfl, hr, hS4, hb4⟩
  have HK4 : Hid (IsBlk w4 w.heap.size 24 (recC Rc.zero)) := (hb4.block _ HK3.out.lt (Or.inl (by omega))).trans HK3.out
  have HB4 := Lib.hid (bel_drawn HB3.out (by omega) HS3.out.lt hb4); clear hS4 hb4 HS3 HK3 HB3
  obtain ⟨y0, y1, y2, y3, y4, y5⟩ := rcCells HK4.out
  have f0 : w4.frozen? ⟨w.heap.size, 0, none⟩ = false := HK4.out.free
  have f1 : w4.frozen? ⟨w.heap.size, 1, none⟩ = false := HK4.out.free
  have f2 : w4.frozen? ⟨w.heap.size, 2, none⟩ = false := HK4.out.free
  have f3 : w4.frozen? ⟨w.heap.size, 3, none⟩ = false := HK4.out.free
  have f4 : w4.frozen? ⟨w.heap.size, 4, none⟩ = false := HK4.out.free
  have f5 : w4.frozen? ⟨w.heap.size, 5, none⟩ = false := HK4.out.free
  go_wp2
  refine bodyPost_ret (v := recV r) (by simp [results, Tryd.results14, go_sem, y0, y1, y2, y3, y4, y5]) rfl ?_
  exact ⟨r, rfl, hr, (((((HB4.out.setCell (Nat.le_refl _) _).setCell (Nat.le_refl _) _).setCell (Nat.le_refl _) _).setCell (Nat.le_refl _) _).setCell (Nat.le_refl _) _).setCell (Nat.le_refl _) _⟩
set_option maxHeartbeats 400000 in
set_option maxRecDepth 100000 in
theorem drawRecBytes_any (A : Option Addr) (n c : Nat) (w : World) (hn : n ≤ 1048576) (hA : RdBy w w.heap.size A n) :
    Calls Tryd.prog 5 #[.slice A n c] w (fun e w' => ∃ r : Rc, e = .returned (recV r) ∧ r.d.size ≤ 17 ∧ Below w.heap.size w w') := by
  have HA := Lib.hid hA; clear hA
  go_enter Tryd.func5, Tryd.ntmps5
  go_wp2_with fail
  have HB0 : Hid (Below w.heap.size w (w.alloc (.cells (recC Rc.zero).toArray 24))) := (Below.refl _ _).alloc (Nat.le_refl _) _
  have HK0 := Lib.hid (isBlk_new w 24 (recC Rc.zero))
  refine (drawRecRight_any A n c _ hn (rdBy_below HA.out HB0.out (by simp))).mono ?_
  rintro e w4 ⟨r, rfl, hr, hb1⟩
  have HK4 := Lib.hid (HK0.out.below hb1 (by simp))
  have HB4 := Lib.hid (HB0.out.trans (hb1.mono (by simp))); clear hb1 HK0 HB0
  obtain ⟨y0, y1, y2, y3, y4, y5⟩ := rcCells HK4.out
  have f0 : w4.frozen? ⟨w.heap.size, 0, none⟩ = false := HK4.out.free
  have f1 : w4.frozen? ⟨w.heap.size, 1, none⟩ = false := HK4.out.free
  have f2 : w4.frozen? ⟨w.heap.size, 2, none⟩ = false := HK4.out.free
  have f3 : w4.frozen? ⟨w.heap.size, 3, none⟩ = false := HK4.out.free
  have f4 : w4.frozen? ⟨w.heap.size, 4, none⟩ = false := HK4.out.free
  have f5 : w4.frozen? ⟨w.heap.size, 5, none⟩ = false := HK4.out.free
  go_wp2
  refine bodyPost_ret (v := recV r) (by simp [results, Tryd.results5, go_sem, y0, y1, y2, y3, y4, y5]) rfl ?_
  exact ⟨r, rfl, hr, (((((HB4.out.setCell (Nat.le_refl _) _).setCell (Nat.le_refl _) _).setCell (Nat.le_refl _) _).setCell (Nat.le_refl _) _).setCell (Nat.le_refl _) _).setCell (Nat.le_refl _) _⟩
theorem field_text (a : ByteArray) (b c : Int) (w : World) : (Instr.field 46 (.agg #[.string a, .int .i64 b, .int .i64 c]) 0).run Tryd.prog w = .ok (.string a) w := by
  simp [Instr.field, run_underlying Tryd.underlying46, part, asAgg, go_sem]
theorem bytes_len (r : Rc) : r.bytes.length ≤ 40 := by
  by_cases h : r.Ok
  · exact Bt.Rc.bytes_short h
  · rw [Bt.Rc.bytes_bad h]; exact Nat.zero_le _
set_option maxHeartbeats 400000 in
set_option maxRecDepth 100000 in
theorem drawRecRead_any (A : Option Addr) (n c : Nat) (w : World) (hn : n ≤ 1048576) (hA : RdBy w w.heap.size A n) :
    Calls Tryd.prog 7 #[.slice A n c] w (fun e w' => ∃ t : ByteArray, e = .returned (.string t) ∧ t.size ≤ maxLen ∧ Below w.heap.size w w') := by
  have HA := Lib.hid hA; clear hA
  go_enter Tryd.func7, Tryd.ntmps7
  go_wp2_with fail
  refine (draw_source n c A _ hn HA.out).mono ?_
  rintro e w1 ⟨s, rfl, hs1, hS1, hb1⟩
  have HS1 := Lib.hid hS1
  have HB1 := Lib.hid hb1; clear hS1 hb1
  go_wp2_with fail
  refine (draw_n s 9 w1 (by omega) HS1.out).mono ?_
  rintro e w2 ⟨q, rfl, hq, hS2, hb2⟩
  have hq := hq (by omega)
  have HS2 := Lib.hid hS2
  have HB2 := Lib.hid (bel_drawn HB1.out (by omega) HS1.out.lt hb2); clear hS2 hb2 HS1 HB1
  go_wp2_with fail
  refine (draw_n s 20 w2 (by omega) HS2.out).mono ?_
  rintro e w3 ⟨t, rfl, ht, hS3, hb3⟩
  have ht := ht (by omega)
  have HS3 := Lib.hid hS3
  have HB3 := Lib.hid (bel_drawn HB2.out (by omega) HS2.out.lt hb3); clear hS3 hb3 HS2 HB2
  go_wp2_with fail
  refine (draw_rec s _ (t : Int) w3 (by omega) (by omega) HS3.out).mono ?_
  rintro e w4 ⟨r, rfl, hr, hS4, hb4⟩
  have HS4 := Lib.hid hS4
  have HB4 := Lib.hid (bel_drawn HB3.out (by omega) HS3.out.lt hb4); clear hS4 hb4 HS3 HB3
  go_wp2_with fail
  refine (spec_recBytes_any r _ (by unfold maxLen; omega)).mono ?_
  rintro e w5 ⟨he, hb5⟩
  obtain ⟨X, he', hx⟩ : ∃ X : ByteArray, e = .returned (.string X) ∧ X.size ≤ 40 := ⟨bstr r.bytes, he, by rw [bstr_size]; exact bytes_len r⟩
  clear he
  subst he'
  have HS5 := Lib.hid (HS4.out.below hb5 HS4.out.lt)
  have HB5 := Lib.hid (HB4.out.trans (hb5.mono HB4.out.size)); clear hb5 HS4 HB4
  go_wp2_with fail
  refine (draw_n s 5 w5 (by omega) HS5.out).mono ?_
  rintro e w6 ⟨p, rfl, hp, hS6, hb6⟩
  have hp := hp (by omega)
  have HS6 := Lib.hid hS6
  have HB6 := Lib.hid (bel_drawn HB5.out (by omega) HS5.out.lt hb6); clear hS6 hb6 HS5 HB5
  by_cases h0 : p = 0
  · subst h0
    go_wp2_with fail
    refine (draw_spoil s X _ (by omega) HS6.out).mono ?_
    rintro e w7 ⟨u, rfl, hu, hS7, hb7⟩
    have HB7 := Lib.hid (bel_drawn HB6.out (by omega) HS6.out.lt hb7); clear hS7 hb7
    go_wp2
    go_ret
    exact ⟨u, rfl, by unfold maxLen; omega, HB7.out⟩
  by_cases h1 : p = 1
  · subst h1
    clear h0
    go_wp2_with fail
    refine (draw_n s ((X.size : Int) + 1) _ (by omega) HS6.out).mono ?_
    rintro e w7 ⟨k, rfl, hk, hS7, hb7⟩
    have hk := hk (by omega)
    have HB7 := Lib.hid (bel_drawn HB6.out (by omega) HS6.out.lt hb7); clear hS7 hb7
    have hk' : k ≤ X.size := by omega
    go_wp2
    go_ret
    exact ⟨_, rfl, by rw [ext_size hk']; unfold maxLen; omega, HB7.out⟩
  by_cases h2 : p = 2
  · subst h2
    clear h0 h1
    go_wp2_with fail
    refine (spec_unseal_any X _ (by unfold maxLen; omega)).mono ?_
    rintro e w7 ⟨he, hb7⟩
    obtain ⟨y, cy, he', hy⟩ : ∃ (y : ByteArray) (cy : Int), e = .returned (.agg #[.string y, .int .i64 0, .int .i64 cy]) ∧ y.size ≤ 8000 := ⟨bstr (Bt.opened X).1, (Bt.opened X).2, he, by rw [bstr_size]; exact opened_small X⟩
    clear he
    subst he'
    have HS7 := Lib.hid (HS6.out.below hb7 HS6.out.lt)
    have HB7 := Lib.hid (HB6.out.trans (hb7.mono HB6.out.size)); clear hb7
    have hfl := field_text y 0 cy w7
    go_wp2_with fail
    refine (draw_spoil s y _ (by omega) HS7.out).mono ?_
    rintro e w8 ⟨u, rfl, hu, hS8, hb8⟩
    have HB8 := Lib.hid (bel_drawn HB7.out (by omega) HS7.out.lt hb8); clear hS8 hb8
    go_wp2_with fail
    refine (spec_seal_any u _ (by unfold maxLen; omega)).mono ?_
    rintro e w9 ⟨he, hb9⟩
    obtain ⟨z, he', hz⟩ : ∃ z : ByteArray, e = .returned (.string z) ∧ z.size ≤ 8000 := ⟨bstr (Bt.sealed u), he, by rw [bstr_size]; exact sealed_len u⟩
    clear he
    subst he'
    have HB9 := Lib.hid (HB8.out.trans (hb9.mono HB8.out.size)); clear hb9
    go_wp2
    go_ret
    exact ⟨z, rfl, by unfold maxLen; omega, HB9.out⟩
  have e0 : ((p : Int) == 0) = false := beq_eq_false_iff_ne.2 (by omega)
  have e1 : ((p : Int) == 1) = false := beq_eq_false_iff_ne.2 (by omega)
  have e2 : ((p : Int) == 2) = false := beq_eq_false_iff_ne.2 (by omega)
  have d0 : decide (p = 0) = false := decide_eq_false h0
  have d1 : decide (p = 1) = false := decide_eq_false h1
  have d2 : decide (p = 2) = false := decide_eq_false h2
  clear h0 h1 h2
  go_wp2
  go_ret
  exact ⟨X, rfl, by unfold maxLen; omega, HB6.out⟩
end Go.Proofs.YtllpmflkcfnknaaDoor
