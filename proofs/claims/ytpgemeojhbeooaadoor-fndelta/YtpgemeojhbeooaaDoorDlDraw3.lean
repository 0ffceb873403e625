/-
  What the law of deltas draws: two texts, and a text with operations.
-/
import Derived.Test.YtpgemeojhbeooaaDoorDlDraw2
import Derived.Test.YtpgemeojhbeooaaDoorDrMore
namespace Go.Proofs.YtpgemeojhbeooaaDoor
open Go.RowKit
open Bt (Dop)

/-- a draw from a source of the call's own -/
theorem bel_dl {B s : Nat} {w w1 w2 : World} (h : Below B w w1) (hB : B ≤ s) (hs : s < w1.heap.size) (hb : Btw s (s + 1) w1 w2) : Below B w w2 :=
  h.trans ⟨hb.os, hb.tape, hb.output, hb.size, fun i hi => hb.block i (by omega) (Or.inl (by omega))⟩
set_option maxHeartbeats 400000 in
set_option maxRecDepth 100000 in
theorem drawDeltaOf_any (A : Option Addr) (n c : Nat) (w : World) (hn : n ≤ 1048576) (hA : RdBy w w.heap.size A n) :
    Calls Tryd.prog 5 #[.slice A n c] w (fun e w' => ∃ b t : ByteArray, e = .returned (.tuple #[.string b, .string t]) ∧ b.size ≤ 1000 ∧ t.size ≤ 1000 ∧ Below w.heap.size w w') := by
  have HA := Lib.hid hA; clear hA
  go_enter Tryd.func5, Tryd.ntmps5
  go_wp2_with fail
  refine (draw_source n c A _ hn HA.out).mono ?_
  rintro e w1 ⟨s, rfl, hs1, hS1, hb1⟩
  have HS1 := Lib.hid hS1
  have HB1 := Lib.hid hb1; clear hS1 hb1
  go_wp2_with fail
  refine (draw_pair s w1 HS1.out).mono ?_
  rintro e w2 ⟨b, t, rfl, hb, ht, hS2, hb2⟩
  have HB2 := Lib.hid (bel_dl HB1.out hs1 HS1.out.lt hb2); clear hS2 hb2
  go_wp2
  go_ret2
  exact ⟨b, t, rfl, hb, ht, HB2.out⟩
set_option maxHeartbeats 400000 in
set_option maxRecDepth 100000 in
theorem drawDeltaApply_any (A : Option Addr) (n c : Nat) (w : World) (hn : n ≤ 1048576) (hA : RdBy w w.heap.size A n) :
    Calls Tryd.prog 8 #[.slice A n c] w (fun e w' => ∃ (b : ByteArray) (A' : Option Addr) (m ca : Nat) (L : List Dop), e = .returned (.tuple #[.string b, .slice A' m ca]) ∧ b.size ≤ 1000 ∧ m ≤ 41 ∧ FineD L ∧ OwDo w' w.heap.size w'.heap.size A' m L ∧ Below w.heap.size w w') := by
  have HA := Lib.hid hA; clear hA
  go_enter Tryd.func8, Tryd.ntmps8
  go_wp2_with fail
  refine (draw_source n c A _ hn HA.out).mono ?_
  rintro e w1 ⟨s, rfl, hs1, hS1, hb1⟩
  have HS1 := Lib.hid hS1
  have HB1 := Lib.hid hb1; clear hS1 hb1
  go_wp2_with fail
  refine (draw_ops s w1 HS1.out).mono ?_
  rintro e w2 ⟨b, A', m, ca, L, rfl, hb, hm, hF, ho, hS2, hb2⟩
  have HB2 := Lib.hid (bel_dl HB1.out hs1 HS1.out.lt hb2); clear hS2 hb2
  have HO2 := Lib.hid (ho.mono HB1.out.size (Nat.le_refl _)); clear ho
  go_wp2
  go_ret2
  exact ⟨b, A', m, ca, L, rfl, hb, hm, hF, HO2.out, HB2.out⟩
end Go.Proofs.YtpgemeojhbeooaaDoor
