/-
  Slots: two texts that come in as an argument, opened; the laws' own steps over them; SlotsRight of both.
-/
import Derived.Test.YtloaeglmngcenaaGreatDoorProg
import Derived.KernelRfl
import Derived.Test.YtloaeglmngcenaaGreatDoorRcOpen
import Derived.Test.YtloaeglmngcenaaGreatDoorNdPure
import Derived.Test.YtloaeglmngcenaaGreatDoorCkPure
namespace Go.Proofs.YtloaeglmngcenaaGreatDoor
open Go.RowKit Go.ChangeShapes Go.WideShapes Go.Deep
open Bt (Rc)

theorem ret_ick {a b : Int} (h : a = b) : Ending.returned (.int .i64 a) = .returned (.int .i64 b) := by rw [h]
abbrev slotsV (a b : ByteArray) : Value := .agg #[.string a, .string b]
section
variable {H : Type} {enc : TypeId × Value → H} {P : Program} {w : World} {base : Nat} {spare : Nat → Bool} {held : Bool}
theorem open_slots {r : Reach} {b0 : Nat} {t : TypeId} {f0 f1 : Field} {v : Value} {d : DataW H} {ps : List MemPlace} (ht : P.underlying t = some (.struct #[f0, f1])) (hone : oneCellFields P #[f0, f1] = true) (hC : P.cellsOf t = 2)
    (h0 : P.underlying f0.type = some .string) (h1 : P.underlying f1.type = some .string)
    (hval : Value.okWide P w r b0 t v) (h : DataW.Trod enc P w base spare held t v d ps) : ∃ a b : ByteArray, v = slotsV a b ∧ a.size ≤ maxLen ∧ b.size ≤ maxLen := by
  obtain ⟨cs, rfl, hsz⟩ := okWide_struct ht hval
  obtain ⟨fuel, hf⟩ := h
  obtain ⟨hcl, hfs⟩ := rc_fields ht hone hf hC
  obtain ⟨u0, y0, m0, hu0, hy0⟩ := hfs 0 f0 rfl
  obtain ⟨u1, y1, m1, hu1, hy1⟩ := hfs 1 f1 rfl
  obtain ⟨a, e0, -, ha⟩ := DataW.trod_string h0 hy0
  obtain ⟨b, e1, -, hb⟩ := DataW.trod_string h1 hy1
  simp only [List.cons.injEq, and_true] at e0 e1
  subst e0 e1
  refine ⟨a, b, ?_, ha, hb⟩
  obtain ⟨l⟩ := cs
  match l, hcl, hu0, hu1 with
  | [c0, c1], _, hu0, hu1 =>
    simp [Value.cells] at hu0 hu1
    rw [hu0, hu1]
end
set_option maxRecDepth 100000 in
/-- slots that come in, at this program's types -/
theorem open_lawsSlots {H : Type} {enc : TypeId × Value → H} {w : World} {base : Nat} {spare : Nat → Bool} {held : Bool} {r : Reach} {b0 : Nat} {v : Value} {d : DataW H} {ps : List MemPlace}
    (hval : Value.okWide Tryz.prog w r b0 82 v) (h : DataW.Trod enc Tryz.prog w base spare held 82 v d ps) : ∃ a b : ByteArray, v = slotsV a b ∧ a.size ≤ maxLen ∧ b.size ≤ maxLen :=
  open_slots Tryz.underlying82 (by kernel_rfl) (by kernel_rfl) Tryz.underlying9 Tryz.underlying9 hval h

set_option maxHeartbeats 2000000 in
theorem szSlots_any (a b : ByteArray) (left : Int) (w : World) (h0 : 0 ≤ left) (h1 : left ≤ 1048576) (ha : a.size ≤ maxLen) (hb : b.size ≤ maxLen) :
    Calls Tryz.prog 52 #[slotsV a b, .int .i64 left] w fun e w' => e = .returned (.int .i64 (szR (a.size + b.size) left)) ∧ Below w.heap.size w w' := by
  unfold maxLen at ha hb
  by_cases hc : (a.size : Int) ≤ left
  · have hw1 : IntKind.i64.wrap (left - (a.size : Int)) = left - (a.size : Int) := IntWalk.i64_in _ (by omega)
    have hnn : 0 ≤ left - (a.size : Int) := by omega
    have hw2 : IntKind.i64.wrap (left - (a.size : Int) - (b.size : Int)) = left - (a.size : Int) - (b.size : Int) := IntWalk.i64_in _ (by omega)
    by_cases hd : (a.size : Int) + (b.size : Int) ≤ left
    · have hz := szR_ok (t := a.size + b.size) (left := left) (by omega)
      have hnn2 : 0 ≤ left - (a.size : Int) - (b.size : Int) := by omega
      go_enter Tryz.func52, Tryz.ntmps52
      go_wp2
      go_ret
      exact ⟨ret_ick (by rw [hz]; omega), (Below.refl _ _).alloc (Nat.le_refl _) _⟩
    · have hz := szR_no (t := a.size + b.size) (left := left) (by omega)
      have hnn2 : left - (a.size : Int) - (b.size : Int) < 0 := by omega
      go_enter Tryz.func52, Tryz.ntmps52
      go_wp2
      go_ret
      exact ⟨ret_ick (by first | rfl | rw [hz]), (Below.refl _ _).alloc (Nat.le_refl _) _⟩
  · have hw1 : IntKind.i64.wrap (left - (a.size : Int)) = left - (a.size : Int) := IntWalk.i64_in _ (by omega)
    have hnn : left - (a.size : Int) < 0 := by omega
    have hz := szR_no (t := a.size + b.size) (left := left) (by omega)
    go_enter Tryz.func52, Tryz.ntmps52
    go_wp2
    go_ret
    exact ⟨ret_ick (by first | rfl | rw [hz]), (Below.refl _ _).alloc (Nat.le_refl _) _⟩

set_option maxHeartbeats 2000000 in
theorem toSlots_any (a b : ByteArray) (w : World) : Calls Tryz.prog 55 #[slotsV a b] w fun e w' => e = .returned (slotsV a b) ∧ Below w.heap.size w w' := by
  go_enter Tryz.func55, Tryz.ntmps55
  go_wp2
  exact bodyPost_ret (v := slotsV a b) (by simp [results, Tryz.results55, go_sem]) rfl ⟨rfl, (((Below.refl _ _).alloc (Nat.le_refl _) _).alloc (by simp) _).alloc (by simp; omega) _⟩
set_option maxHeartbeats 2000000 in
theorem eqSlots_same (a b : ByteArray) (w : World) : Calls Tryz.prog 58 #[slotsV a b, slotsV a b] w fun e w' => e = .returned (.bool true) ∧ Below w.heap.size w w' := by
  go_enter Tryz.func58, Tryz.ntmps58
  go_wp2
  go_ret
  exact ⟨rfl, ((Below.refl _ _).alloc (Nat.le_refl _) _).alloc (by simp) _⟩

set_option maxHeartbeats 2000000 in
theorem impl_slotsRight (a b : ByteArray) (w : World) (ha : a.size ≤ maxLen) (hb : b.size ≤ maxLen) :
    Calls Tryz.prog 130 #[slotsV a b] w fun e w' => e = .returned (.bool (slotB a b)) ∧ Below w.heap.size w w' := by
  unfold maxLen at ha hb
  unfold slotB
  by_cases h1 : a.size ≤ 4000
  · by_cases h2 : b.size ≤ 4000
    · rw [decide_eq_true h1, decide_eq_true h2]
      go_enter Tryz.func130, Tryz.ntmps130
      go_wp2
      go_ret
      exact ⟨by simp; omega, (Below.refl _ _).alloc (Nat.le_refl _) _⟩
    · have h2' : 4000 < b.size := by omega
      rw [decide_eq_true h1, decide_eq_false h2]
      go_enter Tryz.func130, Tryz.ntmps130
      go_wp2
      go_ret
      exact ⟨by simp; omega, (Below.refl _ _).alloc (Nat.le_refl _) _⟩
  · have h1' : 4000 < a.size := by omega
    rw [decide_eq_false h1]
    go_enter Tryz.func130, Tryz.ntmps130
    go_wp2
    go_ret
    exact ⟨by simp, (Below.refl _ _).alloc (Nat.le_refl _) _⟩
set_option maxHeartbeats 2000000 in
theorem spec_slotsRight (a b : ByteArray) (w : World) (ha : a.size ≤ maxLen) (hb : b.size ≤ maxLen) :
    Calls Tryz.prog 124 #[slotsV a b] w fun e w' => e = .returned (.bool (slotB a b)) ∧ Below w.heap.size w w' := by
  unfold maxLen at ha hb
  unfold slotB
  by_cases h1 : a.size ≤ 4000
  · by_cases h2 : b.size ≤ 4000
    · rw [decide_eq_true h1, decide_eq_true h2]
      go_enter Tryz.func124, Tryz.ntmps124
      go_wp2
      go_ret
      exact ⟨by simp; omega, (Below.refl _ _).alloc (Nat.le_refl _) _⟩
    · have h2' : 4000 < b.size := by omega
      rw [decide_eq_true h1, decide_eq_false h2]
      go_enter Tryz.func124, Tryz.ntmps124
      go_wp2
      go_ret
      exact ⟨by simp; omega, (Below.refl _ _).alloc (Nat.le_refl _) _⟩
  · have h1' : 4000 < a.size := by omega
    rw [decide_eq_false h1]
    go_enter Tryz.func124, Tryz.ntmps124
    go_wp2
    go_ret
    exact ⟨by simp, (Below.refl _ _).alloc (Nat.le_refl _) _⟩
end Go.Proofs.YtloaeglmngcenaaGreatDoor
