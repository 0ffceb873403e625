/-
  Slots: two texts that come in as an argument, opened; the laws' own steps over them; SlotsRight of both.
  The better of two slots, of the program.
  The better of two slots, of the model.
  CkptBest of both.
  Which chips are valid: as a mathematical notion, and as the document's model answers.
  The program's arrays of four pages: copied out of a slice, counted, looked over.
  NandRight, UsedOf and FreeBlocks, of the program and of the model, and the codes with which the functions of a block begin.
  What stands inside the three regions of free order of FnExactMountWith.
  Plain mathematics of trails (chapter 5): the records that determine what a sector contains at a time. No condition.
  Lists of numbers in memory, and the laws' own steps over them: comparing, marking, looking at the marks.
  The contracts of touches and lastTouch.
  The iterator over a trail: what it hands to the body of a loop, round by round.
  Trail, of the program.
  A sorted list of numbers: the search in it, and what is added at its end.
  One element of one cell, appended to a row of the call's own.
  Trail, of the document's model.
  A number added to a sorted list, where it belongs at the end or is there.
  Plain mathematics of Times (chapter 5): the times at which a sector may change, each once, in increasing order. No condition.
-/
import Derived.Test.YtloaeglmngcenaaGreatDoorProg
import Derived.KernelRfl
import Derived.Test.YtloaeglmngcenaaGreatDoorRcOpen
import Derived.Test.YtloaeglmngcenaaGreatDoorNdPure
import Derived.Test.YtloaeglmngcenaaGreatDoorCkPure
import Derived.Test.YtloaeglmngcenaaGreatDoorCkReadJ
import Derived.Test.YtloaeglmngcenaaGreatDoorCkBestP
import Derived.Test.YtloaeglmngcenaaGreatDoorRgAny
import Derived.BigRegion
import Derived.Deep.DeepCutAuto
import Derived.Deep.CutBlock
import Derived.Test.YtloaeglmngcenaaGreatDoorCkReadS
import Derived.Test.YtloaeglmngcenaaGreatDoorNdMem
import Derived.BigQuiet
import Derived.StillTailTactics
import Derived.Laws.CopyRow
import Derived.Laws.CopyOwn
import Derived.Test.YtloaeglmngcenaaGreatDoorHsMem
import Derived.Test.YtloaeglmngcenaaGreatDoorHsPure
import Derived.Test.YtloaeglmngcenaaGreatDoorHsApp
import Derived.Lib.QuietBelow
import Derived.RangeFuncNested
import Derived.RangeFuncBound
import Derived.RangeFuncCalls
import Derived.RangeFuncLeaves
import Derived.Shelf.Abstract
import Derived.Shelf.RegionOpen
import Derived.WalkKit
import Derived.OwnWalkIn
import Derived.TacticsInMore
import Derived.LoopNIn
import Derived.LoopIn
import Derived.Maps.AppendAt
import Derived.RangeFuncBox
namespace Go.Proofs.YtloaeglmngcenaaGreatDoor
open Go.RowKit Go.ChangeShapes Go.WideShapes Go.Deep
open Bt (Rc)

theorem ret_ick {a b : Int} (h : a = b) : Ending.returned (.int .i64 a) = .returned (.int .i64 b) := by rw [h]
abbrev slotsV (a b : ByteArray) : Value := .agg #[.string a, .string b]
section
variable {H : Type} {enc : TypeId × Value → H} {P : Program} {w : World} {base : Nat} {spare : Nat → Bool} {held : Bool}
theorem open_slots {r : Reach} {b0 : Nat} {t : TypeId} {f0 f1 : Field} {v : Value} {d : DataW H} {ps : List MemPlace} (ht : P.underlying t = some (.struct #[f0, f1])) (hone : oneCellFields P #[f0, f1] = true) (hC : P.cellsOf t = 2)
    (h0 : P.underlying f0.type = some .string) (h1 : P.underlying f1.type = some .string)
    (hval : Value.okWide P w r b0 t v) (h : DataW.Trod enc P w base spare held t v d ps) : ∃ a b : ByteArray, v = slotsV a b ∧ a.size ≤ maxLen ∧ b.size ≤ maxLen := by
  obtain ⟨cs, rfl, hsz⟩ := okWide_struct ht hval
  obtain ⟨fuel, hf⟩ := h
  obtain ⟨hcl, hfs⟩ := rc_fields ht hone hf hC
  obtain ⟨u0, y0, m0, hu0, hy0⟩ := hfs 0 f0 rfl
  obtain ⟨u1, y1, m1, hu1, hy1⟩ := hfs 1 f1 rfl
  obtain ⟨a, e0, -, ha⟩ := DataW.trod_string h0 hy0
  obtain ⟨b, e1, -, hb⟩ := DataW.trod_string h1 hy1
  simp only [List.cons.injEq, and_true] at e0 e1
  subst e0 e1
  refine ⟨a, b, ?_, ha, hb⟩
  obtain ⟨l⟩ := cs
  match l, hcl, hu0, hu1 with
  | [c0, c1], _, hu0, hu1 =>
    simp [Value.cells] at hu0 hu1
    rw [hu0, hu1]
end
set_option maxRecDepth 100000 in
/-- slots that come in, at this program's types -/
theorem open_lawsSlots {H : Type} {enc : TypeId × Value → H} {w : World} {base : Nat} {spare : Nat → Bool} {held : Bool} {r : Reach} {b0 : Nat} {v : Value} {d : DataW H} {ps : List MemPlace}
    (hval : Value.okWide Tryz.prog w r b0 82 v) (h : DataW.Trod enc Tryz.prog w base spare held 82 v d ps) : ∃ a b : ByteArray, v = slotsV a b ∧ a.size ≤ maxLen ∧ b.size ≤ maxLen :=
  open_slots Tryz.underlying82 (by kernel_rfl) (by kernel_rfl) Tryz.underlying9 Tryz.underlying9 hval h

set_option maxHeartbeats 2000000 in
theorem szSlots_any (a b : ByteArray) (left : Int) (w : World) (h0 : 0 ≤ left) (h1 : left ≤ 1048576) (ha : a.size ≤ maxLen) (hb : b.size ≤ maxLen) :
    Calls Tryz.prog 52 #[slotsV a b, .int .i64 left] w fun e w' => e = .returned (.int .i64 (szR (a.size + b.size) left)) ∧ Below w.heap.size w w' := by
  unfold maxLen at ha hb
  by_cases hc : (a.size : Int) ≤ left
  · have hw1 : IntKind.i64.wrap (left - (a.size : Int)) = left - (a.size : Int) := IntWalk.i64_in _ (by omega)
    have hnn : 0 ≤ left - (a.size : Int) := by omega
    have hw2 : IntKind.i64.wrap (left - (a.size : Int) - (b.size : Int)) = left - (a.size : Int) - (b.size : Int) := IntWalk.i64_in _ (by omega)
    by_cases hd : (a.size : Int) + (b.size : Int) ≤ left
    · have hz := szR_ok (t := a.size + b.size) (left := left) (by omega)
      have hnn2 : 0 ≤ left - (a.size : Int) - (b.size : Int) := by omega
      go_enter Tryz.func52, Tryz.ntmps52
      go_wp2
      go_ret
      exact ⟨ret_ick (by rw [hz]; omega), (Below.refl _ _).alloc (Nat.le_refl _) _⟩
    · have hz := szR_no (t := a.size + b.size) (left := left) (by omega)
      have hnn2 : left - (a.size : Int) - (b.size : Int) < 0 := by omega
      go_enter Tryz.func52, Tryz.ntmps52
      go_wp2
      go_ret
      exact ⟨ret_ick (by first | rfl | rw [hz]), (Below.refl _ _).alloc (Nat.le_refl _) _⟩
  · have hw1 : IntKind.i64.wrap (left - (a.size : Int)) = left - (a.size : Int) := IntWalk.i64_in _ (by omega)
    have hnn : left - (a.size : Int) < 0 := by omega
    have hz := szR_no (t := a.size + b.size) (left := left) (by omega)
    go_enter Tryz.func52, Tryz.ntmps52
    go_wp2
    go_ret
    exact ⟨ret_ick (by first | rfl | rw [hz]), (Below.refl _ _).alloc (Nat.le_refl _) _⟩

set_option maxHeartbeats 2000000 in
theorem toSlots_any (a b : ByteArray) (w : World) : Calls Tryz.prog 55 #[slotsV a b] w fun e w' => e = .returned (slotsV a b) ∧ Below w.heap.size w w' := by
  go_enter Tryz.func55, Tryz.ntmps55
  go_wp2
  exact bodyPost_ret (v := slotsV a b) (by simp [results, Tryz.results55, go_sem]) rfl ⟨rfl, (((Below.refl _ _).alloc (Nat.le_refl _) _).alloc (by simp) _).alloc (by simp; omega) _⟩
set_option maxHeartbeats 2000000 in
theorem eqSlots_same (a b : ByteArray) (w : World) : Calls Tryz.prog 58 #[slotsV a b, slotsV a b] w fun e w' => e = .returned (.bool true) ∧ Below w.heap.size w w' := by
  go_enter Tryz.func58, Tryz.ntmps58
  go_wp2
  go_ret
  exact ⟨rfl, ((Below.refl _ _).alloc (Nat.le_refl _) _).alloc (by simp) _⟩

set_option maxHeartbeats 2000000 in
theorem impl_slotsRight (a b : ByteArray) (w : World) (ha : a.size ≤ maxLen) (hb : b.size ≤ maxLen) :
    Calls Tryz.prog 130 #[slotsV a b] w fun e w' => e = .returned (.bool (slotB a b)) ∧ Below w.heap.size w w' := by
  unfold maxLen at ha hb
  unfold slotB
  by_cases h1 : a.size ≤ 4000
  · by_cases h2 : b.size ≤ 4000
    · rw [decide_eq_true h1, decide_eq_true h2]
      go_enter Tryz.func130, Tryz.ntmps130
      go_wp2
      go_ret
      exact ⟨by simp; omega, (Below.refl _ _).alloc (Nat.le_refl _) _⟩
    · have h2' : 4000 < b.size := by omega
      rw [decide_eq_true h1, decide_eq_false h2]
      go_enter Tryz.func130, Tryz.ntmps130
      go_wp2
      go_ret
      exact ⟨by simp; omega, (Below.refl _ _).alloc (Nat.le_refl _) _⟩
  · have h1' : 4000 < a.size := by omega
    rw [decide_eq_false h1]
    go_enter Tryz.func130, Tryz.ntmps130
    go_wp2
    go_ret
    exact ⟨by simp, (Below.refl _ _).alloc (Nat.le_refl _) _⟩
set_option maxHeartbeats 2000000 in
theorem spec_slotsRight (a b : ByteArray) (w : World) (ha : a.size ≤ maxLen) (hb : b.size ≤ maxLen) :
    Calls Tryz.prog 124 #[slotsV a b] w fun e w' => e = .returned (.bool (slotB a b)) ∧ Below w.heap.size w w' := by
  unfold maxLen at ha hb
  unfold slotB
  by_cases h1 : a.size ≤ 4000
  · by_cases h2 : b.size ≤ 4000
    · rw [decide_eq_true h1, decide_eq_true h2]
      go_enter Tryz.func124, Tryz.ntmps124
      go_wp2
      go_ret
      exact ⟨by simp; omega, (Below.refl _ _).alloc (Nat.le_refl _) _⟩
    · have h2' : 4000 < b.size := by omega
      rw [decide_eq_true h1, decide_eq_false h2]
      go_enter Tryz.func124, Tryz.ntmps124
      go_wp2
      go_ret
      exact ⟨by simp; omega, (Below.refl _ _).alloc (Nat.le_refl _) _⟩
  · have h1' : 4000 < a.size := by omega
    rw [decide_eq_false h1]
    go_enter Tryz.func124, Tryz.ntmps124
    go_wp2
    go_ret
    exact ⟨by simp, (Below.refl _ _).alloc (Nat.le_refl _) _⟩
end Go.Proofs.YtloaeglmngcenaaGreatDoor

namespace Go.Proofs.YtloaeglmngcenaaGreatDoor
open Go.RowKit
open Bt (Rc)

/-- how far the region has come -/
def BtInv (Fr : Value → Value → Value → Value → Value → Value → Value → Value → Act) (w W : World) (a b : ByteArray) (L : Array Bool) (x : Act) (u : World) : Prop :=
  L.size = 10 ∧ (Dn L 8 → Dn L 2 ∧ Dn L 6) ∧ (Dn L 9 → Dn L 5 ∧ Dn L 7) ∧ ∃ s4 s5 s6 s7 s8 s9 s10 s11, x = Fr s4 s5 s6 s7 s8 s9 s10 s11 ∧
    (Dn L 0 → s6 = .pointer (some ⟨w.heap.size, 0, none⟩)) ∧ (Dn L 1 → s7 = .string a) ∧ (Dn L 3 → s9 = .pointer (some ⟨w.heap.size, 1, none⟩)) ∧ (Dn L 4 → s10 = .string b) ∧
    ∃ A1 A2 n1 n2 l1 h1 l2 h2 ga gb, BsI W u (Dn L 2) (Dn L 5) (Dn L 6) (Dn L 7) (Dn L 8) (Dn L 9) a b s8 s11 s4 s5 A1 A2 ((ckList a).length + n1) ((ckList b).length + n2) l1 h1 l2 h2 ga gb
theorem BsI.startN {w W : World} (hb : Below w.heap.size w W) (a b : ByteArray) (x1 x2 p4 p5 : Value) (n1 n2 : Nat) : BsI w W False False False False False False a b x1 x2 p4 p5 none none n1 n2 0 0 0 0 0 0 :=
  ⟨hb, False.elim, False.elim, False.elim, False.elim, fun h => h.elim, fun h => h.elim, fun h => h.elim, fun h => h.elim, fun h => h.elim, fun h => h.elim, fun h => h.elim, fun h => h.elim, fun h => h.elim⟩
/-- both are read and laid -/
structure BsD (w u : World) (a b : ByteArray) (A1 A2 : Option Addr) (n1 n2 l1 h1 l2 h2 ga gb : Nat) : Prop where
  bel : Below w.heap.size w u
  o1 : OwRc u l1 h1 A1 (ckList a).length (ckList a)
  o2 : OwRc u l2 h2 A2 (ckList b).length (ckList b)
  p1 : w.heap.size ≤ l1 ∧ h1 ≤ u.heap.size
  p2 : w.heap.size ≤ l2 ∧ h2 ≤ u.heap.size
  b1 : IsBlk u ga 175 (ckL a A1 n1)
  b2 : IsBlk u gb 175 (ckL b A2 n2)
  g1 : w.heap.size ≤ ga
  g2 : w.heap.size ≤ gb
theorem BsI.all {w W : World} {c1 c2 k4 k5 s4 s5 : Prop} {a b : ByteArray} {x1 x2 p4 p5 : Value} {A1 A2 : Option Addr} {n1 n2 l1 h1 l2 h2 ga gb : Nat} (h : BsI w W c1 c2 k4 k5 s4 s5 a b x1 x2 p4 p5 A1 A2 n1 n2 l1 h1 l2 h2 ga gb)
    (d2 : c1) (d5 : c2) (d6 : k4) (d7 : k5) (d8 : s4) (d9 : s5) : BsD w W a b A1 A2 n1 n2 l1 h1 l2 h2 ga gb :=
  ⟨h.bel, (h.ans1 d2).2.1, (h.ans2 d5).2.1, (h.ans1 d2).2.2, (h.ans2 d5).2.2, h.f4 d6 d8, h.f5 d7 d9, (h.box4 d6).2.1, (h.box5 d7).2.1⟩

/-- the better of two slots, and whether it is A's; its row is no longer than its capacity -/
def RetBestC (a b : ByteArray) (w : World) (e : Ending) (w' : World) : Prop :=
  ∃ (A : Option Addr) (d : Nat), e = .returned (.tuple #[ckV (ckRNum (ckTxt a b)) A (ckList (ckTxt a b)).length ((ckList (ckTxt a b)).length + d) (ckCode (ckTxt a b)), .bool (ckSel a b)]) ∧ OwRc w' w.heap.size w'.heap.size A (ckList (ckTxt a b)).length (ckList (ckTxt a b)) ∧ Below w.heap.size w w'
/-- the better of two slots, and whether it is A's -/
def RetBest (a b : ByteArray) (w : World) (e : Ending) (w' : World) : Prop :=
  ∃ (A : Option Addr) (c : Nat), e = .returned (.tuple #[ckV (ckRNum (ckTxt a b)) A (ckList (ckTxt a b)).length c (ckCode (ckTxt a b)), .bool (ckSel a b)]) ∧ OwRc w' w.heap.size w'.heap.size A (ckList (ckTxt a b)).length (ckList (ckTxt a b)) ∧ Below w.heap.size w w'

set_option maxHeartbeats 8000000 in
set_option maxRecDepth 100000 in
theorem bestOf_anyC (a b : ByteArray) (w : World) (ha : a.size ≤ maxLen) (hb : b.size ≤ maxLen) (hg : ErrType w) :
    Calls Tryz.prog 132 #[slotsV a b] w (RetBestC a b w) := by
  have HG := Lib.hid hg; clear hg
  have HC1 := Lib.hid (fun W h => impl_ckptReadC a W ha h)
  have HC2 := Lib.hid (fun W h => impl_ckptReadC b W hb h)
  go_enter Tryz.func132, Tryz.ntmps132
  go_wp2_with fail
  have hb0 : Below w.heap.size w ((w.alloc (.cells #[.string a, .string b] 88)).alloc (.cells #[.int .i64 0, .slice none 0 0, .int .i64 0] 175)) := ((Below.refl _ _).alloc (Nat.le_refl _) _).alloc (by simp) _
  have ks := (isBlk_new w 88 [.string a, .string b]).alloc (.cells #[.int .i64 0, .slice none 0 0, .int .i64 0] 175)
  have ko := isBlk_new (w.alloc (.cells #[.string a, .string b] 88)) 175 [.int .i64 0, .slice none 0 0, .int .i64 0]
  rw [size_alloc] at ko
  change IsBlk ((w.alloc (.cells #[.string a, .string b] 88)).alloc (.cells #[.int .i64 0, .slice none 0 0, .int .i64 0] 175)) _ _ _ at ks ko
  have hz : ((w.alloc (.cells #[.string a, .string b] 88)).alloc (.cells #[.int .i64 0, .slice none 0 0, .int .i64 0] 175)).heap.size = w.heap.size + 2 := by simp
  generalize (w.alloc (.cells #[.string a, .string b] 88)).alloc (.cells #[.int .i64 0, .slice none 0 0, .int .i64 0] 175) = W at hb0 ks ko hz ⊢
  have c0 : W.cell? ⟨w.heap.size, 0, none⟩ = some (.string a) := ks.cell rfl
  have c1 : W.cell? ⟨w.heap.size, 1, none⟩ = some (.string b) := ks.cell rfl
  have hl0 := ks.lt
  have HB0 := Lib.hid hb0; have HKO := Lib.hid ko
  clear hb0 ks ko
  go_cut [4, 5] (fun v4 v5 u => ∃ A1 A2 n1 n2 l1 h1 l2 h2 ga gb, v4 = .pointer (some ⟨ga, 0, none⟩) ∧ v5 = .pointer (some ⟨gb, 0, none⟩) ∧ BsD W u a b A1 A2 ((ckList a).length + n1) ((ckList b).length + n2) l1 h1 l2 h2 ga gb)
  case first =>
    rename_i J K hJ hK
    refine wp_region_any (by kernel_rfl) (wpAny_inv (BtInv (fun s4 s5 s6 s7 s8 s9 s10 s11 => { tmps := #[slotsV a b, .pointer (some ⟨w.heap.size, 0, none⟩), .pointer (some ⟨w.heap.size + 1, 0, none⟩), .bool false, s4, s5, s6, s7, s8, s9, s10, s11, undef, undef, undef, undef, undef, undef, undef, undef, undef, undef], defers := [] }) w W a b) ?sz ?step ?rend _ _ _ _ (by decide) ?start)
    case sz => intro L x u h; exact h.1
    case start =>
      refine ⟨by simp, fun h => ?_, fun h => ?_, _, _, _, _, _, _, _, _, rfl, fun h => ?_, fun h => ?_, fun h => ?_, fun h => ?_, none, none, 0, 0, 0, 0, 0, 0, 0, 0, ?_⟩
      rotate_right
      · simp only [dn_zero]
        exact BsI.startN (Below.refl _ W).drew a b _ _ _ _ _ _
      all_goals (simp only [dn_zero] at h)
    case step =>
      intro L x u hI i o ho hi hL hd
      obtain ⟨hsz, k8, k9, s4, s5, s6, s7, s8, s9, s10, s11, rfl, e0, e1, e3, e4, A1, A2, n1, n2, l1, h1, l2, h2, ga, gb, hS⟩ := hI
      have hcase : i = 0 ∨ i = 1 ∨ i = 2 ∨ i = 3 ∨ i = 4 ∨ i = 5 ∨ i = 6 ∨ i = 7 ∨ i = 8 ∨ i = 9 := by omega
      rcases hcase with rfl | rfl | rfl | rfl | rfl | rfl | rfl | rfl | rfl | rfl
      · -- operation 0
        refine wpOp_of_list ho (by cases ho; rfl) ?_
        cases ho
        go_wp2_with fail
        refine ⟨by simp [hsz], fun h => (k8 ((h.set).resolve_left (by decide))).imp Dn.stay Dn.stay, fun h => (k9 ((h.set).resolve_left (by decide))).imp Dn.stay Dn.stay, _, _, _, _, _, _, _, _, rfl, fun _ => rfl, fun h => e1 ((h.set).resolve_left (by decide)), fun h => e3 ((h.set).resolve_left (by decide)), fun h => e4 ((h.set).resolve_left (by decide)), A1, A2, n1, n2, l1, h1, l2, h2, ga, gb, ?_⟩
        simp only [dn_not (L := L) (i := 0) (j := 2) (by decide), dn_not (L := L) (i := 0) (j := 5) (by decide), dn_not (L := L) (i := 0) (j := 6) (by decide), dn_not (L := L) (i := 0) (j := 7) (by decide), dn_not (L := L) (i := 0) (j := 8) (by decide), dn_not (L := L) (i := 0) (j := 9) (by decide)]
        exact hS
      · -- operation 1
        refine wpOp_of_list ho (by cases ho; rfl) ?_
        cases ho
        obtain rfl := e0 (hd ⟨0, .data⟩ (by simp) rfl)
        have hc : u.cell? ⟨w.heap.size, 0, none⟩ = some (.string a) := (hS.bel.cell (p := ⟨w.heap.size, 0, none⟩) hl0).trans c0
        go_wp2_with fail
        refine ⟨by simp [hsz], fun h => (k8 ((h.set).resolve_left (by decide))).imp Dn.stay Dn.stay, fun h => (k9 ((h.set).resolve_left (by decide))).imp Dn.stay Dn.stay, _, _, _, _, _, _, _, _, rfl, fun _ => rfl, fun _ => rfl, fun h => e3 ((h.set).resolve_left (by decide)), fun h => e4 ((h.set).resolve_left (by decide)), A1, A2, n1, n2, l1, h1, l2, h2, ga, gb, ?_⟩
        simp only [dn_not (L := L) (i := 1) (j := 2) (by decide), dn_not (L := L) (i := 1) (j := 5) (by decide), dn_not (L := L) (i := 1) (j := 6) (by decide), dn_not (L := L) (i := 1) (j := 7) (by decide), dn_not (L := L) (i := 1) (j := 8) (by decide), dn_not (L := L) (i := 1) (j := 9) (by decide)]
        exact hS
      · -- operation 2
        refine wpOp_of_list ho (by cases ho; rfl) ?_
        cases ho
        obtain rfl := e1 (hd ⟨1, .data⟩ (by simp) rfl)
        have hn8 : ¬ Dn L 8 := fun h => Dn.not hi hL (k8 h).1
        go_wp2_with fail
        refine Calls.mono (HC1.out u (HG.out.below (HB0.out.trans (hS.bel.mono (by omega))))) ?_
        rintro e w1 ⟨A, ca, rfl, ho, hb⟩
        go_wp2_with fail
        refine ⟨by simp [hsz], fun h => (k8 ((h.set).resolve_left (by decide))).imp Dn.stay Dn.stay, fun h => (k9 ((h.set).resolve_left (by decide))).imp Dn.stay Dn.stay, _, _, _, _, _, _, _, _, rfl, fun h => e0 ((h.set).resolve_left (by decide)), fun _ => rfl, fun h => e3 ((h.set).resolve_left (by decide)), fun h => e4 ((h.set).resolve_left (by decide)), A, A2, ca, n2, u.heap.size, w1.heap.size, l2, h2, ga, gb, ?_⟩
        simp only [dn_not (L := L) (i := 2) (j := 5) (by decide), dn_not (L := L) (i := 2) (j := 6) (by decide), dn_not (L := L) (i := 2) (j := 7) (by decide), dn_not (L := L) (i := 2) (j := 8) (by decide), dn_not (L := L) (i := 2) (j := 9) (by decide), dn_yes (L := L) (i := 2) hi]
        exact hS.call1 hn8 hb ho
      · -- operation 3
        refine wpOp_of_list ho (by cases ho; rfl) ?_
        cases ho
        go_wp2_with fail
        refine ⟨by simp [hsz], fun h => (k8 ((h.set).resolve_left (by decide))).imp Dn.stay Dn.stay, fun h => (k9 ((h.set).resolve_left (by decide))).imp Dn.stay Dn.stay, _, _, _, _, _, _, _, _, rfl, fun h => e0 ((h.set).resolve_left (by decide)), fun h => e1 ((h.set).resolve_left (by decide)), fun _ => rfl, fun h => e4 ((h.set).resolve_left (by decide)), A1, A2, n1, n2, l1, h1, l2, h2, ga, gb, ?_⟩
        simp only [dn_not (L := L) (i := 3) (j := 2) (by decide), dn_not (L := L) (i := 3) (j := 5) (by decide), dn_not (L := L) (i := 3) (j := 6) (by decide), dn_not (L := L) (i := 3) (j := 7) (by decide), dn_not (L := L) (i := 3) (j := 8) (by decide), dn_not (L := L) (i := 3) (j := 9) (by decide)]
        exact hS
      · -- operation 4
        refine wpOp_of_list ho (by cases ho; rfl) ?_
        cases ho
        obtain rfl := e3 (hd ⟨3, .data⟩ (by simp) rfl)
        have hc : u.cell? ⟨w.heap.size, 1, none⟩ = some (.string b) := (hS.bel.cell (p := ⟨w.heap.size, 1, none⟩) hl0).trans c1
        go_wp2_with fail
        refine ⟨by simp [hsz], fun h => (k8 ((h.set).resolve_left (by decide))).imp Dn.stay Dn.stay, fun h => (k9 ((h.set).resolve_left (by decide))).imp Dn.stay Dn.stay, _, _, _, _, _, _, _, _, rfl, fun h => e0 ((h.set).resolve_left (by decide)), fun h => e1 ((h.set).resolve_left (by decide)), fun _ => rfl, fun _ => rfl, A1, A2, n1, n2, l1, h1, l2, h2, ga, gb, ?_⟩
        simp only [dn_not (L := L) (i := 4) (j := 2) (by decide), dn_not (L := L) (i := 4) (j := 5) (by decide), dn_not (L := L) (i := 4) (j := 6) (by decide), dn_not (L := L) (i := 4) (j := 7) (by decide), dn_not (L := L) (i := 4) (j := 8) (by decide), dn_not (L := L) (i := 4) (j := 9) (by decide)]
        exact hS
      · -- operation 5
        refine wpOp_of_list ho (by cases ho; rfl) ?_
        cases ho
        obtain rfl := e4 (hd ⟨4, .data⟩ (by simp) rfl)
        have hn9 : ¬ Dn L 9 := fun h => Dn.not hi hL (k9 h).1
        go_wp2_with fail
        refine Calls.mono (HC2.out u (HG.out.below (HB0.out.trans (hS.bel.mono (by omega))))) ?_
        rintro e w1 ⟨A, ca, rfl, ho, hb⟩
        go_wp2_with fail
        refine ⟨by simp [hsz], fun h => (k8 ((h.set).resolve_left (by decide))).imp Dn.stay Dn.stay, fun h => (k9 ((h.set).resolve_left (by decide))).imp Dn.stay Dn.stay, _, _, _, _, _, _, _, _, rfl, fun h => e0 ((h.set).resolve_left (by decide)), fun h => e1 ((h.set).resolve_left (by decide)), fun h => e3 ((h.set).resolve_left (by decide)), fun _ => rfl, A1, A, n1, ca, l1, h1, u.heap.size, w1.heap.size, ga, gb, ?_⟩
        simp only [dn_not (L := L) (i := 5) (j := 2) (by decide), dn_not (L := L) (i := 5) (j := 6) (by decide), dn_not (L := L) (i := 5) (j := 7) (by decide), dn_not (L := L) (i := 5) (j := 8) (by decide), dn_not (L := L) (i := 5) (j := 9) (by decide), dn_yes (L := L) (i := 5) hi]
        exact hS.call2 hn9 hb ho
      · -- operation 6
        refine wpOp_of_list ho (by cases ho; rfl) ?_
        cases ho
        have hn8 : ¬ Dn L 8 := fun h => Dn.not hi hL (k8 h).2
        go_wp2_with fail
        refine ⟨by simp [hsz], fun h => (k8 ((h.set).resolve_left (by decide))).imp Dn.stay Dn.stay, fun h => (k9 ((h.set).resolve_left (by decide))).imp Dn.stay Dn.stay, _, _, _, _, _, _, _, _, rfl, fun h => e0 ((h.set).resolve_left (by decide)), fun h => e1 ((h.set).resolve_left (by decide)), fun h => e3 ((h.set).resolve_left (by decide)), fun h => e4 ((h.set).resolve_left (by decide)), A1, A2, n1, n2, l1, h1, l2, h2, u.heap.size, gb, ?_⟩
        simp only [dn_not (L := L) (i := 6) (j := 2) (by decide), dn_not (L := L) (i := 6) (j := 5) (by decide), dn_not (L := L) (i := 6) (j := 7) (by decide), dn_not (L := L) (i := 6) (j := 8) (by decide), dn_not (L := L) (i := 6) (j := 9) (by decide), dn_yes (L := L) (i := 6) hi]
        exact hS.new4 hn8
      · -- operation 7
        refine wpOp_of_list ho (by cases ho; rfl) ?_
        cases ho
        have hn9 : ¬ Dn L 9 := fun h => Dn.not hi hL (k9 h).2
        go_wp2_with fail
        refine ⟨by simp [hsz], fun h => (k8 ((h.set).resolve_left (by decide))).imp Dn.stay Dn.stay, fun h => (k9 ((h.set).resolve_left (by decide))).imp Dn.stay Dn.stay, _, _, _, _, _, _, _, _, rfl, fun h => e0 ((h.set).resolve_left (by decide)), fun h => e1 ((h.set).resolve_left (by decide)), fun h => e3 ((h.set).resolve_left (by decide)), fun h => e4 ((h.set).resolve_left (by decide)), A1, A2, n1, n2, l1, h1, l2, h2, ga, u.heap.size, ?_⟩
        simp only [dn_not (L := L) (i := 7) (j := 2) (by decide), dn_not (L := L) (i := 7) (j := 5) (by decide), dn_not (L := L) (i := 7) (j := 6) (by decide), dn_not (L := L) (i := 7) (j := 8) (by decide), dn_not (L := L) (i := 7) (j := 9) (by decide), dn_yes (L := L) (i := 7) hi]
        exact hS.new5 hn9
      · -- operation 8
        refine wpOp_of_list ho (by cases ho; rfl) ?_
        cases ho
        have d6 : Dn L 6 := hd ⟨6, .data⟩ (by simp) rfl
        have d2 : Dn L 2 := hd ⟨2, .data⟩ (by simp) rfl
        obtain ⟨rfl, hga, -⟩ := hS.box4 d6
        obtain ⟨rfl, -, -, -⟩ := hS.ans1 d2
        have hn8 : ¬ Dn L 8 := Dn.not hi hL
        obtain ⟨p0, p1, p2, f0, f1, f2⟩ := blk3k (hS.z4 d6 hn8)
        go_wp2_with fail
        refine ⟨by simp [hsz], fun _ => ⟨d2.stay, d6.stay⟩, fun h => (k9 ((h.set).resolve_left (by decide))).imp Dn.stay Dn.stay, _, _, _, _, _, _, _, _, rfl, fun h => e0 ((h.set).resolve_left (by decide)), fun h => e1 ((h.set).resolve_left (by decide)), fun h => e3 ((h.set).resolve_left (by decide)), fun h => e4 ((h.set).resolve_left (by decide)), A1, A2, n1, n2, l1, h1, l2, h2, ga, gb, ?_⟩
        simp only [dn_not (L := L) (i := 8) (j := 2) (by decide), dn_not (L := L) (i := 8) (j := 5) (by decide), dn_not (L := L) (i := 8) (j := 6) (by decide), dn_not (L := L) (i := 8) (j := 7) (by decide), dn_not (L := L) (i := 8) (j := 9) (by decide), dn_yes (L := L) (i := 8) hi]
        exact hS.put4 d6 hn8
      · -- operation 9
        refine wpOp_of_list ho (by cases ho; rfl) ?_
        cases ho
        have d7 : Dn L 7 := hd ⟨7, .data⟩ (by simp) rfl
        have d5 : Dn L 5 := hd ⟨5, .data⟩ (by simp) rfl
        obtain ⟨rfl, hga, -⟩ := hS.box5 d7
        obtain ⟨rfl, -, -, -⟩ := hS.ans2 d5
        have hn9 : ¬ Dn L 9 := Dn.not hi hL
        obtain ⟨p0, p1, p2, f0, f1, f2⟩ := blk3k (hS.z5 d7 hn9)
        go_wp2_with fail
        refine ⟨by simp [hsz], fun h => (k8 ((h.set).resolve_left (by decide))).imp Dn.stay Dn.stay, fun _ => ⟨d5.stay, d7.stay⟩, _, _, _, _, _, _, _, _, rfl, fun h => e0 ((h.set).resolve_left (by decide)), fun h => e1 ((h.set).resolve_left (by decide)), fun h => e3 ((h.set).resolve_left (by decide)), fun h => e4 ((h.set).resolve_left (by decide)), A1, A2, n1, n2, l1, h1, l2, h2, ga, gb, ?_⟩
        simp only [dn_not (L := L) (i := 9) (j := 2) (by decide), dn_not (L := L) (i := 9) (j := 5) (by decide), dn_not (L := L) (i := 9) (j := 6) (by decide), dn_not (L := L) (i := 9) (j := 7) (by decide), dn_not (L := L) (i := 9) (j := 8) (by decide), dn_yes (L := L) (i := 9) hi]
        exact hS.put5 d7 hn9
    case rend =>
      intro L x u hI hr
      obtain ⟨hsz, -, -, s4, s5, s6, s7, s8, s9, s10, s11, rfl, -, -, -, -, A1, A2, n1, n2, l1, h1, l2, h2, ga, gb, hS⟩ := hI
      have d0 : Dn L 0 := ready_nil hr hsz (i := 0) rfl (by simp)
      have d1 : Dn L 1 := ready_nil hr hsz (i := 1) rfl (by simpa using d0)
      have d2 : Dn L 2 := ready_nil hr hsz (i := 2) rfl (by simpa using d1)
      have d3 : Dn L 3 := ready_nil hr hsz (i := 3) rfl (by simp)
      have d4 : Dn L 4 := ready_nil hr hsz (i := 4) rfl (by simpa using d3)
      have d5 : Dn L 5 := ready_nil hr hsz (i := 5) rfl (by simp; exact ⟨d4, d2⟩)
      have d6 : Dn L 6 := ready_nil hr hsz (i := 6) rfl (by simp)
      have d7 : Dn L 7 := ready_nil hr hsz (i := 7) rfl (by simp)
      have d8 : Dn L 8 := ready_nil hr hsz (i := 8) rfl (by simp [d0, d1, d2, d3, d4, d5, d6, d7])
      have d9 : Dn L 9 := ready_nil hr hsz (i := 9) rfl (by simp [d0, d1, d2, d3, d4, d5, d6, d7, d8])
      obtain ⟨rfl, -, -⟩ := hS.box4 d6
      obtain ⟨rfl, -, -⟩ := hS.box5 d7
      refine Met.intro (hK _ _ (Met.intro (hJ _ _ ?_)))
      repeat apply Exists.intro
      refine ⟨⟨A1, A2, n1, n2, l1, h1, l2, h2, ga, gb, rfl, rfl, ?_⟩, rfl⟩
      exact hS.all d2 d5 d6 d7 d8 d9
  case rest =>
    obtain ⟨A1, A2, n1, n2, l1, h1, l2, h2, ga, gb, rfl, rfl, hD⟩ := hcut
    obtain ⟨m1, hm1⟩ : ∃ m, m = (ckList a).length + n1 := ⟨_, rfl⟩
    obtain ⟨m2, hm2⟩ : ∃ m, m = (ckList b).length + n2 := ⟨_, rfl⟩
    rw [← hm1, ← hm2] at hD
    have HM1 := Lib.hid hm1; have HM2 := Lib.hid hm2
    clear hm1 hm2
    obtain ⟨r0, r1, r2, q0, q1, q2⟩ := blk3k (HKO.out.below hD.bel HKO.out.lt)
    obtain ⟨a0, a1, a2, -, -, -⟩ := blk3k hD.b1
    obtain ⟨b0, b1, b2, -, -, -⟩ := blk3k hD.b2
    have HD := Lib.hid hD
    have HBW : Hid (Below w.heap.size w wc) := HB0.out.trans (hD.bel.mono (by omega))
    have hg1 : ¬ ga = w.heap.size + 1 := by have := hD.g1; omega
    have hg2 : ¬ gb = w.heap.size + 1 := by have := hD.g2; omega
    have hg1' : ¬ w.heap.size + 1 = ga := by have := hD.g1; omega
    have hg2' : ¬ w.heap.size + 1 = gb := by have := hD.g2; omega
    clear hD c0 c1
    by_cases hle : ckRNum b ≤ ckRNum a
    · obtain ⟨e1, e2⟩ := ckTxt_a hle
      have HE1 := Lib.hid e1; have HE2 := Lib.hid e2
      clear e1 e2
      by_cases hC : ckCode a = 0
      · have hcb : (ckCode a == 0) = true := by simpa using hC
        go_wp2_with fail
        go_region
        all_goals (
        go_wp2
        refine bodyPost_ret (v := .tuple #[ckV (ckRNum a) A1 (ckList a).length m1 (ckCode a), .bool true]) (by simp [results, Tryz.results132, go_sem, r0, r1, r2, hC]) rfl ?_
        unfold RetBestC
        rw [HE1.out, HE2.out, decide_eq_true hC]
        exact ⟨A1, n1, by rw [HM1.out], (HD.out.o1.same fun k h1 h2 => set3_other _ _ _ (by have := HD.out.p1.1; omega)).mono (by have := HD.out.p1.1; omega) (by have := HD.out.p1.2; simp [World.setCell, World.drew]; omega), by first | exact (set3_bel HBW.out (by omega) _ _ _).drew | exact set3_bel HBW.out.drew (by omega) _ _ _ | exact set3_bel HBW.out (by omega) _ _ _⟩)
      · have hcb : (ckCode a == 0) = false := by simpa using hC
        go_wp2_with fail
        go_region
        all_goals (
        go_wp2
        refine bodyPost_ret (v := .tuple #[ckV (ckRNum a) A1 (ckList a).length m1 (ckCode a), .bool false]) (by simp [results, Tryz.results132, go_sem, r0, r1, r2]) rfl ?_
        unfold RetBestC
        rw [HE1.out, HE2.out, decide_eq_false hC]
        exact ⟨A1, n1, by rw [HM1.out], (HD.out.o1.same fun k h1 h2 => set3_other _ _ _ (by have := HD.out.p1.1; omega)).mono (by have := HD.out.p1.1; omega) (by have := HD.out.p1.2; simp [World.setCell, World.drew]; omega), by first | exact (set3_bel HBW.out (by omega) _ _ _).drew | exact set3_bel HBW.out.drew (by omega) _ _ _ | exact set3_bel HBW.out (by omega) _ _ _⟩)
    · obtain ⟨e1, e2, hC⟩ := ckTxt_b hle
      have HE1 := Lib.hid e1; have HE2 := Lib.hid e2
      clear e1 e2
      have hle' : ckRNum a < ckRNum b := by omega
      · go_wp2
        refine bodyPost_ret (v := .tuple #[ckV (ckRNum b) A2 (ckList b).length m2 (ckCode b), .bool false]) (by simp [results, Tryz.results132, go_sem, r0, r1, r2, hC]) rfl ?_
        unfold RetBestC
        rw [HE1.out, HE2.out]
        exact ⟨A2, n2, by rw [HM2.out], (HD.out.o2.same fun k h1 h2 => set3_other _ _ _ (by have := HD.out.p2.1; omega)).mono (by have := HD.out.p2.1; omega) (by have := HD.out.p2.2; simp [World.setCell]; omega), by first | exact (set3_bel HBW.out (by omega) _ _ _).drew | exact set3_bel HBW.out.drew (by omega) _ _ _ | exact set3_bel HBW.out (by omega) _ _ _⟩

theorem bestOf_any (a b : ByteArray) (w : World) (ha : a.size ≤ maxLen) (hb : b.size ≤ maxLen) (hg : ErrType w) :
    Calls Tryz.prog 132 #[slotsV a b] w (RetBest a b w) :=
  (bestOf_anyC a b w ha hb hg).mono fun _ _ ⟨A, _, he, ho, hb⟩ => ⟨A, _, he, ho, hb⟩
end Go.Proofs.YtloaeglmngcenaaGreatDoor

namespace Go.Proofs.YtloaeglmngcenaaGreatDoor
open Go.RowKit
open Bt (Rc)

/-- how far the region has come -/
def BtInvS (Fr : Value → Value → Value → Value → Value → Value → Value → Value → Act) (w W : World) (a b : ByteArray) (L : Array Bool) (x : Act) (u : World) : Prop :=
  L.size = 10 ∧ (Dn L 8 → Dn L 2 ∧ Dn L 6) ∧ (Dn L 9 → Dn L 5 ∧ Dn L 7) ∧ ∃ s4 s5 s6 s7 s8 s9 s10 s11, x = Fr s4 s5 s6 s7 s8 s9 s10 s11 ∧
    (Dn L 0 → s6 = .pointer (some ⟨w.heap.size, 0, none⟩)) ∧ (Dn L 1 → s7 = .string a) ∧ (Dn L 3 → s9 = .pointer (some ⟨w.heap.size, 1, none⟩)) ∧ (Dn L 4 → s10 = .string b) ∧
    ∃ A1 A2 n1 n2 l1 h1 l2 h2 ga gb, BsI W u (Dn L 2) (Dn L 5) (Dn L 6) (Dn L 7) (Dn L 8) (Dn L 9) a b s8 s11 s4 s5 A1 A2 n1 n2 l1 h1 l2 h2 ga gb
/-- the better of two right slots, as CkptBest answers it, and whether it is A's -/
def RetBestS (a b : ByteArray) (w : World) (e : Ending) (w' : World) : Prop :=
  ∃ (A : Option Addr) (c : Nat), e = .returned (.tuple #[ckV (cbNum a b) A (cbList a b).length c (cbCode a b), .bool (ckSel a b)]) ∧ OwRc w' w.heap.size w'.heap.size A (cbList a b).length (cbList a b) ∧ Below w.heap.size w w'

set_option maxHeartbeats 8000000 in
set_option maxRecDepth 100000 in
theorem l12Best_any (a b : ByteArray) (w : World) (ha : a.size ≤ maxLen) (hb : b.size ≤ maxLen) (hs : slotB a b = true) :
    Calls Tryz.prog 125 #[slotsV a b] w (RetBestS a b w) := by
  have HSL := Lib.hid hs; clear hs
  have HC1 := Lib.hid (fun W (_ : True) => spec_ckptRead a W ha)
  have HC2 := Lib.hid (fun W (_ : True) => spec_ckptRead b W hb)
  go_enter Tryz.func125, Tryz.ntmps125
  go_wp2_with fail
  have hb0 : Below w.heap.size w ((w.alloc (.cells #[.string a, .string b] 88)).alloc (.cells #[.int .i64 0, .slice none 0 0, .int .i64 0] 175)) := ((Below.refl _ _).alloc (Nat.le_refl _) _).alloc (by simp) _
  have ks := (isBlk_new w 88 [.string a, .string b]).alloc (.cells #[.int .i64 0, .slice none 0 0, .int .i64 0] 175)
  have ko := isBlk_new (w.alloc (.cells #[.string a, .string b] 88)) 175 [.int .i64 0, .slice none 0 0, .int .i64 0]
  rw [size_alloc] at ko
  change IsBlk ((w.alloc (.cells #[.string a, .string b] 88)).alloc (.cells #[.int .i64 0, .slice none 0 0, .int .i64 0] 175)) _ _ _ at ks ko
  have hz : ((w.alloc (.cells #[.string a, .string b] 88)).alloc (.cells #[.int .i64 0, .slice none 0 0, .int .i64 0] 175)).heap.size = w.heap.size + 2 := by simp
  generalize (w.alloc (.cells #[.string a, .string b] 88)).alloc (.cells #[.int .i64 0, .slice none 0 0, .int .i64 0] 175) = W at hb0 ks ko hz ⊢
  have c0 : W.cell? ⟨w.heap.size, 0, none⟩ = some (.string a) := ks.cell rfl
  have c1 : W.cell? ⟨w.heap.size, 1, none⟩ = some (.string b) := ks.cell rfl
  have hl0 := ks.lt
  have HB0 := Lib.hid hb0; have HKO := Lib.hid ko
  clear hb0 ks ko
  go_cut [4, 5] (fun v4 v5 u => ∃ A1 A2 n1 n2 l1 h1 l2 h2 ga gb, v4 = .pointer (some ⟨ga, 0, none⟩) ∧ v5 = .pointer (some ⟨gb, 0, none⟩) ∧ BsD W u a b A1 A2 n1 n2 l1 h1 l2 h2 ga gb)
  case first =>
    rename_i J K hJ hK
    refine wp_region_any (by kernel_rfl) (wpAny_inv (BtInvS (fun s4 s5 s6 s7 s8 s9 s10 s11 => { tmps := #[slotsV a b, .pointer (some ⟨w.heap.size, 0, none⟩), .pointer (some ⟨w.heap.size + 1, 0, none⟩), .bool false, s4, s5, s6, s7, s8, s9, s10, s11, undef, undef, undef, undef, undef, undef, undef, undef, undef, undef, undef, undef, undef, undef, undef, undef, undef, undef, undef, undef, undef, undef, undef], defers := [] }) w W a b) ?sz ?step ?rend _ _ _ _ (by decide) ?start)
    case sz => intro L x u h; exact h.1
    case start =>
      refine ⟨by simp, fun h => ?_, fun h => ?_, _, _, _, _, _, _, _, _, rfl, fun h => ?_, fun h => ?_, fun h => ?_, fun h => ?_, none, none, 0, 0, 0, 0, 0, 0, 0, 0, ?_⟩
      rotate_right
      · simp only [dn_zero]
        exact BsI.start (Below.refl _ W).drew a b _ _ _ _
      all_goals (simp only [dn_zero] at h)
    case step =>
      intro L x u hI i o ho hi hL hd
      obtain ⟨hsz, k8, k9, s4, s5, s6, s7, s8, s9, s10, s11, rfl, e0, e1, e3, e4, A1, A2, n1, n2, l1, h1, l2, h2, ga, gb, hS⟩ := hI
      have hcase : i = 0 ∨ i = 1 ∨ i = 2 ∨ i = 3 ∨ i = 4 ∨ i = 5 ∨ i = 6 ∨ i = 7 ∨ i = 8 ∨ i = 9 := by omega
      rcases hcase with rfl | rfl | rfl | rfl | rfl | rfl | rfl | rfl | rfl | rfl
      · -- operation 0
        refine wpOp_of_list ho (by cases ho; rfl) ?_
        cases ho
        go_wp2_with fail
        refine ⟨by simp [hsz], fun h => (k8 ((h.set).resolve_left (by decide))).imp Dn.stay Dn.stay, fun h => (k9 ((h.set).resolve_left (by decide))).imp Dn.stay Dn.stay, _, _, _, _, _, _, _, _, rfl, fun _ => rfl, fun h => e1 ((h.set).resolve_left (by decide)), fun h => e3 ((h.set).resolve_left (by decide)), fun h => e4 ((h.set).resolve_left (by decide)), A1, A2, n1, n2, l1, h1, l2, h2, ga, gb, ?_⟩
        simp only [dn_not (L := L) (i := 0) (j := 2) (by decide), dn_not (L := L) (i := 0) (j := 5) (by decide), dn_not (L := L) (i := 0) (j := 6) (by decide), dn_not (L := L) (i := 0) (j := 7) (by decide), dn_not (L := L) (i := 0) (j := 8) (by decide), dn_not (L := L) (i := 0) (j := 9) (by decide)]
        exact hS
      · -- operation 1
        refine wpOp_of_list ho (by cases ho; rfl) ?_
        cases ho
        obtain rfl := e0 (hd ⟨0, .data⟩ (by simp) rfl)
        have hc : u.cell? ⟨w.heap.size, 0, none⟩ = some (.string a) := (hS.bel.cell (p := ⟨w.heap.size, 0, none⟩) hl0).trans c0
        go_wp2_with fail
        refine ⟨by simp [hsz], fun h => (k8 ((h.set).resolve_left (by decide))).imp Dn.stay Dn.stay, fun h => (k9 ((h.set).resolve_left (by decide))).imp Dn.stay Dn.stay, _, _, _, _, _, _, _, _, rfl, fun _ => rfl, fun _ => rfl, fun h => e3 ((h.set).resolve_left (by decide)), fun h => e4 ((h.set).resolve_left (by decide)), A1, A2, n1, n2, l1, h1, l2, h2, ga, gb, ?_⟩
        simp only [dn_not (L := L) (i := 1) (j := 2) (by decide), dn_not (L := L) (i := 1) (j := 5) (by decide), dn_not (L := L) (i := 1) (j := 6) (by decide), dn_not (L := L) (i := 1) (j := 7) (by decide), dn_not (L := L) (i := 1) (j := 8) (by decide), dn_not (L := L) (i := 1) (j := 9) (by decide)]
        exact hS
      · -- operation 2
        refine wpOp_of_list ho (by cases ho; rfl) ?_
        cases ho
        obtain rfl := e1 (hd ⟨1, .data⟩ (by simp) rfl)
        have hn8 : ¬ Dn L 8 := fun h => Dn.not hi hL (k8 h).1
        go_wp2_with fail
        refine Calls.mono (HC1.out u (trivial)) ?_
        rintro e w1 ⟨A, ca, rfl, ho, hb⟩
        go_wp2_with fail
        refine ⟨by simp [hsz], fun h => (k8 ((h.set).resolve_left (by decide))).imp Dn.stay Dn.stay, fun h => (k9 ((h.set).resolve_left (by decide))).imp Dn.stay Dn.stay, _, _, _, _, _, _, _, _, rfl, fun h => e0 ((h.set).resolve_left (by decide)), fun _ => rfl, fun h => e3 ((h.set).resolve_left (by decide)), fun h => e4 ((h.set).resolve_left (by decide)), A, A2, ca, n2, u.heap.size, w1.heap.size, l2, h2, ga, gb, ?_⟩
        simp only [dn_not (L := L) (i := 2) (j := 5) (by decide), dn_not (L := L) (i := 2) (j := 6) (by decide), dn_not (L := L) (i := 2) (j := 7) (by decide), dn_not (L := L) (i := 2) (j := 8) (by decide), dn_not (L := L) (i := 2) (j := 9) (by decide), dn_yes (L := L) (i := 2) hi]
        exact hS.call1 hn8 hb ho
      · -- operation 3
        refine wpOp_of_list ho (by cases ho; rfl) ?_
        cases ho
        go_wp2_with fail
        refine ⟨by simp [hsz], fun h => (k8 ((h.set).resolve_left (by decide))).imp Dn.stay Dn.stay, fun h => (k9 ((h.set).resolve_left (by decide))).imp Dn.stay Dn.stay, _, _, _, _, _, _, _, _, rfl, fun h => e0 ((h.set).resolve_left (by decide)), fun h => e1 ((h.set).resolve_left (by decide)), fun _ => rfl, fun h => e4 ((h.set).resolve_left (by decide)), A1, A2, n1, n2, l1, h1, l2, h2, ga, gb, ?_⟩
        simp only [dn_not (L := L) (i := 3) (j := 2) (by decide), dn_not (L := L) (i := 3) (j := 5) (by decide), dn_not (L := L) (i := 3) (j := 6) (by decide), dn_not (L := L) (i := 3) (j := 7) (by decide), dn_not (L := L) (i := 3) (j := 8) (by decide), dn_not (L := L) (i := 3) (j := 9) (by decide)]
        exact hS
      · -- operation 4
        refine wpOp_of_list ho (by cases ho; rfl) ?_
        cases ho
        obtain rfl := e3 (hd ⟨3, .data⟩ (by simp) rfl)
        have hc : u.cell? ⟨w.heap.size, 1, none⟩ = some (.string b) := (hS.bel.cell (p := ⟨w.heap.size, 1, none⟩) hl0).trans c1
        go_wp2_with fail
        refine ⟨by simp [hsz], fun h => (k8 ((h.set).resolve_left (by decide))).imp Dn.stay Dn.stay, fun h => (k9 ((h.set).resolve_left (by decide))).imp Dn.stay Dn.stay, _, _, _, _, _, _, _, _, rfl, fun h => e0 ((h.set).resolve_left (by decide)), fun h => e1 ((h.set).resolve_left (by decide)), fun _ => rfl, fun _ => rfl, A1, A2, n1, n2, l1, h1, l2, h2, ga, gb, ?_⟩
        simp only [dn_not (L := L) (i := 4) (j := 2) (by decide), dn_not (L := L) (i := 4) (j := 5) (by decide), dn_not (L := L) (i := 4) (j := 6) (by decide), dn_not (L := L) (i := 4) (j := 7) (by decide), dn_not (L := L) (i := 4) (j := 8) (by decide), dn_not (L := L) (i := 4) (j := 9) (by decide)]
        exact hS
      · -- operation 5
        refine wpOp_of_list ho (by cases ho; rfl) ?_
        cases ho
        obtain rfl := e4 (hd ⟨4, .data⟩ (by simp) rfl)
        have hn9 : ¬ Dn L 9 := fun h => Dn.not hi hL (k9 h).1
        go_wp2_with fail
        refine Calls.mono (HC2.out u (trivial)) ?_
        rintro e w1 ⟨A, ca, rfl, ho, hb⟩
        go_wp2_with fail
        refine ⟨by simp [hsz], fun h => (k8 ((h.set).resolve_left (by decide))).imp Dn.stay Dn.stay, fun h => (k9 ((h.set).resolve_left (by decide))).imp Dn.stay Dn.stay, _, _, _, _, _, _, _, _, rfl, fun h => e0 ((h.set).resolve_left (by decide)), fun h => e1 ((h.set).resolve_left (by decide)), fun h => e3 ((h.set).resolve_left (by decide)), fun _ => rfl, A1, A, n1, ca, l1, h1, u.heap.size, w1.heap.size, ga, gb, ?_⟩
        simp only [dn_not (L := L) (i := 5) (j := 2) (by decide), dn_not (L := L) (i := 5) (j := 6) (by decide), dn_not (L := L) (i := 5) (j := 7) (by decide), dn_not (L := L) (i := 5) (j := 8) (by decide), dn_not (L := L) (i := 5) (j := 9) (by decide), dn_yes (L := L) (i := 5) hi]
        exact hS.call2 hn9 hb ho
      · -- operation 6
        refine wpOp_of_list ho (by cases ho; rfl) ?_
        cases ho
        have hn8 : ¬ Dn L 8 := fun h => Dn.not hi hL (k8 h).2
        go_wp2_with fail
        refine ⟨by simp [hsz], fun h => (k8 ((h.set).resolve_left (by decide))).imp Dn.stay Dn.stay, fun h => (k9 ((h.set).resolve_left (by decide))).imp Dn.stay Dn.stay, _, _, _, _, _, _, _, _, rfl, fun h => e0 ((h.set).resolve_left (by decide)), fun h => e1 ((h.set).resolve_left (by decide)), fun h => e3 ((h.set).resolve_left (by decide)), fun h => e4 ((h.set).resolve_left (by decide)), A1, A2, n1, n2, l1, h1, l2, h2, u.heap.size, gb, ?_⟩
        simp only [dn_not (L := L) (i := 6) (j := 2) (by decide), dn_not (L := L) (i := 6) (j := 5) (by decide), dn_not (L := L) (i := 6) (j := 7) (by decide), dn_not (L := L) (i := 6) (j := 8) (by decide), dn_not (L := L) (i := 6) (j := 9) (by decide), dn_yes (L := L) (i := 6) hi]
        exact hS.new4 hn8
      · -- operation 7
        refine wpOp_of_list ho (by cases ho; rfl) ?_
        cases ho
        have hn9 : ¬ Dn L 9 := fun h => Dn.not hi hL (k9 h).2
        go_wp2_with fail
        refine ⟨by simp [hsz], fun h => (k8 ((h.set).resolve_left (by decide))).imp Dn.stay Dn.stay, fun h => (k9 ((h.set).resolve_left (by decide))).imp Dn.stay Dn.stay, _, _, _, _, _, _, _, _, rfl, fun h => e0 ((h.set).resolve_left (by decide)), fun h => e1 ((h.set).resolve_left (by decide)), fun h => e3 ((h.set).resolve_left (by decide)), fun h => e4 ((h.set).resolve_left (by decide)), A1, A2, n1, n2, l1, h1, l2, h2, ga, u.heap.size, ?_⟩
        simp only [dn_not (L := L) (i := 7) (j := 2) (by decide), dn_not (L := L) (i := 7) (j := 5) (by decide), dn_not (L := L) (i := 7) (j := 6) (by decide), dn_not (L := L) (i := 7) (j := 8) (by decide), dn_not (L := L) (i := 7) (j := 9) (by decide), dn_yes (L := L) (i := 7) hi]
        exact hS.new5 hn9
      · -- operation 8
        refine wpOp_of_list ho (by cases ho; rfl) ?_
        cases ho
        have d6 : Dn L 6 := hd ⟨6, .data⟩ (by simp) rfl
        have d2 : Dn L 2 := hd ⟨2, .data⟩ (by simp) rfl
        obtain ⟨rfl, hga, -⟩ := hS.box4 d6
        obtain ⟨rfl, -, -, -⟩ := hS.ans1 d2
        have hn8 : ¬ Dn L 8 := Dn.not hi hL
        obtain ⟨p0, p1, p2, f0, f1, f2⟩ := blk3k (hS.z4 d6 hn8)
        go_wp2_with fail
        refine ⟨by simp [hsz], fun _ => ⟨d2.stay, d6.stay⟩, fun h => (k9 ((h.set).resolve_left (by decide))).imp Dn.stay Dn.stay, _, _, _, _, _, _, _, _, rfl, fun h => e0 ((h.set).resolve_left (by decide)), fun h => e1 ((h.set).resolve_left (by decide)), fun h => e3 ((h.set).resolve_left (by decide)), fun h => e4 ((h.set).resolve_left (by decide)), A1, A2, n1, n2, l1, h1, l2, h2, ga, gb, ?_⟩
        simp only [dn_not (L := L) (i := 8) (j := 2) (by decide), dn_not (L := L) (i := 8) (j := 5) (by decide), dn_not (L := L) (i := 8) (j := 6) (by decide), dn_not (L := L) (i := 8) (j := 7) (by decide), dn_not (L := L) (i := 8) (j := 9) (by decide), dn_yes (L := L) (i := 8) hi]
        exact hS.put4 d6 hn8
      · -- operation 9
        refine wpOp_of_list ho (by cases ho; rfl) ?_
        cases ho
        have d7 : Dn L 7 := hd ⟨7, .data⟩ (by simp) rfl
        have d5 : Dn L 5 := hd ⟨5, .data⟩ (by simp) rfl
        obtain ⟨rfl, hga, -⟩ := hS.box5 d7
        obtain ⟨rfl, -, -, -⟩ := hS.ans2 d5
        have hn9 : ¬ Dn L 9 := Dn.not hi hL
        obtain ⟨p0, p1, p2, f0, f1, f2⟩ := blk3k (hS.z5 d7 hn9)
        go_wp2_with fail
        refine ⟨by simp [hsz], fun h => (k8 ((h.set).resolve_left (by decide))).imp Dn.stay Dn.stay, fun _ => ⟨d5.stay, d7.stay⟩, _, _, _, _, _, _, _, _, rfl, fun h => e0 ((h.set).resolve_left (by decide)), fun h => e1 ((h.set).resolve_left (by decide)), fun h => e3 ((h.set).resolve_left (by decide)), fun h => e4 ((h.set).resolve_left (by decide)), A1, A2, n1, n2, l1, h1, l2, h2, ga, gb, ?_⟩
        simp only [dn_not (L := L) (i := 9) (j := 2) (by decide), dn_not (L := L) (i := 9) (j := 5) (by decide), dn_not (L := L) (i := 9) (j := 6) (by decide), dn_not (L := L) (i := 9) (j := 7) (by decide), dn_not (L := L) (i := 9) (j := 8) (by decide), dn_yes (L := L) (i := 9) hi]
        exact hS.put5 d7 hn9
    case rend =>
      intro L x u hI hr
      obtain ⟨hsz, -, -, s4, s5, s6, s7, s8, s9, s10, s11, rfl, -, -, -, -, A1, A2, n1, n2, l1, h1, l2, h2, ga, gb, hS⟩ := hI
      have d0 : Dn L 0 := ready_nil hr hsz (i := 0) rfl (by simp)
      have d1 : Dn L 1 := ready_nil hr hsz (i := 1) rfl (by simpa using d0)
      have d2 : Dn L 2 := ready_nil hr hsz (i := 2) rfl (by simpa using d1)
      have d3 : Dn L 3 := ready_nil hr hsz (i := 3) rfl (by simp)
      have d4 : Dn L 4 := ready_nil hr hsz (i := 4) rfl (by simpa using d3)
      have d5 : Dn L 5 := ready_nil hr hsz (i := 5) rfl (by simp; exact ⟨d4, d2⟩)
      have d6 : Dn L 6 := ready_nil hr hsz (i := 6) rfl (by simp)
      have d7 : Dn L 7 := ready_nil hr hsz (i := 7) rfl (by simp)
      have d8 : Dn L 8 := ready_nil hr hsz (i := 8) rfl (by simp [d0, d1, d2, d3, d4, d5, d6, d7])
      have d9 : Dn L 9 := ready_nil hr hsz (i := 9) rfl (by simp [d0, d1, d2, d3, d4, d5, d6, d7, d8])
      obtain ⟨rfl, -, -⟩ := hS.box4 d6
      obtain ⟨rfl, -, -⟩ := hS.box5 d7
      refine Met.intro (hK _ _ (Met.intro (hJ _ _ ?_)))
      repeat apply Exists.intro
      refine ⟨⟨A1, A2, n1, n2, l1, h1, l2, h2, ga, gb, rfl, rfl, ?_⟩, rfl⟩
      exact hS.all d2 d5 d6 d7 d8 d9
  case rest =>
    obtain ⟨A1, A2, n1, n2, l1, h1, l2, h2, ga, gb, rfl, rfl, hD⟩ := hcut
    obtain ⟨r0, r1, r2, q0, q1, q2⟩ := blk3k (HKO.out.below hD.bel HKO.out.lt)
    obtain ⟨a0, a1, a2, -, -, -⟩ := blk3k hD.b1
    obtain ⟨b0, b1, b2, -, -, -⟩ := blk3k hD.b2
    have HD := Lib.hid hD
    have HBW : Hid (Below w.heap.size w wc) := HB0.out.trans (hD.bel.mono (by omega))
    have hg1 : ¬ ga = w.heap.size + 1 := by have := hD.g1; omega
    have hg2 : ¬ gb = w.heap.size + 1 := by have := hD.g2; omega
    have hg1' : ¬ w.heap.size + 1 = ga := by have := hD.g1; omega
    have hg2' : ¬ w.heap.size + 1 = gb := by have := hD.g2; omega
    clear hD c0 c1
    by_cases hA : ckCode a = 0
    · by_cases hB : ckCode b = 0
      · by_cases hle : ckRNum b ≤ ckRNum a
        · skip
          have HF : Hid (ckTxt a b = a ∧ ckSel a b = true) := ckPick_a hA (.inr hle)
          have HCB : Hid (cbCode a b = 0 ∧ cbNum a b = ckRNum a ∧ cbList a b = ckList a) := by have h := cb_ok HSL.out (by rw [HF.out.1]; assumption); rw [HF.out.1] at h; exact h
          have qa : (ckCode a == 0) = true := by simpa using hA
          have qb : (ckCode b == 0) = true := by simpa using hB
          have qb' : (ckCode b != 0) = false := by simpa using hB
          go_wp2
          refine bodyPost_ret (v := .tuple #[ckV (ckRNum a) A1 (ckList a).length n1 0, .bool true]) (by simp [results, Tryz.results125, go_sem, r0, r1, r2]) rfl ?_
          unfold RetBestS
          rw [HCB.out.1, HCB.out.2.1, HCB.out.2.2, HF.out.2]
          exact ⟨A1, n1, rfl, (HD.out.o1.same fun k h1 h2 => set3_other _ _ _ (by have := HD.out.p1.1; omega)).mono (by have := HD.out.p1.1; omega) (by have := HD.out.p1.2; simp [World.setCell]; omega), set3_bel HBW.out (by omega) _ _ _⟩
        · skip
          have HF : Hid (ckTxt a b = b ∧ ckSel a b = false) := ckPick_b (fun h => h.2.elim (fun h' => h' hB) hle) hB
          have HCB : Hid (cbCode a b = 0 ∧ cbNum a b = ckRNum b ∧ cbList a b = ckList b) := by have h := cb_ok HSL.out (by rw [HF.out.1]; assumption); rw [HF.out.1] at h; exact h
          have qa : (ckCode a == 0) = true := by simpa using hA
          have qb : (ckCode b == 0) = true := by simpa using hB
          have qb' : (ckCode b != 0) = false := by simpa using hB
          have hle' : ckRNum a < ckRNum b := by omega
          go_wp2
          refine bodyPost_ret (v := .tuple #[ckV (ckRNum b) A2 (ckList b).length n2 0, .bool false]) (by simp [results, Tryz.results125, go_sem, r0, r1, r2]) rfl ?_
          unfold RetBestS
          rw [HCB.out.1, HCB.out.2.1, HCB.out.2.2, HF.out.2]
          exact ⟨A2, n2, rfl, (HD.out.o2.same fun k h1 h2 => set3_other _ _ _ (by have := HD.out.p2.1; omega)).mono (by have := HD.out.p2.1; omega) (by have := HD.out.p2.2; simp [World.setCell]; omega), set3_bel HBW.out (by omega) _ _ _⟩
      · skip
        have HF : Hid (ckTxt a b = a ∧ ckSel a b = true) := ckPick_a hA (.inl hB)
        have HCB : Hid (cbCode a b = 0 ∧ cbNum a b = ckRNum a ∧ cbList a b = ckList a) := by have h := cb_ok HSL.out (by rw [HF.out.1]; assumption); rw [HF.out.1] at h; exact h
        have qa : (ckCode a == 0) = true := by simpa using hA
        have qb : (ckCode b == 0) = false := by simpa using hB
        have qb' : (ckCode b != 0) = true := by simpa using hB
        go_wp2
        refine bodyPost_ret (v := .tuple #[ckV (ckRNum a) A1 (ckList a).length n1 0, .bool true]) (by simp [results, Tryz.results125, go_sem, r0, r1, r2]) rfl ?_
        unfold RetBestS
        rw [HCB.out.1, HCB.out.2.1, HCB.out.2.2, HF.out.2]
        exact ⟨A1, n1, rfl, (HD.out.o1.same fun k h1 h2 => set3_other _ _ _ (by have := HD.out.p1.1; omega)).mono (by have := HD.out.p1.1; omega) (by have := HD.out.p1.2; simp [World.setCell]; omega), set3_bel HBW.out (by omega) _ _ _⟩
    · by_cases hB : ckCode b = 0
      · skip
        have HF : Hid (ckTxt a b = b ∧ ckSel a b = false) := ckPick_b (fun h => hA h.1) hB
        have HCB : Hid (cbCode a b = 0 ∧ cbNum a b = ckRNum b ∧ cbList a b = ckList b) := by have h := cb_ok HSL.out (by rw [HF.out.1]; assumption); rw [HF.out.1] at h; exact h
        have qa : (ckCode a == 0) = false := by simpa using hA
        have qb : (ckCode b == 0) = true := by simpa using hB
        have qb' : (ckCode b != 0) = false := by simpa using hB
        go_wp2
        refine bodyPost_ret (v := .tuple #[ckV (ckRNum b) A2 (ckList b).length n2 0, .bool false]) (by simp [results, Tryz.results125, go_sem, r0, r1, r2]) rfl ?_
        unfold RetBestS
        rw [HCB.out.1, HCB.out.2.1, HCB.out.2.2, HF.out.2]
        exact ⟨A2, n2, rfl, (HD.out.o2.same fun k h1 h2 => set3_other _ _ _ (by have := HD.out.p2.1; omega)).mono (by have := HD.out.p2.1; omega) (by have := HD.out.p2.2; simp [World.setCell]; omega), set3_bel HBW.out (by omega) _ _ _⟩
      · skip
        have HF : Hid (ckCode (ckTxt a b) ≠ 0 ∧ ckSel a b = false) := ckPick_no (fun h => hA h.1) hB
        have HCB : Hid (cbCode a b = 6 ∧ cbNum a b = 0 ∧ cbList a b = []) := cb_none HSL.out HF.out.1
        have qa : (ckCode a == 0) = false := by simpa using hA
        have qb : (ckCode b == 0) = false := by simpa using hB
        have qb' : (ckCode b != 0) = true := by simpa using hB
        go_wp2
        refine bodyPost_ret (v := .tuple #[ckV 0 none 0 0 6, .bool false]) (by simp [results, Tryz.results125, go_sem, r0, r1, r2]) rfl ?_
        unfold RetBestS
        rw [HCB.out.1, HCB.out.2.1, HCB.out.2.2, HF.out.2]
        exact ⟨none, 0, rfl, ow_nilR _ _ _ _, set3_bel HBW.out (by omega) _ _ _⟩

end Go.Proofs.YtloaeglmngcenaaGreatDoor

namespace Go.Proofs.YtloaeglmngcenaaGreatDoor
open Go.RowKit
open Bt (Rc)

theorem bel_thru {w u v : World} (h : Below w.heap.size w u) (hb : Below u.heap.size u v) : Below w.heap.size w v := h.trans (hb.mono h.size)
theorem ret_ckNil {w w' : World} {num code c : Int} {Y : List Rc} (h1 : code = c) (h2 : num = 0) (h3 : Y = []) (hb : Below w.heap.size w w') : RetCk w num Y code (.returned (ckV 0 none 0 0 c)) w' := by
  subst h1 h2 h3; exact ⟨none, 0, rfl, ow_nilR _ _ _ _, hb⟩
theorem ret_ckNilC {w w' : World} {num code c : Int} {Y : List Rc} (h1 : code = c) (h2 : num = 0) (h3 : Y = []) (hb : Below w.heap.size w w') : RetCkC w num Y code (.returned (ckV 0 none 0 0 c)) w' := by
  subst h1 h2 h3; exact ⟨none, 0, rfl, ow_nilR _ _ _ _, hb⟩
theorem box_belK (w : World) (o : Obj) : Below w.heap.size w (w.alloc o) := (Below.refl _ _).alloc (Nat.le_refl _) _
theorem slots_boxes (w : World) (a b : ByteArray) : ∃ W, W = (w.alloc (.cells #[.string a, .string b] 88)).alloc (.cells #[.int .i64 0, .slice none 0 0, .int .i64 0] 175) ∧ Below w.heap.size w W ∧ IsBlk W w.heap.size 88 [.string a, .string b] ∧ IsBlk W (w.heap.size + 1) 175 zK ∧ W.heap.size = w.heap.size + 2 := by
  have ks := (isBlk_new w 88 [.string a, .string b]).alloc (.cells #[.int .i64 0, .slice none 0 0, .int .i64 0] 175)
  have ko := isBlk_new (w.alloc (.cells #[.string a, .string b] 88)) 175 [.int .i64 0, .slice none 0 0, .int .i64 0]
  rw [size_alloc] at ko
  exact ⟨_, rfl, ((Below.refl _ _).alloc (Nat.le_refl _) _).alloc (by simp) _, ks, ko, by simp⟩

set_option maxHeartbeats 4000000 in
set_option maxRecDepth 100000 in
theorem impl_ckptBestC (a b : ByteArray) (w : World) (ha : a.size ≤ maxLen) (hb : b.size ≤ maxLen) (hg : ErrType w) :
    Calls Tryz.prog 140 #[slotsV a b] w (RetCkC w (cbNum a b) (cbList a b) (cbCode a b)) := by
  have HG := Lib.hid hg; clear hg
  obtain ⟨W, hW, hb0, ks, ko, hz⟩ := slots_boxes w a b
  go_enter Tryz.func140, Tryz.ntmps140
  go_wp2_with fail
  rw [← hW]
  clear hW
  refine (impl_slotsRight a b W ha hb).mono ?_
  rintro e w1 ⟨rfl, hb1⟩
  have HB1 := Lib.hid (bel_thru hb0 hb1)
  have HKS := Lib.hid (ks.below hb1 ks.lt); have HKO := Lib.hid (ko.below hb1 ko.lt)
  have hz1 := hb1.size
  clear hb0 hb1 ks ko
  have c0 : w1.cell? ⟨w.heap.size, 0, none⟩ = some (.string a) := HKS.out.cell rfl
  have c1 : w1.cell? ⟨w.heap.size, 1, none⟩ = some (.string b) := HKS.out.cell rfl
  cases hs : slotB a b with
  | false =>
    have HC := Lib.hid (cb_form hs)
    obtain ⟨r0, r1, r2, q0, q1, q2⟩ := blk3k HKO.out
    go_wp2
    refine bodyPost_ret (v := ckV 0 none 0 0 1) (by simp [results, Tryz.results140, go_sem, r0, r1, r2]) rfl ?_
    exact ret_ckNilC HC.out.1 HC.out.2.1 HC.out.2.2 (set3_bel HB1.out (by omega) _ _ _)
  | true =>
    have HS := Lib.hid hs
    go_wp2_with fail
    refine (bestOf_anyC a b w1 ha hb (HG.out.below HB1.out)).mono ?_
    rintro e w2 ⟨A, d, rfl, ho, hb2⟩
    obtain ⟨c, hc⟩ : ∃ c, c = (ckList (ckTxt a b)).length + d := ⟨_, rfl⟩
    have HCD := Lib.hid hc
    rw [← hc]
    clear hc
    have HB2 := Lib.hid (bel_thru HB1.out hb2)
    have HO := Lib.hid ho
    have hz2 := hb2.size
    have HKO2 := Lib.hid (HKO.out.below hb2 HKO.out.lt)
    clear hb2 ho
    have HN := Lib.hid (fun h => cb_none (a := a) (b := b) hs h); have HY := Lib.hid (fun h => cb_ok (a := a) (b := b) hs h)
    generalize ckTxt a b = T at *
    by_cases hC : ckCode T = 0
    · have HC := Lib.hid (HY.out hC)
      rw [hC]
      have k3 := isBlk_new w2 175 [.int .i64 (ckRNum T), .slice A (ckList T).length c, .int .i64 0]
      have hb3 := box_belK w2 (.cells #[.int .i64 (ckRNum T), .slice A (ckList T).length c, .int .i64 0] 175)
      have hz3 := size_alloc w2 (.cells #[.int .i64 (ckRNum T), .slice A (ckList T).length c, .int .i64 0] 175)
      change IsBlk (w2.alloc (.cells #[.int .i64 (ckRNum T), .slice A (ckList T).length c, .int .i64 0] 175)) _ _ _ at k3
      clear HN HY
      obtain ⟨p0, p1, p2, -, -, -⟩ := blk3k k3
      obtain ⟨r0, r1, r2, q0, q1, q2⟩ := blk3k (HKO2.out.below hb3 HKO2.out.lt)
      have HO3 := Lib.hid (HO.out.below hb3 (Nat.le_refl _))
      have HB3 := Lib.hid (bel_thru HB2.out hb3)
      clear hb3 k3
      go_wp2_with fail
      generalize w2.alloc (.cells #[.int .i64 (ckRNum T), .slice A (ckList T).length c, .int .i64 0] 175) = w3 at *
      refine bodyPost_ret (v := ckV (ckRNum T) A (ckList T).length c 0) (by simp [results, Tryz.results140, go_sem, r0, r1, r2]) rfl ?_
      unfold RetCkC
      rw [HC.out.1, HC.out.2.1, HC.out.2.2]
      exact ⟨A, d, by rw [HCD.out], (HO3.out.same fun k h1 h2 => set3_other _ _ _ (by omega)).mono (by omega) (by simp [World.setCell]; omega), set3_bel HB3.out (by omega) _ _ _⟩
    · have HC := Lib.hid (HN.out hC)
      have hq : (ckCode T != 0) = true := by simpa using hC
      have k3 := isBlk_new w2 175 [.int .i64 (ckRNum T), .slice A (ckList T).length c, .int .i64 (ckCode T)]
      have hb3 := box_belK w2 (.cells #[.int .i64 (ckRNum T), .slice A (ckList T).length c, .int .i64 (ckCode T)] 175)
      change IsBlk (w2.alloc (.cells #[.int .i64 (ckRNum T), .slice A (ckList T).length c, .int .i64 (ckCode T)] 175)) _ _ _ at k3
      clear HN HY
      obtain ⟨p0, p1, p2, -, -, -⟩ := blk3k k3
      obtain ⟨r0, r1, r2, q0, q1, q2⟩ := blk3k (HKO2.out.below hb3 HKO2.out.lt)
      have HB3 := Lib.hid (bel_thru HB2.out hb3)
      clear hb3 k3
      go_wp2_with fail
      generalize w2.alloc (.cells #[.int .i64 (ckRNum T), .slice A (ckList T).length c, .int .i64 (ckCode T)] 175) = w3 at *
      refine bodyPost_ret (v := ckV 0 none 0 0 6) (by simp [results, Tryz.results140, go_sem, r0, r1, r2]) rfl ?_
      exact ret_ckNilC HC.out.1 HC.out.2.1 HC.out.2.2 (set3_bel HB3.out (by omega) _ _ _)
theorem impl_ckptBest (a b : ByteArray) (w : World) (ha : a.size ≤ maxLen) (hb : b.size ≤ maxLen) (hg : ErrType w) :
    Calls Tryz.prog 140 #[slotsV a b] w (RetCk w (cbNum a b) (cbList a b) (cbCode a b)) :=
  (impl_ckptBestC a b w ha hb hg).mono fun _ _ h => h.weak
end Go.Proofs.YtloaeglmngcenaaGreatDoor

namespace Go.Proofs.YtloaeglmngcenaaGreatDoor
open Go.RowKit

def PgBad (X : List Pg) (k : Nat) : Prop :=
  60 < (X.getD k zeroPg).data.size ∨ ((X.getD k zeroPg).used = false ∧ 0 < (X.getD k zeroPg).data.size) ∨ (0 < k ∧ (X.getD k zeroPg).used = true ∧ (X.getD (k - 1) zeroPg).used = false)
def BkOk (b : Bk) : Prop := b.pages.length = 4 ∧ (0 ≤ b.erases ∧ b.erases ≤ 1000000) ∧ ∀ k, k < 4 → ¬ PgBad b.pages k
def NdOk (X : List Bk) : Prop := (1 ≤ X.length ∧ X.length ≤ 12) ∧ ∀ i, i < X.length → BkOk (X.getD i zeroBk)
open Classical in
noncomputable def ndB (X : List Bk) : Bool := decide (NdOk X)
theorem ndB_yes {X : List Bk} (h : NdOk X) : ndB X = true := by simp [ndB, h]
theorem ndB_no {X : List Bk} (h : ¬ NdOk X) : ndB X = false := by simp [ndB, h]
theorem ndB_bad {X : List Bk} {i : Nat} (hi : i < X.length) (h : ¬ BkOk (X.getD i zeroBk)) : ndB X = false := ndB_no fun ho => h (ho.2 i hi)
theorem ndB_iff {X : List Bk} : ndB X = true ↔ NdOk X := by simp [ndB]

theorem nil_of_size {s : ByteArray} (h : s.size = 0) : s = ⟨#[]⟩ := by
  obtain ⟨⟨l⟩⟩ := s
  have : l = [] := List.eq_nil_of_length_eq_zero h
  rw [this]
theorem empty_of_size {s : ByteArray} (h : s.size = 0) : s.toList.isEmpty = true := by rw [nil_of_size h, ByteArray.toList_eq]; rfl
theorem full_of_size {s : ByteArray} (h : 0 < s.size) : s.toList.isEmpty = false := by
  rw [ByteArray.toList_eq, List.isEmpty_eq_false_iff]
  intro e
  have : s.data.toList.length = 0 := by rw [e]; rfl
  have h2 : s.data.toList.length = s.size := rfl
  omega

def isB (lo hi n : Int) : Bool := decide (lo ≤ n ∧ n ≤ hi)
theorem isB_yes {lo hi n : Int} (h : lo ≤ n ∧ n ≤ hi) : isB lo hi n = true := by simpa [isB] using h
theorem isB_no {lo hi n : Int} (h : ¬ (lo ≤ n ∧ n ≤ hi)) : isB lo hi n = false := by simpa [isB] using h

set_option maxHeartbeats 1000000 in
theorem l02Is_any (n lo hi : Int) (w : World) :
    Calls Tryz.prog 110 #[.int .i64 n, .int .i64 lo, .int .i64 hi] w fun e w' => e = .returned (.bool (isB lo hi n)) ∧ w = w' := by
  by_cases h1 : lo ≤ n
  · by_cases h2 : n ≤ hi
    · rw [isB_yes ⟨h1, h2⟩]
      go_enter Tryz.func110, Tryz.ntmps110
      go_wp2
      go_ret
      exact ⟨rfl, rfl⟩
    · have h2' : decide (n ≤ hi) = false := by simpa using h2
      rw [isB_no (by omega)]
      go_enter Tryz.func110, Tryz.ntmps110
      go_wp2
      go_ret
      exact ⟨rfl, rfl⟩
  · have h1' : decide (lo ≤ n) = false := by simpa using h1
    rw [isB_no (by omega)]
    go_enter Tryz.func110, Tryz.ntmps110
    go_wp2
    go_ret
    exact ⟨rfl, rfl⟩

set_option maxHeartbeats 1000000 in
theorem l02Time_any (n : Int) (w : World) :
    Calls Tryz.prog 158 #[.int .i64 n] w fun e w' => e = .returned (.bool (isB 0 1000000 n)) ∧ w = w' := by
  go_enter Tryz.func158, Tryz.ntmps158
  go_wp2_with fail
  refine (l02Is_any _ _ _ _).mono ?_
  rintro e w1 ⟨rfl, rfl⟩
  go_wp2
  go_ret
  exact ⟨rfl, rfl⟩

set_option maxHeartbeats 4000000 in
theorem spec_nandRight_any (A : Option Addr) (n ca : Nat) (X : List Bk) (w : World) (hn : n ≤ 2147483648) (hp : ∀ b ∈ X, b.pages.length ≤ 2147483648 ∧ ∀ p ∈ b.pages, p.data.size ≤ 2147483648) (hA : RdBk w w.heap.size A n X) :
    Calls Tryz.prog 81 #[.agg #[.slice A n ca]] w fun e w' => e = .returned (.bool (ndB X)) ∧ Below w.heap.size w w' := by
  have hl := hA.1
  have HA := Lib.hid hA; have HP := Lib.hid hp; have HL := Lib.hid hl; clear hA hp hl
  by_cases h1 : n < 1
  · have h1' : decide ((n : Int) < 1) = true := by simp; omega
    rw [ndB_no (fun h => by have := HL.out; have := h.1; omega)]
    go_enter Tryz.func81, Tryz.ntmps81
    go_wp2
    go_ret
    exact ⟨rfl, (Below.refl _ _).alloc (Nat.le_refl _) _⟩
  by_cases h2 : 12 < n
  · rw [ndB_no (fun h => by have := HL.out; have := h.1; omega)]
    go_enter Tryz.func81, Tryz.ntmps81
    go_wp2
    go_ret
    exact ⟨rfl, (Below.refl _ _).alloc (Nat.le_refl _) _⟩
  have hd1 : decide ((n : Int) < 1) = false := by simp; omega
  have hd2 : decide (12 < (n : Int)) = false := by simp; omega
  go_enter Tryz.func81, Tryz.ntmps81
  go_wp2
  generalize hW : w.alloc (.cells #[.slice A n ca] 25) = w1
  have HB1 : Hid (Below w.heap.size w w1) := by rw [← hW]; exact (Below.refl _ _).alloc (Nat.le_refl _) _
  have HK1 : Hid (IsBlk w1 w.heap.size 25 [.slice A n ca]) := by rw [← hW]; exact isBlk_new _ _ _
  clear hW
  go_loopw [3] (fun i wr => ∃ k : Nat, k ≤ n ∧ i = .int .i64 (k : Nat) ∧ (∀ i, i < k → BkOk (X.getD i zeroBk)) ∧ Below w.heap.size w wr ∧ IsBlk wr w.heap.size 25 [.slice A n ca]) (fun i _ => n - (intOf i).toNat)
  case atStart => exact ⟨0, by omega, rfl, fun i h => absurd h (by omega), HB1.out, HK1.out⟩
  case round =>
    obtain ⟨k, hk, rfl, hok, hbel, hblk⟩ := hrel
    have HOK := Lib.hid hok; have HW := Lib.hid hbel; have HK := Lib.hid hblk
    have hx0 : wr.cell? ⟨w.heap.size, 0, none⟩ = some (.slice A n ca) := hblk.cell rfl
    by_cases hlt : k < n
    · obtain ⟨g, off, pA, pc, rfl, hg, hc0, hc1, hc2, hpg⟩ := (HA.out.below hbel).at hlt
      have hkl : k < X.length := by have := HL.out; omega
      obtain ⟨hpl, hps⟩ := HP.out _ (getD_lt (z := zeroBk) hkl)
      have HPG := Lib.hid (hpg.mono hbel.size); have HPS := Lib.hid hps
      have hgr : g < wr.heap.size := Nat.lt_of_lt_of_le hg hbel.size
      have HBAD : Hid (¬ BkOk (X.getD k zeroBk) → ndB X = false) := fun h => ndB_bad hkl h
      have HGO : Hid (BkOk (X.getD k zeroBk) → ∀ i, i < k + 1 → BkOk (X.getD i zeroBk)) := fun h i hi => by
        by_cases e : i = k
        · rw [e]; exact h
        · exact HOK.out i (by omega)
      clear hbel hblk hok hpg hps
      generalize X.getD k zeroBk = b at hc0 hc1 hc2 hpl HPG HPS HBAD HGO
      obtain ⟨m, hm⟩ : ∃ m, m = b.pages.length := ⟨_, rfl⟩
      rw [← hm] at hc0 hpl HPG
      have HM := Lib.hid hm; clear hm
      by_cases hm4 : m = 4
      · subst hm4
        by_cases het : 0 ≤ b.erases ∧ b.erases ≤ 1000000
        · have hT := isB_yes het
          go_wp2_with fail
          refine (l02Time_any _ _).mono ?_
          rintro e w2 ⟨rfl, rfl⟩
          go_wp2
          generalize hW : wr.alloc (.cells #[.slice pA 4 pc, .int .i64 b.erases, .bool b.bad] 128) = w2
          have HB2 : Hid (Below wr.heap.size wr w2) := by rw [← hW]; exact (Below.refl _ _).alloc (Nat.le_refl _) _
          have HK2 : Hid (IsBlk w2 wr.heap.size 128 [.slice pA 4 pc, .int .i64 b.erases, .bool b.bad]) := by rw [← hW]; exact isBlk_new _ _ _
          clear hW hc0 hc1 hc2 hx0
          obtain ⟨wo, hwo⟩ : ∃ x, x = wr := ⟨_, rfl⟩
          subst hwo
          have hwz : w.heap.size < wo.heap.size := HK.out.lt
          go_loopw [5] (fun i wx => ∃ j : Nat, j ≤ 4 ∧ i = .int .i64 (j : Nat) ∧ (∀ i, i < j → ¬ PgBad b.pages i) ∧ Below wo.heap.size wo wx ∧ IsBlk wx wo.heap.size 128 [.slice pA 4 pc, .int .i64 b.erases, .bool b.bad]) (fun i _ => 4 - (intOf i).toNat)
          case atStart => exact ⟨0, by omega, rfl, fun i h => absurd h (by omega), HB2.out, HK2.out⟩
          case round =>
            obtain ⟨j, hj, rfl, hjok, hjb, hjk⟩ := hrel
            have HJO := Lib.hid hjok; have HJB := Lib.hid hjb; have HJK := Lib.hid hjk
            have hy0 : wr.cell? ⟨wo.heap.size, 0, none⟩ = some (.slice pA 4 pc) := hjk.cell rfl
            have hsz := hjb.size
            by_cases hj4 : j < 4
            · obtain ⟨g', off', rfl, hg', hd0, hd1⟩ := (HPG.out.below hjb).at hj4
              have hlt1 : wo.heap.size < wr.heap.size := hjk.lt
              have hg1 : g' < wr.heap.size := by omega
              have HGO2 : Hid (¬ PgBad b.pages j → ∀ i, i < j + 1 → ¬ PgBad b.pages i) := fun h i hi => by
                by_cases e : i = j
                · rw [e]; exact h
                · exact HJO.out i (by omega)
              have HPB := Lib.hid hjb
              have HDF : Hid (PgBad b.pages j ↔ (60 < (b.pages.getD j zeroPg).data.size ∨ ((b.pages.getD j zeroPg).used = false ∧ 0 < (b.pages.getD j zeroPg).data.size) ∨ (0 < j ∧ (b.pages.getD j zeroPg).used = true ∧ (b.pages.getD (j - 1) zeroPg).used = false))) := Iff.rfl
              clear hjok hjb hjk
              generalize b.pages.getD j zeroPg = p at hd0 hd1 HDF
              obtain ⟨pu, pd⟩ := p
              simp only at hd0 hd1 HDF
              by_cases ha : 60 < pd.size
              · have HBD : PgBad b.pages j := HDF.out.2 (.inl ha)
                have HBD' := Lib.hid HBD; clear HBD
                go_wp2
                go_ret
                exact ⟨ret_b (HBAD.out fun h => h.2.2 j hj4 HBD'.out).symm, (HW.out.trans (HJB.out.mono (by omega))).alloc (by have := HW.out.size; omega) _⟩
              have ha' : decide ((60 : Int) < (pd.size : Int)) = false := by simp; omega
              cases pu with
              | false =>
                by_cases he : pd.size = 0
                · have HNB : Hid (¬ PgBad b.pages j) := fun h => by rcases HDF.out.1 h with h | h | h <;> first | omega | (simp at h; done) | (simp at h; omega)
                  have hz := empty_of_size he
                  clear he
                  by_cases hj0 : 0 < j
                  all_goals
                    go_wp2
                    go_roundw
                    case rel => exact ⟨j + 1, by omega, by go_num, HGO2.out HNB.out, HJB.out.alloc HJB.out.size _, HJK.out.alloc _⟩
                    case measure => simp [intOf]; omega
                · have HBD' : Hid (PgBad b.pages j) := HDF.out.2 (.inr (.inl ⟨rfl, by omega⟩))
                  have hz := full_of_size (s := pd) (by omega)
                  go_wp2
                  go_ret
                  exact ⟨ret_b (HBAD.out fun h => h.2.2 j hj4 HBD'.out).symm, (HW.out.trans (HJB.out.mono (by omega))).alloc (by have := HW.out.size; omega) _⟩
              | true =>
                by_cases hj0 : 0 < j
                · obtain ⟨i, rfl⟩ : ∃ i, j = i + 1 := ⟨j - 1, by omega⟩
                  obtain ⟨g'', off'', he, hg'', hp0, hp1⟩ := (HPG.out.below HPB.out).at (k := i) (by omega)
                  injection he with he; injection he with he1 he2; subst he1 he2
                  rw [Nat.add_sub_cancel] at HDF
                  generalize b.pages.getD i zeroPg = q at hp0 hp1 HDF
                  obtain ⟨qu, qd⟩ := q
                  simp only at hp0 hp1 HDF
                  cases qu with
                  | true =>
                    have HNB : Hid (¬ PgBad b.pages (i + 1)) := fun h => by rcases HDF.out.1 h with h | h | h <;> first | omega | (simp at h)
                    go_wp2
                    go_roundw
                    case rel => exact ⟨i + 1 + 1, by omega, by go_num, HGO2.out HNB.out, HJB.out.alloc HJB.out.size _, HJK.out.alloc _⟩
                    case measure => simp [intOf]; omega
                  | false =>
                    have HBD' : Hid (PgBad b.pages (i + 1)) := HDF.out.2 (.inr (.inr ⟨by omega, by simp, by simp⟩))
                    go_wp2
                    go_ret
                    exact ⟨ret_b (HBAD.out fun h => h.2.2 (i + 1) hj4 HBD'.out).symm, (HW.out.trans (HJB.out.mono (by omega))).alloc (by have := HW.out.size; omega) _⟩
                · have HNB : Hid (¬ PgBad b.pages j) := fun h => by rcases HDF.out.1 h with h | h | h <;> first | omega | (simp at h)
                  have hj0' : decide ((0 : Int) < (j : Int)) = false := by simp; omega
                  obtain rfl : j = 0 := by omega
                  simp only [Nat.zero_mul, Nat.add_zero] at hd0 hd1
                  go_wp2
                  go_roundw
                  case rel => exact ⟨0 + 1, by omega, by go_num, HGO2.out HNB.out, HJB.out.alloc HJB.out.size _, HJK.out.alloc _⟩
                  case measure => simp [intOf]
            · obtain rfl : j = 4 := by omega
              clear hjok hjb hjk
              go_wp2
              go_roundw
              case rel => exact ⟨k + 1, by omega, by go_num, HGO.out ⟨HM.out.symm, het, HJO.out⟩, HW.out.trans (HJB.out.mono (by omega)), HK.out.below HJB.out hwz⟩
              case measure => simp [intOf]; omega
        · have hT := isB_no het
          go_wp2_with fail
          refine (l02Time_any _ _).mono ?_
          rintro e w2 ⟨rfl, rfl⟩
          go_wp2
          go_ret
          exact ⟨ret_b (HBAD.out fun h => het h.2.1).symm, HW.out.alloc HW.out.size _⟩
      · have hm4' : (m == 4) = false := by simpa using hm4
        have hm4'' : ((m : Int) == 4) = false := by simp; omega
        go_wp2
        go_ret
        exact ⟨ret_b (HBAD.out fun h => hm4 (HM.out.trans h.1)).symm, HW.out.alloc HW.out.size _⟩
    · clear hbel hblk hok
      obtain rfl : k = n := by omega
      go_wp2
      go_ret
      exact ⟨ret_b (ndB_yes ⟨⟨by have := HL.out; omega, by have := HL.out; omega⟩, fun i hi => HOK.out i (by have := HL.out; omega)⟩).symm, HW.out⟩
end Go.Proofs.YtloaeglmngcenaaGreatDoor

namespace Go.Proofs.YtloaeglmngcenaaGreatDoor
open Go.RowKit

/-- 'copy(dst, src)' of elements of some cells, dst a part of block g -/
theorem run_copy_rows {P : Program} (w : World) (dT sT ty elem : TypeId) (g o dLen dCap : Nat) (a : Addr) (sLen sCap sz : Nat) (cur : Array Value) (t : TypeId) (cs : List Value)
    (hu : P.underlying dT = some (.slice elem)) (hs : (P.info? elem).map (·.size) = some sz)
    (hg : w.heap[g]? = some (.cells cur t (0, 0))) (hn : cs.length = Nat.min sLen dLen * sz)
    (hsrc : ∀ j v, cs[j]? = some v → w.cell? (a.add j) = some v) (hfit : o + cs.length ≤ cur.size) (h1 : ∀ v ∈ cs, v.oneCell' = true) :
    (Builtin.copy_ #[dT, sT] ty #[.slice (some ⟨g, o, none⟩) dLen dCap, .slice (some a) sLen sCap]).run P w =
      .ok (goInt (Nat.min sLen dLen)) (w.setRow g (cur.toList.take o ++ cs ++ cur.toList.drop (o + cs.length)).toArray) := by
  have hl := run_loadCells_list (P := P) w a cs hsrc
  have hst := run_storeCells_at P g o t cs 0 cur w hg (by simpa using hfit) h1
  cases hq : P.info? elem with
  | none => simp [hq] at hs
  | some i =>
    have hi : i.size = sz := by simpa [hq] using hs
    simp [Builtin.copy_, run_underlying hu, Builtin.lenOf, Builtin.firstCells, sizeOf, typeInfo, hq, hi, ← hn, hl, hst]
theorem wpList_copy_rows {P : Program} {w : World} {ops : Array Oper} {rest : List Oper} {o : Oper} {a : Act} {Q : Exit → Act → World → Prop} (hgd : o.guard = none) (d s : Operand) (dT sT : TypeId)
    (ho : o.op = .call { callee := .builtin .copy, args := #[d, s], argTypes := #[dT, sT] }) (elem : TypeId) (sz : Nat) (hu : P.underlying dT = some (.slice elem)) (hsz : (P.info? elem).map (·.size) = some sz)
    (g off dLen dCap : Nat) (ad : Addr) (sLen sCap : Nat) (hd : a.eval d = .slice (some ⟨g, off, none⟩) dLen dCap) (hs : a.eval s = .slice (some ad) sLen sCap)
    (cur : List Value) (t : TypeId) (hg : IsBlk w g t cur) (cs : List Value) (hn : cs.length = Nat.min sLen dLen * sz)
    (hsrc : ∀ j v, cs[j]? = some v → w.cell? (ad.add j) = some v) (hfit : off + cs.length ≤ cur.length) (h1 : ∀ v ∈ cs, v.oneCell' = true) (B : Nat) (w0 : World) (hb : Below B w0 w) (hBg : B ≤ g)
    (h : ∀ w', Hid (IsBlk w' g t (splice cur off cs)) → Hid (Below B w0 w') → wpList P ops Q rest (a.put o.dst (goInt (Nat.min sLen dLen))) w') : wpList P ops Q (o :: rest) a w := by
  refine wpList_plain hgd fun K hK => ?_
  have hrun := run_copy_rows (P := P) w dT sT o.type elem g off dLen dCap ad sLen sCap sz cur.toArray t cs hu hsz hg hn hsrc (by simpa using hfit) h1
  unfold Oper.wp
  simp [execOp, ho, resolve, invoke, builtin, hd, hs, hrun, Result.andThen]
  refine hK _ _ (h _ (show IsBlk _ _ _ _ from ?_) (show Below _ _ _ from below_setRow hb hBg _))
  have := setRow_heap w g cur.toArray (cur.toArray.toList.take off ++ cs ++ cur.toArray.toList.drop (off + cs.length)).toArray t _ hg
  unfold IsBlk splice
  simpa using this

/-- an array of four pages -/
def pcells (a b c d : Pg) : List Value := [.bool a.used, .string a.data, .bool b.used, .string b.data, .bool c.used, .string c.data, .bool d.used, .string d.data]
abbrev parr (a b c d : Pg) : Value := .agg #[.bool a.used, .string a.data, .bool b.used, .string b.data, .bool c.used, .string c.data, .bool d.used, .string d.data]
theorem pcells_F (a b c d : Pg) (j : Nat) (v : Value) (h : (pcells a b c d)[j]? = some v) : j < 8 ∧ pgF [a, b, c, d] j = v := by
  match j, h with
  | 0, h | 1, h | 2, h | 3, h | 4, h | 5, h | 6, h | 7, h => exact ⟨by omega, by simpa [pcells, pgF] using h⟩
  | j + 8, h => simp [pcells] at h
theorem pcells_one (a b c d : Pg) : ∀ v ∈ pcells a b c d, v.oneCell' = true := by
  intro v hv
  simp only [pcells, List.mem_cons, List.not_mem_nil, or_false] at hv
  rcases hv with h | h | h | h | h | h | h | h <;> subst h <;> rfl
theorem blk8 {w : World} {g : Nat} {e : TypeId} {a b c d : Pg} (h : IsBlk w g e (pcells a b c d)) :
    (w.cell? ⟨g, 0, none⟩ = some (.bool a.used) ∧ w.cell? ⟨g, 1, none⟩ = some (.string a.data) ∧ w.cell? ⟨g, 2, none⟩ = some (.bool b.used) ∧ w.cell? ⟨g, 3, none⟩ = some (.string b.data) ∧
    w.cell? ⟨g, 4, none⟩ = some (.bool c.used) ∧ w.cell? ⟨g, 5, none⟩ = some (.string c.data) ∧ w.cell? ⟨g, 6, none⟩ = some (.bool d.used) ∧ w.cell? ⟨g, 7, none⟩ = some (.string d.data)) ∧
    (w.frozen? ⟨g, 0, none⟩ = false ∧ w.frozen? ⟨g, 1, none⟩ = false ∧ w.frozen? ⟨g, 2, none⟩ = false ∧ w.frozen? ⟨g, 3, none⟩ = false ∧ w.frozen? ⟨g, 4, none⟩ = false ∧ w.frozen? ⟨g, 5, none⟩ = false ∧
    w.frozen? ⟨g, 6, none⟩ = false ∧ w.frozen? ⟨g, 7, none⟩ = false) :=
  ⟨⟨h.cell rfl, h.cell rfl, h.cell rfl, h.cell rfl, h.cell rfl, h.cell rfl, h.cell rfl, h.cell rfl⟩, h.free, h.free, h.free, h.free, h.free, h.free, h.free, h.free⟩
theorem page_size : (Tryz.prog.info? 206).map (·.size) = some 2 := by kernel_rfl

set_option maxHeartbeats 1000000 in
set_option maxRecDepth 100000 in
theorem pagesOf_any (A : Option Addr) (ca : Nat) (a b c d : Pg) (er : Int) (bad : Bool) (w : World) (hA : RdPg w w.heap.size A 4 [a, b, c, d]) :
    Calls Tryz.prog 166 #[.agg #[.slice A 4 ca, .int .i64 er, .bool bad]] w fun e w' => e = .returned (parr a b c d) ∧ Below w.heap.size w w' := by
  obtain ⟨g, off, rfl, hg, hc⟩ := hA.2 (by omega)
  have HC := Lib.hid hc; clear hA hc
  go_enter Tryz.func166, Tryz.ntmps166
  go_wp2
  have HB : Hid (Below w.heap.size w (((w.alloc (.cells #[.slice (some ⟨g, off, none⟩) 4 ca, .int .i64 er, .bool bad] 128)).alloc (.cells (pcells zeroPg zeroPg zeroPg zeroPg).toArray 212)).alloc (.cells (pcells zeroPg zeroPg zeroPg zeroPg).toArray 212))) :=
    (((Below.refl _ _).alloc (Nat.le_refl _) _).alloc (by simp) _).alloc (by simp; omega) _
  have k0 := (((isBlk_new w 128 [.slice (some ⟨g, off, none⟩) 4 ca, .int .i64 er, .bool bad]).alloc (.cells (pcells zeroPg zeroPg zeroPg zeroPg).toArray 212)).alloc (.cells (pcells zeroPg zeroPg zeroPg zeroPg).toArray 212))
  have k1 := (isBlk_new (w.alloc (.cells #[.slice (some ⟨g, off, none⟩) 4 ca, .int .i64 er, .bool bad] 128)) 212 (pcells zeroPg zeroPg zeroPg zeroPg)).alloc (.cells (pcells zeroPg zeroPg zeroPg zeroPg).toArray 212)
  have k2 := isBlk_new ((w.alloc (.cells #[.slice (some ⟨g, off, none⟩) 4 ca, .int .i64 er, .bool bad] 128)).alloc (.cells (pcells zeroPg zeroPg zeroPg zeroPg).toArray 212)) 212 (pcells zeroPg zeroPg zeroPg zeroPg)
  simp only [size_alloc] at k1 k2
  change Code.wp _ _ _ _ (((w.alloc (.cells #[.slice (some ⟨g, off, none⟩) 4 ca, .int .i64 er, .bool bad] 128)).alloc (.cells (pcells zeroPg zeroPg zeroPg zeroPg).toArray 212)).alloc (.cells (pcells zeroPg zeroPg zeroPg zeroPg).toArray 212))
  generalize (((w.alloc (.cells #[.slice (some ⟨g, off, none⟩) 4 ca, .int .i64 er, .bool bad] 128)).alloc (.cells (pcells zeroPg zeroPg zeroPg zeroPg).toArray 212)).alloc (.cells (pcells zeroPg zeroPg zeroPg zeroPg).toArray 212)) = W at HB k0 k1 k2 ⊢
  have HK1 := Lib.hid k1; have HK2 := Lib.hid k2
  obtain ⟨c0, -, -, -, -, -⟩ := blk3 k0
  clear k0 k1 k2
  go_still_tail 3, (by kernel_rfl)
  change wpList _ _ _ _ _ W.drew
  refine wpList_copy_rows rfl (.tmp 4) (.tmp 6) 126 126 rfl 206 2 Tryz.underlying126 page_size (w.heap.size + 1 + 1) 0 4 4 ⟨g, off, none⟩ 4 ca rfl rfl (pcells zeroPg zeroPg zeroPg zeroPg) 212 HK2.out (pcells a b c d) rfl ?_ (Nat.le_refl _) (pcells_one a b c d) (w.heap.size + 1 + 1) W.drew (Below.refl _ _) (Nat.le_refl _) ?_
  · intro j v hj
    obtain ⟨h8, hv⟩ := pcells_F a b c d j v hj
    rw [add_off]
    have h := (HB.out.drew.cell (p := ⟨g, off + j, none⟩) hg).trans (HC.out j (by omega))
    rw [hv] at h
    exact h
  intro w3 hk3 hb3
  have k3 : IsBlk w3 (w.heap.size + 1 + 1) 212 (pcells a b c d) := hk3.out
  have k1 : IsBlk w3 (w.heap.size + 1) 212 (pcells zeroPg zeroPg zeroPg zeroPg) := IsBlk.below (w := W.drew) HK1.out hb3.out (by omega)
  have HB3 := Lib.hid (HB.out.drew.trans (hb3.out.mono (by omega)))
  obtain ⟨⟨e0, e1, e2, e3, e4, e5, e6, e7⟩, -⟩ := blk8 k3
  obtain ⟨⟨d0, d1, d2, d3, d4, d5, d6, d7⟩, f0, f1, f2, f3, f4, f5, f6, f7⟩ := blk8 k1
  clear hk3 hb3 k3 k1 HK1 HK2 HB
  go_wp2
  refine bodyPost_ret (v := parr a b c d) (by simp [results, Tryz.results166, go_sem, d0, d1, d2, d3, d4, d5, d6, d7]) rfl ⟨rfl, ?_⟩
  repeat (with_reducible refine Below.setCell ?_ ?_ _)
  all_goals first | exact HB3.out | (dsimp only; omega)

/-- how many pages are used before the first unused one -/
def uPre : List Pg → Nat
  | [] => 0
  | p :: r => if p.used then uPre r + 1 else 0
theorem uPre_le (X : List Pg) : uPre X ≤ X.length := by
  induction X with
  | nil => exact Nat.le_refl _
  | cons p r ih => unfold uPre; split <;> simp; omega
theorem uPre_of {X : List Pg} {k : Nat} (hk : k ≤ X.length) (h : ∀ i, i < k → (X.getD i zeroPg).used = true) (hs : k = X.length ∨ (X.getD k zeroPg).used = false) : uPre X = k := by
  induction X generalizing k with
  | nil => simp at hk; subst hk; rfl
  | cons p r ih =>
    cases k with
    | zero =>
      rcases hs with hs | hs
      · simp at hs
      · have : p.used = false := by simpa using hs
        simp [uPre, this]
    | succ k =>
      have h0 : p.used = true := by simpa using h 0 (by omega)
      have := ih (k := k) (by simpa using hk) (fun i hi => by simpa using h (i + 1) (by omega)) (by simpa using hs)
      simp [uPre, h0, this]
theorem uPre_lt {X : List Pg} {i : Nat} (h : i < uPre X) : (X.getD i zeroPg).used = true := by
  induction X generalizing i with
  | nil => simp [uPre] at h
  | cons p r ih =>
    unfold uPre at h
    split at h
    · cases i with
      | zero => simpa
      | succ i => simpa using ih (by omega)
    · omega
theorem uPre_stop {X : List Pg} (h : uPre X < X.length) : (X.getD (uPre X) zeroPg).used = false := by
  induction X with
  | nil => simp [uPre] at h
  | cons p r ih =>
    unfold uPre at h ⊢
    split
    · rename_i hp
      rw [if_pos hp] at h
      simpa using ih (by simpa using h)
    · rename_i hp; simpa using hp

theorem parr_cells {w : World} {g : Nat} {e : TypeId} {a b c d : Pg} (h : IsBlk w g e (pcells a b c d)) {k : Nat} (hk : k < 4) :
    w.cell? ⟨g, k * 2, none⟩ = some (.bool ([a, b, c, d].getD k zeroPg).used) ∧ w.cell? ⟨g, k * 2 + 1, none⟩ = some (.string ([a, b, c, d].getD k zeroPg).data) := by
  match k, hk with
  | 0, _ => exact ⟨h.cell rfl, h.cell rfl⟩
  | 1, _ => exact ⟨h.cell rfl, h.cell rfl⟩
  | 2, _ => exact ⟨h.cell rfl, h.cell rfl⟩
  | 3, _ => exact ⟨h.cell rfl, h.cell rfl⟩

set_option maxHeartbeats 1000000 in
set_option maxRecDepth 100000 in
theorem used_any (a b c d : Pg) (w : World) :
    Calls Tryz.prog 167 #[parr a b c d] w fun e w' => e = .returned (.int .i64 ((uPre [a, b, c, d] : Nat) : Int)) ∧ Below w.heap.size w w' := by
  go_enter Tryz.func167, Tryz.ntmps167
  go_wp2
  have hk := isBlk_new w 212 (pcells a b c d)
  have hb : Below w.heap.size w (w.alloc (.cells (pcells a b c d).toArray 212)) := (Below.refl _ _).alloc (Nat.le_refl _) _
  change Code.wp _ _ _ _ (w.alloc (.cells (pcells a b c d).toArray 212))
  generalize w.alloc (.cells (pcells a b c d).toArray 212) = W at hk hb ⊢
  have HK := Lib.hid hk; have HB := Lib.hid hb
  clear hk hb
  go_loop [3] (fun i => ∃ k : Nat, k ≤ 4 ∧ i = .int .i64 (k : Nat) ∧ ∀ i, i < k → ([a, b, c, d].getD i zeroPg).used = true) (fun i => 4 - (intOf i).toNat)
  case atStart => exact ⟨0, by omega, rfl, fun i h => absurd h (by omega)⟩
  case round =>
    obtain ⟨k, hk, rfl, hall⟩ := hrel
    have HALL := Lib.hid hall; clear hall
    by_cases hlt : k < 4
    · obtain ⟨c0, -⟩ := parr_cells HK.out hlt
      have HU : Hid (([a, b, c, d].getD k zeroPg).used = false → uPre [a, b, c, d] = k) := fun h => uPre_of (by simpa using hk) HALL.out (.inr h)
      have HG : Hid (([a, b, c, d].getD k zeroPg).used = true → ∀ i, i < k + 1 → ([a, b, c, d].getD i zeroPg).used = true) := fun h i hi => by
        by_cases e : i = k
        · rw [e]; exact h
        · exact HALL.out i (by omega)
      generalize ([a, b, c, d].getD k zeroPg).used = u at c0 HU HG
      cases u with
      | false =>
        have HU2 := Lib.hid (HU.out rfl); clear HU HG
        go_wp2
        go_ret
        exact ⟨ret_i (by rw [HU2.out]), HB.out⟩
      | true =>
        have HG2 := Lib.hid (HG.out rfl); clear HU HG
        go_wp2
        go_round
        case rel => exact ⟨k + 1, by omega, by go_num, HG2.out⟩
        case measure => simp [intOf]; omega
    · obtain rfl : k = 4 := by omega
      go_wp2
      go_ret
      exact ⟨ret_i (by rw [uPre_of (k := 4) (by simp) HALL.out (.inl rfl)]; rfl), HB.out⟩

/-- the pages of a valid block, as the program looks at them -/
def PgsOk (X : List Pg) : Prop := ∀ k, k < 4 → (uPre X ≤ k → (X.getD k zeroPg).used = false ∧ (X.getD k zeroPg).data.size = 0) ∧ (X.getD k zeroPg).data.size ≤ 60
theorem pgsOk_iff {X : List Pg} (hl : X.length = 4) : PgsOk X ↔ ∀ k, k < 4 → ¬ PgBad X k := by
  constructor
  · intro h k hk hb
    obtain ⟨h1, h2⟩ := h k hk
    rcases hb with hb | ⟨hu, hd⟩ | ⟨h0, hu, hv⟩
    · omega
    · have : uPre X ≤ k := by
        rcases Nat.lt_or_ge k (uPre X) with h | h
        · rw [uPre_lt h] at hu; cases hu
        · exact h
      have := (h1 this).2; omega
    · have h3 : uPre X ≤ k - 1 := by
        rcases Nat.lt_or_ge (k - 1) (uPre X) with h | h
        · rw [uPre_lt h] at hv; cases hv
        · exact h
      have := (h1 (by omega)).1
      rw [this] at hu; cases hu
  · intro h k hk
    refine ⟨fun hu => ?_, ?_⟩
    · -- from the first unused page on all are unused
      have hall : ∀ m, uPre X + m < 4 → (X.getD (uPre X + m) zeroPg).used = false := by
        intro m
        induction m with
        | zero => intro hm; exact uPre_stop (by omega)
        | succ m ih =>
          intro hm
          have h1 := ih (by omega)
          rcases hq : (X.getD (uPre X + (m + 1)) zeroPg).used with _ | _
          · rfl
          · exact absurd (show PgBad X (uPre X + (m + 1)) from .inr (.inr ⟨by omega, hq, by rw [show uPre X + (m + 1) - 1 = uPre X + m by omega]; exact h1⟩)) (h _ hm)
      have h0 : (X.getD k zeroPg).used = false := by have := hall (k - uPre X) (by omega); rwa [show uPre X + (k - uPre X) = k by omega] at this
      refine ⟨h0, ?_⟩
      rcases Nat.eq_zero_or_pos (X.getD k zeroPg).data.size with hz | hz
      · exact hz
      · exact absurd (show PgBad X k from .inr (.inl ⟨h0, hz⟩)) (h k hk)
    · rcases Nat.lt_or_ge 60 (X.getD k zeroPg).data.size with hz | hz
      · exact absurd (show PgBad X k from .inl hz) (h k hk)
      · exact hz
open Classical in
noncomputable def pgsB (X : List Pg) : Bool := decide (PgsOk X)
theorem pgsB_yes {X : List Pg} (h : PgsOk X) : pgsB X = true := by simp [pgsB, h]
theorem pgsB_no {X : List Pg} (h : ¬ PgsOk X) : pgsB X = false := by simp [pgsB, h]

set_option maxHeartbeats 2000000 in
set_option maxRecDepth 100000 in
theorem right_any (a b c d : Pg) (w : World) :
    Calls Tryz.prog 225 #[parr a b c d] w fun e w' => e = .returned (.bool (pgsB [a, b, c, d])) ∧ Below w.heap.size w w' := by
  go_enter Tryz.func225, Tryz.ntmps225
  go_wp2_with fail
  refine (used_any a b c d _).mono ?_
  rintro e w1 ⟨rfl, hb1⟩
  have hk := (isBlk_new w 212 (pcells a b c d)).below hb1 (by show w.heap.size < (w.alloc _).heap.size; simp)
  have hb : Below w.heap.size w w1 := ((Below.refl _ _).alloc (Nat.le_refl _) _).trans (hb1.mono (by simp))
  have HK := Lib.hid hk; have HB := Lib.hid hb
  have hu4 : uPre [a, b, c, d] ≤ 4 := uPre_le [a, b, c, d]
  clear hk hb hb1
  obtain ⟨u, hu⟩ : ∃ u, u = uPre [a, b, c, d] := ⟨_, rfl⟩
  rw [← hu] at hu4 ⊢
  have HU := Lib.hid hu; clear hu
  go_wp2
  go_loop [7] (fun i => ∃ k : Nat, k ≤ 4 ∧ i = .int .i64 (k : Nat) ∧ ∀ i, i < k → (u ≤ i → ([a, b, c, d].getD i zeroPg).used = false ∧ ([a, b, c, d].getD i zeroPg).data.size = 0) ∧ ([a, b, c, d].getD i zeroPg).data.size ≤ 60) (fun i => 4 - (intOf i).toNat)
  case atStart => exact ⟨0, by omega, rfl, fun i h => absurd h (by omega)⟩
  case round =>
    obtain ⟨k, hk, rfl, hall⟩ := hrel
    have HALL := Lib.hid hall; clear hall
    by_cases hlt : k < 4
    · obtain ⟨c0, c1⟩ := parr_cells HK.out hlt
      have HNO : Hid (¬ ((u ≤ k → ([a, b, c, d].getD k zeroPg).used = false ∧ ([a, b, c, d].getD k zeroPg).data.size = 0) ∧ ([a, b, c, d].getD k zeroPg).data.size ≤ 60) → pgsB [a, b, c, d] = false) :=
        fun h => pgsB_no fun ho => h (by rw [HU.out]; exact ho k hlt)
      have HGO : Hid (((u ≤ k → ([a, b, c, d].getD k zeroPg).used = false ∧ ([a, b, c, d].getD k zeroPg).data.size = 0) ∧ ([a, b, c, d].getD k zeroPg).data.size ≤ 60) → ∀ i, i < k + 1 → (u ≤ i → ([a, b, c, d].getD i zeroPg).used = false ∧ ([a, b, c, d].getD i zeroPg).data.size = 0) ∧ ([a, b, c, d].getD i zeroPg).data.size ≤ 60) := fun h i hi => by
        by_cases e : i = k
        · rw [e]; exact h
        · exact HALL.out i (by omega)
      generalize [a, b, c, d].getD k zeroPg = p at c0 c1 HNO HGO
      obtain ⟨pu, pd⟩ := p
      simp only at c0 c1 HNO HGO
      by_cases hku : u ≤ k
      · cases pu with
        | true =>
          have HN := Lib.hid (HNO.out fun h => by have := (h.1 hku).1; cases this); clear HNO HGO
          go_wp2
          go_ret
          exact ⟨ret_b HN.out.symm, HB.out⟩
        | false =>
          by_cases hz : pd.size = 0
          · obtain rfl := nil_of_size hz
            have HG := Lib.hid (HGO.out ⟨fun _ => ⟨rfl, rfl⟩, by rw [hz]; omega⟩); clear HNO HGO hz
            go_wp2
            go_round
            case rel => exact ⟨k + 1, by omega, by go_num, HG.out⟩
            case measure => simp [intOf]; omega
          · have hf := full_of_size (s := pd) (by omega)
            have hf2 : ¬ pd.toList = [] := by intro e; rw [e] at hf; cases hf
            have HN := Lib.hid (HNO.out fun h => hz (h.1 hku).2); clear HNO HGO
            go_wp2
            go_ret
            exact ⟨ret_b HN.out.symm, HB.out⟩
      · have hku' : decide ((u : Int) ≤ (k : Int)) = false := by simp; omega
        by_cases h60 : 60 < pd.size
        · have HN := Lib.hid (HNO.out fun h => by have := h.2; omega); clear HNO HGO
          go_wp2
          go_ret
          exact ⟨ret_b HN.out.symm, HB.out⟩
        · have HG := Lib.hid (HGO.out ⟨fun h => absurd h hku, by omega⟩); clear HNO HGO
          go_wp2
          go_round
          case rel => exact ⟨k + 1, by omega, by go_num, HG.out⟩
          case measure => simp [intOf]; omega
    · obtain rfl : k = 4 := by omega
      go_wp2
      go_ret
      exact ⟨ret_b (pgsB_yes (by rw [HU.out] at HALL; exact HALL.out)).symm, HB.out⟩

set_option maxHeartbeats 1000000 in
theorem ndTime_any (n : Int) (w : World) :
    Calls Tryz.prog 152 #[.int .i64 n] w fun e w' => e = .returned (.bool (isB 0 1000000 n)) ∧ w = w' := by
  by_cases h1 : 0 ≤ n
  · by_cases h2 : n ≤ 1000000
    · rw [isB_yes ⟨h1, h2⟩]
      go_enter Tryz.func152, Tryz.ntmps152
      go_wp2
      go_ret
      exact ⟨rfl, rfl⟩
    · have h2' : decide (n ≤ 1000000) = false := by simpa using h2
      rw [isB_no (by omega)]
      go_enter Tryz.func152, Tryz.ntmps152
      go_wp2
      go_ret
      exact ⟨rfl, rfl⟩
  · have h1' : decide (0 ≤ n) = false := by simpa using h1
    rw [isB_no (by omega)]
    go_enter Tryz.func152, Tryz.ntmps152
    go_wp2
    go_ret
    exact ⟨rfl, rfl⟩

theorem four_of_length {X : List Pg} (h : X.length = 4) : ∃ a b c d, X = [a, b, c, d] := by
  match X, h with
  | [a, b, c, d], _ => exact ⟨a, b, c, d, rfl⟩
open Classical in
noncomputable def bkB (b : Bk) : Bool := decide (BkOk b)
theorem bkB_yes {b : Bk} (h : BkOk b) : bkB b = true := by simp [bkB, h]
theorem bkB_no {b : Bk} (h : ¬ BkOk b) : bkB b = false := by simp [bkB, h]

set_option maxHeartbeats 2000000 in
set_option maxRecDepth 100000 in
theorem blockRight_any (A : Option Addr) (n ca : Nat) (X : List Pg) (er : Int) (bad : Bool) (w : World) (hn : n ≤ 2147483648) (hA : RdPg w w.heap.size A n X) :
    Calls Tryz.prog 164 #[.agg #[.slice A n ca, .int .i64 er, .bool bad]] w fun e w' => e = .returned (.bool (bkB ⟨X, er, bad⟩)) ∧ Below w.heap.size w w' := by
  have hl := hA.1
  by_cases h4 : n = 4
  · subst h4
    obtain ⟨a, b, c, d, rfl⟩ := four_of_length hl
    have HA := Lib.hid hA; clear hA
    by_cases het : 0 ≤ er ∧ er ≤ 1000000
    · have hT := isB_yes het
      go_enter Tryz.func164, Tryz.ntmps164
      go_wp2_with fail
      refine (ndTime_any _ _).mono ?_
      rintro e w1 ⟨rfl, rfl⟩
      rw [hT]
      go_wp2_with fail
      refine (pagesOf_any A ca a b c d er bad _ ((HA.out.below ((Below.refl _ _).alloc (Nat.le_refl _) _)).mono (by simp))).mono ?_
      rintro e w2 ⟨rfl, hb2⟩
      have HB2 := Lib.hid (((Below.refl w.heap.size w).alloc (Nat.le_refl _) _).trans (hb2.mono (by simp)))
      clear hb2
      go_wp2_with fail
      refine (right_any a b c d _).mono ?_
      rintro e w3 ⟨rfl, hb3⟩
      have HB3 := Lib.hid (HB2.out.trans (hb3.mono HB2.out.size))
      clear hb3
      have HE : Hid (pgsB [a, b, c, d] = bkB ⟨[a, b, c, d], er, bad⟩) := by
        show pgsB [a, b, c, d] = _
        by_cases hp : PgsOk [a, b, c, d]
        · rw [pgsB_yes hp, bkB_yes ⟨rfl, het, (pgsOk_iff rfl).1 hp⟩]
        · rw [pgsB_no hp, bkB_no fun h => hp ((pgsOk_iff rfl).2 h.2.2)]
      go_wp2
      go_ret
      exact ⟨ret_b HE.out, HB3.out⟩
    · have hT := isB_no het
      go_enter Tryz.func164, Tryz.ntmps164
      go_wp2_with fail
      refine (ndTime_any _ _).mono ?_
      rintro e w1 ⟨rfl, rfl⟩
      rw [hT]
      go_wp2
      go_ret
      exact ⟨ret_b (bkB_no fun h => het h.2.1).symm, (Below.refl _ _).alloc (Nat.le_refl _) _⟩
  · have h4' : ((n : Int) == 4) = false := by simp; omega
    have h4'' : (n == 4) = false := by simpa using h4
    have HX : Hid (bkB ⟨X, er, bad⟩ = false) := bkB_no fun h => h4 (hl.symm.trans h.1)
    clear hA hl
    go_enter Tryz.func164, Tryz.ntmps164
    go_wp2
    go_ret
    exact ⟨ret_b HX.out.symm, (Below.refl _ _).alloc (Nat.le_refl _) _⟩
end Go.Proofs.YtloaeglmngcenaaGreatDoor

namespace Go.Proofs.YtloaeglmngcenaaGreatDoor
open Go.RowKit

theorem spec_nandRight (A : Option Addr) (n ca : Nat) (X : List Bk) (w : World) (hX : Small X) (hA : RdBk w w.heap.size A n X) :
    Calls Tryz.prog 81 #[.agg #[.slice A n ca]] w fun e w' => e = .returned (.bool (ndB X)) ∧ Below w.heap.size w w' :=
  spec_nandRight_any A n ca X w (by have := hX.1; have := hA.1; omega) (fun b hb => ⟨by have := (hX.2 b hb).1; omega, fun p hp => by have := (hX.2 b hb).2 p hp; omega⟩) hA

set_option maxHeartbeats 2000000 in
theorem impl_nandRight (A : Option Addr) (n ca : Nat) (X : List Bk) (w : World) (hX : Small X) (hA : RdBk w w.heap.size A n X) :
    Calls Tryz.prog 89 #[.agg #[.slice A n ca]] w fun e w' => e = .returned (.bool (ndB X)) ∧ Below w.heap.size w w' := by
  have hl := hA.1
  have hn : n ≤ 1048576 := by have := hX.1; omega
  have HA := Lib.hid hA; have HP := Lib.hid hX; have HL := Lib.hid hl; clear hA hX hl
  by_cases h1 : n < 1
  · have h1' : decide ((n : Int) < 1) = true := by simp; omega
    rw [ndB_no (fun h => by have := HL.out; have := h.1; omega)]
    go_enter Tryz.func89, Tryz.ntmps89
    go_wp2
    go_ret
    exact ⟨rfl, (Below.refl _ _).alloc (Nat.le_refl _) _⟩
  by_cases h2 : 12 < n
  · rw [ndB_no (fun h => by have := HL.out; have := h.1; omega)]
    go_enter Tryz.func89, Tryz.ntmps89
    go_wp2
    go_ret
    exact ⟨rfl, (Below.refl _ _).alloc (Nat.le_refl _) _⟩
  have hd1 : decide ((n : Int) < 1) = false := by simp; omega
  have hd2 : decide (12 < (n : Int)) = false := by simp; omega
  go_enter Tryz.func89, Tryz.ntmps89
  go_wp2
  generalize hW : w.alloc (.cells #[.slice A n ca] 25) = w1
  have HB1 : Hid (Below w.heap.size w w1) := by rw [← hW]; exact (Below.refl _ _).alloc (Nat.le_refl _) _
  have HK1 : Hid (IsBlk w1 w.heap.size 25 [.slice A n ca]) := by rw [← hW]; exact isBlk_new _ _ _
  clear hW
  go_loopw [17] (fun i wr => ∃ k : Nat, k ≤ n ∧ i = .int .i64 (k : Nat) ∧ (∀ i, i < k → BkOk (X.getD i zeroBk)) ∧ Below w.heap.size w wr ∧ IsBlk wr w.heap.size 25 [.slice A n ca]) (fun i _ => n - (intOf i).toNat)
  case atStart => exact ⟨0, by omega, rfl, fun i h => absurd h (by omega), HB1.out, HK1.out⟩
  case round =>
    obtain ⟨k, hk, rfl, hok, hbel, hblk⟩ := hrel
    have HOK := Lib.hid hok; have HW := Lib.hid hbel; have HK := Lib.hid hblk
    have hx0 : wr.cell? ⟨w.heap.size, 0, none⟩ = some (.slice A n ca) := hblk.cell rfl
    by_cases hlt : k < n
    · obtain ⟨g, off, pA, pc, rfl, hg, hc0, hc1, hc2, hpg⟩ := (HA.out.below hbel).at hlt
      have hkl : k < X.length := by have := HL.out; omega
      have hpl := (HP.out.2 _ (getD_lt (z := zeroBk) hkl)).1
      have HPG := Lib.hid (hpg.mono hbel.size)
      have HBAD : Hid (¬ BkOk (X.getD k zeroBk) → ndB X = false) := fun h => ndB_bad hkl h
      have HGO : Hid (BkOk (X.getD k zeroBk) → ∀ i, i < k + 1 → BkOk (X.getD i zeroBk)) := fun h i hi => by
        by_cases e : i = k
        · rw [e]; exact h
        · exact HOK.out i (by omega)
      clear hbel hblk hok hpg
      generalize X.getD k zeroBk = b at hc0 hc1 hc2 hpl HPG HBAD HGO
      obtain ⟨ps, er, bd⟩ := b
      simp only at hc0 hc1 hc2 hpl HPG
      go_wp2_with fail
      refine (blockRight_any _ _ _ ps er bd _ (by omega) HPG.out).mono ?_
      rintro e w2 ⟨rfl, hb2⟩
      have HB2 := Lib.hid (HW.out.trans (hb2.mono HW.out.size))
      have HK2 := Lib.hid (HK.out.below hb2 HK.out.lt)
      clear hb2
      by_cases hb : BkOk ⟨ps, er, bd⟩
      · rw [bkB_yes hb]
        have HG := Lib.hid (HGO.out hb); clear HGO HBAD hb
        go_wp2
        go_roundw
        case rel => exact ⟨k + 1, by omega, by go_num, HG.out, HB2.out, HK2.out⟩
        case measure => simp [intOf]; omega
      · rw [bkB_no hb]
        have HN := Lib.hid (HBAD.out hb); clear HGO HBAD hb
        go_wp2
        go_ret
        exact ⟨ret_b HN.out.symm, HB2.out⟩
    · clear hbel hblk hok
      obtain rfl : k = n := by omega
      go_wp2
      go_ret
      exact ⟨ret_b (ndB_yes ⟨⟨by have := HL.out; omega, by have := HL.out; omega⟩, fun i hi => HOK.out i (by have := HL.out; omega)⟩).symm, HW.out⟩

/-! used pages -/
def nUsed (X : List Pg) : Nat := sumTo (fun i => if (X.getD i zeroPg).used then 1 else 0) X.length
theorem nUsed_ok {b : Bk} (h : BkOk b) : nUsed b.pages = uPre b.pages := by
  obtain ⟨ps, er, bd⟩ := b
  obtain ⟨h4, -, hp⟩ := h
  obtain ⟨a, b, c, d, rfl⟩ := four_of_length h4
  have h1 := hp 1 (by omega); have h2 := hp 2 (by omega); have h3 := hp 3 (by omega)
  simp only [PgBad, not_or, not_and] at h1 h2 h3
  simp only [List.getD_eq_getElem?_getD, List.getElem?_cons_succ, List.getElem?_cons_zero, Option.getD_some] at h1 h2 h3
  obtain ⟨ua, da⟩ := a; obtain ⟨ub, db⟩ := b; obtain ⟨uc, dc⟩ := c; obtain ⟨ud, dd⟩ := d
  cases ua <;> cases ub <;> cases uc <;> cases ud <;> simp_all [nUsed, uPre, sumTo]

set_option maxHeartbeats 1000000 in
theorem l02Used_any (A : Option Addr) (n ca : Nat) (X : List Pg) (er : Int) (bad : Bool) (w : World) (hn : n ≤ 1048576) (hA : RdPg w w.heap.size A n X) :
    Calls Tryz.prog 168 #[.agg #[.slice A n ca, .int .i64 er, .bool bad]] w fun e w' => e = .returned (.int .i64 ((nUsed X : Nat) : Int)) ∧ Below w.heap.size w w' := by
  obtain ⟨f, hf⟩ : ∃ f : Nat → Nat, f = fun i => if (X.getD i zeroPg).used then 1 else 0 := ⟨_, rfl⟩
  have HS : Hid (nUsed X = sumTo f n) := by show nUsed X = _; rw [nUsed, hA.1, hf]
  have HF := Lib.hid hf; clear hf
  have HA := Lib.hid hA; clear hA
  rw [HS.out]
  have HLE : Hid (∀ k, sumTo f k ≤ k) := by
    intro k
    induction k with
    | zero => exact Nat.le_refl _
    | succ k ih => rw [sumTo, HF.out]; rw [HF.out] at ih; simp only; split <;> omega
  go_enter Tryz.func168, Tryz.ntmps168
  go_wp2
  generalize hW : w.alloc (.cells #[.slice A n ca, .int .i64 er, .bool bad] 128) = W
  have HB : Hid (Below w.heap.size w W) := by rw [← hW]; exact (Below.refl _ _).alloc (Nat.le_refl _) _
  have hk : IsBlk W w.heap.size 128 [.slice A n ca, .int .i64 er, .bool bad] := by rw [← hW]; exact isBlk_new _ _ _
  obtain ⟨c0, -, -, -, -, -⟩ := blk3 hk
  clear hW hk
  go_loop [3, 4] (fun m i => ∃ k : Nat, k ≤ n ∧ i = .int .i64 (k : Nat) ∧ m = .int .i64 ((sumTo f k : Nat) : Int)) (fun _ i => n - (intOf i).toNat)
  case atStart => exact ⟨0, by omega, rfl, rfl⟩
  case round =>
    obtain ⟨k, hk, rfl, rfl⟩ := hrel
    by_cases hlt : k < n
    · obtain ⟨g, off, rfl, hg, hc0, hc1⟩ := (HA.out.below HB.out).at hlt
      have hfk : f k = if (X.getD k zeroPg).used then 1 else 0 := by rw [HF.out]
      have HST : Hid (sumTo f (k + 1) = sumTo f k + if (X.getD k zeroPg).used then 1 else 0) := by show _ = _; rw [sumTo, hfk]
      have hle := HLE.out k
      clear hfk
      generalize (X.getD k zeroPg).used = u at hc0 HST
      generalize sumTo f k = s at hle HST
      cases u with
      | true =>
        have HST2 : Hid (sumTo f (k + 1) = s + 1) := HST.out
        clear HST
        go_wp2
        go_round
        case rel => exact ⟨k + 1, by omega, by go_num, by rw [HST2.out]; go_num⟩
        case measure => simp [intOf]; omega
      | false =>
        have HST2 : Hid (sumTo f (k + 1) = s) := HST.out
        clear HST
        go_wp2
        go_round
        case rel => exact ⟨k + 1, by omega, by go_num, by rw [HST2.out]⟩
        case measure => simp [intOf]; omega
    · obtain rfl : k = n := by omega
      go_wp2
      go_ret
      exact ⟨rfl, HB.out⟩

set_option maxHeartbeats 1000000 in
theorem l02There_any (A : Option Addr) (n ca : Nat) (bi : Int) (w : World) (hn : n ≤ 1048576) :
    Calls Tryz.prog 255 #[.agg #[.slice A n ca], .int .i64 bi] w fun e w' => e = .returned (.bool (isB 0 ((n : Int) - 1) bi)) ∧ Below w.heap.size w w' := by
  go_enter Tryz.func255, Tryz.ntmps255
  go_wp2_with fail
  refine (l02Is_any _ _ _ _).mono ?_
  rintro e w1 ⟨rfl, rfl⟩
  go_wp2
  go_ret
  exact ⟨rfl, (Below.refl _ _).alloc (Nat.le_refl _) _⟩

/-! codes and counts -/
open Classical in
noncomputable def blkCode (X : List Bk) (bi : Int) : Int := if ¬ NdOk X then 1 else if bi < 0 ∨ (X.length : Int) ≤ bi then 6 else 0
theorem blkCode_form {X : List Bk} {bi : Int} (h : ¬ NdOk X) : blkCode X bi = 1 := by simp [blkCode, h]
theorem blkCode_none {X : List Bk} {bi : Int} (h : NdOk X) (hb : bi < 0 ∨ (X.length : Int) ≤ bi) : blkCode X bi = 6 := by simp [blkCode, h, hb]
theorem blkCode_ok {X : List Bk} {bi : Int} (h : NdOk X) (h0 : 0 ≤ bi) (h1 : bi < X.length) : blkCode X bi = 0 := by
  unfold blkCode; rw [if_neg (by simpa using h), if_neg (by omega)]
open Classical in
noncomputable def usedAns (X : List Bk) (bi : Int) : Int := if NdOk X ∧ 0 ≤ bi ∧ bi < X.length then ((uPre (X.getD bi.toNat zeroBk).pages : Nat) : Int) else 0
def nFree (X : List Bk) : Nat := sumTo (fun i => if (X.getD i zeroBk).bad = false ∧ uPre (X.getD i zeroBk).pages = 0 then 1 else 0) X.length
open Classical in
noncomputable def freeAns (X : List Bk) : Int := if NdOk X then ((nFree X : Nat) : Int) else 0
theorem box_rd {w : World} {A : Option Addr} {n : Nat} {X : List Bk} (h : RdBk w w.heap.size A n X) (o : Obj) : RdBk (w.alloc o) (w.alloc o).heap.size A n X := (h.below ((Below.refl _ _).alloc (Nat.le_refl _) _)).mono (by simp)
theorem box_below (w : World) (o : Obj) : Below w.heap.size w (w.alloc o) := (Below.refl _ _).alloc (Nat.le_refl _) _
theorem bel_step {w a b : World} (h : Below w.heap.size w a) (k : Below a.heap.size a b) : Below w.heap.size w b := h.trans (k.mono h.size)
theorem rd_step {w a : World} {A : Option Addr} {n : Nat} {X : List Bk} (h : RdBk w w.heap.size A n X) (k : Below w.heap.size w a) : RdBk a a.heap.size A n X := (h.below k).mono k.size

set_option maxHeartbeats 1000000 in
theorem impl_blockCode (A : Option Addr) (n ca : Nat) (X : List Bk) (bi : Int) (w : World) (hX : Small X) (hA : RdBk w w.heap.size A n X) :
    Calls Tryz.prog 220 #[.agg #[.slice A n ca], .int .i64 bi] w fun e w' => e = .returned (.int .i64 (blkCode X bi)) ∧ Below w.heap.size w w' := by
  have hn : n ≤ 1048576 := by have := hX.1; have := hA.1; omega
  have HL := Lib.hid hA.1
  have HA := Lib.hid hA; have HX := Lib.hid hX; clear hA hX
  go_enter Tryz.func220, Tryz.ntmps220
  go_wp2_with fail
  refine (impl_nandRight A n ca X _ HX.out (box_rd HA.out _)).mono ?_
  rintro e w2 ⟨rfl, hb2⟩
  have k2 := (isBlk_new w 25 [.slice A n ca]).below hb2 (by show w.heap.size < (w.alloc _).heap.size; simp)
  have hx2 : w2.cell? ⟨w.heap.size, 0, none⟩ = some (.slice A n ca) := k2.cell rfl
  have HB2 := Lib.hid (bel_step (box_below w _) hb2)
  clear hb2 k2
  by_cases hok : NdOk X
  · rw [ndB_yes hok]
    by_cases h0 : bi < 0
    · have HC := Lib.hid (blkCode_none hok (.inl h0))
      go_wp2
      go_ret
      exact ⟨ret_i HC.out.symm, HB2.out⟩
    · have h0' : decide (bi < 0) = false := by simp; omega
      by_cases h1 : (n : Int) ≤ bi
      · have HC := Lib.hid (blkCode_none hok (bi := bi) (.inr (by rw [HL.out]; exact h1)))
        go_wp2
        go_ret
        exact ⟨ret_i HC.out.symm, HB2.out⟩
      · have HC := Lib.hid (blkCode_ok hok (bi := bi) (by omega) (by rw [HL.out]; omega))
        have h1' : decide ((n : Int) ≤ bi) = false := by simp; omega
        go_wp2
        go_ret
        exact ⟨ret_i HC.out.symm, HB2.out⟩
  · rw [ndB_no hok]
    have HC := Lib.hid (blkCode_form hok (bi := bi))
    go_wp2
    go_ret
    exact ⟨ret_i HC.out.symm, HB2.out⟩

set_option maxHeartbeats 1000000 in
theorem spec_l02Code (A : Option Addr) (n ca : Nat) (X : List Bk) (bi : Int) (w : World) (hX : Small X) (hA : RdBk w w.heap.size A n X) :
    Calls Tryz.prog 233 #[.agg #[.slice A n ca], .int .i64 bi] w fun e w' => e = .returned (.int .i64 (blkCode X bi)) ∧ Below w.heap.size w w' := by
  have hn : n ≤ 1048576 := by have := hX.1; have := hA.1; omega
  have HL := Lib.hid hA.1
  have HA := Lib.hid hA; have HX := Lib.hid hX; clear hA hX
  go_enter Tryz.func233, Tryz.ntmps233
  go_wp2_with fail
  refine (spec_nandRight A n ca X _ HX.out (box_rd HA.out _)).mono ?_
  rintro e w2 ⟨rfl, hb2⟩
  have k2 := (isBlk_new w 25 [.slice A n ca]).below hb2 (by show w.heap.size < (w.alloc _).heap.size; simp)
  have hx2 : w2.cell? ⟨w.heap.size, 0, none⟩ = some (.slice A n ca) := k2.cell rfl
  have HB2 := Lib.hid (bel_step (box_below w _) hb2)
  clear hb2 k2
  by_cases hok : NdOk X
  · rw [ndB_yes hok]
    go_wp2_with fail
    refine (l02There_any A n ca bi w2 hn).mono ?_
    rintro e w3 ⟨rfl, hb3⟩
    have HB3 := Lib.hid (bel_step HB2.out hb3)
    clear hb3
    by_cases h0 : 0 ≤ bi ∧ bi ≤ (n : Int) - 1
    · rw [isB_yes h0]
      have HC := Lib.hid (blkCode_ok hok (bi := bi) h0.1 (by rw [HL.out]; omega))
      go_wp2
      go_ret
      exact ⟨ret_i HC.out.symm, HB3.out⟩
    · rw [isB_no h0]
      have HC := Lib.hid (blkCode_none hok (bi := bi) (by rw [HL.out]; omega))
      go_wp2
      go_ret
      exact ⟨ret_i HC.out.symm, HB3.out⟩
  · rw [ndB_no hok]
    have HC := Lib.hid (blkCode_form hok (bi := bi))
    go_wp2
    go_ret
    exact ⟨ret_i HC.out.symm, HB2.out⟩

theorem usedAns_no {X : List Bk} {bi : Int} (h : ¬ (NdOk X ∧ 0 ≤ bi ∧ bi < X.length)) : usedAns X bi = 0 := by unfold usedAns; rw [if_neg h]
theorem usedAns_yes {X : List Bk} {k : Nat} (h : NdOk X) (hk : k < X.length) : usedAns X (k : Int) = ((uPre (X.getD k zeroBk).pages : Nat) : Int) := by
  unfold usedAns; rw [if_pos ⟨h, by omega, by omega⟩]; rfl

end Go.Proofs.YtloaeglmngcenaaGreatDoor

namespace Go.Proofs.YtloaeglmngcenaaGreatDoor
open Go.RowKit
open Bt (Rc)

/-- an answer's box and its row, laid since U -/
structure MwSt (U u : World) (g : Nat) (A : Option Addr) (c lo hi nR : Nat) (R : List Rc) (C : Int) : Prop where
  bel : Below U.heap.size U u
  box : IsBlk u g 31 [.slice A nR c, .int .i64 C]
  own : OwRc u lo hi A nR R
  pos : U.heap.size ≤ g ∧ U.heap.size ≤ lo ∧ hi ≤ u.heap.size ∧ (g < lo ∨ hi ≤ g) ∧ lo ≤ hi
def MwL8 (Fr : Value → Value → Value → Value → Value → Value → Act) (U : World) (a1 b1 : ByteArray) (A0 : Option Addr) (n0 c0 nR : Nat) (X0 : List Bk) (R : List Rc) (C : Int) (L : Array Bool) (x : Act) (u : World) : Prop :=
  L.size = 7 ∧ (Dn L 6 → ∀ j, j < 6 → Dn L j) ∧ ∃ (s6 s23 s24 s25 s26 s27 : Value) (gn : Nat) (Aw : Option Addr) (cw : Nat) (lo : Nat) (h1 : Nat), x = Fr s6 s23 s24 s25 s26 s27 ∧ Below U.heap.size U u ∧
    (Dn L 0 → s23 = .agg #[.slice A0 n0 c0]) ∧
    (Dn L 1 → ¬ Dn L 6 → (∃ A' : Option Addr, s24 = .agg #[.slice A' n0 n0] ∧ RdBk u u.heap.size A' n0 X0)) ∧
    (Dn L 2 → s25 = slotsV a1 b1) ∧
    (Dn L 3 → s26 = slotsV a1 b1) ∧
    (Dn L 4 → (s27 = .agg #[.slice Aw nR cw, .int .i64 C] ∧ U.heap.size ≤ lo)) ∧
    (Dn L 4 → (OwRc u lo h1 Aw nR R ∧ h1 ≤ u.heap.size ∧ lo ≤ h1)) ∧
    (Dn L 4 → (Dn L 5 → gn < lo ∨ h1 ≤ gn)) ∧
    (Dn L 5 → (s6 = .pointer (some ⟨gn, 0, none⟩) ∧ U.heap.size ≤ gn)) ∧
    (Dn L 5 → ¬ Dn L 6 → IsBlk u gn 31 [.slice none 0 0, .int .i64 0]) ∧
    (Dn L 6 → IsBlk u gn 31 [.slice Aw nR cw, .int .i64 C])
def MwL10 (Fr : Value → Value → Value → Value → Value → Act) (U : World) (a1 b1 : ByteArray) (AX : Option Addr) (n0 nR : Nat) (R : List Rc) (C : Int) (L : Array Bool) (x : Act) (u : World) : Prop :=
  L.size = 6 ∧ (Dn L 5 → ∀ j, j < 5 → Dn L j) ∧ ∃ (s8 s30 s31 s32 s33 : Value) (gn : Nat) (Aw : Option Addr) (cw : Nat) (lo : Nat) (h1 : Nat), x = Fr s8 s30 s31 s32 s33 ∧ Below U.heap.size U u ∧
    (Dn L 0 → s30 = .agg #[.slice AX n0 n0]) ∧
    (Dn L 1 → s31 = slotsV a1 b1) ∧
    (Dn L 2 → s32 = slotsV a1 b1) ∧
    (Dn L 3 → (s33 = .agg #[.slice Aw nR cw, .int .i64 C] ∧ U.heap.size ≤ lo)) ∧
    (Dn L 3 → (OwRc u lo h1 Aw nR R ∧ h1 ≤ u.heap.size ∧ lo ≤ h1)) ∧
    (Dn L 3 → (Dn L 4 → gn < lo ∨ h1 ≤ gn)) ∧
    (Dn L 4 → (s8 = .pointer (some ⟨gn, 0, none⟩) ∧ U.heap.size ≤ gn)) ∧
    (Dn L 4 → ¬ Dn L 5 → IsBlk u gn 31 [.slice none 0 0, .int .i64 0]) ∧
    (Dn L 5 → IsBlk u gn 31 [.slice Aw nR cw, .int .i64 C])
def MwL27 (Fr : Value → Value → Value → Value → Value → Value → Act) (U : World) (a1 b1 : ByteArray) (A0 : Option Addr) (n0 c0 nR : Nat) (X0 : List Bk) (R : List Rc) (C : Int) (L : Array Bool) (x : Act) (u : World) : Prop :=
  L.size = 7 ∧ (Dn L 6 → ∀ j, j < 6 → Dn L j) ∧ ∃ (s12 s65 s66 s67 s68 s69 : Value) (gn : Nat) (Aw : Option Addr) (cw : Nat) (lo : Nat) (h1 : Nat), x = Fr s12 s65 s66 s67 s68 s69 ∧ Below U.heap.size U u ∧
    (Dn L 0 → s65 = .agg #[.slice A0 n0 c0]) ∧
    (Dn L 1 → ¬ Dn L 6 → (∃ A' : Option Addr, s66 = .agg #[.slice A' n0 n0] ∧ RdBk u u.heap.size A' n0 X0)) ∧
    (Dn L 2 → s67 = slotsV a1 b1) ∧
    (Dn L 3 → s68 = slotsV a1 b1) ∧
    (Dn L 4 → (s69 = .agg #[.slice Aw nR cw, .int .i64 C] ∧ U.heap.size ≤ lo)) ∧
    (Dn L 4 → (OwRc u lo h1 Aw nR R ∧ h1 ≤ u.heap.size ∧ lo ≤ h1)) ∧
    (Dn L 4 → (Dn L 5 → gn < lo ∨ h1 ≤ gn)) ∧
    (Dn L 5 → (s12 = .pointer (some ⟨gn, 0, none⟩) ∧ U.heap.size ≤ gn)) ∧
    (Dn L 5 → ¬ Dn L 6 → IsBlk u gn 31 [.slice none 0 0, .int .i64 0]) ∧
    (Dn L 6 → IsBlk u gn 31 [.slice Aw nR cw, .int .i64 C])
end Go.Proofs.YtloaeglmngcenaaGreatDoor

namespace Go.Proofs.YtloaeglmngcenaaGreatDoor
open Bt (Rc)

/-- record r determines what sector s contains -/
def tch (r : Rc) (s : Int) : Bool := if r.k = 1 ∨ r.k = 2 then decide (r.s = s) else decide (r.k = 3)
/-- it does so at the time a -/
def hit (r : Rc) (s a : Int) : Bool := decide (r.t ≤ a) && tch r s
theorem hit_late {r : Rc} {s a : Int} (h : a < r.t) : hit r s a = false := by unfold hit; rw [decide_eq_false (by omega)]; rfl
theorem hit_tch {r : Rc} {s a : Int} (h : r.t ≤ a) : hit r s a = tch r s := by unfold hit; rw [decide_eq_true h]; rfl
/-- the last place below k that does so, -1 without -/
def lastT (X : List Rc) (s a : Int) : Nat → Int
  | 0 => -1
  | k + 1 => if hit (X.getD k Rc.zero) s a = true then (k : Int) else lastT X s a k
theorem lastT_yes {X : List Rc} {s a : Int} {k : Nat} (h : hit (X.getD k Rc.zero) s a = true) : lastT X s a (k + 1) = (k : Int) := by simp only [lastT, h, if_true]
theorem lastT_no {X : List Rc} {s a : Int} {k : Nat} (h : hit (X.getD k Rc.zero) s a = false) : lastT X s a (k + 1) = lastT X s a k := by simp only [lastT, h]; rfl
theorem lastT_ge (X : List Rc) (s a : Int) (k : Nat) : -1 ≤ lastT X s a k := by
  induction k with
  | zero => simp [lastT]
  | succ k ih => simp only [lastT]; split <;> omega
theorem lastT_lt (X : List Rc) (s a : Int) (k : Nat) : lastT X s a k < (k : Int) := by
  induction k with
  | zero => simp [lastT]
  | succ k ih => simp only [lastT]; split <;> omega
/-- the places of a trail among the first m records -/
def trl (X : List Rc) (s : Int) : Nat → Int → List Nat
  | 0, _ => []
  | m + 1, a => if hit (X.getD m Rc.zero) s a = true then m :: (if (X.getD m Rc.zero).k = 3 then trl X s m (X.getD m Rc.zero).o else []) else trl X s m a
theorem trl_zero (X : List Rc) (s a : Int) : trl X s 0 a = [] := rfl
theorem trl_no {X : List Rc} {s a : Int} {m : Nat} (h : hit (X.getD m Rc.zero) s a = false) : trl X s (m + 1) a = trl X s m a := by simp only [trl, h]; rfl
theorem trl_roll {X : List Rc} {s a : Int} {m : Nat} (h : hit (X.getD m Rc.zero) s a = true) (hk : (X.getD m Rc.zero).k = 3) : trl X s (m + 1) a = m :: trl X s m (X.getD m Rc.zero).o := by simp only [trl, h, hk, if_true]
theorem trl_end {X : List Rc} {s a : Int} {m : Nat} (h : hit (X.getD m Rc.zero) s a = true) (hk : (X.getD m Rc.zero).k ≠ 3) : trl X s (m + 1) a = [m] := by simp only [trl, h, hk, if_true, if_false]
theorem trl_of_last (X : List Rc) (s a : Int) (m : Nat) : (lastT X s a m = -1 ∧ trl X s m a = []) ∨
    ∃ i : Nat, i < m ∧ lastT X s a m = (i : Int) ∧ hit (X.getD i Rc.zero) s a = true ∧ trl X s m a = i :: (if (X.getD i Rc.zero).k = 3 then trl X s i (X.getD i Rc.zero).o else []) := by
  induction m with
  | zero => exact .inl ⟨rfl, rfl⟩
  | succ m ih =>
    by_cases h : hit (X.getD m Rc.zero) s a = true
    · refine .inr ⟨m, by omega, lastT_yes h, h, ?_⟩
      simp only [trl, h, if_true]
    · have h : hit (X.getD m Rc.zero) s a = false := by simpa using h
      rw [lastT_no h, trl_no h]
      rcases ih with ih | ⟨i, h1, h2, h3, h4⟩
      · exact .inl ih
      · exact .inr ⟨i, by omega, h2, h3, h4⟩
theorem trl_lt (X : List Rc) (s : Int) : ∀ (m : Nat) (a : Int), ∀ i ∈ trl X s m a, i < m := by
  intro m
  induction m with
  | zero => intro a i hi; cases hi
  | succ m ih =>
    intro a i hi
    by_cases h : hit (X.getD m Rc.zero) s a = true
    · by_cases hk : (X.getD m Rc.zero).k = 3
      · rw [trl_roll h hk] at hi
        rcases List.mem_cons.1 hi with rfl | hi
        · omega
        · have := ih _ i hi; omega
      · rw [trl_end h hk] at hi
        have := List.mem_singleton.1 hi; omega
    · rw [trl_no (by simpa using h)] at hi
      have := ih _ i hi; omega
theorem trl_len (X : List Rc) (s : Int) : ∀ (m : Nat) (a : Int), (trl X s m a).length ≤ m := by
  intro m
  induction m with
  | zero => intro a; simp [trl]
  | succ m ih =>
    intro a
    simp only [trl]
    split
    · split
      · have := ih (X.getD m Rc.zero).o
        rw [List.length_cons]; omega
      · simp
    · have := ih a; omega
/-- the records of a trail -/
def trlR (X : List Rc) (s : Int) (m : Nat) (a : Int) : List Rc := (trl X s m a).map fun i => X.getD i Rc.zero
theorem trlR_len (X : List Rc) (s : Int) (m : Nat) (a : Int) : (trlR X s m a).length ≤ m := by unfold trlR; rw [List.length_map]; exact trl_len X s m a
theorem trlR_of_last (X : List Rc) (s a : Int) (m : Nat) : (lastT X s a m = -1 ∧ trlR X s m a = []) ∨
    ∃ i : Nat, i < m ∧ lastT X s a m = (i : Int) ∧ trlR X s m a = X.getD i Rc.zero :: (if (X.getD i Rc.zero).k = 3 then trlR X s i (X.getD i Rc.zero).o else []) := by
  rcases trl_of_last X s a m with ⟨h1, h2⟩ | ⟨i, h1, h2, h3, h4⟩
  · exact .inl ⟨h1, by unfold trlR; rw [h2]; rfl⟩
  · refine .inr ⟨i, h1, h2, ?_⟩
    unfold trlR
    rw [h4, List.map_cons]
    split <;> rfl
/-- the Seqs of a trail, as Trail answers them -/
def trailOf (X : List Rc) (s a : Int) : List Int := if hRight X = true ∧ 0 ≤ s ∧ s ≤ 5 then (trlR X s X.length a).map (·.q) else []
theorem trailOf_len (X : List Rc) (s a : Int) : (trailOf X s a).length ≤ X.length := by
  unfold trailOf
  split
  · rw [List.length_map]; exact trlR_len X s X.length a
  · simp
end Go.Proofs.YtloaeglmngcenaaGreatDoor

namespace Go.Proofs.YtloaeglmngcenaaGreatDoor
open Go.RowKit

abbrev numV (z : Int) : Value := .int .i64 z
def nmF (L : List Int) (c : Nat) : Value := .int .i64 (L.getD c 0)
def RdNs (w : World) (B : Nat) (A : Option Addr) (n : Nat) (L : List Int) : Prop :=
  L.length = n ∧ (0 < n → ∃ g, A = some ⟨g, 0, none⟩ ∧ g < B ∧ Row w g n (nmF L))
def OwNs (w : World) (lo hi : Nat) (A : Option Addr) (n : Nat) (L : List Int) : Prop :=
  L.length = n ∧ (0 < n → ∃ g, A = some ⟨g, 0, none⟩ ∧ lo ≤ g ∧ g < hi ∧ Row w g n (nmF L))
section
variable {w w' : World} {lo hi lo' hi' B B' n : Nat} {A : Option Addr} {L : List Int}
theorem RdNs.below (h : RdNs w B A n L) (hb : Below B w w') : RdNs w' B A n L :=
  ⟨h.1, fun hn => by obtain ⟨g, hA, hg, hr⟩ := h.2 hn; exact ⟨g, hA, hg, hr.below hb hg⟩⟩
theorem OwNs.same (h : OwNs w lo hi A n L) (hb : ∀ k, lo ≤ k → k < hi → w'.heap[k]? = w.heap[k]?) : OwNs w' lo hi A n L :=
  ⟨h.1, fun hn => by obtain ⟨g, hA, h1, h2, hr⟩ := h.2 hn; exact ⟨g, hA, h1, h2, hr.same (hb g h1 h2)⟩⟩
theorem OwNs.below (h : OwNs w lo hi A n L) (hb : Below B w w') (hB : hi ≤ B) : OwNs w' lo hi A n L := h.same fun k _ hk => hb.block k (by omega)
theorem OwNs.btw (h : OwNs w lo hi A n L) (hb : Btw lo' hi' w w') (hs : hi ≤ w.heap.size) (hd : hi ≤ lo' ∨ hi' ≤ lo) : OwNs w' lo hi A n L :=
  h.same fun k _ hk => hb.block k (by omega) (by omega)
theorem OwNs.mono (h : OwNs w lo hi A n L) (hl : lo' ≤ lo) (hh : hi ≤ hi') : OwNs w lo' hi' A n L :=
  ⟨h.1, fun hn => by obtain ⟨g, hA, h1, h2, hr⟩ := h.2 hn; exact ⟨g, hA, by omega, by omega, hr⟩⟩
theorem OwNs.rd (h : OwNs w lo hi A n L) (hB : hi ≤ B) : RdNs w B A n L :=
  ⟨h.1, fun hn => by obtain ⟨g, hA, h1, h2, hr⟩ := h.2 hn; exact ⟨g, hA, by omega, hr⟩⟩
end
theorem owNs_nil (w : World) (lo hi : Nat) (A : Option Addr) : OwNs w lo hi A 0 [] := ⟨rfl, fun h => absurd h (by omega)⟩
theorem nums_at (L : List Int) : ∀ i, i < L.length * 1 → (L.map numV)[i]? = some (nmF L i) := by
  intro i hi
  rw [Nat.mul_one] at hi
  simp [nmF, List.getD_eq_getElem?_getD, List.getElem?_eq_getElem hi]
theorem owNs_of_own {w : World} {lo cap : Nat} {e : TypeId} {A : Option Addr} {L : List Int} (h : w.ownsRow lo e 1 (.slice A L.length cap) L.length (L.map numV)) : OwNs w lo w.heap.size A L.length L := by
  refine ⟨rfl, fun hn => ?_⟩
  obtain ⟨g, cap', hv, hb, hlt⟩ := h.form hn
  simp only [Value.slice.injEq] at hv
  obtain ⟨rfl, -, rfl⟩ := hv
  have hr := row_of_ownR h (nums_at L)
  rw [Nat.mul_one] at hr
  exact ⟨g, rfl, hb, hlt, hr⟩
theorem own_slice {w : World} {lo n : Nat} {e : TypeId} {v : Value} {xs : List Value} {size : Nat} (h : w.ownsRow lo e size v n xs) : ∃ A cap, v = .slice A n cap := by
  rcases h.2 with ⟨rfl, rfl⟩ | ⟨g, cap, cur, rfl, -⟩
  · exact ⟨none, 0, rfl⟩
  · exact ⟨_, cap, rfl⟩
/-- an answer with a list of numbers, in memory of its own -/
def RetNs (w : World) (L : List Int) (e : Ending) (w' : World) : Prop :=
  ∃ (A : Option Addr) (ca : Nat), e = .returned (.slice A L.length ca) ∧ OwNs w' w.heap.size w'.heap.size A L.length L ∧ Below w.heap.size w w'

/-! numbers marked from k on -/
def mkN (k c : Nat) : Value := .int .i64 ((k + c : Nat) : Int)
theorem upto_set1 {α : Type} {k c : Nat} {f z : Nat → α} {u : α} (h : f k = u) : (if c = k then u else upto k 1 f z c) = upto (k + 1) 1 f z c := by
  subst h
  by_cases e : c = k
  · rw [if_pos e, upto_lt (by omega), e]
  · rw [if_neg e]
    by_cases hc : c < k
    · rw [upto_lt (by omega), upto_lt (by omega)]
    · rw [upto_ge (by omega), upto_ge (by omega)]
def MkNs (w : World) (lo hi : Nat) (A : Option Addr) (n k : Nat) : Prop := 0 < n → ∃ g, A = some ⟨g, 0, none⟩ ∧ lo ≤ g ∧ g < hi ∧ Row w g n (mkN k)
theorem MkNs.same {w w' : World} {lo hi n k : Nat} {A : Option Addr} (h : MkNs w lo hi A n k) (hb : ∀ j, lo ≤ j → j < hi → w'.heap[j]? = w.heap[j]?) : MkNs w' lo hi A n k :=
  fun hn => by obtain ⟨g, hA, h1, h2, hr⟩ := h hn; exact ⟨g, hA, h1, h2, hr.same (hb g h1 h2)⟩
theorem MkNs.below {w w' : World} {lo hi n k B : Nat} {A : Option Addr} (h : MkNs w lo hi A n k) (hb : Below B w w') (hB : hi ≤ B) : MkNs w' lo hi A n k :=
  h.same fun j _ hj => hb.block j (by omega)
end Go.Proofs.YtloaeglmngcenaaGreatDoor

namespace Go.Proofs.YtloaeglmngcenaaGreatDoor
open Go.RowKit
open Bt (Rc)

set_option maxHeartbeats 1000000 in
theorem touches_any (r : Rc) (s : Int) (w : World) : Calls Tryz.prog 297 #[recV r, .int .i64 s] w fun e w' => e = .returned (.bool (tch r s)) ∧ Below w.heap.size w w' := by
  obtain ⟨k, sc, q, t, o, d⟩ := r
  have hb : ∀ x, Below w.heap.size w (w.alloc x) := fun x => (Below.refl _ _).alloc (Nat.le_refl _) _
  have HB := Lib.hid hb; clear hb
  unfold tch
  simp only
  by_cases h1 : k = 1
  · subst h1
    rw [if_pos (by omega)]
    by_cases hs : sc = s
    · have hs' : (sc == s) = true := by simpa using hs
      rw [decide_eq_true hs]
      clear hs
      go_enter Tryz.func297, Tryz.ntmps297
      go_wp2
      go_ret
      exact ⟨rfl, HB.out _⟩
    · have hs' : (sc == s) = false := by simpa using hs
      rw [decide_eq_false hs]
      clear hs
      go_enter Tryz.func297, Tryz.ntmps297
      go_wp2
      go_ret
      exact ⟨rfl, HB.out _⟩
  by_cases h2 : k = 2
  · subst h2
    rw [if_pos (by omega)]
    by_cases hs : sc = s
    · have hs' : (sc == s) = true := by simpa using hs
      rw [decide_eq_true hs]
      clear hs
      go_enter Tryz.func297, Tryz.ntmps297
      go_wp2
      go_ret
      exact ⟨rfl, HB.out _⟩
    · have hs' : (sc == s) = false := by simpa using hs
      rw [decide_eq_false hs]
      clear hs
      go_enter Tryz.func297, Tryz.ntmps297
      go_wp2
      go_ret
      exact ⟨rfl, HB.out _⟩
  rw [if_neg (by omega)]
  have e1 : (k == 1) = false := by simpa using h1
  have e2 : (k == 2) = false := by simpa using h2
  by_cases h3 : k = 3
  · subst h3
    go_enter Tryz.func297, Tryz.ntmps297
    go_wp2
    go_ret
    exact ⟨rfl, HB.out _⟩
  · have e3 : (k == 3) = false := by simpa using h3
    rw [decide_eq_false h3]
    clear h1 h2 h3
    go_enter Tryz.func297, Tryz.ntmps297
    go_wp2
    go_ret
    exact ⟨rfl, HB.out _⟩

set_option maxHeartbeats 1000000 in
theorem lastTouch_any (A : Option Addr) (N m ca : Nat) (X : List Rc) (s a : Int) (w : World) (hm : m ≤ N) (hN : N ≤ 1048576) (hA : RdRc w w.heap.size A N X) :
    Calls Tryz.prog 271 #[.slice A m ca, .int .i64 s, .int .i64 a] w fun e w' => e = .returned (.int .i64 (lastT X s a m)) ∧ Below w.heap.size w w' := by
  have HA := Lib.hid hA; clear hA
  go_enter Tryz.func271, Tryz.ntmps271
  go_wp2
  go_loopw [7] (fun i wr => ∃ k : Nat, k ≤ m ∧ i = .int .i64 ((k : Int) - 1) ∧ lastT X s a k = lastT X s a m ∧ Below w.heap.size w wr) (fun i _ => (intOf i + 1).toNat)
  case atStart => exact ⟨m, by omega, rfl, rfl, Below.refl _ _⟩
  case round =>
    obtain ⟨k, hk, rfl, hl, hbel⟩ := hrel
    have HL := Lib.hid hl; have HW := Lib.hid hbel
    clear hl
    by_cases h0 : k = 0
    · subst h0
      clear hbel
      go_wp2
      go_ret
      exact ⟨ret_i (by rw [← HL.out]; rfl), HW.out⟩
    · obtain ⟨j, rfl⟩ : ∃ j, k = j + 1 := ⟨k - 1, by omega⟩
      obtain ⟨g, off, rfl, hg, hc0, hc1, hc2, hc3, hc4, hc5⟩ := (HA.out.below hbel).at (k := j) (by omega)
      have HY : Hid (hit (X.getD j Rc.zero) s a = true → lastT X s a (j + 1) = (j : Int)) := Lib.hid (fun h => lastT_yes h)
      have HNo : Hid (hit (X.getD j Rc.zero) s a = false → lastT X s a (j + 1) = lastT X s a j) := Lib.hid (fun h => lastT_no h)
      rw [show (((j + 1 : Nat) : Int) - 1) = (j : Int) by omega]
      generalize X.getD j Rc.zero = r at *
      clear hbel
      have hj0 : (0 : Int) ≤ (j : Int) := by omega
      by_cases ht : a < r.t
      · have HH := Lib.hid (hit_late (s := s) ht)
        go_wp2
        go_roundw
        case rel => exact ⟨j, by omega, by go_num, by rw [← HL.out, HNo.out HH.out], HW.out⟩
        case measure => simp [intOf]
      · have ht' : r.t ≤ a := by omega
        have HH := Lib.hid (hit_tch (s := s) ht')
        clear ht
        go_wp2_with fail
        refine (touches_any r s _).mono ?_
        rintro e w1 ⟨rfl, hb1⟩
        have HB1 := Lib.hid (HW.out.trans (hb1.mono HW.out.size))
        clear hb1
        by_cases htc : tch r s = true
        · rw [htc] at HH ⊢
          clear htc
          go_wp2
          go_ret
          exact ⟨ret_i (by rw [← HL.out, HY.out HH.out]), HB1.out⟩
        · have htc : tch r s = false := by simpa using htc
          rw [htc] at HH ⊢
          clear htc
          go_wp2
          go_roundw
          case rel => exact ⟨j, by omega, by go_num, by rw [← HL.out, HNo.out HH.out], HB1.out⟩
          case measure => simp [intOf]
end Go.Proofs.YtloaeglmngcenaaGreatDoor

namespace Go.Proofs.YtloaeglmngcenaaGreatDoor
open Go.RowKit Go.Shelf
open Bt (Rc)
attribute [local go_sem] Oper.semAt_some

def lenOf : Value → Nat
  | .slice _ n _ => n
  | _ => 0
/-- what a round of the body keeps: old memory below n₀, and the block b -/
def KpB (n₀ b : Nat) (W W' : World) : Prop := Below n₀ W W' ∧ W'.heap[b]? = W.heap[b]?
theorem KpB.t {n₀ b : Nat} {A B C : World} (h : KpB n₀ b A B) (k : KpB n₀ b B C) : KpB n₀ b A C := ⟨h.1.trans k.1, k.2.trans h.2⟩
theorem KpB.b {n₀ b : Nat} {w : World} (hn : n₀ ≤ w.heap.size) (hb : b < w.heap.size) (W : World) (l : Nat) (o o' : Obj) (hl : w.heap.size ≤ l) (h : W.heap[l]? = some o) (h1 : o.isCells = false) (h2 : o.isWalk = false) : KpB n₀ b W (W.putObj l o') :=
  ⟨belowK_b hn W l o o' hl h h1 h2, World.putObj_heap_other (fun e => by omega)⟩
theorem grownBy_of_below {W W' : World} (h : Below W.heap.size W W') : W.grownBy W' none := ⟨h.os, h.tape, h.output, h.size, fun k hk _ => h.block k hk⟩

set_option maxHeartbeats 1000000 in
theorem trailOf_any (A : Option Addr) (n ca : Nat) (s a : Int) (w : World) :
    Calls Tryz.prog 247 #[.slice A n ca, .int .i64 s, .int .i64 a] w fun e w' =>
      e = .returned (.func (.func 270) #[] #[.pointer (some ⟨w.heap.size, 0, none⟩), .pointer (some ⟨w.heap.size + 1 + 1, 0, none⟩), .pointer (some ⟨w.heap.size + 1, 0, none⟩)]) ∧
      w' = ((w.alloc (.cells #[.slice A n ca] 27)).alloc (.cells #[.int .i64 s] 2)).alloc (.cells #[.int .i64 a] 2) := by
  go_enter Tryz.func247, Tryz.ntmps247
  go_wp2
  go_ret
  exact ⟨rfl, rfl⟩

set_option maxRecDepth 100000 in
set_option maxHeartbeats 4000000 in
theorem trail1_in (n : Nat) (l b0 ba bs n₀ : Nat) (A : Option Addr) (N ca : Nat) (X : List Rc) (s a : Int) (J Jx : List Rc → World → Prop) (W : World) (hn : 1 ≤ n) (hN : N ≤ 1048576) (hca : N ≤ ca) (hJ : AbidesFrom W.heap.size J)
    (hY : ∀ pre x W1, J pre W1 → pre.length < N → YieldAt Fence.wide (n - 1) Tryz.prog l #[recV x] W1 fun e W' =>
      (e = .returned (.bool true) ∧ J (pre ++ [x]) W' ∧ KpB n₀ bs W1 W') ∨ (e = .returned (.bool false) ∧ Jx (pre ++ [x]) W'))
    (hc0 : W.cell? ⟨b0, 0, none⟩ = some (.slice A N ca)) (hca' : W.cell? ⟨ba, 0, none⟩ = some (.int .i64 a)) (hbs : Boxed W bs 2 (.int .i64 s)) (hn₀ : n₀ ≤ W.heap.size) (hR : RdRc W n₀ A N X) (h0 : J [] W) :
    CallsIn Fence.wide n Tryz.prog 270 #[.func (.yield l) #[] #[], .pointer (some ⟨b0, 0, none⟩), .pointer (some ⟨ba, 0, none⟩), .pointer (some ⟨bs, 0, none⟩)] W fun e W' => (∃ v, e = .returned v) ∧
      ((∃ ys, ys = trlR X s N a ∧ J ys W') ∨ (∃ pre, True ∧ Jx pre W')) := by
  have HR := Lib.hid hR; have HBS := Lib.hid hbs; clear hR hbs
  refine callsIn_of_wp Tryz.func270 rfl trivial ?_ rfl
  simp only [Tryz.ntmps270, List.size_toArray, List.length_cons, List.length_nil, Nat.reduceAdd, Nat.reduceSub, Array.replicate_succ, Array.replicate_zero, List.push_toArray, List.append_toArray, List.nil_append, List.cons_append]
  gi_wp2
  gi_region
  all_goals
    have HR1 : Hid (RdRc W.drew n₀ A N X) := HR.out.below ((Below.refl _ _).drew)
    have HBS1 : Hid (Boxed W.drew bs 2 (.int .i64 s)) := HBS.out
    have H0 : Hid (J [] W.drew) := hJ [] W W.drew none h0 (grownBy_of_below ((Below.refl _ _).drew)) (fun r e => by cases e)
    have hz1 : W.heap.size ≤ W.drew.heap.size := Nat.le_refl _
    generalize W.drew = Wd at HR1 HBS1 H0 hz1 ⊢
    gi_wp2
    gi_loopw [5, 6] (fun rst tm wr => ∃ (pre : List Rc) (m c : Nat) (b : Int), rst = .slice A m c ∧ tm = .int .i64 b ∧ m ≤ N ∧ m ≤ c ∧ pre ++ trlR X s m b = trlR X s N a ∧ RdRc wr n₀ A N X ∧ Boxed wr bs 2 (.int .i64 s) ∧ W.heap.size ≤ wr.heap.size ∧ J pre wr) (fun rst _ _ => lenOf rst)
    case atStart => exact ⟨[], N, ca, a, rfl, rfl, Nat.le_refl _, hca, rfl, HR1.out, HBS1.out, hz1, H0.out⟩
    case round =>
      obtain ⟨pre, m, c, b, rfl, rfl, hm, hmc, htr, hrd, hbx, hsz, hJp⟩ := hrel
      have HTR := Lib.hid htr; have HRD := Lib.hid hrd; have HBX := Lib.hid hbx; have HJ := Lib.hid hJp
      have hcs := hbx.cell
      clear htr hrd hbx hJp
      gi_wp2_with fail
      refine ⟨trivial, ?_⟩
      refine (callsIn_wide.2 (lastTouch_any A N m c X s b wr hm hN (HRD.out.mono (Nat.le_trans hn₀ hsz)))).mono ?_
      rintro e w1 ⟨rfl, hb1⟩
      have HRD1 := Lib.hid (HRD.out.below (hb1.mono (Nat.le_trans hn₀ hsz)))
      have HBX1 : Hid (Boxed w1 bs 2 (.int .i64 s)) := (hb1.block bs HBX.out.lt).trans HBX.out
      have HJ1 : Hid (J pre w1) := hJ pre wr w1 none HJ.out (grownBy_of_below hb1) (fun r e => by cases e)
      have hsz1 : W.heap.size ≤ w1.heap.size := Nat.le_trans hsz hb1.size
      clear hb1 hcs
      rcases trlR_of_last X s b m with ⟨e1, e2⟩ | ⟨i, hi, e1, e2⟩
      · rw [e1]
        have E2 := Lib.hid e2
        clear e1 e2
        gi_wp2
        refine ⟨fun _ h => (by cases h), ?_⟩
        gi_wp2
        refine bodyPost_ret (results_none rfl _ _ _) rfl ?_
        refine ⟨⟨_, rfl⟩, .inl ⟨pre, ?_, HJ1.out⟩⟩
        rw [← HTR.out, E2.out, List.append_nil]
      · rw [e1]
        have E2 := Lib.hid e2
        clear e1 e2
        have hlen : pre.length < N := by
          have h1 := congrArg List.length HTR.out
          rw [List.length_append, E2.out, List.length_cons] at h1
          have h2 := trlR_len X s N a
          omega
        obtain ⟨g, off, rfl, hg, c0, c1, c2, c3, c4, c5⟩ := HRD1.out.at (show i < N by omega)
        obtain ⟨p, hp⟩ : ∃ p, p = X.getD i Rc.zero := ⟨_, rfl⟩
        rw [← hp] at c0 c1 c2 c3 c4 c5 E2
        clear hp
        obtain ⟨fn, tmps, assign, body, hy, hRo⟩ := hY pre p w1 HJ1.out hlen
        have hi0 : (0 : Int) ≤ (i : Int) := by omega
        have him : (i : Int) < (m : Int) := by omega
        gi_wp2
        refine hRo.mono ?_
        rintro e w3 (⟨rfl, hJ3, hk3⟩ | ⟨rfl, hJx3⟩)
        · have HRD3 := Lib.hid (HRD1.out.below hk3.1)
          have HBX3 : Hid (Boxed w3 bs 2 (.int .i64 s)) := hk3.2.trans HBX1.out
          have HJ3 := Lib.hid hJ3
          have hsz3 : W.heap.size ≤ w3.heap.size := Nat.le_trans hsz1 hk3.1.size
          have d0 : w3.cell? ⟨g, off + i * 6, none⟩ = some (.int .i64 p.k) := (hk3.1.cell (p := ⟨g, off + i * 6, none⟩) hg).trans c0
          have d4 : w3.cell? ⟨g, off + i * 6 + 4, none⟩ = some (.int .i64 p.o) := (hk3.1.cell (p := ⟨g, off + i * 6 + 4, none⟩) hg).trans c4
          clear hJ3 hk3 c0 c1 c2 c3 c4 c5
          by_cases hk : p.k = 3
          · have hk' : (p.k == 3) = true := by simpa using hk
            have hk'' : (p.k != 3) = false := by simpa using hk
            rw [if_pos hk] at E2
            clear hk
            have hic : (i : Int) ≤ (c : Int) := by omega
            gi_wp2
            gi_region
            all_goals
              gi_wp2
              go_roundw
              case rel => exact ⟨pre ++ [p], i, i, p.o, rfl, rfl, by omega, Nat.le_refl _, by rw [List.append_assoc, ← HTR.out, E2.out]; rfl, HRD3.out.below ((Below.refl _ _).drew), HBX3.out, hsz3, hJ (pre ++ [p]) w3 _ none HJ3.out (grownBy_of_below ((Below.refl _ _).drew)) (fun r e => by cases e)⟩
              case measure => simp [lenOf]; omega
          · have hk' : (p.k == 3) = false := by simpa using hk
            have hk'' : (p.k != 3) = true := by simpa using hk
            rw [if_neg hk] at E2
            clear hk
            gi_wp2
            refine bodyPost_ret (results_none rfl _ _ _) rfl ?_
            refine ⟨⟨_, rfl⟩, .inl ⟨pre ++ [p], ?_, HJ3.out⟩⟩
            rw [← HTR.out, E2.out]
        · gi_wp2
          refine bodyPost_ret (results_none rfl _ _ _) rfl ?_
          exact ⟨⟨_, rfl⟩, .inr ⟨pre ++ [p], trivial, hJx3⟩⟩

/-- **The iterator of a trail hands on its records, in its order; or the first of them, where a round has said 'no more'.** -/
theorem trail_stops (n : Nat) (hn : 1 ≤ n) (b0 ba bs n₀ : Nat) (A : Option Addr) (N ca : Nat) (X : List Rc) (s a : Int) (w : World) (hN : N ≤ 1048576) (hca : N ≤ ca) (hb0 : b0 < w.heap.size) (hba : ba < w.heap.size) (hn₀ : n₀ ≤ w.heap.size)
    (hc0 : w.cell? ⟨b0, 0, none⟩ = some (.slice A N ca)) (hc1 : w.cell? ⟨ba, 0, none⟩ = some (.int .i64 a)) (hbs : Boxed w bs 2 (.int .i64 s)) (hR : RdRc w n₀ A N X) :
    SeqStopsK Fence.wide n Tryz.prog 270 #[.pointer (some ⟨b0, 0, none⟩), .pointer (some ⟨ba, 0, none⟩), .pointer (some ⟨bs, 0, none⟩)] (fun r : Rc => #[recV r]) (KpB n₀ bs) (fun ys => ys = trlR X s N a) (fun _ => True) N w :=
  fun l J Jx W hW hJ _ hY h0 => trail1_in n l b0 ba bs n₀ A N ca X s a J Jx W hn hN hca hJ hY ((hW.cell (p := ⟨b0, 0, none⟩) hb0).trans hc0) ((hW.cell (p := ⟨ba, 0, none⟩) hba).trans hc1) ((hW.block bs hbs.lt).trans hbs) (Nat.le_trans hn₀ hW.size) (hR.below (hW.mono hn₀)) h0
end Go.Proofs.YtloaeglmngcenaaGreatDoor

namespace Go.Proofs.YtloaeglmngcenaaGreatDoor
open Go.RowKit Go.Shelf
open Bt (Rc)
attribute [local go_sem] Oper.semAt_some

theorem info_num : (Tryz.prog.info? 2).map (fun i => (i.zero, i.size, i.bytes)) = some (some (.int .i64 0), 1, 8) := by kernel_rfl
theorem IsBlk.kept {W W' : World} {row : Option Nat} {g : Nat} {e : TypeId} {cs : List Value} (h : IsBlk W g e cs) (hg : W.grownBy W' row) (hr : ∀ r, row = some r → ∃ o : Obj, W.heap[r]? = some o ∧ o.isCells = false) : IsBlk W' g e cs :=
  (hg.block g h.lt (fun e => by obtain ⟨o, ho, hc⟩ := hr g e.symm; unfold IsBlk at h; rw [h] at ho; cases ho; cases hc)).trans h
/-- a collected element, appended to the row whose slice lies in box B, and stored there -/
theorem coll_step {W w1 : World} {n₀ base B bs : Nat} {t e : TypeId} {v v' : Value} {k m : Nat} {xs ys : List Value} {tmp : Obj} (hv : Boxed W B t v) (hrow : W.ownsRow base e 1 v k xs) (hB : B < base) (hbs : bs < base) (hne : bs ≠ B) (hn₀ : n₀ ≤ B) (hbase : base ≤ W.heap.size)
    (hg : (W.alloc tmp).grownBy w1 v.ownBlock) (hown : w1.ownsRow base e 1 v' m ys) :
    Boxed w1 B t v ∧ Boxed (w1.setCell ⟨B, 0, none⟩ v') B t v' ∧ (w1.setCell ⟨B, 0, none⟩ v').ownsRow base e 1 v' m ys ∧ KeepsOthers W (w1.setCell ⟨B, 0, none⟩ v') ∧ KpB n₀ bs W (w1.setCell ⟨B, 0, none⟩ v') ∧ w1.heap.size ≤ (w1.setCell ⟨B, 0, none⟩ v').heap.size := by
  have hrow' := hrow.alloc tmp
  have hlt : ∀ q, v.ownBlock = some q → base ≤ q := fun q hq => (own_block_ltR hrow hq).1
  have hb1 : Below base W w1 := ((Below.refl _ W).alloc hbase tmp).grown hg (by simp; omega) hlt
  have b1 : Boxed w1 B t v := (hb1.block B hB).trans hv
  refine ⟨b1, b1.set v', own_otherR hown hB _, ?_, ⟨(hb1.mono (by omega)).setCell (p := ⟨B, 0, none⟩) hn₀ _, ?_⟩, by simp [World.setCell]⟩
  · refine ((KeepsOthers.alloc W tmp).trans (KeepsOthers.of_grownBy hg fun j o hj ho => ?_)).trans (KeepsOthers.setCell _ _ _)
    rcases hrow'.2 with ⟨rfl, -⟩ | ⟨g, cap, cur, rfl, -, hh, -⟩
    · cases hj
    · have : g = j := by simpa [Value.ownBlock] using hj
      subst this
      rw [hh] at ho; cases ho; rfl
  · rw [Below.heap_setCell _ _ _ _ (by dsimp only; omega)]
    exact hb1.block bs hbs

end Go.Proofs.YtloaeglmngcenaaGreatDoor

namespace Go.Proofs.YtloaeglmngcenaaGreatDoor
open Go.RowKit

/-- place i parts what is less than x from what is not -/
structure Cut (L : List Int) (x : Int) (i : Nat) : Prop where
  le : i ≤ L.length
  lo : ∀ k, k < i → L.getD k 0 < x
  hi : ∀ k, i ≤ k → k < L.length → x ≤ L.getD k 0
/-- increasing -/
def Srt (L : List Int) : Prop := ∀ a b, a < b → b < L.length → L.getD a 0 < L.getD b 0
def RetCut (L : List Int) (x : Int) (w : World) (e : Ending) (w' : World) : Prop :=
  ∃ i, Cut L x i ∧ e = .returned (.tuple #[.int .i64 (i : Int), .bool (decide (i < L.length ∧ L.getD i 0 = x))]) ∧ w = w'

set_option maxHeartbeats 1000000 in
theorem cmpNaN_any (z : Int) (w : World) : Calls Tryz.prog 258 #[.int .i64 z] w fun e w' => e = .returned (.bool false) ∧ w = w' := by
  go_enter Tryz.func258, Tryz.ntmps258
  go_wp2
  go_ret
  exact ⟨by first | rfl | simp, rfl⟩
set_option maxHeartbeats 1000000 in
theorem slNaN_any (z : Int) (w : World) : Calls Tryz.prog 299 #[.int .i64 z] w fun e w' => e = .returned (.bool false) ∧ w = w' := by
  go_enter Tryz.func299, Tryz.ntmps299
  go_wp2
  go_ret
  exact ⟨by first | rfl | simp, rfl⟩
set_option maxHeartbeats 1000000 in
theorem less_any (a b : Int) (w : World) : Calls Tryz.prog 298 #[.int .i64 a, .int .i64 b] w fun e w' => e = .returned (.bool (decide (a < b))) ∧ w = w' := by
  go_enter Tryz.func298, Tryz.ntmps298
  go_wp2_with fail
  refine (cmpNaN_any a w).mono ?_
  rintro e w1 ⟨rfl, rfl⟩
  go_wp2
  go_ret
  exact ⟨rfl, rfl⟩

set_option maxHeartbeats 4000000 in
set_option maxRecDepth 100000 in
theorem search_any (A : Option Addr) (n ca : Nat) (L : List Int) (x : Int) (w : World) (hn : n ≤ 1048576) (hS : Srt L) (hA : RdNs w w.heap.size A n L) :
    Calls Tryz.prog 272 #[.slice A n ca, .int .i64 x] w (RetCut L x w) := by
  have HL := Lib.hid hA.1
  have HA := Lib.hid hA; have HS := Lib.hid hS; clear hA hS
  go_enter Tryz.func272, Tryz.ntmps272
  go_wp2
  go_loop [7, 8] (fun iv jv => ∃ (i j : Nat), iv = .int .i64 (i : Nat) ∧ jv = .int .i64 (j : Nat) ∧ i ≤ j ∧ j ≤ n ∧ (∀ k, k < i → L.getD k 0 < x) ∧ (∀ k, j ≤ k → k < n → x ≤ L.getD k 0)) (fun iv jv => (intOf jv - intOf iv).toNat)
  case atStart => exact ⟨0, n, rfl, rfl, by omega, by omega, fun k h => absurd h (by omega), fun k h1 h2 => absurd h2 (by omega)⟩
  case round =>
    obtain ⟨i, j, rfl, rfl, hij, hjn, h1, h2⟩ := hrel
    have H1 := Lib.hid h1; have H2 := Lib.hid h2
    clear h1 h2
    by_cases hlt : i < j
    · obtain ⟨g, rfl, hg, hr⟩ := HA.out.2 (by omega)
      have hc := hr.cell (i := (i + j) / 2) (by omega)
      simp only [nmF] at hc
      have HM : Hid (∀ k, k < n → (k ≤ (i + j) / 2 → L.getD k 0 ≤ L.getD ((i + j) / 2) 0) ∧ ((i + j) / 2 ≤ k → L.getD ((i + j) / 2) 0 ≤ L.getD k 0)) := fun k hk => by
        constructor
        · intro h
          rcases Nat.lt_or_eq_of_le h with h | h
          · exact Int.le_of_lt (HS.out _ _ h (by rw [HL.out]; omega))
          · rw [h]; exact Int.le_refl _
        · intro h
          rcases Nat.lt_or_eq_of_le h with h | h
          · exact Int.le_of_lt (HS.out _ _ h (by rw [HL.out]; omega))
          · rw [h]; exact Int.le_refl _
      generalize hy : L.getD ((i + j) / 2) 0 = y at hc HM
      have HY := Lib.hid hy
      clear hy hr
      by_cases hyx : y < x
      · go_wp2_with (go_at_call 298; refine (less_any _ _ _).mono ?_; rintro e w' ⟨rfl, rfl⟩)
        go_round
        case rel =>
          refine ⟨(i + j) / 2 + 1, j, by rw [show ((i : Int) + (j : Int)) / 2 + 1 = (((i + j) / 2 + 1 : Nat) : Int) by omega], rfl, by omega, hjn, fun k hk => ?_, H2.out⟩
          have := (HM.out k (by omega)).1 (by omega)
          omega
        case measure => simp [intOf]; omega
      · have hxy : x ≤ y := by omega
        go_wp2_with (go_at_call 298; refine (less_any _ _ _).mono ?_; rintro e w' ⟨rfl, rfl⟩)
        go_round
        case rel =>
          refine ⟨i, (i + j) / 2, rfl, by rw [show ((i : Int) + (j : Int)) / 2 = (((i + j) / 2 : Nat) : Int) by omega], by omega, by omega, H1.out, fun k hk1 hk2 => ?_⟩
          have := (HM.out k (by omega)).2 (by omega)
          omega
        case measure => simp [intOf]; omega
    · obtain rfl : i = j := by omega
      have HC : Hid (Cut L x i) := ⟨by rw [HL.out]; exact hjn, H1.out, fun k h1 h2 => H2.out k h1 (by rw [← HL.out]; exact h2)⟩
      by_cases hin : i < n
      · obtain ⟨g, rfl, hg, hr⟩ := HA.out.2 (by omega)
        have hc := hr.cell (i := i) hin
        simp only [nmF] at hc
        have HD : Hid (∀ v : Bool, decide (L.getD i 0 = x) = v → decide (i < L.length ∧ L.getD i 0 = x) = v) := fun v h => by rw [← h, HL.out]; simp [hin]
        obtain ⟨y, hy⟩ : ∃ y, y = L.getD i 0 := ⟨_, rfl⟩
        rw [← hy] at hc
        have HY := Lib.hid hy
        clear hr hy
        by_cases hyx : y = x
        · have e1 : (y == x) = true := by simpa using hyx
          have HD' := Lib.hid (HD.out true (decide_eq_true (HY.out ▸ hyx)))
          clear hyx HD
          go_wp2
          go_ret2
          exact ⟨i, HC.out, by rw [HD'.out]; rfl, rfl⟩
        · have e1 : (y == x) = false := by simpa using hyx
          have HD' := Lib.hid (HD.out false (decide_eq_false (HY.out ▸ hyx)))
          clear hyx HD
          go_wp2_with (go_at_call 299; refine (slNaN_any _ _).mono ?_; rintro e w' ⟨rfl, rfl⟩)
          go_ret2
          exact ⟨i, HC.out, by rw [HD'.out]; rfl, rfl⟩
      · have hni : n ≤ i := by omega
        have HD' : Hid (decide (i < L.length ∧ L.getD i 0 = x) = false) := decide_eq_false (by rw [HL.out]; omega)
        go_wp2
        go_ret2
        exact ⟨i, HC.out, by rw [HD'.out]; rfl, rfl⟩
end Go.Proofs.YtloaeglmngcenaaGreatDoor

namespace Go.Proofs.YtloaeglmngcenaaGreatDoor
open Go.RowKit

/-- 's = append(s, x)' of one element of one cell, s the call's own: also what did not turn -/
theorem wpList_append_oneG {P : Program} {w0 wr : World} {ops : Array Oper} {rest : List Oper} {o : Oper} {a : Act} {Q : Exit → Act → World → Prop} {α : Type} (enc : α → Value)
    (henc : ∀ x, (enc x).oneCell' = true) (hgd : o.guard = none) (s x : Operand) (t e : TypeId) (z : Value) (bytes : Nat) (hI : OneInfo P t e z bytes)
    (ho : o.op = .call { callee := .builtin .append, args := #[s, x], argTypes := #[t, t] })
    {base n : Nat} {v : Value} {l : List α} (hown : wr.ownsRow base e 1 v n (l.map enc)) (hbel : Below base w0 wr) (hbase : base ≤ wr.heap.size)
    {g0 : Nat} (hg0 : g0 = wr.heap.size) (hs : a.eval s = v) (hx : a.eval x = .slice (some ⟨g0, 0, none⟩) 1 1) (c : α) {y : Value} (hy : y = enc c) (hb1 : n + 1 ≤ 4294967296) (hb2 : bytes ≤ 16)
    (h : ∀ g cap w', w'.ownsRow base e 1 (.slice (some ⟨g, 0, none⟩) (n + 1) cap) (n + 1) ((l ++ [c]).map enc) → Below base w0 w' → (∀ k, k < wr.heap.size → v.ownBlock ≠ some k → w'.heap[k]? = wr.heap[k]?) → wr.heap.size ≤ w'.heap.size → wpList P ops Q rest (a.put o.dst (.slice (some ⟨g, 0, none⟩) (n + 1) cap)) w') :
    wpList P ops Q (o :: rest) a (wr.alloc (.cells #[y] e)) := by
  obtain ⟨i0, hi, hz0, hz1, hz2⟩ := info_parts hI.info
  subst hy hg0
  refine wpList_append_own _ hgd s x t ho base e i0 z 1 bytes hI.slice hi hz0 hz1 hz2 hI.zero (by decide) v n (l.map enc) hs (hown.alloc _) ⟨wr.heap.size, 0, none⟩ 1 1 [enc c] hx rfl ?_ ?_ ?_ ?_ ?_ ?_
  · intro j u hj
    match j, hj with
    | 0, hj => simp at hj; subst hj; rw [add_plain]; simp
  · intro u hu
    simp at hu; subst hu; exact henc c
  · unfold maxLen; omega
  · calc (n + 1) * bytes ≤ 4294967296 * 16 := Nat.mul_le_mul hb1 hb2
      _ ≤ 140737488355328 := by decide
  · simp; omega
  · intro v' w' ho' hg _
    obtain ⟨g', cap', rfl⟩ := ownsRow_succ ho'
    refine h g' cap' w' ?_ ((hbel.alloc hbase _).grown hg (by simp; omega) fun k hk => (hown.lt k hk).1) (fun k hk hne => ?_) ?_
    · rw [List.map_append]; exact ho'
    · exact (hg.block k (by simp; omega) (fun e => hne e.symm)).trans (Below.heap_alloc _ _ _ hk)
    · have := hg.size; simp at this; omega
end Go.Proofs.YtloaeglmngcenaaGreatDoor

namespace Go.Proofs.YtloaeglmngcenaaGreatDoor
open Go.RowKit
open Bt (Rc)

set_option maxHeartbeats 1000000 in
theorem l04Sector_any (n : Int) (w : World) : Calls Tryz.prog 186 #[.int .i64 n] w fun e w' => e = .returned (.bool (rcIs 0 5 n)) ∧ w = w' := by
  go_enter Tryz.func186, Tryz.ntmps186
  go_wp2_with fail
  refine (rcIs_any _ _ _ _).mono ?_
  rintro e w1 ⟨rfl, rfl⟩
  go_wp2
  go_ret
  exact ⟨rfl, rfl⟩

def placeV (i : Nat) : Value := .int .i64 (i : Int)
theorem oneCell_place (i : Nat) : (placeV i).oneCell' = true := rfl
theorem info_int : (Tryz.prog.info? 3).map (fun i => (i.zero, i.size, i.bytes)) = some (some (.int .i64 0), 1, 8) := by kernel_rfl
theorem int_one : OneInfo Tryz.prog 269 3 (.int .i64 0) 8 := ⟨Tryz.underlying269, info_int, rfl⟩
theorem num_one : OneInfo Tryz.prog 48 2 (.int .i64 0) 8 := ⟨Tryz.underlying48, info_num, rfl⟩
theorem oneCell_num (z : Int) : (numV z).oneCell' = true := rfl
def plcs (P : List Nat) : List Int := P.map fun i : Nat => (i : Int)
theorem plcs_len (P : List Nat) : (plcs P).length = P.length := List.length_map _
theorem plcs_place (P : List Nat) : P.map placeV = (plcs P).map numV := by unfold plcs; rw [List.map_map]; rfl
theorem tch_roll {r : Rc} (s : Int) (h : r.k = 3) : tch r s = true := by unfold tch; rw [if_neg (by omega), decide_eq_true h]
theorem tch_same {r : Rc} {s : Int} (h : r.k = 1 ∨ r.k = 2) (hs : r.s = s) : tch r s = true := by unfold tch; rw [if_pos h, decide_eq_true hs]
theorem tch_other {r : Rc} {s : Int} (h : r.k = 1 ∨ r.k = 2) (hs : r.s ≠ s) : tch r s = false := by unfold tch; rw [if_pos h, decide_eq_false hs]
theorem tch_none {r : Rc} (s : Int) (h : 3 < r.k) : tch r s = false := by unfold tch; rw [if_neg (by omega), decide_eq_false (by omega)]

set_option maxHeartbeats 4000000 in
set_option maxRecDepth 100000 in
theorem l04Trail_any (A : Option Addr) (n ca : Nat) (X : List Rc) (s a : Int) (w : World) (hn : n ≤ 1048576) (hV : ∀ i, i < n → 1 ≤ (X.getD i Rc.zero).k) (hA : RdRc w w.heap.size A n X) :
    Calls Tryz.prog 240 #[.slice A n ca, .int .i64 s, .int .i64 a] w (RetNs w (plcs (trl X s n a))) := by
  have HA := Lib.hid hA; have HV := Lib.hid hV; clear hA hV
  go_enter Tryz.func240, Tryz.ntmps240
  go_wp2
  have hb0 : Below w.heap.size w (w.alloc (.cells #[] 3)) := (Below.refl _ _).alloc (Nat.le_refl _) _
  have ho0 : (w.alloc (.cells #[] 3)).ownsRow w.heap.size 3 1 (.slice (some ⟨w.heap.size, 0, none⟩) 0 0) 0 (([] : List Nat).map placeV) := ⟨rfl, .inr ⟨w.heap.size, 0, #[], rfl, Nat.le_refl _, isBlk_new w 3 [], Nat.le_refl _, by simp [maxLen], rfl, rfl⟩⟩
  generalize w.alloc (.cells #[] 3) = W at hb0 ho0 ⊢
  have HB0 := Lib.hid hb0; have HO0 := Lib.hid ho0; clear hb0 ho0
  go_loopw [2, 7, 8] (fun at' out i wr => ∃ (k : Nat) (b : Int) (P : List Nat), k ≤ n ∧ i = .int .i64 ((k : Int) - 1) ∧ at' = .int .i64 b ∧ P ++ trl X s k b = trl X s n a ∧ wr.ownsRow w.heap.size 3 1 out P.length (P.map placeV) ∧ Below w.heap.size w wr) (fun _ _ i _ => (intOf i + 1).toNat)
  case atStart => exact ⟨n, a, [], Nat.le_refl _, rfl, rfl, rfl, HO0.out, HB0.out⟩
  case round =>
    obtain ⟨k, b, P, hk, rfl, rfl, htr, hown, hbel⟩ := hrel
    have HTR := Lib.hid htr; have HOW := Lib.hid hown; have HW := Lib.hid hbel
    have hPl : P.length ≤ n := by
      have h1 := congrArg List.length htr
      rw [List.length_append] at h1
      have := trl_len X s n a
      omega
    clear htr hown
    by_cases h0 : k = 0
    · subst h0
      clear hbel
      go_wp2
      go_ret
      have hP : P = trl X s n a := by rw [← HTR.out, trl_zero, List.append_nil]
      obtain ⟨Av, cv, rfl⟩ := own_slice HOW.out
      have h := HOW.out
      rw [plcs_place, ← plcs_len] at h
      rw [← hP]
      exact ⟨Av, cv, by rw [plcs_len]; rfl, owNs_of_own h, HW.out⟩
    · obtain ⟨j, rfl⟩ : ∃ j, k = j + 1 := ⟨k - 1, by omega⟩
      obtain ⟨g, off, rfl, hg, hc0, hc1, hc2, hc3, hc4, hc5⟩ := (HA.out.below hbel).at (k := j) (by omega)
      have hkk := HV.out j (by omega)
      have HNo : Hid (hit (X.getD j Rc.zero) s b = false → trl X s (j + 1) b = trl X s j b) := Lib.hid (fun h => trl_no h)
      have HRo : Hid (hit (X.getD j Rc.zero) s b = true → (X.getD j Rc.zero).k = 3 → trl X s (j + 1) b = j :: trl X s j (X.getD j Rc.zero).o) := Lib.hid (fun h1 h2 => trl_roll h1 h2)
      have HEn : Hid (hit (X.getD j Rc.zero) s b = true → (X.getD j Rc.zero).k ≠ 3 → trl X s (j + 1) b = [j]) := Lib.hid (fun h1 h2 => trl_end h1 h2)
      rw [show (((j + 1 : Nat) : Int) - 1) = (j : Int) by omega]
      generalize X.getD j Rc.zero = r at *
      have hj0 : (0 : Int) ≤ (j : Int) := by omega
      have hjn : (j : Int) < (n : Int) := by omega
      have hb1 : Below wr.heap.size wr (wr.alloc (.cells #[.int .i64 r.k, .int .i64 r.s, .int .i64 r.q, .int .i64 r.t, .int .i64 r.o, .string r.d] 34)) := (Below.refl _ _).alloc (Nat.le_refl _) _
      have HO1 := Lib.hid (own_belowR HOW.out hb1)
      have HB1 := Lib.hid (hbel.trans (hb1.mono hbel.size))
      have hs1 : w.heap.size ≤ (wr.alloc (.cells #[.int .i64 r.k, .int .i64 r.s, .int .i64 r.q, .int .i64 r.t, .int .i64 r.o, .string r.d] 34)).heap.size := HB1.out.size
      have HS1 := Lib.hid hs1
      clear hbel hb1 hs1
      by_cases ht : b < r.t
      · have HH := Lib.hid (hit_late (s := s) ht)
        go_wp2
        go_roundw
        case rel => exact ⟨j, b, P, by omega, by go_num, rfl, by rw [← HTR.out, HNo.out HH.out], HO1.out, HB1.out⟩
        case measure => simp [intOf]
      have ht' : r.t ≤ b := by omega
      have HHT := Lib.hid (hit_tch (s := s) ht')
      clear ht
      by_cases h3 : r.k = 3
      · have HK3 := Lib.hid h3
        have h3' : (r.k == 3) = true := by simpa using h3
        have HTT := Lib.hid (tch_roll s h3)
        clear h3
        go_wp2_with (at_builtin; refine wpList_append_oneG placeV oneCell_place rfl _ _ 269 3 _ 8 int_one rfl HO1.out HB1.out HS1.out (g0 := wr.heap.size + 1) (by simp) rfl rfl j rfl (by omega) (by omega) ?_; intro g2 cap2 w2 ho2 hb2 hk2 hz2; have HO2 := Lib.hid ho2; have HB2 := Lib.hid hb2; obtain ⟨x0, x1, x2, x3, x4, x5⟩ := rcCells (r := r) ((hk2 wr.heap.size (by simp) (fun e => by have := (own_block_ltR HOW.out e).2; omega)).trans (isBlk_new wr 34 (recC r))); clear ho2 hb2 hk2 hz2)
        go_roundw
        case rel => exact ⟨j, r.o, P ++ [j], by omega, by go_num, rfl, by rw [← HTR.out, HRo.out (by rw [HHT.out, HTT.out]) HK3.out, List.append_assoc]; rfl, by rw [List.length_append]; exact HO2.out, HB2.out⟩
        case measure => simp [intOf]
      have h3' : (r.k == 3) = false := by simpa using h3
      by_cases h2 : r.k ≤ 2
      · have h12 : r.k = 1 ∨ r.k = 2 := by omega
        by_cases hss : r.s = s
        · have hss' : (r.s == s) = true := by simpa using hss
          have HTT := Lib.hid (tch_same h12 hss)
          have HK3 := Lib.hid h3
          clear h3 h12 hss
          go_wp2_with (at_builtin; refine wpList_append_oneG placeV oneCell_place rfl _ _ 269 3 _ 8 int_one rfl HO1.out HB1.out HS1.out (g0 := wr.heap.size + 1) (by simp) rfl rfl j rfl (by omega) (by omega) ?_; intro g2 cap2 w2 ho2 hb2 hk2 hz2; have HO2 := Lib.hid ho2; have HB2 := Lib.hid hb2; clear ho2 hb2 hk2 hz2)
          go_ret
          have hP : trl X s n a = P ++ [j] := by rw [← HTR.out, HEn.out (by rw [HHT.out, HTT.out]) HK3.out]
          have h := HO2.out
          rw [plcs_place] at h
          rw [hP]
          have hl : (plcs (P ++ [j])).length = P.length + 1 := by rw [plcs_len, List.length_append]; rfl
          rw [← hl] at h
          exact ⟨some ⟨g2, 0, none⟩, cap2, by rw [hl]; rfl, owNs_of_own h, HB2.out⟩
        · have hss' : (r.s == s) = false := by simpa using hss
          have HTT := Lib.hid (tch_other h12 hss)
          clear h3 h12 hss
          go_wp2
          go_roundw
          case rel => exact ⟨j, b, P, by omega, by go_num, rfl, by rw [← HTR.out, HNo.out (by rw [HHT.out, HTT.out])], HO1.out, HB1.out⟩
          case measure => simp [intOf]
      · have HTT := Lib.hid (tch_none s (show 3 < r.k by omega))
        have h2' : 2 < r.k := by omega
        clear h3 h2
        go_wp2
        go_roundw
        case rel => exact ⟨j, b, P, by omega, by go_num, rfl, by rw [← HTR.out, HNo.out (by rw [HHT.out, HTT.out])], HO1.out, HB1.out⟩
        case measure => simp [intOf]
end Go.Proofs.YtloaeglmngcenaaGreatDoor

namespace Go.Proofs.YtloaeglmngcenaaGreatDoor
open Go.RowKit

/-- how a slice's value may come out of what it was: its row is the old one, or a new one -/
def Moved (w : World) (v v' : Value) : Prop := ∀ q, v'.ownBlock = some q → v.ownBlock = some q ∨ w.heap.size ≤ q
/-- nothing but block B and v's row has turned -/
structure Fr (B : Nat) (v : Value) (w w' : World) : Prop where
  os : w'.os = w.os
  tape : w'.tape = w.tape
  output : w'.output = w.output
  size : w.heap.size ≤ w'.heap.size
  block : ∀ k, k < w.heap.size → k ≠ B → v.ownBlock ≠ some k → w'.heap[k]? = w.heap[k]?

set_option maxHeartbeats 4000000 in
set_option maxRecDepth 100000 in
theorem insert_end (v : Value) (base n : Nat) (L : List Int) (x : Int) (w : World) (hn : n ≤ 1048576) (hbase : base ≤ w.heap.size) (hown : w.ownsRow base 2 1 v n (L.map numV)) :
    Calls Tryz.prog 273 #[v, .int .i64 (n : Int), .slice (some ⟨w.heap.size, 0, none⟩) 1 1] (w.alloc (.cells #[.int .i64 x] 2)) fun e w' =>
      ∃ g cap, e = .returned (.slice (some ⟨g, 0, none⟩) (n + 1) cap) ∧ w'.ownsRow base 2 1 (.slice (some ⟨g, 0, none⟩) (n + 1) cap) (n + 1) ((L ++ [x]).map numV) ∧ Fr w.heap.size v w w' ∧ Moved w v (.slice (some ⟨g, 0, none⟩) (n + 1) cap) := by
  obtain ⟨i0, hi, hz0, hz1, hz2⟩ := info_parts info_num
  have Hi := Lib.hid hi; have Z0 := Lib.hid hz0; have Z1 := Lib.hid hz1; have Z2 := Lib.hid hz2
  clear hi hz0 hz1 hz2
  have HOW := Lib.hid hown
  have hnn : ((n : Int) == (n : Int)) = true := by simp
  have HNEWS : Hid (∀ j u, [Value.int .i64 x][j]? = some u → (w.alloc (.cells #[.int .i64 x] 2)).cell? ((⟨w.heap.size, 0, none⟩ : Addr).add j) = some u) := fun j u hj => by
    rw [add_plain]; exact (isBlk_new w 2 [.int .i64 x]).cell hj
  rcases hown.2 with ⟨rfl, rfl⟩ | ⟨g, cap, cur, rfl, hbg, hh, hnc, hcm, hcs, hct⟩
  · clear hown
    go_enter Tryz.func273, Tryz.ntmps273
    go_wp2_with (at_builtin; refine wpList_append_lies _ rfl _ _ 48 rfl base 2 i0 _ 1 8 Tryz.underlying48 Hi.out Z0.out Z1.out Z2.out rfl (by omega) (.slice none 0 0) 0 (L.map numV) rfl (HOW.out.alloc _) ⟨w.heap.size, 0, none⟩ 1 1 [.int .i64 x] rfl rfl HNEWS.out (by simp [Value.oneCell']) (by omega) (by unfold maxLen; omega) (by omega) (by simp; omega) (w.heap.size + 1) (by simp) ?_; intro g2 cap2 w2 ho2 hg2 hat2 hlt2; have HO2 := Lib.hid ho2; have HG2 := Lib.hid hg2; have HAT := Lib.hid hat2; clear ho2 hg2 hat2 hlt2)
    all_goals
      go_ret
      have hs2 := HG2.out.size
      rw [size_alloc] at hs2
      refine ⟨g2, cap2, by first | rfl | simp, by first | exact HO2.out | (rw [List.map_append]; exact HO2.out), ⟨HG2.out.os, HG2.out.tape, HG2.out.output, by omega, fun k h1 h2 h3 => (HG2.out.block k (by rw [size_alloc]; omega) (fun e => h3 e.symm)).trans (Below.heap_alloc _ _ _ h1)⟩, fun q hq => ?_⟩
      have hq' : g2 = q := by simpa [Value.ownBlock] using hq
      subst hq'
      rcases HAT.out with h | h
      · exact .inl h
      · right; omega
  · clear hown hh hcs hct
    go_enter Tryz.func273, Tryz.ntmps273
    go_wp2_with (at_builtin; refine wpList_append_lies _ rfl _ _ 48 rfl base 2 i0 _ 1 8 Tryz.underlying48 Hi.out Z0.out Z1.out Z2.out rfl (by omega) _ n (L.map numV) rfl (HOW.out.alloc _) ⟨w.heap.size, 0, none⟩ 1 1 [.int .i64 x] rfl rfl HNEWS.out (by simp [Value.oneCell']) (by omega) (by unfold maxLen; omega) (by omega) (by simp; omega) (w.heap.size + 1) (by simp) ?_; intro g2 cap2 w2 ho2 hg2 hat2 hlt2; have HO2 := Lib.hid ho2; have HG2 := Lib.hid hg2; have HAT := Lib.hid hat2; clear ho2 hg2 hat2 hlt2)
    all_goals
      go_ret
      have hs2 := HG2.out.size
      rw [size_alloc] at hs2
      refine ⟨g2, cap2, by first | rfl | simp, by first | exact HO2.out | (rw [List.map_append]; exact HO2.out), ⟨HG2.out.os, HG2.out.tape, HG2.out.output, by omega, fun k h1 h2 h3 => (HG2.out.block k (by rw [size_alloc]; omega) (fun e => h3 e.symm)).trans (Below.heap_alloc _ _ _ h1)⟩, fun q hq => ?_⟩
      have hq' : g2 = q := by simpa [Value.ownBlock] using hq
      subst hq'
      rcases HAT.out with h | h
      · exact .inl h
      · right; omega

/-- a number added to a list at its place, unless it is there -/
def Added (L : List Int) (x : Int) (L' : List Int) : Prop := ∃ i, Cut L x i ∧ L' = if i < L.length ∧ L.getD i 0 = x then L else L.take i ++ x :: L.drop i
def RetAdd (B base : Nat) (v : Value) (L : List Int) (x : Int) (w : World) (e : Ending) (w' : World) : Prop :=
  ∃ (r v' : Value) (L' : List Int), e = .returned r ∧ Added L x L' ∧ IsBlk w' B 276 [v'] ∧ w'.ownsRow base 2 1 v' L'.length (L'.map numV) ∧ Fr B v w w' ∧ Moved w v v'

set_option maxHeartbeats 4000000 in
set_option maxRecDepth 100000 in
theorem add_end (B : Nat) (v : Value) (base : Nat) (L : List Int) (x : Int) (w : World) (hn : L.length ≤ 1048576) (hBb : B < base) (hbase : base ≤ w.heap.size) (hS : Srt L) (hend : ∀ i, Cut L x i → (i < L.length ∧ L.getD i 0 = x) ∨ i = L.length)
    (hB : IsBlk w B 276 [v]) (hown : w.ownsRow base 2 1 v L.length (L.map numV)) :
    Calls Tryz.prog 248 #[.pointer (some ⟨B, 0, none⟩), .int .i64 x] w (RetAdd B base v L x w) := by
  obtain ⟨A, cap, rfl⟩ := own_slice hown
  have hc : w.cell? ⟨B, 0, none⟩ = some (.slice A L.length cap) := hB.cell rfl
  have hBlt := hB.lt
  have HOW := Lib.hid hown; have HBK := Lib.hid hB; have HS := Lib.hid hS; have HE := Lib.hid hend
  clear hown hB hS hend
  go_enter Tryz.func248, Tryz.ntmps248
  go_wp2_with fail
  refine (search_any A L.length cap L x w hn HS.out ((owNs_of_own HOW.out).rd (Nat.le_refl _))).mono ?_
  rintro e w1 ⟨i, hcut, rfl, rfl⟩
  have HC := Lib.hid hcut
  rcases HE.out i hcut with hf | rfl
  · have HF := Lib.hid hf
    rw [decide_eq_true hf]
    clear hf hcut
    go_wp2
    refine bodyPost_ret (results_none rfl _ _ _) rfl ?_
    exact ⟨_, _, L, rfl, ⟨i, HC.out, by rw [if_pos HF.out]⟩, HBK.out, HOW.out, ⟨rfl, rfl, rfl, Nat.le_refl _, fun k h1 h2 h3 => rfl⟩, fun q hq => .inl hq⟩
  · have hf : ¬ (L.length < L.length ∧ L.getD L.length 0 = x) := fun h => absurd h.1 (by omega)
    have HF := Lib.hid hf
    rw [decide_eq_false hf]
    clear hf hcut
    go_wp2_with fail
    refine (insert_end _ base L.length L x w hn hbase HOW.out).mono ?_
    rintro e w2 ⟨g2, cap2, rfl, ho2, hfr2, hmv2⟩
    have HO2 := Lib.hid ho2; have HFR := Lib.hid hfr2; have HMV := Lib.hid hmv2
    have hb2 : IsBlk w2 B 276 [.slice A L.length cap] := (hfr2.block B hBlt (by omega) (fun e => by have := (own_block_ltR HOW.out e).1; omega)).trans HBK.out
    have HB2 := Lib.hid hb2
    have hc2 : w2.cell? ⟨B, 0, none⟩ = some (.slice A L.length cap) := hb2.cell rfl
    have hf2 : w2.frozen? ⟨B, 0, none⟩ = false := hb2.free
    clear ho2 hfr2 hmv2 hb2 hc
    go_wp2
    refine bodyPost_ret (results_none rfl _ _ _) rfl ?_
    have hl : (L ++ [x]).length = L.length + 1 := by simp
    refine ⟨_, .slice (some ⟨g2, 0, none⟩) (L.length + 1) cap2, L ++ [x], rfl, ⟨L.length, HC.out, by rw [if_neg HF.out, List.take_of_length_le (Nat.le_refl _), List.drop_eq_nil_of_le (Nat.le_refl _)]⟩, HB2.out.set _, by rw [hl]; exact own_otherR HO2.out hBb _, ⟨HFR.out.os, HFR.out.tape, HFR.out.output, by simpa [World.setCell] using HFR.out.size, fun k h1 h2 h3 => (Below.heap_setCell _ _ _ _ (by dsimp only; omega)).trans (HFR.out.block k h1 (by omega) h3)⟩, HMV.out⟩
end Go.Proofs.YtloaeglmngcenaaGreatDoor

namespace Go.Proofs.YtloaeglmngcenaaGreatDoor
open Bt (Rc)

/-- z behind T, unless T ends with it -/
def pushT (T : List Int) (z : Int) : List Int := if 0 < T.length ∧ z ≤ T.getD (T.length - 1) 0 then T else T ++ [z]
def timesTo (X : List Rc) (s f : Int) : Nat → List Int
  | 0 => []
  | k + 1 => if (decide (f ≤ (X.getD k Rc.zero).t) && tch (X.getD k Rc.zero) s) = true then pushT (timesTo X s f k) (X.getD k Rc.zero).t else timesTo X s f k
theorem timesTo_no {X : List Rc} {s f : Int} {k : Nat} (h : (decide (f ≤ (X.getD k Rc.zero).t) && tch (X.getD k Rc.zero) s) = false) : timesTo X s f (k + 1) = timesTo X s f k := by simp only [timesTo, h]; rfl
theorem timesTo_yes {X : List Rc} {s f : Int} {k : Nat} (h : (decide (f ≤ (X.getD k Rc.zero).t) && tch (X.getD k Rc.zero) s) = true) : timesTo X s f (k + 1) = pushT (timesTo X s f k) (X.getD k Rc.zero).t := by simp only [timesTo, h, if_true]
theorem pushT_len (T : List Int) (z : Int) : (pushT T z).length ≤ T.length + 1 := by unfold pushT; split <;> simp
theorem timesTo_len (X : List Rc) (s f : Int) (k : Nat) : (timesTo X s f k).length ≤ k := by
  induction k with
  | zero => simp [timesTo]
  | succ k ih =>
    simp only [timesTo]
    split
    · have := pushT_len (timesTo X s f k) (X.getD k Rc.zero).t; omega
    · omega
def timesOf (X : List Rc) (s : Int) : List Int := if hRight X = true ∧ 0 ≤ s ∧ s ≤ 5 then timesTo X s (floorR X) X.length else []
theorem timesOf_len (X : List Rc) (s : Int) : (timesOf X s).length ≤ X.length := by
  unfold timesOf
  split
  · exact timesTo_len _ _ _ _
  · simp
/-- increasing, and all at most b -/
structure Upw (T : List Int) (b : Int) : Prop where
  srt : Srt T
  le : ∀ k, k < T.length → T.getD k 0 ≤ b
theorem upw_nil (b : Int) : Upw [] b := ⟨fun a b _ h => absurd h (by simp), fun k h => absurd h (by simp)⟩
theorem Upw.mono {T : List Int} {b c : Int} (h : Upw T b) (hbc : b ≤ c) : Upw T c := ⟨h.srt, fun k hk => Int.le_trans (h.le k hk) hbc⟩
theorem getD_snoc_lt {T : List Int} {z : Int} {k : Nat} (h : k < T.length) : (T ++ [z]).getD k 0 = T.getD k 0 := by
  rw [List.getD_eq_getElem?_getD, List.getD_eq_getElem?_getD, List.getElem?_append_left h]
theorem getD_snoc_eq (T : List Int) (z : Int) : (T ++ [z]).getD T.length 0 = z := by
  rw [List.getD_eq_getElem?_getD, List.getElem?_append_right (Nat.le_refl _)]; simp
theorem Upw.push {T : List Int} {b z : Int} (h : Upw T b) (hb : b ≤ z) : Upw (pushT T z) z := by
  unfold pushT
  split
  · exact h.mono hb
  · rename_i hn
    have hlast : ∀ k, k < T.length → T.getD k 0 < z := by
      intro k hk
      by_cases e : k = T.length - 1
      · subst e
        have : ¬ z ≤ T.getD (T.length - 1) 0 := fun h' => hn ⟨by omega, h'⟩
        omega
      · have h1 := h.srt k (T.length - 1) (by omega) (by omega)
        have : ¬ z ≤ T.getD (T.length - 1) 0 := fun h' => hn ⟨by omega, h'⟩
        omega
    refine ⟨fun a b hab hb => ?_, fun k hk => ?_⟩
    · rw [List.length_append] at hb
      simp only [List.length_cons, List.length_nil] at hb
      by_cases e : b = T.length
      · subst e
        rw [getD_snoc_eq, getD_snoc_lt (by omega)]
        exact hlast a (by omega)
      · rw [getD_snoc_lt (by omega), getD_snoc_lt (by omega)]
        exact h.srt a b hab (by omega)
    · rw [List.length_append] at hk
      simp only [List.length_cons, List.length_nil] at hk
      by_cases e : k = T.length
      · subst e; rw [getD_snoc_eq]; exact Int.le_refl _
      · rw [getD_snoc_lt (by omega)]; exact Int.le_of_lt (hlast k (by omega))
/-- a number that is at least all of them belongs at the end, or is there -/
theorem Upw.ends {T : List Int} {z : Int} (h : Upw T z) : ∀ i, Cut T z i → (i < T.length ∧ T.getD i 0 = z) ∨ i = T.length := by
  intro i hc
  by_cases e : i < T.length
  · exact .inl ⟨e, by have := hc.hi i (Nat.le_refl _) e; have := h.le i e; omega⟩
  · exact .inr (by have := hc.le; omega)
theorem Upw.added {T T' : List Int} {z : Int} (h : Upw T z) (ha : Added T z T') : T' = pushT T z := by
  obtain ⟨i, hc, rfl⟩ := ha
  by_cases e : i < T.length ∧ T.getD i 0 = z
  · rw [if_pos e]
    unfold pushT
    rw [if_pos]
    refine ⟨by omega, ?_⟩
    by_cases e' : i = T.length - 1
    · rw [← e', e.2]; exact Int.le_refl _
    · have := h.srt i (T.length - 1) (by omega) (by omega)
      omega
  · rw [if_neg e]
    rcases h.ends i hc with h' | rfl
    · exact absurd h' e
    · unfold pushT
      rw [if_neg]
      · rw [List.take_of_length_le (Nat.le_refl _), List.drop_eq_nil_of_le (Nat.le_refl _)]
      · rintro ⟨h1, h2⟩
        have := hc.lo (T.length - 1) (by omega)
        omega
/-- the times so far: increasing, none behind the last record's -/
theorem times_upw {X : List Rc} (hX : hRight X = true) (s f : Int) : ∀ k, k ≤ X.length → Upw (timesTo X s f k) (prevR X k).t := by
  intro k
  induction k with
  | zero => intro _; exact upw_nil _
  | succ k ih =>
    intro hk
    have h := ih (by omega)
    have ht := (hRight_at hX (show k < X.length by omega)).2.2
    rw [prevR_succ]
    simp only [timesTo]
    split
    · exact h.push ht
    · exact h.mono ht
end Go.Proofs.YtloaeglmngcenaaGreatDoor
