/-
  FreeBlocks, of the program and of the model.
  Plain mathematics of chapter 6 (the log): the open block, the free block with the least Erases, the block for the next page. No condition.
  OpenBlock, of the program and of the model.
  NextBlock, of the program and of the model.
  New chips and copies of chips: as the program makes them.
  A chip that the call owns, changed in one field; what Program, Erase and MarkBad answer, as mathematics.
  New chips and copies of chips, as the document's model makes them.
  MarkBad, Erase and Program, of the program.
  MarkBad, Erase and Program, of the document's model.
  Program and PageAt, of the document's model.
  What the answers of MarkBad, Erase, Program and PageAt have in common: few blocks, of four pages each.
  What Append and Torn answer (chapter 6), as mathematics. No condition.
  Program, of the program.
  programNext of the program, and l05Append of the model.
  A record is decoded from its encoding, which fits a page (plain mathematics). No condition.
  Append and Torn, of the program and of the model.
-/
import Derived.Test.YtfpibbhcecdbgaaGreatDoorProg
import Derived.KernelRfl
import Derived.Test.YtfpibbhcecdbgaaGreatDoorNdUse
import Derived.BigQuiet
import Derived.Lib.QuietBelow
import Derived.Test.YtfpibbhcecdbgaaGreatDoorMgNd
import Derived.Test.YtfpibbhcecdbgaaGreatDoorBtText
import Derived.StillTailTactics
import Derived.Deep.AppendLies
import Derived.Deep.RegionHeld3
import Derived.OwnWalk
import Derived.IntWalk
import Derived.Test.YtfpibbhcecdbgaaGreatDoorLgErr
import Derived.Test.YtfpibbhcecdbgaaGreatDoorRcPure
import Derived.Test.YtfpibbhcecdbgaaGreatDoorRcBytes
import Derived.Deep.DeepCutAuto
import Derived.Deep.CutBlock
namespace Go.Proofs.YtfpibbhcecdbgaaGreatDoor
open Go.RowKit

set_option maxHeartbeats 1000000 in
set_option maxRecDepth 100000 in
theorem isFree_any (A : Option Addr) (ca : Nat) (a b c d : Pg) (er : Int) (bad : Bool) (w : World) (hA : RdPg w w.heap.size A 4 [a, b, c, d]) :
    Calls Tryz.prog 201 #[.agg #[.slice A 4 ca, .int .i64 er, .bool bad]] w fun e w' => e = .returned (.bool (decide (bad = false ∧ uPre [a, b, c, d] = 0))) ∧ Below w.heap.size w w' := by
  have HA := Lib.hid hA; clear hA
  cases bad with
  | true =>
    have HC : Hid (decide (true = false ∧ uPre [a, b, c, d] = 0) = false) := by show _ = _; simp
    go_enter Tryz.func201, Tryz.ntmps201
    go_wp2
    go_ret
    exact ⟨ret_b HC.out.symm, box_below _ _⟩
  | false =>
    go_enter Tryz.func201, Tryz.ntmps201
    go_wp2_with fail
    refine (pagesOf_any A ca a b c d er false _ ((HA.out.below (box_below _ _)).mono (box_below _ _).size)).mono ?_
    rintro e w3 ⟨rfl, hb3⟩
    have HB3 := Lib.hid (bel_step (box_below w _) hb3)
    clear hb3
    go_wp2_with fail
    refine (used_any a b c d w3).mono ?_
    rintro e w4 ⟨rfl, hb4⟩
    have HB4 := Lib.hid (bel_step HB3.out hb4)
    clear hb4
    obtain ⟨u, hu⟩ : ∃ u, u = uPre [a, b, c, d] := ⟨_, rfl⟩
    rw [← hu]
    have HU := Lib.hid hu; clear hu
    by_cases h0 : u = 0
    · subst h0
      have HC : Hid (decide (false = false ∧ uPre [a, b, c, d] = 0) = true) := by show _ = _; simp [← HU.out]
      go_wp2
      go_ret
      exact ⟨ret_b HC.out.symm, HB4.out⟩
    · have HC : Hid (decide (false = false ∧ uPre [a, b, c, d] = 0) = false) := by show _ = _; simp [← HU.out, h0]
      have h0' : ((u : Int) == 0) = false := by simp; omega
      have h0'' : (u == 0) = false := by simpa using h0
      go_wp2
      go_ret
      exact ⟨ret_b HC.out.symm, HB4.out⟩

theorem sumTo_le {f : Nat → Nat} (h : ∀ i, f i ≤ 1) (k : Nat) : sumTo f k ≤ k := by
  induction k with
  | zero => exact Nat.le_refl _
  | succ k ih => have := h k; simp only [sumTo]; omega
theorem freeAns_no {X : List Bk} (h : ¬ NdOk X) : freeAns X = 0 := by unfold freeAns; rw [if_neg h]
theorem freeAns_yes {X : List Bk} (h : NdOk X) : freeAns X = ((nFree X : Nat) : Int) := by unfold freeAns; rw [if_pos h]
def freeOne (b : Bk) : Nat := if b.bad = false ∧ uPre b.pages = 0 then 1 else 0
theorem freeOne_le (b : Bk) : freeOne b ≤ 1 := by unfold freeOne; split <;> omega
theorem nFree_def (X : List Bk) : nFree X = sumTo (fun i => freeOne (X.getD i zeroBk)) X.length := rfl

set_option maxHeartbeats 1000000 in
theorem impl_freeBlocks (A : Option Addr) (n ca : Nat) (X : List Bk) (w : World) (hX : Small X) (hA : RdBk w w.heap.size A n X) :
    Calls Tryz.prog 133 #[.agg #[.slice A n ca]] w fun e w' => e = .returned (.int .i64 (freeAns X)) ∧ Below w.heap.size w w' := by
  have hn : n ≤ 1048576 := by have := hX.1; have := hA.1; omega
  have HL := Lib.hid hA.1
  have HA := Lib.hid hA; have HX := Lib.hid hX; clear hA hX
  go_enter Tryz.func133, Tryz.ntmps133
  go_wp2_with fail
  refine (impl_nandRight A n ca X _ HX.out (box_rd HA.out _)).mono ?_
  rintro e w2 ⟨rfl, hb2⟩
  have k2 := (isBlk_new w 28 [.slice A n ca]).below hb2 (by show w.heap.size < (w.alloc _).heap.size; simp)
  have hx2 : w2.cell? ⟨w.heap.size, 0, none⟩ = some (.slice A n ca) := k2.cell rfl
  have HK2 := Lib.hid k2
  have HB2 := Lib.hid (bel_step (box_below w _) hb2)
  clear hb2 k2
  by_cases hok : NdOk X
  · rw [ndB_yes hok]
    have HOK := Lib.hid hok
    obtain ⟨f, hf⟩ : ∃ f : Nat → Nat, f = fun i => freeOne (X.getD i zeroBk) := ⟨_, rfl⟩
    have HS : Hid (freeAns X = ((sumTo f n : Nat) : Int)) := by show freeAns X = _; rw [freeAns_yes hok, nFree_def, HL.out, hf]
    have HLE : Hid (∀ k, sumTo f k ≤ k) := fun k => sumTo_le (fun i => by rw [hf]; exact freeOne_le _) k
    have HF := Lib.hid hf; clear hf hok
    go_wp2
    go_loopw [3, 11] (fun m i wr => ∃ k : Nat, k ≤ n ∧ i = .int .i64 (k : Nat) ∧ m = .int .i64 ((sumTo f k : Nat) : Int) ∧ Below w.heap.size w wr ∧ IsBlk wr w.heap.size 28 [.slice A n ca]) (fun _ i _ => n - (intOf i).toNat)
    case atStart => exact ⟨0, by omega, rfl, rfl, HB2.out, HK2.out⟩
    case round =>
      obtain ⟨k, hk, rfl, rfl, hbel, hblk⟩ := hrel
      have HW := Lib.hid hbel; have HK := Lib.hid hblk
      have hx0 : wr.cell? ⟨w.heap.size, 0, none⟩ = some (.slice A n ca) := hblk.cell rfl
      by_cases hlt : k < n
      · obtain ⟨g, off, pA, pc, rfl, hg, hc0, hc1, hc2, hpg⟩ := (HA.out.below hbel).at hlt
        have hkl : k < X.length := by have := HL.out; omega
        have HPG := Lib.hid (hpg.mono hbel.size)
        have h4 := (HOK.out.2 k hkl).1
        have hfk : f k = freeOne (X.getD k zeroBk) := by rw [HF.out]
        have HST : Hid (sumTo f (k + 1) = sumTo f k + freeOne (X.getD k zeroBk)) := by show _ = _; rw [sumTo, hfk]
        have hle := HLE.out k
        clear hpg hfk hbel hblk
        generalize X.getD k zeroBk = b at hc0 hc1 hc2 HPG h4 HST
        generalize sumTo f k = s at hle HST
        obtain ⟨ps, er, bd⟩ := b
        simp only at hc0 hc1 hc2 HPG h4
        obtain ⟨a, b, c, d, rfl⟩ := four_of_length h4
        clear h4
        go_wp2_with fail
        refine (isFree_any pA pc a b c d er bd wr HPG.out).mono ?_
        rintro e w3 ⟨rfl, hb3⟩
        have HB3 := Lib.hid (bel_step HW.out hb3)
        have HK3 := Lib.hid (HK.out.below hb3 HK.out.lt)
        clear hb3
        by_cases hfr : bd = false ∧ uPre [a, b, c, d] = 0
        · have HST2 : Hid (sumTo f (k + 1) = s + 1) := by show _ = _; rw [HST.out, freeOne, if_pos hfr]
          rw [decide_eq_true hfr]
          clear HST hfr
          go_wp2
          go_roundw
          case rel => exact ⟨k + 1, by omega, by go_num, by rw [HST2.out]; go_num, HB3.out, HK3.out⟩
          case measure => simp [intOf]; omega
        · have HST2 : Hid (sumTo f (k + 1) = s) := by show _ = _; rw [HST.out, freeOne, if_neg hfr]; rfl
          rw [decide_eq_false hfr]
          clear HST hfr
          go_wp2
          go_roundw
          case rel => exact ⟨k + 1, by omega, by go_num, by rw [HST2.out], HB3.out, HK3.out⟩
          case measure => simp [intOf]; omega
      · clear hbel hblk
        obtain rfl : k = n := by omega
        go_wp2
        go_ret
        exact ⟨ret_i HS.out.symm, HW.out⟩
  · rw [ndB_no hok]
    have HC := Lib.hid (freeAns_no hok)
    go_wp2
    go_ret
    exact ⟨ret_i HC.out.symm, HB2.out⟩

set_option maxHeartbeats 1000000 in
theorem l02Free_any (A : Option Addr) (n ca : Nat) (X : List Bk) (w : World) (hX : Small X) (hok : NdOk X) (hA : RdBk w w.heap.size A n X) :
    Calls Tryz.prog 202 #[.agg #[.slice A n ca]] w fun e w' => e = .returned (.int .i64 ((nFree X : Nat) : Int)) ∧ Below w.heap.size w w' := by
  have hn : n ≤ 1048576 := by have := hX.1; have := hA.1; omega
  have HL := Lib.hid hA.1
  have HA := Lib.hid hA; have HX := Lib.hid hX; have HOK := Lib.hid hok
  obtain ⟨f, hf⟩ : ∃ f : Nat → Nat, f = fun i => freeOne (X.getD i zeroBk) := ⟨_, rfl⟩
  have HS : Hid (nFree X = sumTo f n) := by show nFree X = _; rw [nFree_def, HL.out, hf]
  have HLE : Hid (∀ k, sumTo f k ≤ k) := fun k => sumTo_le (fun i => by rw [hf]; exact freeOne_le _) k
  have HF := Lib.hid hf; clear hf hok hA hX
  rw [HS.out]
  go_enter Tryz.func202, Tryz.ntmps202
  go_wp2
  generalize hW : w.alloc (.cells #[.slice A n ca] 28) = w1
  have HB1 : Hid (Below w.heap.size w w1) := by rw [← hW]; exact (Below.refl _ _).alloc (Nat.le_refl _) _
  have HK1 : Hid (IsBlk w1 w.heap.size 28 [.slice A n ca]) := by rw [← hW]; exact isBlk_new _ _ _
  clear hW
  go_loopw [3, 4] (fun m i wr => ∃ k : Nat, k ≤ n ∧ i = .int .i64 (k : Nat) ∧ m = .int .i64 ((sumTo f k : Nat) : Int) ∧ Below w.heap.size w wr ∧ IsBlk wr w.heap.size 28 [.slice A n ca]) (fun _ i _ => n - (intOf i).toNat)
  case atStart => exact ⟨0, by omega, rfl, rfl, HB1.out, HK1.out⟩
  case round =>
    obtain ⟨k, hk, rfl, rfl, hbel, hblk⟩ := hrel
    have HW := Lib.hid hbel; have HK := Lib.hid hblk
    have hx0 : wr.cell? ⟨w.heap.size, 0, none⟩ = some (.slice A n ca) := hblk.cell rfl
    by_cases hlt : k < n
    · obtain ⟨g, off, pA, pc, rfl, hg, hc0, hc1, hc2, hpg⟩ := (HA.out.below hbel).at hlt
      have hkl : k < X.length := by have := HL.out; omega
      have HPG := Lib.hid (hpg.mono hbel.size)
      have hpl := (HX.out.2 _ (getD_lt (z := zeroBk) hkl)).1
      have HU := Lib.hid (nUsed_ok (HOK.out.2 k hkl))
      have hfk : f k = freeOne (X.getD k zeroBk) := by rw [HF.out]
      have HST : Hid (sumTo f (k + 1) = sumTo f k + freeOne (X.getD k zeroBk)) := by show _ = _; rw [sumTo, hfk]
      have hle := HLE.out k
      clear hpg hfk hbel hblk
      generalize X.getD k zeroBk = b at hc0 hc1 hc2 HPG hpl HST HU
      generalize sumTo f k = s at hle HST
      obtain ⟨ps, er, bd⟩ := b
      simp only at hc0 hc1 hc2 HPG hpl HU
      cases bd with
      | true =>
        have HST2 : Hid (sumTo f (k + 1) = s) := by show _ = _; rw [HST.out, freeOne, if_neg (by simp)]; rfl
        clear HST
        go_wp2
        go_roundw
        case rel => exact ⟨k + 1, by omega, by go_num, by rw [HST2.out], HW.out, HK.out⟩
        case measure => simp [intOf]; omega
      | false =>
        go_wp2_with fail
        refine (l02Used_any _ _ _ ps _ _ wr hpl HPG.out).mono ?_
        rintro e w3 ⟨rfl, hb3⟩
        have HB3 := Lib.hid (bel_step HW.out hb3)
        have HK3 := Lib.hid (HK.out.below hb3 HK.out.lt)
        clear hb3
        rw [HU.out]
        by_cases hfr : uPre ps = 0
        · have HST2 : Hid (sumTo f (k + 1) = s + 1) := by show _ = _; rw [HST.out, freeOne, if_pos ⟨rfl, hfr⟩]
          rw [hfr]
          clear HST hfr
          go_wp2
          go_roundw
          case rel => exact ⟨k + 1, by omega, by go_num, by rw [HST2.out]; go_num, HB3.out, HK3.out⟩
          case measure => simp [intOf]; omega
        · have HST2 : Hid (sumTo f (k + 1) = s) := by show _ = _; rw [HST.out, freeOne, if_neg (fun h => hfr h.2)]; rfl
          generalize uPre ps = u at hfr
          have h0' : ((u : Int) == 0) = false := by simp; omega
          have h0'' : (u == 0) = false := by simpa using hfr
          clear HST
          go_wp2
          go_roundw
          case rel => exact ⟨k + 1, by omega, by go_num, by rw [HST2.out], HB3.out, HK3.out⟩
          case measure => simp [intOf]; omega
    · clear hbel hblk
      obtain rfl : k = n := by omega
      go_wp2
      go_ret
      exact ⟨rfl, HW.out⟩

end Go.Proofs.YtfpibbhcecdbgaaGreatDoor

namespace Go.Proofs.YtfpibbhcecdbgaaGreatDoor

/-- the first place below n at which f holds; -1 without -/
def firstTo (f : Nat → Bool) : Nat → Int
  | 0 => -1
  | k + 1 => if firstTo f k = -1 then (if f k = true then (k : Int) else -1) else firstTo f k
theorem firstTo_none {f : Nat → Bool} {n : Nat} (h : ∀ i, i < n → f i = false) : firstTo f n = -1 := by
  induction n with
  | zero => rfl
  | succ n ih => simp only [firstTo]; rw [if_pos (ih fun i hi => h i (by omega)), h n (by omega)]; rfl
theorem firstTo_at {f : Nat → Bool} {k : Nat} (h : ∀ i, i < k → f i = false) (hk : f k = true) : ∀ n, k < n → firstTo f n = (k : Int) := by
  intro n
  induction n with
  | zero => intro h; omega
  | succ n ih =>
    intro hn
    simp only [firstTo]
    by_cases e : k = n
    · subst e; rw [if_pos (firstTo_none h), if_pos hk]
    · rw [ih (by omega), if_neg (by omega)]
theorem firstTo_cases (f : Nat → Bool) (n : Nat) : (firstTo f n = -1 ∧ ∀ i, i < n → f i = false) ∨ ∃ k : Nat, k < n ∧ firstTo f n = (k : Int) ∧ f k = true ∧ ∀ i, i < k → f i = false := by
  induction n with
  | zero => exact .inl ⟨rfl, fun i h => absurd h (by omega)⟩
  | succ n ih =>
    rcases ih with ⟨h1, h2⟩ | ⟨k, h1, h2, h3, h4⟩
    · cases e : f n with
      | true => exact .inr ⟨n, by omega, by simp only [firstTo]; rw [if_pos h1, if_pos e], e, h2⟩
      | false =>
        refine .inl ⟨by simp only [firstTo]; rw [if_pos h1, e]; rfl, fun i hi => ?_⟩
        by_cases e' : i = n
        · subst e'; exact e
        · exact h2 i (by omega)
    · exact .inr ⟨k, by omega, by simp only [firstTo]; rw [h2, if_neg (by omega)], h3, h4⟩

/-- a block that can be programmed further -/
def opnB (b : Bk) : Bool := !b.bad && (decide (0 < uPre b.pages) && decide (uPre b.pages < 4))
def openR (X : List Bk) : Int := firstTo (fun i => opnB (X.getD i zeroBk)) X.length
def fre (b : Bk) : Bool := decide (b.bad = false ∧ uPre b.pages = 0)
/-- the first free block with the least Erases, among the first k; -1 without -/
def leastTo (X : List Bk) : Nat → Int
  | 0 => -1
  | k + 1 => if fre (X.getD k zeroBk) = true ∧ (leastTo X k = -1 ∨ (X.getD k zeroBk).erases < (X.getD (leastTo X k).toNat zeroBk).erases) then (k : Int) else leastTo X k
theorem leastTo_range (X : List Bk) (k : Nat) : leastTo X k = -1 ∨ (0 ≤ leastTo X k ∧ leastTo X k < k) := by
  induction k with
  | zero => exact .inl rfl
  | succ k ih =>
    simp only [leastTo]
    split
    · right; omega
    · rcases ih with h | h
      · exact .inl h
      · right; omega
theorem leastTo_yes {X : List Bk} {k : Nat} (h : fre (X.getD k zeroBk) = true) (h' : leastTo X k = -1 ∨ (X.getD k zeroBk).erases < (X.getD (leastTo X k).toNat zeroBk).erases) : leastTo X (k + 1) = (k : Int) := by simp only [leastTo]; rw [if_pos ⟨h, h'⟩]
theorem leastTo_busy {X : List Bk} {k : Nat} (h : fre (X.getD k zeroBk) = false) : leastTo X (k + 1) = leastTo X k := by simp only [leastTo]; rw [if_neg (by simp only [List.getD_eq_getElem?_getD] at h ⊢; rw [h]; simp)]
theorem leastTo_more {X : List Bk} {k : Nat} (h1 : leastTo X k ≠ -1) (h2 : ¬ (X.getD k zeroBk).erases < (X.getD (leastTo X k).toNat zeroBk).erases) : leastTo X (k + 1) = leastTo X k := by
  simp only [leastTo]; rw [if_neg]
  rintro ⟨-, h | h⟩
  · exact h1 h
  · exact h2 h
def nextR (X : List Bk) (r : Int) : Int := if openR X = -1 then (if ((nFree X : Nat) : Int) ≤ r then -1 else leastTo X X.length) else openR X
open Classical in
noncomputable def openAns (X : List Bk) : Int := if NdOk X then openR X else -1
open Classical in
noncomputable def nextAns (X : List Bk) (r : Int) : Int := if NdOk X ∧ (0 ≤ r ∧ r ≤ 12) then nextR X r else -1
theorem openAns_no {X : List Bk} (h : ¬ NdOk X) : openAns X = -1 := by unfold openAns; rw [if_neg h]
theorem openAns_yes {X : List Bk} (h : NdOk X) : openAns X = openR X := by unfold openAns; rw [if_pos h]
theorem nextAns_no {X : List Bk} {r : Int} (h : ¬ NdOk X) : nextAns X r = -1 := by unfold nextAns; rw [if_neg (fun x => h x.1)]
theorem nextAns_out {X : List Bk} {r : Int} (h : ¬ (0 ≤ r ∧ r ≤ 12)) : nextAns X r = -1 := by unfold nextAns; rw [if_neg (fun x => h x.2)]
theorem nextAns_yes {X : List Bk} {r : Int} (h : NdOk X) (h' : 0 ≤ r ∧ r ≤ 12) : nextAns X r = nextR X r := by unfold nextAns; rw [if_pos ⟨h, h'⟩]
theorem openR_range (X : List Bk) : openR X = -1 ∨ (0 ≤ openR X ∧ openR X < X.length) := by
  rcases firstTo_cases (fun i => opnB (X.getD i zeroBk)) X.length with ⟨h, -⟩ | ⟨k, hk, h, -⟩
  · exact .inl h
  · right; unfold openR; rw [h]; omega
theorem nextR_range (X : List Bk) (r : Int) : nextR X r = -1 ∨ (0 ≤ nextR X r ∧ nextR X r < X.length) := by
  unfold nextR
  split
  · split
    · exact .inl rfl
    · exact leastTo_range X X.length
  · rcases openR_range X with h | h
    · exact .inl h
    · exact .inr h
end Go.Proofs.YtfpibbhcecdbgaaGreatDoor

namespace Go.Proofs.YtfpibbhcecdbgaaGreatDoor
open Go.RowKit

set_option maxHeartbeats 1000000 in
set_option maxRecDepth 100000 in
theorem isOpen_any (A : Option Addr) (ca : Nat) (a b c d : Pg) (er : Int) (bad : Bool) (w : World) (hA : RdPg w w.heap.size A 4 [a, b, c, d]) :
    Calls Tryz.prog 130 #[.agg #[.slice A 4 ca, .int .i64 er, .bool bad]] w fun e w' => e = .returned (.bool (opnB ⟨[a, b, c, d], er, bad⟩)) ∧ Below w.heap.size w w' := by
  have HA := Lib.hid hA; clear hA
  have HO : Hid (opnB ⟨[a, b, c, d], er, bad⟩ = (!bad && (decide (0 < uPre [a, b, c, d]) && decide (uPre [a, b, c, d] < 4)))) := Lib.hid rfl
  obtain ⟨O, hO⟩ : ∃ O, O = opnB ⟨[a, b, c, d], er, bad⟩ := ⟨_, rfl⟩
  rw [← hO] at HO ⊢
  clear hO
  go_enter Tryz.func130, Tryz.ntmps130
  go_wp2_with fail
  have hb0 := box_below w (.cells #[.slice A 4 ca, .int .i64 er, .bool bad] 98)
  have k0 := isBlk_new w 98 [.slice A 4 ca, .int .i64 er, .bool bad]
  change Calls _ _ _ (w.alloc (.cells #[.slice A 4 ca, .int .i64 er, .bool bad] 98)) _
  generalize w.alloc (.cells #[.slice A 4 ca, .int .i64 er, .bool bad] 98) = W at hb0 k0 ⊢
  refine (pagesOf_any A ca a b c d er bad _ ((HA.out.below hb0).mono hb0.size)).mono ?_
  rintro e w3 ⟨rfl, hb3⟩
  have HB3 := Lib.hid (bel_step hb0 hb3)
  have HK3 := Lib.hid (k0.below hb3 k0.lt)
  clear hb3 hb0 k0
  go_wp2_with fail
  refine (used_any a b c d w3).mono ?_
  rintro e w4 ⟨rfl, hb4⟩
  have HB4 := Lib.hid (bel_step HB3.out hb4)
  obtain ⟨x0, x1, x2, -, -, -⟩ := blk3 (HK3.out.below hb4 HK3.out.lt)
  clear hb4
  obtain ⟨u, hu⟩ : ∃ u, u = uPre [a, b, c, d] := ⟨_, rfl⟩
  rw [← hu] at HO ⊢
  clear hu
  cases bad with
  | true =>
    have HC : Hid (O = false) := by show _ = _; rw [HO.out]; simp
    go_wp2
    go_ret
    exact ⟨ret_b HC.out.symm, HB4.out⟩
  | false =>
    by_cases h0 : 0 < u
    · by_cases h4 : u < 4
      · have HC : Hid (O = true) := by show _ = _; rw [HO.out]; simp [h0, h4]
        have h4' : decide ((u : Int) < 4) = true := by simp; omega
        clear HO
        go_wp2
        go_ret
        exact ⟨ret_b HC.out.symm, HB4.out⟩
      · have HC : Hid (O = false) := by show _ = _; rw [HO.out]; simp [h4]
        have h4' : decide (u < 4) = false := by simpa using h4
        have h4'' : decide ((u : Int) < 4) = false := by simp; omega
        clear HO
        go_wp2
        go_ret
        exact ⟨ret_b HC.out.symm, HB4.out⟩
    · have HC : Hid (O = false) := by show _ = _; rw [HO.out]; simp [h0]
      have h0' : decide (0 < u) = false := by simpa using h0
      have h0'' : decide (0 < (u : Int)) = false := by simp; omega
      clear HO
      go_wp2
      go_ret
      exact ⟨ret_b HC.out.symm, HB4.out⟩

set_option maxHeartbeats 1000000 in
set_option maxRecDepth 100000 in
theorem indexFunc_any (A : Option Addr) (n ca : Nat) (X : List Bk) (w : World) (hX : Small X) (hok : NdOk X) (hA : RdBk w w.heap.size A n X) :
    Calls Tryz.prog 129 #[.slice A n ca, .func (.func 130) #[] #[]] w fun e w' => e = .returned (.int .i64 (openR X)) ∧ Below w.heap.size w w' := by
  have hn : n ≤ 1048576 := by have := hX.1; have := hA.1; omega
  have HL := Lib.hid hA.1
  have HA := Lib.hid hA; have HX := Lib.hid hX; have HOK := Lib.hid hok; clear hA hX hok
  go_enter Tryz.func129, Tryz.ntmps129
  go_wp2
  go_loopw [8] (fun i wr => ∃ k : Nat, k ≤ n ∧ i = .int .i64 (k : Nat) ∧ (∀ j, j < k → opnB (X.getD j zeroBk) = false) ∧ Below w.heap.size w wr) (fun i _ => n - (intOf i).toNat)
  case atStart => exact ⟨0, by omega, rfl, fun j h => absurd h (by omega), Below.refl _ _⟩
  case round =>
    obtain ⟨k, hk, rfl, hno, hbel⟩ := hrel
    have HNO := Lib.hid hno; have HW := Lib.hid hbel
    clear hno
    by_cases hlt : k < n
    · obtain ⟨g, off, pA, pc, rfl, hg, hc0, hc1, hc2, hpg⟩ := (HA.out.below hbel).at hlt
      have hkl : k < X.length := by have := HL.out; omega
      have HPG := Lib.hid (hpg.mono hbel.size)
      have h4 := (HOK.out.2 k hkl).1
      have HY : Hid (opnB (X.getD k zeroBk) = true → openR X = (k : Int)) := Lib.hid (fun h => firstTo_at (f := fun i => opnB (X.getD i zeroBk)) HNO.out h X.length hkl)
      have HN : Hid (opnB (X.getD k zeroBk) = false → ∀ j, j < k + 1 → opnB (X.getD j zeroBk) = false) := fun h j hj => by
        by_cases e : j = k
        · rw [e]; exact h
        · exact HNO.out j (by omega)
      clear hpg hbel
      generalize X.getD k zeroBk = b at hc0 hc1 hc2 HPG h4 HY HN
      obtain ⟨ps, er, bd⟩ := b
      simp only at hc0 hc1 hc2 HPG h4
      obtain ⟨a, b, c, d, rfl⟩ := four_of_length h4
      clear h4
      go_wp2_with fail
      refine (isOpen_any pA pc a b c d er bd wr HPG.out).mono ?_
      rintro e w3 ⟨rfl, hb3⟩
      have HB3 := Lib.hid (bel_step HW.out hb3)
      clear hb3
      cases ho : opnB ⟨[a, b, c, d], er, bd⟩ with
      | true =>
        have HY' := Lib.hid (HY.out ho)
        clear ho HY HN
        go_wp2
        go_ret
        exact ⟨ret_i HY'.out.symm, HB3.out⟩
      | false =>
        have HN' := Lib.hid (HN.out ho)
        clear ho HY HN
        go_wp2
        go_roundw
        case rel => exact ⟨k + 1, by omega, by go_num, HN'.out, HB3.out⟩
        case measure => simp [intOf]; omega
    · clear hbel
      obtain rfl : k = n := by omega
      have HN : Hid (openR X = -1) := by show _ = _; exact firstTo_none (fun i hi => HNO.out i (by rw [← HL.out]; exact hi))
      go_wp2
      go_ret
      exact ⟨ret_i HN.out.symm, HW.out⟩

set_option maxHeartbeats 1000000 in
theorem impl_openBlock (A : Option Addr) (n ca : Nat) (X : List Bk) (w : World) (hX : Small X) (hA : RdBk w w.heap.size A n X) :
    Calls Tryz.prog 53 #[.agg #[.slice A n ca]] w fun e w' => e = .returned (.int .i64 (openAns X)) ∧ Below w.heap.size w w' := by
  have hn : n ≤ 1048576 := by have := hX.1; have := hA.1; omega
  have HA := Lib.hid hA; have HX := Lib.hid hX; clear hA hX
  go_enter Tryz.func53, Tryz.ntmps53
  go_wp2_with fail
  refine (impl_nandRight A n ca X _ HX.out (box_rd HA.out _)).mono ?_
  rintro e w2 ⟨rfl, hb2⟩
  have k2 := (isBlk_new w 28 [.slice A n ca]).below hb2 (by show w.heap.size < (w.alloc _).heap.size; simp)
  have hx2 : w2.cell? ⟨w.heap.size, 0, none⟩ = some (.slice A n ca) := k2.cell rfl
  have HB2 := Lib.hid (bel_step (box_below w _) hb2)
  clear hb2 k2
  by_cases hok : NdOk X
  · rw [ndB_yes hok]
    have HC := Lib.hid (openAns_yes hok); have HOK := Lib.hid hok
    have hr := openR_range X
    have hl := HX.out.1
    clear hok
    go_wp2_with fail
    refine (indexFunc_any A n ca X w2 HX.out HOK.out (rd_step HA.out HB2.out)).mono ?_
    rintro e w3 ⟨rfl, hb3⟩
    have HB3 := Lib.hid (bel_step HB2.out hb3)
    clear hb3
    have h1 : -1 ≤ openR X := by omega
    have h2 : openR X ≤ 1048576 := by omega
    clear hr
    generalize openR X = z at *
    go_wp2
    go_ret
    exact ⟨ret_i HC.out.symm, HB3.out⟩
  · rw [ndB_no hok]
    have HC := Lib.hid (openAns_no hok)
    go_wp2
    go_ret
    exact ⟨ret_i HC.out.symm, HB2.out⟩

set_option maxHeartbeats 1000000 in
theorem l05Open_any (A : Option Addr) (n ca : Nat) (X : List Bk) (w : World) (hX : Small X) (hok : NdOk X) (hA : RdBk w w.heap.size A n X) :
    Calls Tryz.prog 131 #[.agg #[.slice A n ca]] w fun e w' => e = .returned (.int .i64 (openR X)) ∧ Below w.heap.size w w' := by
  have hn : n ≤ 1048576 := by have := hX.1; have := hA.1; omega
  have HL := Lib.hid hA.1
  have HA := Lib.hid hA; have HX := Lib.hid hX; have HOK := Lib.hid hok
  clear hok hA hX
  go_enter Tryz.func131, Tryz.ntmps131
  go_wp2
  generalize hW : w.alloc (.cells #[.slice A n ca] 28) = w1
  have HB1 : Hid (Below w.heap.size w w1) := by rw [← hW]; exact (Below.refl _ _).alloc (Nat.le_refl _) _
  have HK1 : Hid (IsBlk w1 w.heap.size 28 [.slice A n ca]) := by rw [← hW]; exact isBlk_new _ _ _
  clear hW
  go_loopw [3] (fun i wr => ∃ k : Nat, k ≤ n ∧ i = .int .i64 (k : Nat) ∧ (∀ j, j < k → opnB (X.getD j zeroBk) = false) ∧ Below w.heap.size w wr ∧ IsBlk wr w.heap.size 28 [.slice A n ca]) (fun i _ => n - (intOf i).toNat)
  case atStart => exact ⟨0, by omega, rfl, fun j h => absurd h (by omega), HB1.out, HK1.out⟩
  case round =>
    obtain ⟨k, hk, rfl, hno, hbel, hblk⟩ := hrel
    have HNO := Lib.hid hno; have HW := Lib.hid hbel; have HK := Lib.hid hblk
    have hx0 : wr.cell? ⟨w.heap.size, 0, none⟩ = some (.slice A n ca) := hblk.cell rfl
    clear hno
    by_cases hlt : k < n
    · obtain ⟨g, off, pA, pc, rfl, hg, hc0, hc1, hc2, hpg⟩ := (HA.out.below hbel).at hlt
      have hkl : k < X.length := by have := HL.out; omega
      have HPG := Lib.hid (hpg.mono hbel.size)
      have hpl := (HX.out.2 _ (getD_lt (z := zeroBk) hkl)).1
      have HU := Lib.hid (nUsed_ok (HOK.out.2 k hkl))
      have HY : Hid (opnB (X.getD k zeroBk) = true → openR X = (k : Int)) := Lib.hid (fun h => firstTo_at (f := fun i => opnB (X.getD i zeroBk)) HNO.out h X.length hkl)
      have HN : Hid (opnB (X.getD k zeroBk) = false → ∀ j, j < k + 1 → opnB (X.getD j zeroBk) = false) := fun h j hj => by
        by_cases e : j = k
        · rw [e]; exact h
        · exact HNO.out j (by omega)
      clear hpg hbel hblk
      generalize X.getD k zeroBk = b at hc0 hc1 hc2 HPG hpl HU HY HN
      obtain ⟨ps, er, bd⟩ := b
      simp only at hc0 hc1 hc2 HPG hpl HU
      cases bd with
      | true =>
        have HN' := Lib.hid (HN.out (by simp [opnB]))
        clear HN HY
        go_wp2
        go_roundw
        case rel => exact ⟨k + 1, by omega, by go_num, HN'.out, HW.out, HK.out⟩
        case measure => simp [intOf]; omega
      | false =>
        go_wp2_with fail
        refine (l02Used_any _ _ _ ps _ _ wr hpl HPG.out).mono ?_
        rintro e w3 ⟨rfl, hb3⟩
        have HB3 := Lib.hid (bel_step HW.out hb3)
        have HK3 := Lib.hid (HK.out.below hb3 HK.out.lt)
        clear hb3
        rw [HU.out]
        have HO : Hid (opnB ⟨ps, er, false⟩ = (decide (0 < uPre ps) && decide (uPre ps < 4))) := Lib.hid (by simp [opnB])
        generalize uPre ps = u at HO
        go_wp2_with fail
        refine (l02Is_any _ _ _ _).mono ?_
        rintro e w4 ⟨rfl, rfl⟩
        by_cases h1 : 1 ≤ (u : Int) ∧ (u : Int) ≤ 3
        · have HY' := Lib.hid (HY.out (by rw [HO.out]; simp; omega))
          rw [isB_yes h1]
          clear HY HN HO
          go_wp2
          go_ret
          exact ⟨ret_i HY'.out.symm, HB3.out⟩
        · have HN' := Lib.hid (HN.out (by rw [HO.out]; simp; omega))
          rw [isB_no h1]
          clear HY HN HO
          go_wp2
          go_roundw
          case rel => exact ⟨k + 1, by omega, by go_num, HN'.out, HB3.out, HK3.out⟩
          case measure => simp [intOf]; omega
    · clear hbel hblk
      obtain rfl : k = n := by omega
      have HN : Hid (openR X = -1) := by show _ = _; exact firstTo_none (fun i hi => HNO.out i (by rw [← HL.out]; exact hi))
      go_wp2
      go_ret
      exact ⟨ret_i HN.out.symm, HW.out⟩

set_option maxHeartbeats 1000000 in
theorem spec_openBlock (A : Option Addr) (n ca : Nat) (X : List Bk) (w : World) (hX : Small X) (hA : RdBk w w.heap.size A n X) :
    Calls Tryz.prog 54 #[.agg #[.slice A n ca]] w fun e w' => e = .returned (.int .i64 (openAns X)) ∧ Below w.heap.size w w' := by
  have HA := Lib.hid hA; have HX := Lib.hid hX; clear hA hX
  go_enter Tryz.func54, Tryz.ntmps54
  go_wp2_with fail
  refine (spec_nandRight A n ca X _ HX.out (box_rd HA.out _)).mono ?_
  rintro e w2 ⟨rfl, hb2⟩
  have k2 := (isBlk_new w 28 [.slice A n ca]).below hb2 (by show w.heap.size < (w.alloc _).heap.size; simp)
  have hx2 : w2.cell? ⟨w.heap.size, 0, none⟩ = some (.slice A n ca) := k2.cell rfl
  have HB2 := Lib.hid (bel_step (box_below w _) hb2)
  clear hb2 k2
  by_cases hok : NdOk X
  · rw [ndB_yes hok]
    have HC := Lib.hid (openAns_yes hok); have HOK := Lib.hid hok
    clear hok
    go_wp2_with fail
    refine (l05Open_any A n ca X w2 HX.out HOK.out (rd_step HA.out HB2.out)).mono ?_
    rintro e w3 ⟨rfl, hb3⟩
    have HB3 := Lib.hid (bel_step HB2.out hb3)
    clear hb3
    go_wp2
    go_ret
    exact ⟨ret_i HC.out.symm, HB3.out⟩
  · rw [ndB_no hok]
    have HC := Lib.hid (openAns_no hok)
    go_wp2
    go_ret
    exact ⟨ret_i HC.out.symm, HB2.out⟩
end Go.Proofs.YtfpibbhcecdbgaaGreatDoor

namespace Go.Proofs.YtfpibbhcecdbgaaGreatDoor
open Go.RowKit

set_option maxHeartbeats 1000000 in
theorem isReserve_any (n : Int) (w : World) :
    Calls Tryz.prog 132 #[.int .i64 n] w fun e w' => e = .returned (.bool (isB 0 12 n)) ∧ w = w' := by
  by_cases h1 : 0 ≤ n
  · by_cases h2 : n ≤ 12
    · rw [isB_yes ⟨h1, h2⟩]
      go_enter Tryz.func132, Tryz.ntmps132
      go_wp2
      go_ret
      exact ⟨rfl, rfl⟩
    · have h2' : decide (n ≤ 12) = false := by simpa using h2
      rw [isB_no (by omega)]
      go_enter Tryz.func132, Tryz.ntmps132
      go_wp2
      go_ret
      exact ⟨rfl, rfl⟩
  · have h1' : decide (0 ≤ n) = false := by simpa using h1
    rw [isB_no (by omega)]
    go_enter Tryz.func132, Tryz.ntmps132
    go_wp2
    go_ret
    exact ⟨rfl, rfl⟩
set_option maxHeartbeats 1000000 in
theorem l05Reserve_any (n : Int) (w : World) :
    Calls Tryz.prog 124 #[.int .i64 n] w fun e w' => e = .returned (.bool (isB 0 12 n)) ∧ w = w' := by
  go_enter Tryz.func124, Tryz.ntmps124
  go_wp2_with fail
  refine (l02Is_any _ _ _ _).mono ?_
  rintro e w1 ⟨rfl, rfl⟩
  go_wp2
  go_ret
  exact ⟨rfl, rfl⟩
theorem below_drewN {B : Nat} {w a : World} (h : Below B w a) (n : Nat) : Below B w (a.drewN n) := ⟨h.os, h.tape, h.output, h.size, h.block⟩
theorem IsBlk.drewN {w : World} {g : Nat} {e : TypeId} {cs : List Value} (h : IsBlk w g e cs) (n : Nat) : IsBlk (w.drewN n) g e cs := h

set_option maxHeartbeats 2000000 in
set_option maxRecDepth 100000 in
theorem leastErased_any (A : Option Addr) (n ca : Nat) (X : List Bk) (w : World) (hX : Small X) (hok : NdOk X) (hA : RdBk w w.heap.size A n X) :
    Calls Tryz.prog 134 #[.agg #[.slice A n ca]] w fun e w' => e = .returned (.int .i64 (leastTo X n)) ∧ Below w.heap.size w w' := by
  have hn : n ≤ 1048576 := by have := hX.1; have := hA.1; omega
  have HL := Lib.hid hA.1
  have HA := Lib.hid hA; have HX := Lib.hid hX; have HOK := Lib.hid hok
  clear hok hA hX
  go_enter Tryz.func134, Tryz.ntmps134
  go_wp2
  generalize hW : w.alloc (.cells #[.slice A n ca] 28) = w1
  have HB1 : Hid (Below w.heap.size w w1) := by rw [← hW]; exact (Below.refl _ _).alloc (Nat.le_refl _) _
  have HK1 : Hid (IsBlk w1 w.heap.size 28 [.slice A n ca]) := by rw [← hW]; exact isBlk_new _ _ _
  clear hW
  go_loopw [3, 8] (fun m i wr => ∃ k : Nat, k ≤ n ∧ i = .int .i64 (k : Nat) ∧ m = .int .i64 (leastTo X k) ∧ Below w.heap.size w wr ∧ IsBlk wr w.heap.size 28 [.slice A n ca]) (fun _ i _ => n - (intOf i).toNat)
  case atStart => exact ⟨0, by omega, rfl, rfl, HB1.out, HK1.out⟩
  case round =>
    obtain ⟨k, hk, rfl, rfl, hbel, hblk⟩ := hrel
    have HW := Lib.hid hbel; have HK := Lib.hid hblk
    have hx0 : wr.cell? ⟨w.heap.size, 0, none⟩ = some (.slice A n ca) := hblk.cell rfl
    have hrg := leastTo_range X k
    by_cases hlt : k < n
    · obtain ⟨g, off, pA, pc, rfl, hg, hc0, hc1, hc2, hpg⟩ := (HA.out.below hbel).at hlt
      have hkl : k < X.length := by have := HL.out; omega
      have HPG := Lib.hid (hpg.mono hbel.size)
      have h4 := (HOK.out.2 k hkl).1
      have HYE : Hid (fre (X.getD k zeroBk) = true → leastTo X k = -1 ∨ (X.getD k zeroBk).erases < (X.getD (leastTo X k).toNat zeroBk).erases → leastTo X (k + 1) = (k : Int)) := Lib.hid leastTo_yes
      have HBU : Hid (fre (X.getD k zeroBk) = false → leastTo X (k + 1) = leastTo X k) := Lib.hid leastTo_busy
      have HMO : Hid (leastTo X k ≠ -1 → ¬ (X.getD k zeroBk).erases < (X.getD (leastTo X k).toNat zeroBk).erases → leastTo X (k + 1) = leastTo X k) := Lib.hid leastTo_more
      clear hpg hblk
      generalize X.getD k zeroBk = b at hc0 hc1 hc2 HPG h4 HYE HBU HMO
      obtain ⟨ps, er, bd⟩ := b
      simp only at hc0 hc1 hc2 HPG h4
      obtain ⟨a, b, c, d, rfl⟩ := four_of_length h4
      clear h4
      have hgr : g < wr.heap.size := Nat.lt_of_lt_of_le hg hbel.size
      obtain ⟨z, hz⟩ : ∃ z, z = leastTo X k := ⟨_, rfl⟩
      rw [← hz] at hrg HYE HBU HMO ⊢
      have HZ : Hid (∀ l : Nat, z = (l : Int) → l < k → wr.cell? ⟨g, off + l * 3 + 1, none⟩ = some (.int .i64 (X.getD l zeroBk).erases)) := fun l _ hl => by
        obtain ⟨g', off', -, -, hA', -, -, e1, -, -⟩ := (HA.out.below hbel).at (show l < n by omega)
        cases hA'; exact e1
      clear hbel hz
      have hg1 : wr.cell? ⟨g, off + k * 3 + 1, none⟩ = some (.int .i64 er) := hc1
      go_wp2_with fail
      refine (isFree_any pA pc a b c d er bd wr HPG.out).mono ?_
      rintro e w3 ⟨rfl, hb3⟩
      have HB3 := Lib.hid (bel_step HW.out hb3)
      have HK3 := Lib.hid (HK.out.below hb3 HK.out.lt)
      have hx3 : w3.cell? ⟨w.heap.size, 0, none⟩ = some (.slice (some ⟨g, off, none⟩) n ca) := HK3.out.cell rfl
      have hg3 : w3.cell? ⟨g, off + k * 3 + 1, none⟩ = some (.int .i64 er) := (hb3.cell (p := ⟨g, off + k * 3 + 1, none⟩) hgr).trans hg1
      have HZ3 : Hid (∀ l : Nat, z = (l : Int) → l < k → w3.cell? ⟨g, off + l * 3 + 1, none⟩ = some (.int .i64 (X.getD l zeroBk).erases)) := fun l h1 h2 => (hb3.cell (p := ⟨g, off + l * 3 + 1, none⟩) hgr).trans (HZ.out l h1 h2)
      have HFR : Hid (fre ⟨[a, b, c, d], er, bd⟩ = decide (bd = false ∧ uPre [a, b, c, d] = 0)) := Lib.hid rfl
      clear hb3 hx0 hc0 hc1 hc2 hg1 HZ
      generalize decide (bd = false ∧ uPre [a, b, c, d] = 0) = fr at HFR ⊢
      cases fr with
      | false =>
        have HBU' := Lib.hid (HBU.out HFR.out)
        clear HBU HMO HYE HFR
        go_wp2
        go_roundw
        case rel => exact ⟨k + 1, by omega, by go_num, by rw [HBU'.out], HB3.out, HK3.out⟩
        case measure => simp [intOf]; omega
      | true =>
        rcases hrg with hz | ⟨hz0, hzk⟩
        · subst hz
          have HY' := Lib.hid (HYE.out HFR.out (.inl rfl))
          clear HBU HMO HYE HFR HZ3
          go_wp2
          go_quiet (fail)
          go_wp2
          go_roundw
          case rel => exact ⟨k + 1, by omega, by go_num, by rw [HY'.out], below_drewN HB3.out _, HK3.out.drewN _⟩
          case measure => simp [intOf]; omega
        · obtain ⟨l, rfl⟩ : ∃ l : Nat, z = (l : Int) := ⟨z.toNat, by omega⟩
          have hl3 := HZ3.out l rfl (by omega)
          rw [show ((l : Int)).toNat = l from rfl] at HYE HMO
          generalize (X.getD l zeroBk).erases = el at hl3 HYE HMO
          have hne : ((l : Int) == -1) = false := by first | (simp; done) | (simp; omega)
          have hk0 : (0 : Int) ≤ (k : Int) := by omega
          have hkn : (k : Int) < (n : Int) := by omega
          have hl0 : (0 : Int) ≤ (l : Int) := by omega
          have hln : (l : Int) < (n : Int) := by omega
          clear HZ3
          by_cases hlt2 : er < el
          · have HY' := Lib.hid (HYE.out HFR.out (.inr hlt2))
            clear HBU HMO HYE HFR
            go_wp2
            go_quiet (fail)
            go_wp2
            go_roundw
            case rel => exact ⟨k + 1, by omega, by go_num, by rw [HY'.out], below_drewN HB3.out _, HK3.out.drewN _⟩
            case measure => simp [intOf]; omega
          · have HM' := Lib.hid (HMO.out (by omega) (by first | exact hlt2 | (simp only [Int.not_lt]; omega) | omega))
            have hlt2' : el ≤ er := by omega
            clear HBU HMO HYE HFR
            go_wp2
            go_quiet (fail)
            go_wp2
            go_roundw
            case rel => exact ⟨k + 1, by omega, by go_num, by rw [HM'.out], below_drewN HB3.out _, HK3.out.drewN _⟩
            case measure => simp [intOf]; omega
    · clear hbel hblk
      obtain rfl : k = n := by omega
      go_wp2
      go_ret
      exact ⟨rfl, HW.out⟩

theorem leastTo_nat {X : List Bk} {k : Nat} (h : leastTo X k ≠ -1) : ∃ l : Nat, leastTo X k = (l : Int) ∧ l < k := by
  rcases leastTo_range X k with e | ⟨h0, h1⟩
  · exact absurd e h
  · exact ⟨(leastTo X k).toNat, by omega, by omega⟩

set_option maxHeartbeats 1000000 in
theorem impl_nextBlock (A : Option Addr) (n ca : Nat) (X : List Bk) (r : Int) (w : World) (hX : Small X) (hA : RdBk w w.heap.size A n X) :
    Calls Tryz.prog 55 #[.agg #[.slice A n ca], .int .i64 r] w fun e w' => e = .returned (.int .i64 (nextAns X r)) ∧ Below w.heap.size w w' := by
  have HL := Lib.hid hA.1
  have HA := Lib.hid hA; have HX := Lib.hid hX; clear hA hX
  go_enter Tryz.func55, Tryz.ntmps55
  go_wp2_with fail
  refine (impl_nandRight A n ca X _ HX.out (box_rd HA.out _)).mono ?_
  rintro e w2 ⟨rfl, hb2⟩
  have k2 := (isBlk_new w 28 [.slice A n ca]).below hb2 (by show w.heap.size < (w.alloc _).heap.size; simp)
  have hx2 : w2.cell? ⟨w.heap.size, 0, none⟩ = some (.slice A n ca) := k2.cell rfl
  have HK2 := Lib.hid k2
  have HB2 := Lib.hid (bel_step (box_below w _) hb2)
  clear hb2 k2
  by_cases hok : NdOk X
  case neg =>
    rw [ndB_no hok]
    have HC := Lib.hid (nextAns_no (r := r) hok)
    clear hok
    go_wp2
    go_ret
    exact ⟨ret_i HC.out.symm, HB2.out⟩
  rw [ndB_yes hok]
  go_wp2_with fail
  refine (isReserve_any r w2).mono ?_
  rintro e w3 ⟨rfl, rfl⟩
  by_cases hr : 0 ≤ r ∧ r ≤ 12
  case neg =>
    rw [isB_no hr]
    have HC := Lib.hid (nextAns_out (X := X) hr)
    clear hok
    go_wp2
    go_ret
    exact ⟨ret_i HC.out.symm, HB2.out⟩
  rw [isB_yes hr]
  have HC := Lib.hid (nextAns_yes hok hr)
  have HO := Lib.hid (openAns_yes hok)
  have HF := Lib.hid (freeAns_yes hok)
  have HOK := Lib.hid hok
  have HNX : Hid (nextR X r = if openR X = -1 then (if ((nFree X : Nat) : Int) ≤ r then -1 else leastTo X n) else openR X) := by show _ = _; rw [← HL.out]; rfl
  clear hok hr
  go_wp2_with fail
  refine (impl_openBlock A n ca X w2 HX.out (rd_step HA.out HB2.out)).mono ?_
  rintro e w4 ⟨rfl, hb4⟩
  rw [HO.out]
  have HB4 := Lib.hid (bel_step HB2.out hb4)
  have HK4 := Lib.hid (HK2.out.below hb4 HK2.out.lt)
  have hx4 : w4.cell? ⟨w.heap.size, 0, none⟩ = some (.slice A n ca) := HK4.out.cell rfl
  clear hb4 hx2
  obtain ⟨z, hz⟩ : ∃ z, z = openR X := ⟨_, rfl⟩
  rw [← hz] at HNX ⊢
  clear hz HO
  by_cases hz : z = -1
  case neg =>
    have hz1 : (z == -1) = false := by simpa using hz
    have hz2 : (z != -1) = true := by simpa using hz
    have HE : Hid (nextAns X r = z) := by show _ = _; rw [HC.out, HNX.out, if_neg hz]
    clear hz HC HNX
    go_wp2
    go_ret
    exact ⟨ret_i HE.out.symm, HB4.out⟩
  have HE : Hid (nextAns X r = if ((nFree X : Nat) : Int) ≤ r then -1 else leastTo X n) := by show _ = _; rw [HC.out, HNX.out, if_pos hz]
  subst hz
  clear HC HNX
  go_wp2_with fail
  refine (impl_freeBlocks A n ca X w4 HX.out (rd_step HA.out HB4.out)).mono ?_
  rintro e w5 ⟨rfl, hb5⟩
  rw [HF.out]
  have HB5 := Lib.hid (bel_step HB4.out hb5)
  have HK5 := Lib.hid (HK4.out.below hb5 HK4.out.lt)
  have hx5 : w5.cell? ⟨w.heap.size, 0, none⟩ = some (.slice A n ca) := HK5.out.cell rfl
  clear hb5 hx4 HF
  generalize nFree X = f at HE
  by_cases hf : (f : Int) ≤ r
  · have HE' : Hid (nextAns X r = -1) := by show _ = _; rw [HE.out, if_pos hf]
    clear HE
    go_wp2
    go_ret
    exact ⟨ret_i HE'.out.symm, HB5.out⟩
  · have HE' : Hid (nextAns X r = leastTo X n) := by show _ = _; rw [HE.out, if_neg hf]
    have hf' : decide ((f : Int) ≤ r) = false := by simpa using hf
    clear HE hf
    go_wp2_with fail
    refine (leastErased_any A n ca X w5 HX.out HOK.out (rd_step HA.out HB5.out)).mono ?_
    rintro e w6 ⟨rfl, hb6⟩
    have HB6 := Lib.hid (bel_step HB5.out hb6)
    clear hb6 hx5
    go_wp2
    go_ret
    exact ⟨ret_i HE'.out.symm, HB6.out⟩

set_option maxHeartbeats 4000000 in
set_option maxRecDepth 100000 in
theorem l05Next_any (A : Option Addr) (n ca : Nat) (X : List Bk) (r : Int) (w : World) (hX : Small X) (hok : NdOk X) (hA : RdBk w w.heap.size A n X) :
    Calls Tryz.prog 135 #[.agg #[.slice A n ca], .int .i64 r] w fun e w' => e = .returned (.int .i64 (nextR X r)) ∧ Below w.heap.size w w' := by
  have hn : n ≤ 1048576 := by have := hX.1; have := hA.1; omega
  have HL := Lib.hid hA.1
  have HA := Lib.hid hA; have HX := Lib.hid hX; have HOK := Lib.hid hok
  have hrg0 := openR_range X
  have HNX : Hid (nextR X r = if openR X = -1 then (if ((nFree X : Nat) : Int) ≤ r then -1 else leastTo X n) else openR X) := by show _ = _; rw [← HL.out]; rfl
  clear hok hA hX
  go_enter Tryz.func135, Tryz.ntmps135
  go_wp2_with fail
  refine (l05Open_any A n ca X _ HX.out HOK.out (box_rd HA.out _)).mono ?_
  rintro e w2 ⟨rfl, hb2⟩
  have k2 := (isBlk_new w 28 [.slice A n ca]).below hb2 (by show w.heap.size < (w.alloc _).heap.size; simp)
  have hx2 : w2.cell? ⟨w.heap.size, 0, none⟩ = some (.slice A n ca) := k2.cell rfl
  have HK2 := Lib.hid k2
  have HB2 := Lib.hid (bel_step (box_below w _) hb2)
  clear hb2 k2
  obtain ⟨z, hz⟩ : ∃ z, z = openR X := ⟨_, rfl⟩
  rw [← hz] at HNX hrg0 ⊢
  clear hz
  by_cases hz : z = -1
  case neg =>
    have hz0 : 0 ≤ z := by omega
    have HE : Hid (nextR X r = z) := by show _ = _; rw [HNX.out, if_neg hz]
    clear hz HNX hrg0
    go_wp2
    go_ret
    exact ⟨ret_i HE.out.symm, HB2.out⟩
  have HE : Hid (nextR X r = if ((nFree X : Nat) : Int) ≤ r then -1 else leastTo X n) := by show _ = _; rw [HNX.out, if_pos hz]
  subst hz
  clear HNX hrg0
  go_wp2_with fail
  refine (l02Free_any A n ca X w2 HX.out HOK.out (rd_step HA.out HB2.out)).mono ?_
  rintro e w5 ⟨rfl, hb5⟩
  have HB5 := Lib.hid (bel_step HB2.out hb5)
  have HK5 := Lib.hid (HK2.out.below hb5 HK2.out.lt)
  clear hb5 hx2
  generalize nFree X = f at HE
  by_cases hf : (f : Int) ≤ r
  · have HE' : Hid (nextR X r = -1) := by show _ = _; rw [HE.out, if_pos hf]
    clear HE
    go_wp2
    go_ret
    exact ⟨ret_i HE'.out.symm, HB5.out⟩
  have HE' : Hid (nextR X r = leastTo X n) := by show _ = _; rw [HE.out, if_neg hf]
  have hf' : decide ((f : Int) ≤ r) = false := by simpa using hf
  clear HE hf
  go_wp2
  go_loopw [5, 6] (fun m i wr => ∃ k : Nat, k ≤ n ∧ i = .int .i64 (k : Nat) ∧ m = .int .i64 (leastTo X k) ∧ Below w.heap.size w wr ∧ IsBlk wr w.heap.size 28 [.slice A n ca]) (fun _ i _ => n - (intOf i).toNat)
  case atStart => exact ⟨0, by omega, rfl, rfl, HB5.out, HK5.out⟩
  case round =>
    obtain ⟨k, hk, rfl, rfl, hbel, hblk⟩ := hrel
    have HW := Lib.hid hbel; have HK := Lib.hid hblk
    have hx0 : wr.cell? ⟨w.heap.size, 0, none⟩ = some (.slice A n ca) := hblk.cell rfl
    have hrg := leastTo_range X k
    by_cases hlt : k < n
    · obtain ⟨g, off, pA, pc, rfl, hg, hc0, hc1, hc2, hpg⟩ := (HA.out.below hbel).at hlt
      have hkl : k < X.length := by have := HL.out; omega
      have HPG := Lib.hid (hpg.mono hbel.size)
      have hpl := (HX.out.2 _ (getD_lt (z := zeroBk) hkl)).1
      have HU := Lib.hid (nUsed_ok (HOK.out.2 k hkl))
      have HYE : Hid (fre (X.getD k zeroBk) = true → leastTo X k = -1 ∨ (X.getD k zeroBk).erases < (X.getD (leastTo X k).toNat zeroBk).erases → leastTo X (k + 1) = (k : Int)) := Lib.hid leastTo_yes
      have HBU : Hid (fre (X.getD k zeroBk) = false → leastTo X (k + 1) = leastTo X k) := Lib.hid leastTo_busy
      have HMO : Hid (leastTo X k ≠ -1 → ¬ (X.getD k zeroBk).erases < (X.getD (leastTo X k).toNat zeroBk).erases → leastTo X (k + 1) = leastTo X k) := Lib.hid leastTo_more
      clear hpg hblk
      generalize X.getD k zeroBk = b at hc0 hc1 hc2 HPG hpl HU HYE HBU HMO
      obtain ⟨ps, er, bd⟩ := b
      simp only at hc0 hc1 hc2 HPG hpl HU
      obtain ⟨z, hz⟩ : ∃ z, z = leastTo X k := ⟨_, rfl⟩
      rw [← hz] at hrg HYE HBU HMO ⊢
      have HZ : Hid (∀ l : Nat, z = (l : Int) → l < k → wr.cell? ⟨g, off + l * 3 + 1, none⟩ = some (.int .i64 (X.getD l zeroBk).erases)) := fun l _ hl => by
        obtain ⟨g', off', -, -, hA', -, -, e1, -, -⟩ := (HA.out.below hbel).at (show l < n by omega)
        cases hA'; exact e1
      have hk0 : (0 : Int) ≤ (k : Int) := by omega
      have hkn : (k : Int) < (n : Int) := by omega
      clear hbel hz
      cases bd with
      | true =>
        have HBU' := Lib.hid (HBU.out (by simp [fre]))
        clear HBU HMO HYE HZ HU hrg
        go_wp2
        go_quiet (fail)
        go_wp2
        go_roundw
        case rel => exact ⟨k + 1, by omega, by go_num, by rw [HBU'.out], below_drewN HW.out _, HK.out.drewN _⟩
        case measure => simp [intOf]; omega
      | false =>
        have hx0' := cell_regrown hx0; have hc0' := cell_regrown hc0; have hc1' := cell_regrown hc1; have hc2' := cell_regrown hc2
        by_cases hu : uPre ps = 0
        case neg =>
          have HBU' := Lib.hid (HBU.out (by simp [fre, hu]))
          have HUS : Hid (∃ u : Nat, nUsed ps = u ∧ ((u : Int) == 0) = false) := ⟨nUsed ps, rfl, by rw [HU.out]; simp; omega⟩
          obtain ⟨u, hu1, hu2⟩ := HUS.out
          have HU1 := Lib.hid hu1
          clear HBU HMO HYE HZ HU HUS hrg hu1 hu
          go_wp2
          refine wp_region_quiet_below (by kernel_rfl) (by kernel_rfl) ?_
          repeat (go_big_quiet_step ((go_at_call 73; exact Calls.regrown_of ((l02Used_any _ _ _ ps _ _ _ hpl ((HPG.out.below (below_regrown _ _ _)).mono (below_regrown _ _ _).size)).mono (fun e w' h => by rw [HU1.out] at h; exact h)))))
          refine wpQuiet_nil ?_
          intro w3 hw'
          have HB3 : Hid (Below wr.heap.size wr w3) := by obtain ⟨⟨dq, osq⟩, rfl⟩ := hw'; exact below_regrown wr dq osq
          clear hw' hx0' hc0' hc1' hc2' hx0 hc0 hc1 hc2
          go_wp2
          go_roundw
          case rel => exact ⟨k + 1, by omega, by go_num, by rw [HBU'.out], bel_step HW.out HB3.out, HK.out.below HB3.out HK.out.lt⟩
          case measure => simp [intOf]; omega
        have HFR : Hid (fre ⟨ps, er, false⟩ = true) := Lib.hid (by simp [fre, hu])
        have HU0 : Hid (nUsed ps = 0) := by show _ = _; rw [HU.out, hu]
        clear hu HU HBU
        rcases hrg with hz | ⟨hz0, hzk⟩
        · subst hz
          have HY' := Lib.hid (HYE.out HFR.out (.inl rfl))
          clear HMO HYE HFR HZ
          go_wp2
          refine wp_region_quiet_below (by kernel_rfl) (by kernel_rfl) ?_
          repeat (go_big_quiet_step ((go_at_call 73; exact Calls.regrown_of ((l02Used_any _ _ _ ps _ _ _ hpl ((HPG.out.below (below_regrown _ _ _)).mono (below_regrown _ _ _).size)).mono (fun e w' h => by rw [HU0.out] at h; exact h)))))
          refine wpQuiet_nil ?_
          intro w3 hw'
          have HB3 : Hid (Below wr.heap.size wr w3) := by obtain ⟨⟨dq, osq⟩, rfl⟩ := hw'; exact below_regrown wr dq osq
          clear hw' hx0' hc0' hc1' hc2' hx0 hc0 hc1 hc2
          go_wp2
          go_roundw
          case rel => exact ⟨k + 1, by omega, by go_num, by rw [HY'.out], bel_step HW.out HB3.out, HK.out.below HB3.out HK.out.lt⟩
          case measure => simp [intOf]; omega
        · obtain ⟨l, rfl⟩ : ∃ l : Nat, z = (l : Int) := ⟨z.toNat, by omega⟩
          have hl3 := HZ.out l rfl (by omega)
          rw [show ((l : Int)).toNat = l from rfl] at HYE HMO
          generalize (X.getD l zeroBk).erases = el at hl3 HYE HMO
          have hl3' := cell_regrown hl3
          have hne : decide ((l : Int) < 0) = false := by simp
          have hl0 : (0 : Int) ≤ (l : Int) := by omega
          have hln : (l : Int) < (n : Int) := by omega
          clear HZ
          by_cases hlt2 : er < el
          · have HY' := Lib.hid (HYE.out HFR.out (.inr hlt2))
            clear HMO HYE HFR
            go_wp2
            refine wp_region_quiet_below (by kernel_rfl) (by kernel_rfl) ?_
            repeat (go_big_quiet_step ((go_at_call 73; exact Calls.regrown_of ((l02Used_any _ _ _ ps _ _ _ hpl ((HPG.out.below (below_regrown _ _ _)).mono (below_regrown _ _ _).size)).mono (fun e w' h => by rw [HU0.out] at h; exact h)))))
            refine wpQuiet_nil ?_
            intro w3 hw'
            have HB3 : Hid (Below wr.heap.size wr w3) := by obtain ⟨⟨dq, osq⟩, rfl⟩ := hw'; exact below_regrown wr dq osq
            clear hw' hx0' hc0' hc1' hc2' hx0 hc0 hc1 hc2 hl3 hl3'
            go_wp2
            go_roundw
            case rel => exact ⟨k + 1, by omega, by go_num, by rw [HY'.out], bel_step HW.out HB3.out, HK.out.below HB3.out HK.out.lt⟩
            case measure => simp [intOf]; omega
          · have HM' := Lib.hid (HMO.out (by omega) (by first | exact hlt2 | (simp only [Int.not_lt]; omega) | omega))
            have hlt2' : decide (er < el) = false := by simp; omega
            have hlt3 : el ≤ er := by omega
            clear HMO HYE HFR hlt2
            go_wp2
            refine wp_region_quiet_below (by kernel_rfl) (by kernel_rfl) ?_
            repeat (go_big_quiet_step ((go_at_call 73; exact Calls.regrown_of ((l02Used_any _ _ _ ps _ _ _ hpl ((HPG.out.below (below_regrown _ _ _)).mono (below_regrown _ _ _).size)).mono (fun e w' h => by rw [HU0.out] at h; exact h)))))
            refine wpQuiet_nil ?_
            intro w3 hw'
            have HB3 : Hid (Below wr.heap.size wr w3) := by obtain ⟨⟨dq, osq⟩, rfl⟩ := hw'; exact below_regrown wr dq osq
            clear hw' hx0' hc0' hc1' hc2' hx0 hc0 hc1 hc2 hl3 hl3'
            go_wp2
            go_roundw
            case rel => exact ⟨k + 1, by omega, by go_num, by rw [HM'.out], bel_step HW.out HB3.out, HK.out.below HB3.out HK.out.lt⟩
            case measure => simp [intOf]; omega
    · clear hbel hblk
      obtain rfl : k = n := by omega
      go_wp2
      go_ret
      exact ⟨ret_i HE'.out.symm, HW.out⟩

set_option maxHeartbeats 1000000 in
theorem spec_nextBlock (A : Option Addr) (n ca : Nat) (X : List Bk) (r : Int) (w : World) (hX : Small X) (hA : RdBk w w.heap.size A n X) :
    Calls Tryz.prog 56 #[.agg #[.slice A n ca], .int .i64 r] w fun e w' => e = .returned (.int .i64 (nextAns X r)) ∧ Below w.heap.size w w' := by
  have HA := Lib.hid hA; have HX := Lib.hid hX; clear hA hX
  go_enter Tryz.func56, Tryz.ntmps56
  go_wp2_with fail
  refine (spec_nandRight A n ca X _ HX.out (box_rd HA.out _)).mono ?_
  rintro e w2 ⟨rfl, hb2⟩
  have k2 := (isBlk_new w 28 [.slice A n ca]).below hb2 (by show w.heap.size < (w.alloc _).heap.size; simp)
  have hx2 : w2.cell? ⟨w.heap.size, 0, none⟩ = some (.slice A n ca) := k2.cell rfl
  have HB2 := Lib.hid (bel_step (box_below w _) hb2)
  clear hb2 k2
  by_cases hok : NdOk X
  case neg =>
    rw [ndB_no hok]
    have HC := Lib.hid (nextAns_no (r := r) hok)
    clear hok
    go_wp2
    go_ret
    exact ⟨ret_i HC.out.symm, HB2.out⟩
  rw [ndB_yes hok]
  go_wp2_with fail
  refine (l05Reserve_any r w2).mono ?_
  rintro e w3 ⟨rfl, rfl⟩
  by_cases hr : 0 ≤ r ∧ r ≤ 12
  case neg =>
    rw [isB_no hr]
    have HC := Lib.hid (nextAns_out (X := X) hr)
    clear hok
    go_wp2
    go_ret
    exact ⟨ret_i HC.out.symm, HB2.out⟩
  rw [isB_yes hr]
  have HC := Lib.hid (nextAns_yes hok hr)
  have HOK := Lib.hid hok
  clear hok hr
  go_wp2_with fail
  refine (l05Next_any A n ca X r w2 HX.out HOK.out (rd_step HA.out HB2.out)).mono ?_
  rintro e w4 ⟨rfl, hb4⟩
  have HB4 := Lib.hid (bel_step HB2.out hb4)
  clear hb4
  go_wp2
  go_ret
  exact ⟨ret_i HC.out.symm, HB4.out⟩
end Go.Proofs.YtfpibbhcecdbgaaGreatDoor

namespace Go.Proofs.YtfpibbhcecdbgaaGreatDoor
open Go.RowKit

/-- a function that gives a chip back in memory of its own -/
def RetNd (w : World) (X : List Bk) (e : Ending) (w' : World) : Prop :=
  ∃ A c, e = .returned (.agg #[.slice A X.length c]) ∧ OwNd w' w.heap.size w'.heap.size A X.length X ∧ Below w.heap.size w w'
/-- a function that gives a chip, a text and a code back -/
def RetOut (w : World) (X : List Bk) (d : ByteArray) (code : Int) (e : Ending) (w' : World) : Prop :=
  ∃ A c, e = .returned (.agg #[.slice A X.length c, .string d, .int .i64 code]) ∧ OwNd w' w.heap.size w'.heap.size A X.length X ∧ Below w.heap.size w w'
theorem ow_nil (w : World) (lo hi : Nat) (A : Option Addr) : OwNd w lo hi A 0 [] := ⟨rfl, fun h => absurd h (by omega)⟩

theorem pgF_four (a b c d : Pg) (j : Nat) (h : j < 8) : (pcells a b c d)[j]? = some (pgF [a, b, c, d] j) := by
  match j, h with
  | 0, _ | 1, _ | 2, _ | 3, _ | 4, _ | 5, _ | 6, _ | 7, _ => rfl
theorem ow_of_blk {w : World} {g : Nat} {e : TypeId} {a b c d : Pg} (h : IsBlk w g e (pcells a b c d)) : OwPg w g [a, b, c, d] := by
  refine ⟨e, (pcells a b c d).toArray, h, Nat.le_refl _, fun i hi => ?_⟩
  rw [List.getElem?_toArray]
  exact pgF_four a b c d i hi

set_option maxHeartbeats 1000000 in
set_option maxRecDepth 100000 in
theorem emptyPages_any (w : World) :
    Calls Tryz.prog 207 #[] w fun e w' => e = .returned (.slice (some ⟨w.heap.size, 0, none⟩) 4 4) ∧ OwPg w' w.heap.size [zeroPg, zeroPg, zeroPg, zeroPg] ∧ Below w.heap.size w w' := by
  go_enter Tryz.func207, Tryz.ntmps207
  go_wp2
  go_ret
  exact ⟨rfl, ow_of_blk (isBlk_new w 233 (pcells zeroPg zeroPg zeroPg zeroPg)), box_below _ _⟩

def freshBk : Bk := ⟨[zeroPg, zeroPg, zeroPg, zeroPg], 0, false⟩
def newNd (bi : Int) : List Bk := if 1 ≤ bi ∧ bi ≤ 12 then List.replicate bi.toNat freshBk else []
theorem newNd_no {bi : Int} (h : ¬ (1 ≤ bi ∧ bi ≤ 12)) : newNd bi = [] := if_neg h
theorem newNd_yes {n : Nat} (h : 1 ≤ n ∧ n ≤ 12) : newNd (n : Int) = List.replicate n freshBk := by unfold newNd; rw [if_pos (by omega)]; rfl
theorem rep_getD {α : Type} {n k : Nat} {x z : α} (h : k < n) : (List.replicate n x).getD k z = x := by simp [List.getD_eq_getElem?_getD, h]

set_option maxHeartbeats 2000000 in
theorem impl_nandNew (bi : Int) (w : World) :
    Calls Tryz.prog 140 #[.int .i64 bi] w (RetNd w (newNd bi)) := by
  by_cases h1 : bi < 1
  · have h1' : decide (bi < 1) = true := by simpa using h1
    rw [newNd_no (by omega)]
    go_enter Tryz.func140, Tryz.ntmps140
    go_wp2
    exact bodyPost_ret (v := .agg #[.slice none 0 0]) (by simp [results, Tryz.results140, go_sem]) rfl ⟨none, 0, rfl, ow_nil _ _ _ _, box_below _ _⟩
  by_cases h2 : 12 < bi
  · have h1' : decide (bi < 1) = false := by simpa using h1
    rw [newNd_no (by omega)]
    go_enter Tryz.func140, Tryz.ntmps140
    go_wp2
    exact bodyPost_ret (v := .agg #[.slice none 0 0]) (by simp [results, Tryz.results140, go_sem]) rfl ⟨none, 0, rfl, ow_nil _ _ _ _, box_below _ _⟩
  obtain ⟨n, rfl⟩ : ∃ n : Nat, bi = (n : Int) := ⟨bi.toNat, by omega⟩
  have hd1 : decide ((n : Int) < 1) = false := by simp; omega
  have hd2 : decide (12 < (n : Int)) = false := by simp; omega
  have hn12 : n ≤ 12 := by omega
  have HN := Lib.hid (newNd_yes (n := n) (by omega))
  rw [HN.out]
  obtain ⟨X, hX⟩ : ∃ X, X = List.replicate n freshBk := ⟨_, rfl⟩
  have HXl : Hid (X.length = n) := by show X.length = n; rw [hX]; simp
  have HXk : Hid (∀ k, k < n → X.getD k zeroBk = freshBk) := fun k hk => by rw [hX]; exact rep_getD hk
  rw [← hX]
  have HX := Lib.hid hX; clear hX
  have hmk := fun W => run_makeN (P := Tryz.prog) 26 98 _ _ _ Tryz.underlying26 info_block n (by omega) (by omega) W
  go_enter Tryz.func140, Tryz.ntmps140
  go_wp2
  have k0 := isBlk_new w 28 [.slice none 0 0]
  have hb0 := box_below w (.cells #[.slice none 0 0] 28)
  have hs0 := size_alloc w (.cells #[.slice none 0 0] 28)
  change Code.wp _ _ _ _ ((w.alloc (.cells #[.slice none 0 0] 28)).alloc _)
  generalize w.alloc (.cells #[.slice none 0 0] 28) = W at k0 hb0 hs0 ⊢
  have hr := row_made W 98 #[.slice none 0 0, .int .i64 0, .bool false] (n * 3) (bkF (fun _ => none) (fun _ => 0) []) (fun i hi => by
    unfold bkF
    have h3 : i % 3 = 0 ∨ i % 3 = 1 ∨ i % 3 = 2 := by omega
    rcases h3 with h | h | h <;> simp [h, zeroBk])
  generalize hW : W.alloc (.cells (madeCells #[.slice none 0 0, .int .i64 0, .bool false] (n * 3)) 98) = w1 at hr
  have HB1 : Hid (Below W.heap.size W w1) := by rw [← hW]; exact (Below.refl _ _).alloc (Nat.le_refl _) _
  have HR := Lib.hid hr; have HK0 := Lib.hid k0; have HB0 := Lib.hid hb0
  rw [← hs0]
  have HS0 := Lib.hid hs0
  clear hr hW k0 hb0 hs0
  go_loopw [15] (fun i wr => ∃ k : Nat, k ≤ n ∧ i = .int .i64 (k : Nat) ∧ BkRel W wr W.heap.size n k X) (fun i _ => n - (intOf i).toNat)
  case atStart => exact ⟨0, by omega, rfl, ⟨fun _ => 0, fun _ => 0, HR.out.congr (fun i _ => (upto_zero i).symm), fun i hi => absurd hi (by omega), fun i j hi _ => absurd hi (by omega), HB1.out⟩⟩
  case round =>
    obtain ⟨k, hk, rfl, hrel⟩ := hrel
    have HREL := Lib.hid hrel
    by_cases hlt : k < n
    · clear hrel
      go_wp2_with fail
      refine (emptyPages_any wr).mono ?_
      rintro e w2 ⟨rfl, ho2, hb2⟩
      obtain ⟨f, hf⟩ := HREL.out.row
      have hrow := hf.below hb2 hf.lt
      have HO2 := Lib.hid ho2; have HB2 := Lib.hid hb2
      have he0 := hrow.cell (i := k * 3) (by omega)
      have hf0 := hrow.free (k * 3)
      have hgl : W.heap.size < wr.heap.size := hf.lt
      clear hb2 ho2 hf hrow
      go_wp2
      go_roundw
      case rel =>
        refine ⟨k + 1, by omega, by go_num, HREL.out.moreW (p := wr.heap.size) (c := 4) HB2.out (Nat.le_refl _) ?_ (by rw [HXk.out k hlt]; rfl) ?_ ?_ (by simp [World.setCell]) ((Below.refl W.heap.size w2).setCell (p := ⟨W.heap.size, k * 3, none⟩) (Nat.le_refl _) _)⟩
        · rw [HXk.out k hlt]
          exact Row.other HO2.out (by dsimp only; omega) _
        · intro f hf h0 h1 h2
          rw [HXk.out k hlt]
          refine (hf.set (k * 3) _).congr fun i hi => ?_
          by_cases e2 : i = k * 3 + 2
          · rw [if_neg (by omega), if_pos e2, e2, h2]; rfl
          · rw [if_neg e2]
            by_cases e1 : i = k * 3 + 1
            · rw [if_neg (by omega), if_pos e1, e1, h1]; rfl
            · rw [if_neg e1]; rfl
        · intro j _ hj
          exact Below.heap_setCell _ _ _ _ hj
      case measure => simp [intOf]; omega
    · clear hrel
      obtain rfl : k = n := by omega
      have hk0 := HK0.out.below HREL.out.bel HK0.out.lt
      have d0 : wr.cell? ⟨w.heap.size, 0, none⟩ = some (.slice none 0 0) := hk0.cell rfl
      have fd0 : wr.frozen? ⟨w.heap.size, 0, none⟩ = false := hk0.free
      clear hk0
      go_wp2
      refine bodyPost_ret (v := .agg #[.slice (some ⟨W.heap.size, 0, none⟩) k k]) (by simp [results, Tryz.results140, go_sem, d0]) rfl ⟨some ⟨W.heap.size, 0, none⟩, k, by rw [HXl.out], ?_, ?_⟩
      · have ho := HREL.out.own HXl.out
        rw [HXl.out]
        have hs := HS0.out
        refine (ho.same (w' := wr.setCell ⟨w.heap.size, 0, none⟩ _) fun j h1 _ => Below.heap_setCell _ _ _ _ (by dsimp only; omega)).mono (by omega) (by simp [World.setCell])
      · have hs := HS0.out
        exact (HB0.out.trans (HREL.out.bel.mono (by omega))).setCell (Nat.le_refl _) _

/-- a function that gives a block of four pages back, its pages in memory of their own -/
def RetBk (w : World) (X : List Pg) (er : Int) (bad : Bool) (e : Ending) (w' : World) : Prop :=
  ∃ p, e = .returned (.agg #[.slice (some ⟨p, 0, none⟩) 4 4, .int .i64 er, .bool bad]) ∧ w.heap.size ≤ p ∧ OwPg w' p X ∧ Below w.heap.size w w'

set_option maxHeartbeats 2000000 in
set_option maxRecDepth 100000 in
theorem copyBlock_any (A : Option Addr) (ca : Nat) (a b c d : Pg) (er : Int) (bad : Bool) (w : World) (hs : ∀ p ∈ [a, b, c, d], p.data.size ≤ 2147483648) (hA : RdPg w w.heap.size A 4 [a, b, c, d]) :
    Calls Tryz.prog 209 #[.agg #[.slice A 4 ca, .int .i64 er, .bool bad]] w (RetBk w [a, b, c, d] er bad) := by
  have HA := Lib.hid hA; have HS := Lib.hid hs; clear hA hs
  go_enter Tryz.func209, Tryz.ntmps209
  go_wp2_with fail
  refine (pagesOf_any A ca a b c d er bad _ ((HA.out.below (((Below.refl _ _).alloc (Nat.le_refl _) _).alloc (by simp) _)).mono (by simp; omega))).mono ?_
  rintro e w2 ⟨rfl, hb2⟩
  have k0 := ((isBlk_new w 98 [.slice A 4 ca, .int .i64 er, .bool bad]).alloc _).below hb2 (by simp; omega)
  have k1 := (isBlk_new (w.alloc _) 98 [.slice none 0 0, .int .i64 0, .bool false]).below hb2 (by simp)
  simp only [size_alloc] at k1
  have HB2 := Lib.hid ((((Below.refl w.heap.size w).alloc (Nat.le_refl _) _).alloc (by simp) _).trans (hb2.mono (by simp; omega)))
  have HK0 := Lib.hid k0; have HK1 := Lib.hid k1
  clear hb2 k0 k1
  go_wp2
  have k3 := isBlk_new w2 233 (pcells a b c d)
  have hb3 : Below w2.heap.size w2 (w2.alloc (.cells (pcells a b c d).toArray 233)) := box_below _ _
  change Code.wp _ _ _ _ (w2.alloc (.cells (pcells a b c d).toArray 233))
  generalize w2.alloc (.cells (pcells a b c d).toArray 233) = w3 at k3 hb3 ⊢
  have HR3 := Lib.hid (ow_of_blk k3); have HB3 := Lib.hid hb3
  clear k3 hb3
  go_loopw [7] (fun i wr => ∃ k : Nat, k ≤ 4 ∧ i = .int .i64 (k : Nat) ∧ OwPg wr w2.heap.size [a, b, c, d] ∧ Below w2.heap.size w2 wr) (fun i _ => 4 - (intOf i).toNat)
  case atStart => exact ⟨0, by omega, rfl, HR3.out, HB3.out⟩
  case round =>
    obtain ⟨k, hk, rfl, hrow, hbel⟩ := hrel
    have HW := Lib.hid hbel; have HROW := Lib.hid hrow
    by_cases hlt : k < 4
    · have hc1 := Row.cell (i := k * 2 + 1) hrow (by simp; omega)
      rw [pgF_1] at hc1
      have hsz := HS.out _ (getD_lt (z := zeroPg) (show k < [a, b, c, d].length from hlt))
      have HP : Hid (pgF [a, b, c, d] (k * 2 + 1) = .string ([a, b, c, d].getD k zeroPg).data) := pgF_1 _ _
      have hgl := Row.lt hrow
      clear hrow hbel
      generalize [a, b, c, d].getD k zeroPg = p at hc1 hsz HP
      go_wp2_with fail
      refine (assemble_any [p.data] _ 0 1 _ (parts_one wr _ _) (by simp) (by simp) (by rw [flat_one, len_list]; exact hsz)).mono ?_
      rintro e w4 ⟨rfl, hb4⟩
      have HB4 := Lib.hid (bel_step (box_below wr _) hb4)
      have hr4 := Row.below HROW.out HB4.out hgl
      have HR4 := Lib.hid hr4
      have hd1 := Row.cell (i := k * 2 + 1) hr4 (by simp; omega)
      have hf1 := Row.free hr4 (k * 2 + 1)
      have hfl : strV (flat [p.data]) = .string p.data := by rw [flat_one, strV, bstr_of]
      rw [hfl]
      clear hb4 hr4 hfl
      go_wp2
      go_roundw
      case rel => exact ⟨k + 1, by omega, by go_num, (Row.set HR4.out (k * 2 + 1) _).congr (fun i _ => by
        by_cases e : i = k * 2 + 1
        · rw [if_pos e, e, HP.out]
        · rw [if_neg e]), (HW.out.trans (HB4.out.mono HW.out.size)).setCell (Nat.le_refl _) _⟩
      case measure => simp [intOf]; omega
    · obtain rfl : k = 4 := by omega
      clear hrow hbel
      have k0 := HK0.out.below HW.out HK0.out.lt
      have k1 := HK1.out.below HW.out HK1.out.lt
      have HKK1 := Lib.hid k1
      obtain ⟨c0, c1, c2, -, -, -⟩ := blk3 k0
      have hlt1 := HK1.out.lt
      have hlt2 := Row.lt HROW.out
      clear k0 k1
      go_wp2
      go_still_tail 6, (by kernel_rfl)
      change wpList _ _ _ _ _ wr.drew
      have k1 : IsBlk wr.drew (w.heap.size + 1) 98 [.slice none 0 0, .int .i64 0, .bool false] := HKK1.out
      have HROW4 : Hid (OwPg wr.drew w2.heap.size [a, b, c, d]) := HROW.out
      have HBW4 : Hid (Below w2.heap.size w2 wr.drew) := HW.out.drew
      have hsz4 : wr.drew.heap.size = wr.heap.size := rfl
      generalize wr.drew = w4 at k1 HROW4 HBW4 hsz4 ⊢
      obtain ⟨d0, d1, d2, f0, f1, f2⟩ := blk3 k1
      have HSZ := Lib.hid hsz4
      clear k1 hsz4
      go_wp2
      refine bodyPost_ret (v := .agg #[.slice (some ⟨w2.heap.size, 0, none⟩) 4 4, .int .i64 er, .bool bad]) (by simp [results, Tryz.results209, go_sem, d0, d1, d2]) rfl ⟨w2.heap.size, rfl, HB2.out.size, ?_, ?_⟩
      · show Row _ _ _ _
        repeat (with_reducible refine Row.other ?_ ?_ _)
        all_goals first | exact HROW4.out | (dsimp only; omega)
      · have hh := HB2.out.trans (HBW4.out.mono HB2.out.size)
        repeat (with_reducible refine Below.setCell ?_ ?_ _)
        all_goals first | exact hh | (dsimp only; omega)

set_option maxHeartbeats 2000000 in
theorem impl_copyNand (A : Option Addr) (n ca : Nat) (X : List Bk) (w : World) (hX : Small X) (hok : NdOk X) (hA : RdBk w w.heap.size A n X) :
    Calls Tryz.prog 142 #[.agg #[.slice A n ca]] w (RetNd w X) := by
  have HL := Lib.hid hA.1
  have hn12 : n ≤ 12 := by have := hok.1; have := hA.1; omega
  have HA := Lib.hid hA; have HX := Lib.hid hX; have HOK := Lib.hid hok; clear hA hX hok
  have hmk := fun W => run_makeN (P := Tryz.prog) 26 98 _ _ _ Tryz.underlying26 info_block n (by omega) (by omega) W
  go_enter Tryz.func142, Tryz.ntmps142
  go_wp2
  have k0 := (isBlk_new w 28 [.slice A n ca]).alloc (.cells #[.slice none 0 0] 28)
  have k1 := isBlk_new (w.alloc (.cells #[.slice A n ca] 28)) 28 [.slice none 0 0]
  have hb0 : Below w.heap.size w ((w.alloc (.cells #[.slice A n ca] 28)).alloc (.cells #[.slice none 0 0] 28)) := ((Below.refl _ _).alloc (Nat.le_refl _) _).alloc (by simp) _
  have hs0 : ((w.alloc (.cells #[.slice A n ca] 28)).alloc (.cells #[.slice none 0 0] 28)).heap.size = w.heap.size + 1 + 1 := by simp
  simp only [size_alloc] at k1
  change Code.wp _ _ _ _ (((w.alloc (.cells #[.slice A n ca] 28)).alloc (.cells #[.slice none 0 0] 28)).alloc _)
  generalize (w.alloc (.cells #[.slice A n ca] 28)).alloc (.cells #[.slice none 0 0] 28) = W at k0 k1 hb0 hs0 ⊢
  have hr := row_made W 98 #[.slice none 0 0, .int .i64 0, .bool false] (n * 3) (bkF (fun _ => none) (fun _ => 0) []) (fun i hi => by
    unfold bkF
    have h3 : i % 3 = 0 ∨ i % 3 = 1 ∨ i % 3 = 2 := by omega
    rcases h3 with h | h | h <;> simp [h, zeroBk])
  generalize hW : W.alloc (.cells (madeCells #[.slice none 0 0, .int .i64 0, .bool false] (n * 3)) 98) = w1 at hr
  have HB1 : Hid (Below W.heap.size W w1) := by rw [← hW]; exact (Below.refl _ _).alloc (Nat.le_refl _) _
  have HR := Lib.hid hr; have HK0 := Lib.hid k0; have HK1 := Lib.hid k1; have HB0 := Lib.hid hb0
  rw [← hs0]
  have HS0 := Lib.hid hs0
  clear hr hW k0 k1 hb0 hs0
  go_loopw [11] (fun i wr => ∃ k : Nat, k ≤ n ∧ i = .int .i64 (k : Nat) ∧ BkRel W wr W.heap.size n k X) (fun i _ => n - (intOf i).toNat)
  case atStart => exact ⟨0, by omega, rfl, ⟨fun _ => 0, fun _ => 0, HR.out.congr (fun i _ => (upto_zero i).symm), fun i hi => absurd hi (by omega), fun i j hi _ => absurd hi (by omega), HB1.out⟩⟩
  case round =>
    obtain ⟨k, hk, rfl, hrel⟩ := hrel
    have HREL := Lib.hid hrel
    have hbw := hrel.bel
    by_cases hlt : k < n
    · have hbel : Below w.heap.size w wr := HB0.out.trans (hbw.mono HB0.out.size)
      have hx0 : wr.cell? ⟨w.heap.size, 0, none⟩ = some (.slice A n ca) := (HK0.out.below hbw HK0.out.lt).cell rfl
      obtain ⟨g, off, pA, pc, rfl, hg, hc0, hc1, hc2, hpg⟩ := (HA.out.below hbel).at hlt
      have hkl : k < X.length := by have := HL.out; omega
      have h4 := (HOK.out.2 k hkl).1
      have hps := (HX.out.2 _ (getD_lt (z := zeroBk) hkl)).2
      have HPG := Lib.hid (hpg.mono hbel.size)
      have HMORE : Hid (∀ w2 p, Below wr.heap.size wr w2 → wr.heap.size ≤ p → OwPg w2 p (X.getD k zeroBk).pages → BkRel W (((w2.setCell ⟨W.heap.size, k * 3, none⟩ (.slice (some ⟨p, 0, none⟩) (X.getD k zeroBk).pages.length 4)).setCell ⟨W.heap.size, k * 3 + 1, none⟩ (.int .i64 (X.getD k zeroBk).erases)).setCell ⟨W.heap.size, k * 3 + 2, none⟩ (.bool (X.getD k zeroBk).bad)) W.heap.size n (k + 1) X) :=
        fun w2 p h1 h2 h3 => HREL.out.more hlt h1 h2 h3 h4.symm
      have HPS := Lib.hid hps
      clear hbel hrel hpg hps hbw
      generalize X.getD k zeroBk = b at hc0 hc1 hc2 HPG h4 HPS HMORE
      obtain ⟨ps, er, bd⟩ := b
      simp only at hc0 hc1 hc2 HPG h4 HPS HMORE
      obtain ⟨a, b, c, d, rfl⟩ := four_of_length h4
      clear h4
      go_wp2_with fail
      refine (copyBlock_any pA pc a b c d er bd wr (fun p hp => by have := HPS.out p hp; omega) HPG.out).mono ?_
      rintro e w2 ⟨p, rfl, hp2, ho2, hb2⟩
      obtain ⟨f, hf⟩ := HREL.out.row
      have hrow := hf.below hb2 hf.lt
      have HM := Lib.hid (HMORE.out w2 p hb2 hp2 ho2)
      have he0 := hrow.cell (i := k * 3) (by omega)
      have he1 := hrow.cell (i := k * 3 + 1) (by omega)
      have he2 := hrow.cell (i := k * 3 + 2) (by omega)
      have hf0 := hrow.free (k * 3)
      have hf1 := hrow.free (k * 3 + 1)
      have hf2 := hrow.free (k * 3 + 2)
      clear hb2 ho2 hf hrow HMORE
      go_wp2
      go_roundw
      case rel => exact ⟨k + 1, by omega, by go_num, HM.out⟩
      case measure => simp [intOf]; omega
    · obtain rfl : k = n := by omega
      have hk1 := HK1.out.below hbw HK1.out.lt
      have d0 : wr.cell? ⟨w.heap.size + 1, 0, none⟩ = some (.slice none 0 0) := hk1.cell rfl
      have fd0 : wr.frozen? ⟨w.heap.size + 1, 0, none⟩ = false := hk1.free
      clear hk1 hrel hbw
      go_wp2
      refine bodyPost_ret (v := .agg #[.slice (some ⟨W.heap.size, 0, none⟩) k k]) (by simp [results, Tryz.results142, go_sem, d0]) rfl ⟨some ⟨W.heap.size, 0, none⟩, k, by rw [HL.out], ?_, ?_⟩
      · have ho := HREL.out.own HL.out
        rw [HL.out]
        have hs := HS0.out
        refine (ho.same (w' := wr.setCell ⟨w.heap.size + 1, 0, none⟩ _) fun j h1 _ => Below.heap_setCell _ _ _ _ (by dsimp only; omega)).mono (by omega) (by simp [World.setCell])
      · have hs := HS0.out
        exact (HB0.out.trans (HREL.out.bel.mono (by omega))).setCell (by dsimp only; omega) _
end Go.Proofs.YtfpibbhcecdbgaaGreatDoor

namespace Go.Proofs.YtfpibbhcecdbgaaGreatDoor
open Go.RowKit

theorem set_getD {α : Type} {l : List α} {k i : Nat} {v z : α} (hk : k < l.length) : (l.set k v).getD i z = if i = k then v else l.getD i z := by
  by_cases e : i = k
  · subst e; simp [List.getD_eq_getElem?_getD, hk]
  · rw [if_neg e, List.getD_eq_getElem?_getD, List.getD_eq_getElem?_getD, List.getElem?_set_ne (by omega)]

section
variable {w : World} {lo hi g k : Nat} {pa cp : Nat → Nat} {X : List Bk}
theorem bkF_other {pA pA' : Nat → Option Addr} {cp cp' : Nat → Nat} {X X' : List Bk} {c : Nat} (h1 : pA (c / 3) = pA' (c / 3)) (h2 : cp (c / 3) = cp' (c / 3)) (h3 : X.getD (c / 3) zeroBk = X'.getD (c / 3) zeroBk) : bkF pA cp X c = bkF pA' cp' X' c := by
  unfold bkF; rw [h1, h2, h3]
theorem OwBk.setBad (h : OwBk w lo hi g pa cp X) (hk : k < X.length) (b : Bool) :
    OwBk (w.setCell ⟨g, k * 3 + 2, none⟩ (.bool b)) lo hi g pa cp (X.set k ⟨(X.getD k zeroBk).pages, (X.getD k zeroBk).erases, b⟩) := by
  refine ⟨h.at_lo, h.at_hi, ?_, by simpa using h.lo', by simpa using h.apart, ?_, fun i hi' => ?_⟩
  · rw [List.length_set]
    refine (h.row.set _ _).congr fun c hc => ?_
    by_cases e2 : c = k * 3 + 2
    · rw [if_pos e2, e2, bkF_2, set_getD hk, if_pos rfl]
    · rw [if_neg e2]
      by_cases e1 : c = k * 3 + 1
      · rw [e1, bkF_1, bkF_1, set_getD hk, if_pos rfl]
      · by_cases e0 : c = k * 3
        · rw [e0, bkF_0, bkF_0, set_getD hk, if_pos rfl]
        · exact bkF_other rfl rfl (by rw [set_getD hk, if_neg (by omega)])
  · intro i hi'
    rw [List.length_set] at hi'
    rw [set_getD hk]
    have := h.lo' i hi'
    by_cases e : i = k
    · rw [if_pos e]; subst e; exact Row.other (h.pages i hi') (by dsimp only; omega) _
    · rw [if_neg e]; exact Row.other (h.pages i hi') (by dsimp only; omega) _
  · rw [List.length_set] at hi'
    rw [set_getD hk]
    split
    · rename_i e; subst e; exact (h.room i hi').set _ _ _
    · exact (h.room i hi').set _ _ _
theorem OwBk.setEr (h : OwBk w lo hi g pa cp X) (hk : k < X.length) (z : Int) :
    OwBk (w.setCell ⟨g, k * 3 + 1, none⟩ (.int .i64 z)) lo hi g pa cp (X.set k ⟨(X.getD k zeroBk).pages, z, (X.getD k zeroBk).bad⟩) := by
  refine ⟨h.at_lo, h.at_hi, ?_, by simpa using h.lo', by simpa using h.apart, ?_, fun i hi' => ?_⟩
  · rw [List.length_set]
    refine (h.row.set _ _).congr fun c hc => ?_
    by_cases e1 : c = k * 3 + 1
    · rw [if_pos e1, e1, bkF_1, set_getD hk, if_pos rfl]
    · rw [if_neg e1]
      by_cases e2 : c = k * 3 + 2
      · rw [e2, bkF_2, bkF_2, set_getD hk, if_pos rfl]
      · by_cases e0 : c = k * 3
        · rw [e0, bkF_0, bkF_0, set_getD hk, if_pos rfl]
        · exact bkF_other rfl rfl (by rw [set_getD hk, if_neg (by omega)])
  · intro i hi'
    rw [List.length_set] at hi'
    rw [set_getD hk]
    have := h.lo' i hi'
    by_cases e : i = k
    · rw [if_pos e]; subst e; exact Row.other (h.pages i hi') (by dsimp only; omega) _
    · rw [if_neg e]; exact Row.other (h.pages i hi') (by dsimp only; omega) _
  · rw [List.length_set] at hi'
    rw [set_getD hk]
    split
    · rename_i e; subst e; exact (h.room i hi').set _ _ _
    · exact (h.room i hi').set _ _ _
/-- other pages for a block: they lie at p, where nothing of the chip lies -/
theorem OwBk.setPgs {p c : Nat} {Y : List Pg} (h : OwBk w lo hi g pa cp X) (hk : k < X.length) (hp : lo ≤ p ∧ p < hi ∧ p ≠ g) (hpa : ∀ i, i < X.length → pa i ≠ p) (ho : OwPg w p Y) (hc : c = Y.length) :
    OwBk (w.setCell ⟨g, k * 3, none⟩ (.slice (some ⟨p, 0, none⟩) Y.length c)) lo hi g (fun i => if i = k then p else pa i) (fun i => if i = k then c else cp i) (X.set k ⟨Y, (X.getD k zeroBk).erases, (X.getD k zeroBk).bad⟩) := by
  refine ⟨h.at_lo, h.at_hi, ?_, ?_, ?_, ?_, fun i hi' => ?_⟩
  · rw [List.length_set]
    refine (h.row.set _ _).congr fun c' hc => ?_
    by_cases e0 : c' = k * 3
    · rw [if_pos e0, e0, bkF_0, set_getD hk, if_pos rfl, if_pos rfl, if_pos rfl]
    · rw [if_neg e0]
      by_cases e1 : c' = k * 3 + 1
      · rw [e1, bkF_1, bkF_1, set_getD hk, if_pos rfl]
      · by_cases e2 : c' = k * 3 + 2
        · rw [e2, bkF_2, bkF_2, set_getD hk, if_pos rfl]
        · exact bkF_other (by rw [if_neg (by omega)]) (by rw [if_neg (by omega)]) (by rw [set_getD hk, if_neg (by omega)])
  · intro i hi'
    rw [List.length_set] at hi'
    by_cases e : i = k
    · rw [if_pos e]; exact hp
    · rw [if_neg e]; exact h.lo' i hi'
  · intro i j hi' hj hne
    rw [List.length_set] at hi' hj
    by_cases e : i = k
    · rw [if_pos e, if_neg (by omega)]; exact (hpa j hj).symm
    · rw [if_neg e]
      by_cases e' : j = k
      · rw [if_pos e']; exact hpa i hi'
      · rw [if_neg e']; exact h.apart i j hi' hj hne
  · intro i hi'
    rw [List.length_set] at hi'
    rw [set_getD hk]
    have := h.lo' i hi'
    by_cases e : i = k
    · rw [if_pos e, if_pos e]; exact Row.other ho (by dsimp only; omega) _
    · rw [if_neg e, if_neg e]; exact Row.other (h.pages i hi') (by dsimp only; omega) _
  · rw [List.length_set] at hi'
    rw [set_getD hk]
    by_cases e : i = k
    · rw [if_pos e, if_pos e, if_pos e, hc]; exact Room.full _ _ _
    · rw [if_neg e, if_neg e, if_neg e]; exact (h.room i hi').set _ _ _
/-- one page of a block -/
theorem OwBk.setPg {j : Nat} {u : Bool} {d : ByteArray} (h : OwBk w lo hi g pa cp X) (hk : k < X.length) (hj : j < (X.getD k zeroBk).pages.length) :
    OwBk ((w.setCell ⟨pa k, j * 2, none⟩ (.bool u)).setCell ⟨pa k, j * 2 + 1, none⟩ (.string d)) lo hi g pa cp (X.set k ⟨(X.getD k zeroBk).pages.set j ⟨u, d⟩, (X.getD k zeroBk).erases, (X.getD k zeroBk).bad⟩) := by
  have hpk := h.lo' k hk
  refine ⟨h.at_lo, h.at_hi, ?_, by simpa using h.lo', by simpa using h.apart, ?_, fun i hi' => ?_⟩
  · rw [List.length_set]
    refine (Row.other (Row.other h.row (by dsimp only; omega) _) (by dsimp only; omega) _).congr fun c hc => ?_
    by_cases e : c / 3 = k
    · have h3 : c = k * 3 ∨ c = k * 3 + 1 ∨ c = k * 3 + 2 := by omega
      rcases h3 with e | e | e
      · rw [e, bkF_0, bkF_0, set_getD hk, if_pos rfl]; simp
      · rw [e, bkF_1, bkF_1, set_getD hk, if_pos rfl]
      · rw [e, bkF_2, bkF_2, set_getD hk, if_pos rfl]
    · exact bkF_other rfl rfl (by rw [set_getD hk, if_neg e])
  · intro i hi'
    rw [List.length_set] at hi'
    rw [set_getD hk]
    by_cases e : i = k
    · rw [if_pos e]
      subst e
      show Row _ _ (((X.getD i zeroBk).pages.set j ⟨u, d⟩).length * 2) _
      rw [List.length_set]
      refine ((Row.set (h.pages i hi') _ _).set _ _).congr fun c hc => ?_
      by_cases e1 : c = j * 2 + 1
      · rw [if_pos e1, e1, pgF_1, set_getD hj, if_pos rfl]
      · rw [if_neg e1]
        by_cases e0 : c = j * 2
        · rw [if_pos e0, e0, pgF_0, set_getD hj, if_pos rfl]
        · rw [if_neg e0]
          unfold pgF
          rw [set_getD hj, if_neg (show ¬ c / 2 = j by omega)]
    · rw [if_neg e]
      have := h.apart i k hi' hk e
      exact Row.other (Row.other (h.pages i hi') (by dsimp only; omega) _) (by dsimp only; omega) _
  · rw [List.length_set] at hi'
    rw [set_getD hk]
    split
    · rename_i e; subst e; dsimp only; rw [List.length_set]; exact ((h.room i hi').set _ _ _).set _ _ _
    · exact ((h.room i hi').set _ _ _).set _ _ _
end

/-! what the functions answer -/
structure NdAns where
  nd : List Bk
  data : ByteArray
  code : Int
def ill (c : Int) : NdAns := ⟨[], ⟨#[]⟩, c⟩
def RetAns (w : World) (r : NdAns) (e : Ending) (w' : World) : Prop := RetOut w r.nd r.data r.code e w'
open Classical in
noncomputable def markAns (X : List Bk) (bi : Int) : NdAns :=
  if blkCode X bi ≠ 0 then ill (blkCode X bi) else ⟨X.set bi.toNat ⟨(X.getD bi.toNat zeroBk).pages, (X.getD bi.toNat zeroBk).erases, true⟩, ⟨#[]⟩, 0⟩
open Classical in
noncomputable def eraseAns (X : List Bk) (bi : Int) : NdAns :=
  if blkCode X bi ≠ 0 then ill (blkCode X bi) else if (X.getD bi.toNat zeroBk).bad = true then ill 11 else if (X.getD bi.toNat zeroBk).erases = 1000000 then ill 9
  else ⟨X.set bi.toNat ⟨[zeroPg, zeroPg, zeroPg, zeroPg], (X.getD bi.toNat zeroBk).erases + 1, (X.getD bi.toNat zeroBk).bad⟩, ⟨#[]⟩, 0⟩
open Classical in
noncomputable def progAns (X : List Bk) (bi : Int) (d : ByteArray) : NdAns :=
  if 8000 < d.size then ill 2 else if blkCode X bi ≠ 0 then ill (blkCode X bi) else if 60 < d.size then ill 1 else if (X.getD bi.toNat zeroBk).bad = true then ill 11
  else if uPre (X.getD bi.toNat zeroBk).pages = 4 then ill 9
  else ⟨X.set bi.toNat ⟨(X.getD bi.toNat zeroBk).pages.set (uPre (X.getD bi.toNat zeroBk).pages) ⟨true, d⟩, (X.getD bi.toNat zeroBk).erases, (X.getD bi.toNat zeroBk).bad⟩, ⟨#[]⟩, 0⟩
open Classical in
noncomputable def pageAns (X : List Bk) (bi pi : Int) : NdAns :=
  if blkCode X bi ≠ 0 then ill (blkCode X bi) else if pi < 0 ∨ 4 ≤ pi then ill 8 else if ((X.getD bi.toNat zeroBk).pages.getD pi.toNat zeroPg).used = false then ill 10
  else ⟨X, ((X.getD bi.toNat zeroBk).pages.getD pi.toNat zeroPg).data, 0⟩

theorem blkCode_zero {X : List Bk} {bi : Int} (h : blkCode X bi = 0) : NdOk X ∧ ∃ k : Nat, bi = (k : Int) ∧ k < X.length := by
  unfold blkCode at h
  split at h
  · omega
  · rename_i h1
    split at h
    · omega
    · exact ⟨by simpa using h1, bi.toNat, by omega, by omega⟩
end Go.Proofs.YtfpibbhcecdbgaaGreatDoor

namespace Go.Proofs.YtfpibbhcecdbgaaGreatDoor
open Go.RowKit

/-! blocks appended one by one: a row that may move when it grows -/
def bkL (pa cp : Nat → Nat) (X : List Bk) (k : Nat) : List Value := (List.range (k * 3)).map (bkF (fun i => some ⟨pa i, 0, none⟩) cp X)
theorem bkL_succ (pa cp : Nat → Nat) (X : List Bk) (k : Nat) : bkL pa cp X (k + 1) = bkL pa cp X k ++ [.slice (some ⟨pa k, 0, none⟩) (X.getD k zeroBk).pages.length (cp k), .int .i64 (X.getD k zeroBk).erases, .bool (X.getD k zeroBk).bad] := by
  unfold bkL
  rw [show (k + 1) * 3 = k * 3 + 1 + 1 + 1 by omega, List.range_succ, List.range_succ, List.range_succ]
  simp only [List.map_append, List.map_cons, List.map_nil, List.append_assoc, List.cons_append, List.nil_append]
  rw [bkF_0, bkF_1, bkF_2]
theorem bkL_congr {pa pa' cp cp' : Nat → Nat} {X : List Bk} {k : Nat} (h : ∀ i, i < k → pa i = pa' i ∧ cp i = cp' i) : bkL pa cp X k = bkL pa' cp' X k := by
  unfold bkL
  apply List.map_congr_left
  intro c hc
  have hc' : c < k * 3 := by simpa using hc
  obtain ⟨h1, h2⟩ := h (c / 3) (by omega)
  exact bkF_other (by rw [h1]) h2 rfl

structure App (wr : World) (lo : Nat) (e : TypeId) (v : Value) (k : Nat) (pa cp : Nat → Nat) (X : List Bk) : Prop where
  own : wr.ownsRow lo e 3 v k (bkL pa cp X k)
  pages : ∀ i, i < k → lo ≤ pa i ∧ pa i < wr.heap.size ∧ OwPg wr (pa i) (X.getD i zeroBk).pages ∧ v.ownBlock ≠ some (pa i)
  room : ∀ i, i < k → Room wr (pa i) (cp i) (X.getD i zeroBk).pages.length
  apart : ∀ i j, i < k → j < i → pa j < pa i
def AppEx (wr : World) (lo : Nat) (e : TypeId) (v : Value) (k : Nat) (X : List Bk) : Prop := ∃ pa cp, App wr lo e v k pa cp X
theorem own_block_lt {w : World} {lo n size : Nat} {e : TypeId} {v : Value} {xs : List Value} (h : w.ownsRow lo e size v n xs) {g : Nat} (hg : v.ownBlock = some g) : lo ≤ g ∧ g < w.heap.size := by
  rcases h.2 with ⟨rfl, -⟩ | ⟨g', cap, cur, rfl, hb, hh, -⟩
  · cases hg
  · have : g' = g := by simpa [Value.ownBlock] using hg
    subst this
    exact ⟨hb, lt_of_block hh⟩
theorem own_same {w w' : World} {lo n size : Nat} {e : TypeId} {v : Value} {xs : List Value} (h : w.ownsRow lo e size v n xs) (hb : ∀ g, v.ownBlock = some g → w'.heap[g]? = w.heap[g]?) : w'.ownsRow lo e size v n xs := by
  refine ⟨h.1, ?_⟩
  rcases h.2 with h0 | ⟨g, cap, cur, hv, hl, hh, r⟩
  · exact .inl h0
  · exact .inr ⟨g, cap, cur, hv, hl, (hb g (by rw [hv]; rfl)).trans hh, r⟩
theorem own_below {w w' : World} {lo n size : Nat} {e : TypeId} {v : Value} {xs : List Value} (h : w.ownsRow lo e size v n xs) (hb : Below w.heap.size w w') : w'.ownsRow lo e size v n xs := own_same h fun g hg => hb.block g (own_block_lt h hg).2
theorem app_nil (w : World) (lo : Nat) (e : TypeId) (X : List Bk) : AppEx w lo e (.slice none 0 0) 0 X :=
  ⟨fun _ => 0, fun _ => 0, ⟨by simp [bkL], .inl ⟨rfl, rfl⟩⟩, fun i h => absurd h (by omega), fun i h => absurd h (by omega), fun i j h => absurd h (by omega)⟩
/-- one block more: its pages at p, laid since; the row may have moved -/
theorem App.more {wr w2 w3 : World} {lo k p c g : Nat} {e : TypeId} {v v' : Value} {pa cp : Nat → Nat} {X : List Bk} (h : App wr lo e v k pa cp X) (hlo : lo ≤ wr.heap.size) (hb : Below wr.heap.size wr w2) (hp : wr.heap.size ≤ p) (ho : OwPg w2 p (X.getD k zeroBk).pages) (hrm : Room w2 p c (X.getD k zeroBk).pages.length)
    (hg : w2.grownBy w3 v.ownBlock) (hv' : v'.ownBlock = some g) (hat : v.ownBlock = some g ∨ g = w2.heap.size)
    (hown : w3.ownsRow lo e 3 v' (k + 1) (bkL pa cp X k ++ [.slice (some ⟨p, 0, none⟩) (X.getD k zeroBk).pages.length c, .int .i64 (X.getD k zeroBk).erases, .bool (X.getD k zeroBk).bad])) :
    AppEx w3 lo e v' (k + 1) X := by
  have hp2 : p < w2.heap.size := Row.lt ho
  have hgp : v.ownBlock ≠ some p := fun e => by have := (own_block_lt h.own e).2; omega
  have hlt : ∀ q, q < w2.heap.size → v.ownBlock ≠ some q → w3.heap[q]? = w2.heap[q]? := fun q h1 h2 => hg.block q h1 (fun e => h2 e.symm)
  have hne : ∀ q, q < w2.heap.size → v.ownBlock ≠ some q → v'.ownBlock ≠ some q := fun q h1 h2 e => by
    rw [hv'] at e
    injection e with e
    rcases hat with hat | hat
    · exact h2 (by rw [hat, e])
    · omega
  refine ⟨fun i => if i = k then p else pa i, fun i => if i = k then c else cp i, ?_, ?_, ?_, ?_⟩
  · rw [bkL_succ, if_pos rfl, if_pos rfl, ← bkL_congr (pa := pa) (cp := cp) (fun i hi => ⟨by rw [if_neg (by omega)], by rw [if_neg (by omega)]⟩)]
    exact hown
  · intro i hi
    by_cases e : i = k
    · rw [if_pos e]
      subst e
      exact ⟨by omega, Nat.lt_of_lt_of_le hp2 hg.size, Row.same ho (hlt p hp2 hgp), hne p hp2 hgp⟩
    · rw [if_neg e]
      obtain ⟨h1, h2, h3, h4⟩ := h.pages i (by omega)
      have hb2 := hb.size
      exact ⟨h1, by have := hg.size; omega, Row.same (Row.below h3 hb h2) (hlt _ (by omega) h4), hne _ (by omega) h4⟩
  · intro i hi
    by_cases e : i = k
    · rw [if_pos e, if_pos e]
      subst e
      exact hrm.same (hlt p hp2 hgp)
    · rw [if_neg e, if_neg e]
      obtain ⟨h1, h2, h3, h4⟩ := h.pages i (by omega)
      have hb2 := hb.size
      exact ((h.room i (by omega)).same (hb.block _ h2)).same (hlt _ (by omega) h4)
  · intro i j hi hj
    by_cases e : i = k
    · rw [if_pos e, if_neg (by omega)]
      have := (h.pages j (by omega)).2.1; omega
    · rw [if_neg e, if_neg (by omega)]
      exact h.apart i j (by omega) hj
theorem row_of_own {w : World} {lo n size g cap : Nat} {e : TypeId} {xs : List Value} {f : Nat → Value} (h : w.ownsRow lo e size (.slice (some ⟨g, 0, none⟩) n cap) n xs) (hf : ∀ i, i < n * size → xs[i]? = some (f i)) : Row w g (n * size) f := by
  rcases h.2 with ⟨hv, -⟩ | ⟨g', cap', cur, hv, -, hh, hn, -, hs, ht⟩
  · cases hv
  · simp only [Value.slice.injEq, Option.some.injEq, Addr.mk.injEq] at hv
    obtain ⟨⟨rfl, -⟩, -, rfl⟩ := hv
    refine ⟨e, cur, hh, by rw [hs]; exact Nat.mul_le_mul_right _ hn, fun i hi => ?_⟩
    rw [← hf i hi, ← ht, List.getElem?_take_of_lt hi]
    simp
theorem room_of_own {w : World} {lo n g cap : Nat} {xs : List Value} (h : w.ownsRow lo 184 2 (.slice (some ⟨g, 0, none⟩) n cap) n xs) : Room w g cap n := by
  rcases h.2 with ⟨hv, -⟩ | ⟨g', cap', cur, hv, -, hh, hn, hm, hs, ht⟩
  · cases hv
  · simp only [Value.slice.injEq, Option.some.injEq, Addr.mk.injEq] at hv
    obtain ⟨⟨rfl, -⟩, -, rfl⟩ := hv
    exact ⟨hn, Or.inr ⟨cur, hh, hs, hm⟩⟩
theorem AppEx.own {w : World} {lo n : Nat} {e : TypeId} {A : Option Addr} {cap : Nat} {X : List Bk} (h : AppEx w lo e (.slice A n cap) n X) (hl : X.length = n) : OwNd w lo w.heap.size A n X := by
  obtain ⟨pa, cp, h⟩ := h
  subst hl
  refine ⟨rfl, fun hn => ?_⟩
  obtain ⟨g, cap', hv, hb, hlt⟩ := h.own.form hn
  simp only [Value.slice.injEq] at hv
  obtain ⟨rfl, -, rfl⟩ := hv
  have hrow := row_of_own (f := bkF (fun i => some ⟨pa i, 0, none⟩) cp X) h.own (fun i hi => by unfold bkL; simp [hi])
  refine ⟨g, pa, cp, rfl, hb, hlt, hrow, fun i hi => ?_, fun i j hi hj hne => ?_, fun i hi => (h.pages i hi).2.2.1, h.room⟩
  · obtain ⟨h1, h2, -, h4⟩ := h.pages i hi
    exact ⟨h1, h2, fun e => h4 (by rw [e]; rfl)⟩
  · rcases Nat.lt_or_gt_of_ne hne with h' | h'
    · have := h.apart j i hj h'; omega
    · have := h.apart i j hi h'; omega

/-- a store below all that is appended -/
theorem AppEx.other {w : World} {lo k : Nat} {e : TypeId} {v : Value} {X : List Bk} (h : AppEx w lo e v k X) {a : Addr} (ha : a.block < lo) (u : Value) : AppEx (w.setCell a u) lo e v k X := by
  obtain ⟨pa, cp, h⟩ := h
  refine ⟨pa, cp, own_same h.own fun g hg => Below.heap_setCell _ _ _ _ (by have := (own_block_lt h.own hg).1; omega), fun i hi => ?_, fun i hi => (h.room i hi).same (Below.heap_setCell _ _ _ _ (by have := (h.pages i hi).1; omega)), h.apart⟩
  obtain ⟨h1, h2, h3, h4⟩ := h.pages i hi
  exact ⟨h1, by simpa [World.setCell] using h2, Row.other h3 (by omega) _, h4⟩
theorem size_setS (w : World) (a : Addr) (u : Value) : (w.setCell a u).heap.size = w.heap.size := by simp [World.setCell]
theorem bk_one (v : Value) (hv : v.oneCell' = true) (er : Int) (bd : Bool) : ∀ u ∈ [v, .int .i64 er, .bool bd], u.oneCell' = true := by
  intro u hu
  simp only [List.mem_cons, List.not_mem_nil, or_false] at hu
  rcases hu with h | h | h <;> subst h
  · exact hv
  · rfl
  · rfl

set_option maxHeartbeats 1000000 in
theorem l02Ill_any (c : Int) (w : World) :
    Calls Tryz.prog 71 #[.int .i64 c] w fun e w' => e = .returned (.agg #[.slice none 0 0, .string ⟨#[]⟩, .int .i64 c]) ∧ Below w.heap.size w w' := by
  go_enter Tryz.func71, Tryz.ntmps71
  go_wp2
  exact bodyPost_ret (v := .agg #[.slice none 0 0, .string ⟨#[]⟩, .int .i64 c]) (by simp [results, Tryz.results71, go_sem]) rfl ⟨rfl, box_below _ _⟩

set_option maxHeartbeats 4000000 in
set_option maxRecDepth 100000 in
theorem spec_l02Copy (A : Option Addr) (n ca : Nat) (X : List Bk) (w : World) (hok : NdOk X) (hA : RdBk w w.heap.size A n X) :
    Calls Tryz.prog 149 #[.agg #[.slice A n ca]] w (RetNd w X) := by
  have HL := Lib.hid hA.1
  have hn12 : n ≤ 12 := by have := hok.1; have := hA.1; omega
  have HA := Lib.hid hA; have HOK := Lib.hid hok; clear hA hok
  obtain ⟨ib, hib, zb0, zb1, zb2⟩ := info_parts info_block
  obtain ⟨ip, hip, zp0, zp1, zp2⟩ := info_parts info_page
  have Hib := Lib.hid hib; have Zb0 := Lib.hid zb0; have Zb1 := Lib.hid zb1; have Zb2 := Lib.hid zb2
  have Hip := Lib.hid hip; have Zp0 := Lib.hid zp0; have Zp1 := Lib.hid zp1; have Zp2 := Lib.hid zp2
  clear hib zb0 zb1 zb2 hip zp0 zp1 zp2
  go_enter Tryz.func149, Tryz.ntmps149
  go_wp2
  have k0 := ((isBlk_new w 28 [.slice A n ca]).alloc (.cells #[.slice none 0 0] 28)).alloc (.cells #[.slice none 0 0] 28)
  have k1 := (isBlk_new (w.alloc (.cells #[.slice A n ca] 28)) 28 [.slice none 0 0]).alloc (.cells #[.slice none 0 0] 28)
  have k2 := isBlk_new ((w.alloc (.cells #[.slice A n ca] 28)).alloc (.cells #[.slice none 0 0] 28)) 28 [.slice none 0 0]
  have hb0 : Below w.heap.size w (((w.alloc (.cells #[.slice A n ca] 28)).alloc (.cells #[.slice none 0 0] 28)).alloc (.cells #[.slice none 0 0] 28)) := (((Below.refl _ _).alloc (Nat.le_refl _) _).alloc (by simp) _).alloc (by simp; omega) _
  have hs0 : (((w.alloc (.cells #[.slice A n ca] 28)).alloc (.cells #[.slice none 0 0] 28)).alloc (.cells #[.slice none 0 0] 28)).heap.size = w.heap.size + 3 := by simp
  simp only [size_alloc] at k1 k2
  change Code.wp _ _ _ _ (((w.alloc (.cells #[.slice A n ca] 28)).alloc (.cells #[.slice none 0 0] 28)).alloc (.cells #[.slice none 0 0] 28))
  generalize ((w.alloc (.cells #[.slice A n ca] 28)).alloc (.cells #[.slice none 0 0] 28)).alloc (.cells #[.slice none 0 0] 28) = W at k0 k1 k2 hb0 hs0 ⊢
  have HK0 := Lib.hid k0; have HK1 := Lib.hid k1; have HK2 := Lib.hid k2; have HB0 := Lib.hid hb0; have HS0 := Lib.hid hs0
  have hW3 : w.heap.size + 3 ≤ W.heap.size := by omega
  clear k0 k1 k2 hb0 hs0
  go_loopw [4] (fun i wr => ∃ (k : Nat) (v : Value), k ≤ n ∧ i = .int .i64 (k : Nat) ∧ AppEx wr (w.heap.size + 3) 98 v k X ∧ Below (w.heap.size + 2) W wr ∧ IsBlk wr (w.heap.size + 1 + 1) 28 [v]) (fun i _ => n - (intOf i).toNat)
  case atStart => exact ⟨0, _, by omega, rfl, app_nil _ _ _ _, Below.refl _ _, HK2.out⟩
  case round =>
    obtain ⟨k, v, hk, rfl, happ, hbw, hkv⟩ := hrel
    have HAPP := Lib.hid happ; have HBW := Lib.hid hbw; have HKV := Lib.hid hkv
    have hbel : Below w.heap.size w wr := HB0.out.trans (hbw.mono (by omega))
    have hx0 : wr.cell? ⟨w.heap.size, 0, none⟩ = some (.slice A n ca) := (HK0.out.below hbw (by omega)).cell rfl
    by_cases hlt : k < n
    · obtain ⟨g, off, pA, pc, rfl, hg, hc0, hc1, hc2, hpg⟩ := (HA.out.below hbel).at hlt
      have hkl : k < X.length := by have := HL.out; omega
      have h4 := (HOK.out.2 k hkl).1
      have hv0 : wr.cell? ⟨w.heap.size + 1 + 1, 0, none⟩ = some v := hkv.cell rfl
      have fv0 : wr.frozen? ⟨w.heap.size + 1 + 1, 0, none⟩ = false := hkv.free
      have HPG := Lib.hid (hpg.mono hbel.size)
      have hwz := hbw.size
      obtain ⟨b, hb⟩ : ∃ b, b = X.getD k zeroBk := ⟨_, rfl⟩
      rw [← hb] at hc0 hc1 hc2 HPG h4
      have HBK := Lib.hid hb
      clear happ hbw hkv hbel hpg hb
      obtain ⟨ps, er, bd⟩ := b
      simp only at hc0 hc1 hc2 HPG h4
      obtain ⟨a, b, c, d, rfl⟩ := four_of_length h4
      clear h4
      obtain ⟨pg, po, rfl, hpgl, hpc⟩ := HPG.out.2 (by simp)
      have HPC := Lib.hid hpc; clear hpc
      have hz2 : w.heap.size + 1 + 1 < wr.heap.size := by omega
      obtain ⟨va, vc, happ⟩ := HAPP.out
      have HAP := Lib.hid happ; clear happ
      have hb2 : Below wr.heap.size wr ((wr.alloc (.cells #[.slice (some ⟨pg, po, none⟩) 4 pc, .int .i64 er, .bool bd] 98)).alloc (.cells #[] 184)) := ((Below.refl _ _).alloc (Nat.le_refl _) _).alloc (by simp) _
      have HB2 := Lib.hid hb2
      have kb := (isBlk_new wr 98 [.slice (some ⟨pg, po, none⟩) 4 pc, .int .i64 er, .bool bd]).alloc (.cells #[] 184)
      have HKB := Lib.hid kb
      have ke := isBlk_new (wr.alloc (.cells #[.slice (some ⟨pg, po, none⟩) 4 pc, .int .i64 er, .bool bd] 98)) 184 []
      simp only [size_alloc] at ke
      have HKE := Lib.hid ke
      clear hb2 kb ke
      have ne0 : ¬ w.heap.size + 1 + 1 = wr.heap.size := by omega
      have ne0' : ¬ wr.heap.size = w.heap.size + 1 + 1 := by omega
      go_wp2_with (first
        | (at_builtin
           refine wpList_append_lies _ rfl (.tmp 19) (.tmp 21) 96 rfl wr.heap.size 184 ip _ 2 24 Tryz.underlying96 Hip.out Zp0.out Zp1.out Zp2.out rfl (by omega) (.slice (some ⟨wr.heap.size + 1, 0, none⟩) 0 0) 0 [] rfl ?_
             ⟨pg, po, none⟩ 4 pc (pcells a b c d) rfl rfl ?_ (pcells_one a b c d) (by omega) (by unfold maxLen; omega) (by omega) (by simp; omega) (wr.heap.size + 1 + 1) (by simp) ?_
           · exact ⟨rfl, .inr ⟨wr.heap.size + 1, 0, #[], rfl, by omega, HKE.out, Nat.le_refl _, by unfold maxLen; omega, rfl, rfl⟩⟩
           · intro j u hj
             obtain ⟨h8, hu⟩ := pcells_F a b c d j u hj
             rw [add_off]
             have h := (HB2.out.cell (p := ⟨pg, po + j, none⟩) hpgl).trans (HPC.out j (by simp; omega))
             rw [hu] at h
             exact h
           intro g1 cap1 w4 hown4 hgrow4 hat4 hlt4
           have hb4 : Below (wr.heap.size + 1) ((wr.alloc (.cells #[.slice (some ⟨pg, po, none⟩) 4 pc, .int .i64 er, .bool bd] 98)).alloc (.cells #[] 184)) w4 := (Below.refl _ _).grown hgrow4 (by simp) (fun q hq => by simp [Value.ownBlock] at hq; omega)
           have HB4 : Hid (Below wr.heap.size wr w4) := HB2.out.trans (hb4.mono (by omega))
           have hg1 : wr.heap.size < g1 := by rcases hat4 with h | h
                                              · simp [Value.ownBlock] at h; omega
                                              · omega
           have HRM4 : Hid (Room w4 g1 cap1 4) := room_of_own hown4
           have HPG4 : Hid (OwPg w4 g1 [a, b, c, d]) := row_of_own (size := 2) (n := 4) hown4 (fun i hi => pgF_four a b c d i hi)
           obtain ⟨q0, q1, q2, fq0, fq1, fq2⟩ := blk3 (HKB.out.below hb4 (by omega))
           have hv4 : w4.cell? ⟨w.heap.size + 1 + 1, 0, none⟩ = some v := (HB4.out.cell (p := ⟨w.heap.size + 1 + 1, 0, none⟩) hz2).trans hv0
           have fv4 : w4.frozen? ⟨w.heap.size + 1 + 1, 0, none⟩ = false := (HB4.out.frozen (p := ⟨w.heap.size + 1 + 1, 0, none⟩) hz2).trans fv0
           have hz4 : w.heap.size + 1 + 1 < w4.heap.size := by have := HB4.out.size; omega
           have hr4 : wr.heap.size < w4.heap.size := by omega
           have HLT4 := Lib.hid hlt4
           clear hown4 hgrow4 hat4 hb4 hlt4)
        | (at_builtin
           refine wpList_append_lies _ rfl (.tmp 25) (.tmp 27) 26 rfl (w.heap.size + 3) 98 ib _ 3 40 Tryz.underlying26 Hib.out Zb0.out Zb1.out Zb2.out rfl (by omega) v k (bkL va vc X k) rfl ?_
             ⟨w4.heap.size, 0, none⟩ 1 1 [.slice (some ⟨g1, 0, none⟩) 4 cap1, .int .i64 er, .bool bd] rfl rfl ?_ (bk_one _ rfl _ _) (by omega) (by unfold maxLen; omega) (by omega) (by simp [World.setCell]; omega) (w4.heap.size + 1) (by simp [World.setCell]) ?_
           · exact own_below HAP.out.own ((HB4.out.setCell (p := ⟨wr.heap.size, 0, none⟩) (Nat.le_refl _) _).alloc (by simp [World.setCell]; omega) _)
           · intro j u hj
             rw [add_plain]
             have h := (isBlk_new (w4.setCell ⟨wr.heap.size, 0, none⟩ (.slice (some ⟨g1, 0, none⟩) 4 cap1)) 98 [.slice (some ⟨g1, 0, none⟩) 4 cap1, .int .i64 er, .bool bd]).cell hj
             rw [size_setS] at h
             exact h
           intro g2 cap2 w6 hown6 hgrow6 hat6 hlt6
           have hb5 : Below wr.heap.size wr ((w4.setCell ⟨wr.heap.size, 0, none⟩ (.slice (some ⟨g1, 0, none⟩) 4 cap1)).alloc (.cells #[.slice (some ⟨g1, 0, none⟩) 4 cap1, .int .i64 er, .bool bd] 98)) := (HB4.out.setCell (p := ⟨wr.heap.size, 0, none⟩) (Nat.le_refl _) _).alloc (by simp [World.setCell]; omega) _
           have ho5 : OwPg ((w4.setCell ⟨wr.heap.size, 0, none⟩ (.slice (some ⟨g1, 0, none⟩) 4 cap1)).alloc (.cells #[.slice (some ⟨g1, 0, none⟩) 4 cap1, .int .i64 er, .bool bd] 98)) g1 (X.getD k zeroBk).pages := by rw [← HBK.out]; exact Row.alloc (Row.other HPG4.out (by dsimp only; omega) _) _
           have hr5 : Room ((w4.setCell ⟨wr.heap.size, 0, none⟩ (.slice (some ⟨g1, 0, none⟩) 4 cap1)).alloc (.cells #[.slice (some ⟨g1, 0, none⟩) 4 cap1, .int .i64 er, .bool bd] 98)) g1 cap1 (X.getD k zeroBk).pages.length := by rw [← HBK.out]; exact (HRM4.out.set _ _ _).same (Below.heap_alloc _ _ _ (by rw [size_setS]; exact HLT4.out))
           have hz5 : ((w4.setCell ⟨wr.heap.size, 0, none⟩ (.slice (some ⟨g1, 0, none⟩) 4 cap1)).alloc (.cells #[.slice (some ⟨g1, 0, none⟩) 4 cap1, .int .i64 er, .bool bd] 98)).heap.size = w4.heap.size + 1 := by simp [World.setCell]
           generalize (w4.setCell ⟨wr.heap.size, 0, none⟩ (.slice (some ⟨g1, 0, none⟩) 4 cap1)).alloc (.cells #[.slice (some ⟨g1, 0, none⟩) 4 cap1, .int .i64 er, .bool bd] 98) = w5 at hb5 ho5 hr5 hz5 hgrow6
           have hvb : ∀ q, v.ownBlock = some q → w.heap.size + 3 ≤ q := fun q hq => (own_block_lt HAP.out.own hq).1
           have HAP6 : Hid (AppEx w6 (w.heap.size + 3) 98 (.slice (some ⟨g2, 0, none⟩) (k + 1) cap2) (k + 1) X) :=
             HAP.out.more (p := g1) (c := cap1) (by omega) hb5 (by omega) ho5 hr5 hgrow6 rfl (hat6.imp id fun h => h.trans hz5.symm) (by rw [← HBK.out]; exact hown6)
           have hb6 : Below (w.heap.size + 3) w5 w6 := (Below.refl _ _).grown hgrow6 (by have := hb5.size; omega) hvb
           have HB6 : Hid (Below (w.heap.size + 2) W w6) := (HBW.out.trans (hb5.mono (by omega))).trans (hb6.mono (by omega))
           have k6 := (HKV.out.below hb5 (by omega)).below hb6 (by omega)
           have HK6 := Lib.hid k6
           have hv6 : w6.cell? ⟨w.heap.size + 1 + 1, 0, none⟩ = some v := k6.cell rfl
           have fv6 : w6.frozen? ⟨w.heap.size + 1 + 1, 0, none⟩ = false := k6.free
           clear hb5 ho5 hr5 hz5 hvb hb6 k6 hown6 hgrow6 hat6 hlt6))
      go_roundw
      case rel => exact ⟨k + 1, .slice (some ⟨g2, 0, none⟩) (k + 1) cap2, by omega, by go_num, HAP6.out.other (by dsimp only; omega) _, HB6.out.setCell (by dsimp only; omega) _, HK6.out.set _⟩
      case measure => simp [intOf]; omega
    · obtain rfl : k = n := by omega
      have hn1 : 0 < k := by have := HOK.out.1; have := HL.out; omega
      obtain ⟨va, vc, happ⟩ := HAPP.out
      obtain ⟨g, cap, rfl, hgb, hgl⟩ := happ.own.form hn1
      have HOWN := Lib.hid (HAPP.out.own HL.out)
      have hv0 : wr.cell? ⟨w.heap.size + 1 + 1, 0, none⟩ = some (.slice (some ⟨g, 0, none⟩) k cap) := hkv.cell rfl
      have k1 := HK1.out.below hbw (by omega)
      have d0 : wr.cell? ⟨w.heap.size + 1, 0, none⟩ = some (.slice none 0 0) := k1.cell rfl
      have fd0 : wr.frozen? ⟨w.heap.size + 1, 0, none⟩ = false := k1.free
      have HBL := Lib.hid hbel
      clear happ hbw hkv hbel k1
      go_wp2
      refine bodyPost_ret (v := .agg #[.slice (some ⟨g, 0, none⟩) k cap]) (by simp [results, Tryz.results149, go_sem, d0]) rfl ⟨some ⟨g, 0, none⟩, cap, by rw [HL.out], ?_, ?_⟩
      · rw [HL.out]
        exact (HOWN.out.same fun j h1 _ => Below.heap_setCell _ _ _ _ (by dsimp only; omega)).mono (by omega) (by simp [World.setCell])
      · exact HBL.out.setCell (by dsimp only; omega) _
end Go.Proofs.YtfpibbhcecdbgaaGreatDoor

namespace Go.Proofs.YtfpibbhcecdbgaaGreatDoor
open Go.RowKit

theorem ow_at {w : World} {lo hi n k : Nat} {A : Option Addr} {X : List Bk} (h : OwNd w lo hi A n X) (hk : k < n) : ∃ g pa cp, A = some ⟨g, 0, none⟩ ∧ OwBk w lo hi g pa cp X := h.2 (by omega)
theorem ow_of {w : World} {lo hi g : Nat} {pa cp : Nat → Nat} {X : List Bk} (h : OwBk w lo hi g pa cp X) : OwNd w lo hi (some ⟨g, 0, none⟩) X.length X := ⟨rfl, fun _ => ⟨g, pa, cp, rfl, h⟩⟩
theorem OwBk.below {w w' : World} {lo hi g B : Nat} {pa cp : Nat → Nat} {X : List Bk} (h : OwBk w lo hi g pa cp X) (hb : Below B w w') (hB : hi ≤ B) : OwBk w' lo hi g pa cp X := h.same fun k _ hk => hb.block k (by omega)
theorem OwBk.mono {w : World} {lo hi lo' hi' g : Nat} {pa cp : Nat → Nat} {X : List Bk} (ho : OwBk w lo hi g pa cp X) (hl : lo' ≤ lo) (hh : hi ≤ hi') : OwBk w lo' hi' g pa cp X :=
  ⟨by have := ho.at_lo; omega, by have := ho.at_hi; omega, ho.row, fun i hi => by have := ho.lo' i hi; exact ⟨by omega, by omega, this.2.2⟩, ho.apart, ho.pages, ho.room⟩
theorem OwBk.cells {w : World} {lo hi g k : Nat} {pa cp : Nat → Nat} {X : List Bk} (h : OwBk w lo hi g pa cp X) (hk : k < X.length) :
    (w.cell? ⟨g, k * 3, none⟩ = some (.slice (some ⟨pa k, 0, none⟩) (X.getD k zeroBk).pages.length (cp k)) ∧ w.cell? ⟨g, k * 3 + 1, none⟩ = some (.int .i64 (X.getD k zeroBk).erases) ∧ w.cell? ⟨g, k * 3 + 2, none⟩ = some (.bool (X.getD k zeroBk).bad)) ∧
      (w.frozen? ⟨g, k * 3, none⟩ = false ∧ w.frozen? ⟨g, k * 3 + 1, none⟩ = false ∧ w.frozen? ⟨g, k * 3 + 2, none⟩ = false) ∧ g < w.heap.size := by
  refine ⟨⟨?_, ?_, ?_⟩, ⟨h.row.free _, h.row.free _, h.row.free _⟩, h.row.lt⟩
  · rw [h.row.cell (by omega), bkF_0]
  · rw [h.row.cell (by omega), bkF_1]
  · rw [h.row.cell (by omega), bkF_2]
/-- a store elsewhere -/
theorem OwBk.other {w : World} {lo hi g : Nat} {pa cp : Nat → Nat} {X : List Bk} (h : OwBk w lo hi g pa cp X) {a : Addr} (ha : a.block < lo ∨ hi ≤ a.block) (u : Value) : OwBk (w.setCell a u) lo hi g pa cp X :=
  h.same fun k h1 h2 => Below.heap_setCell _ _ _ _ (by omega)

theorem OwBk.alloc {w : World} {lo hi g : Nat} {pa cp : Nat → Nat} {X : List Bk} (h : OwBk w lo hi g pa cp X) (hh : hi ≤ w.heap.size) (o : Obj) : OwBk (w.alloc o) lo hi g pa cp X := h.below (box_below _ _) hh
theorem size_set (w : World) (a : Addr) (u : Value) : (w.setCell a u).heap.size = w.heap.size := by simp [World.setCell]

set_option maxHeartbeats 2000000 in
theorem impl_erase (A : Option Addr) (n ca : Nat) (X : List Bk) (bi : Int) (w : World) (hX : Small X) (hA : RdBk w w.heap.size A n X) :
    Calls Tryz.prog 223 #[.agg #[.slice A n ca], .int .i64 bi] w (RetAns w (eraseAns X bi)) := by
  have HL := Lib.hid hA.1
  have HA := Lib.hid hA; have HX := Lib.hid hX; clear hA hX
  go_enter Tryz.func223, Tryz.ntmps223
  go_wp2_with fail
  refine (impl_blockCode A n ca X bi _ HX.out ((HA.out.below (((Below.refl _ _).alloc (Nat.le_refl _) _).alloc (by simp) _)).mono (by simp; omega))).mono ?_
  rintro e w2 ⟨rfl, hb2⟩
  have k0 := ((isBlk_new w 28 [.slice A n ca]).alloc _).below hb2 (by simp; omega)
  have k1 := (isBlk_new (w.alloc _) 30 [.slice none 0 0, .string ⟨#[]⟩, .int .i64 0]).below hb2 (by simp)
  simp only [size_alloc] at k1
  have HB2 := Lib.hid ((((Below.refl w.heap.size w).alloc (Nat.le_refl _) _).alloc (by simp) _).trans (hb2.mono (by simp; omega)))
  have HK0 := Lib.hid k0; have HK1 := Lib.hid k1
  have hx2 : w2.cell? ⟨w.heap.size, 0, none⟩ = some (.slice A n ca) := k0.cell rfl
  obtain ⟨d0, d1, d2, fd0, fd1, fd2⟩ := blk3 k1
  clear hb2 k0 k1
  by_cases hc : blkCode X bi = 0
  · rw [hc]
    obtain ⟨hok, k, rfl, hkl⟩ := blkCode_zero hc
    have HDEF : Hid (eraseAns X (k : Int) = if (X.getD k zeroBk).bad = true then ill 11 else if (X.getD k zeroBk).erases = 1000000 then ill 9 else ⟨X.set k ⟨[zeroPg, zeroPg, zeroPg, zeroPg], (X.getD k zeroBk).erases + 1, (X.getD k zeroBk).bad⟩, ⟨#[]⟩, 0⟩) := by
      show eraseAns X (k : Int) = _; unfold eraseAns; rw [if_neg (by simp [hc])]; rfl
    have HOK := Lib.hid hok
    have hkn : k < n := by have := HL.out; omega
    have hn12 : n ≤ 12 := by have := hok.1; have := HL.out; omega
    obtain ⟨g0, off, pA, pc, rfl, hg0, hc0, hc1, hc2, -⟩ := (HA.out.below HB2.out).at hkn
    have her := (hok.2 k hkl).2.1
    have HEQ : Hid (X.getD k zeroBk = X.getD k zeroBk) := rfl
    obtain ⟨b, hb⟩ : ∃ b, b = X.getD k zeroBk := ⟨_, rfl⟩
    rw [← hb] at hc0 hc1 hc2 her HDEF
    have HBK := Lib.hid hb
    clear hok hc HEQ hb
    by_cases hbad : b.bad = true
    · have HANS := Lib.hid (HDEF.out.trans (if_pos hbad))
      rw [hbad] at hc2
      go_wp2
      refine bodyPost_ret (v := .agg #[.slice none 0 0, .string ⟨#[]⟩, .int .i64 11]) (by simp [results, Tryz.results223, go_sem, d0, d1, d2]) rfl ?_
      rw [HANS.out]
      refine ⟨none, 0, rfl, ow_nil _ _ _ _, ?_⟩
      repeat (with_reducible refine Below.setCell ?_ ?_ _)
      all_goals first | exact HB2.out | (dsimp only; omega)
    have hbad' : b.bad = false := by simpa using hbad
    rw [hbad'] at hc2
    by_cases hmax : b.erases = 1000000
    · have HANS := Lib.hid ((HDEF.out.trans (if_neg hbad)).trans (if_pos hmax))
      rw [hmax] at hc1
      go_wp2
      refine bodyPost_ret (v := .agg #[.slice none 0 0, .string ⟨#[]⟩, .int .i64 9]) (by simp [results, Tryz.results223, go_sem, d0, d1, d2]) rfl ?_
      rw [HANS.out]
      refine ⟨none, 0, rfl, ow_nil _ _ _ _, ?_⟩
      repeat (with_reducible refine Below.setCell ?_ ?_ _)
      all_goals first | exact HB2.out | (dsimp only; omega)
    have hmax' : (b.erases == 1000000) = false := by simpa using hmax
    have HANS := Lib.hid ((HDEF.out.trans (if_neg hbad)).trans (if_neg hmax))
    rw [hbad'] at HANS
    clear HDEF hmax hbad
    go_wp2_with fail
    refine (impl_copyNand _ n ca X w2 HX.out HOK.out (rd_step HA.out HB2.out)).mono ?_
    rintro e w3 ⟨A3, c3, rfl, ho3, hb3⟩
    obtain ⟨g, pa, cp, rfl, how⟩ := ow_at ho3 hkl
    have HB3 := Lib.hid (bel_step HB2.out hb3)
    have HK13 := Lib.hid (HK1.out.below hb3 HK1.out.lt)
    have hlt1 := HK1.out.lt
    have h23 := hb3.size
    rw [HL.out]
    clear hb3 ho3 hx2 d0 d1 d2 fd0 fd1 fd2 hc0 hc1 hc2
    go_wp2
    have k4 := isBlk_new w3 28 [.slice (some ⟨g, 0, none⟩) n c3]
    have hb4 := box_below w3 (.cells #[.slice (some ⟨g, 0, none⟩) n c3] 28)
    change Code.wp _ _ _ _ (w3.alloc (.cells #[.slice (some ⟨g, 0, none⟩) n c3] 28))
    generalize w3.alloc (.cells #[.slice (some ⟨g, 0, none⟩) n c3] 28) = w4 at k4 hb4 ⊢
    have HOW := Lib.hid (how.below hb4 (Nat.le_refl _))
    have HB4 := Lib.hid (bel_step HB3.out hb4)
    have HK14 := Lib.hid (HK13.out.below hb4 HK13.out.lt)
    have HK4 := Lib.hid k4
    have hx4 : w4.cell? ⟨w3.heap.size, 0, none⟩ = some (.slice (some ⟨g, 0, none⟩) n c3) := k4.cell rfl
    obtain ⟨⟨e0, e1, e2⟩, ⟨fe0, fe1, fe2⟩, hgl⟩ := HOW.out.cells hkl
    have h34 := hb4.size
    have hlt4 := k4.lt
    have hlo := how.at_lo
    have hhi := how.at_hi
    clear k4 hb4 how
    have ne3 : ¬ g = w3.heap.size := by omega
    have ne4 : ¬ w3.heap.size = g := by omega
    go_region_held3 (fun w' => w'.cell? ⟨w3.heap.size, 0, none⟩ = some (.slice (some ⟨g, 0, none⟩) n c3))
      (first | exact hx4 | exact hs5 | exact (World.cell?_setCell_other w5 ⟨g, k * 3, none⟩ ⟨w3.heap.size, 0, none⟩ _ (by simp)).trans hs5 | go_keep)
      (first
        | (go_at_call 207
           refine (emptyPages_any w4.drew).mono ?_
           rintro e w5 ⟨rfl, ho5, hb5⟩
           have hs5 : w5.cell? ⟨w3.heap.size, 0, none⟩ = some (.slice (some ⟨g, 0, none⟩) n c3) := (hb5.cell (p := ⟨w3.heap.size, 0, none⟩) hlt4).trans hx4
           have hs50 : w5.cell? ⟨g, k * 3, none⟩ = some (.slice (some ⟨pa k, 0, none⟩) (X.getD k zeroBk).pages.length (cp k)) := (hb5.cell (p := ⟨g, k * 3, none⟩) hgl).trans e0
           have hs5f : w5.frozen? ⟨g, k * 3, none⟩ = false := (hb5.frozen (p := ⟨g, k * 3, none⟩) hgl).trans fe0
           have HB5 : Hid (Below w4.heap.size w4 w5) := Below.trans (Below.refl _ _).drew hb5
           have HO5 := Lib.hid ho5
           clear ho5 hb5))
    have h45 := HB5.out.size
    have hop : OwBk w5 w2.heap.size w5.heap.size g pa cp X := (HOW.out.below HB5.out h34).mono (Nat.le_refl _) (by omega)
    have how6 := hop.setPgs (k := k) (p := w4.heap.size) (c := 4) (Y := [zeroPg, zeroPg, zeroPg, zeroPg]) hkl ⟨by omega, Row.lt HO5.out, by omega⟩ (fun i hi => by have := HOW.out.lo' i hi; omega) HO5.out rfl
    have HB6 : Hid (Below w.heap.size w (w5.setCell ⟨g, k * 3, none⟩ (.slice (some ⟨w4.heap.size, 0, none⟩) 4 4))) := (bel_step HB4.out HB5.out).setCell (by have := HB2.out.size; dsimp only; omega) _
    have hx6 : (w5.setCell ⟨g, k * 3, none⟩ (.slice (some ⟨w4.heap.size, 0, none⟩) 4 4)).cell? ⟨w3.heap.size, 0, none⟩ = some (.slice (some ⟨g, 0, none⟩) n c3) := (World.cell?_setCell_other w5 ⟨g, k * 3, none⟩ ⟨w3.heap.size, 0, none⟩ _ (by simp)).trans hs5
    have k16 := (HK14.out.below HB5.out HK14.out.lt).other (a := ⟨g, k * 3, none⟩) (by dsimp only; omega) (.slice (some ⟨w4.heap.size, 0, none⟩) 4 4)
    have hs6 : (w5.setCell ⟨g, k * 3, none⟩ (.slice (some ⟨w4.heap.size, 0, none⟩) 4 4)).heap.size = w5.heap.size := size_set _ _ _
    change OwBk (w5.setCell ⟨g, k * 3, none⟩ (.slice (some ⟨w4.heap.size, 0, none⟩) 4 4)) _ _ _ _ _ _ at how6
    generalize w5.setCell ⟨g, k * 3, none⟩ (.slice (some ⟨w4.heap.size, 0, none⟩) 4 4) = w6 at how6 HB6 hx6 k16 hs6 ⊢
    have hkl6 : k < (X.set k ⟨[zeroPg, zeroPg, zeroPg, zeroPg], (X.getD k zeroBk).erases, (X.getD k zeroBk).bad⟩).length := by simpa using hkl
    obtain ⟨⟨-, q1, -⟩, ⟨-, fq1, -⟩, hgl6⟩ := how6.cells hkl6
    rw [set_getD hkl, if_pos rfl, ← HBK.out] at q1
    obtain ⟨d0, d1, d2, fd0, fd1, fd2⟩ := blk3 k16
    have HOW6 := Lib.hid how6
    have HS6 := Lib.hid hs6
    have lt5 : w.heap.size + 1 < w3.heap.size := by omega
    have ne1 : ¬ g = w.heap.size + 1 := by omega
    have ne2 : ¬ w.heap.size + 1 = g := by omega
    clear how6 k16 hop hs6 hs5 hs50 hs5f hx4 e0 e1 e2 fe0 fe1 fe2
    go_wp2
    refine bodyPost_ret (v := .agg #[.slice (some ⟨g, 0, none⟩) n c3, .string ⟨#[]⟩, .int .i64 0]) (by simp [results, Tryz.results223, go_sem, d0, d1, d2]) rfl ?_
    rw [HANS.out]
    refine ⟨some ⟨g, 0, none⟩, c3, by simp [HL.out], ?_, ?_⟩
    · refine OwNd.mono (lo := w2.heap.size) (hi := w5.heap.size) ?_ HB2.out.size (by simp only [size_set]; have := HS6.out; omega)
      refine ow_of (pa := fun i => if i = k then w4.heap.size else pa i) (cp := fun i => if i = k then 4 else cp i) ?_
      repeat (first | focus ((with_reducible refine OwBk.other ?_ ?_ _); rotate_left 1; (dsimp only; omega)))
      have hfin := HOW6.out.setEr hkl6 (b.erases + 1)
      rw [set_getD hkl, if_pos rfl, List.set_set] at hfin
      rw [← HBK.out, hbad'] at hfin
      exact hfin
    · have hsz := HB2.out.size
      repeat (with_reducible refine Below.setCell ?_ ?_ _)
      all_goals first | exact HB6.out | (dsimp only; omega)
  · have hne : (blkCode X bi == 0) = false := by simpa using hc
    have HANS : Hid (eraseAns X bi = ill (blkCode X bi)) := by show eraseAns X bi = _; unfold eraseAns; rw [if_pos hc]
    go_wp2
    refine bodyPost_ret (v := .agg #[.slice none 0 0, .string ⟨#[]⟩, .int .i64 (blkCode X bi)]) (by simp [results, Tryz.results223, go_sem, d0, d1, d2]) rfl ?_
    rw [HANS.out]
    refine ⟨none, 0, rfl, ow_nil _ _ _ _, ?_⟩
    repeat (with_reducible refine Below.setCell ?_ ?_ _)
    all_goals first | exact HB2.out | (dsimp only; omega)
end Go.Proofs.YtfpibbhcecdbgaaGreatDoor

namespace Go.Proofs.YtfpibbhcecdbgaaGreatDoor
open Go.RowKit

set_option maxHeartbeats 2000000 in
theorem spec_markBad (A : Option Addr) (n ca : Nat) (X : List Bk) (bi : Int) (w : World) (hX : Small X) (hA : RdBk w w.heap.size A n X) :
    Calls Tryz.prog 172 #[.agg #[.slice A n ca], .int .i64 bi] w (RetAns w (markAns X bi)) := by
  have HL := Lib.hid hA.1
  have HA := Lib.hid hA; have HX := Lib.hid hX; clear hA hX
  go_enter Tryz.func172, Tryz.ntmps172
  go_wp2_with fail
  refine (spec_l02Code A n ca X bi _ HX.out ((HA.out.below (((Below.refl _ _).alloc (Nat.le_refl _) _).alloc (by simp) _)).mono (by simp; omega))).mono ?_
  rintro e w2 ⟨rfl, hb2⟩
  have k0 := ((isBlk_new w 28 [.slice A n ca]).alloc _).below hb2 (by simp; omega)
  have k1 := (isBlk_new (w.alloc _) 30 [.slice none 0 0, .string ⟨#[]⟩, .int .i64 0]).below hb2 (by simp)
  simp only [size_alloc] at k1
  have HB2 := Lib.hid ((((Below.refl w.heap.size w).alloc (Nat.le_refl _) _).alloc (by simp) _).trans (hb2.mono (by simp; omega)))
  have HK0 := Lib.hid k0; have HK1 := Lib.hid k1
  have hx2 : w2.cell? ⟨w.heap.size, 0, none⟩ = some (.slice A n ca) := k0.cell rfl
  obtain ⟨d0, d1, d2, fd0, fd1, fd2⟩ := blk3 k1
  clear hb2 k0 k1
  by_cases hc : blkCode X bi = 0
  · rw [hc]
    obtain ⟨hok, k, rfl, hkl⟩ := blkCode_zero hc
    have HANS : Hid (markAns X (k : Int) = ⟨X.set k ⟨(X.getD k zeroBk).pages, (X.getD k zeroBk).erases, true⟩, ⟨#[]⟩, 0⟩) := by
      show markAns X (k : Int) = _; unfold markAns; rw [if_neg (by simp [hc])]; rfl
    have HOK := Lib.hid hok
    have hkn : k < n := by have := HL.out; omega
    have hn12 : n ≤ 12 := by have := hok.1; have := HL.out; omega
    clear hok hc
    go_wp2_with fail
    refine (spec_l02Copy A n ca X w2 HOK.out (rd_step HA.out HB2.out)).mono ?_
    rintro e w3 ⟨A3, c3, rfl, ho3, hb3⟩
    obtain ⟨g, pa, cp, rfl, how⟩ := ow_at ho3 hkl
    have HB3 := Lib.hid (bel_step HB2.out hb3)
    have HK13 := Lib.hid (HK1.out.below hb3 HK1.out.lt)
    have hlt1 := HK1.out.lt
    have h23 := hb3.size
    rw [HL.out]
    clear hb3 ho3 hx2 d0 d1 d2 fd0 fd1 fd2
    obtain ⟨d0, d1, d2, fd0, fd1, fd2⟩ := blk3 HK13.out
    obtain ⟨⟨-, -, e2⟩, ⟨-, -, fe2⟩, hgl⟩ := how.cells hkl
    have hlo := how.at_lo
    have HOW := Lib.hid how
    clear how
    have ne1 : ¬ g = w.heap.size + 1 := by omega
    have ne2 : ¬ w.heap.size + 1 = g := by omega
    have ne3 : ¬ g = w3.heap.size := by omega
    have ne4 : ¬ w3.heap.size = g := by omega
    have lt5 : w.heap.size + 1 < w3.heap.size := by omega
    go_wp2
    refine bodyPost_ret (v := .agg #[.slice (some ⟨g, 0, none⟩) n c3, .string ⟨#[]⟩, .int .i64 0]) (by simp [results, Tryz.results172, go_sem, d0, d1, d2, lt5]) rfl ?_
    rw [HANS.out]
    refine ⟨some ⟨g, 0, none⟩, c3, by simp [HL.out], ?_, ?_⟩
    · refine OwNd.mono (lo := w2.heap.size) (hi := w3.heap.size) ?_ HB2.out.size (by simp [World.setCell])
      refine ow_of (pa := pa) (cp := cp) ?_
      repeat (first | focus ((with_reducible refine OwBk.other ?_ ?_ _); rotate_left 1; (dsimp only; omega)) | focus ((with_reducible refine OwBk.alloc ?_ ?_ _); rotate_left 1; (simp only [size_set]; omega)))
      exact OwBk.setBad HOW.out hkl true
    · have hh := HB3.out
      have hsz := HB2.out.size
      repeat (first | with_reducible refine Below.setCell ?_ ?_ _ | with_reducible refine Below.alloc ?_ ?_ _)
      all_goals first | exact hh | (simp only [size_set]; omega) | (dsimp only; omega)
  · have hne : (blkCode X bi == 0) = false := by simpa using hc
    have HANS : Hid (markAns X bi = ill (blkCode X bi)) := by show markAns X bi = _; unfold markAns; rw [if_pos hc]
    clear d0 d1 d2 fd0 fd1 fd2
    go_wp2_with fail
    refine (l02Ill_any _ w2).mono ?_
    rintro e wi ⟨rfl, hbi⟩
    have HBI := Lib.hid (bel_step HB2.out hbi)
    obtain ⟨d0, d1, d2, fd0, fd1, fd2⟩ := blk3 (HK1.out.below hbi HK1.out.lt)
    clear hbi
    go_wp2
    refine bodyPost_ret (v := .agg #[.slice none 0 0, .string ⟨#[]⟩, .int .i64 (blkCode X bi)]) (by simp [results, Tryz.results172, go_sem, d0, d1, d2]) rfl ?_
    rw [HANS.out]
    refine ⟨none, 0, rfl, ow_nil _ _ _ _, ?_⟩
    repeat (with_reducible refine Below.setCell ?_ ?_ _)
    all_goals first | exact HBI.out | (dsimp only; omega)

theorem mk4 (W : World) : (Instr.makeSlice 96 (.int .i64 4) (.int .i64 4)).run Tryz.prog W = .ok (.slice (some ⟨W.heap.size, 0, none⟩) 4 4) (W.alloc (.cells (pcells zeroPg zeroPg zeroPg zeroPg).toArray 184)) := by
  kernel_rfl

set_option maxHeartbeats 2000000 in
set_option maxRecDepth 100000 in
theorem spec_erase (A : Option Addr) (n ca : Nat) (X : List Bk) (bi : Int) (w : World) (hX : Small X) (hA : RdBk w w.heap.size A n X) :
    Calls Tryz.prog 150 #[.agg #[.slice A n ca], .int .i64 bi] w (RetAns w (eraseAns X bi)) := by
  have HL := Lib.hid hA.1
  have HA := Lib.hid hA; have HX := Lib.hid hX; clear hA hX
  go_enter Tryz.func150, Tryz.ntmps150
  go_wp2_with fail
  refine (spec_l02Code A n ca X bi _ HX.out ((HA.out.below (((Below.refl _ _).alloc (Nat.le_refl _) _).alloc (by simp) _)).mono (by simp; omega))).mono ?_
  rintro e w2 ⟨rfl, hb2⟩
  have k0 := ((isBlk_new w 28 [.slice A n ca]).alloc _).below hb2 (by simp; omega)
  have k1 := (isBlk_new (w.alloc _) 30 [.slice none 0 0, .string ⟨#[]⟩, .int .i64 0]).below hb2 (by simp)
  simp only [size_alloc] at k1
  have HB2 := Lib.hid ((((Below.refl w.heap.size w).alloc (Nat.le_refl _) _).alloc (by simp) _).trans (hb2.mono (by simp; omega)))
  have HK0 := Lib.hid k0; have HK1 := Lib.hid k1
  have hx2 : w2.cell? ⟨w.heap.size, 0, none⟩ = some (.slice A n ca) := k0.cell rfl
  obtain ⟨d0, d1, d2, fd0, fd1, fd2⟩ := blk3 k1
  clear hb2 k0 k1
  by_cases hc : blkCode X bi = 0
  · rw [hc]
    obtain ⟨hok, k, rfl, hkl⟩ := blkCode_zero hc
    have HDEF : Hid (eraseAns X (k : Int) = if (X.getD k zeroBk).bad = true then ill 11 else if (X.getD k zeroBk).erases = 1000000 then ill 9 else ⟨X.set k ⟨[zeroPg, zeroPg, zeroPg, zeroPg], (X.getD k zeroBk).erases + 1, (X.getD k zeroBk).bad⟩, ⟨#[]⟩, 0⟩) := by
      show eraseAns X (k : Int) = _; unfold eraseAns; rw [if_neg (by simp [hc])]; rfl
    have HOK := Lib.hid hok
    have hkn : k < n := by have := HL.out; omega
    have hn12 : n ≤ 12 := by have := hok.1; have := HL.out; omega
    obtain ⟨g0, off, pA, pc, rfl, hg0, hc0, hc1, hc2, -⟩ := (HA.out.below HB2.out).at hkn
    have her := (hok.2 k hkl).2.1
    have HEQ : Hid (X.getD k zeroBk = X.getD k zeroBk) := rfl
    obtain ⟨b, hb⟩ : ∃ b, b = X.getD k zeroBk := ⟨_, rfl⟩
    rw [← hb] at hc0 hc1 hc2 her HDEF
    have HBK := Lib.hid hb
    have HC1 := Lib.hid hc1
    clear hok hc HEQ hb
    by_cases hbad : b.bad = true
    · have HANS := Lib.hid (HDEF.out.trans (if_pos hbad))
      rw [hbad] at hc2
      clear d0 d1 d2 fd0 fd1 fd2
      go_wp2_with fail
      refine (l02Ill_any _ w2).mono ?_
      rintro e wi ⟨rfl, hbi⟩
      have HBI := Lib.hid (bel_step HB2.out hbi)
      obtain ⟨d0, d1, d2, fd0, fd1, fd2⟩ := blk3 (HK1.out.below hbi HK1.out.lt)
      clear hbi
      go_wp2
      refine bodyPost_ret (v := .agg #[.slice none 0 0, .string ⟨#[]⟩, .int .i64 11]) (by simp [results, Tryz.results150, go_sem, d0, d1, d2]) rfl ?_
      rw [HANS.out]
      refine ⟨none, 0, rfl, ow_nil _ _ _ _, ?_⟩
      repeat (with_reducible refine Below.setCell ?_ ?_ _)
      all_goals first | exact HBI.out | (dsimp only; omega)
    have hbad' : b.bad = false := by simpa using hbad
    rw [hbad'] at hc2
    by_cases hmax : b.erases = 1000000
    · have HANS := Lib.hid ((HDEF.out.trans (if_neg hbad)).trans (if_pos hmax))
      rw [hmax] at hc1
      clear d0 d1 d2 fd0 fd1 fd2
      go_wp2_with fail
      refine (l02Ill_any _ w2).mono ?_
      rintro e wi ⟨rfl, hbi⟩
      have HBI := Lib.hid (bel_step HB2.out hbi)
      obtain ⟨d0, d1, d2, fd0, fd1, fd2⟩ := blk3 (HK1.out.below hbi HK1.out.lt)
      clear hbi
      go_wp2
      refine bodyPost_ret (v := .agg #[.slice none 0 0, .string ⟨#[]⟩, .int .i64 9]) (by simp [results, Tryz.results150, go_sem, d0, d1, d2]) rfl ?_
      rw [HANS.out]
      refine ⟨none, 0, rfl, ow_nil _ _ _ _, ?_⟩
      repeat (with_reducible refine Below.setCell ?_ ?_ _)
      all_goals first | exact HBI.out | (dsimp only; omega)
    have hmax' : decide ((1000000 : Int) ≤ b.erases) = false := by simp; omega
    have hmax'' : b.erases + 1 ≤ 1000000 := by omega
    have HANS := Lib.hid ((HDEF.out.trans (if_neg hbad)).trans (if_neg hmax))
    rw [hbad'] at HANS
    clear HDEF hmax hbad
    go_wp2_with fail
    refine (spec_l02Copy _ n ca X w2 HOK.out (rd_step HA.out HB2.out)).mono ?_
    rintro e w3 ⟨A3, c3, rfl, ho3, hb3⟩
    obtain ⟨g, pa, cp, rfl, how⟩ := ow_at ho3 hkl
    have HB3 := Lib.hid (bel_step HB2.out hb3)
    have HB23 := Lib.hid hb3
    have HK13 := Lib.hid (HK1.out.below hb3 HK1.out.lt)
    have hlt1 := HK1.out.lt
    have h23 := hb3.size
    rw [HL.out]
    clear hb3 ho3 hx2 d0 d1 d2 fd0 fd1 fd2 hc0 hc1 hc2
    go_wp2
    have k4 := isBlk_new w3 28 [.slice (some ⟨g, 0, none⟩) n c3]
    have hb4 := box_below w3 (.cells #[.slice (some ⟨g, 0, none⟩) n c3] 28)
    change Code.wp _ _ _ _ (w3.alloc (.cells #[.slice (some ⟨g, 0, none⟩) n c3] 28))
    generalize w3.alloc (.cells #[.slice (some ⟨g, 0, none⟩) n c3] 28) = w4 at k4 hb4 ⊢
    have HOW := Lib.hid (how.below hb4 (Nat.le_refl _))
    have HB4 := Lib.hid (bel_step HB3.out hb4)
    have HB24 : Hid (Below w2.heap.size w2 w4) := bel_step HB23.out hb4
    have HK14 := Lib.hid (HK13.out.below hb4 HK13.out.lt)
    have HK4 := Lib.hid k4
    have hx4 : w4.cell? ⟨w3.heap.size, 0, none⟩ = some (.slice (some ⟨g, 0, none⟩) n c3) := k4.cell rfl
    obtain ⟨⟨e0, e1, e2⟩, ⟨fe0, fe1, fe2⟩, hgl⟩ := HOW.out.cells hkl
    have h34 := hb4.size
    have hlt4 := k4.lt
    have hlo := how.at_lo
    have hhi := how.at_hi
    clear k4 hb4 how
    have ne3 : ¬ g = w3.heap.size := by omega
    have ne4 : ¬ w3.heap.size = g := by omega
    have hi2 : (0 : Int) ≤ (k : Int) := by omega
    have hi3 : (k : Int) < (n : Int) := by omega
    have hmk := mk4
    go_region_held3 (fun w' => w'.cell? ⟨w3.heap.size, 0, none⟩ = some (.slice (some ⟨g, 0, none⟩) n c3))
      (first | exact hx4 | go_keep)
      (first | fail)
    have hw : ((w4.setCell ⟨g, k * 3, none⟩ (.slice (some ⟨w4.heap.size, 0, none⟩) 4 4)).alloc (.cells (pcells zeroPg zeroPg zeroPg zeroPg).toArray 184)).drew = ((w4.alloc (.cells (pcells zeroPg zeroPg zeroPg zeroPg).toArray 184)).drew).setCell ⟨g, k * 3, none⟩ (.slice (some ⟨w4.heap.size, 0, none⟩) 4 4) := by
      rw [World.setCell_drew, World.setCell_alloc_past _ _ _ _ hgl]
    rw [hw]
    have HB5 : Hid (Below w4.heap.size w4 (w4.alloc (.cells (pcells zeroPg zeroPg zeroPg zeroPg).toArray 184)).drew) := (box_below w4 _).drew
    have HO5 : Hid (OwPg (w4.alloc (.cells (pcells zeroPg zeroPg zeroPg zeroPg).toArray 184)).drew w4.heap.size [zeroPg, zeroPg, zeroPg, zeroPg]) := ow_of_blk (isBlk_new w4 184 (pcells zeroPg zeroPg zeroPg zeroPg))
    have hs5 : (w4.alloc (.cells (pcells zeroPg zeroPg zeroPg zeroPg).toArray 184)).drew.cell? ⟨w3.heap.size, 0, none⟩ = some (.slice (some ⟨g, 0, none⟩) n c3) := (HB5.out.cell (p := ⟨w3.heap.size, 0, none⟩) hlt4).trans hx4
    clear hw
    generalize (w4.alloc (.cells (pcells zeroPg zeroPg zeroPg zeroPg).toArray 184)).drew = w5 at HB5 HO5 hs5 ⊢
    have h45 := HB5.out.size
    have hop : OwBk w5 w2.heap.size w5.heap.size g pa cp X := (HOW.out.below HB5.out h34).mono (Nat.le_refl _) (by omega)
    have how6 := hop.setPgs (k := k) (p := w4.heap.size) (c := 4) (Y := [zeroPg, zeroPg, zeroPg, zeroPg]) hkl ⟨by omega, Row.lt HO5.out, by omega⟩ (fun i hi => by have := HOW.out.lo' i hi; omega) HO5.out rfl
    have HB6 : Hid (Below w.heap.size w (w5.setCell ⟨g, k * 3, none⟩ (.slice (some ⟨w4.heap.size, 0, none⟩) 4 4))) := (bel_step HB4.out HB5.out).setCell (by have := HB2.out.size; dsimp only; omega) _
    have hx6 : (w5.setCell ⟨g, k * 3, none⟩ (.slice (some ⟨w4.heap.size, 0, none⟩) 4 4)).cell? ⟨w3.heap.size, 0, none⟩ = some (.slice (some ⟨g, 0, none⟩) n c3) := (World.cell?_setCell_other w5 ⟨g, k * 3, none⟩ ⟨w3.heap.size, 0, none⟩ _ (by simp)).trans hs5
    have k16 := (HK14.out.below HB5.out HK14.out.lt).other (a := ⟨g, k * 3, none⟩) (by dsimp only; omega) (.slice (some ⟨w4.heap.size, 0, none⟩) 4 4)
    have hs6 : (w5.setCell ⟨g, k * 3, none⟩ (.slice (some ⟨w4.heap.size, 0, none⟩) 4 4)).heap.size = w5.heap.size := size_set _ _ _
    have HB26x : Hid (Below w2.heap.size w2 (w5.setCell ⟨g, k * 3, none⟩ (.slice (some ⟨w4.heap.size, 0, none⟩) 4 4))) := ((HB24.out.trans (HB5.out.mono (by omega))).setCell (by dsimp only; omega) _)
    change OwBk (w5.setCell ⟨g, k * 3, none⟩ (.slice (some ⟨w4.heap.size, 0, none⟩) 4 4)) _ _ _ _ _ _ at how6
    generalize w5.setCell ⟨g, k * 3, none⟩ (.slice (some ⟨w4.heap.size, 0, none⟩) 4 4) = w6 at how6 HB6 hx6 k16 hs6 HB26x ⊢
    have hkl6 : k < (X.set k ⟨[zeroPg, zeroPg, zeroPg, zeroPg], (X.getD k zeroBk).erases, (X.getD k zeroBk).bad⟩).length := by simpa using hkl
    obtain ⟨⟨-, q1, -⟩, ⟨-, fq1, -⟩, hgl6⟩ := how6.cells hkl6
    rw [set_getD hkl, if_pos rfl, ← HBK.out] at q1
    obtain ⟨d0, d1, d2, fd0, fd1, fd2⟩ := blk3 k16
    have HOW6 := Lib.hid how6
    have HB26 : Hid (Below w2.heap.size w2 w6) := HB26x.out
    have HS6 := Lib.hid hs6
    have lt5 : w.heap.size + 1 < w3.heap.size := by omega
    have ne1 : ¬ g = w.heap.size + 1 := by omega
    have ne2 : ¬ w.heap.size + 1 = g := by omega
    have hbw6 : Below w2.heap.size w2 w6 := HB26.out
    have x06 : w6.cell? ⟨w.heap.size, 0, none⟩ = some (.slice (some ⟨g0, off, none⟩) n ca) := (HK0.out.below hbw6 HK0.out.lt).cell rfl
    have x16 : w6.cell? ⟨g0, off + k * 3 + 1, none⟩ = some (.int .i64 b.erases) := (hbw6.cell (p := ⟨g0, off + k * 3 + 1, none⟩) (by have := HB2.out.size; dsimp only; omega)).trans HC1.out
    clear how6 k16 hop hs6 hs5 hx4 e0 e1 e2 fe0 fe1 fe2 hbw6
    have hwr : IntKind.i64.wrap (b.erases + 1) = b.erases + 1 := IntWalk.i64_in _ (by omega)
    go_wp2
    go_still_tail 12, (by kernel_rfl)
    change wpList _ _ _ _ _ w6.drew
    have HOW6d : Hid (OwBk w6.drew w2.heap.size w5.heap.size g (fun i => if i = k then w4.heap.size else pa i) (fun i => if i = k then 4 else cp i) (X.set k ⟨[zeroPg, zeroPg, zeroPg, zeroPg], (X.getD k zeroBk).erases, (X.getD k zeroBk).bad⟩)) := HOW6.out.same fun _ _ _ => rfl
    have HB6d : Hid (Below w.heap.size w w6.drew) := HB6.out.drew
    have HS6d : Hid (w6.drew.heap.size = w5.heap.size) := HS6.out
    have hgl6d : g < w6.drew.heap.size := hgl6
    have q1d : w6.drew.cell? ⟨g, k * 3 + 1, none⟩ = some (.int .i64 b.erases) := q1
    have fq1d : w6.drew.frozen? ⟨g, k * 3 + 1, none⟩ = false := fq1
    have hx6d : w6.drew.cell? ⟨w3.heap.size, 0, none⟩ = some (.slice (some ⟨g, 0, none⟩) n c3) := hx6
    have d0d : w6.drew.cell? ⟨w.heap.size + 1, 0, none⟩ = some (.slice none 0 0) := d0
    have d1d : w6.drew.cell? ⟨w.heap.size + 1, 1, none⟩ = some (.string ⟨#[]⟩) := d1
    have d2d : w6.drew.cell? ⟨w.heap.size + 1, 2, none⟩ = some (.int .i64 0) := d2
    have fd0d : w6.drew.frozen? ⟨w.heap.size + 1, 0, none⟩ = false := fd0
    have fd1d : w6.drew.frozen? ⟨w.heap.size + 1, 1, none⟩ = false := fd1
    have fd2d : w6.drew.frozen? ⟨w.heap.size + 1, 2, none⟩ = false := fd2
    clear q1 fq1 hx6 d0 d1 d2 fd0 fd1 fd2 x06 x16 HOW6 HB6 HS6 HB26 hgl6
    generalize w6.drew = w7 at HOW6d HB6d HS6d hgl6d q1d fq1d hx6d d0d d1d d2d fd0d fd1d fd2d ⊢
    have HOW6 := HOW6d; have HB6 := HB6d; have HS6 := HS6d; have d0 := d0d; have d1 := d1d; have d2 := d2d
    clear HOW6d HB6d HS6d
    go_wp2
    refine bodyPost_ret (v := .agg #[.slice (some ⟨g, 0, none⟩) n c3, .string ⟨#[]⟩, .int .i64 0]) (by simp [results, Tryz.results150, go_sem, d0, d1, d2]) rfl ?_
    rw [HANS.out]
    refine ⟨some ⟨g, 0, none⟩, c3, by simp [HL.out], ?_, ?_⟩
    · refine OwNd.mono (lo := w2.heap.size) (hi := w5.heap.size) ?_ HB2.out.size (by simp only [size_set]; have := HS6.out; omega)
      refine ow_of (pa := fun i => if i = k then w4.heap.size else pa i) (cp := fun i => if i = k then 4 else cp i) ?_
      repeat (first | focus ((with_reducible refine OwBk.other ?_ ?_ _); rotate_left 1; (dsimp only; omega)))
      have hfin := HOW6.out.setEr hkl6 (b.erases + 1)
      rw [set_getD hkl, if_pos rfl, List.set_set] at hfin
      rw [← HBK.out, hbad'] at hfin
      exact hfin
    · have hsz := HB2.out.size
      repeat (with_reducible refine Below.setCell ?_ ?_ _)
      all_goals first | exact HB6.out | (dsimp only; omega)
  · have hne : (blkCode X bi == 0) = false := by simpa using hc
    have HANS : Hid (eraseAns X bi = ill (blkCode X bi)) := by show eraseAns X bi = _; unfold eraseAns; rw [if_pos hc]
    clear d0 d1 d2 fd0 fd1 fd2
    go_wp2_with fail
    refine (l02Ill_any _ w2).mono ?_
    rintro e wi ⟨rfl, hbi⟩
    have HBI := Lib.hid (bel_step HB2.out hbi)
    obtain ⟨d0, d1, d2, fd0, fd1, fd2⟩ := blk3 (HK1.out.below hbi HK1.out.lt)
    clear hbi
    go_wp2
    refine bodyPost_ret (v := .agg #[.slice none 0 0, .string ⟨#[]⟩, .int .i64 (blkCode X bi)]) (by simp [results, Tryz.results150, go_sem, d0, d1, d2]) rfl ?_
    rw [HANS.out]
    refine ⟨none, 0, rfl, ow_nil _ _ _ _, ?_⟩
    repeat (with_reducible refine Below.setCell ?_ ?_ _)
    all_goals first | exact HBI.out | (dsimp only; omega)

end Go.Proofs.YtfpibbhcecdbgaaGreatDoor

namespace Go.Proofs.YtfpibbhcecdbgaaGreatDoor
open Go.RowKit

open Classical in
noncomputable def progLate (X : List Bk) (k : Nat) (t : ByteArray) : NdAns :=
  if (X.getD k zeroBk).bad = true then ill 11 else if uPre (X.getD k zeroBk).pages = 4 then ill 9
  else ⟨X.set k ⟨(X.getD k zeroBk).pages.set (uPre (X.getD k zeroBk).pages) ⟨true, t⟩, (X.getD k zeroBk).erases, (X.getD k zeroBk).bad⟩, ⟨#[]⟩, 0⟩

set_option maxHeartbeats 2000000 in
set_option maxRecDepth 100000 in
theorem spec_l02Program (A : Option Addr) (n ca k : Nat) (X : List Bk) (t : ByteArray) (w : World) (hok : NdOk X) (hkl : k < X.length) (hA : RdBk w w.heap.size A n X) :
    Calls Tryz.prog 194 #[.agg #[.slice A n ca], .int .i64 (k : Int), .string t] w (RetAns w (progLate X k t)) := by
  have HL := Lib.hid hA.1
  have HA := Lib.hid hA; have HOK := Lib.hid hok
  have hkn : k < n := by have := hA.1; omega
  have hn12 : n ≤ 12 := by have := hok.1; have := HL.out; omega
  clear hA
  obtain ⟨g0, off, pA, pc, rfl, hg0, hc0, hc1, hc2, hpg⟩ := HA.out.at hkn
  have h4 := (hok.2 k hkl).1
  have HU := Lib.hid (nUsed_ok (hok.2 k hkl))
  obtain ⟨b, hb⟩ : ∃ b, b = X.getD k zeroBk := ⟨_, rfl⟩
  have HDEF : Hid (progLate X k t = if b.bad = true then ill 11 else if uPre b.pages = 4 then ill 9 else ⟨X.set k ⟨b.pages.set (uPre b.pages) ⟨true, t⟩, b.erases, b.bad⟩, ⟨#[]⟩, 0⟩) := by show progLate X k t = _; unfold progLate; rw [← hb]
  have HPG := Lib.hid hpg
  rw [← hb] at hc0 hc1 hc2 HPG h4 HU
  have HBK := Lib.hid hb
  clear hok hb hpg
  obtain ⟨ps, er, bd⟩ := b
  simp only at hc0 hc1 hc2 HPG h4 HU HDEF
  obtain ⟨pa0, pb0, pc0, pd0, rfl⟩ := four_of_length h4
  clear h4
  have hx0 : (w.alloc (.cells #[.slice (some ⟨g0, off, none⟩) n ca] 28)).cell? ⟨w.heap.size, 0, none⟩ = some (.slice (some ⟨g0, off, none⟩) n ca) := (isBlk_new w 28 [.slice (some ⟨g0, off, none⟩) n ca]).cell rfl
  go_enter Tryz.func194, Tryz.ntmps194
  go_wp2_with fail
  refine (l02Used_any _ _ _ [pa0, pb0, pc0, pd0] _ _ _ (by simp) ((HPG.out.below (((Below.refl _ _).alloc (Nat.le_refl _) _).alloc (by simp) _)).mono (by simp; omega))).mono ?_
  rintro e w2 ⟨rfl, hb2⟩
  have k0 := ((isBlk_new w 28 [.slice (some ⟨g0, off, none⟩) n ca]).alloc _).below hb2 (by simp; omega)
  have k1 := (isBlk_new (w.alloc _) 30 [.slice none 0 0, .string ⟨#[]⟩, .int .i64 0]).below hb2 (by simp)
  simp only [size_alloc] at k1
  have hbw := (((Below.refl w.heap.size w).alloc (Nat.le_refl _) _).alloc (by simp) _).trans (hb2.mono (by simp; omega))
  have HB2 := Lib.hid hbw
  have HK0 := Lib.hid k0; have HK1 := Lib.hid k1
  have hx2 : w2.cell? ⟨w.heap.size, 0, none⟩ = some (.slice (some ⟨g0, off, none⟩) n ca) := k0.cell rfl
  have e2 : w2.cell? ⟨g0, off + k * 3 + 2, none⟩ = some (.bool bd) := (hbw.cell (p := ⟨g0, off + k * 3 + 2, none⟩) hg0).trans hc2
  clear hb2 k0 k1 hbw hx0 hc0 hc1 hc2
  rw [HU.out]
  obtain ⟨u, hu⟩ : ∃ u, u = uPre [pa0, pb0, pc0, pd0] := ⟨_, rfl⟩
  have hule : u ≤ 4 := by rw [hu]; exact uPre_le [pa0, pb0, pc0, pd0]
  rw [← hu] at HDEF
  rw [← hu]
  clear hu HU
  cases bd with
  | true =>
    have HANS : Hid (progLate X k t = ill 11) := HDEF.out.trans (if_pos rfl)
    go_wp2_with fail
    refine (l02Ill_any _ w2).mono ?_
    rintro e wi ⟨rfl, hbi⟩
    have HBI := Lib.hid (bel_step HB2.out hbi)
    obtain ⟨d0, d1, d2, fd0, fd1, fd2⟩ := blk3 (HK1.out.below hbi HK1.out.lt)
    clear hbi
    go_wp2
    refine bodyPost_ret (v := .agg #[.slice none 0 0, .string ⟨#[]⟩, .int .i64 11]) (by simp [results, Tryz.results194, go_sem, d0, d1, d2]) rfl ?_
    rw [HANS.out]
    refine ⟨none, 0, rfl, ow_nil _ _ _ _, ?_⟩
    repeat (with_reducible refine Below.setCell ?_ ?_ _)
    all_goals first | exact HBI.out | (dsimp only; omega)
  | false =>
    by_cases hu4 : u = 4
    · have HANS := Lib.hid ((HDEF.out.trans (if_neg (by simp))).trans (if_pos hu4))
      subst hu4
      clear HDEF
      go_wp2_with fail
      refine (l02Ill_any _ w2).mono ?_
      rintro e wi ⟨rfl, hbi⟩
      have HBI := Lib.hid (bel_step HB2.out hbi)
      obtain ⟨d0, d1, d2, fd0, fd1, fd2⟩ := blk3 (HK1.out.below hbi HK1.out.lt)
      clear hbi
      go_wp2
      refine bodyPost_ret (v := .agg #[.slice none 0 0, .string ⟨#[]⟩, .int .i64 9]) (by simp [results, Tryz.results194, go_sem, d0, d1, d2]) rfl ?_
      rw [HANS.out]
      refine ⟨none, 0, rfl, ow_nil _ _ _ _, ?_⟩
      repeat (with_reducible refine Below.setCell ?_ ?_ _)
      all_goals first | exact HBI.out | (dsimp only; omega)
    have HANS := Lib.hid ((HDEF.out.trans (if_neg (by simp))).trans (if_neg hu4))
    have hul : u < 4 := by omega
    have hul' : decide ((4 : Int) ≤ (u : Int)) = false := by simp; omega
    clear HDEF hu4
    go_wp2_with fail
    refine (spec_l02Copy _ n ca X w2 HOK.out (rd_step HA.out HB2.out)).mono ?_
    rintro e w4 ⟨A4, c4, rfl, ho4, hb4⟩
    obtain ⟨g, qa, cp, rfl, how⟩ := ow_at ho4 hkl
    have HB4 := Lib.hid (bel_step HB2.out hb4)
    have HK14 := Lib.hid (HK1.out.below hb4 HK1.out.lt)
    have hlt1 := HK1.out.lt
    have h24 := hb4.size
    rw [HL.out]
    obtain ⟨⟨e0, -, -⟩, ⟨fe0, -, -⟩, hgl⟩ := how.cells hkl
    have HPGk : Hid (OwPg w4 (qa k) (X.getD k zeroBk).pages) := how.pages k hkl
    have hqk := how.lo' k hkl
    have hlo := how.at_lo
    rw [← HBK.out] at e0 HPGk
    simp only at e0 HPGk
    have p0 := Row.cell HPGk.out (i := u * 2) (by simp; omega)
    have p1 := Row.cell HPGk.out (i := u * 2 + 1) (by simp; omega)
    have fp0 := Row.free HPGk.out (u * 2)
    have fp1 := Row.free HPGk.out (u * 2 + 1)
    have hql := Row.lt HPGk.out
    have HOW := Lib.hid how
    obtain ⟨d0, d1, d2, fd0, fd1, fd2⟩ := blk3 HK14.out
    have ne1 : ¬ g = qa k := by have := hqk.2.2; omega
    have ne1' : ¬ qa k = g := by have := hqk.2.2; omega
    have ne2 : ¬ qa k = w4.heap.size := by omega
    have ne2' : ¬ w4.heap.size = qa k := by omega
    have ne3 : ¬ qa k = w.heap.size + 1 := by omega
    have ne3' : ¬ w.heap.size + 1 = qa k := by omega
    have lt5 : w.heap.size + 1 < w4.heap.size := by omega
    clear hb4 ho4 how hx2 e2
    go_wp2
    refine bodyPost_ret (v := .agg #[.slice (some ⟨g, 0, none⟩) n c4, .string ⟨#[]⟩, .int .i64 0]) (by simp [results, Tryz.results194, go_sem, d0, d1, d2, lt5]) rfl ?_
    rw [HANS.out]
    refine ⟨some ⟨g, 0, none⟩, c4, by simp [HL.out], ?_, ?_⟩
    · refine OwNd.mono (lo := w2.heap.size) (hi := w4.heap.size) ?_ HB2.out.size (by simp [World.setCell])
      refine ow_of (pa := qa) (cp := cp) ?_
      repeat (first | focus ((with_reducible refine OwBk.other ?_ ?_ _); rotate_left 1; (dsimp only; omega)) | focus ((with_reducible refine OwBk.alloc ?_ ?_ _); rotate_left 1; (simp only [size_set]; omega)))
      have hfin := HOW.out.setPg (k := k) (j := u) (u := true) (d := t) hkl (by rw [← HBK.out]; exact hul)
      rw [← HBK.out] at hfin
      exact hfin
    · have hh := HB4.out
      have hsz := HB2.out.size
      repeat (first | with_reducible refine Below.setCell ?_ ?_ _ | with_reducible refine Below.alloc ?_ ?_ _)
      all_goals first | exact hh | (simp only [size_set]; omega) | (dsimp only; omega)

set_option maxHeartbeats 2000000 in
theorem spec_program (A : Option Addr) (n ca : Nat) (X : List Bk) (bi : Int) (t : ByteArray) (w : World) (ht : t.size ≤ 2147483648) (hX : Small X) (hA : RdBk w w.heap.size A n X) :
    Calls Tryz.prog 243 #[.agg #[.slice A n ca], .int .i64 bi, .string t] w (RetAns w (progAns X bi t)) := by
  have HL := Lib.hid hA.1
  have hn : n ≤ 1048576 := by have := hX.1; have := hA.1; omega
  have HA := Lib.hid hA; have HX := Lib.hid hX; clear hA hX
  by_cases hbig : 8000 < t.size
  · have HANS : Hid (progAns X bi t = ill 2) := if_pos hbig
    go_enter Tryz.func243, Tryz.ntmps243
    go_wp2_with fail
    refine (l02Ill_any _ _).mono ?_
    rintro e wi ⟨rfl, hbi⟩
    have HBI := Lib.hid (bel_step (((Below.refl w.heap.size w).alloc (Nat.le_refl _) _).alloc (by simp) _) hbi)
    have k1 := (isBlk_new (w.alloc _) 30 [.slice none 0 0, .string ⟨#[]⟩, .int .i64 0]).below hbi (by simp)
    simp only [size_alloc] at k1
    obtain ⟨d0, d1, d2, fd0, fd1, fd2⟩ := blk3 k1
    clear hbi k1
    go_wp2
    refine bodyPost_ret (v := .agg #[.slice none 0 0, .string ⟨#[]⟩, .int .i64 2]) (by simp [results, Tryz.results243, go_sem, d0, d1, d2]) rfl ?_
    rw [HANS.out]
    refine ⟨none, 0, rfl, ow_nil _ _ _ _, ?_⟩
    repeat (with_reducible refine Below.setCell ?_ ?_ _)
    all_goals first | exact HBI.out | (dsimp only; omega)
  go_enter Tryz.func243, Tryz.ntmps243
  go_wp2_with fail
  refine (spec_nandRight A n ca X _ HX.out ((HA.out.below (((Below.refl _ _).alloc (Nat.le_refl _) _).alloc (by simp) _)).mono (by simp; omega))).mono ?_
  rintro e w2 ⟨rfl, hb2⟩
  have k0 := ((isBlk_new w 28 [.slice A n ca]).alloc _).below hb2 (by simp; omega)
  have k1 := (isBlk_new (w.alloc _) 30 [.slice none 0 0, .string ⟨#[]⟩, .int .i64 0]).below hb2 (by simp)
  simp only [size_alloc] at k1
  have HB2 := Lib.hid ((((Below.refl w.heap.size w).alloc (Nat.le_refl _) _).alloc (by simp) _).trans (hb2.mono (by simp; omega)))
  have HK0 := Lib.hid k0; have HK1 := Lib.hid k1
  have hx2 : w2.cell? ⟨w.heap.size, 0, none⟩ = some (.slice A n ca) := k0.cell rfl
  clear hb2 k0 k1
  by_cases hok : NdOk X
  · rw [ndB_yes hok]
    go_wp2_with fail
    refine (l02There_any A n ca bi w2 hn).mono ?_
    rintro e w3 ⟨rfl, hb3⟩
    have HB3 := Lib.hid (bel_step HB2.out hb3)
    have HK03 := Lib.hid (HK0.out.below hb3 HK0.out.lt)
    have HK13 := Lib.hid (HK1.out.below hb3 HK1.out.lt)
    have hx3 : w3.cell? ⟨w.heap.size, 0, none⟩ = some (.slice A n ca) := HK03.out.cell rfl
    clear hb3 hx2
    by_cases h0 : 0 ≤ bi ∧ bi ≤ (n : Int) - 1
    · rw [isB_yes h0]
      obtain ⟨k, rfl⟩ : ∃ k : Nat, bi = (k : Int) := ⟨bi.toNat, by omega⟩
      have hkl : k < X.length := by have := HL.out; omega
      have hc := blkCode_ok hok (bi := (k : Int)) (by omega) (by omega)
      by_cases h60 : 60 < t.size
      · have HANS : Hid (progAns X (k : Int) t = ill 1) := by show progAns X (k : Int) t = _; unfold progAns; rw [if_neg hbig, if_neg (by simp [hc]), if_pos h60]
        clear hc h0
        go_wp2_with fail
        refine (l02Ill_any _ w3).mono ?_
        rintro e wi ⟨rfl, hbi⟩
        have HBI := Lib.hid (bel_step HB3.out hbi)
        obtain ⟨d0, d1, d2, fd0, fd1, fd2⟩ := blk3 (HK13.out.below hbi HK13.out.lt)
        clear hbi
        go_wp2
        refine bodyPost_ret (v := .agg #[.slice none 0 0, .string ⟨#[]⟩, .int .i64 1]) (by simp [results, Tryz.results243, go_sem, d0, d1, d2]) rfl ?_
        rw [HANS.out]
        refine ⟨none, 0, rfl, ow_nil _ _ _ _, ?_⟩
        repeat (with_reducible refine Below.setCell ?_ ?_ _)
        all_goals first | exact HBI.out | (dsimp only; omega)
      · have HANS : Hid (progAns X (k : Int) t = progLate X k t) := by show progAns X (k : Int) t = _; unfold progAns progLate; rw [if_neg hbig, if_neg (by simp [hc]), if_neg h60]; rfl
        have HOK := Lib.hid hok
        clear hc h0 hok
        go_wp2_with fail
        refine (spec_l02Program A n ca k X t w3 HOK.out hkl (rd_step HA.out HB3.out)).mono ?_
        rintro e w4 ⟨A4, c4, rfl, ho4, hb4⟩
        have HB4 := Lib.hid (bel_step HB3.out hb4)
        obtain ⟨d0, d1, d2, fd0, fd1, fd2⟩ := blk3 (HK13.out.below hb4 HK13.out.lt)
        have HO4 := Lib.hid ho4
        have hlt3 := HK13.out.lt
        clear hb4 ho4
        generalize hR : progLate X k t = R at HANS HO4 ⊢
        clear hR
        go_wp2
        refine bodyPost_ret (v := .agg #[.slice A4 R.nd.length c4, .string R.data, .int .i64 R.code]) (by simp [results, Tryz.results243, go_sem, d0, d1, d2]) rfl ?_
        rw [HANS.out]
        refine ⟨A4, c4, rfl, ?_, ?_⟩
        · refine OwNd.mono (lo := w3.heap.size) (hi := w4.heap.size) (HO4.out.same fun j h1 h2 => ?_) HB3.out.size (by simp only [size_set]; exact Nat.le_refl _)
          rw [Below.heap_setCell _ _ _ _ (by dsimp only; omega), Below.heap_setCell _ _ _ _ (by dsimp only; omega), Below.heap_setCell _ _ _ _ (by dsimp only; omega)]
        · repeat (with_reducible refine Below.setCell ?_ ?_ _)
          all_goals first | exact HB4.out | (dsimp only; omega)
    · rw [isB_no h0]
      have hc := blkCode_none hok (bi := bi) (by rw [HL.out]; omega)
      have HANS : Hid (progAns X bi t = ill 6) := by show progAns X bi t = _; unfold progAns; rw [if_neg hbig, if_pos (by rw [hc]; omega), hc]
      clear hc
      go_wp2_with fail
      refine (l02Ill_any _ w3).mono ?_
      rintro e wi ⟨rfl, hbi⟩
      have HBI := Lib.hid (bel_step HB3.out hbi)
      obtain ⟨d0, d1, d2, fd0, fd1, fd2⟩ := blk3 (HK13.out.below hbi HK13.out.lt)
      clear hbi
      go_wp2
      refine bodyPost_ret (v := .agg #[.slice none 0 0, .string ⟨#[]⟩, .int .i64 6]) (by simp [results, Tryz.results243, go_sem, d0, d1, d2]) rfl ?_
      rw [HANS.out]
      refine ⟨none, 0, rfl, ow_nil _ _ _ _, ?_⟩
      repeat (with_reducible refine Below.setCell ?_ ?_ _)
      all_goals first | exact HBI.out | (dsimp only; omega)
  · rw [ndB_no hok]
    have hc := blkCode_form hok (bi := bi)
    have HANS : Hid (progAns X bi t = ill 1) := by show progAns X bi t = _; unfold progAns; rw [if_neg hbig, if_pos (by rw [hc]; omega), hc]
    clear hc
    go_wp2_with fail
    refine (l02Ill_any _ w2).mono ?_
    rintro e wi ⟨rfl, hbi⟩
    have HBI := Lib.hid (bel_step HB2.out hbi)
    obtain ⟨d0, d1, d2, fd0, fd1, fd2⟩ := blk3 (HK1.out.below hbi HK1.out.lt)
    clear hbi
    go_wp2
    refine bodyPost_ret (v := .agg #[.slice none 0 0, .string ⟨#[]⟩, .int .i64 1]) (by simp [results, Tryz.results243, go_sem, d0, d1, d2]) rfl ?_
    rw [HANS.out]
    refine ⟨none, 0, rfl, ow_nil _ _ _ _, ?_⟩
    repeat (with_reducible refine Below.setCell ?_ ?_ _)
    all_goals first | exact HBI.out | (dsimp only; omega)

end Go.Proofs.YtfpibbhcecdbgaaGreatDoor

namespace Go.Proofs.YtfpibbhcecdbgaaGreatDoor
open Go.RowKit

def Few (X : List Bk) : Prop := X.length ≤ 12 ∧ ∀ b ∈ X, b.pages.length = 4
theorem few_nil : Few [] := ⟨by simp, fun b h => by cases h⟩
theorem few_ok {X : List Bk} (h : NdOk X) : Few X := ⟨h.1.2, fun b hb => by
  obtain ⟨i, hi, rfl⟩ := mem_getD hb zeroBk
  exact (h.2 i hi).1⟩
theorem few_set {X : List Bk} (h : Few X) {k : Nat} {b : Bk} (hb : b.pages.length = 4) : Few (X.set k b) := ⟨by simpa using h.1, fun c hc => by
  rcases List.mem_or_eq_of_mem_set hc with h' | h'
  · exact h.2 c h'
  · rw [h']; exact hb⟩
theorem few_of_code {X : List Bk} {bi : Int} (h : ¬ blkCode X bi ≠ 0) : NdOk X ∧ bi.toNat < X.length := by
  obtain ⟨hok, k, rfl, hk⟩ := blkCode_zero (by omega : blkCode X bi = 0)
  exact ⟨hok, hk⟩
theorem markAns_few (X : List Bk) (bi : Int) : Few (markAns X bi).nd := by
  unfold markAns
  split
  · exact few_nil
  · rename_i h
    obtain ⟨hok, hk⟩ := few_of_code h
    exact few_set (few_ok hok) ((few_ok hok).2 (X.getD bi.toNat zeroBk) (getD_lt hk))
theorem eraseAns_few (X : List Bk) (bi : Int) : Few (eraseAns X bi).nd := by
  unfold eraseAns
  split
  · exact few_nil
  · rename_i h
    obtain ⟨hok, hk⟩ := few_of_code h
    split
    · exact few_nil
    · split
      · exact few_nil
      · exact few_set (few_ok hok) rfl
theorem progAns_few (X : List Bk) (bi : Int) (t : ByteArray) : Few (progAns X bi t).nd := by
  unfold progAns
  split
  · exact few_nil
  · split
    · exact few_nil
    · rename_i h
      obtain ⟨hok, hk⟩ := few_of_code h
      split
      · exact few_nil
      · split
        · exact few_nil
        · split
          · exact few_nil
          · exact few_set (few_ok hok) (by rw [List.length_set]; exact (few_ok hok).2 _ (getD_lt hk))
theorem pageAns_few (X : List Bk) (bi pi : Int) : Few (pageAns X bi pi).nd := by
  unfold pageAns
  split
  · exact few_nil
  · rename_i h
    obtain ⟨hok, hk⟩ := few_of_code h
    split
    · exact few_nil
    · split
      · exact few_nil
      · exact few_ok hok
theorem newNd_few (bi : Int) : Few (newNd bi) := by
  unfold newNd
  split
  · rename_i h
    exact ⟨by simp; omega, fun b hb => by rw [List.eq_of_mem_replicate hb]; rfl⟩
  · exact few_nil
theorem sumTo_bound {f : Nat → Nat} {c n : Nat} (h : ∀ i, i < n → f i ≤ c) : sumTo f n ≤ n * c := by
  induction n with
  | zero => simp [sumTo]
  | succ n ih => have := ih fun i hi => h i (by omega); have := h n (by omega); simp only [sumTo]; rw [Nat.succ_mul]; omega
theorem few_kAt {X : List Bk} (h : Few X) : kAt X 1 X.length ≤ 16777216 := by
  have hb := sumTo_bound (f := fun j => 2 * nPg X j + 2) (c := 10) (n := X.length) (fun i hi => by
    have := h.2 _ (getD_lt (z := zeroBk) hi); show 2 * nPg X i + 2 ≤ 10; unfold nPg; omega)
  have := h.1
  unfold kAt; omega
end Go.Proofs.YtfpibbhcecdbgaaGreatDoor

namespace Go.Proofs.YtfpibbhcecdbgaaGreatDoor

theorem leastTo_fre (X : List Bk) : ∀ k l : Nat, leastTo X k = (l : Int) → fre (X.getD l zeroBk) = true := by
  intro k
  induction k with
  | zero => intro l h; simp only [leastTo] at h; omega
  | succ k ih =>
    intro l h
    simp only [leastTo] at h
    split at h
    · rename_i h1
      obtain rfl : k = l := by omega
      exact h1.1
    · exact ih l h
/-- the block for the next page takes one more page -/
theorem next_ready {X : List Bk} {r : Int} (h : nextR X r ≠ -1) : ∃ k : Nat, nextR X r = (k : Int) ∧ k < X.length ∧ (X.getD k zeroBk).bad = false ∧ uPre (X.getD k zeroBk).pages < 4 := by
  have hr := nextR_range X r
  refine ⟨(nextR X r).toNat, by omega, by omega, ?_⟩
  unfold nextR at h ⊢
  split at h
  · rename_i h1
    rw [if_pos h1]
    split at h
    · exact absurd rfl h
    · rename_i h2
      rw [if_neg h2]
      obtain ⟨l, hl, hk⟩ : ∃ l : Nat, leastTo X X.length = (l : Int) ∧ l < X.length := by
        rcases leastTo_range X X.length with e | ⟨h0, h1⟩
        · exact absurd e h
        · exact ⟨(leastTo X X.length).toNat, by omega, by omega⟩
      have hf := leastTo_fre X X.length l hl
      rw [hl, show ((l : Int)).toNat = l from rfl]
      simp only [fre, decide_eq_true_eq] at hf
      exact ⟨hf.1, by omega⟩
  · rename_i h1
    rw [if_neg h1]
    rcases firstTo_cases (fun i => opnB (X.getD i zeroBk)) X.length with ⟨h2, -⟩ | ⟨k, hk, h2, h3, -⟩
    · exact absurd h2 h1
    · have e : openR X = (k : Int) := h2
      rw [e, show ((k : Int)).toNat = k from rfl]
      simp only [opnB, Bool.and_eq_true, Bool.not_eq_true', decide_eq_true_eq] at h3
      exact ⟨h3.1, h3.2.2⟩
theorem late_ok {X : List Bk} {k : Nat} {d : ByteArray} (hb : (X.getD k zeroBk).bad = false) (hu : uPre (X.getD k zeroBk).pages < 4) : (progLate X k d).code = 0 ∧ (progLate X k d).data = ⟨#[]⟩ := by
  unfold progLate
  rw [if_neg (by rw [hb]; simp), if_neg (by omega)]
  exact ⟨rfl, rfl⟩
theorem prog_late {X : List Bk} {k : Nat} {d : ByteArray} (hok : NdOk X) (hk : k < X.length) (hd : d.size ≤ 60) : progAns X (k : Int) d = progLate X k d := by
  unfold progAns progLate
  rw [if_neg (by omega), if_neg (by rw [blkCode_ok hok (by omega) (by omega)]; simp), if_neg (by omega), show ((k : Int)).toNat = k from rfl]
noncomputable def putAns (X : List Bk) (r : Int) (d : ByteArray) : NdAns := if nextR X r = -1 then ill 9 else progLate X (nextR X r).toNat d
open Classical in
noncomputable def appAns (X : List Bk) (ok : Bool) (d : ByteArray) (r : Int) : NdAns := if NdOk X ∧ ok = true ∧ (0 ≤ r ∧ r ≤ 12) then putAns X r d else ill 1
open Classical in
noncomputable def tornAns (X : List Bk) (d : ByteArray) : NdAns := if 8000 < d.size then ill 2 else if NdOk X ∧ d.size ≤ 60 then putAns X 0 (d.extract 0 (d.size / 2)) else ill 1
theorem putAns_full {X : List Bk} {r : Int} {d : ByteArray} (h : nextR X r = -1) : putAns X r d = ill 9 := by unfold putAns; rw [if_pos h]
theorem putAns_at {X : List Bk} {r : Int} {d : ByteArray} {k : Nat} (h : nextR X r = (k : Int)) : putAns X r d = progLate X k d := by unfold putAns; rw [if_neg (by omega), h]; rfl
theorem ill_few (c : Int) : Few (ill c).nd := ⟨by simp [ill], fun b hb => by simp [ill] at hb⟩
theorem putAns_few {X : List Bk} {r : Int} {d : ByteArray} (hok : NdOk X) (hd : d.size ≤ 60) : Few (putAns X r d).nd := by
  by_cases h : nextR X r = -1
  · rw [putAns_full h]; exact ill_few _
  · obtain ⟨k, hk, hkl, -, -⟩ := next_ready h
    rw [putAns_at hk, ← prog_late hok hkl hd]
    exact progAns_few X (k : Int) d
theorem appAns_few (X : List Bk) (ok : Bool) (d : ByteArray) (r : Int) (hd : d.size ≤ 60) : Few (appAns X ok d r).nd := by
  unfold appAns
  split
  · rename_i h; exact putAns_few h.1 hd
  · exact ill_few _
theorem ext_half (d : ByteArray) : (d.extract 0 (d.size / 2)).size = d.size / 2 := by
  rw [ByteArray.size_extract]; omega
theorem tornAns_few (X : List Bk) (d : ByteArray) : Few (tornAns X d).nd := by
  unfold tornAns
  split
  · exact ill_few _
  · split
    · rename_i h; exact putAns_few h.1 (by rw [ext_half]; omega)
    · exact ill_few _
end Go.Proofs.YtfpibbhcecdbgaaGreatDoor

namespace Go.Proofs.YtfpibbhcecdbgaaGreatDoor
open Go.RowKit

def progCode (b : Bk) (d : ByteArray) : Int := if 60 < d.size then 1 else if b.bad = true then 11 else if uPre b.pages = 4 then 9 else 0

set_option maxHeartbeats 1000000 in
set_option maxRecDepth 100000 in
theorem programCode_any (A : Option Addr) (ca : Nat) (a b c d : Pg) (er : Int) (bad : Bool) (t : ByteArray) (w : World) (ht : t.size ≤ 2147483648) (hA : RdPg w w.heap.size A 4 [a, b, c, d]) :
    Calls Tryz.prog 245 #[.agg #[.slice A 4 ca, .int .i64 er, .bool bad], .string t] w fun e w' => e = .returned (.int .i64 (progCode ⟨[a, b, c, d], er, bad⟩ t)) ∧ Below w.heap.size w w' := by
  have HA := Lib.hid hA; clear hA
  by_cases h60 : 60 < t.size
  · have HC : Hid (progCode ⟨[a, b, c, d], er, bad⟩ t = 1) := if_pos h60
    go_enter Tryz.func245, Tryz.ntmps245
    go_wp2
    go_ret
    exact ⟨ret_i HC.out.symm, box_below _ _⟩
  cases bad with
  | true =>
    have HC : Hid (progCode ⟨[a, b, c, d], er, true⟩ t = 11) := (if_neg h60).trans (if_pos rfl)
    go_enter Tryz.func245, Tryz.ntmps245
    go_wp2
    go_ret
    exact ⟨ret_i HC.out.symm, box_below _ _⟩
  | false =>
    have HC : Hid (progCode ⟨[a, b, c, d], er, false⟩ t = if uPre [a, b, c, d] = 4 then 9 else 0) := (if_neg h60).trans (if_neg (by simp))
    go_enter Tryz.func245, Tryz.ntmps245
    go_wp2_with fail
    refine (pagesOf_any A ca a b c d er false _ ((HA.out.below (box_below _ _)).mono (box_below _ _).size)).mono ?_
    rintro e w3 ⟨rfl, hb3⟩
    have HB3 := Lib.hid (bel_step (box_below w _) hb3)
    clear hb3
    go_wp2_with fail
    refine (used_any a b c d w3).mono ?_
    rintro e w4 ⟨rfl, hb4⟩
    have HB4 := Lib.hid (bel_step HB3.out hb4)
    clear hb4
    obtain ⟨u, hu⟩ : ∃ u, u = uPre [a, b, c, d] := ⟨_, rfl⟩
    rw [← hu] at HC
    rw [← hu]
    clear hu
    by_cases h4 : u = 4
    · subst h4
      have HC2 : Hid (progCode ⟨[a, b, c, d], er, false⟩ t = 9) := HC.out
      clear HC
      go_wp2
      go_ret
      exact ⟨ret_i HC2.out.symm, HB4.out⟩
    · have HC2 := Lib.hid (HC.out.trans (if_neg h4))
      have h4' : ((u : Int) == 4) = false := by simp; omega
      have h4'' : (u == 4) = false := by simpa using h4
      clear HC
      go_wp2
      go_ret
      exact ⟨ret_i HC2.out.symm, HB4.out⟩

/-- one string assembled is that string -/
theorem assemble_one (t : ByteArray) (g cap : Nat) (w : World) (hc : w.cell? ⟨g, 0, none⟩ = some (.string t)) (ht : t.size ≤ 2147483648) :
    Calls Tryz.prog 189 #[.slice (some ⟨g, 0, none⟩) 1 cap] w fun e w' => e = .returned (.string t) ∧ Below w.heap.size w w' := by
  have h := assemble_any [t] g 0 cap w (fun i hi => by
    match i, hi with
    | 0, _ => simpa using hc) (by have := World.block_lt_of_cell? _ _ hc; simpa using this) (by simp) (by rw [flat_one, len_list]; exact ht)
  have e : strV t.data.toList = .string t := by rw [strV, bstr_of]
  rw [flat_one, e] at h
  exact h

set_option maxHeartbeats 4000000 in
set_option maxRecDepth 100000 in
theorem impl_program (A : Option Addr) (n ca : Nat) (X : List Bk) (bi : Int) (t : ByteArray) (w : World) (ht : t.size ≤ 2147483648) (hX : Small X) (hA : RdBk w w.heap.size A n X) :
    Calls Tryz.prog 188 #[.agg #[.slice A n ca], .int .i64 bi, .string t] w (RetAns w (progAns X bi t)) := by
  have HL := Lib.hid hA.1
  have HA := Lib.hid hA; have HX := Lib.hid hX; clear hA hX
  by_cases hbig : 8000 < t.size
  · have HANS : Hid (progAns X bi t = ill 2) := if_pos hbig
    go_enter Tryz.func188, Tryz.ntmps188
    go_wp2
    refine bodyPost_ret (v := .agg #[.slice none 0 0, .string ⟨#[]⟩, .int .i64 2]) (by simp [results, Tryz.results188, go_sem]) rfl ?_
    rw [HANS.out]
    exact ⟨none, 0, rfl, ow_nil _ _ _ _, ((Below.refl _ _).alloc (Nat.le_refl _) _).alloc (by simp) _⟩
  go_enter Tryz.func188, Tryz.ntmps188
  go_wp2_with fail
  refine (impl_blockCode A n ca X bi _ HX.out ((HA.out.below (((Below.refl _ _).alloc (Nat.le_refl _) _).alloc (by simp) _)).mono (by simp; omega))).mono ?_
  rintro e w2 ⟨rfl, hb2⟩
  have k0 := ((isBlk_new w 28 [.slice A n ca]).alloc _).below hb2 (by simp; omega)
  have k1 := (isBlk_new (w.alloc _) 30 [.slice none 0 0, .string ⟨#[]⟩, .int .i64 0]).below hb2 (by simp)
  simp only [size_alloc] at k1
  have HB2 := Lib.hid ((((Below.refl w.heap.size w).alloc (Nat.le_refl _) _).alloc (by simp) _).trans (hb2.mono (by simp; omega)))
  have HK0 := Lib.hid k0; have HK1 := Lib.hid k1
  have hx2 : w2.cell? ⟨w.heap.size, 0, none⟩ = some (.slice A n ca) := k0.cell rfl
  clear hb2 k0 k1
  by_cases hc : blkCode X bi = 0
  · rw [hc]
    obtain ⟨hok, k, rfl, hkl⟩ := blkCode_zero hc
    have HDEF : Hid (progAns X (k : Int) t = if 60 < t.size then ill 1 else if (X.getD k zeroBk).bad = true then ill 11 else if uPre (X.getD k zeroBk).pages = 4 then ill 9
        else ⟨X.set k ⟨(X.getD k zeroBk).pages.set (uPre (X.getD k zeroBk).pages) ⟨true, t⟩, (X.getD k zeroBk).erases, (X.getD k zeroBk).bad⟩, ⟨#[]⟩, 0⟩) := by
      show progAns X (k : Int) t = _; unfold progAns; rw [if_neg hbig, if_neg (by simp [hc])]; rfl
    have HOK := Lib.hid hok
    have hkn : k < n := by have := HL.out; omega
    have hn12 : n ≤ 12 := by have := hok.1; have := HL.out; omega
    obtain ⟨g0, off, pA, pc, rfl, hg0, hc0, hc1, hc2, hpg⟩ := (HA.out.below HB2.out).at hkn
    have h4 := (hok.2 k hkl).1
    obtain ⟨b, hb⟩ : ∃ b, b = X.getD k zeroBk := ⟨_, rfl⟩
    have HPG := Lib.hid (hpg.mono HB2.out.size)
    rw [← hb] at hc0 hc1 hc2 HDEF HPG h4
    have HBK := Lib.hid hb
    clear hok hc hb hpg
    obtain ⟨ps, er, bd⟩ := b
    simp only at hc0 hc1 hc2 HPG h4 HDEF
    obtain ⟨pa0, pb0, pc0, pd0, rfl⟩ := four_of_length h4
    clear h4
    go_wp2_with fail
    refine (programCode_any pA pc pa0 pb0 pc0 pd0 er bd t w2 ht HPG.out).mono ?_
    rintro e w3 ⟨rfl, hb3⟩
    have HB3 := Lib.hid (bel_step HB2.out hb3)
    have HK03 := Lib.hid (HK0.out.below hb3 HK0.out.lt)
    have HK13 := Lib.hid (HK1.out.below hb3 HK1.out.lt)
    have h23 := hb3.size
    have hlt1 := HK1.out.lt
    have hx3 : w3.cell? ⟨w.heap.size, 0, none⟩ = some (.slice (some ⟨g0, off, none⟩) n ca) := HK03.out.cell rfl
    have HPG3 := Lib.hid ((HPG.out.below hb3).mono hb3.size)
    clear hb3 hx2 hc0 hc1 hc2
    by_cases hpc : progCode ⟨[pa0, pb0, pc0, pd0], er, bd⟩ t = 0
    · rw [hpc]
      have h60 : ¬ 60 < t.size := by intro h; rw [progCode, if_pos h] at hpc; omega
      have hbd : ¬ bd = true := by intro h; rw [progCode, if_neg h60, if_pos h] at hpc; omega
      have hu4 : ¬ uPre [pa0, pb0, pc0, pd0] = 4 := by intro h; rw [progCode, if_neg h60, if_neg hbd, if_pos h] at hpc; omega
      have HANS := Lib.hid (((HDEF.out.trans (if_neg h60)).trans (if_neg hbd)).trans (if_neg hu4))
      have hule : uPre [pa0, pb0, pc0, pd0] ≤ 4 := uPre_le [pa0, pb0, pc0, pd0]
      clear HDEF hpc hbd
      go_wp2_with fail
      refine (impl_copyNand _ n ca X w3 HX.out HOK.out (rd_step HA.out HB3.out)).mono ?_
      rintro e w4 ⟨A4, c4, rfl, ho4, hb4⟩
      obtain ⟨g, qa, cp, rfl, how⟩ := ow_at ho4 hkl
      have HB4 := Lib.hid (bel_step HB3.out hb4)
      have HK04 := Lib.hid (HK03.out.below hb4 HK03.out.lt)
      have HK14 := Lib.hid (HK13.out.below hb4 HK13.out.lt)
      have h34 := hb4.size
      rw [HL.out]
      have hx4 : w4.cell? ⟨w.heap.size, 0, none⟩ = some (.slice (some ⟨g0, off, none⟩) n ca) := HK04.out.cell rfl
      have HPG4 := Lib.hid ((HPG3.out.below hb4).mono hb4.size)
      obtain ⟨g1, off1, pA1, pc1, he, -, hc0, hc1, hc2, hpg1⟩ := (HA.out.below HB4.out).at hkn
      injection he with he; injection he with he1 he2; subst he1 he2
      rw [← HBK.out] at hc0 hc1 hc2 hpg1
      simp only at hc0 hc1 hc2 hpg1
      have HPG41 := Lib.hid (hpg1.mono HB4.out.size)
      have hg4 : g0 < w4.heap.size := Nat.lt_of_lt_of_le hg0 HB4.out.size
      have hw4 : w.heap.size < w4.heap.size := HK04.out.lt
      clear hb4 ho4 hx3 hpg1
      go_wp2_with fail
      have k5 := isBlk_new w4 28 [.slice (some ⟨g, 0, none⟩) n c4]
      have hb5 := box_below w4 (.cells #[.slice (some ⟨g, 0, none⟩) n c4] 28)
      change Calls _ _ _ (w4.alloc (.cells #[.slice (some ⟨g, 0, none⟩) n c4] 28)) _
      generalize w4.alloc (.cells #[.slice (some ⟨g, 0, none⟩) n c4] 28) = w5 at k5 hb5 ⊢
      refine (pagesOf_any _ _ pa0 pb0 pc0 pd0 _ _ w5 ((HPG41.out.below hb5).mono hb5.size)).mono ?_
      rintro e w6 ⟨rfl, hb6⟩
      have hb56 := hb5.trans (hb6.mono hb5.size)
      have HB56 := Lib.hid hb56
      have HK6 := Lib.hid (k5.below hb6 k5.lt)
      have hw45 := k5.lt
      clear hb5 hb6 k5 hb56
      go_wp2_with fail
      refine (used_any pa0 pb0 pc0 pd0 w6).mono ?_
      rintro e w7 ⟨rfl, hb7⟩
      have HB47 : Hid (Below w4.heap.size w4 w7) := bel_step HB56.out hb7
      have HK7 := Lib.hid (HK6.out.below hb7 HK6.out.lt)
      have HK17 := Lib.hid (HK14.out.below HB47.out HK14.out.lt)
      have HOW := Lib.hid ((how.below HB47.out (Nat.le_refl _)).mono (Nat.le_refl _) HB47.out.size)
      have h47 := HB47.out.size
      have hx7 : w7.cell? ⟨w4.heap.size, 0, none⟩ = some (.slice (some ⟨g, 0, none⟩) n c4) := HK7.out.cell rfl
      have hlt7 := HK7.out.lt
      obtain ⟨⟨e0, -, -⟩, ⟨fe0, -, -⟩, hgl⟩ := HOW.out.cells hkl
      have HPGk : Hid (OwPg w7 (qa k) (X.getD k zeroBk).pages) := HOW.out.pages k hkl
      have hqk := HOW.out.lo' k hkl
      have hlo := HOW.out.at_lo
      rw [← HBK.out] at e0 HPGk
      simp only at e0 HPGk
      clear hb7 hx4 hc0 hc1 hc2
      obtain ⟨u, hu⟩ : ∃ u, u = uPre [pa0, pb0, pc0, pd0] := ⟨_, rfl⟩
      rw [← hu] at hu4 hule HANS
      rw [← hu]
      clear hu
      have hul : u < 4 := by omega
      have p0 := Row.cell HPGk.out (i := u * 2) (by simp; omega)
      have p1 := Row.cell HPGk.out (i := u * 2 + 1) (by simp; omega)
      have fp0 := Row.free HPGk.out (u * 2)
      have fp1 := Row.free HPGk.out (u * 2 + 1)
      have hql := Row.lt HPGk.out
      go_wp2
      have hi0 : (0 : Int) ≤ (u : Int) := by omega
      have hi1 : (u : Int) < 4 := by omega
      have hi2 : (0 : Int) ≤ (k : Int) := by omega
      have hi3 : (k : Int) < (n : Int) := by omega
      have ne1 : ¬ g = qa k := by have := hqk.2.2; omega
      have ne2 : ¬ w4.heap.size = qa k := by have := (how.lo' k hkl).2.1; omega
      go_region_held3 (fun w' => w'.cell? ⟨w4.heap.size, 0, none⟩ = some (.slice (some ⟨g, 0, none⟩) n c4) ∧ w'.cell? ⟨g, k * 3, none⟩ = some (.slice (some ⟨qa k, 0, none⟩) 4 (cp k)))
        (first | exact ⟨hx7, e0⟩ | exact hs8 | exact hs9 | go_keep)
        (first
          | (go_at_call 189
             refine (assemble_one t w7.heap.size 1 ((w7.alloc (.cells #[.string t] 9)).drew) (by simp) ht).mono ?_
             rintro e w8 ⟨rfl, hb8⟩
             have hb78 : Below w7.heap.size w7 w8 := ((box_below w7 _).drew).trans (hb8.mono (by simp))
             have hs8 : w8.cell? ⟨w4.heap.size, 0, none⟩ = some (.slice (some ⟨g, 0, none⟩) n c4) ∧ w8.cell? ⟨g, k * 3, none⟩ = some (.slice (some ⟨qa k, 0, none⟩) 4 (cp k)) :=
               ⟨(hb78.cell (p := ⟨w4.heap.size, 0, none⟩) hlt7).trans hx7, (hb78.cell (p := ⟨g, k * 3, none⟩) hgl).trans e0⟩
             have p08 : w8.cell? ⟨qa k, u * 2, none⟩ = some _ := (hb78.cell (p := ⟨qa k, u * 2, none⟩) hql).trans p0
             have p18 : w8.cell? ⟨qa k, u * 2 + 1, none⟩ = some _ := (hb78.cell (p := ⟨qa k, u * 2 + 1, none⟩) hql).trans p1
             have fp08 : w8.frozen? ⟨qa k, u * 2, none⟩ = false := (hb78.frozen (p := ⟨qa k, u * 2, none⟩) hql).trans fp0
             have fp18 : w8.frozen? ⟨qa k, u * 2 + 1, none⟩ = false := (hb78.frozen (p := ⟨qa k, u * 2 + 1, none⟩) hql).trans fp1
             have hs9 : ((w8.setCell ⟨qa k, u * 2, none⟩ (.bool true)).setCell ⟨qa k, u * 2 + 1, none⟩ (.string t)).cell? ⟨w4.heap.size, 0, none⟩ = some (.slice (some ⟨g, 0, none⟩) n c4) ∧
                 ((w8.setCell ⟨qa k, u * 2, none⟩ (.bool true)).setCell ⟨qa k, u * 2 + 1, none⟩ (.string t)).cell? ⟨g, k * 3, none⟩ = some (.slice (some ⟨qa k, 0, none⟩) 4 (cp k)) :=
               ⟨(World.cell?_setCell_other _ _ _ _ (by simp)).trans ((World.cell?_setCell_other _ _ _ _ (by simp)).trans hs8.1), (World.cell?_setCell_other _ _ _ _ (by simp)).trans ((World.cell?_setCell_other _ _ _ _ (by simp)).trans hs8.2)⟩
             have HB78 := Lib.hid hb78
             clear hb8 hb78))
      all_goals
        have hb9 : Below w.heap.size w ((w8.setCell ⟨qa k, u * 2, none⟩ (.bool true)).setCell ⟨qa k, u * 2 + 1, none⟩ (.string t)) := ((bel_step (bel_step HB4.out HB47.out) HB78.out).setCell (by have := HB3.out.size; dsimp only; omega) _).setCell (by have := HB3.out.size; dsimp only; omega) _
        have how9 := (HOW.out.below HB78.out (Nat.le_refl _)).setPg (k := k) (j := u) (u := true) (d := t) hkl (by rw [← HBK.out]; exact hul)
        have k19 := ((HK17.out.below HB78.out HK17.out.lt).other (a := ⟨qa k, u * 2, none⟩) (by dsimp only; omega) (.bool true)).other (a := ⟨qa k, u * 2 + 1, none⟩) (by dsimp only; omega) (.string t)
        have hs9z : ((w8.setCell ⟨qa k, u * 2, none⟩ (.bool true)).setCell ⟨qa k, u * 2 + 1, none⟩ (.string t)).heap.size = w8.heap.size := by simp only [size_set]
        generalize (w8.setCell ⟨qa k, u * 2, none⟩ (.bool true)).setCell ⟨qa k, u * 2 + 1, none⟩ (.string t) = w9 at hb9 how9 k19 hs9z hs9 ⊢
        obtain ⟨x9, -⟩ := hs9
        obtain ⟨d0, d1, d2, fd0, fd1, fd2⟩ := blk3 k19
        rw [← HBK.out] at how9
        have HOW9 := Lib.hid how9; have HB9 := Lib.hid hb9; have HSZ := Lib.hid hs9z
        have h78 := HB78.out.size
        clear how9 hb9 k19 hs9z hs8 p08 p18 fp08 fp18 p0 p1 fp0 fp1 e0 fe0 hx7
        go_wp2
        refine bodyPost_ret (v := .agg #[.slice (some ⟨g, 0, none⟩) n c4, .string ⟨#[]⟩, .int .i64 0]) (by simp [results, Tryz.results188, go_sem, d0, d1, d2]) rfl ?_
        rw [HANS.out]
        refine ⟨some ⟨g, 0, none⟩, c4, by simp [HL.out], ?_, ?_⟩
        · refine OwNd.mono (lo := w3.heap.size) (hi := w7.heap.size) ?_ HB3.out.size (by simp only [size_set]; have := HSZ.out; omega)
          refine ow_of (pa := qa) (cp := cp) ?_
          repeat (first | focus ((with_reducible refine OwBk.other ?_ ?_ _); rotate_left 1; (dsimp only; omega)))
          exact HOW9.out
        · have hsz := HB2.out.size
          repeat (with_reducible refine Below.setCell ?_ ?_ _)
          all_goals first | exact HB9.out | (dsimp only; omega)
    · have hne : (progCode ⟨[pa0, pb0, pc0, pd0], er, bd⟩ t == 0) = false := by simpa using hpc
      obtain ⟨d0, d1, d2, fd0, fd1, fd2⟩ := blk3 HK13.out
      have HANS : Hid (progAns X (k : Int) t = ill (progCode ⟨[pa0, pb0, pc0, pd0], er, bd⟩ t)) := by
        show progAns X (k : Int) t = _
        rw [HDEF.out]
        unfold progCode at hpc ⊢
        by_cases h60 : 60 < t.size
        · rw [if_pos h60, if_pos h60]
        · rw [if_neg h60] at hpc ⊢
          rw [if_neg h60]
          by_cases hbd : bd = true
          · rw [if_pos hbd, if_pos hbd]
          · rw [if_neg hbd] at hpc ⊢
            rw [if_neg hbd]
            by_cases hu4 : uPre [pa0, pb0, pc0, pd0] = 4
            · rw [if_pos hu4, if_pos hu4]
            · rw [if_neg hu4] at hpc; exact absurd rfl hpc
      go_wp2
      refine bodyPost_ret (v := .agg #[.slice none 0 0, .string ⟨#[]⟩, .int .i64 (progCode ⟨[pa0, pb0, pc0, pd0], er, bd⟩ t)]) (by simp [results, Tryz.results188, go_sem, d0, d1, d2]) rfl ?_
      rw [HANS.out]
      refine ⟨none, 0, rfl, ow_nil _ _ _ _, ?_⟩
      repeat (with_reducible refine Below.setCell ?_ ?_ _)
      all_goals first | exact HB3.out | (dsimp only; omega)
  · have hne : (blkCode X bi == 0) = false := by simpa using hc
    obtain ⟨d0, d1, d2, fd0, fd1, fd2⟩ := blk3 HK1.out
    have HANS : Hid (progAns X bi t = ill (blkCode X bi)) := by show progAns X bi t = _; unfold progAns; rw [if_neg hbig, if_pos hc]
    go_wp2
    refine bodyPost_ret (v := .agg #[.slice none 0 0, .string ⟨#[]⟩, .int .i64 (blkCode X bi)]) (by simp [results, Tryz.results188, go_sem, d0, d1, d2]) rfl ?_
    rw [HANS.out]
    refine ⟨none, 0, rfl, ow_nil _ _ _ _, ?_⟩
    repeat (with_reducible refine Below.setCell ?_ ?_ _)
    all_goals first | exact HB2.out | (dsimp only; omega)
end Go.Proofs.YtfpibbhcecdbgaaGreatDoor

namespace Go.Proofs.YtfpibbhcecdbgaaGreatDoor
open Go.RowKit

theorem field_nand (A : Option Addr) (n c : Nat) (d : ByteArray) (z : Int) (w : World) : (Instr.field 30 (.agg #[.slice A n c, .string d, .int .i64 z]) 0).run Tryz.prog w = .ok (.agg #[.slice A n c]) w := by
  simp [Instr.field, run_underlying Tryz.underlying30, part, asAgg, go_sem]
/-- a chip and an error -/
def RetPN (w : World) (Y : List Bk) (er : Value) (e : Ending) (w' : World) : Prop :=
  ∃ A c, e = .returned (.tuple #[.agg #[.slice A Y.length c], er]) ∧ OwNd w' w.heap.size w'.heap.size A Y.length Y ∧ Below w.heap.size w w'

set_option maxHeartbeats 2000000 in
set_option maxRecDepth 100000 in
theorem programNext_inv (A : Option Addr) (n ca : Nat) (X : List Bk) (d : ByteArray) (r : Int) (a0 a1 a2 : Addr) (w : World) (hno : ¬ (NdOk X ∧ (0 ≤ r ∧ r ≤ 12))) (hS : Sents w a0 a1 a2) (hX : Small X) (hA : RdBk w w.heap.size A n X) :
    Calls Tryz.prog 120 #[.agg #[.slice A n ca], .string d, .int .i64 r] w (RetPN w [] (.iface 350 (.pointer (some a0)))) := by
  have HL := Lib.hid hA.1
  have HA := Lib.hid hA; have HX := Lib.hid hX; have HS := Lib.hid hS; clear hA hX hS
  go_enter Tryz.func120, Tryz.ntmps120
  go_wp2_with fail
  have hb0 : Below w.heap.size w ((w.alloc (.cells #[.slice A n ca] 28)).alloc (.cells #[.slice none 0 0] 28)) := ((Below.refl _ _).alloc (Nat.le_refl _) _).alloc (by simp) _
  have k1 := isBlk_new (w.alloc (.cells #[.slice A n ca] 28)) 28 [.slice none 0 0]
  change IsBlk ((w.alloc (.cells #[.slice A n ca] 28)).alloc (.cells #[.slice none 0 0] 28)) _ _ _ at k1
  rw [size_alloc] at k1
  generalize (w.alloc (.cells #[.slice A n ca] 28)).alloc (.cells #[.slice none 0 0] 28) = W at hb0 k1 ⊢
  refine (impl_nandRight A n ca X W HX.out (rd_step HA.out hb0)).mono ?_
  rintro e w2 ⟨rfl, hb2⟩
  have k2 := k1.below hb2 k1.lt
  have hb2' := bel_step hb0 hb2
  have g0 := (HS.out.below hb2').v0
  have x0 : w2.cell? ⟨w.heap.size + 1, 0, none⟩ = some (.slice none 0 0) := k2.cell rfl
  have fx0 : w2.frozen? ⟨w.heap.size + 1, 0, none⟩ = false := k2.free
  have HB2 := Lib.hid hb2'; have HK2 := Lib.hid k2
  clear hb0 k1 hb2 k2 hb2'
  have hne : ∀ v : Value, v = .slice none 0 0 → Below w.heap.size w (w2.setCell ⟨w.heap.size + 1, 0, none⟩ v) := fun v _ => HB2.out.setCell (by dsimp only; omega) _
  have HNE := Lib.hid hne
  clear hne
  by_cases hok : NdOk X
  case neg =>
    rw [ndB_no hok]
    go_wp2
    go_region
    all_goals
      go_wp2
      refine bodyPost_ret (v := .tuple #[.agg #[.slice none 0 0], .iface 350 (.pointer (some a0))]) (by simp [results, Tryz.results120, go_sem, x0]) rfl ?_
      exact ⟨none, 0, rfl, ow_nil _ _ _ _, by first | exact (HNE.out _ rfl).drew | exact (HNE.out _ rfl) | exact HB2.out.drew.setCell (by dsimp only; omega) _⟩
  have hr : ¬ (0 ≤ r ∧ r ≤ 12) := fun h => hno ⟨hok, h⟩
  rw [ndB_yes hok]
  go_wp2_with fail
  refine (isReserve_any r w2).mono ?_
  rintro e w3 ⟨rfl, rfl⟩
  rw [isB_no hr]
  clear hno hok hr
  go_wp2
  go_region
  all_goals
    go_wp2
    refine bodyPost_ret (v := .tuple #[.agg #[.slice none 0 0], .iface 350 (.pointer (some a0))]) (by simp [results, Tryz.results120, go_sem, x0]) rfl ?_
    exact ⟨none, 0, rfl, ow_nil _ _ _ _, by first | exact (HNE.out _ rfl).drew | exact (HNE.out _ rfl) | exact HB2.out.drew.setCell (by dsimp only; omega) _⟩

set_option maxHeartbeats 2000000 in
set_option maxRecDepth 100000 in
theorem programNext_full (A : Option Addr) (n ca : Nat) (X : List Bk) (d : ByteArray) (r : Int) (a0 a1 a2 : Addr) (w : World) (hok : NdOk X) (hr : 0 ≤ r ∧ r ≤ 12) (hf : nextR X r = -1) (hS : Sents w a0 a1 a2) (hX : Small X) (hA : RdBk w w.heap.size A n X) :
    Calls Tryz.prog 120 #[.agg #[.slice A n ca], .string d, .int .i64 r] w (RetPN w [] (.iface 350 (.pointer (some a1)))) := by
  have HA := Lib.hid hA; have HX := Lib.hid hX; have HS := Lib.hid hS; clear hA hX hS
  have HN : Hid (nextAns X r = -1) := by show _ = _; rw [nextAns_yes hok hr, hf]
  go_enter Tryz.func120, Tryz.ntmps120
  go_wp2_with fail
  have hb0 : Below w.heap.size w ((w.alloc (.cells #[.slice A n ca] 28)).alloc (.cells #[.slice none 0 0] 28)) := ((Below.refl _ _).alloc (Nat.le_refl _) _).alloc (by simp) _
  have k0 := (isBlk_new w 28 [.slice A n ca]).alloc (.cells #[.slice none 0 0] 28)
  have k1 := isBlk_new (w.alloc (.cells #[.slice A n ca] 28)) 28 [.slice none 0 0]
  change IsBlk ((w.alloc (.cells #[.slice A n ca] 28)).alloc (.cells #[.slice none 0 0] 28)) _ _ _ at k0 k1
  rw [size_alloc] at k1
  generalize (w.alloc (.cells #[.slice A n ca] 28)).alloc (.cells #[.slice none 0 0] 28) = W at hb0 k0 k1 ⊢
  refine (impl_nandRight A n ca X W HX.out (rd_step HA.out hb0)).mono ?_
  rintro e w2 ⟨rfl, hb2⟩
  have HK2 := Lib.hid (k0.below hb2 k0.lt); have HR2 := Lib.hid (k1.below hb2 k1.lt)
  have HB2 := Lib.hid (bel_step hb0 hb2)
  have y0 : w2.cell? ⟨w.heap.size, 0, none⟩ = some (.slice A n ca) := HK2.out.cell rfl
  clear hb0 k0 k1 hb2
  rw [ndB_yes hok]
  go_wp2_with fail
  refine (isReserve_any r w2).mono ?_
  rintro e w3 ⟨rfl, rfl⟩
  rw [isB_yes hr]
  clear hok hf
  go_wp2_with fail
  refine (impl_nextBlock A n ca X r w2 HX.out (rd_step HA.out HB2.out)).mono ?_
  rintro e w4 ⟨rfl, hb4⟩
  rw [HN.out]
  have k4 := HR2.out.below hb4 HR2.out.lt
  have hb4' := bel_step HB2.out hb4
  have g1 := (HS.out.below hb4').v1
  have hw1 : 2 < w.heap.size := by have := World.block_lt_of_cell? _ _ HS.out.v1; simpa using this
  have g1' : (w4.setCell ⟨w.heap.size + 1, 0, none⟩ (.slice none 0 0)).cell? ⟨2, 0, none⟩ = some (.iface 350 (.pointer (some a1))) := (World.cell?_setCell_other _ _ _ _ (by first | (simp; done) | (simp; omega))).trans g1
  have x0 : w4.cell? ⟨w.heap.size + 1, 0, none⟩ = some (.slice none 0 0) := k4.cell rfl
  have fx0 : w4.frozen? ⟨w.heap.size + 1, 0, none⟩ = false := k4.free
  have HB4 := Lib.hid hb4'
  have HNE : Hid (∀ v : Value, v = .slice none 0 0 → Below w.heap.size w (w4.setCell ⟨w.heap.size + 1, 0, none⟩ v)) := fun v _ => HB4.out.setCell (by dsimp only; omega) _
  clear hb4 k4 hb4' y0
  go_wp2
  go_region
  all_goals
    go_wp2
    refine bodyPost_ret (v := .tuple #[.agg #[.slice none 0 0], .iface 350 (.pointer (some a1))]) (by simp [results, Tryz.results120, go_sem, x0]) rfl ?_
    exact ⟨none, 0, rfl, ow_nil _ _ _ _, by first | exact (HNE.out _ rfl).drew | exact (HNE.out _ rfl) | exact HB4.out.drew.setCell (by dsimp only; omega) _⟩

set_option maxHeartbeats 2000000 in
set_option maxRecDepth 100000 in
theorem programNext_ok (A : Option Addr) (n ca : Nat) (X : List Bk) (d : ByteArray) (r : Int) (k : Nat) (w : World) (hok : NdOk X) (hr : 0 ≤ r ∧ r ≤ 12) (hf : nextR X r = (k : Int)) (hk : k < X.length) (hd : d.size ≤ 60) (hX : Small X) (hA : RdBk w w.heap.size A n X) :
    Calls Tryz.prog 120 #[.agg #[.slice A n ca], .string d, .int .i64 r] w (RetPN w (progLate X k d).nd .nilIface) := by
  have HA := Lib.hid hA; have HX := Lib.hid hX; clear hA hX
  have HN : Hid (nextAns X r = (k : Int)) := by show _ = _; rw [nextAns_yes hok hr, hf]
  have HP := Lib.hid (prog_late hok hk hd)
  go_enter Tryz.func120, Tryz.ntmps120
  go_wp2_with fail
  have hb0 : Below w.heap.size w ((w.alloc (.cells #[.slice A n ca] 28)).alloc (.cells #[.slice none 0 0] 28)) := ((Below.refl _ _).alloc (Nat.le_refl _) _).alloc (by simp) _
  have k0 := (isBlk_new w 28 [.slice A n ca]).alloc (.cells #[.slice none 0 0] 28)
  have k1 := isBlk_new (w.alloc (.cells #[.slice A n ca] 28)) 28 [.slice none 0 0]
  change IsBlk ((w.alloc (.cells #[.slice A n ca] 28)).alloc (.cells #[.slice none 0 0] 28)) _ _ _ at k0 k1
  rw [size_alloc] at k1
  generalize (w.alloc (.cells #[.slice A n ca] 28)).alloc (.cells #[.slice none 0 0] 28) = W at hb0 k0 k1 ⊢
  refine (impl_nandRight A n ca X W HX.out (rd_step HA.out hb0)).mono ?_
  rintro e w2 ⟨rfl, hb2⟩
  have HK2 := Lib.hid (k0.below hb2 k0.lt); have HR2 := Lib.hid (k1.below hb2 k1.lt)
  have HB2 := Lib.hid (bel_step hb0 hb2)
  have y0 : w2.cell? ⟨w.heap.size, 0, none⟩ = some (.slice A n ca) := HK2.out.cell rfl
  clear hb0 k0 k1 hb2
  rw [ndB_yes hok]
  go_wp2_with fail
  refine (isReserve_any r w2).mono ?_
  rintro e w3 ⟨rfl, rfl⟩
  rw [isB_yes hr]
  clear hok hf
  go_wp2_with fail
  refine (impl_nextBlock A n ca X r w2 HX.out (rd_step HA.out HB2.out)).mono ?_
  rintro e w4 ⟨rfl, hb4⟩
  rw [HN.out]
  have HB4 := Lib.hid (bel_step HB2.out hb4)
  have HK4 := Lib.hid (HK2.out.below hb4 HK2.out.lt); have HR4 := Lib.hid (HR2.out.below hb4 HR2.out.lt)
  have y4 : w4.cell? ⟨w.heap.size, 0, none⟩ = some (.slice A n ca) := HK4.out.cell rfl
  have hkm : ((k : Int) == -1) = false := by first | (simp; done) | (simp; omega)
  clear hb4 y0
  go_wp2_with fail
  refine (impl_program A n ca X (k : Int) d w4 (by omega) HX.out (rd_step HA.out HB4.out)).mono ?_
  rintro e w5 ⟨A5, c5, rfl, ho5, hb5⟩
  rw [HP.out] at ho5 ⊢
  have hfn := field_nand A5 (progLate X k d).nd.length c5 (progLate X k d).data (progLate X k d).code
  have HO5 := Lib.hid ho5
  have HB5 := Lib.hid (bel_step HB4.out hb5)
  have k5 := HR4.out.below hb5 HR4.out.lt
  have x5 : w5.cell? ⟨w.heap.size + 1, 0, none⟩ = some (.slice none 0 0) := k5.cell rfl
  have fx5 : w5.frozen? ⟨w.heap.size + 1, 0, none⟩ = false := k5.free
  have hz4 : w.heap.size + 1 < w4.heap.size := HR4.out.lt
  have h45 := hb5.size
  clear ho5 hb5 k5 y4
  generalize (progLate X k d).nd = Y at *
  generalize (progLate X k d).data = pd at *
  generalize (progLate X k d).code = pc at *
  go_wp2
  refine bodyPost_ret (v := .tuple #[.agg #[.slice A5 Y.length c5], .nilIface]) (by simp [results, Tryz.results120, go_sem, x5]) rfl ?_
  refine ⟨A5, c5, rfl, ?_, HB5.out.setCell (by dsimp only; omega) _⟩
  refine (HO5.out.same fun j h1 h2 => Below.heap_setCell _ _ _ _ (by dsimp only; omega)).mono (by omega) (by simp [World.setCell])

set_option maxHeartbeats 2000000 in
set_option maxRecDepth 100000 in
theorem l05Append_any (A : Option Addr) (n ca : Nat) (X : List Bk) (d : ByteArray) (r : Int) (w : World) (hok : NdOk X) (hX : Small X) (hA : RdBk w w.heap.size A n X) :
    Calls Tryz.prog 125 #[.agg #[.slice A n ca], .string d, .int .i64 r] w (RetAns w (putAns X r d)) := by
  have HA := Lib.hid hA; have HX := Lib.hid hX; have HOK := Lib.hid hok; clear hA hX hok
  go_enter Tryz.func125, Tryz.ntmps125
  go_wp2_with fail
  have hb0 : Below w.heap.size w ((w.alloc (.cells #[.slice A n ca] 28)).alloc (.cells #[.slice none 0 0, .string ⟨#[]⟩, .int .i64 0] 30)) := ((Below.refl _ _).alloc (Nat.le_refl _) _).alloc (by simp) _
  have k0 := (isBlk_new w 28 [.slice A n ca]).alloc (.cells #[.slice none 0 0, .string ⟨#[]⟩, .int .i64 0] 30)
  have k1 := isBlk_new (w.alloc (.cells #[.slice A n ca] 28)) 30 [.slice none 0 0, .string ⟨#[]⟩, .int .i64 0]
  change IsBlk ((w.alloc (.cells #[.slice A n ca] 28)).alloc (.cells #[.slice none 0 0, .string ⟨#[]⟩, .int .i64 0] 30)) _ _ _ at k0 k1
  rw [size_alloc] at k1
  generalize (w.alloc (.cells #[.slice A n ca] 28)).alloc (.cells #[.slice none 0 0, .string ⟨#[]⟩, .int .i64 0] 30) = W at hb0 k0 k1 ⊢
  refine (l05Next_any A n ca X r W HX.out HOK.out (rd_step HA.out hb0)).mono ?_
  rintro e w2 ⟨rfl, hb2⟩
  have HK2 := Lib.hid (k0.below hb2 k0.lt); have HR2 := Lib.hid (k1.below hb2 k1.lt)
  have HB2 := Lib.hid (bel_step hb0 hb2)
  have y0 : w2.cell? ⟨w.heap.size, 0, none⟩ = some (.slice A n ca) := HK2.out.cell rfl
  clear hb0 k0 k1 hb2
  by_cases hf : nextR X r = -1
  · have HP := Lib.hid (putAns_full (d := d) hf)
    rw [hf]
    clear hf
    go_wp2_with fail
    refine (l02Ill_any 9 w2).mono ?_
    rintro e w3 ⟨rfl, hb3⟩
    have k3 := HR2.out.below hb3 HR2.out.lt
    obtain ⟨d0, d1, d2, fd0, fd1, fd2⟩ := blk3 k3
    have HB3 := Lib.hid (bel_step HB2.out hb3)
    clear hb3 k3 y0
    go_wp2
    refine bodyPost_ret (v := .agg #[.slice none 0 0, .string ⟨#[]⟩, .int .i64 9]) (by simp [results, Tryz.results125, go_sem, d0, d1, d2]) rfl ?_
    rw [HP.out]
    refine ⟨none, 0, rfl, ow_nil _ _ _ _, ?_⟩
    repeat (with_reducible refine Below.setCell ?_ ?_ _)
    all_goals first | exact HB3.out | (dsimp only; omega)
  · obtain ⟨k, hk, hkl, -, -⟩ := next_ready hf
    have HP := Lib.hid (putAns_at (d := d) hk)
    rw [hk]
    have hkm : decide ((k : Int) < 0) = false := by simp
    clear hf hk
    go_wp2_with fail
    refine (spec_l02Program A n ca k X d w2 HOK.out hkl (rd_step HA.out HB2.out)).mono ?_
    rintro e w5 ⟨A5, c5, rfl, ho5, hb5⟩
    have HO5 := Lib.hid ho5
    have HB5 := Lib.hid (bel_step HB2.out hb5)
    have k5 := HR2.out.below hb5 HR2.out.lt
    obtain ⟨d0, d1, d2, fd0, fd1, fd2⟩ := blk3 k5
    have hz4 : w.heap.size + 1 < w2.heap.size := HR2.out.lt
    have h45 := hb5.size
    clear ho5 hb5 k5 y0
    generalize progLate X k d = R at *
    go_wp2
    refine bodyPost_ret (v := .agg #[.slice A5 R.nd.length c5, .string R.data, .int .i64 R.code]) (by simp [results, Tryz.results125, go_sem, d0, d1, d2]) rfl ?_
    rw [HP.out]
    refine ⟨A5, c5, rfl, ?_, ?_⟩
    · refine (HO5.out.same fun j h1 h2 => ?_).mono (by omega) (by simp [World.setCell])
      rw [Below.heap_setCell _ _ _ _ (by dsimp only; omega), Below.heap_setCell _ _ _ _ (by dsimp only; omega), Below.heap_setCell _ _ _ _ (by dsimp only; omega)]
    · repeat (with_reducible refine Below.setCell ?_ ?_ _)
      all_goals first | exact HB5.out | (dsimp only; omega)
end Go.Proofs.YtfpibbhcecdbgaaGreatDoor

namespace Go.Proofs.YtfpibbhcecdbgaaGreatDoor.Bt

theorem vput_three {u : Nat} (h : u < 2097152) : (vput 9 u).length ≤ 3 := by
  by_cases h1 : u < 128
  · rw [vput_small h1]; simp
  · rw [vput_big h1]
    by_cases h2 : u / 128 < 128
    · rw [vput_small h2]; simp
    · rw [vput_big h2, vput_small (by omega)]; simp
theorem putNum_three {n : Int} (h0 : 0 ≤ n) (h1 : n ≤ 1000000) : (putNum n).length ≤ 3 := by
  refine vput_three ?_
  unfold zig; split <;> omega
theorem Rc.bytes_short {r : Rc} (h : r.Ok) : r.bytes.length ≤ 40 := by
  have hbl := Rc.body_length h
  have ho := h
  obtain ⟨h1, h2, h3, h4, h5, h6, h7, h8, h9, h10, h11, -⟩ := h
  rw [Rc.bytes_ok ho, seal_ok (by rw [bstr_size]; omega), bstr_list, List.length_append, sum_length]
  have p1 := putNum_three (n := r.k) (by omega) (by omega)
  have p2 := putNum_three (n := r.s) (by omega) (by omega)
  have p3 := putNum_three (n := r.q) (by omega) (by omega)
  have p4 := putNum_three (n := r.t) (by omega) (by omega)
  have p5 := putNum_three (n := r.o) (by omega) (by omega)
  have p6 := putNum_three (n := (r.d.size : Int)) (by omega) (by omega)
  have hl : r.d.data.toList.length = r.d.size := rfl
  simp only [Rc.body, putText_ok (show ¬ 8000 < r.d.size by omega), List.length_append, hl]
  omega
theorem opened_sealed {s : ByteArray} (h : ¬ 7996 < s.size) : opened (bstr (sealed s)) = (s.data.toList, 0) := by
  have hsz : (bstr (sealed s)).size = s.size + 4 := by rw [bstr_size, seal_ok h, List.length_append, sum_length]; rfl
  have hl : s.data.toList.length = s.size := rfl
  have ht : (bstr (sealed s)).data.toList.take ((bstr (sealed s)).size - 4) = s.data.toList := by
    rw [hsz, bstr_list, seal_ok h, Nat.add_sub_cancel, ← hl, List.take_left]
  have hd : (bstr (sealed s)).data.toList.drop ((bstr (sealed s)).size - 4) = sum s.data.toList := by
    rw [hsz, bstr_list, seal_ok h, Nat.add_sub_cancel, ← hl, List.drop_left]
  rw [opened_ok (by omega) (by omega) (by rw [ht, hd]), ht]

/-- where the reader stands behind k numbers of a record's own encoding -/
def Rc.val (r : Rc) (k : Nat) : Int := match k with | 0 => r.k | 1 => r.s | 2 => r.q | 3 => r.t | _ => r.o
def Rc.head (r : Rc) : Nat → List UInt8
  | 0 => []
  | k + 1 => r.head k ++ putNum (r.val k)
theorem Rc.head_body (r : Rc) : r.head 5 ++ putText r.d = r.body := by simp [Rc.head, Rc.val, Rc.body, List.append_assoc]
theorem Rc.head_split (r : Rc) {k : Nat} (hk : k < 5) : ∃ rest, r.body = r.head k ++ (putNum (r.val k) ++ rest) := by
  match k, hk with
  | 0, _ => exact ⟨putNum r.s ++ (putNum r.q ++ (putNum r.t ++ (putNum r.o ++ putText r.d))), by simp [Rc.head, Rc.val, Rc.body]⟩
  | 1, _ => exact ⟨putNum r.q ++ (putNum r.t ++ (putNum r.o ++ putText r.d)), by simp [Rc.head, Rc.val, Rc.body]⟩
  | 2, _ => exact ⟨putNum r.t ++ (putNum r.o ++ putText r.d), by simp [Rc.head, Rc.val, Rc.body]⟩
  | 3, _ => exact ⟨putNum r.o ++ putText r.d, by simp [Rc.head, Rc.val, Rc.body]⟩
  | 4, _ => exact ⟨putText r.d, by simp [Rc.head, Rc.val, Rc.body]⟩
theorem Rc.val_small {r : Rc} (h : r.Ok) (k : Nat) : -9223372036854775808 ≤ r.val k ∧ r.val k ≤ 9223372036854775807 := by
  obtain ⟨h1, h2, h3, h4, h5, h6, h7, h8, h9, h10, -⟩ := h
  unfold Rc.val
  split <;> omega
theorem rdAt_own {r : Rc} (h : r.Ok) : ∀ k, k ≤ 5 → rdAt (bstr r.body) k = ((((r.head k).length : Nat) : Int), false) ∧ ∀ j, j < k → rdVal (bstr r.body) j = r.val j
  | 0, _ => ⟨rfl, fun j hj => absurd hj (by omega)⟩
  | k + 1, hk => by
    obtain ⟨ih, iv⟩ := rdAt_own h k (by omega)
    have hbl := Rc.body_length h
    obtain ⟨rest, hr⟩ := r.head_split (show k < 5 by omega)
    have hg : getNum (bstr r.body) (((r.head k).length : Nat) : Int) = (r.val k, (((r.head k).length + (putNum (r.val k)).length : Nat) : Int), 0) :=
      getNum_put (by rw [bstr_size]; omega) (Rc.val_small h k).1 (Rc.val_small h k).2 ⟨rest, by rw [bstr_list, hr, List.drop_left]⟩
    have hc : ¬ ((rdAt (bstr r.body) k).2 = true ∨ (getNum (bstr r.body) (rdAt (bstr r.body) k).1).2.2 ≠ 0) := by rw [ih, hg]; simp
    refine ⟨?_, fun j hj => ?_⟩
    · rw [rdAt, rdNum_ok hc, ih, hg]; simp [Rc.head]
    · by_cases e : j = k
      · subst e; rw [rdVal, rdNum_ok hc, ih, hg]
      · exact iv j (by omega)
/-- a record is decoded from its encoding -/
theorem recRead_bytes {r : Rc} (h : r.Ok) : recRead (bstr r.bytes) = (r, 0) := by
  have hbl := Rc.body_length h
  have hop : opened (bstr r.bytes) = (r.body, 0) := by
    rw [Rc.bytes_ok h, opened_sealed (by rw [bstr_size]; omega), bstr_list]
  obtain ⟨h5, hv⟩ := rdAt_own h 5 (by omega)
  have hd : r.d.size ≤ 16 := h.2.2.2.2.2.2.2.2.2.2.1
  have hg : getText (bstr r.body) (((r.head 5).length : Nat) : Int) = (r.d.data.toList, (((r.head 5).length + (putText r.d).length : Nat) : Int), 0) :=
    getText_put (by rw [bstr_size]; omega) (by omega) ⟨[], by rw [bstr_list, ← r.head_body, List.drop_left, List.append_nil]⟩
  have hc : ¬ ((rdAt (bstr r.body) 5).2 = true ∨ (getText (bstr r.body) (rdAt (bstr r.body) 5).1).2.2 ≠ 0) := by rw [h5, hg]; simp
  have he : rdEnd (bstr r.body) = (r.d.data.toList, ((((r.head 5).length + (putText r.d).length : Nat) : Int), false)) := by rw [rdEnd, rdText_ok hc, h5, hg]
  have hrec : rdRec (bstr r.body) = r := by
    unfold rdRec
    rw [hv 0 (by omega), hv 1 (by omega), hv 2 (by omega), hv 3 (by omega), hv 4 (by omega), he, bstr_of]
    rfl
  rw [recRead_ok (by rw [hop]; simp)]
  · rw [hop]; simp only; rw [hrec]
  · rw [hop]; simp only
    refine ⟨by rw [he], ?_, by rw [hrec]; exact h⟩
    rw [he, bstr_size, ← r.head_body, List.length_append]
/-- an accepted text is the encoding of its record -/
theorem recRead_back {t : ByteArray} (h : (recRead t).2 = 0) : (recRead t).1.bytes = t.data.toList := by
  by_cases h1 : (opened t).2 ≠ 0
  · rw [recRead_code h1] at h; exact absurd h h1
  by_cases h2 : (rdEnd (bstr (opened t).1)).2.2 = false ∧ (rdEnd (bstr (opened t).1)).2.1 = ((bstr (opened t).1).size : Int) ∧ (rdRec (bstr (opened t).1)).Ok
  · rw [recRead_ok h1 h2]
    exact (ends_iff (by simpa using h1) h2.1).2 h2.2
  · rw [recRead_bad h1 h2] at h; cases h
end Go.Proofs.YtfpibbhcecdbgaaGreatDoor.Bt

namespace Go.Proofs.YtfpibbhcecdbgaaGreatDoor
open Go.RowKit
open Bt (Rc)

/-- a box with a chip, made since u -/
structure NdBox (u w : World) (b lo hi : Nat) (A : Option Addr) (c : Nat) (Y : List Bk) : Prop where
  bel : Below u.heap.size u w
  blk : IsBlk w b 28 [.slice A Y.length c]
  own : OwNd w lo hi A Y.length Y
  at_b : u.heap.size ≤ b
  at_lo : u.heap.size ≤ lo
  at_hi : hi ≤ w.heap.size
/-- the box was there ahead of the answer -/
theorem nd_first {u w4 w5 : World} {b : Nat} {A : Option Addr} {c : Nat} {Y : List Bk} (hu : Below u.heap.size u w4) (hb : u.heap.size ≤ b) (hk : IsBlk w4 b 28 [.slice none 0 0])
    (ho : OwNd w5 w4.heap.size w5.heap.size A Y.length Y) (h45 : Below w4.heap.size w4 w5) :
    NdBox u (w5.setCell ⟨b, 0, none⟩ (.slice A Y.length c)) b w4.heap.size w5.heap.size A c Y :=
  ⟨(hu.trans (h45.mono hu.size)).setCell hb _, (hk.below h45 hk.lt).set _, ho.same fun k h1 _ => by have := hk.lt; rw [Below.heap_setCell _ _ _ _ (by dsimp only; omega)], hb, hu.size, by simp [World.setCell]⟩
/-- the box was made behind the answer -/
theorem nd_last {u w4 w5 : World} {A : Option Addr} {c : Nat} {Y : List Bk} (hu : Below u.heap.size u w4)
    (ho : OwNd w5 w4.heap.size w5.heap.size A Y.length Y) (h45 : Below w4.heap.size w4 w5) :
    NdBox u (w5.alloc (.cells #[.slice A Y.length c] 28)) w5.heap.size w4.heap.size w5.heap.size A c Y :=
  ⟨(hu.trans (h45.mono hu.size)).alloc (Nat.le_trans hu.size h45.size) _, isBlk_new w5 28 [.slice A Y.length c], ho.below ((Below.refl _ _).alloc (Nat.le_refl _) _) (Nat.le_refl _), Nat.le_trans hu.size h45.size, hu.size, by simp⟩
/-- the cells of the two arguments, in every later world -/
theorem app_keep {u w' : World} {b0 b1 : Nat} {e0 e1 : TypeId} {A : Option Addr} {n c : Nat} {r : Rc} (h0 : IsBlk u b0 e0 [.slice A n c]) (h1 : IsBlk u b1 e1 (recC r)) (hb : Below u.heap.size u w') :
    w'.cell? ⟨b0, 0, none⟩ = some (.slice A n c) ∧ w'.cell? ⟨b1, 0, none⟩ = some (.int .i64 r.k) ∧ w'.cell? ⟨b1, 1, none⟩ = some (.int .i64 r.s) ∧ w'.cell? ⟨b1, 2, none⟩ = some (.int .i64 r.q) ∧ w'.cell? ⟨b1, 3, none⟩ = some (.int .i64 r.t) ∧
      w'.cell? ⟨b1, 4, none⟩ = some (.int .i64 r.o) ∧ w'.cell? ⟨b1, 5, none⟩ = some (.string r.d) ∧ Hid (Below u.heap.size u w') := by
  obtain ⟨x0, x1, x2, x3, x4, x5⟩ := rcCells (h1.below hb h1.lt)
  exact ⟨(h0.below hb h0.lt).cell rfl, x0, x1, x2, x3, x4, x5, hb⟩
theorem app_of {u w' : World} {b0 b1 : Nat} {A : Option Addr} {n c : Nat} {r : Rc} (h : w'.cell? ⟨b0, 0, none⟩ = some (.slice A n c) ∧ w'.cell? ⟨b1, 0, none⟩ = some (.int .i64 r.k) ∧ w'.cell? ⟨b1, 1, none⟩ = some (.int .i64 r.s) ∧ w'.cell? ⟨b1, 2, none⟩ = some (.int .i64 r.q) ∧ w'.cell? ⟨b1, 3, none⟩ = some (.int .i64 r.t) ∧
      w'.cell? ⟨b1, 4, none⟩ = some (.int .i64 r.o) ∧ w'.cell? ⟨b1, 5, none⟩ = some (.string r.d) ∧ Hid (Below u.heap.size u w')) : Below u.heap.size u w' := h.2.2.2.2.2.2.2.out

theorem app_cells {w' : World} {b0 b1 : Nat} {e0 e1 : TypeId} {A : Option Addr} {n c : Nat} {r : Rc} (h0 : IsBlk w' b0 e0 [.slice A n c]) (h1 : IsBlk w' b1 e1 (recC r)) :
    w'.cell? ⟨b0, 0, none⟩ = some (.slice A n c) ∧ w'.cell? ⟨b1, 0, none⟩ = some (.int .i64 r.k) ∧ w'.cell? ⟨b1, 1, none⟩ = some (.int .i64 r.s) ∧ w'.cell? ⟨b1, 2, none⟩ = some (.int .i64 r.q) ∧ w'.cell? ⟨b1, 3, none⟩ = some (.int .i64 r.t) ∧
      w'.cell? ⟨b1, 4, none⟩ = some (.int .i64 r.o) ∧ w'.cell? ⟨b1, 5, none⟩ = some (.string r.d) := by
  obtain ⟨x0, x1, x2, x3, x4, x5⟩ := rcCells h1
  exact ⟨h0.cell rfl, x0, x1, x2, x3, x4, x5⟩
theorem torn_of {u w' : World} {b0 : Nat} {A : Option Addr} {n c : Nat} (h : w'.cell? ⟨b0, 0, none⟩ = some (.slice A n c) ∧ Hid (Below u.heap.size u w')) : Below u.heap.size u w' := h.2.out
/-- what programNext and failureCode answer together -/
theorem next_answers (X : List Bk) (D : ByteArray) (r : Int) (a0 a1 a2 : Addr) (hD : D.size ≤ 60) (hX : Small X) : ∃ (Y : List Bk) (E : Value) (C : Int),
    (⟨Y, ⟨#[]⟩, C⟩ : NdAns) = appAns X true D r ∧
    (∀ (A : Option Addr) (n ca : Nat) (W : World), Sents W a0 a1 a2 → RdBk W W.heap.size A n X → Calls Tryz.prog 120 #[.agg #[.slice A n ca], .string D, .int .i64 r] W (RetPN W Y E)) ∧
    (∀ W : World, Sents W a0 a1 a2 → Calls Tryz.prog 78 #[E] W fun e w' => e = .returned (.int .i64 C) ∧ W = w') := by
  by_cases h : NdOk X ∧ (0 ≤ r ∧ r ≤ 12)
  · by_cases hf : nextR X r = -1
    · refine ⟨[], .iface 350 (.pointer (some a1)), 9, ?_, fun A n ca W hs hA => programNext_full A n ca X D r a0 a1 a2 W h.1 h.2 hf hs hX hA, fun W hs => failure_room a0 a1 a2 W hs⟩
      unfold appAns; rw [if_pos ⟨h.1, rfl, h.2⟩, putAns_full hf]; rfl
    · obtain ⟨k, hk, hkl, hb, hu⟩ := next_ready hf
      have hl := late_ok (d := D) hb hu
      refine ⟨(progLate X k D).nd, .nilIface, 0, ?_, fun A n ca W hs hA => programNext_ok A n ca X D r k W h.1 h.2 hk hkl hD hX hA, fun W hs => failure_nil a0 a1 a2 W hs⟩
      unfold appAns; rw [if_pos ⟨h.1, rfl, h.2⟩, putAns_at hk]
      rw [← hl.1, ← hl.2]
  · refine ⟨[], .iface 350 (.pointer (some a0)), 1, ?_, fun A n ca W hs hA => programNext_inv A n ca X D r a0 a1 a2 W h hs hX hA, fun W hs => failure_inv a0 a1 a2 W hs⟩
    unfold appAns; rw [if_neg (fun x => h ⟨x.1, x.2.2⟩)]; rfl

/-- the answer, stored in its box -/
theorem nd_ends {w u wc : World} {b lo hi b2 yl : Nat} {A : Option Addr} {c : Nat} {Y : List Bk} {C : Int} (hN : NdBox u wc b lo hi A c Y) (hB : Below w.heap.size w wc) (h1 : w.heap.size ≤ b2) (h2 : b2 < u.heap.size) (hy : yl = Y.length) (x y z : Value) {R : NdAns} (hR : R = ⟨Y, ⟨#[]⟩, C⟩) :
    RetAns w R (.returned (.agg #[.slice A yl c, .string ⟨#[]⟩, .int .i64 C])) (((wc.setCell ⟨b2, 0, none⟩ x).setCell ⟨b2, 1, none⟩ y).setCell ⟨b2, 2, none⟩ z).drew := by
  subst hy hR
  have hlo := hN.at_lo; have hhi := hN.at_hi; have hu := hN.bel.size
  refine ⟨A, c, rfl, ?_, ?_⟩
  · refine (hN.own.same fun j h1 h2 => ?_).mono (by have := hB.size; omega) (by show hi ≤ (((wc.setCell _ _).setCell _ _).setCell _ _).heap.size; simp [World.setCell]; omega)
    show (((wc.setCell _ _).setCell _ _).setCell _ _).heap[j]? = _
    rw [Below.heap_setCell _ _ _ _ (by dsimp only; omega), Below.heap_setCell _ _ _ _ (by dsimp only; omega), Below.heap_setCell _ _ _ _ (by dsimp only; omega)]
  · exact (((hB.setCell (p := ⟨b2, 0, none⟩) h1 _).setCell (p := ⟨b2, 1, none⟩) h1 _).setCell (p := ⟨b2, 2, none⟩) h1 _).drew

set_option maxHeartbeats 4000000 in
set_option maxRecDepth 100000 in
theorem impl_append (A : Option Addr) (n ca : Nat) (X : List Bk) (r : Rc) (res : Int) (a0 a1 a2 : Addr) (w : World) (hd : r.d.size ≤ maxLen) (hX : Small X) (hS : Sents w a0 a1 a2) (hA : RdBk w w.heap.size A n X) :
    Calls Tryz.prog 40 #[.agg #[.slice A n ca], recV r, .int .i64 res] w (RetAns w (appAns X (decide r.Ok) (bstr r.bytes) res)) := by
  have HA := Lib.hid hA; have HX := Lib.hid hX; have HS := Lib.hid hS; clear hA hX hS
  go_enter Tryz.func40, Tryz.ntmps40
  go_wp2_with fail
  have hb0 : Below w.heap.size w (((w.alloc (.cells #[.slice A n ca] 28)).alloc (.cells #[.int .i64 r.k, .int .i64 r.s, .int .i64 r.q, .int .i64 r.t, .int .i64 r.o, .string r.d] 68)).alloc (.cells #[.slice none 0 0, .string ⟨#[]⟩, .int .i64 0] 30)) := (((Below.refl _ _).alloc (Nat.le_refl _) _).alloc (by simp) _).alloc (by simp; omega) _
  have k0 := ((isBlk_new w 28 [.slice A n ca]).alloc (.cells #[.int .i64 r.k, .int .i64 r.s, .int .i64 r.q, .int .i64 r.t, .int .i64 r.o, .string r.d] 68)).alloc (.cells #[.slice none 0 0, .string ⟨#[]⟩, .int .i64 0] 30)
  have k1 := (isBlk_new (w.alloc (.cells #[.slice A n ca] 28)) 68 (recC r)).alloc (.cells #[.slice none 0 0, .string ⟨#[]⟩, .int .i64 0] 30)
  have k2 := isBlk_new ((w.alloc (.cells #[.slice A n ca] 28)).alloc (.cells #[.int .i64 r.k, .int .i64 r.s, .int .i64 r.q, .int .i64 r.t, .int .i64 r.o, .string r.d] 68)) 30 [.slice none 0 0, .string ⟨#[]⟩, .int .i64 0]
  change IsBlk (((w.alloc (.cells #[.slice A n ca] 28)).alloc (.cells #[.int .i64 r.k, .int .i64 r.s, .int .i64 r.q, .int .i64 r.t, .int .i64 r.o, .string r.d] 68)).alloc (.cells #[.slice none 0 0, .string ⟨#[]⟩, .int .i64 0] 30)) _ _ _ at k0 k1 k2
  rw [size_alloc] at k1
  rw [size_alloc, size_alloc] at k2
  generalize (((w.alloc (.cells #[.slice A n ca] 28)).alloc (.cells #[.int .i64 r.k, .int .i64 r.s, .int .i64 r.q, .int .i64 r.t, .int .i64 r.o, .string r.d] 68)).alloc (.cells #[.slice none 0 0, .string ⟨#[]⟩, .int .i64 0] 30)) = W at hb0 k0 k1 k2 ⊢
  refine (impl_recRight_any r W hd).mono ?_
  rintro e u ⟨rfl, hbu⟩
  have HB := Lib.hid (bel_step hb0 hbu)
  have HK0 := Lib.hid (k0.below hbu k0.lt); have HK1 := Lib.hid (k1.below hbu k1.lt); have HK2 := Lib.hid (k2.below hbu k2.lt)
  clear hb0 k0 k1 k2 hbu
  obtain ⟨d0, d1, d2, fd0, fd1, fd2⟩ := blk3 HK2.out
  by_cases hok : r.Ok
  case neg =>
    have HANS : Hid (appAns X (decide r.Ok) (bstr r.bytes) res = ill 1) := by show _ = _; unfold appAns; rw [if_neg (fun h => by have := h.2.1; simp [hok] at this)]
    rw [decide_eq_false hok]
    clear hok
    go_wp2
    refine bodyPost_ret (v := .agg #[.slice none 0 0, .string ⟨#[]⟩, .int .i64 1]) (by simp [results, Tryz.results40, go_sem, d0, d1, d2]) rfl ?_
    first | rw [HANS.out] | (rw [decide_eq_false (by assumption)] at HANS; rw [HANS.out])
    refine ⟨none, 0, rfl, ow_nil _ _ _ _, ?_⟩
    repeat (with_reducible refine Below.setCell ?_ ?_ _)
    all_goals first | exact HB.out | (dsimp only; omega)
  clear d0 d1 d2 fd0 fd1 fd2
  rw [decide_eq_true hok]
  obtain ⟨D, hDe⟩ : ∃ D, D = bstr r.bytes := ⟨_, rfl⟩
  have hD : D.size ≤ 60 := by rw [hDe]; have := Rc.bytes_short hok; have h2 : (bstr r.bytes).size = r.bytes.length := by simp [bstr, ByteArray.size]
                              omega
  have HRB : Hid (∀ W : World, Calls Tryz.prog 121 #[recV r] W fun e w' => e = .returned (.string D) ∧ Below W.heap.size W w') := fun W => by rw [hDe]; exact impl_recBytes_any r W hd
  obtain ⟨Y, E, C, hans, hpn, hfc⟩ := next_answers X D res a0 a1 a2 hD HX.out
  have HANS : Hid (appAns X (decide r.Ok) (bstr r.bytes) res = ⟨Y, ⟨#[]⟩, C⟩) := by show _ = _; rw [hans, decide_eq_true hok, ← hDe]
  clear hDe hok
  have HPN : Hid (∀ W : World, Below u.heap.size u W → Calls Tryz.prog 120 #[.agg #[.slice A n ca], .string D, .int .i64 res] W (RetPN W Y E)) := fun W h => hpn A n ca W (HS.out.below (bel_step HB.out h)) (rd_step HA.out (bel_step HB.out h))
  have HFC : Hid (∀ W : World, Below u.heap.size u W → Calls Tryz.prog 78 #[E] W fun e w' => e = .returned (.int .i64 C) ∧ W = w') := fun W h => hfc W (HS.out.below (bel_step HB.out h))
  clear hans hpn hfc
  go_wp2
  go_cut [7, 8] (fun v7 v8 wx => ∃ b lo hi A c, v7 = .pointer (some ⟨b, 0, none⟩) ∧ v8 = E ∧ NdBox u wx b lo hi A c Y)
  case first =>
    have hlt0 : w.heap.size < u.heap.size := HK0.out.lt
    have hlt1 : w.heap.size + 1 < u.heap.size := HK1.out.lt
    go_region_held3 (fun w' => w'.cell? ⟨w.heap.size, 0, none⟩ = some (.slice A n ca) ∧ w'.cell? ⟨w.heap.size + 1, 0, none⟩ = some (.int .i64 r.k) ∧ w'.cell? ⟨w.heap.size + 1, 1, none⟩ = some (.int .i64 r.s) ∧ w'.cell? ⟨w.heap.size + 1, 2, none⟩ = some (.int .i64 r.q) ∧ w'.cell? ⟨w.heap.size + 1, 3, none⟩ = some (.int .i64 r.t) ∧
        w'.cell? ⟨w.heap.size + 1, 4, none⟩ = some (.int .i64 r.o) ∧ w'.cell? ⟨w.heap.size + 1, 5, none⟩ = some (.string r.d) ∧ Hid (Below u.heap.size u w'))
      (first | exact hsB | exact hsC | exact app_keep HK0.out HK1.out (Below.refl _ _).drew | exact app_keep HK0.out HK1.out ((app_of (by assumption)).alloc (app_of (by assumption)).size _) | exact app_keep HK0.out HK1.out HKY.out.bel)
      (first
        | (go_at_call 121
           refine (HRB.out _).mono ?_
           rintro e wB ⟨rfl, hbB⟩
           have hsB := app_keep HK0.out HK1.out ((app_of (by assumption)).trans (hbB.mono (app_of (by assumption)).size))
           have HBB := Lib.hid hbB
           have hzB := (app_of hsB).size
           clear hbB)
        | (go_at_call 120
           refine (HPN.out _ (app_of (by assumption))).mono ?_
           rintro e wC ⟨Aw, cw, rfl, hoC, hbC⟩
           have hsC := app_keep HK0.out HK1.out ((app_of (by assumption)).trans (hbC.mono (app_of (by assumption)).size))
           first
           | (have kW := isBlk_new wB 28 [.slice none 0 0]
              have HKY := Lib.hid (nd_first (c := cw) (app_of (by assumption)) hzB kW hoC hbC)
              obtain ⟨e0, fe0⟩ := (⟨(kW.below hbC kW.lt).cell rfl, (kW.below hbC kW.lt).free⟩ : wC.cell? ⟨wB.heap.size, 0, none⟩ = some (.slice none 0 0) ∧ wC.frozen? ⟨wB.heap.size, 0, none⟩ = false)
              clear kW)
           | (have kW := (show IsBlk (u.alloc (.cells #[.slice none 0 0] 28)).drew u.heap.size 28 [.slice none 0 0] from isBlk_new u 28 [.slice none 0 0]).below HBB.out (by simp)
              have HKY := Lib.hid (nd_first (c := cw) (app_of (by assumption)) (Nat.le_refl _) kW hoC hbC)
              obtain ⟨e0, fe0⟩ := (⟨(kW.below hbC kW.lt).cell rfl, (kW.below hbC kW.lt).free⟩ : wC.cell? ⟨u.heap.size, 0, none⟩ = some (.slice none 0 0) ∧ wC.frozen? ⟨u.heap.size, 0, none⟩ = false)
              clear kW)
           | (have HKY := Lib.hid (nd_last (c := cw) (app_of (by assumption)) hoC hbC))
           clear hoC hbC))
    all_goals (go_wp2_with fail; go_meet)
    all_goals exact ⟨_, _, _, Aw, cw, rfl, rfl, HKY.out⟩
  case rest =>
    obtain ⟨b, lo, hi, A', c', rfl, rfl, hN⟩ := hcut
    have hb := hN.bel
    have HN := Lib.hid hN
    have x0 : wc.cell? ⟨b, 0, none⟩ = some (.slice A' Y.length c') := hN.blk.cell rfl
    obtain ⟨d0, d1, d2, fd0, fd1, fd2⟩ := blk3 (HK2.out.below hb HK2.out.lt)
    have hlt2 : w.heap.size + 1 + 1 < u.heap.size := HK2.out.lt
    have hub := hN.at_b
    have hlo := hN.at_lo
    have hhi := hN.at_hi
    have hne : ¬ w.heap.size + 1 + 1 = b := by omega
    have hne' : ¬ b = w.heap.size + 1 + 1 := by omega
    have HBU := Lib.hid (bel_step HB.out hb)
    have HBW : Hid (Below u.heap.size u wc.drew) := hb.drew
    clear hb hN
    obtain ⟨yl, hyl⟩ : ∃ yl, yl = Y.length := ⟨_, rfl⟩
    rw [← hyl] at x0
    have HYL := Lib.hid hyl
    clear hyl
    go_wp2_with fail
    go_region_held3 (fun w' => w'.cell? ⟨b, 0, none⟩ = some (.slice A' yl c'))
      (first | exact x0 | go_keep)
      ((go_at_call 78
        refine (HFC.out _ HBW.out).mono ?_
        rintro e wF ⟨rfl, rfl⟩))
    all_goals
      go_wp2
      refine bodyPost_ret (v := .agg #[.slice A' yl c', .string ⟨#[]⟩, .int .i64 C]) (by simp [results, Tryz.results40, go_sem, d0, d1, d2]) rfl ?_
      exact nd_ends HN.out HBU.out (by omega) hlt2 HYL.out _ _ _ HANS.out

set_option maxHeartbeats 4000000 in
set_option maxRecDepth 100000 in
theorem impl_torn (A : Option Addr) (n ca : Nat) (X : List Bk) (d : ByteArray) (a0 a1 a2 : Addr) (w : World) (hd : d.size ≤ 2147483648) (hX : Small X) (hS : Sents w a0 a1 a2) (hA : RdBk w w.heap.size A n X) :
    Calls Tryz.prog 42 #[.agg #[.slice A n ca], .string d] w (RetAns w (tornAns X d)) := by
  have HA := Lib.hid hA; have HX := Lib.hid hX; have HS := Lib.hid hS; clear hA hX hS
  have HB0 : Hid (∀ o1 o2 : Obj, Below w.heap.size w ((w.alloc o1).alloc o2)) := fun o1 o2 => ((Below.refl _ _).alloc (Nat.le_refl _) _).alloc (by simp) _
  by_cases hbig : 8000 < d.size
  · have HANS : Hid (tornAns X d = ill 2) := by show _ = _; unfold tornAns; rw [if_pos hbig]
    go_enter Tryz.func42, Tryz.ntmps42
    go_wp2
    refine bodyPost_ret (v := .agg #[.slice none 0 0, .string ⟨#[]⟩, .int .i64 2]) (by simp [results, Tryz.results42, go_sem]) rfl ?_
    rw [HANS.out]
    refine ⟨none, 0, rfl, ow_nil _ _ _ _, ?_⟩
    repeat (first | exact HB0.out _ _ | with_reducible refine Below.setCell ?_ ?_ _)
    all_goals (dsimp only; omega)
  by_cases h60 : 60 < d.size
  · have HANS : Hid (tornAns X d = ill 1) := by show _ = _; unfold tornAns; rw [if_neg hbig, if_neg (by omega)]
    go_enter Tryz.func42, Tryz.ntmps42
    go_wp2
    refine bodyPost_ret (v := .agg #[.slice none 0 0, .string ⟨#[]⟩, .int .i64 1]) (by simp [results, Tryz.results42, go_sem]) rfl ?_
    rw [HANS.out]
    refine ⟨none, 0, rfl, ow_nil _ _ _ _, ?_⟩
    repeat (first | exact HB0.out _ _ | with_reducible refine Below.setCell ?_ ?_ _)
    all_goals (dsimp only; omega)
  obtain ⟨D, hDe⟩ : ∃ D, D = d.extract 0 (d.size / 2) := ⟨_, rfl⟩
  have hD : D.size ≤ 60 := by rw [hDe, ext_half]; omega
  obtain ⟨Y, E, C, hans, hpn, hfc⟩ := next_answers X D 0 a0 a1 a2 hD HX.out
  have HANS : Hid (tornAns X d = ⟨Y, ⟨#[]⟩, C⟩) := by
    show _ = _
    rw [hans]
    unfold tornAns appAns
    rw [if_neg hbig, ← hDe]
    by_cases hok : NdOk X
    · rw [if_pos ⟨hok, by omega⟩, if_pos ⟨hok, rfl, by omega⟩]
    · rw [if_neg (fun h => hok h.1), if_neg (fun h => hok h.1)]
  have hd60 : d.size ≤ 60 := by omega
  go_enter Tryz.func42, Tryz.ntmps42
  go_wp2
  have hb0 := HB0.out (.cells #[.slice A n ca] 28) (.cells #[.slice none 0 0, .string ⟨#[]⟩, .int .i64 0] 30)
  have k0 := (isBlk_new w 28 [.slice A n ca]).alloc (.cells #[.slice none 0 0, .string ⟨#[]⟩, .int .i64 0] 30)
  have k1 := isBlk_new (w.alloc (.cells #[.slice A n ca] 28)) 30 [.slice none 0 0, .string ⟨#[]⟩, .int .i64 0]
  change IsBlk ((w.alloc (.cells #[.slice A n ca] 28)).alloc (.cells #[.slice none 0 0, .string ⟨#[]⟩, .int .i64 0] 30)) _ _ _ at k0 k1
  rw [size_alloc] at k1
  generalize (w.alloc (.cells #[.slice A n ca] 28)).alloc (.cells #[.slice none 0 0, .string ⟨#[]⟩, .int .i64 0] 30) = u at hb0 k0 k1 ⊢
  have HB := Lib.hid hb0; have HK0 := Lib.hid k0; have HK2 := Lib.hid k1
  have x0 : u.cell? ⟨w.heap.size, 0, none⟩ = some (.slice A n ca) := k0.cell rfl
  have HPN : Hid (∀ W : World, Below u.heap.size u W → Calls Tryz.prog 120 #[.agg #[.slice A n ca], .string D, .int .i64 0] W (RetPN W Y E)) := fun W h => hpn A n ca W (HS.out.below (bel_step HB.out h)) (rd_step HA.out (bel_step HB.out h))
  have HFC : Hid (∀ W : World, Below u.heap.size u W → Calls Tryz.prog 78 #[E] W fun e w' => e = .returned (.int .i64 C) ∧ W = w') := fun W h => hfc W (HS.out.below (bel_step HB.out h))
  obtain ⟨m, hm⟩ : ∃ m, m = d.size / 2 := ⟨_, rfl⟩
  have hx : d.extract 0 m = D := by rw [hDe, hm]
  have hq1 : (d.size : Int).tdiv 2 = (m : Int) := by rw [hm]; rfl
  have hq2 : (d.size : Int) / 2 = (m : Int) := by rw [hm]; omega
  have hq3 : IntKind.i64.wrap (m : Int) = (m : Int) := IntWalk.i64_in _ (by omega)
  have hm0 : (0 : Int) ≤ (m : Int) := by omega
  have hm1 : (m : Int) ≤ (d.size : Int) := by omega
  have hm2 : m ≤ d.size := by omega
  have HNU : Hid (∀ W : World, Below u.heap.size u W → W.cell? ⟨w.heap.size, 0, none⟩ = some (.slice A n ca) ∧ Hid (Below u.heap.size u W)) := fun W h => ⟨(HK0.out.below h HK0.out.lt).cell rfl, h⟩
  clear hb0 k0 k1 hans hpn hfc hDe HB0 hm
  go_cut [5, 6] (fun v7 v8 wx => ∃ b lo hi A c, v7 = .pointer (some ⟨b, 0, none⟩) ∧ v8 = E ∧ NdBox u wx b lo hi A c Y)
  case first =>
    have hlt0 : w.heap.size < u.heap.size := HK0.out.lt
    go_region_held3 (fun w' => w'.cell? ⟨w.heap.size, 0, none⟩ = some (.slice A n ca) ∧ Hid (Below u.heap.size u w'))
      (first | exact hsC | exact HNU.out _ (Below.refl _ _).drew | exact HNU.out _ ((torn_of (by assumption)).alloc (torn_of (by assumption)).size _) | exact HNU.out _ HKY.out.bel)
      ((go_at_call 120
        refine (HPN.out _ ?_).mono ?_
        · first | exact (Below.refl _ _).drew | exact ((Below.refl _ _).drew).alloc (by simp) _ | exact ((Below.refl _ _).alloc (Nat.le_refl _) _).drew
        rintro e wC ⟨Aw, cw, rfl, hoC, hbC⟩
        first
        | (have hsC := HNU.out _ (((Below.refl _ _).drew).trans hbC)
           have HKY := Lib.hid (nd_last (c := cw) ((Below.refl _ _).drew) hoC hbC))
        | (have hu1 : Below u.heap.size u (u.alloc (.cells #[.slice none 0 0] 28)).drew := ((Below.refl _ _).alloc (Nat.le_refl _) _).drew
           have hsC := HNU.out _ (hu1.trans (hbC.mono hu1.size))
           have kW := (show IsBlk (u.alloc (.cells #[.slice none 0 0] 28)).drew u.heap.size 28 [.slice none 0 0] from isBlk_new u 28 [.slice none 0 0])
           have HKY := Lib.hid (nd_first (c := cw) hu1 (Nat.le_refl _) kW hoC hbC)
           obtain ⟨e0, fe0⟩ := (⟨(kW.below hbC kW.lt).cell rfl, (kW.below hbC kW.lt).free⟩ : wC.cell? ⟨u.heap.size, 0, none⟩ = some (.slice none 0 0) ∧ wC.frozen? ⟨u.heap.size, 0, none⟩ = false)
           clear kW hu1)
        clear hoC hbC))
    all_goals (go_wp2_with fail; go_meet)
    all_goals exact ⟨_, _, _, Aw, cw, rfl, rfl, HKY.out⟩
  case rest =>
    obtain ⟨b, lo, hi, A', c', rfl, rfl, hN⟩ := hcut
    have hb := hN.bel
    have HN := Lib.hid hN
    have x1 : wc.cell? ⟨b, 0, none⟩ = some (.slice A' Y.length c') := hN.blk.cell rfl
    obtain ⟨d0, d1, d2, fd0, fd1, fd2⟩ := blk3 (HK2.out.below hb HK2.out.lt)
    have hlt2 : w.heap.size + 1 < u.heap.size := HK2.out.lt
    have hub := hN.at_b
    have hne : ¬ w.heap.size + 1 = b := by omega
    have hne' : ¬ b = w.heap.size + 1 := by omega
    have HBU := Lib.hid (bel_step HB.out hb)
    have HBW : Hid (Below u.heap.size u wc.drew) := hb.drew
    clear hb hN x0 hq1 hq2 hq3 hm0 hm1 hm2 hx
    obtain ⟨yl, hyl⟩ : ∃ yl, yl = Y.length := ⟨_, rfl⟩
    rw [← hyl] at x1
    have HYL := Lib.hid hyl
    clear hyl
    go_wp2_with fail
    go_region_held3 (fun w' => w'.cell? ⟨b, 0, none⟩ = some (.slice A' yl c'))
      (first | exact x1 | go_keep)
      ((go_at_call 78
        refine (HFC.out _ HBW.out).mono ?_
        rintro e wF ⟨rfl, rfl⟩))
    all_goals
      go_wp2
      refine bodyPost_ret (v := .agg #[.slice A' yl c', .string ⟨#[]⟩, .int .i64 C]) (by simp [results, Tryz.results42, go_sem, d0, d1, d2]) rfl ?_
      exact nd_ends HN.out HBU.out (by omega) hlt2 HYL.out _ _ _ HANS.out

set_option maxHeartbeats 4000000 in
set_option maxRecDepth 100000 in
theorem spec_torn (A : Option Addr) (n ca : Nat) (X : List Bk) (d : ByteArray) (w : World) (hd : d.size ≤ 2147483648) (hX : Small X) (hA : RdBk w w.heap.size A n X) :
    Calls Tryz.prog 49 #[.agg #[.slice A n ca], .string d] w (RetAns w (tornAns X d)) := by
  have HA := Lib.hid hA; have HX := Lib.hid hX; clear hA hX
  have hb0 : Below w.heap.size w ((w.alloc (.cells #[.slice A n ca] 28)).alloc (.cells #[.slice none 0 0, .string ⟨#[]⟩, .int .i64 0] 30)) := ((Below.refl _ _).alloc (Nat.le_refl _) _).alloc (by simp) _
  have k0 := (isBlk_new w 28 [.slice A n ca]).alloc (.cells #[.slice none 0 0, .string ⟨#[]⟩, .int .i64 0] 30)
  have k1 := isBlk_new (w.alloc (.cells #[.slice A n ca] 28)) 30 [.slice none 0 0, .string ⟨#[]⟩, .int .i64 0]
  change IsBlk ((w.alloc (.cells #[.slice A n ca] 28)).alloc (.cells #[.slice none 0 0, .string ⟨#[]⟩, .int .i64 0] 30)) _ _ _ at k0 k1
  rw [size_alloc] at k1
  have HB := Lib.hid hb0; have HK0 := Lib.hid k0; have HK2 := Lib.hid k1
  clear hb0 k0 k1
  have HILL : Hid (∀ (c : Int) (w2 w3 : World) (x y z : Value), Below w.heap.size w w2 → Below w2.heap.size w2 w3 → RetAns w (ill c) (.returned (.agg #[.slice none 0 0, .string ⟨#[]⟩, .int .i64 c])) (((w3.setCell ⟨w.heap.size + 1, 0, none⟩ x).setCell ⟨w.heap.size + 1, 1, none⟩ y).setCell ⟨w.heap.size + 1, 2, none⟩ z)) := fun c w2 w3 x y z h1 h2 =>
    ⟨none, 0, rfl, ow_nil _ _ _ _, (((bel_step h1 h2).setCell (p := ⟨w.heap.size + 1, 0, none⟩) (by dsimp only; omega) _).setCell (p := ⟨w.heap.size + 1, 1, none⟩) (by dsimp only; omega) _).setCell (p := ⟨w.heap.size + 1, 2, none⟩) (by dsimp only; omega) _⟩
  by_cases hbig : 8000 < d.size
  · have HANS : Hid (tornAns X d = ill 2) := by show _ = _; unfold tornAns; rw [if_pos hbig]
    go_enter Tryz.func49, Tryz.ntmps49
    go_wp2_with fail
    generalize (w.alloc (.cells #[.slice A n ca] 28)).alloc (.cells #[.slice none 0 0, .string ⟨#[]⟩, .int .i64 0] 30) = u at *
    refine (l02Ill_any 2 u).mono ?_
    rintro e w3 ⟨rfl, hb3⟩
    obtain ⟨d0, d1, d2, fd0, fd1, fd2⟩ := blk3 (HK2.out.below hb3 HK2.out.lt)
    have HB3 := Lib.hid hb3
    clear hb3
    go_wp2
    refine bodyPost_ret (v := .agg #[.slice none 0 0, .string ⟨#[]⟩, .int .i64 2]) (by simp [results, Tryz.results49, go_sem, d0, d1, d2]) rfl ?_
    rw [HANS.out]
    exact HILL.out 2 _ _ _ _ _ HB.out HB3.out
  go_enter Tryz.func49, Tryz.ntmps49
  go_wp2_with fail
  generalize (w.alloc (.cells #[.slice A n ca] 28)).alloc (.cells #[.slice none 0 0, .string ⟨#[]⟩, .int .i64 0] 30) = u at *
  refine (spec_nandRight A n ca X u HX.out (rd_step HA.out HB.out)).mono ?_
  rintro e w2 ⟨rfl, hb2⟩
  have HB2 := Lib.hid (bel_step HB.out hb2)
  have HK02 := Lib.hid (HK0.out.below hb2 HK0.out.lt); have HK22 := Lib.hid (HK2.out.below hb2 HK2.out.lt)
  have x0 : w2.cell? ⟨w.heap.size, 0, none⟩ = some (.slice A n ca) := HK02.out.cell rfl
  clear hb2
  by_cases hok : NdOk X
  case neg =>
    have HANS : Hid (tornAns X d = ill 1) := by show _ = _; unfold tornAns; rw [if_neg hbig, if_neg (fun h => hok h.1)]
    rw [ndB_no hok]
    clear hok
    go_wp2_with fail
    refine (l02Ill_any 1 w2).mono ?_
    rintro e w3 ⟨rfl, hb3⟩
    obtain ⟨d0, d1, d2, fd0, fd1, fd2⟩ := blk3 (HK22.out.below hb3 HK22.out.lt)
    have HB3 := Lib.hid hb3
    clear hb3
    go_wp2
    refine bodyPost_ret (v := .agg #[.slice none 0 0, .string ⟨#[]⟩, .int .i64 1]) (by simp [results, Tryz.results49, go_sem, d0, d1, d2]) rfl ?_
    rw [HANS.out]
    exact HILL.out 1 _ _ _ _ _ HB2.out HB3.out
  rw [ndB_yes hok]
  by_cases h60 : 60 < d.size
  · have HANS : Hid (tornAns X d = ill 1) := by show _ = _; unfold tornAns; rw [if_neg hbig, if_neg (by omega)]
    clear hok
    go_wp2_with fail
    refine (l02Ill_any 1 w2).mono ?_
    rintro e w3 ⟨rfl, hb3⟩
    obtain ⟨d0, d1, d2, fd0, fd1, fd2⟩ := blk3 (HK22.out.below hb3 HK22.out.lt)
    have HB3 := Lib.hid hb3
    clear hb3
    go_wp2
    refine bodyPost_ret (v := .agg #[.slice none 0 0, .string ⟨#[]⟩, .int .i64 1]) (by simp [results, Tryz.results49, go_sem, d0, d1, d2]) rfl ?_
    rw [HANS.out]
    exact HILL.out 1 _ _ _ _ _ HB2.out HB3.out
  obtain ⟨D, hDe⟩ : ∃ D, D = d.extract 0 (d.size / 2) := ⟨_, rfl⟩
  have HANS : Hid (tornAns X d = putAns X 0 D) := by show _ = _; unfold tornAns; rw [if_neg hbig, if_pos ⟨hok, by omega⟩, ← hDe]
  have HPUT : Hid (∀ W : World, Below w2.heap.size w2 W → Calls Tryz.prog 125 #[.agg #[.slice A n ca], .string D, .int .i64 0] W (RetAns W (putAns X 0 D))) := fun W h => l05Append_any A n ca X D 0 W hok HX.out (rd_step HA.out (bel_step HB2.out h))
  obtain ⟨m, hm⟩ : ∃ m, m = d.size / 2 := ⟨_, rfl⟩
  have hx : d.extract 0 m = D := by rw [hDe, hm]
  have hq1 : (d.size : Int).tdiv 2 = (m : Int) := by rw [hm]; rfl
  have hq2 : (d.size : Int) / 2 = (m : Int) := by rw [hm]; omega
  have hq3 : IntKind.i64.wrap (m : Int) = (m : Int) := IntWalk.i64_in _ (by omega)
  have hm0 : (0 : Int) ≤ (m : Int) := by omega
  have hm1 : (m : Int) ≤ (d.size : Int) := by omega
  have hm2 : m ≤ d.size := by omega
  obtain ⟨d0, d1, d2, fd0, fd1, fd2⟩ := blk3 HK22.out
  have hlt2 : w.heap.size + 1 < w2.heap.size := HK22.out.lt
  clear hok hDe hm
  generalize putAns X 0 D = R at *
  go_wp2_with fail
  go_region_held3 (fun w' => w'.cell? ⟨w.heap.size, 0, none⟩ = some (.slice A n ca))
    (first | exact x0 | exact hsC | go_keep)
    ((go_at_call 125
      refine (HPUT.out _ (Below.refl _ _).drew).mono ?_
      rintro e wC ⟨Aw, cw, rfl, hoC, hbC⟩
      have hsC : wC.cell? ⟨w.heap.size, 0, none⟩ = some (.slice A n ca) := (hbC.cell (p := ⟨w.heap.size, 0, none⟩) HK02.out.lt).trans x0
      obtain ⟨e0, e1, e2, fe0, fe1, fe2⟩ := blk3 (HK22.out.below (((Below.refl _ _).drew).trans hbC) HK22.out.lt)
      have HOC : Hid (OwNd wC w2.heap.size wC.heap.size Aw R.nd.length R.nd) := hoC
      have HBC : Hid (Below w2.heap.size w2 wC) := ((Below.refl _ _).drew).trans hbC
      clear hoC hbC))
  all_goals
    have hzC := HBC.out.size
    go_wp2
    refine bodyPost_ret (v := .agg #[.slice Aw R.nd.length cw, .string R.data, .int .i64 R.code]) (by simp [results, Tryz.results49, go_sem, e0, e1, e2]) rfl ?_
    rw [HANS.out]
    refine ⟨Aw, cw, rfl, ?_, ?_⟩
    · refine (HOC.out.same fun j h1 h2 => ?_).mono (by omega) (by simp [World.setCell])
      rw [Below.heap_setCell _ _ _ _ (by dsimp only; omega), Below.heap_setCell _ _ _ _ (by dsimp only; omega), Below.heap_setCell _ _ _ _ (by dsimp only; omega)]
    · exact (((bel_step HB2.out HBC.out).setCell (p := ⟨w.heap.size + 1, 0, none⟩) (by dsimp only; omega) _).setCell (p := ⟨w.heap.size + 1, 1, none⟩) (by dsimp only; omega) _).setCell (p := ⟨w.heap.size + 1, 2, none⟩) (by dsimp only; omega) _

set_option maxHeartbeats 4000000 in
set_option maxRecDepth 100000 in
theorem spec_append (A : Option Addr) (n ca : Nat) (X : List Bk) (r : Rc) (res : Int) (w : World) (hd : r.d.size ≤ maxLen) (hX : Small X) (hA : RdBk w w.heap.size A n X) :
    Calls Tryz.prog 48 #[.agg #[.slice A n ca], recV r, .int .i64 res] w (RetAns w (appAns X (decide r.Ok) (bstr r.bytes) res)) := by
  have HA := Lib.hid hA; have HX := Lib.hid hX; clear hA hX
  have HILL : Hid (∀ (c : Int) (w2 w3 : World) (x y z : Value), Below w.heap.size w w2 → Below w2.heap.size w2 w3 → RetAns w (ill c) (.returned (.agg #[.slice none 0 0, .string ⟨#[]⟩, .int .i64 c])) (((w3.setCell ⟨w.heap.size + 1 + 1, 0, none⟩ x).setCell ⟨w.heap.size + 1 + 1, 1, none⟩ y).setCell ⟨w.heap.size + 1 + 1, 2, none⟩ z)) := fun c w2 w3 x y z h1 h2 =>
    ⟨none, 0, rfl, ow_nil _ _ _ _, (((bel_step h1 h2).setCell (p := ⟨w.heap.size + 1 + 1, 0, none⟩) (by dsimp only; omega) _).setCell (p := ⟨w.heap.size + 1 + 1, 1, none⟩) (by dsimp only; omega) _).setCell (p := ⟨w.heap.size + 1 + 1, 2, none⟩) (by dsimp only; omega) _⟩
  go_enter Tryz.func48, Tryz.ntmps48
  go_wp2_with fail
  have hb0 : Below w.heap.size w (((w.alloc (.cells #[.slice A n ca] 28)).alloc (.cells #[.int .i64 r.k, .int .i64 r.s, .int .i64 r.q, .int .i64 r.t, .int .i64 r.o, .string r.d] 68)).alloc (.cells #[.slice none 0 0, .string ⟨#[]⟩, .int .i64 0] 30)) := (((Below.refl _ _).alloc (Nat.le_refl _) _).alloc (by simp) _).alloc (by simp; omega) _
  have k0 := ((isBlk_new w 28 [.slice A n ca]).alloc (.cells #[.int .i64 r.k, .int .i64 r.s, .int .i64 r.q, .int .i64 r.t, .int .i64 r.o, .string r.d] 68)).alloc (.cells #[.slice none 0 0, .string ⟨#[]⟩, .int .i64 0] 30)
  have k1 := (isBlk_new (w.alloc (.cells #[.slice A n ca] 28)) 68 (recC r)).alloc (.cells #[.slice none 0 0, .string ⟨#[]⟩, .int .i64 0] 30)
  have k2 := isBlk_new ((w.alloc (.cells #[.slice A n ca] 28)).alloc (.cells #[.int .i64 r.k, .int .i64 r.s, .int .i64 r.q, .int .i64 r.t, .int .i64 r.o, .string r.d] 68)) 30 [.slice none 0 0, .string ⟨#[]⟩, .int .i64 0]
  change IsBlk (((w.alloc (.cells #[.slice A n ca] 28)).alloc (.cells #[.int .i64 r.k, .int .i64 r.s, .int .i64 r.q, .int .i64 r.t, .int .i64 r.o, .string r.d] 68)).alloc (.cells #[.slice none 0 0, .string ⟨#[]⟩, .int .i64 0] 30)) _ _ _ at k0 k1 k2
  rw [size_alloc] at k1
  rw [size_alloc, size_alloc] at k2
  generalize (((w.alloc (.cells #[.slice A n ca] 28)).alloc (.cells #[.int .i64 r.k, .int .i64 r.s, .int .i64 r.q, .int .i64 r.t, .int .i64 r.o, .string r.d] 68)).alloc (.cells #[.slice none 0 0, .string ⟨#[]⟩, .int .i64 0] 30)) = W at hb0 k0 k1 k2 ⊢
  refine (spec_nandRight A n ca X W HX.out (rd_step HA.out hb0)).mono ?_
  rintro e u ⟨rfl, hbu⟩
  have HB := Lib.hid (bel_step hb0 hbu)
  have HK0 := Lib.hid (k0.below hbu k0.lt); have HK1 := Lib.hid (k1.below hbu k1.lt); have HK2 := Lib.hid (k2.below hbu k2.lt)
  clear hb0 k0 k1 k2 hbu
  by_cases hok : NdOk X
  case neg =>
    have HANS : Hid (appAns X (decide r.Ok) (bstr r.bytes) res = ill 1) := by show _ = _; unfold appAns; rw [if_neg (fun h => hok h.1)]
    rw [ndB_no hok]
    clear hok
    go_wp2_with fail
    refine (l02Ill_any 1 u).mono ?_
    rintro e w3 ⟨rfl, hb3⟩
    obtain ⟨d0, d1, d2, fd0, fd1, fd2⟩ := blk3 (HK2.out.below hb3 HK2.out.lt)
    have HB3 := Lib.hid hb3
    clear hb3
    go_wp2
    refine bodyPost_ret (v := .agg #[.slice none 0 0, .string ⟨#[]⟩, .int .i64 1]) (by simp [results, Tryz.results48, go_sem, d0, d1, d2]) rfl ?_
    rw [HANS.out]
    exact HILL.out 1 _ _ _ _ _ HB.out HB3.out
  rw [ndB_yes hok]
  obtain ⟨x0, x1, x2, x3, x4, x5⟩ := rcCells HK1.out
  go_wp2_with fail
  refine (spec_recRight_any r u hd).mono ?_
  rintro e u2 ⟨rfl, hb2⟩
  have HB2 := Lib.hid (bel_step HB.out hb2)
  have HK02 := Lib.hid (HK0.out.below hb2 HK0.out.lt); have HK12 := Lib.hid (HK1.out.below hb2 HK1.out.lt); have HK22 := Lib.hid (HK2.out.below hb2 HK2.out.lt)
  clear hb2 x0 x1 x2 x3 x4 x5
  by_cases hro : r.Ok
  case neg =>
    have HANS : Hid (appAns X (decide r.Ok) (bstr r.bytes) res = ill 1) := by show _ = _; unfold appAns; rw [if_neg (fun h => by have := h.2.1; simp [hro] at this)]
    rw [decide_eq_false hro]
    clear hok hro
    go_wp2_with fail
    refine (l02Ill_any 1 u2).mono ?_
    rintro e w3 ⟨rfl, hb3⟩
    obtain ⟨d0, d1, d2, fd0, fd1, fd2⟩ := blk3 (HK22.out.below hb3 HK22.out.lt)
    have HB3 := Lib.hid hb3
    clear hb3
    go_wp2
    refine bodyPost_ret (v := .agg #[.slice none 0 0, .string ⟨#[]⟩, .int .i64 1]) (by simp [results, Tryz.results48, go_sem, d0, d1, d2]) rfl ?_
    rw [HANS.out]
    exact HILL.out 1 _ _ _ _ _ HB2.out HB3.out
  rw [decide_eq_true hro]
  go_wp2_with fail
  refine (l05Reserve_any res u2).mono ?_
  rintro e u3 ⟨rfl, rfl⟩
  by_cases hres : 0 ≤ res ∧ res ≤ 12
  case neg =>
    have HANS : Hid (appAns X (decide r.Ok) (bstr r.bytes) res = ill 1) := by show _ = _; unfold appAns; rw [if_neg (fun h => hres h.2.2)]
    rw [isB_no hres]
    clear hok hro
    go_wp2_with fail
    refine (l02Ill_any 1 u2).mono ?_
    rintro e w3 ⟨rfl, hb3⟩
    obtain ⟨d0, d1, d2, fd0, fd1, fd2⟩ := blk3 (HK22.out.below hb3 HK22.out.lt)
    have HB3 := Lib.hid hb3
    clear hb3
    go_wp2
    refine bodyPost_ret (v := .agg #[.slice none 0 0, .string ⟨#[]⟩, .int .i64 1]) (by simp [results, Tryz.results48, go_sem, d0, d1, d2]) rfl ?_
    rw [HANS.out]
    exact HILL.out 1 _ _ _ _ _ HB2.out HB3.out
  rw [isB_yes hres]
  obtain ⟨D, hDe⟩ : ∃ D, D = bstr r.bytes := ⟨_, rfl⟩
  have HANS : Hid (appAns X (decide r.Ok) (bstr r.bytes) res = putAns X res D) := by show _ = _; unfold appAns; rw [if_pos ⟨hok, decide_eq_true hro, hres⟩, ← hDe]
  have HRB : Hid (∀ W : World, Calls Tryz.prog 126 #[recV r] W fun e w' => e = .returned (.string D) ∧ Below W.heap.size W w') := fun W => by rw [hDe]; exact l03Bytes_any r W hro
  have HPUT : Hid (∀ W : World, Below u2.heap.size u2 W → Calls Tryz.prog 125 #[.agg #[.slice A n ca], .string D, .int .i64 res] W (RetAns W (putAns X res D))) := fun W h => l05Append_any A n ca X D res W hok HX.out (rd_step HA.out (bel_step HB2.out h))
  have hlt2 : w.heap.size + 1 + 1 < u2.heap.size := HK22.out.lt
  clear hok hro hres hDe
  generalize putAns X res D = R at *
  go_wp2_with fail
  go_region_held3 (fun w' => w'.cell? ⟨w.heap.size, 0, none⟩ = some (.slice A n ca) ∧ w'.cell? ⟨w.heap.size + 1, 0, none⟩ = some (.int .i64 r.k) ∧ w'.cell? ⟨w.heap.size + 1, 1, none⟩ = some (.int .i64 r.s) ∧ w'.cell? ⟨w.heap.size + 1, 2, none⟩ = some (.int .i64 r.q) ∧ w'.cell? ⟨w.heap.size + 1, 3, none⟩ = some (.int .i64 r.t) ∧
      w'.cell? ⟨w.heap.size + 1, 4, none⟩ = some (.int .i64 r.o) ∧ w'.cell? ⟨w.heap.size + 1, 5, none⟩ = some (.string r.d))
    (first | exact hsB | exact hsC | exact hsD | exact app_cells HK02.out HK12.out)
    (first
      | (go_at_call 126
         refine (HRB.out u2.drew).mono ?_
         rintro e wB ⟨rfl, hbB⟩
         have HBB : Hid (Below u2.heap.size u2 wB) := ((Below.refl _ _).drew).trans hbB
         have hsB := app_cells (HK02.out.below HBB.out HK02.out.lt) (HK12.out.below HBB.out HK12.out.lt)
         clear hbB)
      | (go_at_call 125
         refine (HPUT.out wB HBB.out).mono ?_
         rintro e wC ⟨Aw, cw, rfl, hoC, hbC⟩
         have HBC : Hid (Below u2.heap.size u2 wC) := bel_step HBB.out hbC
         have hsC := app_cells (HK02.out.below HBC.out HK02.out.lt) (HK12.out.below HBC.out HK12.out.lt)
         have hzC := HBC.out.size
         have hzB := HBB.out.size
         obtain ⟨e0, e1, e2, fe0, fe1, fe2⟩ := blk3 (HK22.out.below HBC.out HK22.out.lt)
         have HOC : Hid (OwNd wC wB.heap.size wC.heap.size Aw R.nd.length R.nd) := hoC
         have hsD := app_cells
           ((((HK02.out.below HBC.out HK02.out.lt).other (a := ⟨w.heap.size + 1 + 1, 0, none⟩) (by dsimp only; omega) (.slice Aw R.nd.length cw)).other (a := ⟨w.heap.size + 1 + 1, 1, none⟩) (by dsimp only; omega) (.string R.data)).other (a := ⟨w.heap.size + 1 + 1, 2, none⟩) (by dsimp only; omega) (.int .i64 R.code))
           ((((HK12.out.below HBC.out HK12.out.lt).other (a := ⟨w.heap.size + 1 + 1, 0, none⟩) (by dsimp only; omega) (.slice Aw R.nd.length cw)).other (a := ⟨w.heap.size + 1 + 1, 1, none⟩) (by dsimp only; omega) (.string R.data)).other (a := ⟨w.heap.size + 1 + 1, 2, none⟩) (by dsimp only; omega) (.int .i64 R.code))
         clear hoC hbC))
  all_goals
    go_wp2
    refine bodyPost_ret (v := .agg #[.slice Aw R.nd.length cw, .string R.data, .int .i64 R.code]) (by simp [results, Tryz.results48, go_sem, e0, e1, e2]) rfl ?_
    rw [HANS.out]
    refine ⟨Aw, cw, rfl, ?_, ?_⟩
    · refine (HOC.out.same fun j h1 h2 => ?_).mono (by have := HB2.out.size; omega) (by simp [World.setCell])
      rw [Below.heap_setCell _ _ _ _ (by dsimp only; omega), Below.heap_setCell _ _ _ _ (by dsimp only; omega), Below.heap_setCell _ _ _ _ (by dsimp only; omega)]
    · exact (((bel_step HB2.out HBC.out).setCell (p := ⟨w.heap.size + 1 + 1, 0, none⟩) (by dsimp only; omega) _).setCell (p := ⟨w.heap.size + 1 + 1, 1, none⟩) (by dsimp only; omega) _).setCell (p := ⟨w.heap.size + 1 + 1, 2, none⟩) (by dsimp only; omega) _
end Go.Proofs.YtfpibbhcecdbgaaGreatDoor
