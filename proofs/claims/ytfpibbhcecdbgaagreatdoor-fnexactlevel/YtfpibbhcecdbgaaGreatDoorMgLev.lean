/-
  The least and the greatest Erases, and GapOf of both. No condition.
  The full block with the least Erases, of the program.
  Coldest, of the program and of the model. No condition.
  MoveOut and Level, of the program.
  MoveOut and Level, of the model.
-/
import Derived.Test.YtfpibbhcecdbgaaGreatDoorProg
import Derived.KernelRfl
import Derived.Test.YtfpibbhcecdbgaaGreatDoorNdUse
import Derived.Test.YtfpibbhcecdbgaaGreatDoorMgGc
import Derived.BigQuiet
import Derived.Lib.QuietBelow
import Derived.Deep.RegionHeld3
import Derived.Deep.RegionLaw
namespace Go.Proofs.YtfpibbhcecdbgaaGreatDoor
open Go.RowKit

/-- the least Erases among the first blocks that are not bad: the program's -/
def wrLo (X : List Bk) : Nat → Int
  | 0 => 1000000
  | k + 1 => if (X.getD k zeroBk).bad = true then wrLo X k else if (X.getD k zeroBk).erases < wrLo X k then (X.getD k zeroBk).erases else wrLo X k
/-- the greatest -/
def wrHi (X : List Bk) : Nat → Int
  | 0 => 0
  | k + 1 => if (X.getD k zeroBk).bad = true then wrHi X k else if wrHi X k < (X.getD k zeroBk).erases then (X.getD k zeroBk).erases else wrHi X k
/-- the least: the model's -/
def wrL2 (X : List Bk) : Nat → Int
  | 0 => -1
  | k + 1 => if (X.getD k zeroBk).bad = true then wrL2 X k else if wrL2 X k < 0 ∨ (X.getD k zeroBk).erases < wrL2 X k then (X.getD k zeroBk).erases else wrL2 X k
theorem wr_inv {X : List Bk} (h : ∀ i, i < X.length → 0 ≤ (X.getD i zeroBk).erases ∧ (X.getD i zeroBk).erases ≤ 1000000) : ∀ k, k ≤ X.length → (wrL2 X k = -1 ∧ wrLo X k = 1000000 ∧ wrHi X k = 0) ∨ (0 ≤ wrL2 X k ∧ wrLo X k = wrL2 X k ∧ wrL2 X k ≤ wrHi X k ∧ wrHi X k ≤ 1000000)
  | 0, _ => .inl ⟨rfl, rfl, rfl⟩
  | k + 1, hk => by
    have ih := wr_inv h k (by omega)
    obtain ⟨e0, e1⟩ := h k (by omega)
    simp only [wrL2, wrLo, wrHi]
    generalize X.getD k zeroBk = b at *
    cases b.bad with
    | true => simpa using ih
    | false =>
      simp only [Bool.false_eq_true, if_false]
      right
      rcases ih with ⟨a, b', c⟩ | ⟨a, b', c, d⟩
      · rw [a, b', c, if_pos (by omega)]
        by_cases g : b.erases < 1000000
        · rw [if_pos g]
          by_cases g2 : 0 < b.erases
          · rw [if_pos g2]; omega
          · rw [if_neg g2]; omega
        · rw [if_neg g, if_pos (by omega)]; omega
      · rw [b']
        by_cases g : b.erases < wrL2 X k
        · rw [if_pos (.inr g), if_pos g]
          by_cases g2 : wrHi X k < b.erases
          · rw [if_pos g2]; omega
          · rw [if_neg g2]; omega
        · rw [if_neg (by omega), if_neg g]
          by_cases g2 : wrHi X k < b.erases
          · rw [if_pos g2]; omega
          · rw [if_neg g2]; omega
/-- the greatest minus the least -/
def wrGap (X : List Bk) : Int := wrHi X X.length - (if 0 ≤ wrL2 X X.length then wrL2 X X.length else 0)
theorem nd_er {X : List Bk} (h : NdOk X) : ∀ i, i < X.length → 0 ≤ (X.getD i zeroBk).erases ∧ (X.getD i zeroBk).erases ≤ 1000000 := fun i hi => by
  have := (h.2 i hi).2.1
  omega
theorem wr_impl {X : List Bk} (h : NdOk X) : (if 0 < wrHi X X.length - wrLo X X.length then wrHi X X.length - wrLo X X.length else 0) = wrGap X := by
  unfold wrGap
  rcases wr_inv (nd_er h) X.length (Nat.le_refl _) with ⟨a, b, c⟩ | ⟨a, b, c, d⟩
  · rw [a, b, c]; rfl
  · rw [b, if_pos a]
    by_cases g : 0 < wrHi X X.length - wrL2 X X.length
    · rw [if_pos g]
    · rw [if_neg g]; omega

set_option maxHeartbeats 2000000 in
set_option maxRecDepth 100000 in
theorem erasesRange_any (A : Option Addr) (n ca : Nat) (X : List Bk) (w : World) (hok : NdOk X) (hA : RdBk w w.heap.size A n X) :
    Calls Tryz.prog 91 #[.agg #[.slice A n ca]] w fun e w' => e = .returned (.tuple #[.int .i64 (wrLo X X.length), .int .i64 (wrHi X X.length)]) ∧ Below w.heap.size w w' := by
  have hl := hA.1
  have hn12 : n ≤ 12 := by rw [← hl]; exact hok.1.2
  have HER := Lib.hid (nd_er hok)
  have HIN := Lib.hid (wr_inv (nd_er hok))
  have HA := Lib.hid hA
  have HL := Lib.hid hl
  have hb0 := box_below w (.cells #[.slice A n ca] 28)
  have k0 := isBlk_new w 28 [.slice A n ca]
  change IsBlk (w.alloc (.cells #[.slice A n ca] 28)) _ _ _ at k0
  have x0 : (w.alloc (.cells #[.slice A n ca] 28)).cell? ⟨w.heap.size, 0, none⟩ = some (.slice A n ca) := k0.cell rfl
  clear hA hok hl
  go_enter Tryz.func91, Tryz.ntmps91
  go_wp2
  generalize w.alloc (.cells #[.slice A n ca] 28) = W at hb0 k0 x0 ⊢
  have HB0 := Lib.hid hb0
  clear hb0 k0
  go_loopw [4, 5, 10] (fun l g i wr => ∃ k : Nat, k ≤ n ∧ i = .int .i64 (k : Nat) ∧ l = .int .i64 (wrLo X k) ∧ g = .int .i64 (wrHi X k) ∧ wr = W) (fun _ _ i _ => n - (intOf i).toNat)
  case atStart => exact ⟨0, by omega, rfl, rfl, rfl, rfl⟩
  case round =>
    obtain ⟨k, hk, rfl, rfl, rfl, rfl⟩ := hrel
    by_cases hlt : k < n
    · obtain ⟨g, off, pA, pc, hA', hg, hc0, hc1, hc2, -⟩ := (rd_step HA.out HB0.out).at hlt
      subst hA'
      have hkl : k < X.length := by have := HL.out; omega
      have her := HER.out k hkl
      have hin := HIN.out k (by omega)
      have HLO : Hid (wrLo X (k + 1) = if (X.getD k zeroBk).bad = true then wrLo X k else if (X.getD k zeroBk).erases < wrLo X k then (X.getD k zeroBk).erases else wrLo X k) := rfl
      have HHI : Hid (wrHi X (k + 1) = if (X.getD k zeroBk).bad = true then wrHi X k else if wrHi X k < (X.getD k zeroBk).erases then (X.getD k zeroBk).erases else wrHi X k) := rfl
      generalize X.getD k zeroBk = b at *
      generalize wrLo X k = lo at *
      generalize wrHi X k = hi at *
      obtain ⟨bp, er, bad⟩ := b
      simp only at *
      cases bad with
      | true =>
        go_wp2
        go_roundw
        case rel => exact ⟨k + 1, by omega, by go_num, by first | (rw [HLO.out]; done) | (rw [HLO.out]; rfl), by first | (rw [HHI.out]; done) | (rw [HHI.out]; rfl), by first | rfl | trivial⟩
        case measure => simp [intOf]; omega
      | false =>
        simp only [Bool.false_eq_true, if_false] at HLO HHI
        go_wp2
        go_roundw
        case rel => exact ⟨k + 1, by omega, by go_num, by first | (rw [HLO.out]; done) | (rw [HLO.out]; congr 1; split <;> omega), by first | (rw [HHI.out]; done) | (rw [HHI.out]; congr 1; split <;> omega), by first | rfl | trivial⟩
        case measure => simp [intOf]; omega
    · obtain rfl : k = n := by omega
      go_wp2
      refine bodyPost_ret (v := .tuple #[.int .i64 (wrLo X k), .int .i64 (wrHi X k)]) (by simp [results, Tryz.results91, go_sem]) rfl ?_
      exact ⟨by rw [HL.out], HB0.out⟩

/-- the greatest, from none on: the model's -/
def wrH2 (X : List Bk) : Nat → Int
  | 0 => -1
  | k + 1 => if (X.getD k zeroBk).bad = true then wrH2 X k else if wrH2 X k ≤ (X.getD k zeroBk).erases then (X.getD k zeroBk).erases else wrH2 X k
theorem wr_two {X : List Bk} (h : ∀ i, i < X.length → 0 ≤ (X.getD i zeroBk).erases ∧ (X.getD i zeroBk).erases ≤ 1000000) : ∀ k, k ≤ X.length → (wrL2 X k = -1 ∧ wrH2 X k = -1 ∧ wrHi X k = 0 ∧ ∀ i, i < k → (X.getD i zeroBk).bad = true) ∨ (0 ≤ wrL2 X k ∧ wrL2 X k ≤ wrH2 X k ∧ wrH2 X k = wrHi X k ∧ wrH2 X k ≤ 1000000)
  | 0, _ => .inl ⟨rfl, rfl, rfl, fun i hi => absurd hi (by omega)⟩
  | k + 1, hk => by
    have ih := wr_two h k (by omega)
    obtain ⟨e0, e1⟩ := h k (by omega)
    simp only [wrL2, wrH2, wrHi]
    cases hb : (X.getD k zeroBk).bad with
    | true =>
      simp only [if_true]
      rcases ih with ⟨a, b, c, d⟩ | ih
      · refine .inl ⟨a, b, c, fun i hi => ?_⟩
        by_cases e : i = k
        · subst e; exact hb
        · exact d i (by omega)
      · exact .inr ih
    | false =>
      simp only [Bool.false_eq_true, if_false]
      right
      generalize (X.getD k zeroBk).erases = x at *
      rcases ih with ⟨a, b, c, d⟩ | ⟨a, b, c, d⟩
      · rw [a, b, c, if_pos (by omega), if_pos (by omega)]
        refine ⟨e0, by omega, ?_, e1⟩
        split <;> omega
      · rw [c] at b d ⊢
        refine ⟨?_, ?_, ?_, ?_⟩
        · split <;> omega
        · split <;> split <;> omega
        · split <;> split <;> omega
        · split <;> omega
theorem wr_spec {X : List Bk} (h : NdOk X) : wrH2 X X.length - wrL2 X X.length = wrGap X := by
  unfold wrGap
  rcases wr_two (nd_er h) X.length (Nat.le_refl _) with ⟨a, b, c, -⟩ | ⟨a, b, c, d⟩
  · rw [a, b, c]; rfl
  · rw [c, if_pos a]
open Classical in
/-- what GapOf answers -/
noncomputable def gapAns (X : List Bk) : Int := if NdOk X then wrGap X else 0
theorem gapAns_yes {X : List Bk} (h : NdOk X) : gapAns X = wrGap X := if_pos h
theorem gapAns_no {X : List Bk} (h : ¬ NdOk X) : gapAns X = 0 := if_neg h

theorem l01MaxE (a b : Int) (w : World) : Calls Tryz.prog 100 #[.int .i64 a, .int .i64 b] w fun e w' => e = .returned (.int .i64 (if a ≤ b then b else a)) ∧ w = w' := by
  by_cases h : a ≤ b
  · rw [if_pos h]
    have h' : b ≥ a := h
    go_enter Tryz.func100, Tryz.ntmps100
    go_wp2
    go_ret
    exact ⟨rfl, by first | rfl | trivial⟩
  · rw [if_neg h]
    have h' : b < a := by omega
    go_enter Tryz.func100, Tryz.ntmps100
    go_wp2
    go_ret
    exact ⟨rfl, by first | rfl | trivial⟩

set_option maxHeartbeats 2000000 in
set_option maxRecDepth 100000 in
theorem l11Ends_any (A : Option Addr) (n ca : Nat) (X : List Bk) (w : World) (hok : NdOk X) (hA : RdBk w w.heap.size A n X) :
    Calls Tryz.prog 88 #[.agg #[.slice A n ca]] w fun e w' => e = .returned (.tuple #[.int .i64 (wrL2 X X.length), .int .i64 (wrH2 X X.length)]) ∧ Below w.heap.size w w' := by
  have HL := Lib.hid hA.1
  have HA := Lib.hid hA
  have hn12 : n ≤ 12 := by rw [← HL.out]; exact hok.1.2
  have HER := Lib.hid (nd_er hok)
  have HIN := Lib.hid (wr_two (nd_er hok))
  have hb0 := box_below w (.cells #[.slice A n ca] 28)
  have k0 := isBlk_new w 28 [.slice A n ca]
  change IsBlk (w.alloc (.cells #[.slice A n ca] 28)) _ _ _ at k0
  clear hA hok
  go_enter Tryz.func88, Tryz.ntmps88
  go_wp2_with fail
  generalize w.alloc (.cells #[.slice A n ca] 28) = W at *
  have HB := Lib.hid hb0; have HK := Lib.hid k0
  clear hb0 k0
  go_loopw [4, 5, 6] (fun l g i wr => ∃ k : Nat, k ≤ n ∧ i = .int .i64 (k : Nat) ∧ l = .int .i64 (wrL2 X k) ∧ g = .int .i64 (wrH2 X k) ∧ Hid (Below W.heap.size W wr)) (fun _ _ i _ => n - (intOf i).toNat)
  case atStart => exact ⟨0, by omega, rfl, rfl, rfl, Below.refl _ _⟩
  case round =>
    obtain ⟨k, hk, rfl, rfl, rfl, hbr⟩ := hrel
    have HBR := Lib.hid (bel_step HB.out hbr.out)
    have y0 : wr.cell? ⟨w.heap.size, 0, none⟩ = some (.slice A n ca) := (HK.out.below hbr.out HK.out.lt).cell rfl
    by_cases hlt : k < n
    · obtain ⟨g, off, pA, pc, hA', hg, hc0, hc1, hc2, -⟩ := (rd_step HA.out HBR.out).at hlt
      subst hA'
      have hkl : k < X.length := by have := HL.out; omega
      have her := HER.out k hkl
      have hin := HIN.out k (by omega)
      have HLO : Hid (wrL2 X (k + 1) = if (X.getD k zeroBk).bad = true then wrL2 X k else if wrL2 X k < 0 ∨ (X.getD k zeroBk).erases < wrL2 X k then (X.getD k zeroBk).erases else wrL2 X k) := rfl
      have HHI : Hid (wrH2 X (k + 1) = if (X.getD k zeroBk).bad = true then wrH2 X k else if wrH2 X k ≤ (X.getD k zeroBk).erases then (X.getD k zeroBk).erases else wrH2 X k) := rfl
      generalize X.getD k zeroBk = b at *
      have hinr : wrL2 X k = -1 ∨ 0 ≤ wrL2 X k := by rcases hin with ⟨a, -⟩ | ⟨a, -⟩ <;> omega
      clear hin
      generalize wrL2 X k = lo at *
      generalize wrH2 X k = hi at *
      obtain ⟨bp, er, bad⟩ := b
      simp only at *
      cases bad with
      | true =>
        go_wp2_with fail
        go_roundw
        case rel => exact ⟨k + 1, by omega, by go_num, by first | (rw [HLO.out]; done) | (rw [HLO.out]; rfl), by first | (rw [HHI.out]; done) | (rw [HHI.out]; rfl), Lib.hid (bel_step hbr.out (box_below _ _))⟩
        case measure => simp [intOf]; omega
      | false =>
        simp only [Bool.false_eq_true, if_false] at HLO HHI
        go_wp2_with (refine (l01MaxE _ _ _).mono ?_; rintro e w1 ⟨rfl, rfl⟩)
        all_goals
          go_roundw
          case rel => exact ⟨k + 1, by omega, by go_num, by first | (rw [HLO.out]; done) | (rw [HLO.out]; congr 1; split <;> omega), by rw [HHI.out], Lib.hid (bel_step hbr.out (box_below _ _))⟩
          case measure => simp [intOf]; omega
    · obtain rfl : k = n := by omega
      go_wp2
      refine bodyPost_ret (v := .tuple #[.int .i64 (wrL2 X k), .int .i64 (wrH2 X k)]) (by simp [results, Tryz.results88, go_sem]) rfl ?_
      exact ⟨by rw [HL.out], HBR.out⟩

end Go.Proofs.YtfpibbhcecdbgaaGreatDoor

namespace Go.Proofs.YtfpibbhcecdbgaaGreatDoor
open Go.RowKit Go.Shelf Go.ChangeShapes
attribute [local go_sem] Oper.semAt_some

/-- the Erases of a block, as a size -/
noncomputable def erL (X : List Bk) (j : Nat) : Nat := (X.getD j zeroBk).erases.toNat
/-- the first block with the least size, below 1000001 -/
def cold (l : List (Int × Int)) : Int × Int := l.foldl vstep (-1, 1000001)
theorem cold_snoc (l : List (Int × Int)) (x : Int × Int) : cold (l ++ [x]) = vstep (cold l) x := by simp [cold]
theorem cold_stays {l rest : List (Int × Int)} (h : (cold l).2 = 0) (hr : ∀ x ∈ rest, 0 ≤ x.2) : cold (l ++ rest) = cold l := by
  have : ∀ (rest : List (Int × Int)) (s : Int × Int), s.2 = 0 → (∀ x ∈ rest, 0 ≤ x.2) → rest.foldl vstep s = s := by
    intro rest
    induction rest with
    | nil => intro s _ _; rfl
    | cons a l ih =>
      intro s hs ha
      have e : vstep s a = s := by unfold vstep; rw [if_neg (by have := ha a (by simp); omega)]
      rw [List.foldl_cons, e]
      exact ih s hs (fun x hx => ha x (by simp [hx]))
  unfold cold at *
  rw [List.foldl_append]
  exact this rest _ h hr
theorem gby_belowC {W W' : World} (h : Below W.heap.size W W') : W.grownBy W' none := ⟨h.os, h.tape, h.output, h.size, fun k hk _ => h.block k hk⟩

set_option maxHeartbeats 1000000 in
theorem isNaNL_any (x : Int) (w : World) : Calls Tryz.prog 254 #[.int .i64 x] w fun e w' => e = .returned (.bool false) ∧ w' = w := by
  go_enter Tryz.func254, Tryz.ntmps254
  go_wp2
  go_ret
  exact ⟨by simp, rfl⟩
set_option maxHeartbeats 1000000 in
theorem compareL_any (x y : Int) (w : World) : Calls Tryz.prog 216 #[.int .i64 x, .int .i64 y] w fun e w' => e = .returned (.int .i64 (cmpI x y)) ∧ w' = w := by
  have HC : Hid (cmpI x y = if x < y then -1 else if x > y then 1 else 0) := Lib.hid rfl
  generalize cmpI x y = r at HC ⊢
  go_enter Tryz.func216, Tryz.ntmps216
  go_wp2_with fail
  refine (isNaNL_any x w).mono ?_
  rintro e w1 ⟨rfl, rfl⟩
  go_wp2_with fail
  refine (isNaNL_any y w1).mono ?_
  rintro e w2 ⟨rfl, rfl⟩
  by_cases h1 : x < y
  · have h1' : decide (x < y) = true := decide_eq_true h1
    have HR : Hid (r = -1) := by show _ = _; rw [HC.out, if_pos h1]
    clear HC
    go_wp2
    go_ret
    exact ⟨by rw [HR.out]; rfl, rfl⟩
  · have h1' : decide (x < y) = false := decide_eq_false h1
    by_cases h2 : x > y
    · have h2' : decide (y < x) = true := decide_eq_true h2
      have HR : Hid (r = 1) := by show _ = _; rw [HC.out, if_neg h1, if_pos h2]
      clear HC
      go_wp2
      go_ret
      exact ⟨by rw [HR.out]; rfl, rfl⟩
    · have h2' : decide (y < x) = false := decide_eq_false h2
      have HR : Hid (r = 0) := by show _ = _; rw [HC.out, if_neg h1, if_neg h2]
      clear HC
      go_wp2
      go_ret
      exact ⟨by rw [HR.out]; rfl, rfl⟩
/-- what the iterator reads: all of it below block n₀ -/
structure FC (w : World) (n₀ b1 b2 b3 : Nat) (A : Option Addr) (N ca : Nat) (X : List Bk) : Prop where
  c1 : w.cell? ⟨b1, 0, none⟩ = some (.slice A N ca)
  l1 : b1 < n₀
  c2 : w.cell? ⟨b2, 0, none⟩ = some (.func (.func 164) #[] #[.pointer (some ⟨b3, 0, none⟩)])
  l2 : b2 < n₀
  c3 : w.cell? ⟨b3, 0, none⟩ = some (.slice A N ca)
  l3 : b3 < n₀
  rd : RdBk w n₀ A N X
theorem FC.below {w w' : World} {n₀ b1 b2 b3 : Nat} {A : Option Addr} {N ca : Nat} {X : List Bk} (h : FC w n₀ b1 b2 b3 A N ca X) (hb : Below n₀ w w') : FC w' n₀ b1 b2 b3 A N ca X :=
  ⟨(hb.cell (p := ⟨b1, 0, none⟩) h.l1).trans h.c1, h.l1, (hb.cell (p := ⟨b2, 0, none⟩) h.l2).trans h.c2, h.l2, (hb.cell (p := ⟨b3, 0, none⟩) h.l3).trans h.c3, h.l3, h.rd.below hb⟩
/-- the size of a block: its Erases -/
theorem erasesOf_any (b3 N ca j n₀ : Nat) (A : Option Addr) (X : List Bk) (W : World) (hc : W.cell? ⟨b3, 0, none⟩ = some (.slice A N ca)) (hr : RdBk W n₀ A N X) (hj : j < N) (he : 0 ≤ (X.getD j zeroBk).erases) :
    Calls Tryz.prog 164 #[.int .i64 (j : Nat), .pointer (some ⟨b3, 0, none⟩)] W fun e w' => e = .returned (.int .i64 (erL X j : Nat)) ∧ w' = W := by
  obtain ⟨g', off, pA, pc, rfl, hg, hc0, hc1, hc2, hpg⟩ := hr.at hj
  have HE : Hid (((erL X j : Nat) : Int) = (X.getD j zeroBk).erases) := Int.toNat_of_nonneg he
  rw [← HE.out] at hc1
  clear hr hpg hc0 hc2 he
  have hjN : (j : Int) < (N : Int) := by omega
  go_enter Tryz.func164, Tryz.ntmps164
  go_wp2
  go_ret
  exact ⟨rfl, rfl⟩

set_option maxRecDepth 100000 in
set_option maxHeartbeats 4000000 in
theorem cold1_in (n : Nat) (l b1 b2 b3 n₀ : Nat) (A : Option Addr) (N ca : Nat) (X : List Bk) (J Jx : List (Int × Int) → World → Prop) (W : World) (hn : 1 ≤ n) (hok : NdOk X) (hJ : AbidesFrom W.heap.size J)
    (hY : ∀ pre x W1, J pre W1 → pre.length < 48 → YieldAt Fence.wide (n - 1) Tryz.prog l #[.int .i64 x.1, .int .i64 x.2] W1 fun e W' =>
      (e = .returned (.bool true) ∧ J (pre ++ [x]) W' ∧ Below n₀ W1 W') ∨ (e = .returned (.bool false) ∧ Jx (pre ++ [x]) W'))
    (hn₀ : n₀ ≤ W.heap.size) (hF : FC W n₀ b1 b2 b3 A N ca X) (h0 : J [] W) :
    CallsIn Fence.wide n Tryz.prog 228 #[.func (.yield l) #[] #[], .pointer (some ⟨b1, 0, none⟩), .pointer (some ⟨b2, 0, none⟩)] W fun e W' => (∃ v, e = .returned v) ∧
      ((∃ ys, ys = fulls X (erL X) N ∧ J ys W') ∨ (∃ pre, (∃ rest, pre ++ rest = fulls X (erL X) N) ∧ Jx pre W')) := by
  have hNL : N = X.length := hF.rd.1.symm
  have hN12 : N ≤ 12 := by rw [hNL]; exact hok.1.2
  have HNL := Lib.hid hNL
  have HOK := Lib.hid hok; have HF := Lib.hid hF
  have hcb := hF.c1
  clear hF hok hNL
  refine callsIn_of_wp Tryz.func228 rfl trivial ?_ rfl
  simp only [Tryz.ntmps228, List.size_toArray, List.length_cons, List.length_nil, Nat.reduceAdd, Nat.reduceSub, Array.replicate_succ, Array.replicate_zero, List.push_toArray, List.append_toArray, List.nil_append, List.cons_append]
  gi_wp2
  clear hcb
  gi_loopw [8] (fun iv wr => ∃ k : Nat, iv = .int .i64 (k : Nat) ∧ k ≤ N ∧ FC wr n₀ b1 b2 b3 A N ca X ∧ W.heap.size ≤ wr.heap.size ∧ J (fulls X (erL X) k) wr) (fun iv _ => N - (intOf iv).toNat)
  case atStart => exact ⟨0, rfl, Nat.zero_le _, HF.out, Nat.le_refl _, h0⟩
  case round =>
    obtain ⟨k, rfl, hk, hfb, hsz, hJp⟩ := hrel
    have HFB := Lib.hid hfb; have HJ := Lib.hid hJp
    have hcs := hfb.c1
    clear hfb hJp
    by_cases hlt : k < N
    · obtain ⟨g', off, pA, pc, rfl, hg, hc0, hc1, hc2, hpg⟩ := HFB.out.rd.at hlt
      have hkl : k < X.length := by rw [← HNL.out]; exact hlt
      have HPG := Lib.hid (hpg.mono (Nat.le_trans hn₀ hsz))
      have HBO := Lib.hid (HOK.out.2 k hkl)
      have HERk : Hid (0 ≤ (X.getD k zeroBk).erases) := (nd_er HOK.out k hkl).1
      have HYES := Lib.hid (fun h => fulls_yes (X := X) (L := erL X) (k := k) h); have HNO := Lib.hid (fun h => fulls_no (X := X) (L := erL X) (k := k) h)
      have HPRE := Lib.hid (fulls_pre X (erL X) (k := k + 1) (N := N) (by omega))
      have hlen : (fulls X (erL X) k).length < 48 := by have := fulls_len X (erL X) k; omega
      have hFBd : fulB (X.getD k zeroBk) = decide ((X.getD k zeroBk).bad = false ∧ uPre (X.getD k zeroBk).pages = 4) := rfl
      rw [hFBd] at HYES HNO
      clear hFBd hpg
      generalize X.getD k zeroBk = b at hc0 hc1 hc2 HPG HBO HYES HNO
      obtain ⟨ps, er, bd⟩ := b
      simp only at hc0 hc1 hc2 HPG HYES HNO
      obtain ⟨pa, pb, pc', pd, rfl⟩ := four_of_length HBO.out.1
      gi_wp2_with fail
      refine ⟨trivial, ?_⟩
      refine (callsIn_wide.2 (isFull_any pA pc pa pb pc' pd er bd wr HPG.out)).mono ?_
      rintro e w3 ⟨rfl, hb3⟩
      have HFB3 := Lib.hid (HFB.out.below (hb3.mono (Nat.le_trans hn₀ hsz)))
      have HJ3 : Hid (J (fulls X (erL X) k) w3) := hJ _ wr w3 none HJ.out (gby_belowC hb3) (fun r e => by cases e)
      have hsz3 : W.heap.size ≤ w3.heap.size := Nat.le_trans hsz hb3.size
      have x2 := HFB3.out.c2
      clear hb3 hcs hc0 hc1 hc2
      generalize decide (bd = false ∧ uPre [pa, pb, pc', pd] = 4) = full at *
      cases full with
      | false =>
        have HT := Lib.hid (HNO.out rfl)
        clear HYES HNO
        gi_wp2
        refine ⟨fun _ h => (by cases h), ?_⟩
        gi_wp2
        refine ⟨fun _ h => (by cases h), ?_⟩
        gi_wp2
        go_roundw
        case rel => exact ⟨k + 1, by go_num, by omega, HFB3.out, hsz3, by rw [HT.out]; exact HJ3.out⟩
        case measure => simp [intOf]; omega
      | true =>
        have HT := Lib.hid (HYES.out rfl)
        obtain ⟨fn, tmps, assign, body, hy, hRo⟩ := hY _ ((k : Int), (erL X k : Int)) _ HJ3.out hlen
        clear HYES HNO
        gi_wp2_with fail
        refine ⟨trivial, ?_⟩
        refine (callsIn_wide.2 (erasesOf_any b3 N ca k n₀ _ X w3 HFB3.out.c3 HFB3.out.rd hlt HERk.out)).mono ?_
        rintro e w4 ⟨rfl, rfl⟩
        gi_wp2
        refine hRo.mono ?_
        rintro e w7 (⟨rfl, hJ7, hk7⟩ | ⟨rfl, hJx7⟩)
        · have HFB7 := Lib.hid (HFB3.out.below hk7)
          have hsz7 : W.heap.size ≤ w7.heap.size := Nat.le_trans hsz3 hk7.size
          have HJ7 := Lib.hid hJ7
          clear hJ7 hk7
          gi_wp2
          go_roundw
          case rel => exact ⟨k + 1, by go_num, by omega, HFB7.out, hsz7, by rw [HT.out]; exact HJ7.out⟩
          case measure => simp [intOf]; omega
        · gi_wp2
          refine bodyPost_ret (results_none rfl _ _ _) rfl ?_
          exact ⟨⟨_, rfl⟩, .inr ⟨_, by rw [← HT.out]; exact HPRE.out, hJx7⟩⟩
    · obtain rfl : k = N := by omega
      gi_wp2
      refine bodyPost_end (results_none rfl _ _ _) rfl ?_
      exact ⟨⟨_, rfl⟩, .inl ⟨_, rfl, HJ.out⟩⟩
theorem cold_stops (n : Nat) (hn : 1 ≤ n) (b1 b2 b3 n₀ : Nat) (A : Option Addr) (N ca : Nat) (X : List Bk) (w : World) (hok : NdOk X) (hn₀ : n₀ ≤ w.heap.size) (hF : FC w n₀ b1 b2 b3 A N ca X) :
    SeqStopsK Fence.wide n Tryz.prog 228 #[.pointer (some ⟨b1, 0, none⟩), .pointer (some ⟨b2, 0, none⟩)] (fun r : Int × Int => #[.int .i64 r.1, .int .i64 r.2]) (Below n₀) (fun ys => ys = fulls X (erL X) N) (fun pre => ∃ rest, pre ++ rest = fulls X (erL X) N) 48 w :=
  fun l J Jx W hW hJ _ hY h0 => cold1_in n l b1 b2 b3 n₀ A N ca X J Jx W hn hok hJ (fun pre x W1 h1 h2 => hY pre x W1 h1 h2) (Nat.le_trans hn₀ hW.size) (hF.below (hW.mono hn₀)) h0

theorem fullBlocksC_any (A : Option Addr) (n ca b3 : Nat) (w : World) :
    Calls Tryz.prog 166 #[.agg #[.slice A n ca], .func (.func 164) #[] #[.pointer (some ⟨b3, 0, none⟩)]] w fun e w' =>
      e = .returned (.func (.func 228) #[] #[.pointer (some ⟨w.heap.size, 0, none⟩), .pointer (some ⟨w.heap.size + 1, 0, none⟩)]) ∧ w' = (w.alloc (.cells #[.slice A n ca] 28)).alloc (.cells #[.func (.func 164) #[] #[.pointer (some ⟨b3, 0, none⟩)]] 56) := by
  go_enter Tryz.func166, Tryz.ntmps166
  go_wp2
  go_ret
  exact ⟨rfl, rfl⟩

set_option maxRecDepth 100000 in
set_option maxHeartbeats 4000000 in
theorem leastCold_any (b1 b2 b3 : Nat) (A : Option Addr) (N ca : Nat) (X : List Bk) (w : World) (hok : NdOk X) (hF : FC w w.heap.size b1 b2 b3 A N ca X) :
    Calls Tryz.prog 165 #[.func (.func 228) #[] #[.pointer (some ⟨b1, 0, none⟩), .pointer (some ⟨b2, 0, none⟩)], .int .i64 1000001, .int .i64 0] w fun e w' => e = .returned (.int .i64 (cold (fulls X (erL X) N)).1) ∧ Below w.heap.size w w' := by
  have HF := Lib.hid hF; have HOK := Lib.hid hok
  clear hF hok
  refine (callsIn_wide (n := 3)).1 ?_
  refine callsIn_of_wp_marks Tryz.func165 rfl trivial ?_ rfl
  simp only [Tryz.ntmps165, List.size_toArray, List.length_cons, List.length_nil, Nat.reduceAdd, Nat.reduceSub, Array.replicate_succ, Array.replicate_zero, List.push_toArray, List.append_toArray, List.nil_append, List.cons_append]
  gi_wp2
  refine wpIn_wide.2 (wp_scope_straight ((wpIn_wide (n := 3)).1 ?_))
  gi_wp2
  have bM := ((Boxed.new w 2 (.int .i64 0)).alloc (.cells #[.int .i64 (-1)] 2)).alloc (.cells #[.int .i64 1000001] 2)
  have bL := (Boxed.new (w.alloc (.cells #[.int .i64 0] 2)) 2 (.int .i64 (-1))).alloc (.cells #[.int .i64 1000001] 2)
  have bS := Boxed.new ((w.alloc (.cells #[.int .i64 0] 2)).alloc (.cells #[.int .i64 (-1)] 2)) 2 (.int .i64 1000001)
  have hB0 : Below w.heap.size w (((w.alloc (.cells #[.int .i64 0] 2)).alloc (.cells #[.int .i64 (-1)] 2)).alloc (.cells #[.int .i64 1000001] 2)) := (((Below.refl _ _).alloc (Nat.le_refl _) _).alloc (by simp) _).alloc (by simp; omega) _
  have hsW : (((w.alloc (.cells #[.int .i64 0] 2)).alloc (.cells #[.int .i64 (-1)] 2)).alloc (.cells #[.int .i64 1000001] 2)).heap.size = w.heap.size + 3 := by simp
  simp only [World.size_alloc] at bL bS
  change Code.wpIn _ _ _ _ _ _ (((w.alloc (.cells #[.int .i64 0] 2)).alloc (.cells #[.int .i64 (-1)] 2)).alloc (.cells #[.int .i64 1000001] 2))
  generalize ((w.alloc (.cells #[.int .i64 0] 2)).alloc (.cells #[.int .i64 (-1)] 2)).alloc (.cells #[.int .i64 1000001] 2) = W0 at bM bL bS hB0 hsW ⊢
  refine wpIn_label ?_
  gi_wp2
  have hF0 := HF.out.below hB0
  refine wpIn_rangeFunc_ownH rfl (by omega) (gf := 228) (lb := #[.pointer (some ⟨b1, 0, none⟩), .pointer (some ⟨b2, 0, none⟩)]) rfl trivial (enters_of Tryz.func228 (by kernel_rfl) rfl)
    (cold_stops _ (by omega) b1 b2 b3 w.heap.size A N ca X W0 HOK.out (by omega) hF0) (fun h k => Below.trans h k) (fun W l o o' hl h h1 h2 => belowK_b (by omega) W l o o' hl h h1 h2) (Below.refl _ _) (fun _ => rfl)
    (fun pre W => (Boxed W w.heap.size 2 (.int .i64 0) ∧ Boxed W (w.heap.size + 1) 2 (.int .i64 (cold pre).1) ∧ Boxed W (w.heap.size + 1 + 1) 2 (.int .i64 (cold pre).2)) ∧ (Below w.heap.size w W ∧ W0.heap.size ≤ W.heap.size))
    (fun c pre W => c = .exit 0 ∧ (cold pre).2 = 0 ∧ (Boxed W (w.heap.size + 1) 2 (.int .i64 (cold pre).1)) ∧ (Below w.heap.size w W ∧ W0.heap.size ≤ W.heap.size))
    (OwnFrom.and (fun s A' B' row hs hg hr => by
      obtain ⟨h1, h2, h3⟩ := hs
      refine ⟨h1.kept hg (fun e => ?_), h2.kept hg (fun e => ?_), h3.kept hg (fun e => ?_)⟩ <;> (have := (hr _ e.symm).1; omega)) (OwnFrom.and (ownFrom_below (Nat.le_refl _) (by omega)) (fun _ _ _ _ hs hg _ => Nat.le_trans hs hg.size)))
    (fun c => ?ix)
    ⟨⟨bM, bL, bS⟩, hB0, Nat.le_refl _⟩
    (fun x a' W => a' = { tmps := #[.func (.func 228) #[] #[.pointer (some ⟨b1, 0, none⟩), .pointer (some ⟨b2, 0, none⟩)], .int .i64 1000001, .int .i64 0, undef, undef, .pointer (some ⟨w.heap.size, 0, none⟩), .int .i64 0, .pointer (some ⟨w.heap.size + 1, 0, none⟩), .pointer (some ⟨w.heap.size + 1 + 1, 0, none⟩), .int .i64 x.1, .int .i64 x.2, .int .i64 1000001, .func (.func 228) #[] #[.pointer (some ⟨b1, 0, none⟩), .pointer (some ⟨b2, 0, none⟩)], .int .i64 x.1, .int .i64 x.2, undef, undef, undef, undef, undef, undef, undef, undef, undef, undef, undef, undef, undef], defers := [] })
    (fun x a' _ X' Y row hs hg hr => hs)
    ?assign ?body ?done ?stop
  case ix =>
    intro s A' B' row hs hg hr
    obtain ⟨h0, h1, h2, h3, h4⟩ := hs
    exact ⟨h0, h1, h2.kept hg (fun e => by have := (hr _ e.symm).1; omega), (ownFrom_below (β := Unit) (w₀ := w) (Nat.le_refl _) (B := W0.heap.size) (by omega)) () A' B' row h3 hg hr, Nat.le_trans h4 hg.size⟩
  case assign =>
    rintro l pre x W K ⟨⟨h1, h2, h3⟩, hB, hz⟩ hK
    gi_wp2
    exact hK _ _ (KeepsFrom.refl _ _) (Below.refl _ _) ⟨⟨h1, h2, h3⟩, hB, hz⟩ rfl
  case body =>
    rintro l pre x a' W hl ⟨r, hr⟩ ⟨⟨h1, h2, h3⟩, hB, hz⟩ rfl hlt
    have c1 := h1.cell; have c2 := h2.cell; have c3 := h3.cell
    have f2 := h2.frozen; have f3 := h3.frozen
    have HV := Lib.hid (cold_snoc pre x)
    have HI := Lib.hid (And.intro h1 (And.intro h2 h3)); have HB := Lib.hid hB
    have hW3 : w.heap.size + 1 + 1 < W.heap.size := h3.lt
    gi_wp2_with fail
    refine ⟨trivial, ?_⟩
    refine (CallsIn.inRound l (callsIn_wide.2 (compareL_any x.2 (cold pre).2 W))).mono ?_
    rintro e w3 ⟨rfl, rfl⟩
    have HST : Hid (vstep (cold pre) x = if x.2 < (cold pre).2 then x else cold pre) := Lib.hid rfl
    have HCM : Hid (cmpI x.2 (cold pre).2 = if x.2 < (cold pre).2 then -1 else if x.2 > (cold pre).2 then 1 else 0) := Lib.hid rfl
    clear h1 h2 h3 hB
    obtain ⟨x1, x2⟩ := x
    simp only at *
    by_cases hc : x2 < (cold pre).2
    · have HT : Hid (cold (pre ++ [(x1, x2)]) = (x1, x2)) := by show _ = _; rw [HV.out, HST.out, if_pos hc]
      rw [HCM.out, if_pos hc]
      have HB2 := Lib.hid ((HB.out.setCell (p := ⟨w.heap.size + 1, 0, none⟩) (by dsimp only; omega) (.int .i64 x1)).setCell (p := ⟨w.heap.size + 1 + 1, 0, none⟩) (by dsimp only; omega) (.int .i64 x2))
      have HM2 : Hid (Boxed ((w3.setCell ⟨w.heap.size + 1, 0, none⟩ (.int .i64 x1)).setCell ⟨w.heap.size + 1 + 1, 0, none⟩ (.int .i64 x2)) w.heap.size 2 (.int .i64 0)) := ((Below.heap_setCell _ _ _ _ (by dsimp only; omega)).trans (Below.heap_setCell _ _ _ _ (by dsimp only; omega))).trans HI.out.1
      have HL2 : Hid (Boxed ((w3.setCell ⟨w.heap.size + 1, 0, none⟩ (.int .i64 x1)).setCell ⟨w.heap.size + 1 + 1, 0, none⟩ (.int .i64 x2)) (w.heap.size + 1) 2 (.int .i64 x1)) := (Below.heap_setCell _ _ _ _ (by dsimp only; omega)).trans (HI.out.2.1.set _)
      have hS1 : Boxed (w3.setCell ⟨w.heap.size + 1, 0, none⟩ (.int .i64 x1)) (w.heap.size + 1 + 1) 2 (.int .i64 (cold pre).2) := (Below.heap_setCell _ ⟨w.heap.size + 1, 0, none⟩ _ _ (by dsimp only; omega)).trans HI.out.2.2
      have HS2 : Hid (Boxed ((w3.setCell ⟨w.heap.size + 1, 0, none⟩ (.int .i64 x1)).setCell ⟨w.heap.size + 1 + 1, 0, none⟩ (.int .i64 x2)) (w.heap.size + 1 + 1) 2 (.int .i64 x2)) := hS1.set _
      have hz2 : W0.heap.size ≤ ((w3.setCell ⟨w.heap.size + 1, 0, none⟩ (.int .i64 x1)).setCell ⟨w.heap.size + 1 + 1, 0, none⟩ (.int .i64 x2)).heap.size := by simp [World.setCell]; omega
      have HK2 := Lib.hid (((KeepsOthers.setCell w3 ⟨w.heap.size + 1, 0, none⟩ (.int .i64 x1)).trans (KeepsOthers.setCell _ ⟨w.heap.size + 1 + 1, 0, none⟩ (.int .i64 x2))).from W0.heap.size)
      have HP2 : Hid (Below w.heap.size w3 ((w3.setCell ⟨w.heap.size + 1, 0, none⟩ (.int .i64 x1)).setCell ⟨w.heap.size + 1 + 1, 0, none⟩ (.int .i64 x2))) := ((Below.refl _ _).setCell (p := ⟨w.heap.size + 1, 0, none⟩) (by dsimp only; omega) _).setCell (p := ⟨w.heap.size + 1 + 1, 0, none⟩) (by dsimp only; omega) _
      clear HV HST HCM HI HB hS1
      by_cases h0 : x2 = 0
      · subst h0
        gi_wp2
        refine ⟨HK2.out, rfl, ?_, ?_, HB2.out, hz2⟩
        · rw [HT.out]
        · rw [HT.out]; exact HL2.out
      · have h0' : (x2 == 0) = false := by simpa using h0
        gi_wp2
        refine ⟨HK2.out, HP2.out, ⟨HM2.out, ?_, ?_⟩, HB2.out, hz2⟩
        · rw [HT.out]; exact HL2.out
        · rw [HT.out]; exact HS2.out
    · have HT : Hid (cold (pre ++ [(x1, x2)]) = cold pre) := by show _ = _; rw [HV.out, HST.out, if_neg hc]
      rw [HCM.out, if_neg hc]
      by_cases hd : x2 > (cold pre).2
      · rw [if_pos hd]
        clear HV HST HCM hc hd
        gi_wp2
        exact ⟨KeepsFrom.refl _ _, Below.refl _ _, by dsimp only; rw [HT.out]; exact ⟨HI.out, HB.out, hz⟩⟩
      · rw [if_neg hd]
        clear HV HST HCM hc hd
        gi_wp2
        exact ⟨KeepsFrom.refl _ _, Below.refl _ _, by dsimp only; rw [HT.out]; exact ⟨HI.out, HB.out, hz⟩⟩
  case done =>
    rintro Dd xs W hD rfl ⟨⟨h1, h2, h3⟩, hB, hz⟩ hK
    have c2 := h2.cell
    have hlD : Dd < W.heap.size := lt_of_block hK
    gi_wp2
    refine ⟨by simp, .inl ⟨_, _, rfl, run_takeDeferred hK, ?_⟩⟩
    refine ⟨_, results_tmp rfl _ _ _, ?_⟩
    exact ⟨rfl, hB.trans (belowK_b (w := w) (Nat.le_refl _) W Dd _ _ (by omega) hK rfl rfl)⟩
  case stop =>
    rintro Dd c pre W hD ⟨rest, hrest⟩ ⟨rfl, h0, h2, hB, hz⟩ hK
    have HV : Hid (cold (fulls X (erL X) N) = cold pre) := by
      show _ = _
      rw [← hrest]
      exact cold_stays h0 (fun x hx => fulls_nonneg X (erL X) N x (by rw [← hrest]; exact List.mem_append.2 (.inr hx)))
    have c2 := h2.cell
    gi_wp2
    refine ⟨by simp, .inl ⟨_, _, rfl, run_takeDeferred hK, ?_⟩⟩
    refine ⟨_, results_tmp rfl _ _ _, ?_⟩
    rw [HV.out]
    exact ⟨rfl, hB.trans (belowK_b (w := w) (Nat.le_refl _) W Dd _ _ (by omega) hK rfl rfl)⟩
end Go.Proofs.YtfpibbhcecdbgaaGreatDoor

namespace Go.Proofs.YtfpibbhcecdbgaaGreatDoor
open Go.RowKit

/-- the coldest block among the first ones: the model's -/
noncomputable def coldS (X : List Bk) : Nat → Int
  | 0 => -1
  | k + 1 => if fulB (X.getD k zeroBk) = true ∧ (coldS X k < 0 ∨ (X.getD k zeroBk).erases < (X.getD (coldS X k).toNat zeroBk).erases) then (k : Int) else coldS X k
theorem below_drewNC {B : Nat} {a b : World} (h : Below B a b) (k : Nat) : Below B a (b.drewN k) := ⟨h.os, h.tape, h.output, h.size, h.block⟩
theorem coldS_no {X : List Bk} {k : Nat} (h : fulB (X.getD k zeroBk) = false) : coldS X (k + 1) = coldS X k := by rw [coldS, if_neg (fun h' => by rw [h] at h'; exact absurd h'.1 (by simp))]
theorem coldS_new {X : List Bk} {k : Nat} (h : fulB (X.getD k zeroBk) = true) (h2 : coldS X k < 0 ∨ (X.getD k zeroBk).erases < (X.getD (coldS X k).toNat zeroBk).erases) : coldS X (k + 1) = (k : Int) := by rw [coldS, if_pos ⟨h, h2⟩]
theorem coldS_old {X : List Bk} {k : Nat} (h2 : ¬ (coldS X k < 0 ∨ (X.getD k zeroBk).erases < (X.getD (coldS X k).toNat zeroBk).erases)) : coldS X (k + 1) = coldS X k := by rw [coldS, if_neg (fun h' => h2 h'.2)]
theorem coldS_is {X : List Bk} (h : ∀ i, i < X.length → 0 ≤ (X.getD i zeroBk).erases ∧ (X.getD i zeroBk).erases ≤ 1000000) : ∀ k, k ≤ X.length →
    (coldS X k = -1 ∧ cold (fulls X (erL X) k) = (-1, 1000001)) ∨ (∃ b : Nat, b < k ∧ coldS X k = (b : Int) ∧ cold (fulls X (erL X) k) = ((b : Int), (erL X b : Int)) ∧ fulB (X.getD b zeroBk) = true)
  | 0, _ => .inl ⟨rfl, rfl⟩
  | k + 1, hk => by
    have ih := coldS_is h k (by omega)
    obtain ⟨e0, e1⟩ := h k (by omega)
    have ek : (erL X k : Int) = (X.getD k zeroBk).erases := Int.toNat_of_nonneg e0
    cases hf : fulB (X.getD k zeroBk) with
    | false =>
      rw [coldS_no hf, fulls_no hf]
      rcases ih with ih | ⟨b, h1, h2⟩
      · exact .inl ih
      · exact .inr ⟨b, by omega, h2⟩
    | true =>
      rw [fulls_yes hf, cold_snoc]
      rcases ih with ⟨h1, h2⟩ | ⟨b, h1, h2, h3, h4⟩
      · rw [coldS_new hf (.inl (by omega)), h2]
        refine .inr ⟨k, by omega, rfl, ?_, hf⟩
        unfold vstep
        rw [if_pos (by dsimp only; omega)]
      · obtain ⟨b0, b1⟩ := h b (by omega)
        have eb : (erL X b : Int) = (X.getD b zeroBk).erases := Int.toNat_of_nonneg b0
        by_cases hlt : (X.getD k zeroBk).erases < (X.getD b zeroBk).erases
        · rw [coldS_new hf (.inr (by rw [h2]; exact hlt)), h3]
          refine .inr ⟨k, by omega, rfl, ?_, hf⟩
          unfold vstep
          rw [if_pos (by dsimp only; omega)]
        · rw [coldS_old (by rw [h2]; simp only [Int.toNat_natCast]; omega), h3, h2]
          refine .inr ⟨b, by omega, rfl, ?_, h4⟩
          unfold vstep
          rw [if_neg (by dsimp only; omega)]
open Classical in
/-- what Coldest answers -/
noncomputable def coldAns (X : List Bk) : Int := if NdOk X then coldS X X.length else -1
theorem coldAns_yes {X : List Bk} (h : NdOk X) : coldAns X = coldS X X.length := if_pos h
theorem coldAns_no {X : List Bk} (h : ¬ NdOk X) : coldAns X = -1 := if_neg h
theorem coldS_impl {X : List Bk} (h : NdOk X) : (cold (fulls X (erL X) X.length)).1 = coldS X X.length := by
  rcases coldS_is (nd_er h) X.length (Nat.le_refl _) with ⟨a, b⟩ | ⟨b, -, h2, h3, -⟩
  · rw [a, b]
  · rw [h2, h3]
theorem coldS_range {X : List Bk} (h : NdOk X) : ∀ k, k ≤ X.length → coldS X k = -1 ∨ (∃ b : Nat, b < k ∧ coldS X k = (b : Int) ∧ fulB (X.getD b zeroBk) = true) := fun k hk => by
  rcases coldS_is (nd_er h) k hk with ⟨a, -⟩ | ⟨b, h1, h2, -, h4⟩
  · exact .inl a
  · exact .inr ⟨b, h1, h2, h4⟩

set_option maxHeartbeats 2000000 in
set_option maxRecDepth 100000 in
theorem impl_coldest (A : Option Addr) (n ca : Nat) (X : List Bk) (w : World) (hX : Small X) (hA : RdBk w w.heap.size A n X) :
    Calls Tryz.prog 90 #[.agg #[.slice A n ca]] w fun e w' => e = .returned (.int .i64 (coldAns X)) ∧ Below w.heap.size w w' := by
  have HA := Lib.hid hA; have HX := Lib.hid hX; have HL := Lib.hid hA.1; clear hA hX
  go_enter Tryz.func90, Tryz.ntmps90
  go_wp2_with fail
  refine (impl_nandRight A n ca X _ HX.out (rd_step HA.out (box_below w (.cells #[.slice A n ca] 28)))).mono ?_
  rintro e w2 ⟨rfl, hb2⟩
  have HB2 := Lib.hid (bel_step (box_below w (.cells #[.slice A n ca] 28)) hb2)
  have k2 := (isBlk_new w 28 [.slice A n ca]).below hb2 (by show w.heap.size < (w.alloc _).heap.size; simp)
  have hx2 : w2.cell? ⟨w.heap.size, 0, none⟩ = some (.slice A n ca) := k2.cell rfl
  have hl2 := k2.lt
  clear hb2 k2
  by_cases hok : NdOk X
  · rw [ndB_yes hok]
    have HC := Lib.hid (coldAns_yes hok); have HCI := Lib.hid (coldS_impl hok); have HOK := Lib.hid hok
    clear hok
    go_wp2_with fail
    refine (fullBlocksC_any A n ca w.heap.size w2).mono ?_
    rintro e w3 ⟨rfl, hw3⟩
    have hb3 : Below w2.heap.size w2 w3 := by rw [hw3]; exact ((Below.refl _ _).alloc (Nat.le_refl _) _).alloc (by simp) _
    have k1 := (isBlk_new w2 28 [.slice A n ca]).alloc (.cells #[.func (.func 164) #[] #[.pointer (some ⟨w.heap.size, 0, none⟩)]] 56)
    have k2 := isBlk_new (w2.alloc (.cells #[.slice A n ca] 28)) 56 [.func (.func 164) #[] #[.pointer (some ⟨w.heap.size, 0, none⟩)]]
    rw [size_alloc] at k2
    have k1 : IsBlk w3 w2.heap.size 28 [.slice A n ca] := by rw [hw3]; exact k1
    have k2 : IsBlk w3 (w2.heap.size + 1) 56 [.func (.func 164) #[] #[.pointer (some ⟨w.heap.size, 0, none⟩)]] := by rw [hw3]; exact k2
    have HB3 := Lib.hid (bel_step HB2.out hb3)
    have hFC : FC w3 w3.heap.size w2.heap.size (w2.heap.size + 1) w.heap.size A n ca X :=
      ⟨k1.cell rfl, k1.lt, k2.cell rfl, k2.lt, (hb3.cell (p := ⟨w.heap.size, 0, none⟩) hl2).trans hx2, Nat.lt_of_lt_of_le hl2 hb3.size, rd_step HA.out HB3.out⟩
    have HFC := Lib.hid hFC
    clear hFC k1 k2 hw3 hb3
    go_wp2_with fail
    refine (leastCold_any w2.heap.size (w2.heap.size + 1) w.heap.size A n ca X w3 HOK.out HFC.out).mono ?_
    rintro e w4 ⟨rfl, hb4⟩
    have HB4 := Lib.hid (bel_step HB3.out hb4)
    clear hb4
    rw [show fulls X (erL X) n = fulls X (erL X) X.length by rw [HL.out], HCI.out]
    go_wp2
    go_ret
    exact ⟨ret_i HC.out.symm, HB4.out⟩
  · rw [ndB_no hok]
    have HC := Lib.hid (coldAns_no hok)
    clear hok
    go_wp2
    go_ret
    exact ⟨ret_i HC.out.symm, HB2.out⟩

set_option maxHeartbeats 2000000 in
set_option maxRecDepth 100000 in
theorem l11Cold_any (A : Option Addr) (n ca : Nat) (X : List Bk) (w : World) (hok : NdOk X) (hA : RdBk w w.heap.size A n X) :
    Calls Tryz.prog 87 #[.agg #[.slice A n ca]] w fun e w' => e = .returned (.int .i64 (coldS X X.length)) ∧ Below w.heap.size w w' := by
  have HL := Lib.hid hA.1
  have HA := Lib.hid hA
  have hn12 : n ≤ 12 := by rw [← HL.out]; exact hok.1.2
  have HER := Lib.hid (nd_er hok); have HOK := Lib.hid hok
  have HRG := Lib.hid (coldS_range hok)
  have hb0 := box_below w (.cells #[.slice A n ca] 28)
  have k0 := isBlk_new w 28 [.slice A n ca]
  change IsBlk (w.alloc (.cells #[.slice A n ca] 28)) _ _ _ at k0
  clear hA hok
  go_enter Tryz.func87, Tryz.ntmps87
  go_wp2_with fail
  generalize w.alloc (.cells #[.slice A n ca] 28) = W at *
  have HB := Lib.hid hb0; have HK := Lib.hid k0
  clear hb0 k0
  go_loopw [3, 4] (fun kv iv wr => ∃ k : Nat, k ≤ n ∧ iv = .int .i64 (k : Nat) ∧ kv = .int .i64 (coldS X k) ∧ Hid (Below W.heap.size W wr)) (fun _ i _ => n - (intOf i).toNat)
  case atStart => exact ⟨0, by omega, rfl, rfl, Below.refl _ _⟩
  case round =>
    obtain ⟨k, hk, rfl, rfl, hbr⟩ := hrel
    have HBR := Lib.hid (bel_step HB.out hbr.out)
    have y0 : wr.cell? ⟨w.heap.size, 0, none⟩ = some (.slice A n ca) := (HK.out.below hbr.out HK.out.lt).cell rfl
    by_cases hlt : k < n
    · have hRD := rd_step HA.out HBR.out
      obtain ⟨g, off, pA, pc, hA', hg, hc0, hc1, hc2, hpg⟩ := hRD.at hlt
      subst hA'
      have hkl : k < X.length := by have := HL.out; omega
      have hlen := (HOK.out.2 k hkl).1
      have HNU := Lib.hid (nUsed_ok (HOK.out.2 k hkl))
      have HPG := Lib.hid hpg
      have HNO : Hid (fulB (X.getD k zeroBk) = false → coldS X (k + 1) = coldS X k) := coldS_no
      have HNEW : Hid (fulB (X.getD k zeroBk) = true → (coldS X k < 0 ∨ (X.getD k zeroBk).erases < (X.getD (coldS X k).toNat zeroBk).erases) → coldS X (k + 1) = (k : Int)) := coldS_new
      have HOLD : Hid (¬ (coldS X k < 0 ∨ (X.getD k zeroBk).erases < (X.getD (coldS X k).toNat zeroBk).erases) → coldS X (k + 1) = coldS X k) := coldS_old
      have hFBd : fulB (X.getD k zeroBk) = decide ((X.getD k zeroBk).bad = false ∧ uPre (X.getD k zeroBk).pages = 4) := rfl
      have hrg := HRG.out k (by omega)
      rw [hFBd] at HNO HNEW
      have HRD := Lib.hid hRD
      clear hFBd hpg hRD
      generalize X.getD k zeroBk = b at hc0 hc1 hc2 hlen HNU HPG HNO HNEW HOLD
      obtain ⟨ps, er, bd⟩ := b
      simp only at hc0 hc1 hc2 hlen HPG HNO HNEW HOLD HNU
      rw [hlen] at hc0 HPG
      have hu4 : uPre ps ≤ 4 := by rw [← hlen]; exact uPre_le ps
      clear hlen
      obtain ⟨z, hz⟩ : ∃ z, z = coldS X k := ⟨_, rfl⟩
      rw [← hz] at hrg HNO HNEW HOLD ⊢
      have HZ : Hid (∀ l : Nat, z = (l : Int) → l < k → wr.cell? ⟨g, off + l * 3 + 1, none⟩ = some (.int .i64 (X.getD l zeroBk).erases)) := fun l _ hl => by
        obtain ⟨g', off', -, -, hA', -, -, e1, -, -⟩ := HRD.out.at (show l < n by omega)
        cases hA'; exact e1
      have hk0 : (0 : Int) ≤ (k : Int) := by omega
      have hkn : (k : Int) < (n : Int) := by omega
      have hbx := box_below wr (.cells #[.slice pA 4 pc, .int .i64 er, .bool bd] 98)
      have kx := isBlk_new wr 98 [.slice pA 4 pc, .int .i64 er, .bool bd]
      have HBX := Lib.hid hbx; have HKX := Lib.hid kx
      clear hz hbx kx
      go_wp2_with fail
      change Code.wp _ _ _ _ (wr.alloc (.cells #[.slice pA 4 pc, .int .i64 er, .bool bd] 98))
      change Hid (IsBlk (wr.alloc (.cells #[.slice pA 4 pc, .int .i64 er, .bool bd] 98)) _ _ _) at HKX
      have y0x : (wr.alloc (.cells #[.slice pA 4 pc, .int .i64 er, .bool bd] 98)).cell? ⟨w.heap.size, 0, none⟩ = some (.slice (some ⟨g, off, none⟩) n ca) := (HBX.out.cell (p := ⟨w.heap.size, 0, none⟩) (World.block_lt_of_cell? _ _ y0)).trans y0
      have HZX : Hid (∀ l : Nat, z = (l : Int) → l < k → (wr.alloc (.cells #[.slice pA 4 pc, .int .i64 er, .bool bd] 98)).cell? ⟨g, off + l * 3 + 1, none⟩ = some (.int .i64 (X.getD l zeroBk).erases)) := fun l h1 h2 => by
        have h3 := HZ.out l h1 h2
        exact (HBX.out.cell (p := ⟨g, off + l * 3 + 1, none⟩) (World.block_lt_of_cell? _ _ h3)).trans h3
      have HPGX : Hid (RdPg (wr.alloc (.cells #[.slice pA 4 pc, .int .i64 er, .bool bd] 98)) (wr.alloc (.cells #[.slice pA 4 pc, .int .i64 er, .bool bd] 98)).heap.size pA 4 ps) := (HPG.out.below HBX.out).mono HBX.out.size
      have HWX : Hid (Below W.heap.size W (wr.alloc (.cells #[.slice pA 4 pc, .int .i64 er, .bool bd] 98))) := bel_step hbr.out HBX.out
      clear HZ HPG HBX hc0 hc1 hc2 y0 hbr
      generalize wr.alloc (.cells #[.slice pA 4 pc, .int .i64 er, .bool bd] 98) = wx at *
      obtain ⟨x0, x1, x2, -, -, -⟩ := blk3 HKX.out
      cases bd with
      | true =>
        have HT := Lib.hid (HNO.out (by simp))
        clear HNO HNEW HOLD hrg HZX
        go_quiet (fail)
        go_wp2
        go_roundw
        case rel => exact ⟨k + 1, by omega, by go_num, by rw [HT.out], Lib.hid (below_drewNC HWX.out _)⟩
        case measure => simp [intOf]; omega
      | false =>
        have y0' := cell_regrown y0x; have x0' := cell_regrown x0; have x1' := cell_regrown x1; have x2' := cell_regrown x2
        by_cases hu : uPre ps = 4
        case neg =>
          have HT := Lib.hid (HNO.out (by simp [hu]))
          have HUS : Hid (∃ u : Nat, nUsed ps = u ∧ ((u : Int) == 4) = false) := ⟨nUsed ps, rfl, by rw [HNU.out]; simp; omega⟩
          obtain ⟨u, hu1, hu2⟩ := HUS.out
          have HU1 := Lib.hid hu1
          clear HNO HNEW HOLD HUS hrg hu1 hu HZX
          refine wp_region_quiet_below (by kernel_rfl) (by kernel_rfl) ?_
          repeat (go_big_quiet_step ((go_at_call 73; exact Calls.regrown_of ((l02Used_any _ _ _ ps _ _ _ (by omega) ((HPGX.out.below (below_regrown _ _ _)).mono (below_regrown _ _ _).size)).mono (fun e w' h => by rw [HU1.out] at h; exact h)))))
          refine wpQuiet_nil ?_
          intro w3 hw'
          have HB3 : Hid (Below wx.heap.size wx w3) := by obtain ⟨⟨dq, osq⟩, rfl⟩ := hw'; exact below_regrown wx dq osq
          clear hw' y0' x0' x1' x2' y0x x0 x1 x2
          go_wp2
          go_roundw
          case rel => exact ⟨k + 1, by omega, by go_num, by rw [HT.out], Lib.hid (bel_step HWX.out HB3.out)⟩
          case measure => simp [intOf]; omega
        have HU0 : Hid (nUsed ps = 4) := by show _ = _; rw [HNU.out, hu]
        have HNEW' : Hid ((z < 0 ∨ er < (X.getD z.toNat zeroBk).erases) → coldS X (k + 1) = (k : Int)) := HNEW.out (by simp [hu])
        clear hu HNU HNO HNEW
        rcases hrg with hz | ⟨l, hlk, rfl, -⟩
        · subst hz
          have HT := Lib.hid (HNEW'.out (.inl (by decide)))
          clear HNEW' HOLD HZX
          refine wp_region_quiet_below (by kernel_rfl) (by kernel_rfl) ?_
          repeat (go_big_quiet_step ((go_at_call 73; exact Calls.regrown_of ((l02Used_any _ _ _ ps _ _ _ (by omega) ((HPGX.out.below (below_regrown _ _ _)).mono (below_regrown _ _ _).size)).mono (fun e w' h => by rw [HU0.out] at h; exact h)))))
          refine wpQuiet_nil ?_
          intro w3 hw'
          have HB3 : Hid (Below wx.heap.size wx w3) := by obtain ⟨⟨dq, osq⟩, rfl⟩ := hw'; exact below_regrown wx dq osq
          clear hw' y0' x0' x1' x2' y0x x0 x1 x2
          go_wp2
          go_roundw
          case rel => exact ⟨k + 1, by omega, by go_num, by rw [HT.out], Lib.hid (bel_step HWX.out HB3.out)⟩
          case measure => simp [intOf]; omega
        · have hl3 := HZX.out l rfl hlk
          rw [show ((l : Int)).toNat = l from rfl] at HNEW' HOLD
          generalize (X.getD l zeroBk).erases = el at hl3 HNEW' HOLD
          have hl3' := cell_regrown hl3
          have hne : decide ((l : Int) < 0) = false := by simp
          have hl0 : (0 : Int) ≤ (l : Int) := by omega
          have hln : (l : Int) < (n : Int) := by omega
          clear HZX
          by_cases hlt2 : er < el
          · have HT := Lib.hid (HNEW'.out (.inr hlt2))
            clear HNEW' HOLD
            refine wp_region_quiet_below (by kernel_rfl) (by kernel_rfl) ?_
            repeat (go_big_quiet_step ((go_at_call 73; exact Calls.regrown_of ((l02Used_any _ _ _ ps _ _ _ (by omega) ((HPGX.out.below (below_regrown _ _ _)).mono (below_regrown _ _ _).size)).mono (fun e w' h => by rw [HU0.out] at h; exact h)))))
            refine wpQuiet_nil ?_
            intro w3 hw'
            have HB3 : Hid (Below wx.heap.size wx w3) := by obtain ⟨⟨dq, osq⟩, rfl⟩ := hw'; exact below_regrown wx dq osq
            clear hw' y0' x0' x1' x2' y0x x0 x1 x2 hl3 hl3'
            go_wp2
            go_roundw
            case rel => exact ⟨k + 1, by omega, by go_num, by rw [HT.out], Lib.hid (bel_step HWX.out HB3.out)⟩
            case measure => simp [intOf]; omega
          · have HT := Lib.hid (HOLD.out (by omega))
            have hlt3 : decide (er < el) = false := by simpa using hlt2
            clear HNEW' HOLD
            refine wp_region_quiet_below (by kernel_rfl) (by kernel_rfl) ?_
            repeat (go_big_quiet_step ((go_at_call 73; exact Calls.regrown_of ((l02Used_any _ _ _ ps _ _ _ (by omega) ((HPGX.out.below (below_regrown _ _ _)).mono (below_regrown _ _ _).size)).mono (fun e w' h => by rw [HU0.out] at h; exact h)))))
            refine wpQuiet_nil ?_
            intro w3 hw'
            have HB3 : Hid (Below wx.heap.size wx w3) := by obtain ⟨⟨dq, osq⟩, rfl⟩ := hw'; exact below_regrown wx dq osq
            clear hw' y0' x0' x1' x2' y0x x0 x1 x2 hl3 hl3'
            go_wp2
            go_roundw
            case rel => exact ⟨k + 1, by omega, by go_num, by rw [HT.out], Lib.hid (bel_step HWX.out HB3.out)⟩
            case measure => simp [intOf]; omega
    · obtain rfl : k = n := by omega
      clear HRG
      go_wp2
      go_ret
      exact ⟨ret_i (by rw [HL.out]), HBR.out⟩

end Go.Proofs.YtfpibbhcecdbgaaGreatDoor

namespace Go.Proofs.YtfpibbhcecdbgaaGreatDoor
open Go.RowKit
open Bt (Rc)

/-- the code with which a block cannot be moved out of -/
noncomputable def mvCode (b : Bk) : Int := if b.bad = true then 11 else if uPre b.pages = 4 then 0 else 10
/-- what MoveOut answers -/
noncomputable def movAns (X : List Bk) (b steps : Int) : NdAns :=
  if blkCode X b ≠ 0 then ill (blkCode X b) else if mntCode X ≠ 0 then ill (mntCode X) else if mvCode (X.getD b.toNat zeroBk) ≠ 0 then ill (mvCode (X.getD b.toNat zeroBk))
  else gcRun X (ldOf X b (pruneOf (mntList X))) steps b
theorem movAns_blk {X : List Bk} {b steps : Int} (h : blkCode X b ≠ 0) : movAns X b steps = ill (blkCode X b) := by unfold movAns; rw [if_pos h]
theorem movAns_code {X : List Bk} {b steps : Int} (h0 : blkCode X b = 0) (h : mntCode X ≠ 0) : movAns X b steps = ill (mntCode X) := by unfold movAns; rw [if_neg (by rw [h0]; simp), if_pos h]
theorem movAns_state {X : List Bk} {b steps : Int} (h0 : blkCode X b = 0) (h1 : mntCode X = 0) (h : mvCode (X.getD b.toNat zeroBk) ≠ 0) : movAns X b steps = ill (mvCode (X.getD b.toNat zeroBk)) := by
  unfold movAns; rw [if_neg (by rw [h0]; simp), if_neg (by rw [h1]; simp), if_pos h]
theorem movAns_run {X : List Bk} {b steps : Int} (h0 : blkCode X b = 0) (h1 : mntCode X = 0) (h : mvCode (X.getD b.toNat zeroBk) = 0) : movAns X b steps = gcRun X (ldOf X b (pruneOf (mntList X))) steps b := by
  unfold movAns; rw [if_neg (by rw [h0]; simp), if_neg (by rw [h1]; simp), if_neg (by rw [h]; simp)]

theorem movAns_data (X : List Bk) (b steps : Int) : (movAns X b steps).data = ⟨#[]⟩ := by
  unfold movAns
  split
  · rfl
  · split
    · rfl
    · split
      · rfl
      · exact gcRun_data _ _ _ _

set_option maxHeartbeats 1000000 in
set_option maxRecDepth 100000 in
theorem moveCode_any (A : Option Addr) (ca : Nat) (a b c d : Pg) (er : Int) (bad : Bool) (w : World) (hA : RdPg w w.heap.size A 4 [a, b, c, d]) :
    Calls Tryz.prog 79 #[.agg #[.slice A 4 ca, .int .i64 er, .bool bad]] w fun e w' => e = .returned (.int .i64 (mvCode ⟨[a, b, c, d], er, bad⟩)) ∧ Below w.heap.size w w' := by
  have HA := Lib.hid hA; clear hA
  have hb0 := box_below w (.cells #[.slice A 4 ca, .int .i64 er, .bool bad] 98)
  have k0 := isBlk_new w 98 [.slice A 4 ca, .int .i64 er, .bool bad]
  change IsBlk (w.alloc (.cells #[.slice A 4 ca, .int .i64 er, .bool bad] 98)) _ _ _ at k0
  obtain ⟨x0, x1, x2, -, -, -⟩ := blk3 k0
  cases bad with
  | true =>
    have HC : Hid (mvCode ⟨[a, b, c, d], er, true⟩ = 11) := if_pos rfl
    go_enter Tryz.func79, Tryz.ntmps79
    go_wp2
    go_ret
    exact ⟨ret_i HC.out.symm, hb0⟩
  | false =>
    have HC : Hid (mvCode ⟨[a, b, c, d], er, false⟩ = if uPre [a, b, c, d] = 4 then 0 else 10) := if_neg (by simp)
    have HB0 := Lib.hid hb0
    clear hb0 k0
    go_enter Tryz.func79, Tryz.ntmps79
    go_wp2_with fail
    refine (isFull_any A ca a b c d er false _ (((HA.out).below HB0.out).mono HB0.out.size)).mono ?_
    rintro e w3 ⟨rfl, hb3⟩
    have HB3 := Lib.hid (bel_step HB0.out hb3)
    clear hb3
    by_cases hu : uPre [a, b, c, d] = 4
    · rw [if_pos hu] at HC
      have hd : decide (false = false ∧ uPre [a, b, c, d] = 4) = true := by simp [hu]
      rw [hd]
      clear hd hu
      go_wp2
      go_ret
      exact ⟨ret_i HC.out.symm, HB3.out⟩
    · rw [if_neg hu] at HC
      have hd : decide (false = false ∧ uPre [a, b, c, d] = 4) = false := by simp [hu]
      rw [hd]
      clear hd hu
      go_wp2
      go_ret
      exact ⟨ret_i HC.out.symm, HB3.out⟩
theorem mv_three {u w' : World} {b0 b1 lo hi : Nat} {e0 e1 : TypeId} {A B : Option Addr} {m c k d : Nat} (h0 : IsBlk u b0 e0 [.slice A m c]) (h1 : IsBlk u b1 e1 [.slice B k d]) (l0 : b0 < lo) (l1 : hi ≤ b1) (hbt : Btw lo hi u w') :
    w'.cell? ⟨b0, 0, none⟩ = some (.slice A m c) ∧ w'.cell? ⟨b1, 0, none⟩ = some (.slice B k d) ∧ Hid (Btw lo hi u w') :=
  ⟨IsBlk.cell (show IsBlk w' b0 e0 [.slice A m c] from (hbt.block b0 h0.lt (.inl l0)).trans h0) rfl, IsBlk.cell (show IsBlk w' b1 e1 [.slice B k d] from (hbt.block b1 h1.lt (.inr l1)).trans h1) rfl, hbt⟩
theorem mv_of {u w' : World} {b0 b1 lo hi : Nat} {A B : Option Addr} {m c k d : Nat} (h : w'.cell? ⟨b0, 0, none⟩ = some (.slice A m c) ∧ w'.cell? ⟨b1, 0, none⟩ = some (.slice B k d) ∧ Hid (Btw lo hi u w')) : Btw lo hi u w' := h.2.2.out

set_option maxHeartbeats 8000000 in
set_option maxRecDepth 100000 in
theorem impl_moveOut (A : Option Addr) (n ca : Nat) (X : List Bk) (bi steps : Int) (a0 a1 a2 : Addr) (w : World) (hG : ErrType w) (hS : Sents w a0 a1 a2) (hX : Small X) (hA : RdBk w w.heap.size A n X) (hst : steps ≤ 9223372036854775807) :
    Calls Tryz.prog 13 #[.agg #[.slice A n ca], .int .i64 bi, .int .i64 steps] w (RetAns w (movAns X bi steps)) := by
  have HL := Lib.hid hA.1
  have HA := Lib.hid hA; have HX := Lib.hid hX; have HS := Lib.hid hS; have HG := Lib.hid hG; clear hA hX hS hG
  go_enter Tryz.func13, Tryz.ntmps13
  go_wp2_with fail
  have hb0 : Below w.heap.size w ((w.alloc (.cells #[.slice A n ca] 28)).alloc (.cells #[.slice none 0 0, .string ⟨#[]⟩, .int .i64 0] 30)) := ((Below.refl _ _).alloc (Nat.le_refl _) _).alloc (by simp) _
  have k0 := (isBlk_new w 28 [.slice A n ca]).alloc (.cells #[.slice none 0 0, .string ⟨#[]⟩, .int .i64 0] 30)
  have k1 := isBlk_new (w.alloc (.cells #[.slice A n ca] 28)) 30 [.slice none 0 0, .string ⟨#[]⟩, .int .i64 0]
  change IsBlk ((w.alloc (.cells #[.slice A n ca] 28)).alloc (.cells #[.slice none 0 0, .string ⟨#[]⟩, .int .i64 0] 30)) _ _ _ at k0 k1
  rw [size_alloc] at k1
  generalize (w.alloc (.cells #[.slice A n ca] 28)).alloc (.cells #[.slice none 0 0, .string ⟨#[]⟩, .int .i64 0] 30) = W0 at hb0 k0 k1 ⊢
  refine (impl_blockCode A n ca X bi W0 HX.out (rd_step HA.out hb0)).mono ?_
  rintro e W ⟨rfl, hbW⟩
  have k0 := k0.below hbW k0.lt
  have k1 := k1.below hbW k1.lt
  have hb0 := bel_step hb0 hbW
  clear hbW
  by_cases hbc : blkCode X bi = 0
  case neg =>
    have HC := Lib.hid (movAns_blk (steps := steps) hbc)
    have hne : (blkCode X bi == 0) = false := by simpa using hbc
    obtain ⟨d0, d1, d2, fd0, fd1, fd2⟩ := blk3 k1
    have HB := Lib.hid hb0
    clear hb0 k0 k1
    generalize blkCode X bi = bc at *
    go_wp2
    refine bodyPost_ret (v := .agg #[.slice none 0 0, .string ⟨#[]⟩, .int .i64 bc]) (by simp [results, Tryz.results13, go_sem, d0, d1, d2]) rfl ?_
    rw [HC.out]
    exact ⟨none, 0, rfl, ow_nil _ _ _ _, ((HB.out.setCell (p := ⟨w.heap.size + 1, 0, none⟩) (by dsimp only; omega) _).setCell (p := ⟨w.heap.size + 1, 1, none⟩) (by dsimp only; omega) _).setCell (p := ⟨w.heap.size + 1, 2, none⟩) (by dsimp only; omega) _⟩
  have HBC := Lib.hid hbc
  rw [hbc]
  clear hbc
  have hxW : W.cell? ⟨w.heap.size, 0, none⟩ = some (.slice A n ca) := k0.cell rfl
  go_wp2_with fail
  refine (mounted_any A n ca X a0 a2 W (HG.out.below hb0) (HS.out.two.below hb0) HX.out (rd_step HA.out hb0)).mono ?_
  rintro e w2 ⟨Ar, cr, rfl, hcr, ho2, hb2⟩
  have hI := error_iface
  have HB3 := Lib.hid ((bel_step hb0 hb2).alloc (bel_step hb0 hb2).size (.cells #[.slice Ar (mntList X).length cr] 60))
  have HK3 := Lib.hid ((k0.below hb2 k0.lt).alloc (.cells #[.slice Ar (mntList X).length cr] 60))
  have HR3 := Lib.hid ((k1.below hb2 k1.lt).alloc (.cells #[.slice Ar (mntList X).length cr] 60))
  have HH3 := Lib.hid (isBlk_new w2 60 [.slice Ar (mntList X).length cr])
  have HO3 := Lib.hid (ho2.below (box_below w2 (.cells #[.slice Ar (mntList X).length cr] 60)) (Nat.le_refl _))
  have hs3 := size_alloc w2 (.cells #[.slice Ar (mntList X).length cr] 60)
  have HCR := Lib.hid hcr
  have hW2 := hb2.size
  have hwW : w.heap.size + 1 < W.heap.size := k1.lt
  clear hb0 k0 k1 hb2 ho2 hcr hxW
  change Hid (IsBlk (w2.alloc (.cells #[.slice Ar (mntList X).length cr] 60)) _ _ _) at HH3
  rcases mnt_codes X with h | h | h
  · have HZ := Lib.hid h
    rw [h, errOf_0]
    clear h
    have HOK := Lib.hid (mnt_zero HZ.out).1
    obtain ⟨-, bn, rfl, hbl⟩ := blkCode_zero HBC.out
    have hbnn : bn < n := by have := HL.out; omega
    have HSQ := Lib.hid (mnt_seqs HZ.out); have HSM := Lib.hid (mnt_smallL HZ.out)
    have HST := Lib.hid (fun hv => movAns_state (steps := steps) HBC.out HZ.out hv); have HRUN := Lib.hid (fun hv => movAns_run (steps := steps) HBC.out HZ.out hv)
    have HLR := Lib.hid (ld_right HZ.out (bn : Int))
    have hl48 := Nat.le_trans (Nat.le_trans (ldOf_len X (bn : Int) (pruneOf (mntList X))) (pruneOf_len (mntList X))) (mntList_len X)
    have hn : n ≤ 12 := by have := HOK.out.1.2; have := HL.out; omega
    rw [show ((bn : Int)).toNat = bn from rfl] at HST HRUN
    clear HZ
    generalize mntList X = Y at *
    have hx3 : (w2.alloc (.cells #[.slice Ar Y.length cr] 60)).cell? ⟨w.heap.size, 0, none⟩ = some (.slice A n ca) := HK3.out.cell rfl
    have hb0 : (0 : Int) ≤ (bn : Int) := by omega
    have hb1 : (bn : Int) < (n : Int) := by omega
    obtain ⟨g0, off, pA, pc, hA', hg, hc0, hc1, hc2, hpg⟩ := (rd_step HA.out HB3.out).at hbnn
    have HBO := Lib.hid (HOK.out.2 bn hbl)
    have HPG := Lib.hid hpg
    clear hpg
    generalize X.getD bn zeroBk = b at hc0 hc1 hc2 HPG HBO HST HRUN
    obtain ⟨ps, er, bd⟩ := b
    simp only at hc0 hc1 hc2 HPG
    obtain ⟨pa, pb, pc', pd, rfl⟩ := four_of_length HBO.out.1
    clear HBO
    subst hA'
    go_wp2_with fail
    change Calls _ _ _ (w2.alloc (.cells #[.slice Ar Y.length cr] 60)) _
    generalize w2.alloc (.cells #[.slice Ar Y.length cr] 60) = w3 at HB3 HK3 HR3 HH3 HO3 hs3 hx3 hc0 hc1 hc2 HPG ⊢
    refine (moveCode_any pA pc pa pb pc' pd er bd w3 HPG.out).mono ?_
    rintro e w4 ⟨rfl, hb4⟩
    have HB4 := Lib.hid (bel_step HB3.out hb4)
    have HK4 := Lib.hid (HK3.out.below hb4 HK3.out.lt); have HR4 := Lib.hid (HR3.out.below hb4 HR3.out.lt)
    have HH4 := Lib.hid (IsBlk.below (g := w2.heap.size) HH3.out hb4 (by omega))
    have HO4 := Lib.hid (HO3.out.below hb4 (by omega))
    have h34 := hb4.size
    clear hb4 hx3 hc0 hc1 hc2 HPG HK3 HR3 HH3 HO3 hI
    by_cases hmc : mvCode ⟨[pa, pb, pc', pd], er, bd⟩ = 0
    case neg =>
      have HC := Lib.hid (HST.out hmc)
      have hne : (mvCode ⟨[pa, pb, pc', pd], er, bd⟩ == 0) = false := by simpa using hmc
      obtain ⟨d0, d1, d2, fd0, fd1, fd2⟩ := blk3 HR4.out
      clear HST HRUN
      generalize mvCode ⟨[pa, pb, pc', pd], er, bd⟩ = mc at *
      go_wp2
      refine bodyPost_ret (v := .agg #[.slice none 0 0, .string ⟨#[]⟩, .int .i64 mc]) (by simp [results, Tryz.results13, go_sem, d0, d1, d2]) rfl ?_
      rw [HC.out]
      exact ⟨none, 0, rfl, ow_nil _ _ _ _, ((HB4.out.setCell (p := ⟨w.heap.size + 1, 0, none⟩) (by dsimp only; omega) _).setCell (p := ⟨w.heap.size + 1, 1, none⟩) (by dsimp only; omega) _).setCell (p := ⟨w.heap.size + 1, 2, none⟩) (by dsimp only; omega) _⟩
    have HC := Lib.hid (HRUN.out hmc)
    rw [hmc]
    clear hmc HST HRUN
    have hlt0 : w.heap.size < w4.heap.size := HK4.out.lt
    have hlt1 : w.heap.size + 1 < w4.heap.size := HR4.out.lt
    have hlt2 : w2.heap.size < w4.heap.size := HH4.out.lt
    obtain ⟨lb, hlb⟩ : ∃ lb, lb = (ldOf X (bn : Int) (pruneOf Y)).length := ⟨_, rfl⟩
    have HLB := Lib.hid hlb
    rw [← hlb] at hl48
    clear hlb
    have HD4 : Hid (Below w4.heap.size w4 w4.drew) := (Below.refl _ _).drew
    have HB4d := Lib.hid (bel_step HB4.out HD4.out)
    go_wp2
    have hx4 : w4.cell? ⟨w.heap.size, 0, none⟩ = some (.slice (some ⟨g0, off, none⟩) n ca) := HK4.out.cell rfl
    have hh4 : w4.cell? ⟨w2.heap.size, 0, none⟩ = some (.slice Ar Y.length cr) := HH4.out.cell rfl
    go_region_law (
      (go_simp
       first
         | (go_at_call 81
            refine (loadsOf_any _ Ar n ca Y.length cr X Y w4.drew HOK.out (HG.out.below HB4d.out) HSM.out HCR.out (fun r hr => (HSQ.out r hr).2) (rd_step HA.out HB4d.out) ((HO4.out.below HD4.out (by omega)).rd (by have := HD4.out.size; omega))).mono ?_
            rintro e wL ⟨g, f, rfl, hg, hrow, hown, hbL⟩
            have hob : wL.ownsRow (g + 1) 68 6 (f bn) (ldOf X (bn : Int) (pruneOf Y)).length (rcA (ldOf X (bn : Int) (pruneOf Y))) := hown bn hbnn
            obtain ⟨Ab, cb, hfb⟩ := own_slice hob
            rw [hfb] at hob
            have hcb := own_cap6 hob
            have hgx : wL.cell? ⟨g, bn, none⟩ = some (f bn) := hrow.cell hbnn
            rw [hfb, ← HLB.out] at hgx
            rw [← HLB.out] at hcb
            have HOR : Hid (OwRc wL (g + 1) wL.heap.size Ab lb (ldOf X (bn : Int) (pruneOf Y))) := by rw [HLB.out]; exact ow_of_own hob
            have HBL : Hid (Below w4.heap.size w4 wL) := HD4.out.trans hbL
            have HB4L := Lib.hid (bel_step HB4.out HBL.out)
            have hxL : wL.cell? ⟨w.heap.size, 0, none⟩ = some (.slice (some ⟨g0, off, none⟩) n ca) := (HBL.out.cell (p := ⟨w.heap.size, 0, none⟩) hlt0).trans hx4
            have hhL : wL.cell? ⟨w2.heap.size, 0, none⟩ = some (.slice Ar Y.length cr) := (HBL.out.cell (p := ⟨w2.heap.size, 0, none⟩) hlt2).trans hh4
            clear hob hrow hown hbL hg hfb)
         | (go_at_call 80
            refine (startMove_any _ Ab n ca lb cb X (bn : Int) wL HOK.out (rd_step HA.out HB4L.out)).mono ?_
            rintro e wS ⟨Az, cz, loS, bS, rfl, hmvS, hblS⟩
            have HMS := Lib.hid hmvS
            clear hmvS)
         | (go_at_call 82
            refine (advance_any wL wS bS Az Ab cz loS bS lb cb X (ldOf X (bn : Int) (pruneOf Y)) (bn : Int) steps a0 a1 a2 (HS.out.below HB4L.out) HMS.out HOK.out HLR.out hl48 hcb (HOR.out.rd (Nat.le_refl _)) hst).mono ?_
            rintro e wE ⟨A5, c5, rfl, ho5, hb5⟩
            have HOE : Hid (OwNd wE wL.heap.size wE.heap.size A5 (gcRun X (ldOf X (bn : Int) (pruneOf Y)) steps (bn : Int)).nd.length (gcRun X (ldOf X (bn : Int) (pruneOf Y)) steps (bn : Int)).nd) := ho5
            have HBE4 : Hid (Below w4.heap.size w4 wE) := bel_step HBL.out hb5
            have hbeL := hb5.size
            have HRE : Hid (IsBlk wE (w.heap.size + 1) 30 [.slice none 0 0, .string ⟨#[]⟩, .int .i64 0]) := HR4.out.below HBE4.out hlt1
            obtain ⟨d0, d1, d2, fd0, fd1, fd2⟩ := blk3 HRE.out
            clear ho5 hb5)))
    all_goals
      have hwE := HBE4.out.size
      have hwL := HBL.out.size
      have HBE := Lib.hid (bel_step HB4.out HBE4.out)
      have HGZ := Lib.hid (gcRun_data X (ldOf X (bn : Int) (pruneOf Y)) steps (bn : Int))
      generalize gcRun X (ldOf X (bn : Int) (pruneOf Y)) steps (bn : Int) = y at *
      obtain ⟨yn, yd, yc⟩ := y
      simp only at *
      obtain rfl : yd = ⟨#[]⟩ := HGZ.out
      go_wp2
      refine bodyPost_ret (v := .agg #[.slice A5 yn.length c5, .string ⟨#[]⟩, .int .i64 yc]) (by simp [results, Tryz.results13, go_sem, d0, d1, d2]) rfl ?_
      rw [HC.out]
      exact ans_ends HOE.out (by omega) (by omega) (Nat.le_refl _) HBE.out (by omega) _ _ _ rfl
  · have HC := Lib.hid (movAns_code (X := X) (b := bi) (steps := steps) HBC.out (by rw [h]; decide))
    rw [h] at HC
    rw [h, errOf_1]
    clear h
    go_wp2_with fail
    refine (failure_inv a0 a1 a2 _ (HS.out.below HB3.out)).mono ?_
    rintro e w4 ⟨rfl, rfl⟩
    obtain ⟨d0, d1, d2, fd0, fd1, fd2⟩ := blk3 HR3.out
    go_wp2
    refine bodyPost_ret (v := .agg #[.slice none 0 0, .string ⟨#[]⟩, .int .i64 1]) (by simp [results, Tryz.results13, go_sem, d0, d1, d2]) rfl ?_
    rw [HC.out]
    exact ⟨none, 0, rfl, ow_nil _ _ _ _, ((HB3.out.setCell (p := ⟨w.heap.size + 1, 0, none⟩) (by dsimp only; omega) _).setCell (p := ⟨w.heap.size + 1, 1, none⟩) (by dsimp only; omega) _).setCell (p := ⟨w.heap.size + 1, 2, none⟩) (by dsimp only; omega) _⟩
  · have HC := Lib.hid (movAns_code (X := X) (b := bi) (steps := steps) HBC.out (by rw [h]; decide))
    rw [h] at HC
    rw [h, errOf_10]
    clear h
    go_wp2_with fail
    refine (failure_hist a0 a1 a2 _ (HS.out.below HB3.out)).mono ?_
    rintro e w4 ⟨rfl, rfl⟩
    obtain ⟨d0, d1, d2, fd0, fd1, fd2⟩ := blk3 HR3.out
    go_wp2
    refine bodyPost_ret (v := .agg #[.slice none 0 0, .string ⟨#[]⟩, .int .i64 10]) (by simp [results, Tryz.results13, go_sem, d0, d1, d2]) rfl ?_
    rw [HC.out]
    exact ⟨none, 0, rfl, ow_nil _ _ _ _, ((HB3.out.setCell (p := ⟨w.heap.size + 1, 0, none⟩) (by dsimp only; omega) _).setCell (p := ⟨w.heap.size + 1, 1, none⟩) (by dsimp only; omega) _).setCell (p := ⟨w.heap.size + 1, 2, none⟩) (by dsimp only; omega) _⟩

/-- what Level answers to a valid chip -/
noncomputable def levIn (X : List Bk) (gap steps : Int) : NdAns :=
  if coldS X X.length = -1 then ill 6 else if wrHi X X.length - (X.getD (coldS X X.length).toNat zeroBk).erases ≤ gap then ill 6 else movAns X (coldS X X.length) steps
open Classical in
noncomputable def levAns (X : List Bk) (gap steps : Int) : NdAns := if NdOk X ∧ 0 ≤ gap then levIn X gap steps else ill 1
theorem levAns_no {X : List Bk} {gap steps : Int} (h : ¬ (NdOk X ∧ 0 ≤ gap)) : levAns X gap steps = ill 1 := if_neg h
theorem levAns_yes {X : List Bk} {gap steps : Int} (h : NdOk X ∧ 0 ≤ gap) : levAns X gap steps = levIn X gap steps := if_pos h
theorem ill_ends6 {w u : World} {b : Nat} {c : Int} (hB : Below w.heap.size w u) (h1 : w.heap.size ≤ b) (x y z : Value) :
    RetAns w (ill c) (.returned (.agg #[.slice none 0 0, .string ⟨#[]⟩, .int .i64 c])) (((u.setCell ⟨b, 0, none⟩ x).setCell ⟨b, 1, none⟩ y).setCell ⟨b, 2, none⟩ z) :=
  ⟨none, 0, rfl, ow_nil _ _ _ _, ((hB.setCell (p := ⟨b, 0, none⟩) h1 _).setCell (p := ⟨b, 1, none⟩) h1 _).setCell (p := ⟨b, 2, none⟩) h1 _⟩

set_option maxHeartbeats 8000000 in
set_option maxRecDepth 100000 in
theorem impl_level (A : Option Addr) (n ca : Nat) (X : List Bk) (gap steps : Int) (a0 a1 a2 : Addr) (w : World) (hG : ErrType w) (hS : Sents w a0 a1 a2) (hX : Small X) (hA : RdBk w w.heap.size A n X) (hst : steps ≤ 9223372036854775807) :
    Calls Tryz.prog 20 #[.agg #[.slice A n ca], .int .i64 gap, .int .i64 steps] w (RetAns w (levAns X gap steps)) := by
  have HL := Lib.hid hA.1
  have HA := Lib.hid hA; have HX := Lib.hid hX; have HS := Lib.hid hS; have HG := Lib.hid hG; clear hA hX hS hG
  go_enter Tryz.func20, Tryz.ntmps20
  go_wp2_with fail
  have hb0 : Below w.heap.size w ((w.alloc (.cells #[.slice A n ca] 28)).alloc (.cells #[.slice none 0 0, .string ⟨#[]⟩, .int .i64 0] 30)) := ((Below.refl _ _).alloc (Nat.le_refl _) _).alloc (by simp) _
  have k0 := (isBlk_new w 28 [.slice A n ca]).alloc (.cells #[.slice none 0 0, .string ⟨#[]⟩, .int .i64 0] 30)
  have k1 := isBlk_new (w.alloc (.cells #[.slice A n ca] 28)) 30 [.slice none 0 0, .string ⟨#[]⟩, .int .i64 0]
  change IsBlk ((w.alloc (.cells #[.slice A n ca] 28)).alloc (.cells #[.slice none 0 0, .string ⟨#[]⟩, .int .i64 0] 30)) _ _ _ at k0 k1
  rw [size_alloc] at k1
  generalize (w.alloc (.cells #[.slice A n ca] 28)).alloc (.cells #[.slice none 0 0, .string ⟨#[]⟩, .int .i64 0] 30) = W at hb0 k0 k1 ⊢
  refine (impl_nandRight A n ca X W HX.out (rd_step HA.out hb0)).mono ?_
  rintro e w1 ⟨rfl, hb1⟩
  have HB1 := Lib.hid (bel_step hb0 hb1)
  have HK1 := Lib.hid (k0.below hb1 k0.lt); have HR1 := Lib.hid (k1.below hb1 k1.lt)
  have hlR := HR1.out.lt
  clear hb0 k0 k1 hb1
  by_cases hg : NdOk X ∧ 0 ≤ gap
  case neg =>
    have HC := Lib.hid (levAns_no (steps := steps) hg)
    obtain ⟨d0, d1, d2, fd0, fd1, fd2⟩ := blk3 HR1.out
    by_cases hok : NdOk X
    · have hg0 : gap < 0 := by by_cases h : 0 ≤ gap; exact absurd ⟨hok, h⟩ hg; omega
      rw [ndB_yes hok]
      clear hg hok
      go_wp2
      refine bodyPost_ret (v := .agg #[.slice none 0 0, .string ⟨#[]⟩, .int .i64 1]) (by simp [results, Tryz.results20, go_sem, d0, d1, d2]) rfl ?_
      rw [HC.out]
      exact ill_ends6 HB1.out (by omega) _ _ _
    · rw [ndB_no hok]
      clear hg hok
      go_wp2
      refine bodyPost_ret (v := .agg #[.slice none 0 0, .string ⟨#[]⟩, .int .i64 1]) (by simp [results, Tryz.results20, go_sem, d0, d1, d2]) rfl ?_
      rw [HC.out]
      exact ill_ends6 HB1.out (by omega) _ _ _
  have HC := Lib.hid (levAns_yes (steps := steps) hg)
  obtain ⟨hok, hg0⟩ := hg
  rw [ndB_yes hok]
  have hgl : ¬ gap < 0 := by omega
  have HCA := Lib.hid (coldAns_yes hok)
  have HRG := Lib.hid (coldS_range hok X.length (Nat.le_refl _))
  have HNE := Lib.hid (nd_er hok)
  have HIN := Lib.hid (wr_inv (nd_er hok) X.length (Nat.le_refl _))
  have HOK := Lib.hid hok
  have HI : Hid (levIn X gap steps = if coldS X X.length = -1 then ill 6 else if wrHi X X.length - (X.getD (coldS X X.length).toNat zeroBk).erases ≤ gap then ill 6 else movAns X (coldS X X.length) steps) := rfl
  have hx1 : w1.cell? ⟨w.heap.size, 0, none⟩ = some (.slice A n ca) := HK1.out.cell rfl
  clear hok
  go_wp2_with fail
  refine (impl_coldest A n ca X w1 HX.out (rd_step HA.out HB1.out)).mono ?_
  rintro e w2 ⟨rfl, hb2⟩
  rw [HCA.out]
  have HB2 := Lib.hid (bel_step HB1.out hb2)
  have HK2 := Lib.hid (HK1.out.below hb2 HK1.out.lt); have HR2 := Lib.hid (HR1.out.below hb2 HR1.out.lt)
  have hx2 : w2.cell? ⟨w.heap.size, 0, none⟩ = some (.slice A n ca) := HK2.out.cell rfl
  have hlR2 := HR2.out.lt
  clear hb2 hx1 HK1 HR1 HCA
  rcases HRG.out with hv | ⟨bn, hbl, hv, -⟩
  · rw [hv]
    have HE : Hid (levIn X gap steps = ill 6) := by show _ = _; rw [HI.out, if_pos hv]
    obtain ⟨d0, d1, d2, fd0, fd1, fd2⟩ := blk3 HR2.out
    clear HI hv HRG
    go_wp2
    refine bodyPost_ret (v := .agg #[.slice none 0 0, .string ⟨#[]⟩, .int .i64 6]) (by simp [results, Tryz.results20, go_sem, d0, d1, d2]) rfl ?_
    rw [HC.out, HE.out]
    exact ill_ends6 HB2.out (by omega) _ _ _
  · rw [hv] at HI ⊢
    have HI2 : Hid (levIn X gap steps = if wrHi X X.length - (X.getD bn zeroBk).erases ≤ gap then ill 6 else movAns X (bn : Int) steps) := by show _ = _; rw [HI.out, if_neg (by omega)]; rfl
    have hvb : ((bn : Int) == -1) = false := by first | (simp; done) | (simp; omega)
    have hbnn : bn < n := by have := HL.out; omega
    have her := HNE.out bn hbl
    have hih : 0 ≤ wrHi X X.length ∧ wrHi X X.length ≤ 1000000 := by rcases HIN.out with ⟨-, -, h⟩ | ⟨a, b, c, d⟩ <;> omega
    clear HI hv HRG
    go_wp2_with fail
    refine (erasesRange_any A n ca X w2 HOK.out (rd_step HA.out HB2.out)).mono ?_
    rintro e w3 ⟨rfl, hb3⟩
    have HB3 := Lib.hid (bel_step HB2.out hb3)
    have HK3 := Lib.hid (HK2.out.below hb3 HK2.out.lt); have HR3 := Lib.hid (HR2.out.below hb3 HR2.out.lt)
    have hlR3 := HR3.out.lt
    obtain ⟨g0, off, pA, pc, hA', hg, hc0, hc1, hc2, hpg⟩ := (rd_step HA.out HB3.out).at hbnn
    subst hA'
    have hx3 : w3.cell? ⟨w.heap.size, 0, none⟩ = some (.slice (some ⟨g0, off, none⟩) n ca) := HK3.out.cell rfl
    clear hb3 hx2 HK2 HR2 hpg hc0 hc2 hg
    generalize (X.getD bn zeroBk).erases = er at *
    generalize wrHi X X.length = gr at *
    have hw : IntKind.i64.wrap (gr - er) = gr - er := IntWalk.i64_in _ (by omega)
    have hb0 : (0 : Int) ≤ (bn : Int) := by omega
    have hb1 : (bn : Int) < (n : Int) := by omega
    by_cases hgap : gr - er ≤ gap
    · have HE : Hid (levIn X gap steps = ill 6) := by show _ = _; rw [HI2.out, if_pos hgap]
      obtain ⟨d0, d1, d2, fd0, fd1, fd2⟩ := blk3 HR3.out
      clear HI2
      go_wp2
      refine bodyPost_ret (v := .agg #[.slice none 0 0, .string ⟨#[]⟩, .int .i64 6]) (by simp [results, Tryz.results20, go_sem, d0, d1, d2]) rfl ?_
      rw [HC.out, HE.out]
      exact ill_ends6 HB3.out (by omega) _ _ _
    · have HE : Hid (levIn X gap steps = movAns X (bn : Int) steps) := by show _ = _; rw [HI2.out, if_neg hgap]
      clear HI2
      go_wp2_with fail
      refine (impl_moveOut _ n ca X (bn : Int) steps a0 a1 a2 w3 (HG.out.below HB3.out) (HS.out.below HB3.out) HX.out (rd_step HA.out HB3.out) hst).mono ?_
      rintro e w4 ⟨A5, c5, rfl, ho4, hb4⟩
      have HR4 := Lib.hid (HR3.out.below hb4 HR3.out.lt)
      have HB4 := Lib.hid (bel_step HB3.out hb4)
      have HO4 := Lib.hid ho4
      have h34 := hb4.size
      obtain ⟨d0, d1, d2, fd0, fd1, fd2⟩ := blk3 HR4.out
      have HGZ := Lib.hid (movAns_data X (bn : Int) steps)
      clear ho4 hb4 hx3 hc1
      generalize movAns X (bn : Int) steps = y at *
      obtain ⟨yn, yd, yc⟩ := y
      simp only at *
      obtain rfl : yd = ⟨#[]⟩ := HGZ.out
      go_wp2
      refine bodyPost_ret (v := .agg #[.slice A5 yn.length c5, .string ⟨#[]⟩, .int .i64 yc]) (by simp [results, Tryz.results20, go_sem, d0, d1, d2]) rfl ?_
      rw [HC.out, HE.out]
      exact ans_ends HO4.out (by omega) (by omega) (Nat.le_refl _) HB4.out (by omega) _ _ _ rfl
end Go.Proofs.YtfpibbhcecdbgaaGreatDoor

namespace Go.Proofs.YtfpibbhcecdbgaaGreatDoor
open Go.RowKit
open Bt (Rc)

theorem two_keepB {u w' : World} {b0 b1 : Nat} {e0 e1 : TypeId} {A B : Option Addr} {n c m d : Nat} (h0 : IsBlk u b0 e0 [.slice A n c]) (h1 : IsBlk u b1 e1 [.slice B m d]) (hb : Below u.heap.size u w') :
    w'.cell? ⟨b0, 0, none⟩ = some (.slice A n c) ∧ w'.cell? ⟨b1, 0, none⟩ = some (.slice B m d) ∧ Hid (Below u.heap.size u w') := ⟨(h0.below hb h0.lt).cell rfl, (h1.below hb h1.lt).cell rfl, hb⟩
theorem two_ofB {u w' : World} {b0 b1 : Nat} {A B : Option Addr} {n c m d : Nat} (h : w'.cell? ⟨b0, 0, none⟩ = some (.slice A n c) ∧ w'.cell? ⟨b1, 0, none⟩ = some (.slice B m d) ∧ Hid (Below u.heap.size u w')) : Below u.heap.size u w' := h.2.2.out

set_option maxHeartbeats 8000000 in
set_option maxRecDepth 100000 in
theorem l11Move_any (A B : Option Addr) (n ca m cb : Nat) (X : List Bk) (Y : List Rc) (b steps : Int) (w : World) (hok : NdOk X) (hr : hRight Y = true) (hYO : ∀ r ∈ Y, r.Ok) (hA : RdBk w w.heap.size A n X) (hB : RdRc w w.heap.size B m Y) :
    Calls Tryz.prog 74 #[.agg #[.slice A n ca], .agg #[.slice B m cb], .int .i64 b, .int .i64 steps] w (RetAns w (gcRun X (recsAt Y (ldTo Y (sqs X n) b m)) steps b)) := by
  have hm48 : m ≤ 48 := by rw [← hB.1]; exact hRight_len hr
  have HML := Lib.hid hB.1
  have hn : n ≤ 12 := by rw [← hA.1]; exact hok.1.2
  have HLS : Hid ((sqs X n).length = 4 * n) := sqs_len X n
  have HA := Lib.hid hA; have HB := Lib.hid hB; have HOK := Lib.hid hok; have HR := Lib.hid hr; have HYO := Lib.hid hYO
  clear hA hB hok hr hYO
  obtain ⟨T, hT⟩ : ∃ T, T = ldTo Y (sqs X n) b m := ⟨_, rfl⟩
  have HTM : Hid (∀ i ∈ T, i < m) := fun i hi => by rw [hT] at hi; exact ldTo_mem m i hi
  have hTl : T.length ≤ 48 := by rw [hT]; have := ldTo_len Y (sqs X n) b m; omega
  have HT := Lib.hid hT
  rw [← hT]
  clear hT
  go_enter Tryz.func74, Tryz.ntmps74
  go_wp2_with fail
  have hb0 : Below w.heap.size w (((w.alloc (.cells #[.slice A n ca] 28)).alloc (.cells #[.slice B m cb] 60)).alloc (.cells #[.slice none 0 0, .string ⟨#[]⟩, .int .i64 0] 30)) := (((Below.refl _ _).alloc (Nat.le_refl _) _).alloc (by simp) _).alloc (by simp; omega) _
  have k0 := ((isBlk_new w 28 [.slice A n ca]).alloc (.cells #[.slice B m cb] 60)).alloc (.cells #[.slice none 0 0, .string ⟨#[]⟩, .int .i64 0] 30)
  have k1 := (isBlk_new (w.alloc (.cells #[.slice A n ca] 28)) 60 [.slice B m cb]).alloc (.cells #[.slice none 0 0, .string ⟨#[]⟩, .int .i64 0] 30)
  have k2 := isBlk_new ((w.alloc (.cells #[.slice A n ca] 28)).alloc (.cells #[.slice B m cb] 60)) 30 [.slice none 0 0, .string ⟨#[]⟩, .int .i64 0]
  simp only [size_alloc] at k1 k2
  change IsBlk (((w.alloc (.cells #[.slice A n ca] 28)).alloc (.cells #[.slice B m cb] 60)).alloc (.cells #[.slice none 0 0, .string ⟨#[]⟩, .int .i64 0] 30)) _ _ _ at k0 k1 k2
  generalize ((w.alloc (.cells #[.slice A n ca] 28)).alloc (.cells #[.slice B m cb] 60)).alloc (.cells #[.slice none 0 0, .string ⟨#[]⟩, .int .i64 0] 30) = W at hb0 k0 k1 k2 ⊢
  have HB0 := Lib.hid hb0
  have HK0 := Lib.hid k0; have HH0 := Lib.hid k1; have HR0 := Lib.hid k2
  have hlt0 : w.heap.size < W.heap.size := k0.lt
  have hlt1 : w.heap.size + 1 < W.heap.size := k1.lt
  clear hb0 k0 k1 k2
  go_cut [9] (fun v9 wx => ∃ (Al : Option Addr) (cl : Nat), v9 = .slice Al T.length cl ∧ RdNs wx wx.heap.size Al T.length (natI T) ∧ Hid (Below W.heap.size W wx))
  case first =>
    go_region_held3 (fun w' => w'.cell? ⟨w.heap.size, 0, none⟩ = some (.slice A n ca) ∧ w'.cell? ⟨w.heap.size + 1, 0, none⟩ = some (.slice B m cb) ∧ Hid (Below W.heap.size W w'))
      (first | exact hsS | exact hsN | exact hsL | exact two_keepB HK0.out HH0.out (Below.refl _ _).drew | exact two_keepB HK0.out HH0.out (Below.refl _ _))
      (first
        | (go_at_call 147
           refine (l06Seqs_any A n ca X _ HOK.out (rd_step HA.out (bel_step HB0.out (two_ofB (by assumption))))).mono ?_
           rintro e wS ⟨As, cs, rfl, hoS, hbS⟩
           have hsS := two_keepB HK0.out HH0.out ((two_ofB (by assumption)).trans (hbS.mono (two_ofB (by assumption)).size))
           have HRS := Lib.hid (hoS.rd (Nat.le_refl _))
           have HBS := Lib.hid hbS
           clear hoS hbS)
        | (go_at_call 148
           refine (l04Needed_any B m cb Y _ HR.out (HB.out.next (bel_step HB0.out (two_ofB (by assumption))))).mono ?_
           rintro e wN ⟨gN, rfl, hgN, hrN, hbN⟩
           have hsN := two_keepB HK0.out HH0.out ((two_ofB (by assumption)).trans (hbN.mono (two_ofB (by assumption)).size))
           have HRN := Lib.hid hrN
           have HBN := Lib.hid hbN
           clear hgN hrN hbN)
        | (go_at_call 146
           refine (l06Load_any As B (sqs X n).length cs m cb gN (sqs X n) Y b _ (by have := HLS.out; omega) hm48 ?_ ?_ ?_).mono ?_
           · first | exact HRS.out | exact rdNs_next HRS.out HBN.out
           · exact HB.out.next (bel_step HB0.out (two_ofB (by assumption)))
           · first | exact HRN.out | exact brow_next HRN.out HBS.out
           rintro e wL ⟨Al, cl, rfl, hoL, hbL⟩
           have HRL := Lib.hid (hoL.mono (lo' := W.heap.size) (two_ofB (by assumption)).size (Nat.le_refl _))
           have hsL := two_keepB HK0.out HH0.out ((two_ofB (by assumption)).trans (hbL.mono (two_ofB (by assumption)).size))
           clear hoL hbL))
    all_goals (go_wp2_with fail; go_meet)
    all_goals
      refine ⟨Al, cl, by rw [← HT.out, natI_len], ?_, Lib.hid (two_ofB hsL)⟩
      have h := HRL.out.rd (Nat.le_refl _)
      rw [← HT.out, natI_len] at h
      exact h
  obtain ⟨Al, cl, rfl, hrl, hbc⟩ := hcut
  have HRL := Lib.hid hrl
  have HB2 := Lib.hid (bel_step HB0.out hbc.out)
  have HK2 := Lib.hid (HK0.out.below hbc.out HK0.out.lt); have HH2 := Lib.hid (HH0.out.below hbc.out HH0.out.lt); have HR2 := Lib.hid (HR0.out.below hbc.out HR0.out.lt)
  have h2 : w.heap.size + 1 + 1 < wc.heap.size := HR2.out.lt
  clear hbc hrl HK0 HH0 HR0 HT HLS
  have HRK : Hid (∀ r ∈ recsAt Y T, r.Ok) := fun r hr => by
    obtain ⟨i, hi, rfl⟩ := List.mem_map.1 hr
    exact HYO.out _ (getD_lt (by have := HTM.out i hi; have := HML.out; omega))
  have HRLn := Lib.hid (recsAt_len Y T)
  obtain ⟨N, hN⟩ : ∃ N, N = T.length := ⟨_, rfl⟩
  have HN := Lib.hid hN
  rw [← hN] at HRL hTl HRLn ⊢
  clear hN
  have y0 : wc.cell? ⟨w.heap.size, 0, none⟩ = some (.slice A n ca) := HK2.out.cell rfl
  go_wp2_with fail
  refine (spec_l02Copy A n ca X wc HOK.out (rd_step HA.out HB2.out)).mono ?_
  rintro e w3 ⟨Az, cz, rfl, ho3, hb3⟩
  have h23 := hb3.size
  have hb4 := box_below w3 (.cells #[.slice Az X.length cz] 28)
  have kX := isBlk_new w3 28 [.slice Az X.length cz]
  have hs4 := size_alloc w3 (.cells #[.slice Az X.length cz] 28)
  have HO4 := Lib.hid (ho3.below hb4 (Nat.le_refl _))
  have HB4 := Lib.hid (bel_step (bel_step HB2.out hb3) hb4)
  have HB24 := Lib.hid (bel_step hb3 hb4)
  clear hb3 ho3 y0
  go_wp2
  change Code.wp _ _ _ _ (w3.alloc (.cells #[.slice Az X.length cz] 28))
  change IsBlk (w3.alloc (.cells #[.slice Az X.length cz] 28)) _ _ _ at kX
  generalize w3.alloc (.cells #[.slice Az X.length cz] 28) = w4 at hb4 kX hs4 HO4 HB4 HB24 ⊢
  have HKX := Lib.hid kX
  clear hb4 kX
  go_loopw [11] (fun iv wr => ∃ (k : Nat) (A' : Option Addr) (c' lo hi : Nat), k ≤ N + 1 ∧ iv = .int .i64 (k : Nat) ∧ ((k : Int) ≤ steps ∨ k = 0) ∧ (gcK X (recsAt Y T) b k).code = 0 ∧ (gcTo X (recsAt Y T) (min k N)).code = 0 ∧ IsBlk wr w3.heap.size 28 [.slice A' (gcK X (recsAt Y T) b k).nd.length c'] ∧ OwNd wr lo hi A' (gcK X (recsAt Y T) b k).nd.length (gcK X (recsAt Y T) b k).nd ∧ (w3.heap.size < lo ∨ hi ≤ w3.heap.size) ∧ wc.heap.size ≤ lo ∧ hi ≤ wr.heap.size ∧ Below wc.heap.size wc wr ∧ w3.heap.size < wr.heap.size) (fun iv _ => N + 1 - (intOf iv).toNat)
  case atStart =>
    refine ⟨0, Az, cz, wc.heap.size, w3.heap.size, by omega, rfl, .inr rfl, ?_, by rw [Nat.zero_min]; rfl, ?_, ?_, .inr (Nat.le_refl _), Nat.le_refl _, by omega, HB24.out, by omega⟩
    · rw [gcK_le (Nat.zero_le _)]; rfl
    · rw [gcK_le (Nat.zero_le _)]; exact HKX.out
    · rw [gcK_le (Nat.zero_le _)]; exact HO4.out
  case round =>
    obtain ⟨k, A', c', lo, hi, hk, rfl, hst, hc0, hcm, hkx, how, hap, hlo, hhi, hbel, hz⟩ := hrel
    have HKXr := Lib.hid hkx; have HOW := Lib.hid how; have HBr := Lib.hid hbel; have HBW := Lib.hid (bel_step HB2.out hbel)
    have HST := Lib.hid hst; have HC0 := Lib.hid hc0; have HCM := Lib.hid hcm
    have x0 : wr.cell? ⟨w3.heap.size, 0, none⟩ = some (.slice A' (gcK X (recsAt Y T) b k).nd.length c') := hkx.cell rfl
    have hRr := HR2.out.below hbel HR2.out.lt
    clear hkx how hst hcm
    by_cases hgo : (k : Int) < steps ∧ (k : Int) ≤ (N : Int)
    case neg =>
      have HE : Hid (gcRun X (recsAt Y T) steps b = gcK X (recsAt Y T) b k) := gcK_stop (by have := HRLn.out; omega) HST.out HC0.out (fun e => by have h1 := HCM.out; have h2 := HRLn.out; rw [h2, show N = min k N by omega]; exact h1) (by have := HRLn.out; rw [this]; exact hgo)
      have HET := Lib.hid (ans_eta _ (gcK_data X (recsAt Y T) b k))
      rw [HC0.out] at HET
      obtain ⟨d0, d1, d2, fd0, fd1, fd2⟩ := blk3 hRr
      clear hRr hc0
      generalize gcK X (recsAt Y T) b k = t at *
      by_cases hs : (k : Int) < steps
      · have hkN : ¬ (k : Int) ≤ (N : Int) := fun h => hgo ⟨hs, h⟩
        have hkN' : (N : Int) < (k : Int) := by omega
        have hkN2 : N < k := by omega
        clear hgo
        go_wp2
        refine bodyPost_ret (v := .agg #[.slice A' t.nd.length c', .string ⟨#[]⟩, .int .i64 0]) (by simp [results, Tryz.results74, go_sem, d0, d1, d2]) rfl ?_
        rw [HE.out]
        exact ans_ends HOW.out (by omega) (by omega) hhi HBW.out (by omega) _ _ _ HET.out
      · have hs' : steps ≤ (k : Int) := by omega
        clear hgo
        go_wp2
        refine bodyPost_ret (v := .agg #[.slice A' t.nd.length c', .string ⟨#[]⟩, .int .i64 0]) (by simp [results, Tryz.results74, go_sem, d0, d1, d2]) rfl ?_
        rw [HE.out]
        exact ans_ends HOW.out (by omega) (by omega) hhi HBW.out (by omega) _ _ _ HET.out
    obtain ⟨hs, hkN⟩ := hgo
    have hkn : k ≤ N := by omega
    have e0 : gcK X (recsAt Y T) b k = gcTo X (recsAt Y T) k := gcK_le (by have := HRLn.out; omega)
    rw [e0] at HKXr HOW HC0 x0 hc0
    have HZ := Lib.hid (gcTo_right HOK.out HRK.out k (by have := HRLn.out; omega) hc0)
    have HFAIL : Hid ((gcK X (recsAt Y T) b (k + 1)).code ≠ 0 → gcRun X (recsAt Y T) steps b = ill (gcK X (recsAt Y T) b (k + 1)).code) := fun h => (gcK_fails (by have := HRLn.out; omega) hs HC0.out h).trans (gcK_ill HC0.out (by have := HRLn.out; omega) h)
    have HB5 := Lib.hid (box_below wr (.cells #[.slice none 0 0, .string ⟨#[]⟩, .int .i64 0] 30))
    have HKY5 := Lib.hid (isBlk_new wr 30 [.slice none 0 0, .string ⟨#[]⟩, .int .i64 0])
    have HKX5 := Lib.hid (HKXr.out.alloc (.cells #[.slice none 0 0, .string ⟨#[]⟩, .int .i64 0] 30))
    have HR5 := Lib.hid (IsBlk.alloc hRr (.cells #[.slice none 0 0, .string ⟨#[]⟩, .int .i64 0] 30))
    have HOW5 := Lib.hid (HOW.out.below HB5.out hhi)
    have HB25 := Lib.hid (bel_step hbel HB5.out)
    have hs5 := size_alloc wr (.cells #[.slice none 0 0, .string ⟨#[]⟩, .int .i64 0] 30)
    have hz2 := hbel.size
    change Hid (IsBlk (wr.alloc (.cells #[.slice none 0 0, .string ⟨#[]⟩, .int .i64 0] 30)) _ _ _) at HKY5
    clear hRr e0 hbel
    by_cases hlt : k < N
    · have HNX0 : Hid (gcK X (recsAt Y T) b (k + 1) = putAns (gcTo X (recsAt Y T) k).nd 0 (bstr ((recsAt Y T).getD k Rc.zero).bytes)) := by show _ = _; rw [gcK_le (by have := HRLn.out; omega), gcTo_next HC0.out]
      have HCN : Hid ((gcK X (recsAt Y T) b (k + 1)).code = 0 → (gcTo X (recsAt Y T) (min (k + 1) N)).code = 0) := fun h => by rw [gcK_le (by have := HRLn.out; omega)] at h; rw [Nat.min_eq_left (by omega)]; exact h
      have hkT : k < T.length := by have := HN.out; omega
      have HPO := Lib.hid (HRK.out _ (getD_lt (z := Rc.zero) (show k < (recsAt Y T).length by have := HRLn.out; omega)))
      rw [recsAt_at hkT] at HNX0 HPO
      obtain ⟨i, hi'⟩ : ∃ i, i = T.getD k 0 := ⟨_, rfl⟩
      have him : i < m := by rw [hi']; exact HTM.out _ (by rw [List.getD_eq_getElem?_getD, List.getElem?_eq_getElem hkT]; exact List.getElem_mem hkT)
      obtain ⟨gl, rfl, hgl, hrT⟩ := HRL.out.2 (by omega)
      have cT : wc.cell? ⟨gl, k, none⟩ = some (.int .i64 (i : Int)) := by
        rw [hrT.cell hlt]
        unfold nmF natI
        rw [List.getD_eq_getElem?_getD, List.getElem?_map, hi', List.getD_eq_getElem?_getD, List.getElem?_eq_getElem hkT]; rfl
      obtain ⟨gY, oY, rfl, hgY, p0, p1, p2, p3, p4, p5⟩ := ((HB.out.next HB2.out)).at him
      rw [← hi'] at HNX0 HPO
      have cH : wc.cell? ⟨w.heap.size + 1, 0, none⟩ = some (.slice (some ⟨gY, oY, none⟩) m cb) := HH2.out.cell rfl
      generalize Y.getD i Rc.zero = p at *
      have HST5 : Hid (St (wr.alloc (.cells #[.slice none 0 0, .string ⟨#[]⟩, .int .i64 0] 30)) w3.heap.size (w.heap.size + 1) gl k gY (oY + i * 6) A' (some ⟨gY, oY, none⟩) (gcTo X (recsAt Y T) k).nd.length c' m cb i p wr.heap.size (wr.alloc (.cells #[.slice none 0 0, .string ⟨#[]⟩, .int .i64 0] 30))) :=
        ⟨HKX5.out.cell rfl, cell_keep HB25.out (by dsimp only; omega) cH, cell_keep HB25.out (by dsimp only; omega) cT, cell_keep HB25.out (by dsimp only; omega) p0, cell_keep HB25.out (by dsimp only; omega) p1, cell_keep HB25.out (by dsimp only; omega) p2, cell_keep HB25.out (by dsimp only; omega) p3, cell_keep HB25.out (by dsimp only; omega) p4, cell_keep HB25.out (by dsimp only; omega) p5, Below.refl _ _⟩
      clear hrT hi' cT cH p0 p1 p2 p3 p4 p5 x0
      have hi0 : (0 : Int) ≤ (i : Int) := by omega
      have him' : (i : Int) < (m : Int) := by omega
      have hk0 : (0 : Int) ≤ (k : Int) := by omega
      have hkN' : (k : Int) < (N : Int) := by omega
      go_wp2
      change Code.wp _ _ _ _ (wr.alloc (.cells #[.slice none 0 0, .string ⟨#[]⟩, .int .i64 0] 30))
      generalize (wr.alloc (.cells #[.slice none 0 0, .string ⟨#[]⟩, .int .i64 0] 30)) = w5 at HB5 HKY5 HKX5 HR5 HOW5 HB25 hs5 HST5 ⊢
      have hlx : w3.heap.size < wr.heap.size := hz
      have hlh : w.heap.size + 1 < wr.heap.size := by omega
      have hlg : gl < wr.heap.size := by omega
      have hly : gY < wr.heap.size := by omega
      have HPD := put_data (gcTo X (recsAt Y T) k).nd (bstr p.bytes)
      obtain ⟨y, hy⟩ : ∃ y, y = putAns (gcTo X (recsAt Y T) k).nd 0 (bstr p.bytes) := ⟨_, rfl⟩
      rw [← hy] at HPD HNX0
      have HY := Lib.hid hy
      obtain ⟨yn, yd, yc⟩ := y
      obtain rfl : yd = ⟨#[]⟩ := HPD.1
      have HNX := HNX0
      have HF : Hid (yc ≠ 0 → gcRun X (recsAt Y T) steps b = ill yc) := fun h => by have h1 := HFAIL.out; rw [HNX.out] at h1; exact h1 h
      have HCN' : Hid (yc = 0 → (gcTo X (recsAt Y T) (min (k + 1) N)).code = 0) := fun h => HCN.out (by rw [HNX.out]; exact h)
      clear HCN HFAIL hy HPD HNX0
      have HCN := HCN'
      clear HCN'
      go_region_held3 (fun w' => w'.cell? ⟨w3.heap.size, 0, none⟩ = some (.slice A' (gcTo X (recsAt Y T) k).nd.length c') ∧ w'.cell? ⟨w.heap.size + 1, 0, none⟩ = some (.slice (some ⟨gY, oY, none⟩) m cb) ∧ w'.cell? ⟨gl, k, none⟩ = some (.int .i64 (i : Int)) ∧ w'.cell? ⟨gY, oY + i * 6, none⟩ = some (.int .i64 p.k) ∧ w'.cell? ⟨gY, oY + i * 6 + 1, none⟩ = some (.int .i64 p.s) ∧ w'.cell? ⟨gY, oY + i * 6 + 2, none⟩ = some (.int .i64 p.q) ∧ w'.cell? ⟨gY, oY + i * 6 + 3, none⟩ = some (.int .i64 p.t) ∧ w'.cell? ⟨gY, oY + i * 6 + 4, none⟩ = some (.int .i64 p.o) ∧ w'.cell? ⟨gY, oY + i * 6 + 5, none⟩ = some (.string p.d) ∧ Hid (Below wr.heap.size w5 w'))
        (first | exact hsS | exact hsB | exact hsE | exact st_keep HST5.out hlx hlh hlg hly (Below.refl _ _).drew | exact st_keep HST5.out hlx hlh hlg hly (Below.refl _ _) | exact st_keep HST5.out hlx hlh hlg hly ((((st_of hsE).setCell (p := ⟨wr.heap.size, 0, none⟩) (Nat.le_refl _) _).setCell (p := ⟨wr.heap.size, 1, none⟩) (Nat.le_refl _) _).setCell (p := ⟨wr.heap.size, 2, none⟩) (Nat.le_refl _) _))
        (first
          | (go_at_call 126
             refine (l03Bytes_any p w5.drew HPO.out).mono ?_
             rintro e wB ⟨rfl, hbB⟩
             have HBB : Hid (Below w5.heap.size w5 wB) := ((Below.refl _ _).drew).trans hbB
             have hsB := st_keep HST5.out hlx hlh hlg hly (HBB.out.mono (by omega))
             clear hbB)
          | (go_at_call 125
             refine (l05Append_any A' (gcTo X (recsAt Y T) k).nd.length c' (gcTo X (recsAt Y T) k).nd (bstr p.bytes) 0 wB HZ.out (small_ok HZ.out) ((HOW5.out.below HBB.out (by omega)).rd (by have := HBB.out.size; omega))).mono ?_
             rintro e wE ⟨A5, c5, rfl, hoE, hbE⟩
             rw [← HY.out] at hoE ⊢
             have HBE : Hid (Below w5.heap.size w5 wE) := HBB.out.trans (hbE.mono HBB.out.size)
             have hsE := st_keep HST5.out hlx hlh hlg hly (HBE.out.mono (by omega))
             have HOE : Hid (OwNd wE w5.heap.size wE.heap.size A5 yn.length yn) := hoE.mono HBB.out.size (Nat.le_refl _)
             obtain ⟨z0, z1, z2, fz0, fz1, fz2⟩ := blk3 (HKY5.out.below HBE.out HKY5.out.lt)
             clear hoE hbE))
      all_goals
        clear z0 z1 z2 fz0 fz1 fz2
        have hlE := HBE.out.size
        have kyE : IsBlk wE wr.heap.size 30 [.slice none 0 0, .string ⟨#[]⟩, .int .i64 0] := HKY5.out.below HBE.out HKY5.out.lt
        have kxE := HKX5.out.below HBE.out HKX5.out.lt
        have krE := HR5.out.below HBE.out HR5.out.lt
        have HKY6 := Lib.hid (set3 kyE (.slice A5 yn.length c5) (.string ⟨#[]⟩) (.int .i64 yc))
        have HKX6 : Hid (IsBlk (((wE.setCell ⟨wr.heap.size, 0, none⟩ (.slice A5 yn.length c5)).setCell ⟨wr.heap.size, 1, none⟩ (.string ⟨#[]⟩)).setCell ⟨wr.heap.size, 2, none⟩ (.int .i64 yc)) w3.heap.size 28 [.slice A' (gcTo X (recsAt Y T) k).nd.length c']) := (off3 (by omega) _ _ _).trans kxE
        have HR6 : Hid (IsBlk (((wE.setCell ⟨wr.heap.size, 0, none⟩ (.slice A5 yn.length c5)).setCell ⟨wr.heap.size, 1, none⟩ (.string ⟨#[]⟩)).setCell ⟨wr.heap.size, 2, none⟩ (.int .i64 yc)) (w.heap.size + 1 + 1) 30 [.slice none 0 0, .string ⟨#[]⟩, .int .i64 0]) := (off3 (by omega) _ _ _).trans krE
        have HO6 : Hid (OwNd (((wE.setCell ⟨wr.heap.size, 0, none⟩ (.slice A5 yn.length c5)).setCell ⟨wr.heap.size, 1, none⟩ (.string ⟨#[]⟩)).setCell ⟨wr.heap.size, 2, none⟩ (.int .i64 yc)) w5.heap.size wE.heap.size A5 yn.length yn) := HOE.out.same fun j h1 h2 => off3 (by omega) _ _ _
        have HB6 : Hid (Below wc.heap.size wc (((wE.setCell ⟨wr.heap.size, 0, none⟩ (.slice A5 yn.length c5)).setCell ⟨wr.heap.size, 1, none⟩ (.string ⟨#[]⟩)).setCell ⟨wr.heap.size, 2, none⟩ (.int .i64 yc))) := (((HB25.out.trans (HBE.out.mono (by omega))).setCell (p := ⟨wr.heap.size, 0, none⟩) (by dsimp only; omega) _).setCell (p := ⟨wr.heap.size, 1, none⟩) (by dsimp only; omega) _).setCell (p := ⟨wr.heap.size, 2, none⟩) (by dsimp only; omega) _
        have hz6 := size3 wE wr.heap.size (.slice A5 yn.length c5) (.string ⟨#[]⟩) (.int .i64 yc)
        obtain ⟨z0, z1, z2, fz0, fz1, fz2⟩ := blk3 kyE
        obtain ⟨g0, g1, g2, -, -, -⟩ := blk3 HKY6.out
        have q0 : (((wE.setCell ⟨wr.heap.size, 0, none⟩ (.slice A5 yn.length c5)).setCell ⟨wr.heap.size, 1, none⟩ (.string ⟨#[]⟩)).setCell ⟨wr.heap.size, 2, none⟩ (.int .i64 yc)).cell? ⟨w3.heap.size, 0, none⟩ = some (.slice A' (gcTo X (recsAt Y T) k).nd.length c') := HKX6.out.cell rfl
        have fq0 : (((wE.setCell ⟨wr.heap.size, 0, none⟩ (.slice A5 yn.length c5)).setCell ⟨wr.heap.size, 1, none⟩ (.string ⟨#[]⟩)).setCell ⟨wr.heap.size, 2, none⟩ (.int .i64 yc)).frozen? ⟨w3.heap.size, 0, none⟩ = false := HKX6.out.free
        clear kyE kxE krE
        by_cases hyc : yc = 0
        · subst hyc
          go_wp2
          go_roundw
          case rel =>
            refine ⟨k + 1, A5, c5, w5.heap.size, wE.heap.size, by omega, by go_num, .inl (by omega), by rw [HNX.out], HCN.out (by first | rfl | trivial), ?_, ?_, .inl (by omega), by omega, by first | (simp [World.setCell]; done) | (simp [World.setCell]; omega), HB6.out.setCell (p := ⟨w3.heap.size, 0, none⟩) (by dsimp only; omega) _, by first | (simp [World.setCell]; done) | (simp [World.setCell]; omega)⟩
            · rw [HNX.out]; exact HKX6.out.set (j := 0) _
            · rw [HNX.out]; exact HO6.out.same fun j h1 h2 => Below.heap_setCell _ _ _ _ (by dsimp only; omega)
          case measure => first | (simp [intOf]; done) | (simp [intOf]; omega)
        · have HE := Lib.hid (HF.out hyc)
          have hyc' : (yc == 0) = false := by simpa using hyc
          go_wp2_with fail
          refine (l02Ill_any yc _).mono ?_
          rintro e w8 ⟨rfl, hb8⟩
          obtain ⟨d0, d1, d2, fd0, fd1, fd2⟩ := blk3 (HR6.out.below hb8 HR6.out.lt)
          have HB8 := Lib.hid (HB2.out.trans ((HB6.out.trans (hb8.mono HB6.out.size)).mono HB2.out.size))
          clear hb8
          go_wp2
          refine bodyPost_ret (v := .agg #[.slice none 0 0, .string ⟨#[]⟩, .int .i64 yc]) (by simp [results, Tryz.results74, go_sem, d0, d1, d2]) rfl ?_
          rw [HE.out]
          exact ⟨none, 0, rfl, ow_nil _ _ _ _, ((HB8.out.setCell (p := ⟨w.heap.size + 1 + 1, 0, none⟩) (by dsimp only; omega) _).setCell (p := ⟨w.heap.size + 1 + 1, 1, none⟩) (by dsimp only; omega) _).setCell (p := ⟨w.heap.size + 1 + 1, 2, none⟩) (by dsimp only; omega) _⟩
    · obtain rfl : k = N := by omega
      have HNX0 : Hid (gcK X (recsAt Y T) b (k + 1) = eraseAns (gcTo X (recsAt Y T) k).nd b) := by
        show _ = _
        have e := HRLn.out
        have h := gcK_end (X := X) (R := recsAt Y T) (b := b)
        rw [e] at h; exact h
      have HED := erase_data (gcTo X (recsAt Y T) k).nd b
      obtain ⟨y, hy⟩ : ∃ y, y = eraseAns (gcTo X (recsAt Y T) k).nd b := ⟨_, rfl⟩
      rw [← hy] at HED HNX0
      have HY := Lib.hid hy
      obtain ⟨yn, yd, yc⟩ := y
      obtain rfl : yd = ⟨#[]⟩ := HED.1
      have HNX := HNX0
      have HF : Hid (yc ≠ 0 → gcRun X (recsAt Y T) steps b = ill yc) := fun h => by have h1 := HFAIL.out; rw [HNX.out] at h1; exact h1 h
      have HCN : Hid (yc = 0 → (gcTo X (recsAt Y T) (min (k + 1) k)).code = 0) := fun _ => by rw [Nat.min_eq_right (by omega)]; exact HC0.out
      have x5 : (wr.alloc (.cells #[.slice none 0 0, .string ⟨#[]⟩, .int .i64 0] 30)).cell? ⟨w3.heap.size, 0, none⟩ = some (.slice A' (gcTo X (recsAt Y T) k).nd.length c') := HKX5.out.cell rfl
      clear HFAIL hy HED HNX0 x0
      go_wp2_with fail
      change Calls _ _ _ (wr.alloc (.cells #[.slice none 0 0, .string ⟨#[]⟩, .int .i64 0] 30)) _
      generalize (wr.alloc (.cells #[.slice none 0 0, .string ⟨#[]⟩, .int .i64 0] 30)) = w5 at HB5 HKY5 HKX5 HR5 HOW5 HB25 hs5 x5 ⊢
      refine (spec_erase A' (gcTo X (recsAt Y T) k).nd.length c' (gcTo X (recsAt Y T) k).nd b w5 (small_ok HZ.out) (HOW5.out.rd (by omega))).mono ?_
      rintro e wE ⟨A5, c5, rfl, hoE, hbE⟩
      rw [← HY.out] at hoE ⊢
      have HBE := Lib.hid hbE
      have HOE : Hid (OwNd wE w5.heap.size wE.heap.size A5 yn.length yn) := hoE
      clear hoE hbE x5
      have hlE := HBE.out.size
      have kyE : IsBlk wE wr.heap.size 30 [.slice none 0 0, .string ⟨#[]⟩, .int .i64 0] := HKY5.out.below HBE.out HKY5.out.lt
      have kxE := HKX5.out.below HBE.out HKX5.out.lt
      have krE := HR5.out.below HBE.out HR5.out.lt
      have HKY6 := Lib.hid (set3 kyE (.slice A5 yn.length c5) (.string ⟨#[]⟩) (.int .i64 yc))
      have HKX6 : Hid (IsBlk (((wE.setCell ⟨wr.heap.size, 0, none⟩ (.slice A5 yn.length c5)).setCell ⟨wr.heap.size, 1, none⟩ (.string ⟨#[]⟩)).setCell ⟨wr.heap.size, 2, none⟩ (.int .i64 yc)) w3.heap.size 28 [.slice A' (gcTo X (recsAt Y T) k).nd.length c']) := (off3 (by omega) _ _ _).trans kxE
      have HR6 : Hid (IsBlk (((wE.setCell ⟨wr.heap.size, 0, none⟩ (.slice A5 yn.length c5)).setCell ⟨wr.heap.size, 1, none⟩ (.string ⟨#[]⟩)).setCell ⟨wr.heap.size, 2, none⟩ (.int .i64 yc)) (w.heap.size + 1 + 1) 30 [.slice none 0 0, .string ⟨#[]⟩, .int .i64 0]) := (off3 (by omega) _ _ _).trans krE
      have HO6 : Hid (OwNd (((wE.setCell ⟨wr.heap.size, 0, none⟩ (.slice A5 yn.length c5)).setCell ⟨wr.heap.size, 1, none⟩ (.string ⟨#[]⟩)).setCell ⟨wr.heap.size, 2, none⟩ (.int .i64 yc)) w5.heap.size wE.heap.size A5 yn.length yn) := HOE.out.same fun j h1 h2 => off3 (by omega) _ _ _
      have HB6 : Hid (Below wc.heap.size wc (((wE.setCell ⟨wr.heap.size, 0, none⟩ (.slice A5 yn.length c5)).setCell ⟨wr.heap.size, 1, none⟩ (.string ⟨#[]⟩)).setCell ⟨wr.heap.size, 2, none⟩ (.int .i64 yc))) := (((HB25.out.trans (HBE.out.mono (by omega))).setCell (p := ⟨wr.heap.size, 0, none⟩) (by dsimp only; omega) _).setCell (p := ⟨wr.heap.size, 1, none⟩) (by dsimp only; omega) _).setCell (p := ⟨wr.heap.size, 2, none⟩) (by dsimp only; omega) _
      have hz6 := size3 wE wr.heap.size (.slice A5 yn.length c5) (.string ⟨#[]⟩) (.int .i64 yc)
      obtain ⟨z0, z1, z2, fz0, fz1, fz2⟩ := blk3 kyE
      obtain ⟨g0, g1, g2, -, -, -⟩ := blk3 HKY6.out
      have q0 : (((wE.setCell ⟨wr.heap.size, 0, none⟩ (.slice A5 yn.length c5)).setCell ⟨wr.heap.size, 1, none⟩ (.string ⟨#[]⟩)).setCell ⟨wr.heap.size, 2, none⟩ (.int .i64 yc)).cell? ⟨w3.heap.size, 0, none⟩ = some (.slice A' (gcTo X (recsAt Y T) k).nd.length c') := HKX6.out.cell rfl
      have fq0 : (((wE.setCell ⟨wr.heap.size, 0, none⟩ (.slice A5 yn.length c5)).setCell ⟨wr.heap.size, 1, none⟩ (.string ⟨#[]⟩)).setCell ⟨wr.heap.size, 2, none⟩ (.int .i64 yc)).frozen? ⟨w3.heap.size, 0, none⟩ = false := HKX6.out.free
      clear kyE kxE krE
      by_cases hyc : yc = 0
      · subst hyc
        go_wp2
        go_roundw
        case rel =>
          refine ⟨k + 1, A5, c5, w5.heap.size, wE.heap.size, by omega, by go_num, .inl (by omega), by rw [HNX.out], HCN.out (by first | rfl | trivial), ?_, ?_, .inl (by omega), by omega, by first | (simp [World.setCell]; done) | (simp [World.setCell]; omega), HB6.out.setCell (p := ⟨w3.heap.size, 0, none⟩) (by dsimp only; omega) _, by first | (simp [World.setCell]; done) | (simp [World.setCell]; omega)⟩
          · rw [HNX.out]; exact HKX6.out.set (j := 0) _
          · rw [HNX.out]; exact HO6.out.same fun j h1 h2 => Below.heap_setCell _ _ _ _ (by dsimp only; omega)
        case measure => first | (simp [intOf]; done) | (simp [intOf]; omega)
      · have HE := Lib.hid (HF.out hyc)
        have hyc' : (yc == 0) = false := by simpa using hyc
        go_wp2_with fail
        refine (l02Ill_any yc _).mono ?_
        rintro e w8 ⟨rfl, hb8⟩
        obtain ⟨d0, d1, d2, fd0, fd1, fd2⟩ := blk3 (HR6.out.below hb8 HR6.out.lt)
        have HB8 := Lib.hid (HB2.out.trans ((HB6.out.trans (hb8.mono HB6.out.size)).mono HB2.out.size))
        clear hb8
        go_wp2
        refine bodyPost_ret (v := .agg #[.slice none 0 0, .string ⟨#[]⟩, .int .i64 yc]) (by simp [results, Tryz.results74, go_sem, d0, d1, d2]) rfl ?_
        rw [HE.out]
        exact ⟨none, 0, rfl, ow_nil _ _ _ _, ((HB8.out.setCell (p := ⟨w.heap.size + 1 + 1, 0, none⟩) (by dsimp only; omega) _).setCell (p := ⟨w.heap.size + 1 + 1, 1, none⟩) (by dsimp only; omega) _).setCell (p := ⟨w.heap.size + 1 + 1, 2, none⟩) (by dsimp only; omega) _⟩


set_option maxHeartbeats 8000000 in
set_option maxRecDepth 100000 in
theorem spec_moveOut (A : Option Addr) (n ca : Nat) (X : List Bk) (bi steps : Int) (w : World) (hX : Small X) (hA : RdBk w w.heap.size A n X) :
    Calls Tryz.prog 11 #[.agg #[.slice A n ca], .int .i64 bi, .int .i64 steps] w (RetAns w (movAns X bi steps)) := by
  have HL := Lib.hid hA.1
  have HA := Lib.hid hA; have HX := Lib.hid hX; clear hA hX
  go_enter Tryz.func11, Tryz.ntmps11
  go_wp2_with fail
  have hb0 : Below w.heap.size w ((w.alloc (.cells #[.slice A n ca] 28)).alloc (.cells #[.slice none 0 0, .string ⟨#[]⟩, .int .i64 0] 30)) := ((Below.refl _ _).alloc (Nat.le_refl _) _).alloc (by simp) _
  have k0 := (isBlk_new w 28 [.slice A n ca]).alloc (.cells #[.slice none 0 0, .string ⟨#[]⟩, .int .i64 0] 30)
  have k1 := isBlk_new (w.alloc (.cells #[.slice A n ca] 28)) 30 [.slice none 0 0, .string ⟨#[]⟩, .int .i64 0]
  change IsBlk ((w.alloc (.cells #[.slice A n ca] 28)).alloc (.cells #[.slice none 0 0, .string ⟨#[]⟩, .int .i64 0] 30)) _ _ _ at k0 k1
  rw [size_alloc] at k1
  generalize (w.alloc (.cells #[.slice A n ca] 28)).alloc (.cells #[.slice none 0 0, .string ⟨#[]⟩, .int .i64 0] 30) = W0 at hb0 k0 k1 ⊢
  refine (spec_l02Code A n ca X bi W0 HX.out (rd_step HA.out hb0)).mono ?_
  rintro e W ⟨rfl, hbW⟩
  have HK1 := Lib.hid (k0.below hbW k0.lt); have HR1 := Lib.hid (k1.below hbW k1.lt)
  have HB1 := Lib.hid (bel_step hb0 hbW)
  have hlR := HR1.out.lt
  clear hb0 k0 k1 hbW
  by_cases hbc : blkCode X bi = 0
  case neg =>
    have HC := Lib.hid (movAns_blk (steps := steps) hbc)
    have hne : (blkCode X bi == 0) = false := by simpa using hbc
    clear HL
    generalize blkCode X bi = bc at *
    go_wp2_with fail
    refine (l02Ill_any bc _).mono ?_
    rintro e wz ⟨rfl, hbz⟩
    obtain ⟨d0, d1, d2, fd0, fd1, fd2⟩ := blk3 (HR1.out.below hbz HR1.out.lt)
    have HBz := Lib.hid (bel_step HB1.out hbz)
    clear hbz
    go_wp2
    refine bodyPost_ret (v := .agg #[.slice none 0 0, .string ⟨#[]⟩, .int .i64 bc]) (by simp [results, Tryz.results11, go_sem, d0, d1, d2]) rfl ?_
    rw [HC.out]
    exact ill_ends6 HBz.out (by omega) _ _ _
  have HBC := Lib.hid hbc
  rw [hbc]
  obtain ⟨hok, bn, rfl, hbl⟩ := blkCode_zero hbc
  have HOK := Lib.hid hok
  have hbnn : bn < n := by have := HL.out; omega
  have y0 : W.cell? ⟨w.heap.size, 0, none⟩ = some (.slice A n ca) := HK1.out.cell rfl
  clear hbc hok
  go_wp2_with fail
  refine (l05Mount_any A n ca X W HOK.out (rd_step HA.out HB1.out)).mono ?_
  rintro e w2 ⟨Ar, cr, rfl, ho2, hb2⟩
  have hb3 := box_below w2 (.cells #[.slice Ar (mntList X).length cr, .int .i64 (mntCode X)] 62)
  have HB3 := Lib.hid (bel_step (bel_step HB1.out hb2) hb3)
  have HK3 := Lib.hid ((HK1.out.below hb2 HK1.out.lt).alloc (.cells #[.slice Ar (mntList X).length cr, .int .i64 (mntCode X)] 62))
  have HR3 := Lib.hid ((HR1.out.below hb2 HR1.out.lt).alloc (.cells #[.slice Ar (mntList X).length cr, .int .i64 (mntCode X)] 62))
  have HH3 := Lib.hid (isBlk_new w2 62 [.slice Ar (mntList X).length cr, .int .i64 (mntCode X)])
  have HO3 := Lib.hid (ho2.below hb3 (Nat.le_refl _))
  have hs3 := size_alloc w2 (.cells #[.slice Ar (mntList X).length cr, .int .i64 (mntCode X)] 62)
  have hW2 := hb2.size
  change Hid (IsBlk (w2.alloc (.cells #[.slice Ar (mntList X).length cr, .int .i64 (mntCode X)] 62)) _ _ _) at HH3
  clear hb2 ho2 hb3 y0 HK1 HR1
  by_cases hz : mntCode X = 0
  case neg =>
    have HC := Lib.hid (movAns_code (steps := steps) HBC.out hz)
    have hb : (mntCode X == 0) = false := by simpa using hz
    clear HBC
    generalize mntCode X = C at *
    obtain ⟨z0, z1, -, -⟩ := blk2 HH3.out
    go_wp2_with fail
    change Calls _ _ _ (w2.alloc (.cells #[.slice Ar (mntList X).length cr, .int .i64 C] 62)) _
    generalize w2.alloc (.cells #[.slice Ar (mntList X).length cr, .int .i64 C] 62) = w3 at HB3 HK3 HR3 HH3 HO3 hs3 z0 z1 ⊢
    refine (l02Ill_any C _).mono ?_
    rintro e wz ⟨rfl, hbz⟩
    obtain ⟨d0, d1, d2, fd0, fd1, fd2⟩ := blk3 (HR3.out.below hbz HR3.out.lt)
    have HBz := Lib.hid (bel_step HB3.out hbz)
    clear hbz
    go_wp2
    refine bodyPost_ret (v := .agg #[.slice none 0 0, .string ⟨#[]⟩, .int .i64 C]) (by simp [results, Tryz.results11, go_sem, d0, d1, d2]) rfl ?_
    rw [HC.out]
    exact ill_ends6 HBz.out (by omega) _ _ _
  have HRT := Lib.hid (mnt_zero hz).2.2
  have HYO : Hid (∀ r ∈ mntList X, r.Ok) := fun r hr => by
    obtain ⟨ho, he, -⟩ := mnt_zero hz
    rw [he] at hr
    exact (mnt_upto ho X.length (Nat.le_refl _)).2 r hr
  have HST := Lib.hid (fun hv => movAns_state (steps := steps) HBC.out hz hv)
  have HRUN : Hid (mvCode (X.getD bn zeroBk) = 0 → movAns X (bn : Int) steps = gcRun X (recsAt (mntList X) (ldTo (mntList X) (sqs X n) (bn : Int) (mntList X).length)) steps (bn : Int)) := fun hv => by
    have e := movAns_run (steps := steps) HBC.out hz hv
    rw [e, ← loads_one hz, HL.out]
  rw [show ((bn : Int)).toNat = bn from rfl] at HST
  rw [hz] at HB3 HK3 HR3 HH3 HO3 hs3 ⊢
  clear hz HBC
  generalize mntList X = Y at *
  have hx3 : (w2.alloc (.cells #[.slice Ar Y.length cr, .int .i64 0] 62)).cell? ⟨w.heap.size, 0, none⟩ = some (.slice A n ca) := HK3.out.cell rfl
  obtain ⟨z0, z1, -, -⟩ := blk2 HH3.out
  have hb0 : (0 : Int) ≤ (bn : Int) := by omega
  have hb1 : (bn : Int) < (n : Int) := by omega
  obtain ⟨g0, off, pA, pc, hA', hg, hc0, hc1, hc2, hpg⟩ := (rd_step HA.out HB3.out).at hbnn
  subst hA'
  have HBO := Lib.hid (HOK.out.2 bn hbl)
  have HNU := Lib.hid (nUsed_ok (HOK.out.2 bn hbl))
  have HPG := Lib.hid hpg
  clear hpg
  generalize X.getD bn zeroBk = b at hc0 hc1 hc2 HPG HBO HST HRUN HNU
  obtain ⟨ps, er, bd⟩ := b
  simp only at hc0 hc1 hc2 HPG HNU
  have h4 := HBO.out.1
  simp only at h4
  rw [h4] at hc0 HPG
  have hu4 : uPre ps ≤ 4 := by rw [← h4]; exact uPre_le ps
  clear HBO h4
  cases bd with
  | true =>
    have HC := Lib.hid (HST.out (show mvCode ⟨ps, er, true⟩ ≠ 0 by simp [mvCode]))
    have HC : Hid (movAns X (bn : Int) steps = ill 11) := HC.out
    clear HST HRUN
    go_wp2_with fail
    change Calls _ _ _ (w2.alloc (.cells #[.slice Ar Y.length cr, .int .i64 0] 62)) _
    generalize w2.alloc (.cells #[.slice Ar Y.length cr, .int .i64 0] 62) = w3 at HB3 HK3 HR3 HH3 HO3 hs3 hx3 hc0 hc1 hc2 z0 z1 HPG ⊢
    refine (l02Ill_any 11 _).mono ?_
    rintro e wz ⟨rfl, hbz⟩
    obtain ⟨d0, d1, d2, fd0, fd1, fd2⟩ := blk3 (HR3.out.below hbz HR3.out.lt)
    have HBz := Lib.hid (bel_step HB3.out hbz)
    clear hbz
    go_wp2
    refine bodyPost_ret (v := .agg #[.slice none 0 0, .string ⟨#[]⟩, .int .i64 11]) (by simp [results, Tryz.results11, go_sem, d0, d1, d2]) rfl ?_
    rw [HC.out]
    exact ill_ends6 HBz.out (by omega) _ _ _
  | false =>
    have HMC : Hid (mvCode ⟨ps, er, false⟩ = if uPre ps = 4 then 0 else 10) := if_neg (by simp)
    go_wp2_with fail
    change Calls _ _ _ (w2.alloc (.cells #[.slice Ar Y.length cr, .int .i64 0] 62)) _
    generalize w2.alloc (.cells #[.slice Ar Y.length cr, .int .i64 0] 62) = w3 at HB3 HK3 HR3 HH3 HO3 hs3 hx3 hc0 hc1 hc2 z0 z1 HPG ⊢
    refine (l02Used_any pA 4 pc ps er false w3 (by omega) HPG.out).mono ?_
    rintro e w4 ⟨rfl, hb4⟩
    rw [HNU.out]
    have HB4 := Lib.hid (bel_step HB3.out hb4)
    have HK4 := Lib.hid (HK3.out.below hb4 HK3.out.lt); have HR4 := Lib.hid (HR3.out.below hb4 HR3.out.lt)
    have HH4 := Lib.hid (IsBlk.below (g := w2.heap.size) HH3.out hb4 (by omega))
    have HO4 := Lib.hid (HO3.out.below hb4 (by omega))
    have h34 := hb4.size
    clear hb4 hx3 hc0 hc1 hc2 z0 z1 HPG HK3 HR3 HH3 HO3 HNU
    by_cases hu : uPre ps = 4
    case neg =>
      rw [if_neg hu] at HMC
      have HC : Hid (movAns X (bn : Int) steps = ill 10) := by show _ = _; rw [HST.out (by rw [HMC.out]; decide), HMC.out]
      have hlt : (uPre ps : Int) < 4 := by omega
      clear HST HRUN HMC
      go_wp2_with fail
      refine (l02Ill_any 10 _).mono ?_
      rintro e wz ⟨rfl, hbz⟩
      obtain ⟨d0, d1, d2, fd0, fd1, fd2⟩ := blk3 (HR4.out.below hbz HR4.out.lt)
      have HBz := Lib.hid (bel_step HB4.out hbz)
      clear hbz
      go_wp2
      refine bodyPost_ret (v := .agg #[.slice none 0 0, .string ⟨#[]⟩, .int .i64 10]) (by simp [results, Tryz.results11, go_sem, d0, d1, d2]) rfl ?_
      rw [HC.out]
      exact ill_ends6 HBz.out (by omega) _ _ _
    rw [if_pos hu] at HMC
    have HC := Lib.hid (HRUN.out HMC.out)
    rw [hu]
    clear HST HRUN HMC hu hu4
    have hx4 : w4.cell? ⟨w.heap.size, 0, none⟩ = some (.slice (some ⟨g0, off, none⟩) n ca) := HK4.out.cell rfl
    obtain ⟨z0, z1, -, -⟩ := blk2 HH4.out
    go_wp2_with fail
    refine (l11Move_any _ Ar n ca Y.length cr X Y (bn : Int) steps w4 HOK.out HRT.out HYO.out (rd_step HA.out HB4.out) (HO4.out.rd (by omega))).mono ?_
    rintro e w5 ⟨A5, c5, rfl, ho5, hb5⟩
    have hlR4 := HR4.out.lt
    have HR5 := Lib.hid (HR4.out.below hb5 HR4.out.lt)
    have HB5 := Lib.hid (bel_step HB4.out hb5)
    have HO5 := Lib.hid ho5
    obtain ⟨d0, d1, d2, fd0, fd1, fd2⟩ := blk3 HR5.out
    have HGZ := Lib.hid (gcRun_data X (recsAt Y (ldTo Y (sqs X n) (bn : Int) Y.length)) steps (bn : Int))
    clear ho5 hb5 hx4 z0 z1
    generalize gcRun X (recsAt Y (ldTo Y (sqs X n) (bn : Int) Y.length)) steps (bn : Int) = y at *
    obtain ⟨yn, yd, yc⟩ := y
    simp only at *
    obtain rfl : yd = ⟨#[]⟩ := HGZ.out
    go_wp2
    refine bodyPost_ret (v := .agg #[.slice A5 yn.length c5, .string ⟨#[]⟩, .int .i64 yc]) (by simp [results, Tryz.results11, go_sem, d0, d1, d2]) rfl ?_
    rw [HC.out]
    exact ans_ends HO5.out (by omega) (by omega) (Nat.le_refl _) HB5.out (by omega) _ _ _ rfl

set_option maxHeartbeats 8000000 in
set_option maxRecDepth 100000 in
theorem spec_level (A : Option Addr) (n ca : Nat) (X : List Bk) (gap steps : Int) (w : World) (hX : Small X) (hA : RdBk w w.heap.size A n X) :
    Calls Tryz.prog 19 #[.agg #[.slice A n ca], .int .i64 gap, .int .i64 steps] w (RetAns w (levAns X gap steps)) := by
  have HL := Lib.hid hA.1
  have HA := Lib.hid hA; have HX := Lib.hid hX; clear hA hX
  go_enter Tryz.func19, Tryz.ntmps19
  go_wp2_with fail
  have hb0 : Below w.heap.size w ((w.alloc (.cells #[.slice A n ca] 28)).alloc (.cells #[.slice none 0 0, .string ⟨#[]⟩, .int .i64 0] 30)) := ((Below.refl _ _).alloc (Nat.le_refl _) _).alloc (by simp) _
  have k0 := (isBlk_new w 28 [.slice A n ca]).alloc (.cells #[.slice none 0 0, .string ⟨#[]⟩, .int .i64 0] 30)
  have k1 := isBlk_new (w.alloc (.cells #[.slice A n ca] 28)) 30 [.slice none 0 0, .string ⟨#[]⟩, .int .i64 0]
  change IsBlk ((w.alloc (.cells #[.slice A n ca] 28)).alloc (.cells #[.slice none 0 0, .string ⟨#[]⟩, .int .i64 0] 30)) _ _ _ at k0 k1
  rw [size_alloc] at k1
  generalize (w.alloc (.cells #[.slice A n ca] 28)).alloc (.cells #[.slice none 0 0, .string ⟨#[]⟩, .int .i64 0] 30) = W0 at hb0 k0 k1 ⊢
  refine (spec_nandRight A n ca X W0 HX.out (rd_step HA.out hb0)).mono ?_
  rintro e w1 ⟨rfl, hb1⟩
  have HB1 := Lib.hid (bel_step hb0 hb1)
  have HK1 := Lib.hid (k0.below hb1 k0.lt); have HR1 := Lib.hid (k1.below hb1 k1.lt)
  have hlR := HR1.out.lt
  clear hb0 k0 k1 hb1
  by_cases hg : NdOk X ∧ 0 ≤ gap
  case neg =>
    have HC := Lib.hid (levAns_no (steps := steps) hg)
    by_cases hok : NdOk X
    · have hg0 : gap < 0 := by by_cases h : 0 ≤ gap; exact absurd ⟨hok, h⟩ hg; omega
      rw [ndB_yes hok]
      clear hg hok
      go_wp2_with fail
      refine (l02Ill_any 1 _).mono ?_
      rintro e wz ⟨rfl, hbz⟩
      obtain ⟨d0, d1, d2, fd0, fd1, fd2⟩ := blk3 (HR1.out.below hbz HR1.out.lt)
      have HBz := Lib.hid (bel_step HB1.out hbz)
      clear hbz
      go_wp2
      refine bodyPost_ret (v := .agg #[.slice none 0 0, .string ⟨#[]⟩, .int .i64 1]) (by simp [results, Tryz.results19, go_sem, d0, d1, d2]) rfl ?_
      rw [HC.out]
      exact ill_ends6 HBz.out (by omega) _ _ _
    · rw [ndB_no hok]
      clear hg hok
      go_wp2_with fail
      refine (l02Ill_any 1 _).mono ?_
      rintro e wz ⟨rfl, hbz⟩
      obtain ⟨d0, d1, d2, fd0, fd1, fd2⟩ := blk3 (HR1.out.below hbz HR1.out.lt)
      have HBz := Lib.hid (bel_step HB1.out hbz)
      clear hbz
      go_wp2
      refine bodyPost_ret (v := .agg #[.slice none 0 0, .string ⟨#[]⟩, .int .i64 1]) (by simp [results, Tryz.results19, go_sem, d0, d1, d2]) rfl ?_
      rw [HC.out]
      exact ill_ends6 HBz.out (by omega) _ _ _
  have HC := Lib.hid (levAns_yes (steps := steps) hg)
  obtain ⟨hok, hg0⟩ := hg
  rw [ndB_yes hok]
  have hgl : ¬ gap < 0 := by omega
  have HRG := Lib.hid (coldS_range hok X.length (Nat.le_refl _))
  have HNE := Lib.hid (nd_er hok)
  have HIN := Lib.hid (wr_two (nd_er hok) X.length (Nat.le_refl _))
  have HOK := Lib.hid hok
  have HI : Hid (levIn X gap steps = if coldS X X.length = -1 then ill 6 else if wrHi X X.length - (X.getD (coldS X X.length).toNat zeroBk).erases ≤ gap then ill 6 else movAns X (coldS X X.length) steps) := rfl
  have hx1 : w1.cell? ⟨w.heap.size, 0, none⟩ = some (.slice A n ca) := HK1.out.cell rfl
  clear hok
  go_wp2_with fail
  refine (l11Cold_any A n ca X w1 HOK.out (rd_step HA.out HB1.out)).mono ?_
  rintro e w2 ⟨rfl, hb2⟩
  have HB2 := Lib.hid (bel_step HB1.out hb2)
  have HK2 := Lib.hid (HK1.out.below hb2 HK1.out.lt); have HR2 := Lib.hid (HR1.out.below hb2 HR1.out.lt)
  have hx2 : w2.cell? ⟨w.heap.size, 0, none⟩ = some (.slice A n ca) := HK2.out.cell rfl
  clear hb2 hx1 HK1 HR1
  go_wp2_with fail
  refine (l11Ends_any A n ca X w2 HOK.out (rd_step HA.out HB2.out)).mono ?_
  rintro e w3 ⟨rfl, hb3⟩
  have HB3 := Lib.hid (bel_step HB2.out hb3)
  have HK3 := Lib.hid (HK2.out.below hb3 HK2.out.lt); have HR3 := Lib.hid (HR2.out.below hb3 HR2.out.lt)
  have hlR3 := HR3.out.lt
  have hx3 : w3.cell? ⟨w.heap.size, 0, none⟩ = some (.slice A n ca) := HK3.out.cell rfl
  clear hb3 hx2 HK2 HR2
  rcases HRG.out with hv | ⟨bn, hbl, hv, hfb⟩
  · rw [hv]
    have HE : Hid (levIn X gap steps = ill 6) := by show _ = _; rw [HI.out, if_pos hv]
    clear HI hv HRG
    generalize wrL2 X X.length = lo at *
    generalize wrH2 X X.length = hi at *
    go_wp2_with fail
    refine (l02Ill_any 6 _).mono ?_
    rintro e wz ⟨rfl, hbz⟩
    obtain ⟨d0, d1, d2, fd0, fd1, fd2⟩ := blk3 (HR3.out.below hbz HR3.out.lt)
    have HBz := Lib.hid (bel_step HB3.out hbz)
    clear hbz
    go_wp2
    refine bodyPost_ret (v := .agg #[.slice none 0 0, .string ⟨#[]⟩, .int .i64 6]) (by simp [results, Tryz.results19, go_sem, d0, d1, d2]) rfl ?_
    rw [HC.out, HE.out]
    exact ill_ends6 HBz.out (by omega) _ _ _
  · rw [hv] at HI ⊢
    have HI2 : Hid (levIn X gap steps = if wrHi X X.length - (X.getD bn zeroBk).erases ≤ gap then ill 6 else movAns X (bn : Int) steps) := by show _ = _; rw [HI.out, if_neg (by omega)]; rfl
    have hbnn : bn < n := by have := HL.out; omega
    have her := HNE.out bn hbl
    have hbd : (X.getD bn zeroBk).bad = false := (of_decide_eq_true hfb).1
    have hih : wrH2 X X.length = wrHi X X.length ∧ 0 ≤ wrHi X X.length ∧ wrHi X X.length ≤ 1000000 := by
      rcases HIN.out with ⟨-, -, -, h⟩ | ⟨a, b, c, d⟩
      · have h1 := h bn hbl
        rw [h1] at hbd; cases hbd
      · omega
    obtain ⟨hi1, hi2, hi3⟩ := hih
    rw [hi1]
    obtain ⟨g0, off, pA, pc, hA', hg, hc0, hc1, hc2, hpg⟩ := (rd_step HA.out HB3.out).at hbnn
    subst hA'
    clear HI hv HRG HIN hpg hc0 hc2 hg hi1 hbd hfb
    generalize (X.getD bn zeroBk).erases = er at *
    generalize wrHi X X.length = gr at *
    generalize wrL2 X X.length = lo at *
    have hw : IntKind.i64.wrap (gr - er) = gr - er := IntWalk.i64_in _ (by omega)
    have hb0 : (0 : Int) ≤ (bn : Int) := by omega
    have hb1 : (bn : Int) < (n : Int) := by omega
    have hnb : ¬ (bn : Int) < 0 := by omega
    by_cases hgap : gr - er ≤ gap
    · have HE : Hid (levIn X gap steps = ill 6) := by show _ = _; rw [HI2.out, if_pos hgap]
      clear HI2
      go_wp2_with fail
      refine (l02Ill_any 6 _).mono ?_
      rintro e wz ⟨rfl, hbz⟩
      obtain ⟨d0, d1, d2, fd0, fd1, fd2⟩ := blk3 (HR3.out.below hbz HR3.out.lt)
      have HBz := Lib.hid (bel_step HB3.out hbz)
      clear hbz
      go_wp2
      refine bodyPost_ret (v := .agg #[.slice none 0 0, .string ⟨#[]⟩, .int .i64 6]) (by simp [results, Tryz.results19, go_sem, d0, d1, d2]) rfl ?_
      rw [HC.out, HE.out]
      exact ill_ends6 HBz.out (by omega) _ _ _
    · have HE : Hid (levIn X gap steps = movAns X (bn : Int) steps) := by show _ = _; rw [HI2.out, if_neg hgap]
      clear HI2
      go_wp2_with fail
      refine (spec_moveOut _ n ca X (bn : Int) steps w3 HX.out (rd_step HA.out HB3.out)).mono ?_
      rintro e w4 ⟨A5, c5, rfl, ho4, hb4⟩
      have HR4 := Lib.hid (HR3.out.below hb4 HR3.out.lt)
      have HB4 := Lib.hid (bel_step HB3.out hb4)
      have HO4 := Lib.hid ho4
      have h34 := hb4.size
      obtain ⟨d0, d1, d2, fd0, fd1, fd2⟩ := blk3 HR4.out
      have HGZ := Lib.hid (movAns_data X (bn : Int) steps)
      clear ho4 hb4 hx3 hc1
      generalize movAns X (bn : Int) steps = y at *
      obtain ⟨yn, yd, yc⟩ := y
      simp only at *
      obtain rfl : yd = ⟨#[]⟩ := HGZ.out
      go_wp2
      refine bodyPost_ret (v := .agg #[.slice A5 yn.length c5, .string ⟨#[]⟩, .int .i64 yc]) (by simp [results, Tryz.results19, go_sem, d0, d1, d2]) rfl ?_
      rw [HC.out, HE.out]
      exact ans_ends HO4.out (by omega) (by omega) (Nat.le_refl _) HB4.out (by omega) _ _ _ rfl

theorem movAns_few (X : List Bk) (b steps : Int) : Few (movAns X b steps).nd := by
  unfold movAns
  split
  · exact ill_few _
  · rename_i hb
    split
    · exact ill_few _
    · rename_i hz
      have hz' : mntCode X = 0 := by simpa using hz
      split
      · exact ill_few _
      · have hf := fun k hk => gcTo_fewer (mnt_zero hz').1 (ld_right hz' b) k hk
        unfold gcRun
        split
        · exact hf _ (Nat.min_le_left _ _)
        · split
          · exact hf _ (Nat.min_le_left _ _)
          · exact eraseAns_few _ _
theorem levAns_few (X : List Bk) (gap steps : Int) : Few (levAns X gap steps).nd := by
  unfold levAns levIn
  split
  · split
    · exact ill_few _
    · split
      · exact ill_few _
      · exact movAns_few _ _ _
  · exact ill_few _
end Go.Proofs.YtfpibbhcecdbgaaGreatDoor
