/-
  NandRight, UsedOf and FreeBlocks, of the program and of the model, and the codes with which the functions of a block begin.
-/
import Derived.Test.YtfpibbhcecdbgaaGreatDoorProg
import Derived.KernelRfl
import Derived.Test.YtfpibbhcecdbgaaGreatDoorNdArr
namespace Go.Proofs.YtfpibbhcecdbgaaGreatDoor
open Go.RowKit

theorem spec_nandRight (A : Option Addr) (n ca : Nat) (X : List Bk) (w : World) (hX : Small X) (hA : RdBk w w.heap.size A n X) :
    Calls Tryz.prog 86 #[.agg #[.slice A n ca]] w fun e w' => e = .returned (.bool (ndB X)) ∧ Below w.heap.size w w' :=
  spec_nandRight_any A n ca X w (by have := hX.1; have := hA.1; omega) (fun b hb => ⟨by have := (hX.2 b hb).1; omega, fun p hp => by have := (hX.2 b hb).2 p hp; omega⟩) hA

set_option maxHeartbeats 2000000 in
theorem impl_nandRight (A : Option Addr) (n ca : Nat) (X : List Bk) (w : World) (hX : Small X) (hA : RdBk w w.heap.size A n X) :
    Calls Tryz.prog 89 #[.agg #[.slice A n ca]] w fun e w' => e = .returned (.bool (ndB X)) ∧ Below w.heap.size w w' := by
  have hl := hA.1
  have hn : n ≤ 1048576 := by have := hX.1; omega
  have HA := Lib.hid hA; have HP := Lib.hid hX; have HL := Lib.hid hl; clear hA hX hl
  by_cases h1 : n < 1
  · have h1' : decide ((n : Int) < 1) = true := by simp; omega
    rw [ndB_no (fun h => by have := HL.out; have := h.1; omega)]
    go_enter Tryz.func89, Tryz.ntmps89
    go_wp2
    go_ret
    exact ⟨rfl, (Below.refl _ _).alloc (Nat.le_refl _) _⟩
  by_cases h2 : 12 < n
  · rw [ndB_no (fun h => by have := HL.out; have := h.1; omega)]
    go_enter Tryz.func89, Tryz.ntmps89
    go_wp2
    go_ret
    exact ⟨rfl, (Below.refl _ _).alloc (Nat.le_refl _) _⟩
  have hd1 : decide ((n : Int) < 1) = false := by simp; omega
  have hd2 : decide (12 < (n : Int)) = false := by simp; omega
  go_enter Tryz.func89, Tryz.ntmps89
  go_wp2
  generalize hW : w.alloc (.cells #[.slice A n ca] 28) = w1
  have HB1 : Hid (Below w.heap.size w w1) := by rw [← hW]; exact (Below.refl _ _).alloc (Nat.le_refl _) _
  have HK1 : Hid (IsBlk w1 w.heap.size 28 [.slice A n ca]) := by rw [← hW]; exact isBlk_new _ _ _
  clear hW
  go_loopw [17] (fun i wr => ∃ k : Nat, k ≤ n ∧ i = .int .i64 (k : Nat) ∧ (∀ i, i < k → BkOk (X.getD i zeroBk)) ∧ Below w.heap.size w wr ∧ IsBlk wr w.heap.size 28 [.slice A n ca]) (fun i _ => n - (intOf i).toNat)
  case atStart => exact ⟨0, by omega, rfl, fun i h => absurd h (by omega), HB1.out, HK1.out⟩
  case round =>
    obtain ⟨k, hk, rfl, hok, hbel, hblk⟩ := hrel
    have HOK := Lib.hid hok; have HW := Lib.hid hbel; have HK := Lib.hid hblk
    have hx0 : wr.cell? ⟨w.heap.size, 0, none⟩ = some (.slice A n ca) := hblk.cell rfl
    by_cases hlt : k < n
    · obtain ⟨g, off, pA, pc, rfl, hg, hc0, hc1, hc2, hpg⟩ := (HA.out.below hbel).at hlt
      have hkl : k < X.length := by have := HL.out; omega
      have hpl := (HP.out.2 _ (getD_lt (z := zeroBk) hkl)).1
      have HPG := Lib.hid (hpg.mono hbel.size)
      have HBAD : Hid (¬ BkOk (X.getD k zeroBk) → ndB X = false) := fun h => ndB_bad hkl h
      have HGO : Hid (BkOk (X.getD k zeroBk) → ∀ i, i < k + 1 → BkOk (X.getD i zeroBk)) := fun h i hi => by
        by_cases e : i = k
        · rw [e]; exact h
        · exact HOK.out i (by omega)
      clear hbel hblk hok hpg
      generalize X.getD k zeroBk = b at hc0 hc1 hc2 hpl HPG HBAD HGO
      obtain ⟨ps, er, bd⟩ := b
      simp only at hc0 hc1 hc2 hpl HPG
      go_wp2_with fail
      refine (blockRight_any _ _ _ ps er bd _ (by omega) HPG.out).mono ?_
      rintro e w2 ⟨rfl, hb2⟩
      have HB2 := Lib.hid (HW.out.trans (hb2.mono HW.out.size))
      have HK2 := Lib.hid (HK.out.below hb2 HK.out.lt)
      clear hb2
      by_cases hb : BkOk ⟨ps, er, bd⟩
      · rw [bkB_yes hb]
        have HG := Lib.hid (HGO.out hb); clear HGO HBAD hb
        go_wp2
        go_roundw
        case rel => exact ⟨k + 1, by omega, by go_num, HG.out, HB2.out, HK2.out⟩
        case measure => simp [intOf]; omega
      · rw [bkB_no hb]
        have HN := Lib.hid (HBAD.out hb); clear HGO HBAD hb
        go_wp2
        go_ret
        exact ⟨ret_b HN.out.symm, HB2.out⟩
    · clear hbel hblk hok
      obtain rfl : k = n := by omega
      go_wp2
      go_ret
      exact ⟨ret_b (ndB_yes ⟨⟨by have := HL.out; omega, by have := HL.out; omega⟩, fun i hi => HOK.out i (by have := HL.out; omega)⟩).symm, HW.out⟩

/-! used pages -/
def nUsed (X : List Pg) : Nat := sumTo (fun i => if (X.getD i zeroPg).used then 1 else 0) X.length
theorem nUsed_ok {b : Bk} (h : BkOk b) : nUsed b.pages = uPre b.pages := by
  obtain ⟨ps, er, bd⟩ := b
  obtain ⟨h4, -, hp⟩ := h
  obtain ⟨a, b, c, d, rfl⟩ := four_of_length h4
  have h1 := hp 1 (by omega); have h2 := hp 2 (by omega); have h3 := hp 3 (by omega)
  simp only [PgBad, not_or, not_and] at h1 h2 h3
  simp only [List.getD_eq_getElem?_getD, List.getElem?_cons_succ, List.getElem?_cons_zero, Option.getD_some] at h1 h2 h3
  obtain ⟨ua, da⟩ := a; obtain ⟨ub, db⟩ := b; obtain ⟨uc, dc⟩ := c; obtain ⟨ud, dd⟩ := d
  cases ua <;> cases ub <;> cases uc <;> cases ud <;> simp_all [nUsed, uPre, sumTo]

set_option maxHeartbeats 1000000 in
theorem l02Used_any (A : Option Addr) (n ca : Nat) (X : List Pg) (er : Int) (bad : Bool) (w : World) (hn : n ≤ 1048576) (hA : RdPg w w.heap.size A n X) :
    Calls Tryz.prog 73 #[.agg #[.slice A n ca, .int .i64 er, .bool bad]] w fun e w' => e = .returned (.int .i64 ((nUsed X : Nat) : Int)) ∧ Below w.heap.size w w' := by
  obtain ⟨f, hf⟩ : ∃ f : Nat → Nat, f = fun i => if (X.getD i zeroPg).used then 1 else 0 := ⟨_, rfl⟩
  have HS : Hid (nUsed X = sumTo f n) := by show nUsed X = _; rw [nUsed, hA.1, hf]
  have HF := Lib.hid hf; clear hf
  have HA := Lib.hid hA; clear hA
  rw [HS.out]
  have HLE : Hid (∀ k, sumTo f k ≤ k) := by
    intro k
    induction k with
    | zero => exact Nat.le_refl _
    | succ k ih => rw [sumTo, HF.out]; rw [HF.out] at ih; simp only; split <;> omega
  go_enter Tryz.func73, Tryz.ntmps73
  go_wp2
  generalize hW : w.alloc (.cells #[.slice A n ca, .int .i64 er, .bool bad] 98) = W
  have HB : Hid (Below w.heap.size w W) := by rw [← hW]; exact (Below.refl _ _).alloc (Nat.le_refl _) _
  have hk : IsBlk W w.heap.size 98 [.slice A n ca, .int .i64 er, .bool bad] := by rw [← hW]; exact isBlk_new _ _ _
  obtain ⟨c0, -, -, -, -, -⟩ := blk3 hk
  clear hW hk
  go_loop [3, 4] (fun m i => ∃ k : Nat, k ≤ n ∧ i = .int .i64 (k : Nat) ∧ m = .int .i64 ((sumTo f k : Nat) : Int)) (fun _ i => n - (intOf i).toNat)
  case atStart => exact ⟨0, by omega, rfl, rfl⟩
  case round =>
    obtain ⟨k, hk, rfl, rfl⟩ := hrel
    by_cases hlt : k < n
    · obtain ⟨g, off, rfl, hg, hc0, hc1⟩ := (HA.out.below HB.out).at hlt
      have hfk : f k = if (X.getD k zeroPg).used then 1 else 0 := by rw [HF.out]
      have HST : Hid (sumTo f (k + 1) = sumTo f k + if (X.getD k zeroPg).used then 1 else 0) := by show _ = _; rw [sumTo, hfk]
      have hle := HLE.out k
      clear hfk
      generalize (X.getD k zeroPg).used = u at hc0 HST
      generalize sumTo f k = s at hle HST
      cases u with
      | true =>
        have HST2 : Hid (sumTo f (k + 1) = s + 1) := HST.out
        clear HST
        go_wp2
        go_round
        case rel => exact ⟨k + 1, by omega, by go_num, by rw [HST2.out]; go_num⟩
        case measure => simp [intOf]; omega
      | false =>
        have HST2 : Hid (sumTo f (k + 1) = s) := HST.out
        clear HST
        go_wp2
        go_round
        case rel => exact ⟨k + 1, by omega, by go_num, by rw [HST2.out]⟩
        case measure => simp [intOf]; omega
    · obtain rfl : k = n := by omega
      go_wp2
      go_ret
      exact ⟨rfl, HB.out⟩

set_option maxHeartbeats 1000000 in
theorem l02There_any (A : Option Addr) (n ca : Nat) (bi : Int) (w : World) (hn : n ≤ 1048576) :
    Calls Tryz.prog 144 #[.agg #[.slice A n ca], .int .i64 bi] w fun e w' => e = .returned (.bool (isB 0 ((n : Int) - 1) bi)) ∧ Below w.heap.size w w' := by
  go_enter Tryz.func144, Tryz.ntmps144
  go_wp2_with fail
  refine (l02Is_any _ _ _ _).mono ?_
  rintro e w1 ⟨rfl, rfl⟩
  go_wp2
  go_ret
  exact ⟨rfl, (Below.refl _ _).alloc (Nat.le_refl _) _⟩

/-! codes and counts -/
open Classical in
noncomputable def blkCode (X : List Bk) (bi : Int) : Int := if ¬ NdOk X then 1 else if bi < 0 ∨ (X.length : Int) ≤ bi then 6 else 0
theorem blkCode_form {X : List Bk} {bi : Int} (h : ¬ NdOk X) : blkCode X bi = 1 := by simp [blkCode, h]
theorem blkCode_none {X : List Bk} {bi : Int} (h : NdOk X) (hb : bi < 0 ∨ (X.length : Int) ≤ bi) : blkCode X bi = 6 := by simp [blkCode, h, hb]
theorem blkCode_ok {X : List Bk} {bi : Int} (h : NdOk X) (h0 : 0 ≤ bi) (h1 : bi < X.length) : blkCode X bi = 0 := by
  unfold blkCode; rw [if_neg (by simpa using h), if_neg (by omega)]
open Classical in
noncomputable def usedAns (X : List Bk) (bi : Int) : Int := if NdOk X ∧ 0 ≤ bi ∧ bi < X.length then ((uPre (X.getD bi.toNat zeroBk).pages : Nat) : Int) else 0
def nFree (X : List Bk) : Nat := sumTo (fun i => if (X.getD i zeroBk).bad = false ∧ uPre (X.getD i zeroBk).pages = 0 then 1 else 0) X.length
open Classical in
noncomputable def freeAns (X : List Bk) : Int := if NdOk X then ((nFree X : Nat) : Int) else 0
theorem box_rd {w : World} {A : Option Addr} {n : Nat} {X : List Bk} (h : RdBk w w.heap.size A n X) (o : Obj) : RdBk (w.alloc o) (w.alloc o).heap.size A n X := (h.below ((Below.refl _ _).alloc (Nat.le_refl _) _)).mono (by simp)
theorem box_below (w : World) (o : Obj) : Below w.heap.size w (w.alloc o) := (Below.refl _ _).alloc (Nat.le_refl _) _
theorem bel_step {w a b : World} (h : Below w.heap.size w a) (k : Below a.heap.size a b) : Below w.heap.size w b := h.trans (k.mono h.size)
theorem rd_step {w a : World} {A : Option Addr} {n : Nat} {X : List Bk} (h : RdBk w w.heap.size A n X) (k : Below w.heap.size w a) : RdBk a a.heap.size A n X := (h.below k).mono k.size

set_option maxHeartbeats 1000000 in
theorem impl_blockCode (A : Option Addr) (n ca : Nat) (X : List Bk) (bi : Int) (w : World) (hX : Small X) (hA : RdBk w w.heap.size A n X) :
    Calls Tryz.prog 76 #[.agg #[.slice A n ca], .int .i64 bi] w fun e w' => e = .returned (.int .i64 (blkCode X bi)) ∧ Below w.heap.size w w' := by
  have hn : n ≤ 1048576 := by have := hX.1; have := hA.1; omega
  have HL := Lib.hid hA.1
  have HA := Lib.hid hA; have HX := Lib.hid hX; clear hA hX
  go_enter Tryz.func76, Tryz.ntmps76
  go_wp2_with fail
  refine (impl_nandRight A n ca X _ HX.out (box_rd HA.out _)).mono ?_
  rintro e w2 ⟨rfl, hb2⟩
  have k2 := (isBlk_new w 28 [.slice A n ca]).below hb2 (by show w.heap.size < (w.alloc _).heap.size; simp)
  have hx2 : w2.cell? ⟨w.heap.size, 0, none⟩ = some (.slice A n ca) := k2.cell rfl
  have HB2 := Lib.hid (bel_step (box_below w _) hb2)
  clear hb2 k2
  by_cases hok : NdOk X
  · rw [ndB_yes hok]
    by_cases h0 : bi < 0
    · have HC := Lib.hid (blkCode_none hok (.inl h0))
      go_wp2
      go_ret
      exact ⟨ret_i HC.out.symm, HB2.out⟩
    · have h0' : decide (bi < 0) = false := by simp; omega
      by_cases h1 : (n : Int) ≤ bi
      · have HC := Lib.hid (blkCode_none hok (bi := bi) (.inr (by rw [HL.out]; exact h1)))
        go_wp2
        go_ret
        exact ⟨ret_i HC.out.symm, HB2.out⟩
      · have HC := Lib.hid (blkCode_ok hok (bi := bi) (by omega) (by rw [HL.out]; omega))
        have h1' : decide ((n : Int) ≤ bi) = false := by simp; omega
        go_wp2
        go_ret
        exact ⟨ret_i HC.out.symm, HB2.out⟩
  · rw [ndB_no hok]
    have HC := Lib.hid (blkCode_form hok (bi := bi))
    go_wp2
    go_ret
    exact ⟨ret_i HC.out.symm, HB2.out⟩

set_option maxHeartbeats 1000000 in
theorem spec_l02Code (A : Option Addr) (n ca : Nat) (X : List Bk) (bi : Int) (w : World) (hX : Small X) (hA : RdBk w w.heap.size A n X) :
    Calls Tryz.prog 70 #[.agg #[.slice A n ca], .int .i64 bi] w fun e w' => e = .returned (.int .i64 (blkCode X bi)) ∧ Below w.heap.size w w' := by
  have hn : n ≤ 1048576 := by have := hX.1; have := hA.1; omega
  have HL := Lib.hid hA.1
  have HA := Lib.hid hA; have HX := Lib.hid hX; clear hA hX
  go_enter Tryz.func70, Tryz.ntmps70
  go_wp2_with fail
  refine (spec_nandRight A n ca X _ HX.out (box_rd HA.out _)).mono ?_
  rintro e w2 ⟨rfl, hb2⟩
  have k2 := (isBlk_new w 28 [.slice A n ca]).below hb2 (by show w.heap.size < (w.alloc _).heap.size; simp)
  have hx2 : w2.cell? ⟨w.heap.size, 0, none⟩ = some (.slice A n ca) := k2.cell rfl
  have HB2 := Lib.hid (bel_step (box_below w _) hb2)
  clear hb2 k2
  by_cases hok : NdOk X
  · rw [ndB_yes hok]
    go_wp2_with fail
    refine (l02There_any A n ca bi w2 hn).mono ?_
    rintro e w3 ⟨rfl, hb3⟩
    have HB3 := Lib.hid (bel_step HB2.out hb3)
    clear hb3
    by_cases h0 : 0 ≤ bi ∧ bi ≤ (n : Int) - 1
    · rw [isB_yes h0]
      have HC := Lib.hid (blkCode_ok hok (bi := bi) h0.1 (by rw [HL.out]; omega))
      go_wp2
      go_ret
      exact ⟨ret_i HC.out.symm, HB3.out⟩
    · rw [isB_no h0]
      have HC := Lib.hid (blkCode_none hok (bi := bi) (by rw [HL.out]; omega))
      go_wp2
      go_ret
      exact ⟨ret_i HC.out.symm, HB3.out⟩
  · rw [ndB_no hok]
    have HC := Lib.hid (blkCode_form hok (bi := bi))
    go_wp2
    go_ret
    exact ⟨ret_i HC.out.symm, HB2.out⟩

theorem usedAns_no {X : List Bk} {bi : Int} (h : ¬ (NdOk X ∧ 0 ≤ bi ∧ bi < X.length)) : usedAns X bi = 0 := by unfold usedAns; rw [if_neg h]
theorem usedAns_yes {X : List Bk} {k : Nat} (h : NdOk X) (hk : k < X.length) : usedAns X (k : Int) = ((uPre (X.getD k zeroBk).pages : Nat) : Int) := by
  unfold usedAns; rw [if_pos ⟨h, by omega, by omega⟩]; rfl

end Go.Proofs.YtfpibbhcecdbgaaGreatDoor
