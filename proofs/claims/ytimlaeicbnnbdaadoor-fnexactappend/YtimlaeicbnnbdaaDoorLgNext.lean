/-
  NextBlock, of the program and of the model.
-/
import Derived.Test.YtimlaeicbnnbdaaDoorChecked
import Derived.Test.YtimlaeicbnnbdaaDoorLgOpen
import Derived.BigQuiet
import Derived.Lib.QuietBelow
namespace Go.Proofs.YtimlaeicbnnbdaaDoor
open Go.RowKit

set_option maxHeartbeats 1000000 in
theorem isReserve_any (n : Int) (w : World) :
    Calls Tryd.prog 59 #[.int .i64 n] w fun e w' => e = .returned (.bool (isB 0 12 n)) ∧ w = w' := by
  by_cases h1 : 0 ≤ n
  · by_cases h2 : n ≤ 12
    · rw [isB_yes ⟨h1, h2⟩]
      go_enter Tryd.func59, Tryd.ntmps59
      go_wp2
      go_ret
      exact ⟨rfl, rfl⟩
    · have h2' : decide (n ≤ 12) = false := by simpa using h2
      rw [isB_no (by omega)]
      go_enter Tryd.func59, Tryd.ntmps59
      go_wp2
      go_ret
      exact ⟨rfl, rfl⟩
  · have h1' : decide (0 ≤ n) = false := by simpa using h1
    rw [isB_no (by omega)]
    go_enter Tryd.func59, Tryd.ntmps59
    go_wp2
    go_ret
    exact ⟨rfl, rfl⟩
set_option maxHeartbeats 1000000 in
theorem l05Reserve_any (n : Int) (w : World) :
    Calls Tryd.prog 33 #[.int .i64 n] w fun e w' => e = .returned (.bool (isB 0 12 n)) ∧ w = w' := by
  go_enter Tryd.func33, Tryd.ntmps33
  go_wp2_with fail
  refine (l02Is_any _ _ _ _).mono ?_
  rintro e w1 ⟨rfl, rfl⟩
  go_wp2
  go_ret
  exact ⟨rfl, rfl⟩
theorem below_drewN {B : Nat} {w a : World} (h : Below B w a) (n : Nat) : Below B w (a.drewN n) := ⟨h.os, h.tape, h.output, h.size, h.block⟩
theorem IsBlk.drewN {w : World} {g : Nat} {e : TypeId} {cs : List Value} (h : IsBlk w g e cs) (n : Nat) : IsBlk (w.drewN n) g e cs := h

set_option maxHeartbeats 2000000 in
set_option maxRecDepth 100000 in
theorem leastErased_any (A : Option Addr) (n ca : Nat) (X : List Bk) (w : World) (hX : Small X) (hok : NdOk X) (hA : RdBk w w.heap.size A n X) :
    Calls Tryd.prog 91 #[.agg #[.slice A n ca]] w fun e w' => e = .returned (.int .i64 (leastTo X n)) ∧ Below w.heap.size w w' := by
  have hn : n ≤ 1048576 := by have := hX.1; have := hA.1; omega
  have HL := Lib.hid hA.1
  have HA := Lib.hid hA; have HX := Lib.hid hX; have HOK := Lib.hid hok
  clear hok hA hX
  go_enter Tryd.func91, Tryd.ntmps91
  go_wp2
  generalize hW : w.alloc (.cells #[.slice A n ca] 30) = w1
  have HB1 : Hid (Below w.heap.size w w1) := by rw [← hW]; exact (Below.refl _ _).alloc (Nat.le_refl _) _
  have HK1 : Hid (IsBlk w1 w.heap.size 30 [.slice A n ca]) := by rw [← hW]; exact isBlk_new _ _ _
  clear hW
  go_loopw [3, 8] (fun m i wr => ∃ k : Nat, k ≤ n ∧ i = .int .i64 (k : Nat) ∧ m = .int .i64 (leastTo X k) ∧ Below w.heap.size w wr ∧ IsBlk wr w.heap.size 30 [.slice A n ca]) (fun _ i _ => n - (intOf i).toNat)
  case atStart => exact ⟨0, by omega, rfl, rfl, HB1.out, HK1.out⟩
  case round =>
    obtain ⟨k, hk, rfl, rfl, hbel, hblk⟩ := hrel
    have HW := Lib.hid hbel; have HK := Lib.hid hblk
    have hx0 : wr.cell? ⟨w.heap.size, 0, none⟩ = some (.slice A n ca) := hblk.cell rfl
    have hrg := leastTo_range X k
    by_cases hlt : k < n
    · obtain ⟨g, off, pA, pc, rfl, hg, hc0, hc1, hc2, hpg⟩ := (HA.out.below hbel).at hlt
      have hkl : k < X.length := by have := HL.out; omega
      have HPG := Lib.hid (hpg.mono hbel.size)
      have h4 := (HOK.out.2 k hkl).1
      have HYE : Hid (fre (X.getD k zeroBk) = true → leastTo X k = -1 ∨ (X.getD k zeroBk).erases < (X.getD (leastTo X k).toNat zeroBk).erases → leastTo X (k + 1) = (k : Int)) := Lib.hid leastTo_yes
      have HBU : Hid (fre (X.getD k zeroBk) = false → leastTo X (k + 1) = leastTo X k) := Lib.hid leastTo_busy
      have HMO : Hid (leastTo X k ≠ -1 → ¬ (X.getD k zeroBk).erases < (X.getD (leastTo X k).toNat zeroBk).erases → leastTo X (k + 1) = leastTo X k) := Lib.hid leastTo_more
      clear hpg hblk
      generalize X.getD k zeroBk = b at hc0 hc1 hc2 HPG h4 HYE HBU HMO
      obtain ⟨ps, er, bd⟩ := b
      simp only at hc0 hc1 hc2 HPG h4
      obtain ⟨a, b, c, d, rfl⟩ := four_of_length h4
      clear h4
      have hgr : g < wr.heap.size := Nat.lt_of_lt_of_le hg hbel.size
      obtain ⟨z, hz⟩ : ∃ z, z = leastTo X k := ⟨_, rfl⟩
      rw [← hz] at hrg HYE HBU HMO ⊢
      have HZ : Hid (∀ l : Nat, z = (l : Int) → l < k → wr.cell? ⟨g, off + l * 3 + 1, none⟩ = some (.int .i64 (X.getD l zeroBk).erases)) := fun l _ hl => by
        obtain ⟨g', off', -, -, hA', -, -, e1, -, -⟩ := (HA.out.below hbel).at (show l < n by omega)
        cases hA'; exact e1
      clear hbel hz
      have hg1 : wr.cell? ⟨g, off + k * 3 + 1, none⟩ = some (.int .i64 er) := hc1
      go_wp2_with fail
      refine (isFree_any pA pc a b c d er bd wr HPG.out).mono ?_
      rintro e w3 ⟨rfl, hb3⟩
      have HB3 := Lib.hid (bel_step HW.out hb3)
      have HK3 := Lib.hid (HK.out.below hb3 HK.out.lt)
      have hx3 : w3.cell? ⟨w.heap.size, 0, none⟩ = some (.slice (some ⟨g, off, none⟩) n ca) := HK3.out.cell rfl
      have hg3 : w3.cell? ⟨g, off + k * 3 + 1, none⟩ = some (.int .i64 er) := (hb3.cell (p := ⟨g, off + k * 3 + 1, none⟩) hgr).trans hg1
      have HZ3 : Hid (∀ l : Nat, z = (l : Int) → l < k → w3.cell? ⟨g, off + l * 3 + 1, none⟩ = some (.int .i64 (X.getD l zeroBk).erases)) := fun l h1 h2 => (hb3.cell (p := ⟨g, off + l * 3 + 1, none⟩) hgr).trans (HZ.out l h1 h2)
      have HFR : Hid (fre ⟨[a, b, c, d], er, bd⟩ = decide (bd = false ∧ uPre [a, b, c, d] = 0)) := Lib.hid rfl
      clear hb3 hx0 hc0 hc1 hc2 hg1 HZ
      generalize decide (bd = false ∧ uPre [a, b, c, d] = 0) = fr at HFR ⊢
      cases fr with
      | false =>
        have HBU' := Lib.hid (HBU.out HFR.out)
        clear HBU HMO HYE HFR
        go_wp2
        go_roundw
        case rel => exact ⟨k + 1, by omega, by go_num, by rw [HBU'.out], HB3.out, HK3.out⟩
        case measure => simp [intOf]; omega
      | true =>
        rcases hrg with hz | ⟨hz0, hzk⟩
        · subst hz
          have HY' := Lib.hid (HYE.out HFR.out (.inl rfl))
          clear HBU HMO HYE HFR HZ3
          go_wp2
          go_quiet (fail)
          go_wp2
          go_roundw
          case rel => exact ⟨k + 1, by omega, by go_num, by rw [HY'.out], below_drewN HB3.out _, HK3.out.drewN _⟩
          case measure => simp [intOf]; omega
        · obtain ⟨l, rfl⟩ : ∃ l : Nat, z = (l : Int) := ⟨z.toNat, by omega⟩
          have hl3 := HZ3.out l rfl (by omega)
          rw [show ((l : Int)).toNat = l from rfl] at HYE HMO
          generalize (X.getD l zeroBk).erases = el at hl3 HYE HMO
          have hne : ((l : Int) == -1) = false := by first | (simp; done) | (simp; omega)
          have hk0 : (0 : Int) ≤ (k : Int) := by omega
          have hkn : (k : Int) < (n : Int) := by omega
          have hl0 : (0 : Int) ≤ (l : Int) := by omega
          have hln : (l : Int) < (n : Int) := by omega
          clear HZ3
          by_cases hlt2 : er < el
          · have HY' := Lib.hid (HYE.out HFR.out (.inr hlt2))
            clear HBU HMO HYE HFR
            go_wp2
            go_quiet (fail)
            go_wp2
            go_roundw
            case rel => exact ⟨k + 1, by omega, by go_num, by rw [HY'.out], below_drewN HB3.out _, HK3.out.drewN _⟩
            case measure => simp [intOf]; omega
          · have HM' := Lib.hid (HMO.out (by omega) (by first | exact hlt2 | (simp only [Int.not_lt]; omega) | omega))
            have hlt2' : el ≤ er := by omega
            clear HBU HMO HYE HFR
            go_wp2
            go_quiet (fail)
            go_wp2
            go_roundw
            case rel => exact ⟨k + 1, by omega, by go_num, by rw [HM'.out], below_drewN HB3.out _, HK3.out.drewN _⟩
            case measure => simp [intOf]; omega
    · clear hbel hblk
      obtain rfl : k = n := by omega
      go_wp2
      go_ret
      exact ⟨rfl, HW.out⟩

theorem leastTo_nat {X : List Bk} {k : Nat} (h : leastTo X k ≠ -1) : ∃ l : Nat, leastTo X k = (l : Int) ∧ l < k := by
  rcases leastTo_range X k with e | ⟨h0, h1⟩
  · exact absurd e h
  · exact ⟨(leastTo X k).toNat, by omega, by omega⟩

set_option maxHeartbeats 1000000 in
theorem impl_nextBlock (A : Option Addr) (n ca : Nat) (X : List Bk) (r : Int) (w : World) (hX : Small X) (hA : RdBk w w.heap.size A n X) :
    Calls Tryd.prog 60 #[.agg #[.slice A n ca], .int .i64 r] w fun e w' => e = .returned (.int .i64 (nextAns X r)) ∧ Below w.heap.size w w' := by
  have HL := Lib.hid hA.1
  have HA := Lib.hid hA; have HX := Lib.hid hX; clear hA hX
  go_enter Tryd.func60, Tryd.ntmps60
  go_wp2_with fail
  refine (impl_nandRight A n ca X _ HX.out (box_rd HA.out _)).mono ?_
  rintro e w2 ⟨rfl, hb2⟩
  have k2 := (isBlk_new w 30 [.slice A n ca]).below hb2 (by show w.heap.size < (w.alloc _).heap.size; simp)
  have hx2 : w2.cell? ⟨w.heap.size, 0, none⟩ = some (.slice A n ca) := k2.cell rfl
  have HK2 := Lib.hid k2
  have HB2 := Lib.hid (bel_step (box_below w _) hb2)
  clear hb2 k2
  by_cases hok : NdOk X
  case neg =>
    rw [ndB_no hok]
    have HC := Lib.hid (nextAns_no (r := r) hok)
    clear hok
    go_wp2
    go_ret
    exact ⟨ret_i HC.out.symm, HB2.out⟩
  rw [ndB_yes hok]
  go_wp2_with fail
  refine (isReserve_any r w2).mono ?_
  rintro e w3 ⟨rfl, rfl⟩
  by_cases hr : 0 ≤ r ∧ r ≤ 12
  case neg =>
    rw [isB_no hr]
    have HC := Lib.hid (nextAns_out (X := X) hr)
    clear hok
    go_wp2
    go_ret
    exact ⟨ret_i HC.out.symm, HB2.out⟩
  rw [isB_yes hr]
  have HC := Lib.hid (nextAns_yes hok hr)
  have HO := Lib.hid (openAns_yes hok)
  have HF := Lib.hid (freeAns_yes hok)
  have HOK := Lib.hid hok
  have HNX : Hid (nextR X r = if openR X = -1 then (if ((nFree X : Nat) : Int) ≤ r then -1 else leastTo X n) else openR X) := by show _ = _; rw [← HL.out]; rfl
  clear hok hr
  go_wp2_with fail
  refine (impl_openBlock A n ca X w2 HX.out (rd_step HA.out HB2.out)).mono ?_
  rintro e w4 ⟨rfl, hb4⟩
  rw [HO.out]
  have HB4 := Lib.hid (bel_step HB2.out hb4)
  have HK4 := Lib.hid (HK2.out.below hb4 HK2.out.lt)
  have hx4 : w4.cell? ⟨w.heap.size, 0, none⟩ = some (.slice A n ca) := HK4.out.cell rfl
  clear hb4 hx2
  obtain ⟨z, hz⟩ : ∃ z, z = openR X := ⟨_, rfl⟩
  rw [← hz] at HNX ⊢
  clear hz HO
  by_cases hz : z = -1
  case neg =>
    have hz1 : (z == -1) = false := by simpa using hz
    have hz2 : (z != -1) = true := by simpa using hz
    have HE : Hid (nextAns X r = z) := by show _ = _; rw [HC.out, HNX.out, if_neg hz]
    clear hz HC HNX
    go_wp2
    go_ret
    exact ⟨ret_i HE.out.symm, HB4.out⟩
  have HE : Hid (nextAns X r = if ((nFree X : Nat) : Int) ≤ r then -1 else leastTo X n) := by show _ = _; rw [HC.out, HNX.out, if_pos hz]
  subst hz
  clear HC HNX
  go_wp2_with fail
  refine (impl_freeBlocks A n ca X w4 HX.out (rd_step HA.out HB4.out)).mono ?_
  rintro e w5 ⟨rfl, hb5⟩
  rw [HF.out]
  have HB5 := Lib.hid (bel_step HB4.out hb5)
  have HK5 := Lib.hid (HK4.out.below hb5 HK4.out.lt)
  have hx5 : w5.cell? ⟨w.heap.size, 0, none⟩ = some (.slice A n ca) := HK5.out.cell rfl
  clear hb5 hx4 HF
  generalize nFree X = f at HE
  by_cases hf : (f : Int) ≤ r
  · have HE' : Hid (nextAns X r = -1) := by show _ = _; rw [HE.out, if_pos hf]
    clear HE
    go_wp2
    go_ret
    exact ⟨ret_i HE'.out.symm, HB5.out⟩
  · have HE' : Hid (nextAns X r = leastTo X n) := by show _ = _; rw [HE.out, if_neg hf]
    have hf' : decide ((f : Int) ≤ r) = false := by simpa using hf
    clear HE hf
    go_wp2_with fail
    refine (leastErased_any A n ca X w5 HX.out HOK.out (rd_step HA.out HB5.out)).mono ?_
    rintro e w6 ⟨rfl, hb6⟩
    have HB6 := Lib.hid (bel_step HB5.out hb6)
    clear hb6 hx5
    go_wp2
    go_ret
    exact ⟨ret_i HE'.out.symm, HB6.out⟩

set_option maxHeartbeats 4000000 in
set_option maxRecDepth 100000 in
theorem l05Next_any (A : Option Addr) (n ca : Nat) (X : List Bk) (r : Int) (w : World) (hX : Small X) (hok : NdOk X) (hA : RdBk w w.heap.size A n X) :
    Calls Tryd.prog 51 #[.agg #[.slice A n ca], .int .i64 r] w fun e w' => e = .returned (.int .i64 (nextR X r)) ∧ Below w.heap.size w w' := by
  have hn : n ≤ 1048576 := by have := hX.1; have := hA.1; omega
  have HL := Lib.hid hA.1
  have HA := Lib.hid hA; have HX := Lib.hid hX; have HOK := Lib.hid hok
  have hrg0 := openR_range X
  have HNX : Hid (nextR X r = if openR X = -1 then (if ((nFree X : Nat) : Int) ≤ r then -1 else leastTo X n) else openR X) := by show _ = _; rw [← HL.out]; rfl
  clear hok hA hX
  go_enter Tryd.func51, Tryd.ntmps51
  go_wp2_with fail
  refine (l05Open_any A n ca X _ HX.out HOK.out (box_rd HA.out _)).mono ?_
  rintro e w2 ⟨rfl, hb2⟩
  have k2 := (isBlk_new w 30 [.slice A n ca]).below hb2 (by show w.heap.size < (w.alloc _).heap.size; simp)
  have hx2 : w2.cell? ⟨w.heap.size, 0, none⟩ = some (.slice A n ca) := k2.cell rfl
  have HK2 := Lib.hid k2
  have HB2 := Lib.hid (bel_step (box_below w _) hb2)
  clear hb2 k2
  obtain ⟨z, hz⟩ : ∃ z, z = openR X := ⟨_, rfl⟩
  rw [← hz] at HNX hrg0 ⊢
  clear hz
  by_cases hz : z = -1
  case neg =>
    have hz0 : 0 ≤ z := by omega
    have HE : Hid (nextR X r = z) := by show _ = _; rw [HNX.out, if_neg hz]
    clear hz HNX hrg0
    go_wp2
    go_ret
    exact ⟨ret_i HE.out.symm, HB2.out⟩
  have HE : Hid (nextR X r = if ((nFree X : Nat) : Int) ≤ r then -1 else leastTo X n) := by show _ = _; rw [HNX.out, if_pos hz]
  subst hz
  clear HNX hrg0
  go_wp2_with fail
  refine (l02Free_any A n ca X w2 HX.out HOK.out (rd_step HA.out HB2.out)).mono ?_
  rintro e w5 ⟨rfl, hb5⟩
  have HB5 := Lib.hid (bel_step HB2.out hb5)
  have HK5 := Lib.hid (HK2.out.below hb5 HK2.out.lt)
  clear hb5 hx2
  generalize nFree X = f at HE
  by_cases hf : (f : Int) ≤ r
  · have HE' : Hid (nextR X r = -1) := by show _ = _; rw [HE.out, if_pos hf]
    clear HE
    go_wp2
    go_ret
    exact ⟨ret_i HE'.out.symm, HB5.out⟩
  have HE' : Hid (nextR X r = leastTo X n) := by show _ = _; rw [HE.out, if_neg hf]
  have hf' : decide ((f : Int) ≤ r) = false := by simpa using hf
  clear HE hf
  go_wp2
  go_loopw [5, 6] (fun m i wr => ∃ k : Nat, k ≤ n ∧ i = .int .i64 (k : Nat) ∧ m = .int .i64 (leastTo X k) ∧ Below w.heap.size w wr ∧ IsBlk wr w.heap.size 30 [.slice A n ca]) (fun _ i _ => n - (intOf i).toNat)
  case atStart => exact ⟨0, by omega, rfl, rfl, HB5.out, HK5.out⟩
  case round =>
    obtain ⟨k, hk, rfl, rfl, hbel, hblk⟩ := hrel
    have HW := Lib.hid hbel; have HK := Lib.hid hblk
    have hx0 : wr.cell? ⟨w.heap.size, 0, none⟩ = some (.slice A n ca) := hblk.cell rfl
    have hrg := leastTo_range X k
    by_cases hlt : k < n
    · obtain ⟨g, off, pA, pc, rfl, hg, hc0, hc1, hc2, hpg⟩ := (HA.out.below hbel).at hlt
      have hkl : k < X.length := by have := HL.out; omega
      have HPG := Lib.hid (hpg.mono hbel.size)
      have hpl := (HX.out.2 _ (getD_lt (z := zeroBk) hkl)).1
      have HU := Lib.hid (nUsed_ok (HOK.out.2 k hkl))
      have HYE : Hid (fre (X.getD k zeroBk) = true → leastTo X k = -1 ∨ (X.getD k zeroBk).erases < (X.getD (leastTo X k).toNat zeroBk).erases → leastTo X (k + 1) = (k : Int)) := Lib.hid leastTo_yes
      have HBU : Hid (fre (X.getD k zeroBk) = false → leastTo X (k + 1) = leastTo X k) := Lib.hid leastTo_busy
      have HMO : Hid (leastTo X k ≠ -1 → ¬ (X.getD k zeroBk).erases < (X.getD (leastTo X k).toNat zeroBk).erases → leastTo X (k + 1) = leastTo X k) := Lib.hid leastTo_more
      clear hpg hblk
      generalize X.getD k zeroBk = b at hc0 hc1 hc2 HPG hpl HU HYE HBU HMO
      obtain ⟨ps, er, bd⟩ := b
      simp only at hc0 hc1 hc2 HPG hpl HU
      obtain ⟨z, hz⟩ : ∃ z, z = leastTo X k := ⟨_, rfl⟩
      rw [← hz] at hrg HYE HBU HMO ⊢
      have HZ : Hid (∀ l : Nat, z = (l : Int) → l < k → wr.cell? ⟨g, off + l * 3 + 1, none⟩ = some (.int .i64 (X.getD l zeroBk).erases)) := fun l _ hl => by
        obtain ⟨g', off', -, -, hA', -, -, e1, -, -⟩ := (HA.out.below hbel).at (show l < n by omega)
        cases hA'; exact e1
      have hk0 : (0 : Int) ≤ (k : Int) := by omega
      have hkn : (k : Int) < (n : Int) := by omega
      clear hbel hz
      cases bd with
      | true =>
        have HBU' := Lib.hid (HBU.out (by simp [fre]))
        clear HBU HMO HYE HZ HU hrg
        go_wp2
        go_quiet (fail)
        go_wp2
        go_roundw
        case rel => exact ⟨k + 1, by omega, by go_num, by rw [HBU'.out], below_drewN HW.out _, HK.out.drewN _⟩
        case measure => simp [intOf]; omega
      | false =>
        have hx0' := cell_regrown hx0; have hc0' := cell_regrown hc0; have hc1' := cell_regrown hc1; have hc2' := cell_regrown hc2
        by_cases hu : uPre ps = 0
        case neg =>
          have HBU' := Lib.hid (HBU.out (by simp [fre, hu]))
          have HUS : Hid (∃ u : Nat, nUsed ps = u ∧ ((u : Int) == 0) = false) := ⟨nUsed ps, rfl, by rw [HU.out]; simp; omega⟩
          obtain ⟨u, hu1, hu2⟩ := HUS.out
          have HU1 := Lib.hid hu1
          clear HBU HMO HYE HZ HU HUS hrg hu1 hu
          go_wp2
          refine wp_region_quiet_below (by kernel_rfl) (by kernel_rfl) ?_
          repeat (go_big_quiet_step ((go_at_call 84; exact Calls.regrown_of ((l02Used_any _ _ _ ps _ _ _ hpl ((HPG.out.below (below_regrown _ _ _)).mono (below_regrown _ _ _).size)).mono (fun e w' h => by rw [HU1.out] at h; exact h)))))
          refine wpQuiet_nil ?_
          intro w3 hw'
          have HB3 : Hid (Below wr.heap.size wr w3) := by obtain ⟨⟨dq, osq⟩, rfl⟩ := hw'; exact below_regrown wr dq osq
          clear hw' hx0' hc0' hc1' hc2' hx0 hc0 hc1 hc2
          go_wp2
          go_roundw
          case rel => exact ⟨k + 1, by omega, by go_num, by rw [HBU'.out], bel_step HW.out HB3.out, HK.out.below HB3.out HK.out.lt⟩
          case measure => simp [intOf]; omega
        have HFR : Hid (fre ⟨ps, er, false⟩ = true) := Lib.hid (by simp [fre, hu])
        have HU0 : Hid (nUsed ps = 0) := by show _ = _; rw [HU.out, hu]
        clear hu HU HBU
        rcases hrg with hz | ⟨hz0, hzk⟩
        · subst hz
          have HY' := Lib.hid (HYE.out HFR.out (.inl rfl))
          clear HMO HYE HFR HZ
          go_wp2
          refine wp_region_quiet_below (by kernel_rfl) (by kernel_rfl) ?_
          repeat (go_big_quiet_step ((go_at_call 84; exact Calls.regrown_of ((l02Used_any _ _ _ ps _ _ _ hpl ((HPG.out.below (below_regrown _ _ _)).mono (below_regrown _ _ _).size)).mono (fun e w' h => by rw [HU0.out] at h; exact h)))))
          refine wpQuiet_nil ?_
          intro w3 hw'
          have HB3 : Hid (Below wr.heap.size wr w3) := by obtain ⟨⟨dq, osq⟩, rfl⟩ := hw'; exact below_regrown wr dq osq
          clear hw' hx0' hc0' hc1' hc2' hx0 hc0 hc1 hc2
          go_wp2
          go_roundw
          case rel => exact ⟨k + 1, by omega, by go_num, by rw [HY'.out], bel_step HW.out HB3.out, HK.out.below HB3.out HK.out.lt⟩
          case measure => simp [intOf]; omega
        · obtain ⟨l, rfl⟩ : ∃ l : Nat, z = (l : Int) := ⟨z.toNat, by omega⟩
          have hl3 := HZ.out l rfl (by omega)
          rw [show ((l : Int)).toNat = l from rfl] at HYE HMO
          generalize (X.getD l zeroBk).erases = el at hl3 HYE HMO
          have hl3' := cell_regrown hl3
          have hne : decide ((l : Int) < 0) = false := by simp
          have hl0 : (0 : Int) ≤ (l : Int) := by omega
          have hln : (l : Int) < (n : Int) := by omega
          clear HZ
          by_cases hlt2 : er < el
          · have HY' := Lib.hid (HYE.out HFR.out (.inr hlt2))
            clear HMO HYE HFR
            go_wp2
            refine wp_region_quiet_below (by kernel_rfl) (by kernel_rfl) ?_
            repeat (go_big_quiet_step ((go_at_call 84; exact Calls.regrown_of ((l02Used_any _ _ _ ps _ _ _ hpl ((HPG.out.below (below_regrown _ _ _)).mono (below_regrown _ _ _).size)).mono (fun e w' h => by rw [HU0.out] at h; exact h)))))
            refine wpQuiet_nil ?_
            intro w3 hw'
            have HB3 : Hid (Below wr.heap.size wr w3) := by obtain ⟨⟨dq, osq⟩, rfl⟩ := hw'; exact below_regrown wr dq osq
            clear hw' hx0' hc0' hc1' hc2' hx0 hc0 hc1 hc2 hl3 hl3'
            go_wp2
            go_roundw
            case rel => exact ⟨k + 1, by omega, by go_num, by rw [HY'.out], bel_step HW.out HB3.out, HK.out.below HB3.out HK.out.lt⟩
            case measure => simp [intOf]; omega
          · have HM' := Lib.hid (HMO.out (by omega) (by first | exact hlt2 | (simp only [Int.not_lt]; omega) | omega))
            have hlt2' : decide (er < el) = false := by simp; omega
            have hlt3 : el ≤ er := by omega
            clear HMO HYE HFR hlt2
            go_wp2
            refine wp_region_quiet_below (by kernel_rfl) (by kernel_rfl) ?_
            repeat (go_big_quiet_step ((go_at_call 84; exact Calls.regrown_of ((l02Used_any _ _ _ ps _ _ _ hpl ((HPG.out.below (below_regrown _ _ _)).mono (below_regrown _ _ _).size)).mono (fun e w' h => by rw [HU0.out] at h; exact h)))))
            refine wpQuiet_nil ?_
            intro w3 hw'
            have HB3 : Hid (Below wr.heap.size wr w3) := by obtain ⟨⟨dq, osq⟩, rfl⟩ := hw'; exact below_regrown wr dq osq
            clear hw' hx0' hc0' hc1' hc2' hx0 hc0 hc1 hc2 hl3 hl3'
            go_wp2
            go_roundw
            case rel => exact ⟨k + 1, by omega, by go_num, by rw [HM'.out], bel_step HW.out HB3.out, HK.out.below HB3.out HK.out.lt⟩
            case measure => simp [intOf]; omega
    · clear hbel hblk
      obtain rfl : k = n := by omega
      go_wp2
      go_ret
      exact ⟨ret_i HE'.out.symm, HW.out⟩

end Go.Proofs.YtimlaeicbnnbdaaDoor
