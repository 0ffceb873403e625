/-
  The laws' own marks on lists of delta operations: what marking makes of their memory, and that what is marked is held; the comparison of answers.
-/
import Derived.Test.YtpgemeojhbeooaaDoorProg
import Derived.KernelRfl
import Derived.Test.YtpgemeojhbeooaaDoorDlLaw
import Derived.BigQuiet
import Derived.Lib.QuietBelow
namespace Go.Proofs.YtpgemeojhbeooaaDoor
open Go.RowKit
open Bt (Dop)

/-- the decimal digits of a number, ahead of what is there -/
def digsD : Nat → Nat → List UInt8 → List UInt8
  | 0, _, acc => acc
  | f + 1, k, acc => if k = 0 then acc else digsD f (k / 10) (UInt8.ofNat (48 + k % 10) :: acc)
def mkTD (k : Nat) : List UInt8 := if k = 0 then [109, 48] else 109 :: digsD k k []
theorem digsD_more {f k : Nat} {acc : List UInt8} (h : k ≠ 0) : digsD (f + 1) k acc = digsD f (k / 10) (UInt8.ofNat (48 + k % 10) :: acc) := by simp [digsD, h]
theorem digsD_done (f : Nat) (acc : List UInt8) : digsD f 0 acc = acc := by cases f <;> simp [digsD]

/-- 'string([]byte{c})' of a new block -/
theorem conv_oneD {P : Program} (w : World) (c : Nat) (hc : c < 256) {src dst e : TypeId} (hs : P.underlying src = some (.slice e)) (he : P.underlying e = some (.int .u8)) (hd : P.underlying dst = some .string) :
    (convert src dst (.slice (some ⟨w.heap.size, 0, none⟩) 1 1)).run P (w.alloc (.cells #[.int .u8 (c : Int)] e)) = .ok (strV [UInt8.ofNat c]) (w.alloc (.cells #[.int .u8 (c : Int)] e)) := by
  have h := isBlk_new w e [Value.int .u8 (c : Int)]
  refine conv_blk hs he hd h ⟨[], ?_⟩ rfl
  simp [byteV, Nat.mod_eq_of_lt hc]

set_option maxHeartbeats 1000000 in
set_option maxRecDepth 100000 in
theorem markText_anyD (k : Nat) (w : World) (hk : k ≤ 1073741824) :
    Calls Tryd.prog 66 #[.int .i64 (k : Int)] w fun e w' => e = .returned (strV (mkTD k)) ∧ Below w.heap.size w w' := by
  by_cases h0 : k = 0
  · subst h0
    go_enter Tryd.func66, Tryd.ntmps66
    go_wp2
    go_ret
    exact ⟨rfl, Below.refl _ _⟩
  · have HM : Hid (mkTD k = 109 :: digsD k k []) := by show mkTD k = _; simp [mkTD, h0]
    have hp : 0 < k := by omega
    have hkz : decide (k = 0) = false := by simpa using h0
    rw [HM.out]
    go_enter Tryd.func66, Tryd.ntmps66
    go_wp2
    go_loopw [0, 3] (fun l s wr => ∃ (j f : Nat) (acc : List UInt8), l = .int .i64 (j : Nat) ∧ s = strV acc ∧ j ≤ f ∧ acc.length + j ≤ k ∧ digsD f j acc = digsD k k [] ∧ Below w.heap.size w wr) (fun l _ _ => (intOf l).toNat)
    case atStart => exact ⟨k, k, [], rfl, rfl, Nat.le_refl _, by simp, rfl, Below.refl _ _⟩
    case round =>
      obtain ⟨j, f, acc, rfl, rfl, hf, hl, hdg, hbel⟩ := hrel
      have HW := Lib.hid hbel; have HD := Lib.hid hdg
      clear hbel hdg
      by_cases hj : 0 < j
      · obtain ⟨f', rfl⟩ : ∃ f', f = f' + 1 := ⟨f - 1, by omega⟩
        have hconv := conv_oneD (P := Tryd.prog) wr (48 + j % 10) (by omega) (src := 22) (dst := 9) Tryd.underlying22 Tryd.underlying5 Tryd.underlying9
        rw [show ((48 + j % 10 : Nat) : Int) = 48 + (j : Int) % 10 by omega] at hconv
        have hadd := fun W => add_str (P := Tryd.prog) W (bstr [UInt8.ofNat (48 + j % 10)]) (bstr acc) (by rw [bstr_size, bstr_size]; simp; omega)
        simp only [bstr_list] at hadd
        generalize hc : UInt8.ofNat (48 + j % 10) = c at hconv hadd
        have HC := Lib.hid hc; clear hc
        go_wp2
        go_roundw
        case rel => exact ⟨j / 10, f', c :: acc, by go_num, rfl, by omega, by simp; omega, by rw [← HD.out, digsD_more (by omega), HC.out], HW.out.alloc HW.out.size _⟩
        case measure => simp [intOf]; omega
      · obtain rfl : j = 0 := by omega
        have hadd := fun W => add_str (P := Tryd.prog) W ⟨#[109]⟩ (bstr acc) (by rw [bstr_size]; simp [ByteArray.size]; omega)
        simp only [bstr_list] at hadd
        go_wp2
        go_ret
        exact ⟨by rw [← HD.out, digsD_done]; rfl, HW.out⟩
theorem markText_2D (m : Nat) (w : World) (hk : m ≤ 1073741800) :
    Calls Tryd.prog 66 #[.int .i64 ((m : Int) + 1 + 1)] w fun e w' => e = .returned (strV (mkTD (m + 2))) ∧ Below w.heap.size w w' := by
  have h := markText_anyD (m + 2) w (by omega)
  rwa [show ((m + 2 : Nat) : Int) = (m : Int) + 1 + 1 by omega] at h

/-! operations marked from k on: cell c bears the mark k + c -/
def mkD (k c : Nat) : Value := if c % 3 = 2 then strV (mkTD (k + c)) else .int .i64 ((k + c : Nat) : Int)
theorem mkD_j (k i j : Nat) (hj : j < 2) : mkD k (i * 3 + j) = .int .i64 ((k + i * 3 + j : Nat) : Int) := by unfold mkD; rw [if_neg (by omega), Nat.add_assoc]
theorem mkD_0 (k i : Nat) : mkD k (i * 3) = .int .i64 ((k + i * 3 : Nat) : Int) := mkD_j k i 0 (by omega)
theorem mkD_2 (k i : Nat) : mkD k (i * 3 + 2) = strV (mkTD (k + i * 3 + 2)) := by unfold mkD; rw [if_pos (by omega), Nat.add_assoc]

set_option maxHeartbeats 2000000 in
theorem markDops_row (g n ca k : Nat) (f : Nat → Value) (w : World) (hn : n ≤ 1048576) (hk : k ≤ 16777216) (hA : Row w g (n * 3) f) :
    Calls Tryd.prog 46 #[.slice (some ⟨g, 0, none⟩) n ca, .int .i64 (k : Int)] w fun e w' => e = .returned (.int .i64 ((k + 3 * n : Nat) : Int)) ∧ Row w' g (n * 3) (mkD k) ∧ Btw g (g + 1) w w' := by
  have HA := Lib.hid hA; have hg := hA.lt; clear hA
  go_enter Tryd.func46, Tryd.ntmps46
  go_wp2
  go_loopw [1, 5] (fun l i wr => ∃ j : Nat, j ≤ n ∧ i = .int .i64 (j : Nat) ∧ l = .int .i64 ((k + j * 3 : Nat) : Int) ∧ Row wr g (n * 3) (upto j 3 (mkD k) f) ∧ Btw g (g + 1) w wr) (fun _ i _ => n - (intOf i).toNat)
  case atStart => exact ⟨0, by omega, rfl, by simp, HA.out.congr (fun i _ => (upto_zero i).symm), Btw.refl _ _ _⟩
  case round =>
    obtain ⟨j, hj, rfl, rfl, hr, hbel⟩ := hrel
    have HR := Lib.hid hr; have HW := Lib.hid hbel
    have hgr : g < wr.heap.size := hr.lt
    by_cases hlt : j < n
    · have hc0 := hr.cell (i := j * 3) (by omega)
      have hc1 := hr.cell (i := j * 3 + 1) (by omega)
      have hf0 := hr.free (j * 3)
      have hf1 := hr.free (j * 3 + 1)
      obtain ⟨m, hm⟩ : ∃ m, m = k + j * 3 := ⟨_, rfl⟩
      have HM := Lib.hid hm
      have hm2 : m ≤ 67108864 := by omega
      rw [← hm]
      clear hr hbel hm
      go_wp2_with fail
      refine (markText_2D m _ (by omega)).mono ?_
      rintro e w2 ⟨rfl, hb2⟩
      have hr2 := ((HR.out.set (j * 3) (.int .i64 (m : Int))).set (j * 3 + 1) (.int .i64 ((m : Int) + 1))).below hb2 (by simpa [World.setCell] using hgr)
      have HB2 := Lib.hid (((HW.out.setCell (p := ⟨g, j * 3, none⟩) (.inl ⟨by simp, by simp⟩) (.int .i64 (m : Int))).setCell (p := ⟨g, j * 3 + 1, none⟩) (.inl ⟨by simp, by simp⟩) (.int .i64 ((m : Int) + 1))).trans (Btw.of_below hb2))
      have HR2 := Lib.hid hr2
      have hc5 := hr2.cell (i := j * 3 + 2) (by omega)
      have hf5 := hr2.free (j * 3 + 2)
      clear hb2 hr2
      go_wp2
      go_roundw
      case rel =>
        have e0 := HM.out
        refine ⟨j + 1, by omega, by go_num, by go_num, (HR2.out.set _ _).congr (fun i _ => upto_set3 (by rw [mkD_0, ← e0]) (by rw [mkD_j _ _ _ (by omega), ← e0]; congr 1) (by rw [mkD_2, ← e0])), HB2.out.setCell (.inl ⟨by simp, by simp⟩) _⟩
      case measure => simp [intOf]; omega
    · clear hr hbel
      obtain rfl : j = n := by omega
      go_wp2
      go_ret
      exact ⟨ret_i (by omega), HR.out.congr (fun i hi => upto_lt hi), HW.out⟩
theorem strV_sameD (l : List UInt8) : ((bstr l).toList == (bstr l).toList) = true := by simp

set_option maxHeartbeats 2000000 in
theorem heldDops_row (g n ca k : Nat) (w : World) (hn : n ≤ 1048576) (hk : k ≤ 16777216) (hA : Row w g (n * 3) (mkD k)) :
    Calls Tryd.prog 47 #[.slice (some ⟨g, 0, none⟩) n ca, .int .i64 (k : Int)] w fun e w' => e = .returned (.int .i64 ((k + 3 * n : Nat) : Int)) ∧ Below w.heap.size w w' := by
  have HA := Lib.hid hA; have hg := hA.lt; clear hA
  go_enter Tryd.func47, Tryd.ntmps47
  go_wp2
  go_loopw [1, 5] (fun l i wr => ∃ j : Nat, j ≤ n ∧ i = .int .i64 (j : Nat) ∧ l = .int .i64 ((k + j * 3 : Nat) : Int) ∧ Below w.heap.size w wr) (fun _ i _ => n - (intOf i).toNat)
  case atStart => exact ⟨0, by omega, rfl, by simp, Below.refl _ _⟩
  case round =>
    obtain ⟨j, hj, rfl, rfl, hbel⟩ := hrel
    have HW := Lib.hid hbel
    by_cases hlt : j < n
    · have hr := HA.out.below hbel hg
      have hc0 := hr.cell (i := j * 3) (by omega)
      have hc1 := hr.cell (i := j * 3 + 1) (by omega)
      have hc5 := hr.cell (i := j * 3 + 2) (by omega)
      rw [mkD_0] at hc0
      rw [mkD_j _ _ _ (by omega)] at hc1
      rw [mkD_2] at hc5
      obtain ⟨m, hm⟩ : ∃ m, m = k + j * 3 := ⟨_, rfl⟩
      have HM := Lib.hid hm
      have hm2 : m ≤ 67108864 := by omega
      rw [← hm] at hc0 hc1 hc5 ⊢
      rw [show ((m + 1 : Nat) : Int) = (m : Int) + 1 by omega] at hc1
      clear hr hbel hm
      have hq := strV_sameD (mkTD (m + 2))
      generalize hT : mkTD (m + 2) = T at hc5 hq
      have HT := Lib.hid hT; clear hT
      have HMT := Lib.hid (fun W => markText_2D m W (by omega))
      rw [HT.out] at HMT
      go_wp2
      have hc5' := cell_regrown hc5
      refine wp_region_quiet_below (by kernel_rfl) (by kernel_rfl) ?_
      repeat (go_big_quiet_step ((go_at_call 66; exact Calls.regrown_of (HMT.out _))))
      refine wpQuiet_nil ?_
      intro w2 hw'
      have hb2 : Below wr.heap.size wr w2 := by obtain ⟨⟨dq, osq⟩, rfl⟩ := hw'; exact below_regrown wr dq osq
      clear hw'
      have HB2 := Lib.hid (HW.out.trans (hb2.mono HW.out.size))
      clear hb2
      go_wp2
      go_roundw
      case rel => exact ⟨j + 1, by omega, by go_num, by have := HM.out; go_num, HB2.out⟩
      case measure => simp [intOf]; omega
    · clear hbel
      obtain rfl : j = n := by omega
      go_wp2
      go_ret
      exact ⟨ret_i (by omega), HW.out⟩

/-- operations marked from k on, in blocks from lo to below hi -/
def MkDo (w : World) (lo hi : Nat) (A : Option Addr) (n k : Nat) : Prop := 0 < n → ∃ g, A = some ⟨g, 0, none⟩ ∧ lo ≤ g ∧ g < hi ∧ Row w g (n * 3) (mkD k)
theorem MkDo.same {w w' : World} {lo hi n k : Nat} {A : Option Addr} (h : MkDo w lo hi A n k) (hb : ∀ j, lo ≤ j → j < hi → w'.heap[j]? = w.heap[j]?) : MkDo w' lo hi A n k :=
  fun hn => by obtain ⟨g, hA, h1, h2, hr⟩ := h hn; exact ⟨g, hA, h1, h2, hr.same (hb g h1 h2)⟩
theorem MkDo.below {w w' : World} {lo hi n k B : Nat} {A : Option Addr} (h : MkDo w lo hi A n k) (hb : Below B w w') (hB : hi ≤ B) : MkDo w' lo hi A n k :=
  h.same fun j _ hj => hb.block j (by omega)

set_option maxHeartbeats 1000000 in
theorem markDops_any (A : Option Addr) (lo hi n ca k : Nat) (X : List Dop) (w : World) (hn : n ≤ 1048576) (hk : k ≤ 16777216) (hA : OwDo w lo hi A n X) :
    Calls Tryd.prog 46 #[.slice A n ca, .int .i64 (k : Int)] w fun e w' => e = .returned (.int .i64 ((k + 3 * n : Nat) : Int)) ∧ MkDo w' lo hi A n k ∧ Btw lo hi w w' := by
  by_cases h0 : n = 0
  · subst h0
    clear hA
    go_enter Tryd.func46, Tryd.ntmps46
    go_wp2
    refine wp_loop_rounds 1 ?_
    rw [rounds_succ]
    go_wp2
    go_ret
    exact ⟨ret_i (by omega), fun h => absurd h (by omega), Btw.refl _ _ _⟩
  · obtain ⟨g, rfl, h1, h2, hr⟩ := hA.2 (by omega)
    refine (markDops_row g n ca k _ w hn hk hr).mono ?_
    rintro e w' ⟨rfl, hr', hb⟩
    exact ⟨rfl, fun _ => ⟨g, rfl, h1, h2, hr'⟩, hb.mono (by omega) (by omega)⟩
set_option maxHeartbeats 1000000 in
theorem heldDops_any (A : Option Addr) (lo hi n ca k : Nat) (w : World) (hn : n ≤ 1048576) (hk : k ≤ 16777216) (hA : MkDo w lo hi A n k) :
    Calls Tryd.prog 47 #[.slice A n ca, .int .i64 (k : Int)] w fun e w' => e = .returned (.int .i64 ((k + 3 * n : Nat) : Int)) ∧ Below w.heap.size w w' := by
  by_cases h0 : n = 0
  · subst h0
    clear hA
    go_enter Tryd.func47, Tryd.ntmps47
    go_wp2
    refine wp_loop_rounds 1 ?_
    rw [rounds_succ]
    go_wp2
    go_ret
    exact ⟨ret_i (by omega), Below.refl _ _⟩
  · obtain ⟨g, rfl, h1, h2, hr⟩ := hA (by omega)
    exact heldDops_row g n ca k w hn hk hr

set_option maxHeartbeats 1000000 in
theorem markDOut_any (A : Option Addr) (lo hi n ca k : Nat) (X : List Dop) (code : Int) (w : World) (hn : n ≤ 1048576) (hk : k ≤ 16777216) (hh : hi ≤ w.heap.size) (hA : OwDo w lo hi A n X) :
    Calls Tryd.prog 22 #[.agg #[.slice A n ca, .int .i64 code], .int .i64 (k : Int)] w fun e w' => e = .returned (.int .i64 ((k + 3 * n : Nat) : Int)) ∧ MkDo w' lo hi A n k ∧ Btw lo hi w w' := by
  have HA := Lib.hid hA; clear hA
  go_enter Tryd.func22, Tryd.ntmps22
  go_wp2_with fail
  refine (markDops_any A lo hi n ca k X _ hn hk (HA.out.below ((Below.refl _ _).alloc (Nat.le_refl _) _) hh)).mono ?_
  rintro e w1 ⟨rfl, h1, hb⟩
  have H1 := Lib.hid h1; have HB := Lib.hid ((Btw.of_below (lo := lo) (hi := hi) ((Below.refl w.heap.size w).alloc (Nat.le_refl _) _)).trans hb)
  clear h1 hb
  go_wp2
  go_ret
  exact ⟨rfl, H1.out, HB.out⟩
set_option maxHeartbeats 1000000 in
theorem heldDOut_any (A : Option Addr) (lo hi n ca k : Nat) (code : Int) (w : World) (hn : n ≤ 1048576) (hk : k ≤ 16777216) (hh : hi ≤ w.heap.size) (hA : MkDo w lo hi A n k) :
    Calls Tryd.prog 23 #[.agg #[.slice A n ca, .int .i64 code], .int .i64 (k : Int)] w fun e w' => e = .returned (.int .i64 ((k + 3 * n : Nat) : Int)) ∧ Below w.heap.size w w' := by
  have HA := Lib.hid hA; clear hA
  go_enter Tryd.func23, Tryd.ntmps23
  go_wp2_with fail
  refine (heldDops_any A lo hi n ca k _ hn hk (HA.out.below ((Below.refl _ _).alloc (Nat.le_refl _) _) hh)).mono ?_
  rintro e w1 ⟨rfl, hb⟩
  have HB := Lib.hid (((Below.refl w.heap.size w).alloc (Nat.le_refl _) _).trans (hb.mono (by simp)))
  clear hb
  go_wp2
  go_ret
  exact ⟨rfl, HB.out⟩

set_option maxHeartbeats 1000000 in
theorem eqDOut_same (A B : Option Addr) (n ca cb : Nat) (X : List Dop) (code : Int) (w : World) (hn : n ≤ 2147483648) (hA : RdDo w w.heap.size A n X) (hB : RdDo w w.heap.size B n X) :
    Calls Tryd.prog 21 #[.agg #[.slice A n ca, .int .i64 code], .agg #[.slice B n cb, .int .i64 code]] w fun e w' => e = .returned (.bool true) ∧ Below w.heap.size w w' := by
  have HA := Lib.hid hA; have HB := Lib.hid hB; clear hA hB
  go_enter Tryd.func21, Tryd.ntmps21
  go_wp2_with fail
  have hb0 : Below w.heap.size w ((w.alloc (.cells #[.slice A n ca, .int .i64 code] 27)).alloc (.cells #[.slice B n cb, .int .i64 code] 27)) := ((Below.refl _ _).alloc (Nat.le_refl _) _).alloc (by simp) _
  have k0 := (isBlk_new w 27 [.slice A n ca, .int .i64 code]).alloc (.cells #[.slice B n cb, .int .i64 code] 27)
  have k1 := isBlk_new (w.alloc (.cells #[.slice A n ca, .int .i64 code] 27)) 27 [.slice B n cb, .int .i64 code]
  rw [size_alloc] at k1
  change IsBlk ((w.alloc (.cells #[.slice A n ca, .int .i64 code] 27)).alloc (.cells #[.slice B n cb, .int .i64 code] 27)) _ _ _ at k0
  change IsBlk ((w.alloc (.cells #[.slice A n ca, .int .i64 code] 27)).alloc (.cells #[.slice B n cb, .int .i64 code] 27)) _ _ _ at k1
  refine (eqDops_same A B n ca cb X _ hn (HA.out.next hb0) (HB.out.next hb0)).mono ?_
  rintro e w1 ⟨rfl, hb⟩
  have HB1 := Lib.hid (hb0.trans (hb.mono hb0.size))
  obtain ⟨a0, a1, -, -⟩ := blk2 (k0.below hb k0.lt)
  obtain ⟨b0, b1, -, -⟩ := blk2 (k1.below hb k1.lt)
  clear hb hb0 k0 k1
  go_wp2
  go_ret
  exact ⟨rfl, HB1.out⟩
end Go.Proofs.YtpgemeojhbeooaaDoor
