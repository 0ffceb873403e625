/-
  The laws' own marks on histories and on lists of numbers: what marking makes of their memory, and that what is marked is held.
-/
import Derived.Test.YtloaeglmngcenaaGreatDoorProg
import Derived.KernelRfl
import Derived.Test.YtloaeglmngcenaaGreatDoorHsLaw
import Derived.Test.YtloaeglmngcenaaGreatDoorHsApp
import Derived.BigQuiet
import Derived.Lib.QuietBelow
namespace Go.Proofs.YtloaeglmngcenaaGreatDoor
open Go.RowKit
open Bt (Rc)

/-- the decimal digits of a number, ahead of what is there -/
def digsR : Nat → Nat → List UInt8 → List UInt8
  | 0, _, acc => acc
  | f + 1, k, acc => if k = 0 then acc else digsR f (k / 10) (UInt8.ofNat (48 + k % 10) :: acc)
def mkTR (k : Nat) : List UInt8 := if k = 0 then [109, 48] else 109 :: digsR k k []
theorem digsR_more {f k : Nat} {acc : List UInt8} (h : k ≠ 0) : digsR (f + 1) k acc = digsR f (k / 10) (UInt8.ofNat (48 + k % 10) :: acc) := by simp [digsR, h]
theorem digsR_done (f : Nat) (acc : List UInt8) : digsR f 0 acc = acc := by cases f <;> simp [digsR]

/-- 'string([]byte{c})' of a new block -/
theorem conv_oneR {P : Program} (w : World) (c : Nat) (hc : c < 256) {src dst e : TypeId} (hs : P.underlying src = some (.slice e)) (he : P.underlying e = some (.int .u8)) (hd : P.underlying dst = some .string) :
    (convert src dst (.slice (some ⟨w.heap.size, 0, none⟩) 1 1)).run P (w.alloc (.cells #[.int .u8 (c : Int)] e)) = .ok (strV [UInt8.ofNat c]) (w.alloc (.cells #[.int .u8 (c : Int)] e)) := by
  have h := isBlk_new w e [Value.int .u8 (c : Int)]
  refine conv_blk hs he hd h ⟨[], ?_⟩ rfl
  simp [byteV, Nat.mod_eq_of_lt hc]

set_option maxHeartbeats 1000000 in
set_option maxRecDepth 100000 in
theorem markText_anyR (k : Nat) (w : World) (hk : k ≤ 1073741824) :
    Calls Tryz.prog 254 #[.int .i64 (k : Int)] w fun e w' => e = .returned (strV (mkTR k)) ∧ Below w.heap.size w w' := by
  by_cases h0 : k = 0
  · subst h0
    go_enter Tryz.func254, Tryz.ntmps254
    go_wp2
    go_ret
    exact ⟨rfl, Below.refl _ _⟩
  · have HM : Hid (mkTR k = 109 :: digsR k k []) := by show mkTR k = _; simp [mkTR, h0]
    have hp : 0 < k := by omega
    have hkz : decide (k = 0) = false := by simpa using h0
    rw [HM.out]
    go_enter Tryz.func254, Tryz.ntmps254
    go_wp2
    go_loopw [0, 3] (fun l s wr => ∃ (j f : Nat) (acc : List UInt8), l = .int .i64 (j : Nat) ∧ s = strV acc ∧ j ≤ f ∧ acc.length + j ≤ k ∧ digsR f j acc = digsR k k [] ∧ Below w.heap.size w wr) (fun l _ _ => (intOf l).toNat)
    case atStart => exact ⟨k, k, [], rfl, rfl, Nat.le_refl _, by simp, rfl, Below.refl _ _⟩
    case round =>
      obtain ⟨j, f, acc, rfl, rfl, hf, hl, hdg, hbel⟩ := hrel
      have HW := Lib.hid hbel; have HD := Lib.hid hdg
      clear hbel hdg
      by_cases hj : 0 < j
      · obtain ⟨f', rfl⟩ : ∃ f', f = f' + 1 := ⟨f - 1, by omega⟩
        have hconv := conv_oneR (P := Tryz.prog) wr (48 + j % 10) (by omega) (src := 22) (dst := 9) Tryz.underlying22 Tryz.underlying5 Tryz.underlying9
        rw [show ((48 + j % 10 : Nat) : Int) = 48 + (j : Int) % 10 by omega] at hconv
        have hadd := fun W => add_str (P := Tryz.prog) W (bstr [UInt8.ofNat (48 + j % 10)]) (bstr acc) (by rw [bstr_size, bstr_size]; simp; omega)
        simp only [bstr_list] at hadd
        generalize hc : UInt8.ofNat (48 + j % 10) = c at hconv hadd
        have HC := Lib.hid hc; clear hc
        go_wp2
        go_roundw
        case rel => exact ⟨j / 10, f', c :: acc, by go_num, rfl, by omega, by simp; omega, by rw [← HD.out, digsR_more (by omega), HC.out], HW.out.alloc HW.out.size _⟩
        case measure => simp [intOf]; omega
      · obtain rfl : j = 0 := by omega
        have hadd := fun W => add_str (P := Tryz.prog) W ⟨#[109]⟩ (bstr acc) (by rw [bstr_size]; simp [ByteArray.size]; omega)
        simp only [bstr_list] at hadd
        go_wp2
        go_ret
        exact ⟨by rw [← HD.out, digsR_done]; rfl, HW.out⟩

theorem markText_5 (m : Nat) (w : World) (hk : m ≤ 1073741800) :
    Calls Tryz.prog 254 #[.int .i64 ((m : Int) + 1 + 1 + 1 + 1 + 1)] w fun e w' => e = .returned (strV (mkTR (m + 5))) ∧ Below w.heap.size w w' := by
  have h := markText_anyR (m + 5) w (by omega)
  rwa [show ((m + 5 : Nat) : Int) = (m : Int) + 1 + 1 + 1 + 1 + 1 by omega] at h

/-! records marked from k on: cell c bears the mark k + c -/
def mkR (k c : Nat) : Value := if c % 6 = 5 then strV (mkTR (k + c)) else .int .i64 ((k + c : Nat) : Int)
theorem mkR_j (k i j : Nat) (hj : j < 5) : mkR k (i * 6 + j) = .int .i64 ((k + i * 6 + j : Nat) : Int) := by unfold mkR; rw [if_neg (by omega), Nat.add_assoc]
theorem mkR_0 (k i : Nat) : mkR k (i * 6) = .int .i64 ((k + i * 6 : Nat) : Int) := mkR_j k i 0 (by omega)
theorem mkR_5 (k i : Nat) : mkR k (i * 6 + 5) = strV (mkTR (k + i * 6 + 5)) := by unfold mkR; rw [if_pos (by omega), Nat.add_assoc]

set_option maxHeartbeats 2000000 in
theorem markRecS_row (g n ca k : Nat) (f : Nat → Value) (w : World) (hn : n ≤ 1048576) (hk : k ≤ 16777216) (hA : Row w g (n * 6) f) :
    Calls Tryz.prog 209 #[.slice (some ⟨g, 0, none⟩) n ca, .int .i64 (k : Int)] w fun e w' => e = .returned (.int .i64 ((k + 6 * n : Nat) : Int)) ∧ Row w' g (n * 6) (mkR k) ∧ Btw g (g + 1) w w' := by
  have HA := Lib.hid hA; have hg := hA.lt; clear hA
  go_enter Tryz.func209, Tryz.ntmps209
  go_wp2
  go_loopw [1, 5] (fun l i wr => ∃ j : Nat, j ≤ n ∧ i = .int .i64 (j : Nat) ∧ l = .int .i64 ((k + j * 6 : Nat) : Int) ∧ Row wr g (n * 6) (upto j 6 (mkR k) f) ∧ Btw g (g + 1) w wr) (fun _ i _ => n - (intOf i).toNat)
  case atStart => exact ⟨0, by omega, rfl, by simp, HA.out.congr (fun i _ => (upto_zero i).symm), Btw.refl _ _ _⟩
  case round =>
    obtain ⟨j, hj, rfl, rfl, hr, hbel⟩ := hrel
    have HR := Lib.hid hr; have HW := Lib.hid hbel
    have hgr : g < wr.heap.size := hr.lt
    by_cases hlt : j < n
    · have hc0 := hr.cell (i := j * 6) (by omega)
      have hc1 := hr.cell (i := j * 6 + 1) (by omega)
      have hc2 := hr.cell (i := j * 6 + 2) (by omega)
      have hc3 := hr.cell (i := j * 6 + 3) (by omega)
      have hc4 := hr.cell (i := j * 6 + 4) (by omega)
      have hf0 := hr.free (j * 6)
      have hf1 := hr.free (j * 6 + 1)
      have hf2 := hr.free (j * 6 + 2)
      have hf3 := hr.free (j * 6 + 3)
      have hf4 := hr.free (j * 6 + 4)
      obtain ⟨m, hm⟩ : ∃ m, m = k + j * 6 := ⟨_, rfl⟩
      have HM := Lib.hid hm
      have hm2 : m ≤ 67108864 := by omega
      rw [← hm]
      clear hr hbel hm
      go_wp2_with fail
      refine (markText_5 m _ (by omega)).mono ?_
      rintro e w2 ⟨rfl, hb2⟩
      have hr2 := (((((HR.out.set (j * 6) (.int .i64 (m : Int))).set (j * 6 + 1) (.int .i64 ((m : Int) + 1))).set (j * 6 + 2) (.int .i64 ((m : Int) + 1 + 1))).set (j * 6 + 3) (.int .i64 ((m : Int) + 1 + 1 + 1))).set (j * 6 + 4) (.int .i64 ((m : Int) + 1 + 1 + 1 + 1))).below hb2 (by simpa [World.setCell] using hgr)
      have HB2 := Lib.hid ((((((HW.out.setCell (p := ⟨g, j * 6, none⟩) (.inl ⟨by simp, by simp⟩) (.int .i64 (m : Int))).setCell (p := ⟨g, j * 6 + 1, none⟩) (.inl ⟨by simp, by simp⟩) (.int .i64 ((m : Int) + 1))).setCell (p := ⟨g, j * 6 + 2, none⟩) (.inl ⟨by simp, by simp⟩) (.int .i64 ((m : Int) + 1 + 1))).setCell (p := ⟨g, j * 6 + 3, none⟩) (.inl ⟨by simp, by simp⟩) (.int .i64 ((m : Int) + 1 + 1 + 1))).setCell (p := ⟨g, j * 6 + 4, none⟩) (.inl ⟨by simp, by simp⟩) (.int .i64 ((m : Int) + 1 + 1 + 1 + 1))).trans (Btw.of_below hb2))
      have HR2 := Lib.hid hr2
      have hc5 := hr2.cell (i := j * 6 + 5) (by omega)
      have hf5 := hr2.free (j * 6 + 5)
      clear hb2 hr2
      go_wp2
      go_roundw
      case rel =>
        have e0 := HM.out
        refine ⟨j + 1, by omega, by go_num, by go_num, (HR2.out.set _ _).congr (fun i _ => upto_set6 (by rw [mkR_0, ← e0]) (by rw [mkR_j _ _ _ (by omega), ← e0]; congr 1) (by rw [mkR_j _ _ _ (by omega), ← e0]; congr 1) (by rw [mkR_j _ _ _ (by omega), ← e0]; congr 1) (by rw [mkR_j _ _ _ (by omega), ← e0]; congr 1) (by rw [mkR_5, ← e0])), HB2.out.setCell (.inl ⟨by simp, by simp⟩) _⟩
      case measure => simp [intOf]; omega
    · clear hr hbel
      obtain rfl : j = n := by omega
      go_wp2
      go_ret
      exact ⟨ret_i (by omega), HR.out.congr (fun i hi => upto_lt hi), HW.out⟩
theorem strV_same (l : List UInt8) : ((bstr l).toList == (bstr l).toList) = true := by simp

set_option maxHeartbeats 2000000 in
theorem heldRecS_row (g n ca k : Nat) (w : World) (hn : n ≤ 1048576) (hk : k ≤ 16777216) (hA : Row w g (n * 6) (mkR k)) :
    Calls Tryz.prog 210 #[.slice (some ⟨g, 0, none⟩) n ca, .int .i64 (k : Int)] w fun e w' => e = .returned (.int .i64 ((k + 6 * n : Nat) : Int)) ∧ Below w.heap.size w w' := by
  have HA := Lib.hid hA; have hg := hA.lt; clear hA
  go_enter Tryz.func210, Tryz.ntmps210
  go_wp2
  go_loopw [1, 5] (fun l i wr => ∃ j : Nat, j ≤ n ∧ i = .int .i64 (j : Nat) ∧ l = .int .i64 ((k + j * 6 : Nat) : Int) ∧ Below w.heap.size w wr) (fun _ i _ => n - (intOf i).toNat)
  case atStart => exact ⟨0, by omega, rfl, by simp, Below.refl _ _⟩
  case round =>
    obtain ⟨j, hj, rfl, rfl, hbel⟩ := hrel
    have HW := Lib.hid hbel
    by_cases hlt : j < n
    · have hr := HA.out.below hbel hg
      have hc0 := hr.cell (i := j * 6) (by omega)
      have hc1 := hr.cell (i := j * 6 + 1) (by omega)
      have hc2 := hr.cell (i := j * 6 + 2) (by omega)
      have hc3 := hr.cell (i := j * 6 + 3) (by omega)
      have hc4 := hr.cell (i := j * 6 + 4) (by omega)
      have hc5 := hr.cell (i := j * 6 + 5) (by omega)
      rw [mkR_0] at hc0
      rw [mkR_j _ _ _ (by omega)] at hc1 hc2 hc3 hc4
      rw [mkR_5] at hc5
      obtain ⟨m, hm⟩ : ∃ m, m = k + j * 6 := ⟨_, rfl⟩
      have HM := Lib.hid hm
      have hm2 : m ≤ 67108864 := by omega
      rw [← hm] at hc0 hc1 hc2 hc3 hc4 hc5 ⊢
      rw [show ((m + 1 : Nat) : Int) = (m : Int) + 1 by omega] at hc1
      rw [show ((m + 2 : Nat) : Int) = (m : Int) + 1 + 1 by omega] at hc2
      rw [show ((m + 3 : Nat) : Int) = (m : Int) + 1 + 1 + 1 by omega] at hc3
      rw [show ((m + 4 : Nat) : Int) = (m : Int) + 1 + 1 + 1 + 1 by omega] at hc4
      clear hr hbel hm
      have hq := strV_same (mkTR (m + 5))
      generalize hT : mkTR (m + 5) = T at hc5 hq
      have HT := Lib.hid hT; clear hT
      have HMT := Lib.hid (fun W => markText_5 m W (by omega))
      rw [HT.out] at HMT
      go_wp2
      have hc5' := cell_regrown hc5
      refine wp_region_quiet_below (by kernel_rfl) (by kernel_rfl) ?_
      repeat (go_big_quiet_step ((go_at_call 254; exact Calls.regrown_of (HMT.out _))))
      refine wpQuiet_nil ?_
      intro w2 hw'
      have hb2 : Below wr.heap.size wr w2 := by obtain ⟨⟨dq, osq⟩, rfl⟩ := hw'; exact below_regrown wr dq osq
      clear hw'
      have HB2 := Lib.hid (HW.out.trans (hb2.mono HW.out.size))
      clear hb2
      go_wp2
      go_roundw
      case rel => exact ⟨j + 1, by omega, by go_num, by have := HM.out; go_num, HB2.out⟩
      case measure => simp [intOf]; omega
    · clear hbel
      obtain rfl : j = n := by omega
      go_wp2
      go_ret
      exact ⟨ret_i (by omega), HW.out⟩

/-- records marked from k on, in blocks from lo to below hi -/
def MkRc (w : World) (lo hi : Nat) (A : Option Addr) (n k : Nat) : Prop := 0 < n → ∃ g, A = some ⟨g, 0, none⟩ ∧ lo ≤ g ∧ g < hi ∧ Row w g (n * 6) (mkR k)
theorem MkRc.same {w w' : World} {lo hi n k : Nat} {A : Option Addr} (h : MkRc w lo hi A n k) (hb : ∀ j, lo ≤ j → j < hi → w'.heap[j]? = w.heap[j]?) : MkRc w' lo hi A n k :=
  fun hn => by obtain ⟨g, hA, h1, h2, hr⟩ := h hn; exact ⟨g, hA, h1, h2, hr.same (hb g h1 h2)⟩
theorem MkRc.below {w w' : World} {lo hi n k B : Nat} {A : Option Addr} (h : MkRc w lo hi A n k) (hb : Below B w w') (hB : hi ≤ B) : MkRc w' lo hi A n k :=
  h.same fun j _ hj => hb.block j (by omega)

set_option maxHeartbeats 1000000 in
theorem markRecS_any (A : Option Addr) (lo hi n ca k : Nat) (X : List Rc) (w : World) (hn : n ≤ 1048576) (hk : k ≤ 16777216) (hA : OwRc w lo hi A n X) :
    Calls Tryz.prog 209 #[.slice A n ca, .int .i64 (k : Int)] w fun e w' => e = .returned (.int .i64 ((k + 6 * n : Nat) : Int)) ∧ MkRc w' lo hi A n k ∧ Btw lo hi w w' := by
  by_cases h0 : n = 0
  · subst h0
    clear hA
    go_enter Tryz.func209, Tryz.ntmps209
    go_wp2
    refine wp_loop_rounds 1 ?_
    rw [rounds_succ]
    go_wp2
    go_ret
    exact ⟨ret_i (by omega), fun h => absurd h (by omega), Btw.refl _ _ _⟩
  · obtain ⟨g, rfl, h1, h2, hr⟩ := hA.2 (by omega)
    refine (markRecS_row g n ca k _ w hn hk hr).mono ?_
    rintro e w' ⟨rfl, hr', hb⟩
    exact ⟨rfl, fun _ => ⟨g, rfl, h1, h2, hr'⟩, hb.mono (by omega) (by omega)⟩
set_option maxHeartbeats 1000000 in
theorem heldRecS_any (A : Option Addr) (lo hi n ca k : Nat) (w : World) (hn : n ≤ 1048576) (hk : k ≤ 16777216) (hA : MkRc w lo hi A n k) :
    Calls Tryz.prog 210 #[.slice A n ca, .int .i64 (k : Int)] w fun e w' => e = .returned (.int .i64 ((k + 6 * n : Nat) : Int)) ∧ Below w.heap.size w w' := by
  by_cases h0 : n = 0
  · subst h0
    clear hA
    go_enter Tryz.func210, Tryz.ntmps210
    go_wp2
    refine wp_loop_rounds 1 ?_
    rw [rounds_succ]
    go_wp2
    go_ret
    exact ⟨ret_i (by omega), Below.refl _ _⟩
  · obtain ⟨g, rfl, h1, h2, hr⟩ := hA (by omega)
    exact heldRecS_row g n ca k w hn hk hr

set_option maxHeartbeats 1000000 in
theorem markHist_any (A : Option Addr) (lo hi n ca k : Nat) (X : List Rc) (w : World) (hn : n ≤ 1048576) (hk : k ≤ 16777216) (hh : hi ≤ w.heap.size) (hA : OwRc w lo hi A n X) :
    Calls Tryz.prog 144 #[.agg #[.slice A n ca], .int .i64 (k : Int)] w fun e w' => e = .returned (.int .i64 ((k + 6 * n : Nat) : Int)) ∧ MkRc w' lo hi A n k ∧ Btw lo hi w w' := by
  have HA := Lib.hid hA; clear hA
  go_enter Tryz.func144, Tryz.ntmps144
  go_wp2_with fail
  refine (markRecS_any A lo hi n ca k X _ hn hk (HA.out.below ((Below.refl _ _).alloc (Nat.le_refl _) _) hh)).mono ?_
  rintro e w1 ⟨rfl, h1, hb⟩
  have H1 := Lib.hid h1; have HB := Lib.hid ((Btw.of_below (lo := lo) (hi := hi) ((Below.refl w.heap.size w).alloc (Nat.le_refl _) _)).trans hb)
  clear h1 hb
  go_wp2
  go_ret
  exact ⟨rfl, H1.out, HB.out⟩
set_option maxHeartbeats 1000000 in
theorem markHistOut_any (A : Option Addr) (lo hi n ca k : Nat) (X : List Rc) (code : Int) (w : World) (hn : n ≤ 1048576) (hk : k ≤ 16777216) (hh : hi ≤ w.heap.size) (hA : OwRc w lo hi A n X) :
    Calls Tryz.prog 67 #[.agg #[.slice A n ca, .int .i64 code], .int .i64 (k : Int)] w fun e w' => e = .returned (.int .i64 ((k + 6 * n : Nat) : Int)) ∧ MkRc w' lo hi A n k ∧ Btw lo hi w w' := by
  have HA := Lib.hid hA; clear hA
  go_enter Tryz.func67, Tryz.ntmps67
  go_wp2_with fail
  refine (markHist_any A lo hi n ca k X _ hn hk (by simp; omega) (HA.out.below ((Below.refl _ _).alloc (Nat.le_refl _) _) hh)).mono ?_
  rintro e w1 ⟨rfl, h1, hb⟩
  have H1 := Lib.hid h1; have HB := Lib.hid ((Btw.of_below (lo := lo) (hi := hi) ((Below.refl w.heap.size w).alloc (Nat.le_refl _) _)).trans hb)
  clear h1 hb
  go_wp2
  go_ret
  exact ⟨rfl, H1.out, HB.out⟩
set_option maxHeartbeats 1000000 in
theorem heldHist_any (A : Option Addr) (lo hi n ca k : Nat) (w : World) (hn : n ≤ 1048576) (hk : k ≤ 16777216) (hh : hi ≤ w.heap.size) (hA : MkRc w lo hi A n k) :
    Calls Tryz.prog 145 #[.agg #[.slice A n ca], .int .i64 (k : Int)] w fun e w' => e = .returned (.int .i64 ((k + 6 * n : Nat) : Int)) ∧ Below w.heap.size w w' := by
  have HA := Lib.hid hA; clear hA
  go_enter Tryz.func145, Tryz.ntmps145
  go_wp2_with fail
  refine (heldRecS_any A lo hi n ca k _ hn hk (HA.out.below ((Below.refl _ _).alloc (Nat.le_refl _) _) hh)).mono ?_
  rintro e w1 ⟨rfl, hb⟩
  have HB := Lib.hid (((Below.refl w.heap.size w).alloc (Nat.le_refl _) _).trans (hb.mono (by simp)))
  clear hb
  go_wp2
  go_ret
  exact ⟨rfl, HB.out⟩
set_option maxHeartbeats 1000000 in
theorem heldHistOut_any (A : Option Addr) (lo hi n ca k : Nat) (code : Int) (w : World) (hn : n ≤ 1048576) (hk : k ≤ 16777216) (hh : hi ≤ w.heap.size) (hA : MkRc w lo hi A n k) :
    Calls Tryz.prog 68 #[.agg #[.slice A n ca, .int .i64 code], .int .i64 (k : Int)] w fun e w' => e = .returned (.int .i64 ((k + 6 * n : Nat) : Int)) ∧ Below w.heap.size w w' := by
  have HA := Lib.hid hA; clear hA
  go_enter Tryz.func68, Tryz.ntmps68
  go_wp2_with fail
  refine (heldHist_any A lo hi n ca k _ hn hk (by simp; omega) (HA.out.below ((Below.refl _ _).alloc (Nat.le_refl _) _) hh)).mono ?_
  rintro e w1 ⟨rfl, hb⟩
  have HB := Lib.hid (((Below.refl w.heap.size w).alloc (Nat.le_refl _) _).trans (hb.mono (by simp)))
  clear hb
  go_wp2
  go_ret
  exact ⟨rfl, HB.out⟩

set_option maxHeartbeats 1000000 in
theorem eqHistOut_same (A B : Option Addr) (n ca cb : Nat) (X : List Rc) (code : Int) (w : World) (hn : n ≤ 2147483648) (hA : RdRc w w.heap.size A n X) (hB : RdRc w w.heap.size B n X) :
    Calls Tryz.prog 64 #[.agg #[.slice A n ca, .int .i64 code], .agg #[.slice B n cb, .int .i64 code]] w fun e w' => e = .returned (.bool true) ∧ Below w.heap.size w w' := by
  have HA := Lib.hid hA; have HB := Lib.hid hB; clear hA hB
  go_enter Tryz.func64, Tryz.ntmps64
  go_wp2_with fail
  have hb0 : Below w.heap.size w ((w.alloc (.cells #[.slice A n ca, .int .i64 code] 31)).alloc (.cells #[.slice B n cb, .int .i64 code] 31)) := ((Below.refl _ _).alloc (Nat.le_refl _) _).alloc (by simp) _
  have k0 := (isBlk_new w 31 [.slice A n ca, .int .i64 code]).alloc (.cells #[.slice B n cb, .int .i64 code] 31)
  have k1 := isBlk_new (w.alloc (.cells #[.slice A n ca, .int .i64 code] 31)) 31 [.slice B n cb, .int .i64 code]
  rw [size_alloc] at k1
  change IsBlk ((w.alloc (.cells #[.slice A n ca, .int .i64 code] 31)).alloc (.cells #[.slice B n cb, .int .i64 code] 31)) _ _ _ at k0
  change IsBlk ((w.alloc (.cells #[.slice A n ca, .int .i64 code] 31)).alloc (.cells #[.slice B n cb, .int .i64 code] 31)) _ _ _ at k1
  refine (eqHist_same A B n ca cb X _ hn (HA.out.next hb0) (HB.out.next hb0)).mono ?_
  rintro e w1 ⟨rfl, hb⟩
  have HB1 := Lib.hid (hb0.trans (hb.mono hb0.size))
  obtain ⟨a0, a1, -, -⟩ := blk2 (k0.below hb k0.lt)
  obtain ⟨b0, b1, -, -⟩ := blk2 (k1.below hb k1.lt)
  clear hb hb0 k0 k1
  go_wp2
  go_ret
  exact ⟨rfl, HB1.out⟩
end Go.Proofs.YtloaeglmngcenaaGreatDoor
