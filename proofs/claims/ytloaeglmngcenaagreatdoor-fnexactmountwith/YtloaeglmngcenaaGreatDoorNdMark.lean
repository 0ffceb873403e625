/-
  The laws' own marks: what markText writes, what marking a chip makes of its memory, and that what is marked is held.
-/
import Derived.Test.YtloaeglmngcenaaGreatDoorProg
import Derived.KernelRfl
import Derived.Test.YtloaeglmngcenaaGreatDoorNdMem
import Derived.BigQuiet
namespace Go.Proofs.YtloaeglmngcenaaGreatDoor
open Go.RowKit

/-- the decimal digits of a number, ahead of what is there -/
def digs : Nat → Nat → List UInt8 → List UInt8
  | 0, _, acc => acc
  | f + 1, k, acc => if k = 0 then acc else digs f (k / 10) (UInt8.ofNat (48 + k % 10) :: acc)
def mkT (k : Nat) : List UInt8 := if k = 0 then [109, 48] else 109 :: digs k k []
theorem digs_more {f k : Nat} {acc : List UInt8} (h : k ≠ 0) : digs (f + 1) k acc = digs f (k / 10) (UInt8.ofNat (48 + k % 10) :: acc) := by simp [digs, h]
theorem digs_done (f : Nat) (acc : List UInt8) : digs f 0 acc = acc := by cases f <;> simp [digs]

/-- 'string([]byte{c})' of a new block -/
theorem conv_one {P : Program} (w : World) (c : Nat) (hc : c < 256) {src dst e : TypeId} (hs : P.underlying src = some (.slice e)) (he : P.underlying e = some (.int .u8)) (hd : P.underlying dst = some .string) :
    (convert src dst (.slice (some ⟨w.heap.size, 0, none⟩) 1 1)).run P (w.alloc (.cells #[.int .u8 (c : Int)] e)) = .ok (strV [UInt8.ofNat c]) (w.alloc (.cells #[.int .u8 (c : Int)] e)) := by
  have h := isBlk_new w e [Value.int .u8 (c : Int)]
  refine conv_blk hs he hd h ⟨[], ?_⟩ rfl
  simp [byteV, Nat.mod_eq_of_lt hc]

set_option maxHeartbeats 1000000 in
set_option maxRecDepth 100000 in
theorem markText_any (k : Nat) (w : World) (hk : k ≤ 1073741824) :
    Calls Tryz.prog 254 #[.int .i64 (k : Int)] w fun e w' => e = .returned (strV (mkT k)) ∧ Below w.heap.size w w' := by
  by_cases h0 : k = 0
  · subst h0
    go_enter Tryz.func254, Tryz.ntmps254
    go_wp2
    go_ret
    exact ⟨rfl, Below.refl _ _⟩
  · have HM : Hid (mkT k = 109 :: digs k k []) := by show mkT k = _; simp [mkT, h0]
    have hp : 0 < k := by omega
    have hkz : decide (k = 0) = false := by simpa using h0
    rw [HM.out]
    go_enter Tryz.func254, Tryz.ntmps254
    go_wp2
    go_loopw [0, 3] (fun l s wr => ∃ (j f : Nat) (acc : List UInt8), l = .int .i64 (j : Nat) ∧ s = strV acc ∧ j ≤ f ∧ acc.length + j ≤ k ∧ digs f j acc = digs k k [] ∧ Below w.heap.size w wr) (fun l _ _ => (intOf l).toNat)
    case atStart => exact ⟨k, k, [], rfl, rfl, Nat.le_refl _, by simp, rfl, Below.refl _ _⟩
    case round =>
      obtain ⟨j, f, acc, rfl, rfl, hf, hl, hdg, hbel⟩ := hrel
      have HW := Lib.hid hbel; have HD := Lib.hid hdg
      clear hbel hdg
      by_cases hj : 0 < j
      · obtain ⟨f', rfl⟩ : ∃ f', f = f' + 1 := ⟨f - 1, by omega⟩
        have hconv := conv_one (P := Tryz.prog) wr (48 + j % 10) (by omega) (src := 22) (dst := 9) Tryz.underlying22 Tryz.underlying5 Tryz.underlying9
        rw [show ((48 + j % 10 : Nat) : Int) = 48 + (j : Int) % 10 by omega] at hconv
        have hadd := fun W => add_str (P := Tryz.prog) W (bstr [UInt8.ofNat (48 + j % 10)]) (bstr acc) (by rw [bstr_size, bstr_size]; simp; omega)
        simp only [bstr_list] at hadd
        generalize hc : UInt8.ofNat (48 + j % 10) = c at hconv hadd
        have HC := Lib.hid hc; clear hc
        go_wp2
        go_roundw
        case rel => exact ⟨j / 10, f', c :: acc, by go_num, rfl, by omega, by simp; omega, by rw [← HD.out, digs_more (by omega), HC.out], HW.out.alloc HW.out.size _⟩
        case measure => simp [intOf]; omega
      · obtain rfl : j = 0 := by omega
        have hadd := fun W => add_str (P := Tryz.prog) W ⟨#[109]⟩ (bstr acc) (by rw [bstr_size]; simp [ByteArray.size]; omega)
        simp only [bstr_list] at hadd
        go_wp2
        go_ret
        exact ⟨by rw [← HD.out, digs_done]; rfl, HW.out⟩

theorem markText_succ (m : Nat) (w : World) (hk : m ≤ 1073741823) :
    Calls Tryz.prog 254 #[.int .i64 ((m : Int) + 1)] w fun e w' => e = .returned (strV (mkT (m + 1))) ∧ Below w.heap.size w w' := by
  have h := markText_any (m + 1) w (by omega)
  rwa [show ((m + 1 : Nat) : Int) = (m : Int) + 1 by omega] at h

/-! pages marked from k on: cell c bears the mark k + c -/
def mkF (k c : Nat) : Value := if c % 2 = 0 then .bool (((k + c : Nat) : Int) % 3 == 0) else strV (mkT (k + c))
theorem mkF_0 (k i : Nat) : mkF k (i * 2) = .bool (((k + i * 2 : Nat) : Int) % 3 == 0) := by unfold mkF; rw [if_pos (by omega)]
theorem mkF_1 (k i : Nat) : mkF k (i * 2 + 1) = strV (mkT (k + i * 2 + 1)) := by unfold mkF; rw [if_neg (by omega), Nat.add_assoc]

set_option maxHeartbeats 1000000 in
theorem markPageS_any (g n ca k : Nat) (f : Nat → Value) (w : World) (hn : n ≤ 16777216) (hk : k ≤ 16777216) (hA : Row w g (n * 2) f) :
    Calls Tryz.prog 208 #[.slice (some ⟨g, 0, none⟩) n ca, .int .i64 (k : Int)] w fun e w' => e = .returned (.int .i64 ((k + 2 * n : Nat) : Int)) ∧ Row w' g (n * 2) (mkF k) ∧ Btw g (g + 1) w w' := by
  have HA := Lib.hid hA; have hg := hA.lt; clear hA
  go_enter Tryz.func208, Tryz.ntmps208
  go_wp2
  go_loopw [1, 5] (fun l i wr => ∃ j : Nat, j ≤ n ∧ i = .int .i64 (j : Nat) ∧ l = .int .i64 ((k + j * 2 : Nat) : Int) ∧ Row wr g (n * 2) (upto j 2 (mkF k) f) ∧ Btw g (g + 1) w wr) (fun _ i _ => n - (intOf i).toNat)
  case atStart => exact ⟨0, by omega, rfl, by simp, HA.out.congr (fun i _ => (upto_zero i).symm), Btw.refl _ _ _⟩
  case round =>
    obtain ⟨j, hj, rfl, rfl, hr, hbel⟩ := hrel
    have HR := Lib.hid hr; have HW := Lib.hid hbel
    have hgr : g < wr.heap.size := hr.lt
    by_cases hlt : j < n
    · have hc0 := hr.cell (i := j * 2) (by omega)
      have hf0 := hr.free (j * 2)
      obtain ⟨m, hm⟩ : ∃ m, m = k + j * 2 := ⟨_, rfl⟩
      have HM := Lib.hid hm
      have hm2 : m ≤ 67108864 := by omega
      rw [← hm]
      clear hr hbel hm
      go_wp2_with fail
      refine (markText_succ m _ (by omega)).mono ?_
      rintro e w2 ⟨rfl, hb2⟩
      have hr2 := (HR.out.set (j * 2) (.bool ((m : Int) % 3 == 0))).below hb2 (by simpa [World.setCell] using hgr)
      have HB2 := Lib.hid ((HW.out.setCell (p := ⟨g, j * 2, none⟩) (.inl ⟨by simp, by simp⟩) (.bool ((m : Int) % 3 == 0))).trans (Btw.of_below hb2))
      have HR2 := Lib.hid hr2
      have hc1 := hr2.cell (i := j * 2 + 1) (by omega)
      have hf1 := hr2.free (j * 2 + 1)
      clear hb2 hr2
      go_wp2
      go_roundw
      case rel => exact ⟨j + 1, by omega, by go_num, by have := HM.out; go_num, (HR2.out.set _ _).congr (fun i _ => upto_set2 (by rw [mkF_0, ← HM.out]) (by rw [mkF_1, ← HM.out])), HB2.out.setCell (.inl ⟨by simp, by simp⟩) _⟩
      case measure => simp [intOf]; omega
    · clear hr hbel
      obtain rfl : j = n := by omega
      go_wp2
      go_ret
      exact ⟨ret_i (by omega), HR.out.congr (fun i hi => upto_lt hi), HW.out⟩

/-! blocks marked from k on -/
def nPg (X : List Bk) (i : Nat) : Nat := (X.getD i zeroBk).pages.length
def kAt (X : List Bk) (k i : Nat) : Nat := k + sumTo (fun j => 2 * nPg X j + 2) i
theorem kAt_zero (X : List Bk) (k : Nat) : kAt X k 0 = k := rfl
theorem kAt_succ (X : List Bk) (k i : Nat) : kAt X k (i + 1) = kAt X k i + 2 * nPg X i + 2 := by unfold kAt; rw [sumTo]; omega
theorem kAt_mono (X : List Bk) (k : Nat) {i j : Nat} (h : i ≤ j) : kAt X k i ≤ kAt X k j := by unfold kAt; have := sumTo_mono (f := fun j => 2 * nPg X j + 2) h; omega
def mkB (pa cp : Nat → Nat) (X : List Bk) (k c : Nat) : Value :=
  if c % 3 = 0 then .slice (some ⟨pa (c / 3), 0, none⟩) (nPg X (c / 3)) (cp (c / 3)) else if c % 3 = 1 then .int .i64 ((kAt X k (c / 3) + 2 * nPg X (c / 3) : Nat) : Int)
  else .bool (((kAt X k (c / 3) + 2 * nPg X (c / 3) + 1 : Nat) : Int) % 3 == 0)
theorem mkB_0 (pa cp : Nat → Nat) (X : List Bk) (k i : Nat) : mkB pa cp X k (i * 3) = .slice (some ⟨pa i, 0, none⟩) (nPg X i) (cp i) := by
  unfold mkB; rw [if_pos (by omega), show i * 3 / 3 = i by omega]
theorem mkB_1 (pa cp : Nat → Nat) (X : List Bk) (k i : Nat) : mkB pa cp X k (i * 3 + 1) = .int .i64 ((kAt X k i + 2 * nPg X i : Nat) : Int) := by
  unfold mkB; rw [if_neg (by omega), if_pos (by omega), show (i * 3 + 1) / 3 = i by omega]
theorem mkB_2 (pa cp : Nat → Nat) (X : List Bk) (k i : Nat) : mkB pa cp X k (i * 3 + 2) = .bool (((kAt X k i + 2 * nPg X i + 1 : Nat) : Int) % 3 == 0) := by
  unfold mkB; rw [if_neg (by omega), if_neg (by omega), show (i * 3 + 2) / 3 = i by omega]

structure MkBk (w : World) (lo hi g : Nat) (pa cp : Nat → Nat) (X : List Bk) (k : Nat) : Prop where
  at_lo : lo ≤ g
  at_hi : g < hi
  row : Row w g (X.length * 3) (mkB pa cp X k)
  lo' : ∀ i, i < X.length → lo ≤ pa i ∧ pa i < hi
  pages : ∀ i, i < X.length → Row w (pa i) (nPg X i * 2) (mkF (kAt X k i))
def MkNd (w : World) (lo hi : Nat) (A : Option Addr) (n : Nat) (X : List Bk) (k : Nat) : Prop :=
  X.length = n ∧ (0 < n → ∃ g pa cp, A = some ⟨g, 0, none⟩ ∧ MkBk w lo hi g pa cp X k)
theorem MkNd.same {w w' : World} {lo hi n k : Nat} {A : Option Addr} {X : List Bk} (h : MkNd w lo hi A n X k) (hb : ∀ j, lo ≤ j → j < hi → w'.heap[j]? = w.heap[j]?) : MkNd w' lo hi A n X k :=
  ⟨h.1, fun hn => by
    obtain ⟨g, pa, cp, hA, ho⟩ := h.2 hn
    exact ⟨g, pa, cp, hA, ho.at_lo, ho.at_hi, ho.row.same (hb g ho.at_lo ho.at_hi), ho.lo', fun i hi => Row.same (ho.pages i hi) (hb _ (ho.lo' i hi).1 (ho.lo' i hi).2)⟩⟩
theorem MkNd.below {w w' : World} {lo hi n k B : Nat} {A : Option Addr} {X : List Bk} (h : MkNd w lo hi A n X k) (hb : Below B w w') (hB : hi ≤ B) : MkNd w' lo hi A n X k :=
  h.same fun j _ hj => hb.block j (by omega)

/-- the first j blocks are marked -/
structure Marking (w wr : World) (lo hi g : Nat) (pa cp : Nat → Nat) (X : List Bk) (k j : Nat) : Prop where
  at_lo : lo ≤ g
  at_hi : g < hi
  row : Row wr g (X.length * 3) (upto j 3 (mkB pa cp X k) (bkF (fun i => some ⟨pa i, 0, none⟩) cp X))
  lo' : ∀ i, i < X.length → lo ≤ pa i ∧ pa i < hi ∧ pa i ≠ g
  apart : ∀ i j, i < X.length → j < X.length → i ≠ j → pa i ≠ pa j
  done : ∀ i, i < j → Row wr (pa i) (nPg X i * 2) (mkF (kAt X k i))
  rest : ∀ i, j ≤ i → i < X.length → Row wr (pa i) (nPg X i * 2) (pgF (X.getD i zeroBk).pages)
  btw : Btw lo hi w wr
theorem Marking.more {w wr w1 : World} {lo hi g : Nat} {pa cp : Nat → Nat} {X : List Bk} {k j : Nat} (h : Marking w wr lo hi g pa cp X k j) (hj : j < X.length) (hr : Row w1 (pa j) (nPg X j * 2) (mkF (kAt X k j))) (hb : Btw (pa j) (pa j + 1) wr w1) :
    Marking w ((w1.setCell ⟨g, j * 3 + 1, none⟩ (.int .i64 ((kAt X k j + 2 * nPg X j : Nat) : Int))).setCell ⟨g, j * 3 + 2, none⟩ (.bool (((kAt X k j + 2 * nPg X j + 1 : Nat) : Int) % 3 == 0))) lo hi g pa cp X k (j + 1) := by
  have hgl := h.row.lt
  have hpj := h.lo' j hj
  have hg1 : Row w1 g (X.length * 3) (upto j 3 (mkB pa cp X k) (bkF (fun i => some ⟨pa i, 0, none⟩) cp X)) := h.row.same (hb.block g hgl (by omega))
  refine ⟨h.at_lo, h.at_hi, ?_, h.lo', h.apart, ?_, ?_, ?_⟩
  · refine ((hg1.set _ _).set _ _).congr fun i _ => ?_
    rw [← upto_set3 (k := j) (mkB_0 pa cp X k j) (mkB_1 pa cp X k j) (mkB_2 pa cp X k j)]
    by_cases e2 : i = j * 3 + 2
    · rw [if_pos e2, if_pos e2]
    · rw [if_neg e2, if_neg e2]
      by_cases e1 : i = j * 3 + 1
      · rw [if_pos e1, if_pos e1]
      · rw [if_neg e1, if_neg e1]
        by_cases e0 : i = j * 3
        · rw [if_pos e0, upto_ge (by omega), e0, bkF_0]; rfl
        · rw [if_neg e0]
  · intro i hi
    by_cases e : i = j
    · subst e
      exact Row.other (Row.other hr (by dsimp only; omega) _) (by dsimp only; omega) _
    · have hpi := h.lo' i (by omega)
      have hne := h.apart i j (by omega) hj e
      have h0 := h.done i (by omega)
      exact Row.other (Row.other (h0.same (hb.block _ h0.lt (by omega))) (by dsimp only; omega) _) (by dsimp only; omega) _
  · intro i h1 h2
    have hpi := h.lo' i (by omega)
    have hne := h.apart i j (by omega) hj (by omega)
    have h0 := h.rest i (by omega) h2
    exact Row.other (Row.other (h0.same (hb.block _ h0.lt (by omega))) (by dsimp only; omega) _) (by dsimp only; omega) _
  · exact ((h.btw.trans (hb.mono (by omega) (by omega))).setCell (.inl ⟨h.at_lo, h.at_hi⟩) _).setCell (.inl ⟨h.at_lo, h.at_hi⟩) _

set_option maxHeartbeats 1000000 in
theorem markBlockS_any (A : Option Addr) (lo hi n ca k : Nat) (X : List Bk) (w : World) (hn : n ≤ 2097152) (hk : kAt X k n ≤ 16777216) (hA : OwNd w lo hi A n X) :
    Calls Tryz.prog 143 #[.slice A n ca, .int .i64 (k : Int)] w fun e w' => e = .returned (.int .i64 ((kAt X k n : Nat) : Int)) ∧ MkNd w' lo hi A n X k ∧ Btw lo hi w w' := by
  have hl := hA.1
  by_cases h0 : n = 0
  · subst h0
    have HX := Lib.hid hl; clear hA hl
    go_enter Tryz.func143, Tryz.ntmps143
    go_wp2
    refine wp_loop_rounds 1 ?_
    rw [rounds_succ]
    go_wp2
    go_ret
    exact ⟨ret_i (by rw [kAt_zero]), ⟨HX.out, fun h => absurd h (by omega)⟩, Btw.refl _ _ _⟩
  · obtain ⟨g, pa, cp, rfl, ho⟩ := hA.2 (by omega)
    have HO := Lib.hid ho; have HL := Lib.hid hl; clear hA hl ho
    go_enter Tryz.func143, Tryz.ntmps143
    go_wp2
    go_loopw [1, 5] (fun l i wr => ∃ j : Nat, j ≤ n ∧ i = .int .i64 (j : Nat) ∧ l = .int .i64 ((kAt X k j : Nat) : Int) ∧ Marking w wr lo hi g pa cp X k j) (fun _ i _ => n - (intOf i).toNat)
    case atStart => exact ⟨0, by omega, rfl, rfl, HO.out.at_lo, HO.out.at_hi, HO.out.row.congr (fun i _ => (upto_zero i).symm), HO.out.lo', HO.out.apart, fun i h => absurd h (by omega), fun i _ h => HO.out.pages i h, Btw.refl _ _ _⟩
    case round =>
      obtain ⟨j, hj, rfl, rfl, hm⟩ := hrel
      have HM := Lib.hid hm
      by_cases hlt : j < n
      · have hjl : j < X.length := by have := HL.out; omega
        have hb1 : kAt X k j + 2 * nPg X j + 2 ≤ 16777216 := by rw [← kAt_succ]; exact Nat.le_trans (kAt_mono X k (by omega)) hk
        have hc0 := hm.row.cell (i := j * 3) (by omega)
        rw [upto_ge (Nat.le_refl _), bkF_0] at hc0
        have hrest := hm.rest j (Nat.le_refl _) hjl
        have HRest := Lib.hid hrest
        have hc0' : wr.cell? ⟨g, j * 3, none⟩ = some (.slice (some ⟨pa j, 0, none⟩) (nPg X j) (cp j)) := hc0
        clear hm hrest hc0
        have HK : Hid (kAt X k (j + 1) = kAt X k j + 2 * nPg X j + 2) := kAt_succ X k j
        go_wp2_with fail
        refine (markPageS_any (pa j) (nPg X j) _ (kAt X k j) _ _ (by omega) (by omega) HRest.out).mono ?_
        rintro e w1 ⟨rfl, hr1, hb1'⟩
        have hgl := HM.out.row.lt
        have hrow := HM.out.row.same (hb1'.block g hgl (by have := HM.out.lo' j hjl; omega))
        have HR1 := Lib.hid hr1; have HB1 := Lib.hid hb1'
        have hd1 := hrow.cell (i := j * 3 + 1) (by omega)
        have hd2 := hrow.cell (i := j * 3 + 2) (by omega)
        have hf1 := hrow.free (j * 3 + 1)
        have hf2 := hrow.free (j * 3 + 2)
        clear hr1 hb1' hrow
        go_wp2
        go_roundw
        case rel => exact ⟨j + 1, by omega, by go_num, by rw [HK.out]; go_num, HM.out.more hjl HR1.out HB1.out⟩
        case measure => simp [intOf]; omega
      · clear hm
        obtain rfl : j = n := by omega
        go_wp2
        go_ret
        have hl := HL.out
        subst hl
        have h := HM.out
        exact ⟨rfl, ⟨rfl, fun _ => ⟨g, pa, cp, rfl, h.at_lo, h.at_hi, h.row.congr (fun i hi => upto_lt hi), fun i hi => ⟨(h.lo' i hi).1, (h.lo' i hi).2.1⟩, h.done⟩⟩, h.btw⟩

set_option maxHeartbeats 1000000 in
theorem markNand_any (A : Option Addr) (lo hi n ca k : Nat) (X : List Bk) (w : World) (hn : n ≤ 2097152) (hk : kAt X k n ≤ 16777216) (hh : hi ≤ w.heap.size) (hA : OwNd w lo hi A n X) :
    Calls Tryz.prog 66 #[.agg #[.slice A n ca], .int .i64 (k : Int)] w fun e w' => e = .returned (.int .i64 ((kAt X k n : Nat) : Int)) ∧ MkNd w' lo hi A n X k ∧ Btw lo hi w w' := by
  have HA := Lib.hid hA; clear hA
  go_enter Tryz.func66, Tryz.ntmps66
  go_wp2_with fail
  refine (markBlockS_any A lo hi n ca k X _ hn hk (HA.out.below ((Below.refl _ _).alloc (Nat.le_refl _) _) hh)).mono ?_
  rintro e w1 ⟨rfl, h1, hb⟩
  have H1 := Lib.hid h1; have HB := Lib.hid ((Btw.of_below (lo := lo) (hi := hi) ((Below.refl w.heap.size w).alloc (Nat.le_refl _) _)).trans hb)
  clear h1 hb
  go_wp2
  go_ret
  exact ⟨rfl, H1.out, HB.out⟩

theorem sum_le_sz (X : List Bk) (n : Nat) : sumTo (fun j => 2 * nPg X j + 2) n ≤ 2 * (n + sumTo (fun i => szPgs (X.getD i zeroBk).pages) n) := by
  induction n with
  | zero => simp [sumTo]
  | succ n ih =>
    simp only [sumTo]
    have : nPg X n ≤ szPgs (X.getD n zeroBk).pages := by unfold nPg szPgs; omega
    omega
theorem sz_kAt {X : List Bk} (h : szBks X ≤ 1048576) : kAt X 1 X.length ≤ 16777216 := by
  have := sum_le_sz X X.length
  unfold szBks at h
  unfold kAt; omega
end Go.Proofs.YtloaeglmngcenaaGreatDoor
