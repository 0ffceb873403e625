/-
  The laws' own marks: what markText writes, what marking a chip makes of its memory, and that what is marked is held.
-/
import Derived.Test.YtdeagcdafcfimaaGreatDoorProg
import Derived.KernelRfl
import Derived.Test.YtdeagcdafcfimaaGreatDoorNdMem
import Derived.BigQuiet
namespace Go.Proofs.YtdeagcdafcfimaaGreatDoor
open Go.RowKit

/-- the decimal digits of a number, ahead of what is there -/
def digs : Nat → Nat → List UInt8 → List UInt8
  | 0, _, acc => acc
  | f + 1, k, acc => if k = 0 then acc else digs f (k / 10) (UInt8.ofNat (48 + k % 10) :: acc)
def mkT (k : Nat) : List UInt8 := if k = 0 then [109, 48] else 109 :: digs k k []
theorem digs_more {f k : Nat} {acc : List UInt8} (h : k ≠ 0) : digs (f + 1) k acc = digs f (k / 10) (UInt8.ofNat (48 + k % 10) :: acc) := by simp [digs, h]
theorem digs_done (f : Nat) (acc : List UInt8) : digs f 0 acc = acc := by cases f <;> simp [digs]

/-- 'string([]byte{c})' of a new block -/
theorem conv_one {P : Program} (w : World) (c : Nat) (hc : c < 256) {src dst e : TypeId} (hs : P.underlying src = some (.slice e)) (he : P.underlying e = some (.int .u8)) (hd : P.underlying dst = some .string) :
    (convert src dst (.slice (some ⟨w.heap.size, 0, none⟩) 1 1)).run P (w.alloc (.cells #[.int .u8 (c : Int)] e)) = .ok (strV [UInt8.ofNat c]) (w.alloc (.cells #[.int .u8 (c : Int)] e)) := by
  have h := isBlk_new w e [Value.int .u8 (c : Int)]
  refine conv_blk hs he hd h ⟨[], ?_⟩ rfl
  simp [byteV, Nat.mod_eq_of_lt hc]

set_option maxHeartbeats 1000000 in
set_option maxRecDepth 100000 in
theorem markText_any (k : Nat) (w : World) (hk : k ≤ 1073741824) :
    Calls Tryz.prog 31 #[.int .i64 (k : Int)] w fun e w' => e = .returned (strV (mkT k)) ∧ Below w.heap.size w w' := by
  by_cases h0 : k = 0
  · subst h0
    go_enter Tryz.func31, Tryz.ntmps31
    go_wp2
    go_ret
    exact ⟨rfl, Below.refl _ _⟩
  · have HM : Hid (mkT k = 109 :: digs k k []) := by show mkT k = _; simp [mkT, h0]
    have hp : 0 < k := by omega
    have hkz : decide (k = 0) = false := by simpa using h0
    rw [HM.out]
    go_enter Tryz.func31, Tryz.ntmps31
    go_wp2
    go_loopw [0, 3] (fun l s wr => ∃ (j f : Nat) (acc : List UInt8), l = .int .i64 (j : Nat) ∧ s = strV acc ∧ j ≤ f ∧ acc.length + j ≤ k ∧ digs f j acc = digs k k [] ∧ Below w.heap.size w wr) (fun l _ _ => (intOf l).toNat)
    case atStart => exact ⟨k, k, [], rfl, rfl, Nat.le_refl _, by simp, rfl, Below.refl _ _⟩
    case round =>
      obtain ⟨j, f, acc, rfl, rfl, hf, hl, hdg, hbel⟩ := hrel
      have HW := Lib.hid hbel; have HD := Lib.hid hdg
      clear hbel hdg
      by_cases hj : 0 < j
      · obtain ⟨f', rfl⟩ : ∃ f', f = f' + 1 := ⟨f - 1, by omega⟩
        have hconv := conv_one (P := Tryz.prog) wr (48 + j % 10) (by omega) (src := 54) (dst := 9) Tryz.underlying54 Tryz.underlying5 Tryz.underlying9
        rw [show ((48 + j % 10 : Nat) : Int) = 48 + (j : Int) % 10 by omega] at hconv
        have hadd := fun W => add_str (P := Tryz.prog) W (bstr [UInt8.ofNat (48 + j % 10)]) (bstr acc) (by rw [bstr_size, bstr_size]; simp; omega)
        simp only [bstr_list] at hadd
        generalize hc : UInt8.ofNat (48 + j % 10) = c at hconv hadd
        have HC := Lib.hid hc; clear hc
        go_wp2
        go_roundw
        case rel => exact ⟨j / 10, f', c :: acc, by go_num, rfl, by omega, by simp; omega, by rw [← HD.out, digs_more (by omega), HC.out], HW.out.alloc HW.out.size _⟩
        case measure => simp [intOf]; omega
      · obtain rfl : j = 0 := by omega
        have hadd := fun W => add_str (P := Tryz.prog) W ⟨#[109]⟩ (bstr acc) (by rw [bstr_size]; simp [ByteArray.size]; omega)
        simp only [bstr_list] at hadd
        go_wp2
        go_ret
        exact ⟨by rw [← HD.out, digs_done]; rfl, HW.out⟩

theorem markText_succ (m : Nat) (w : World) (hk : m ≤ 1073741823) :
    Calls Tryz.prog 31 #[.int .i64 ((m : Int) + 1)] w fun e w' => e = .returned (strV (mkT (m + 1))) ∧ Below w.heap.size w w' := by
  have h := markText_any (m + 1) w (by omega)
  rwa [show ((m + 1 : Nat) : Int) = (m : Int) + 1 by omega] at h

/-! pages marked from k on: cell c bears the mark k + c -/
def mkF (k c : Nat) : Value := if c % 2 = 0 then .bool (((k + c : Nat) : Int) % 3 == 0) else strV (mkT (k + c))
theorem mkF_0 (k i : Nat) : mkF k (i * 2) = .bool (((k + i * 2 : Nat) : Int) % 3 == 0) := by unfold mkF; rw [if_pos (by omega)]
theorem mkF_1 (k i : Nat) : mkF k (i * 2 + 1) = strV (mkT (k + i * 2 + 1)) := by unfold mkF; rw [if_neg (by omega), Nat.add_assoc]

/-! blocks marked from k on -/
def nPg (X : List Bk) (i : Nat) : Nat := (X.getD i zeroBk).pages.length
def kAt (X : List Bk) (k i : Nat) : Nat := k + sumTo (fun j => 2 * nPg X j + 2) i
theorem kAt_zero (X : List Bk) (k : Nat) : kAt X k 0 = k := rfl
theorem kAt_succ (X : List Bk) (k i : Nat) : kAt X k (i + 1) = kAt X k i + 2 * nPg X i + 2 := by unfold kAt; rw [sumTo]; omega
theorem kAt_mono (X : List Bk) (k : Nat) {i j : Nat} (h : i ≤ j) : kAt X k i ≤ kAt X k j := by unfold kAt; have := sumTo_mono (f := fun j => 2 * nPg X j + 2) h; omega
def mkB (pa cp : Nat → Nat) (X : List Bk) (k c : Nat) : Value :=
  if c % 3 = 0 then .slice (some ⟨pa (c / 3), 0, none⟩) (nPg X (c / 3)) (cp (c / 3)) else if c % 3 = 1 then .int .i64 ((kAt X k (c / 3) + 2 * nPg X (c / 3) : Nat) : Int)
  else .bool (((kAt X k (c / 3) + 2 * nPg X (c / 3) + 1 : Nat) : Int) % 3 == 0)
theorem mkB_0 (pa cp : Nat → Nat) (X : List Bk) (k i : Nat) : mkB pa cp X k (i * 3) = .slice (some ⟨pa i, 0, none⟩) (nPg X i) (cp i) := by
  unfold mkB; rw [if_pos (by omega), show i * 3 / 3 = i by omega]
theorem mkB_1 (pa cp : Nat → Nat) (X : List Bk) (k i : Nat) : mkB pa cp X k (i * 3 + 1) = .int .i64 ((kAt X k i + 2 * nPg X i : Nat) : Int) := by
  unfold mkB; rw [if_neg (by omega), if_pos (by omega), show (i * 3 + 1) / 3 = i by omega]
theorem mkB_2 (pa cp : Nat → Nat) (X : List Bk) (k i : Nat) : mkB pa cp X k (i * 3 + 2) = .bool (((kAt X k i + 2 * nPg X i + 1 : Nat) : Int) % 3 == 0) := by
  unfold mkB; rw [if_neg (by omega), if_neg (by omega), show (i * 3 + 2) / 3 = i by omega]

structure MkBk (w : World) (lo hi g : Nat) (pa cp : Nat → Nat) (X : List Bk) (k : Nat) : Prop where
  at_lo : lo ≤ g
  at_hi : g < hi
  row : Row w g (X.length * 3) (mkB pa cp X k)
  lo' : ∀ i, i < X.length → lo ≤ pa i ∧ pa i < hi
  pages : ∀ i, i < X.length → Row w (pa i) (nPg X i * 2) (mkF (kAt X k i))
def MkNd (w : World) (lo hi : Nat) (A : Option Addr) (n : Nat) (X : List Bk) (k : Nat) : Prop :=
  X.length = n ∧ (0 < n → ∃ g pa cp, A = some ⟨g, 0, none⟩ ∧ MkBk w lo hi g pa cp X k)
theorem MkNd.same {w w' : World} {lo hi n k : Nat} {A : Option Addr} {X : List Bk} (h : MkNd w lo hi A n X k) (hb : ∀ j, lo ≤ j → j < hi → w'.heap[j]? = w.heap[j]?) : MkNd w' lo hi A n X k :=
  ⟨h.1, fun hn => by
    obtain ⟨g, pa, cp, hA, ho⟩ := h.2 hn
    exact ⟨g, pa, cp, hA, ho.at_lo, ho.at_hi, ho.row.same (hb g ho.at_lo ho.at_hi), ho.lo', fun i hi => Row.same (ho.pages i hi) (hb _ (ho.lo' i hi).1 (ho.lo' i hi).2)⟩⟩
theorem MkNd.below {w w' : World} {lo hi n k B : Nat} {A : Option Addr} {X : List Bk} (h : MkNd w lo hi A n X k) (hb : Below B w w') (hB : hi ≤ B) : MkNd w' lo hi A n X k :=
  h.same fun j _ hj => hb.block j (by omega)

/-- the first j blocks are marked -/
structure Marking (w wr : World) (lo hi g : Nat) (pa cp : Nat → Nat) (X : List Bk) (k j : Nat) : Prop where
  at_lo : lo ≤ g
  at_hi : g < hi
  row : Row wr g (X.length * 3) (upto j 3 (mkB pa cp X k) (bkF (fun i => some ⟨pa i, 0, none⟩) cp X))
  lo' : ∀ i, i < X.length → lo ≤ pa i ∧ pa i < hi ∧ pa i ≠ g
  apart : ∀ i j, i < X.length → j < X.length → i ≠ j → pa i ≠ pa j
  done : ∀ i, i < j → Row wr (pa i) (nPg X i * 2) (mkF (kAt X k i))
  rest : ∀ i, j ≤ i → i < X.length → Row wr (pa i) (nPg X i * 2) (pgF (X.getD i zeroBk).pages)
  btw : Btw lo hi w wr
theorem Marking.more {w wr w1 : World} {lo hi g : Nat} {pa cp : Nat → Nat} {X : List Bk} {k j : Nat} (h : Marking w wr lo hi g pa cp X k j) (hj : j < X.length) (hr : Row w1 (pa j) (nPg X j * 2) (mkF (kAt X k j))) (hb : Btw (pa j) (pa j + 1) wr w1) :
    Marking w ((w1.setCell ⟨g, j * 3 + 1, none⟩ (.int .i64 ((kAt X k j + 2 * nPg X j : Nat) : Int))).setCell ⟨g, j * 3 + 2, none⟩ (.bool (((kAt X k j + 2 * nPg X j + 1 : Nat) : Int) % 3 == 0))) lo hi g pa cp X k (j + 1) := by
  have hgl := h.row.lt
  have hpj := h.lo' j hj
  have hg1 : Row w1 g (X.length * 3) (upto j 3 (mkB pa cp X k) (bkF (fun i => some ⟨pa i, 0, none⟩) cp X)) := h.row.same (hb.block g hgl (by omega))
  refine ⟨h.at_lo, h.at_hi, ?_, h.lo', h.apart, ?_, ?_, ?_⟩
  · refine ((hg1.set _ _).set _ _).congr fun i _ => ?_
    rw [← upto_set3 (k := j) (mkB_0 pa cp X k j) (mkB_1 pa cp X k j) (mkB_2 pa cp X k j)]
    by_cases e2 : i = j * 3 + 2
    · rw [if_pos e2, if_pos e2]
    · rw [if_neg e2, if_neg e2]
      by_cases e1 : i = j * 3 + 1
      · rw [if_pos e1, if_pos e1]
      · rw [if_neg e1, if_neg e1]
        by_cases e0 : i = j * 3
        · rw [if_pos e0, upto_ge (by omega), e0, bkF_0]; rfl
        · rw [if_neg e0]
  · intro i hi
    by_cases e : i = j
    · subst e
      exact Row.other (Row.other hr (by dsimp only; omega) _) (by dsimp only; omega) _
    · have hpi := h.lo' i (by omega)
      have hne := h.apart i j (by omega) hj e
      have h0 := h.done i (by omega)
      exact Row.other (Row.other (h0.same (hb.block _ h0.lt (by omega))) (by dsimp only; omega) _) (by dsimp only; omega) _
  · intro i h1 h2
    have hpi := h.lo' i (by omega)
    have hne := h.apart i j (by omega) hj (by omega)
    have h0 := h.rest i (by omega) h2
    exact Row.other (Row.other (h0.same (hb.block _ h0.lt (by omega))) (by dsimp only; omega) _) (by dsimp only; omega) _
  · exact ((h.btw.trans (hb.mono (by omega) (by omega))).setCell (.inl ⟨h.at_lo, h.at_hi⟩) _).setCell (.inl ⟨h.at_lo, h.at_hi⟩) _

theorem sum_le_sz (X : List Bk) (n : Nat) : sumTo (fun j => 2 * nPg X j + 2) n ≤ 2 * (n + sumTo (fun i => szPgs (X.getD i zeroBk).pages) n) := by
  induction n with
  | zero => simp [sumTo]
  | succ n ih =>
    simp only [sumTo]
    have : nPg X n ≤ szPgs (X.getD n zeroBk).pages := by unfold nPg szPgs; omega
    omega
theorem sz_kAt {X : List Bk} (h : szBks X ≤ 1048576) : kAt X 1 X.length ≤ 16777216 := by
  have := sum_le_sz X X.length
  unfold szBks at h
  unfold kAt; omega
end Go.Proofs.YtdeagcdafcfimaaGreatDoor
