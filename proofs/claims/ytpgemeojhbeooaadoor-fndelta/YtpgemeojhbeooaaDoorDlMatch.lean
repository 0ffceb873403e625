/-
  The longest match, of the program.
-/
import Derived.Test.YtpgemeojhbeooaaDoorProg
import Derived.KernelRfl
import Derived.Test.YtpgemeojhbeooaaDoorDlSteps
import Derived.OwnWalk
import Derived.BigQuiet
import Derived.Lib.QuietBelow
namespace Go.Proofs.YtpgemeojhbeooaaDoor
open Go.RowKit

/-- bytes that read as l, wherever they lie below block B -/
def RdL (w : World) (B : Nat) (A : Option Addr) (n : Nat) (l : List UInt8) : Prop :=
  l.length = n ∧ (0 < n → ∃ g off, A = some ⟨g, off, none⟩ ∧ g < B ∧ ∀ i (h : i < l.length), w.cell? ⟨g, off + i, none⟩ = some (byteV l[i]))
theorem RdL.below {w w' : World} {B n : Nat} {A : Option Addr} {l : List UInt8} (h : RdL w B A n l) (hb : Below B w w') : RdL w' B A n l :=
  ⟨h.1, fun hn => by obtain ⟨g, off, hA, hg, hc⟩ := h.2 hn; exact ⟨g, off, hA, hg, fun i hi => (hb.cell (p := ⟨g, off + i, none⟩) hg).trans (hc i hi)⟩⟩
theorem RdL.mono {w : World} {B B' n : Nat} {A : Option Addr} {l : List UInt8} (h : RdL w B A n l) (hB : B ≤ B') : RdL w B' A n l :=
  ⟨h.1, fun hn => by obtain ⟨g, off, hA, hg, hc⟩ := h.2 hn; exact ⟨g, off, hA, Nat.lt_of_lt_of_le hg hB, hc⟩⟩
/-- a part of a slice of bytes -/
theorem RdL.drop {w : World} {B n g off : Nat} {l : List UInt8} (h : RdL w B (some ⟨g, off, none⟩) n l) (k : Nat) : RdL w B (some ⟨g, off + k, none⟩) (n - k) (l.drop k) := by
  refine ⟨by rw [List.length_drop, h.1], fun hn => ?_⟩
  obtain ⟨g', off', hA, hg, hc⟩ := h.2 (by omega)
  cases hA
  refine ⟨g, off + k, rfl, hg, fun i hi => ?_⟩
  have hi' : k + i < l.length := by simpa using (by rw [List.length_drop] at hi; omega : k + i < l.length)
  have := hc (k + i) hi'
  rw [show off + k + i = off + (k + i) by omega, this]
  simp
theorem RdL.take {w : World} {B n : Nat} {A : Option Addr} {l : List UInt8} (h : RdL w B A n l) {k : Nat} (hk : k ≤ n) : RdL w B A k (l.take k) := by
  refine ⟨by rw [List.length_take, h.1]; omega, fun hn => ?_⟩
  obtain ⟨g, off, hA, hg, hc⟩ := h.2 (by omega)
  refine ⟨g, off, hA, hg, fun i hi => ?_⟩
  have hi' : i < l.length := by rw [List.length_take] at hi; omega
  rw [hc i hi']
  simp

theorem byteV_eq {a b : UInt8} : ((a.toNat : Int) == (b.toNat : Int)) = decide (a = b) := by
  by_cases h : a = b
  · subst h; simp
  · have : a.toNat ≠ b.toNat := fun e => h (UInt8.toNat_inj.1 e)
    simp [h]; omega

set_option maxHeartbeats 2000000 in
theorem commonStart_any (A1 A2 : Option Addr) (n m ca cb : Nat) (a b : List UInt8) (w : World) (hn : n ≤ 100000) (hm : m ≤ 100000) (h1 : RdL w w.heap.size A1 n a) (h2 : RdL w w.heap.size A2 m b) :
    Calls Tryd.prog 67 #[.slice A1 n ca, .slice A2 m cb] w fun e w' => e = .returned (.int .i64 ((Bt.pre a b : Nat) : Int)) ∧ Below w.heap.size w w' := by
  have H1 := Lib.hid h1; have H2 := Lib.hid h2
  have HL1 := Lib.hid h1.1; have HL2 := Lib.hid h2.1
  clear h1 h2
  go_enter Tryd.func67, Tryd.ntmps67
  go_wp2
  go_loopw [5] (fun i wr => ∃ (k : Nat), k ≤ Bt.pre a b ∧ i = .int .i64 (k : Nat) ∧ Below w.heap.size w wr) (fun i wr => n - (intOf i).toNat)
  case atStart => exact ⟨0, Nat.zero_le _, rfl, Below.refl _ _⟩
  case round =>
    obtain ⟨k, hk, rfl, hbel⟩ := hrel
    have HW := Lib.hid hbel
    have hpl := Bt.pre_le a b
    have hkn : k ≤ n := by have := HL1.out; omega
    have hkm : k ≤ m := by have := HL2.out; omega
    have HSTEP := fun x y z => Lib.hid (Bt.pre_step k a b hk x y z)
    have HSTOP := fun x => Lib.hid (Bt.pre_stop k a b hk x)
    by_cases hlt : k < n
    · by_cases hlt2 : k < m
      · obtain ⟨g1, o1, rfl, hg1, hc1⟩ := (H1.out.below hbel).2 (by omega)
        obtain ⟨g2, o2, rfl, hg2, hc2⟩ := (H2.out.below hbel).2 (by omega)
        have ha1 : k < a.length := by have := HL1.out; omega
        have ha2 : k < b.length := by have := HL2.out; omega
        replace hc1 := hc1 k ha1; replace hc2 := hc2 k ha2
        unfold byteV at hc1 hc2
        have hc1' := cell_regrown hc1; have hc2' := cell_regrown hc2
        have hq := byteV_eq (a := a[k]) (b := b[k])
        clear hbel
        by_cases he : a[k] = b[k]
        · have HS := HSTEP ha1 ha2 he
          rw [decide_eq_true he] at hq
          clear HSTEP HSTOP hpl
          go_wp2
          refine wp_region_quiet_below (by kernel_rfl) (by kernel_rfl) ?_
          repeat (go_big_quiet_step (fail))
          refine wpQuiet_nil ?_
          intro w2 hw'
          have hb2 : Below wr.heap.size wr w2 := by obtain ⟨⟨dq, osq⟩, rfl⟩ := hw'; exact below_regrown wr dq osq
          clear hw'
          have HB2 := Lib.hid (HW.out.trans (hb2.mono HW.out.size))
          clear hb2
          go_wp2
          go_roundw
          case rel => exact ⟨k + 1, HS.out, by go_num, HB2.out⟩
          case measure => simp [intOf]; omega
        · have HS := HSTOP (fun _ _ => he)
          rw [decide_eq_false he] at hq
          clear HSTEP HSTOP hpl
          go_wp2
          refine wp_region_quiet_below (by kernel_rfl) (by kernel_rfl) ?_
          repeat (go_big_quiet_step (fail))
          refine wpQuiet_nil ?_
          intro w2 hw'
          have hb2 : Below wr.heap.size wr w2 := by obtain ⟨⟨dq, osq⟩, rfl⟩ := hw'; exact below_regrown wr dq osq
          clear hw'
          have HB2 := Lib.hid (HW.out.trans (hb2.mono HW.out.size))
          clear hb2
          go_wp2
          go_ret
          exact ⟨ret_i (by rw [HS.out]), HB2.out⟩
      · have HS := HSTOP (fun _ h => absurd h (by have := HL2.out; omega))
        have hle2 : m ≤ k := by omega
        clear HSTEP HSTOP hpl hbel
        have hd1 : decide ((k : Int) < (n : Int)) = true := decide_eq_true (by omega)
        have hd2 : decide ((k : Int) < (m : Int)) = false := decide_eq_false (by omega)
        go_wp2
        refine wp_region_quiet_below (by kernel_rfl) (by kernel_rfl) ?_
        repeat (go_big_quiet_step (fail))
        refine wpQuiet_nil ?_
        intro w2 hw'
        have hb2 : Below wr.heap.size wr w2 := by obtain ⟨⟨dq, osq⟩, rfl⟩ := hw'; exact below_regrown wr dq osq
        clear hw'
        have HB2 := Lib.hid (HW.out.trans (hb2.mono HW.out.size))
        clear hb2
        go_wp2
        go_ret
        exact ⟨ret_i (by rw [HS.out]), HB2.out⟩
    · have HS := HSTOP (fun h _ => absurd h (by have := HL1.out; omega))
      have hle2 : n ≤ k := by omega
      clear HSTEP HSTOP hpl hbel
      have hd1 : decide ((k : Int) < (n : Int)) = false := decide_eq_false (by omega)
      go_wp2
      refine wp_region_quiet_below (by kernel_rfl) (by kernel_rfl) ?_
      repeat (go_big_quiet_step (fail))
      refine wpQuiet_nil ?_
      intro w2 hw'
      have hb2 : Below wr.heap.size wr w2 := by obtain ⟨⟨dq, osq⟩, rfl⟩ := hw'; exact below_regrown wr dq osq
      clear hw'
      have HB2 := Lib.hid (HW.out.trans (hb2.mono HW.out.size))
      clear hb2
      go_wp2
      go_ret
      exact ⟨ret_i (by rw [HS.out]), HB2.out⟩

set_option maxHeartbeats 2000000 in
theorem longestMatch_any (A1 A2 : Option Addr) (n m ca cb : Nat) (a b : List UInt8) (w : World) (hn : n ≤ 100000) (hm : m ≤ 100000) (hca : n ≤ ca) (h1 : RdL w w.heap.size A1 n a) (h2 : RdL w w.heap.size A2 m b) :
    Calls Tryd.prog 51 #[.slice A1 n ca, .slice A2 m cb] w fun e w' => e = .returned (.tuple #[.int .i64 (((Bt.lg a b).1 : Nat) : Int), .int .i64 (((Bt.lg a b).2 : Nat) : Int)]) ∧ Below w.heap.size w w' := by
  have H1 := Lib.hid h1; have H2 := Lib.hid h2
  have HL1 := Lib.hid h1.1; have HL2 := Lib.hid h2.1
  clear h1 h2
  go_enter Tryd.func51, Tryd.ntmps51
  go_wp2
  go_loopw [6, 7, 12] (fun f l i wr => ∃ (k : Nat), k ≤ n ∧ i = .int .i64 (k : Nat) ∧ f = .int .i64 (((Bt.lgTo a b k).1 : Nat) : Int) ∧ l = .int .i64 (((Bt.lgTo a b k).2 : Nat) : Int) ∧ Below w.heap.size w wr) (fun _ _ i wr => n - (intOf i).toNat)
  case atStart => exact ⟨0, Nat.zero_le _, rfl, rfl, rfl, Below.refl _ _⟩
  case round =>
    obtain ⟨k, hk, rfl, rfl, rfl, hbel⟩ := hrel
    have HW := Lib.hid hbel
    by_cases hlt : k < n
    · obtain ⟨g1, o1, hA1, hg1, -⟩ := (H1.out.below hbel).2 (by omega)
      subst hA1
      have HR1 := Lib.hid (((H1.out.below hbel).mono hbel.size).drop k)
      have HR2 := Lib.hid ((H2.out.below hbel).mono hbel.size)
      have hle := (Bt.lgTo_le a b k (by have := HL1.out; omega)).2
      have hpl := (Bt.pre_le (a.drop k) b).2
      have hbm : b.length ≤ 100000 := by have := HL2.out; omega
      have HY := fun h => Lib.hid (Bt.lgTo_yes (base := a) (x := b) (k := k) h)
      have HN := fun h => Lib.hid (Bt.lgTo_no (base := a) (x := b) (k := k) h)
      have HC := Lib.hid (commonStart_any (some ⟨g1, o1 + k, none⟩) A2 (n - k) m (ca - k) cb (a.drop k) b wr (by omega) hm HR1.out HR2.out)
      clear hbel
      generalize Bt.pre (a.drop k) b = P at *
      generalize Bt.lgTo a b k = L at *
      obtain ⟨l1, l2⟩ := L
      simp only at hle HY HN ⊢
      have hck : ¬ ca = k := by omega
      go_wp2_with fail
      with_reducible refine HC.out.mono ?_
      rintro e w2 ⟨rfl, hb2⟩
      have HB2 := Lib.hid (HW.out.trans (hb2.mono HW.out.size))
      clear hb2
      by_cases hc : l2 < P
      · have HS := HY hc
        clear HY HN
        go_wp2
        go_roundw
        case rel => exact ⟨k + 1, by omega, by go_num, by rw [HS.out], by rw [HS.out], HB2.out⟩
        case measure => simp [intOf]; omega
      · have HS := HN hc
        have hc' : P ≤ l2 := by omega
        clear HY HN
        go_wp2
        go_roundw
        case rel => exact ⟨k + 1, by omega, by go_num, by rw [HS.out], by rw [HS.out], HB2.out⟩
        case measure => simp [intOf]; omega
    · obtain rfl : k = n := by omega
      clear hbel
      have HE : Hid (Bt.lgTo a b k = Bt.lg a b) := by show _ = _; unfold Bt.lg; rw [HL1.out]
      rw [HE.out]
      go_wp2
      go_ret2
      exact ⟨rfl, HW.out⟩
end Go.Proofs.YtpgemeojhbeooaaDoor
