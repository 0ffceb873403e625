/-
  Operations read, of the program; DeltaRead of the program.
-/
import Derived.Test.YtpgemeojhbeooaaDoorProg
import Derived.KernelRfl
import Derived.Test.YtpgemeojhbeooaaDoorDlReadOp
import Derived.Test.YtpgemeojhbeooaaDoorDlOf
import Derived.Test.YtpgemeojhbeooaaDoorBtSeal
namespace Go.Proofs.YtpgemeojhbeooaaDoor
open Go.RowKit
open Bt (Dop dok)

theorem blk2R {w : World} {g : Nat} {e : TypeId} {a b : Value} (h : IsBlk w g e [a, b]) : w.cell? ⟨g, 0, none⟩ = some a ∧ w.cell? ⟨g, 1, none⟩ = some b ∧ w.frozen? ⟨g, 0, none⟩ = false ∧ w.frozen? ⟨g, 1, none⟩ = false :=
  ⟨h.cell rfl, h.cell rfl, h.free, h.free⟩
/-- what was read is whole -/
def drWhole (s : ByteArray) : Prop := (Bt.drTo s 0).2.2 = false ∧ 0 ≤ Bt.drN s ∧ Bt.drN s ≤ 40 ∧ (Bt.drTo s (Bt.drN s).toNat).2.2 = false ∧ (Bt.drTo s (Bt.drN s).toNat).2.1 = s.size
theorem drAcc_whole (s : ByteArray) : Bt.drAcc s ↔ (drWhole s ∧ Bt.okL (Bt.drTo s (Bt.drN s).toNat).1 = true) := by
  unfold Bt.drAcc drWhole
  constructor
  · rintro ⟨a, b, c, d, e, f⟩; exact ⟨⟨a, b, c, d, e⟩, f⟩
  · rintro ⟨⟨a, b, c, d, e⟩, f⟩; exact ⟨a, b, c, d, e, f⟩
/-- operations that were read, in memory of the call's own, and whether they are whole -/
def RetROps (s : ByteArray) (w : World) (e : Ending) (w' : World) : Prop :=
  ∃ (A : Option Addr) (ca n : Nat) (L : List Dop) (b : Bool), e = .returned (.tuple #[.slice A n ca, .bool b]) ∧ OwDo w' w.heap.size w'.heap.size A n L ∧ n ≤ 40 ∧ (∀ o ∈ L, o.x.size ≤ 8000 ∧ o.f ≤ 9223372036854775807) ∧
    (b = true → drWhole s ∧ L = (Bt.drTo s (Bt.drN s).toNat).1) ∧ (b = false → ¬ drWhole s) ∧ Below w.heap.size w w'
theorem ret_none {s : ByteArray} {w w' : World} (h : ¬ drWhole s) (hb : Below w.heap.size w w') : RetROps s w (.returned (.tuple #[.slice none 0 0, .bool false])) w' :=
  ⟨none, 0, 0, [], false, rfl, ow_nilD _ _ _ _, by omega, by simp, by simp, fun _ => h, hb⟩

set_option maxHeartbeats 4000000 in
set_option maxRecDepth 100000 in
theorem readOps_any (s : ByteArray) (w : World) (hs : s.size ≤ maxLen) (hg : ErrType w) :
    Calls Tryd.prog 34 #[.string s] w (RetROps s w) := by
  have HG := Lib.hid hg
  have HNUM := Lib.hid (impl_getNum_any s 0 w hs (by omega) hg)
  have hr0 : (Bt.getNum s 0).2.2 = 0 → (Bt.drTo s 0).2 = ((Bt.getNum s 0).2.1, false) ∧ Bt.drN s = (Bt.getNum s 0).1 := by
    intro h
    have e : Bt.rdNum s (0, false) = ((Bt.getNum s 0).1, ((Bt.getNum s 0).2.1, false)) := Bt.rdNum_ok (by simp [h])
    exact ⟨by rw [Bt.drTo, e], by rw [Bt.drN, e]⟩
  have hr1 : (Bt.getNum s 0).2.2 ≠ 0 → (Bt.drTo s 0).2.2 = true := by
    intro h
    rw [Bt.drTo, Bt.rdNum_bad (.inr h)]
  clear hg
  generalize Bt.getNum s 0 = G at HNUM hr0 hr1
  obtain ⟨n, a, c⟩ := G
  simp only at hr0 hr1
  go_enter Tryd.func34, Tryd.ntmps34
  go_wp2_with fail
  refine HNUM.out.mono ?_
  rintro e w1 ⟨rfl, hb1⟩
  have HB1 := Lib.hid hb1
  have HB2 : Hid (Below w.heap.size w (w1.alloc (.cells #[.int .i64 n, .int .i64 a, .int .i64 c] 88))) := hb1.alloc hb1.size _
  clear hb1
  by_cases h0 : c = 0
  case neg =>
    have HNW : Hid (¬ drWhole s) := fun h => by have := hr1 h0; rw [h.1] at this; cases this
    have hcc : (c != 0) = true := by simpa using h0
    clear hr0 hr1 h0
    go_wp2
    go_ret2
    exact ret_none HNW.out HB2.out
  obtain ⟨e1, e2⟩ := hr0 h0
  subst h0
  have E1 := Lib.hid e1; have E2 := Lib.hid e2
  clear hr0 hr1 e1 e2
  by_cases h1 : n < 0
  · have HNW : Hid (¬ drWhole s) := fun h => by have := h.2.1; rw [E2.out] at this; omega
    go_wp2
    go_ret2
    exact ret_none HNW.out HB2.out
  by_cases h2 : 40 < n
  · have HNW : Hid (¬ drWhole s) := fun h => by have := h.2.2.1; rw [E2.out] at this; omega
    have h1' : 0 ≤ n := by omega
    go_wp2
    go_ret2
    exact ret_none HNW.out HB2.out
  obtain ⟨N, rfl⟩ := Int.eq_ofNat_of_zero_le (by omega : 0 ≤ n)
  have hN40 : N ≤ 40 := by omega
  have HNN : Hid ((Bt.drN s).toNat = N) := by show _ = _; rw [E2.out]; omega
  clear h1 h2
  obtain ⟨i0, hi, hz0, hz1, hz2⟩ := info_parts info_dop
  have Hi := Lib.hid hi; have Z0 := Lib.hid hz0; have Z1 := Lib.hid hz1; have Z2 := Lib.hid hz2
  clear hi hz0 hz1 hz2
  have E0 : Hid (a = (Bt.drTo s 0).2.1) := by show _ = _; rw [E1.out]
  have E00 : Hid ((Bt.drTo s 0).2.2 = false) := by show _ = _; rw [E1.out]
  go_wp2_with fail
  have hszb : w.heap.size ≤ (w1.alloc (.cells #[.int .i64 ((N : Nat) : Int), .int .i64 a, .int .i64 0] 88)).heap.size := HB2.out.size
  have hgb := HG.out.below HB2.out
  generalize w1.alloc (.cells #[.int .i64 ((N : Nat) : Int), .int .i64 a, .int .i64 0] 88) = W at *
  have HGB := Lib.hid hgb
  clear hgb
  go_loopw [5, 6, 29] (fun v p i wr => ∃ (k : Nat) (v' : Value), k ≤ N ∧ i = .int .i64 (k : Nat) ∧ v' = v ∧ p = .int .i64 (Bt.drTo s k).2.1 ∧ Hid ((Bt.drTo s k).2.2 = false) ∧ Hid (wr.ownsRow W.heap.size 41 3 v' k (doA (Bt.drTo s k).1)) ∧ Hid (Below W.heap.size W wr)) (fun _ _ i wr => N - (intOf i).toNat)
  case atStart => exact ⟨0, _, Nat.zero_le _, rfl, rfl, by rw [E0.out], E00, ⟨rfl, .inl ⟨rfl, rfl⟩⟩, Below.refl _ _⟩
  case round =>
    obtain ⟨k, v, hk, rfl, rfl, rfl, HGOOD, HOW, HW⟩ := hrel
    have hpos := (Bt.drTo_bytes k HGOOD.out).2.2.1
    have HLEN := Lib.hid (Bt.drTo_len s k)
    by_cases hlt : k < N
    · have HD2 : Hid ((Bt.drTo s k).2 = ((Bt.drTo s k).2.1, false)) := by show _ = _; rw [← HGOOD.out]
      have hrop := Bt.rop_drOp s (Bt.drTo s k).2.1
      have HNX : Hid (Bt.drTo s (k + 1) = ((Bt.drTo s k).1 ++ [(Bt.drOp s (Bt.drTo s k).2).1], (Bt.drOp s (Bt.drTo s k).2).2)) := rfl
      rw [HD2.out] at HNX
      have HRO := Lib.hid (readOp_any s (Bt.drTo s k).2.1 wr hs (by unfold maxLen at hs; omega) (HGB.out.below HW.out))
      generalize Bt.rop s (Bt.drTo s k).2.1 = RR at hrop HRO
      obtain ⟨o, p', b⟩ := RR
      simp only at hrop HRO
      have HROP := Lib.hid hrop
      clear hrop
      have hsz := HW.out.size
      go_wp2_with fail
      with_reducible refine HRO.out.mono ?_
      rintro e w2 ⟨rfl, hb2⟩
      have HB3 : Hid (Below W.heap.size W (w2.alloc (.cells #[.int .i64 o.f, .int .i64 o.c, .string o.x] 41))) := (HW.out.trans (hb2.mono hsz)).alloc (by have := hb2.size; omega) _
      have HOW3 : Hid ((w2.alloc (.cells #[.int .i64 o.f, .int .i64 o.c, .string o.x] 41)).ownsRow W.heap.size 41 3 v k (doA (Bt.drTo s k).1)) := (own_belowD HOW.out hb2).alloc _
      have hsz2 := hb2.size
      have k2 := isBlk_new w2 41 [.int .i64 o.f, .int .i64 o.c, .string o.x]
      change IsBlk (w2.alloc (.cells #[.int .i64 o.f, .int .i64 o.c, .string o.x] 41)) _ _ _ at k2
      clear hb2 HRO
      cases b with
      | false =>
        have HNW : Hid (¬ drWhole s) := by
          intro h
          have h1 : (Bt.drTo s (k + 1)).2.2 = true := by rw [HNX.out]; exact HROP.out.2 rfl
          have h2 := Bt.drTo_bad (n := N) h1 (by omega)
          have h3 := h.2.2.2.1
          rw [HNN.out, h2] at h3
          cases h3
        have HB4 := Lib.hid (HB2.out.trans (HB3.out.mono hszb))
        clear k2
        go_wp2
        go_ret2
        exact ret_none HNW.out HB4.out
      | true =>
        have HDO := Lib.hid (HROP.out.1 rfl)
        have HNX2 : Hid (Bt.drTo s (k + 1) = ((Bt.drTo s k).1 ++ [o], (p', false))) := by show _ = _; rw [HNX.out, HDO.out]
        have hsz3 := HB3.out.size
        obtain ⟨d0, d1, d2, -, -, -⟩ := blk3 k2
        clear k2
        go_wp2_with (at_builtin; refine wpList_append_kD rfl _ _ 25 41 i0 _ 3 32 Tryd.underlying25 Hi.out Z0.out Z1.out Z2.out rfl (by omega) rfl HOW3.out HB3.out hsz3 (by first | rfl | simp) rfl rfl (dopC o) rfl rfl (dopC_one o) (by omega) (by omega) ?_; intro v' w5 ho5 hb5; have HB5 := Lib.hid hb5; have HO5 := Lib.hid ho5; clear hb5 ho5)
        go_roundw
        case rel => exact ⟨k + 1, _, by omega, by go_num, rfl, by rw [HNX2.out], by rw [HNX2.out]; exact Lib.hid rfl, by rw [HNX2.out, doA_snoc]; exact HO5, HB5⟩
        case measure => simp [intOf]; omega
    · obtain rfl : k = N := by omega
      obtain ⟨Ao, co, rfl, hoo⟩ := ow_of_ownD HOW.out HLEN.out
      have HOO := Lib.hid hoo
      have HWW := Lib.hid (HB2.out.trans (HW.out.mono hszb))
      have HSM := Lib.hid (Bt.drTo_small s k)
      by_cases he : (Bt.drTo s k).2.1 = (s.size : Int)
      · have HWH : Hid (drWhole s) := ⟨E00.out, by rw [E2.out]; omega, by rw [E2.out]; omega, by rw [HNN.out]; exact HGOOD.out, by rw [HNN.out]; exact he⟩
        have hq : ((Bt.drTo s k).2.1 == (s.size : Int)) = true := by simpa using he
        clear he hoo
        go_wp2
        go_ret2
        exact ⟨Ao, co, k, _, true, rfl, HOO.out.mono hszb (Nat.le_refl _), hN40, HSM.out, fun _ => ⟨HWH.out, by rw [HNN.out]⟩, (fun h => by cases h), HWW.out⟩
      · have HNW : Hid (¬ drWhole s) := fun h => he (by have := h.2.2.2.2; rw [HNN.out] at this; exact this)
        have hq : ((Bt.drTo s k).2.1 == (s.size : Int)) = false := by simpa using he
        clear he hoo
        go_wp2
        go_ret2
        exact ⟨Ao, co, k, _, false, rfl, HOO.out.mono hszb (Nat.le_refl _), hN40, HSM.out, (fun h => by cases h), fun _ => HNW.out, HWW.out⟩
end Go.Proofs.YtpgemeojhbeooaaDoor
