/-
  The contracts of GetNum and GetText, of the program and of the model.
-/
import Derived.Test.YtloaeglmngcenaaGreatDoorProg
import Derived.KernelRfl
import Derived.Test.YtloaeglmngcenaaGreatDoorBtAs
import Derived.Test.YtloaeglmngcenaaGreatDoorBtText
import Derived.Test.YtloaeglmngcenaaGreatDoorBtSeal
import Derived.Test.YtloaeglmngcenaaGreatDoorBtGoto
import Derived.WalkKit
import Derived.Lib.Hide
import Derived.Laws.BitsAllLaws
import Derived.Laws.DeepNot64
namespace Go.Proofs.YtloaeglmngcenaaGreatDoor
open Go.RowKit

/-- what holds at a jump to the label 'more' (1), 'last' (2) and 'wrong' (0) of readNum -/
def readJ (s : ByteArray) (p : Nat) (w : World) (R : Int × Int × Int) : Nat → Act → World → Prop
  | 1, a, w' => w' = w ∧ ∃ (k u : Nat) (u8 u11 u12 u13 u14 u15 u16 u17 u18 u19 u20 u21 u22 u23 u24 u25 u26 u27 u28 u29 u30 u31 u32 u33 u34 u35 u36 u37 u38 u39 u40 u41 u42 u43 u44 u45 u46 u47 u48 u49 u50 u51 u52 u53 u54 u55 : Value), a = { tmps := #[.string s, .int .i64 ((p : Int) + (k : Nat)), undef, undef, .int .i64 0, .int .i64 0, .nilIface, .int .u64 (u : Nat), u8, .int .i64 (k : Nat), .int .i64 3, u11, u12, u13, u14, u15, u16, u17, u18, u19, u20, u21, u22, u23, u24, u25, u26, u27, u28, u29, u30, u31, u32, u33, u34, u35, u36, u37, u38, u39, u40, u41, u42, u43, u44, u45, u46, u47, u48, u49, u50, u51, u52, u53, u54, u55], defers := [] } ∧ k ≤ 9 ∧ u < 2 ^ (7 * k) ∧ Bt.numGo s p (10 - k) k u = R
  | 2, a, w' => w' = w ∧ ∃ (k u c : Nat) (u11 u12 u13 u14 u15 u16 u17 u18 u19 u20 u21 u22 u23 u24 u25 u26 u27 u28 u29 u30 u31 u32 u33 u34 u35 u36 u37 u38 u39 u40 u41 u42 u43 u44 u45 u46 u47 u48 u49 u50 u51 u52 u53 u54 u55 : Value), a = { tmps := #[.string s, .int .i64 ((p : Int) + (k : Nat) + 1), undef, undef, .int .i64 0, .int .i64 0, .nilIface, .int .u64 (u : Nat), .int .u8 (c : Nat), .int .i64 ((k : Nat) + 1), .int .i64 3, u11, u12, u13, u14, u15, u16, u17, u18, u19, u20, u21, u22, u23, u24, u25, u26, u27, u28, u29, u30, u31, u32, u33, u34, u35, u36, u37, u38, u39, u40, u41, u42, u43, u44, u45, u46, u47, u48, u49, u50, u51, u52, u53, u54, u55], defers := [] } ∧ k ≤ 9 ∧ p + k < 8000 ∧ u < 18446744073709551616 ∧ c < 128 ∧ (c = 0 ∧ 0 < k → R = (0, 0, 3)) ∧ (¬ (c = 0 ∧ 0 < k) → R = (Bt.unzig u, (p : Int) + k + 1, 0))
  | 0, a, w' => w' = w ∧ ∃ (code : Int) (u1 u7 u8 u9 u11 u12 u13 u14 u15 u16 u17 u18 u19 u20 u21 u22 u23 u24 u25 u26 u27 u28 u29 u30 u31 u32 u33 u34 u35 u36 u37 u38 u39 u40 u41 u42 u43 u44 u45 u46 u47 u48 u49 u50 u51 u52 u53 u54 u55 : Value), a = { tmps := #[.string s, u1, undef, undef, .int .i64 0, .int .i64 0, .nilIface, u7, u8, u9, .int .i64 code, u11, u12, u13, u14, u15, u16, u17, u18, u19, u20, u21, u22, u23, u24, u25, u26, u27, u28, u29, u30, u31, u32, u33, u34, u35, u36, u37, u38, u39, u40, u41, u42, u43, u44, u45, u46, u47, u48, u49, u50, u51, u52, u53, u54, u55], defers := [] } ∧ R = (0, 0, code) ∧ code ≠ 0
  | _, _, _ => False
def readM : Nat → Act → World → Nat
  | 1, a, _ => 20 - (intOf (a.tmps.getD 9 undef)).toNat
  | 2, _, _ => 1
  | _, _, _ => 0
/-- the error of a code -/
def errV (code : Int) : Value := if code = 0 then .nilIface else .iface 359 (.agg #[.int .i64 code])

theorem or_bits {u c k : Nat} (hu : u < 2 ^ (7 * k)) : u ||| c % 128 * 2 ^ (7 * k) = u + c % 128 * 2 ^ (7 * k) := by
  rw [Nat.or_comm, Nat.mul_comm, ← Nat.two_pow_add_eq_or_of_lt hu, Nat.add_comm]
theorem bits_room {u c k : Nat} (hu : u < 2 ^ (7 * k)) (hk : k ≤ 9) (h9 : k = 9 → c ≤ 1) : u + c % 128 * 2 ^ (7 * k) < 18446744073709551616 := by
  rcases Nat.lt_or_ge k 9 with h | h
  · have h1 : (2 : Nat) ^ (7 * k) ≤ 2 ^ 56 := Nat.pow_le_pow_right (by omega) (by omega)
    have h2 : c % 128 * 2 ^ (7 * k) ≤ 127 * 2 ^ 56 := Nat.mul_le_mul (by omega) h1
    omega
  · obtain rfl : k = 9 := by omega
    have := h9 rfl
    have h2 : c % 128 * 2 ^ (7 * 9) ≤ 1 * 2 ^ 63 := Nat.mul_le_mul (by omega) (by decide)
    omega
theorem and_127 {c : Nat} (h : c < 256) : bits .and .u8 (c : Int) 127 = ((c % 128 : Nat) : Int) := by
  have := u8_and_nat c 127 h (by omega)
  rw [show ((127 : Nat) : Int) = 127 from rfl] at this
  rw [this, show (127 : Nat) = 2 ^ 7 - 1 from rfl, Nat.and_two_pow_sub_one_eq_mod]
theorem or_wrap {u c k : Nat} (hu : u < 2 ^ (7 * k)) (hk : k ≤ 9) (h9 : k = 9 → c ≤ 1) : bits .or .u64 (u : Int) (IntKind.u64.wrap ((c : Int) % 128 * 2 ^ (7 * k))) = ((u + c % 128 * 2 ^ (7 * k) : Nat) : Int) := by
  have hb := bits_room (c := c) hu hk h9
  have e : (c : Int) % 128 * 2 ^ (7 * k) = ((c % 128 * 2 ^ (7 * k) : Nat) : Int) := by simp
  rw [e, IntWalk.u64_in _ (by omega), u64_or_nat _ _ (by omega) (by omega), or_bits hu]
theorem bits_xor_comm (x y : Int) : bits .xor .i64 x y = bits .xor .i64 y x := by
  unfold bits; simp only; rw [BitVec.xor_comm]
theorem unzig_bits {u : Nat} (hu : u < 18446744073709551616) : bits .xor .i64 (wrap64 ((u : Int) / 2)) (wrap64 (-wrap64 (bits .and .u64 (u : Int) 1))) = Bt.unzig u := by
  have ha : bits .and .u64 (u : Int) 1 = ((u % 2 : Nat) : Int) := by
    have := u64_and_nat u 1 hu (by omega)
    rw [show ((1 : Nat) : Int) = 1 from rfl] at this
    rw [this, Nat.and_one_is_mod]
  have hx : wrap64 ((u : Int) / 2) = ((u / 2 : Nat) : Int) := by unfold wrap64; omega
  rw [ha, hx]
  unfold Bt.unzig
  split
  · rename_i h
    rw [h, show wrap64 (-wrap64 ((1 : Nat) : Int)) = -1 by unfold wrap64; omega]
    have h2 := i64_not (u / 2) (by omega)
    have hcomm : bits .xor .i64 ((u / 2 : Nat) : Int) (-1) = bits .xor .i64 (-1) ((u / 2 : Nat) : Int) := bits_xor_comm _ _
    rw [hcomm, h2]; omega
  · rename_i h
    rw [show u % 2 = 0 by omega, show wrap64 (-wrap64 ((0 : Nat) : Int)) = ((0 : Nat) : Int) by unfold wrap64; omega]
    simp only [bits, BitVec.ofInt_natCast, BitVec.toNat_xor, BitVec.toNat_ofNat, Nat.zero_mod, Nat.xor_zero]
    rw [Nat.mod_eq_of_lt (show u / 2 < 2 ^ IntKind.i64.bits from Nat.lt_of_lt_of_le (show u / 2 < 9223372036854775808 by omega) (by decide))]
    exact IntWalk.i64_in _ (by omega)
theorem bits_next {u c k : Nat} (hu : u < 2 ^ (7 * k)) : u + c % 128 * 2 ^ (7 * k) < 2 ^ (7 * (k + 1)) := by
  have h2 : c % 128 * 2 ^ (7 * k) ≤ 127 * 2 ^ (7 * k) := Nat.mul_le_mul (by omega) (Nat.le_refl _)
  have e : (2 : Nat) ^ (7 * (k + 1)) = 128 * 2 ^ (7 * k) := by rw [show 7 * (k + 1) = 7 * k + 7 by omega, Nat.pow_add, Nat.mul_comm]
  omega

set_option maxHeartbeats 4000000 in
set_option maxRecDepth 100000 in
theorem readNum_any (s : ByteArray) (p : Nat) (w : World) (hs : s.size ≤ 8000) (hp : p ≤ 9223372036854775807) :
    Calls Tryz.prog 295 #[.string s, .int .i64 p] w fun e w' => e = .returned (.tuple #[.int .i64 (Bt.numGo s p 10 0 0).1, .int .i64 (Bt.numGo s p 10 0 0).2.1, errV (Bt.numGo s p 10 0 0).2.2]) ∧ w = w' := by
  have hR : Bt.numGo s p 10 0 0 = Bt.numGo s p 10 0 0 := rfl
  generalize hr : Bt.numGo s p 10 0 0 = R at hR ⊢
  have HR := Lib.hid hr; clear hr hR
  have hp : (p : Int) ≤ 9223372036854775807 := by omega
  go_enter Tryz.func295, Tryz.ntmps295
  go_wp2
  refine wp_scope_labels (readJ s p w R) readM ?_ ?_
  · intro l a w1 hJ
    match l, hJ with
    | 0, hJ =>
      obtain ⟨rfl, code, u1, u7, u8, u9, u11, u12, u13, u14, u15, u16, u17, u18, u19, u20, u21, u22, u23, u24, u25, u26, u27, u28, u29, u30, u31, u32, u33, u34, u35, u36, u37, u38, u39, u40, u41, u42, u43, u44, u45, u46, u47, u48, u49, u50, u51, u52, u53, u54, u55, rfl, hRR, hc⟩ := hJ
      have HR0 := Lib.hid hRR; have HC := Lib.hid hc
      clear hRR hc
      refine ⟨_, rfl, ?_⟩
      go_wp2
      rw [jumps_ret]
      go_ret3
      exact ⟨by rw [HR0.out, errV, if_neg HC.out]; rfl, rfl⟩
    | 1, hJ =>
      obtain ⟨rfl, k, u, u8, u11, u12, u13, u14, u15, u16, u17, u18, u19, u20, u21, u22, u23, u24, u25, u26, u27, u28, u29, u30, u31, u32, u33, u34, u35, u36, u37, u38, u39, u40, u41, u42, u43, u44, u45, u46, u47, u48, u49, u50, u51, u52, u53, u54, u55, rfl, hk, hu, hR⟩ := hJ
      have HU := Lib.hid hu; have HRk := Lib.hid hR; clear hu hR
      have HF : Hid (10 - k = (9 - k) + 1) := by show _ = _; omega
      refine ⟨_, rfl, ?_⟩
      by_cases hlt : p + k < s.size
      · have hcb : s[p + k].toNat < 256 := s[p + k].toNat_lt
        have hi1 : (0 : Int) ≤ (p : Int) + (k : Nat) := by omega
        have hi2 : (p : Int) + (k : Nat) < (s.size : Nat) := by omega
        have hand := and_127 (c := s[p + k].toNat) hcb
        have hge : decide (((s.size : Nat) : Int) ≤ (p : Int) + (k : Nat)) = false := by simp; omega
        have hkp : p + k < 8000 := by omega
        by_cases h9 : k = 9 ∧ 1 < s[p + k].toNat
        · have HN := Lib.hid (Bt.numGo_ten (f := 9 - k) (u := u) hlt h9.1 h9.2)
          have hkk : ((k : Int) == 9) = true := by simp; omega
          have h1 : 1 < s[p + k].toNat := h9.2
          clear h9
          go_wp2
          go_step3
          exact ⟨⟨rfl, 3, _, _, _, _, _, _, _, _, _, _, _, _, _, _, _, _, _, _, _, _, _, _, _, _, _, _, _, _, _, _, _, _, _, _, _, _, _, _, _, _, _, _, _, _, _, _, _, _, _, rfl, by rw [← HRk.out, HF.out, HN.out], by omega⟩, by simp [readM, intOf]; omega⟩
        · have HW := Lib.hid (or_wrap (c := s[p + k].toNat) HU.out hk (fun e => by omega))
          have HB := Lib.hid (bits_room (c := s[p + k].toNat) HU.out hk (fun e => by omega))
          by_cases hc : s[p + k].toNat < 128
          · have HL1 : Hid (s[p + k].toNat = 0 ∧ 0 < k → R = (0, 0, 3)) := fun ⟨e0, ek⟩ => by rw [← HRk.out, HF.out]; exact Bt.numGo_zero hlt ek e0
            have HL2 : Hid (¬ (s[p + k].toNat = 0 ∧ 0 < k) → R = (Bt.unzig (u + s[p + k].toNat % 128 * 2 ^ (7 * k)), (p : Int) + k + 1, 0)) := fun e0 => by rw [← HRk.out, HF.out]; exact Bt.numGo_last hlt h9 hc e0
            by_cases hk9 : k = 9
            · have h1 : s[p + k].toNat ≤ 1 := by omega
              have hkk : ((k : Int) == 9) = true := by simp; omega
              clear h9 hk9
              have hg : decide ((1 : Int) < (s[p + k].toNat : Int)) = false := by simp; omega
              go_wp2
              rw [HW.out]
              go_step3
              exact ⟨⟨rfl, k, _, _, _, _, _, _, _, _, _, _, _, _, _, _, _, _, _, _, _, _, _, _, _, _, _, _, _, _, _, _, _, _, _, _, _, _, _, _, _, _, _, _, _, _, _, _, _, rfl, by omega, hkp, HB.out, hc, HL1.out, HL2.out⟩, by simp [readM, intOf]; omega⟩
            · have hkk : ((k : Int) == 9) = false := by simp; omega
              clear h9 hk9
              go_wp2
              rw [HW.out]
              go_step3
              exact ⟨⟨rfl, k, _, _, _, _, _, _, _, _, _, _, _, _, _, _, _, _, _, _, _, _, _, _, _, _, _, _, _, _, _, _, _, _, _, _, _, _, _, _, _, _, _, _, _, _, _, _, _, rfl, by omega, hkp, HB.out, hc, HL1.out, HL2.out⟩, by simp [readM, intOf]; omega⟩
          · have hk9 : k ≠ 9 := by omega
            have hkk : ((k : Int) == 9) = false := by simp; omega
            have HX : Hid (Bt.numGo s p (10 - (k + 1)) (k + 1) (u + s[p + k].toNat % 128 * 2 ^ (7 * k)) = R) := by
              show _ = _
              rw [← HRk.out, HF.out, Bt.numGo_more hlt hk9 hc, show 10 - (k + 1) = 9 - k by omega]
            have HB2 := Lib.hid (bits_next (c := s[p + k].toNat) HU.out)
            clear h9
            go_wp2
            rw [HW.out]
            go_step3
            exact ⟨⟨rfl, k + 1, _, _, _, _, _, _, _, _, _, _, _, _, _, _, _, _, _, _, _, _, _, _, _, _, _, _, _, _, _, _, _, _, _, _, _, _, _, _, _, _, _, _, _, _, _, _, _, by rw [show (p : Int) + ((k + 1 : Nat) : Int) = (p : Int) + (k : Int) + 1 by omega]; rfl, by omega, HB2.out, HX.out⟩, by simp [readM, intOf]; omega⟩
      · have hge : decide (((s.size : Nat) : Int) ≤ (p : Int) + (k : Nat)) = true := by simp; omega
        have HN := Lib.hid (Bt.numGo_short (f := 9 - k) (u := u) hlt)
        go_wp2
        go_step3
        exact ⟨⟨rfl, 4, _, _, _, _, _, _, _, _, _, _, _, _, _, _, _, _, _, _, _, _, _, _, _, _, _, _, _, _, _, _, _, _, _, _, _, _, _, _, _, _, _, _, _, _, _, _, _, _, _, rfl, by rw [← HRk.out, HF.out, HN.out], by omega⟩, by simp [readM, intOf]; omega⟩
    | 2, hJ =>
      obtain ⟨rfl, k, u, c, u11, u12, u13, u14, u15, u16, u17, u18, u19, u20, u21, u22, u23, u24, u25, u26, u27, u28, u29, u30, u31, u32, u33, u34, u35, u36, u37, u38, u39, u40, u41, u42, u43, u44, u45, u46, u47, u48, u49, u50, u51, u52, u53, u54, u55, rfl, hk, hpk, hu, hc, hR1, hR2⟩ := hJ
      have HR1 := Lib.hid hR1; have HR2 := Lib.hid hR2; have HU := Lib.hid hu
      clear hR1 hR2 hu
      refine ⟨_, rfl, ?_⟩
      by_cases h0 : c = 0 ∧ 0 < k
      · have HRR := Lib.hid (HR1.out h0)
        obtain ⟨rfl, hk0⟩ := h0
        go_wp2
        go_step3
        exact ⟨⟨rfl, 3, _, _, _, _, _, _, _, _, _, _, _, _, _, _, _, _, _, _, _, _, _, _, _, _, _, _, _, _, _, _, _, _, _, _, _, _, _, _, _, _, _, _, _, _, _, _, _, _, _, rfl, HRR.out, by omega⟩, by simp [readM]⟩
      · have HRR := Lib.hid (HR2.out h0)
        have HX := Lib.hid (unzig_bits HU.out)
        by_cases hc0 : c = 0
        · have hk0 : k ≤ 0 := by omega
          have hcc : ((c : Int) == 0) = true := by simp [hc0]
          have hkk : decide ((1 : Int) < (k : Int) + 1) = false := by simp; omega
          clear h0 hc0
          go_wp2
          rw [jumps_ret, HX.out]
          go_ret3
          exact ⟨by rw [HRR.out]; rfl, rfl⟩
        · have hcc : ((c : Int) == 0) = false := by simp; omega
          clear h0 hc0
          go_wp2
          rw [jumps_ret, HX.out]
          go_ret3
          exact ⟨by rw [HRR.out]; rfl, rfl⟩
  · intro hpass
    go_wp2
    go_step3
    rename_i K hK
    refine hK _ _ ?_
    obtain ⟨rest, hf, hw⟩ := hpass 1 { tmps := #[.string s, .int .i64 (p : Nat), undef, undef, .int .i64 0, .int .i64 0, .nilIface, .int .u64 0, .int .u8 0, .int .i64 0, .int .i64 3, undef, undef, undef, undef, undef, undef, undef, undef, undef, undef, undef, undef, undef, undef, undef, undef, undef, undef, undef, undef, undef, undef, undef, undef, undef, undef, undef, undef, undef, undef, undef, undef, undef, undef, undef, undef, undef, undef, undef, undef, undef, undef, undef, undef, undef], defers := [] } w ⟨rfl, 0, 0, .int .u8 0, undef, undef, undef, undef, undef, undef, undef, undef, undef, undef, undef, undef, undef, undef, undef, undef, undef, undef, undef, undef, undef, undef, undef, undef, undef, undef, undef, undef, undef, undef, undef, undef, undef, undef, undef, undef, undef, undef, undef, undef, undef, undef, undef, undef, undef, rfl, by omega, by decide, HR.out⟩
    cases hf
    exact hw

/-- a NumOut as a value -/
abbrev noutV (r : Int × Int × Int) : Value := .agg #[.int .i64 r.1, .int .i64 r.2.1, .int .i64 r.2.2]
/-- what package errors' variable holds -/
def ErrType (w : World) : Prop := w.cell? ⟨3, 0, none⟩ = some (.iface 290 (.agg #[.pointer (some ⟨4, 109, none⟩)]))
theorem ErrType.below {w w' : World} (h : ErrType w) (hb : Below w.heap.size w w') : ErrType w' := by
  unfold ErrType at h ⊢
  rw [hb.cell (p := ⟨3, 0, none⟩) (World.block_lt_of_cell? w _ h)]; exact h
theorem ErrType.alloc {w : World} (h : ErrType w) (o : Obj) : ErrType (w.alloc o) := h.below ((Below.refl _ _).alloc (Nat.le_refl _) _)

theorem codeOf_any (code : Int) (w : World) (hg : ErrType w) : Calls Tryz.prog 296 #[errV code] w fun e w' => e = .returned (.int .i64 code) ∧ Below w.heap.size w w' := by
  unfold errV
  split
  · rename_i h; subst h; exact codeOf_nil w
  · exact codeOf_bad code w hg

set_option maxHeartbeats 4000000 in
theorem impl_getNum_any (s : ByteArray) (p : Int) (w : World) (hs : s.size ≤ maxLen) (hp : p ≤ 9223372036854775807) (hg : ErrType w) :
    Calls Tryz.prog 267 #[.string s, .int .i64 p] w fun e w' => e = .returned (noutV (Bt.getNum s p)) ∧ Below w.heap.size w w' := by
  unfold maxLen at hs
  have HG := Lib.hid hg; clear hg
  by_cases h1 : 8000 < s.size
  · rw [Bt.getNum_long h1]
    go_enter Tryz.func267, Tryz.ntmps267
    go_wp2
    exact bodyPost_ret (v := noutV (0, 0, 2)) (by simp [results, Tryz.results267, go_sem]) rfl ⟨rfl, (Below.refl _ _).alloc (Nat.le_refl _) _⟩
  by_cases h2 : p < 0
  · rw [Bt.getNum_neg h1 h2]
    go_enter Tryz.func267, Tryz.ntmps267
    go_wp2
    exact bodyPost_ret (v := noutV (0, 0, 1)) (by simp [results, Tryz.results267, go_sem]) rfl ⟨rfl, (Below.refl _ _).alloc (Nat.le_refl _) _⟩
  obtain ⟨q, rfl⟩ := Int.eq_ofNat_of_zero_le (by omega : 0 ≤ p)
  rw [Bt.getNum_ok h1]
  go_enter Tryz.func267, Tryz.ntmps267
  go_wp2_with fail
  refine (readNum_any s q _ (by omega) (by omega)).mono ?_
  rintro e w1 ⟨rfl, rfl⟩
  generalize hR : Bt.numGo s q 10 0 0 = R
  have HR := Lib.hid hR; clear hR
  go_wp2_with fail
  refine (codeOf_any R.2.2 _ (HG.out.alloc _)).mono ?_
  rintro e w2 ⟨rfl, hb2⟩
  have hk2 := (isBlk_new w 218 [Value.int .i64 0, .int .i64 0, .int .i64 0]).below hb2 (by simp)
  have HB2 := Lib.hid (((Below.refl w.heap.size w).alloc (Nat.le_refl _) _).trans (hb2.mono (by simp)))
  have hc0 : w2.cell? ⟨w.heap.size, 0, none⟩ = some _ := hk2.cell rfl
  have hc1 : w2.cell? ⟨w.heap.size, 1, none⟩ = some _ := hk2.cell rfl
  have hc2 : w2.cell? ⟨w.heap.size, 2, none⟩ = some _ := hk2.cell rfl
  have hf0 : w2.frozen? ⟨w.heap.size, 0, none⟩ = false := hk2.free
  have hf1 : w2.frozen? ⟨w.heap.size, 1, none⟩ = false := hk2.free
  have hf2 : w2.frozen? ⟨w.heap.size, 2, none⟩ = false := hk2.free
  clear hb2 hk2
  go_wp2
  exact bodyPost_ret (v := noutV R) (by simp [results, Tryz.results267, go_sem, hc0, hc1, hc2]) rfl ⟨by rw [HR.out], ((HB2.out.setCell (Nat.le_refl _) _).setCell (Nat.le_refl _) _).setCell (Nat.le_refl _) _⟩

theorem shl_room {u c k : Nat} (hu : u < 2 ^ (7 * k)) (hk : k ≤ 9) (h9 : k = 9 → c ≤ 1) : IntKind.u64.wrap ((c : Int) % 128 * 2 ^ (7 * k)) = ((c % 128 * 2 ^ (7 * k) : Nat) : Int) := by
  have hb := bits_room (c := c) hu hk h9
  have e : (c : Int) % 128 * 2 ^ (7 * k) = ((c % 128 * 2 ^ (7 * k) : Nat) : Int) := by simp
  rw [e, IntWalk.u64_in _ (by omega)]

set_option maxHeartbeats 4000000 in
set_option maxRecDepth 100000 in
theorem spec_getNum_any (s : ByteArray) (p : Int) (w : World) (hs : s.size ≤ maxLen) (hp : p ≤ 9223372036854775807) :
    Calls Tryz.prog 173 #[.string s, .int .i64 p] w fun e w' => e = .returned (noutV (Bt.getNum s p)) ∧ Below w.heap.size w w' := by
  unfold maxLen at hs
  by_cases h1 : 8000 < s.size
  · rw [Bt.getNum_long h1]
    go_enter Tryz.func173, Tryz.ntmps173
    go_wp2
    exact bodyPost_ret (v := noutV (0, 0, 2)) (by simp [results, Tryz.results173, go_sem]) rfl ⟨rfl, (Below.refl _ _).alloc (Nat.le_refl _) _⟩
  by_cases h2 : p < 0
  · rw [Bt.getNum_neg h1 h2]
    go_enter Tryz.func173, Tryz.ntmps173
    go_wp2
    exact bodyPost_ret (v := noutV (0, 0, 1)) (by simp [results, Tryz.results173, go_sem]) rfl ⟨rfl, (Below.refl _ _).alloc (Nat.le_refl _) _⟩
  obtain ⟨q, rfl⟩ := Int.eq_ofNat_of_zero_le (by omega : 0 ≤ p)
  rw [Bt.getNum_ok h1]
  generalize hR : Bt.numGo s q 10 0 0 = R
  have HR := Lib.hid hR; clear hR
  have hs8 : s.size ≤ 8000 := by omega
  have hd1 : decide ((8000 : Int) < (s.size : Nat)) = false := by simp; omega
  go_enter Tryz.func173, Tryz.ntmps173
  go_wp2
  go_loop [5, 6] (fun uv i => ∃ k u : Nat, k ≤ 9 ∧ i = .int .i64 (k : Nat) ∧ uv = .int .u64 (u : Nat) ∧ u < 2 ^ (7 * k) ∧ Bt.numGo s q (10 - k) k u = R) (fun _ i => 10 - (intOf i).toNat)
  case atStart => exact ⟨0, 0, by omega, rfl, rfl, by decide, HR.out⟩
  case round =>
    obtain ⟨k, u, hk, rfl, rfl, hu, hRk⟩ := hrel
    have HU := Lib.hid hu; have HRk := Lib.hid hRk; clear hu hRk
    have HF : Hid (10 - k = (9 - k) + 1) := by show _ = _; omega
    by_cases hlt : q + k < s.size
    · have hcb : s[q + k].toNat < 256 := s[q + k].toNat_lt
      have hi1 : (0 : Int) ≤ (q : Int) + (k : Nat) := by omega
      have hi2 : (q : Int) + (k : Nat) < (s.size : Nat) := by omega
      have hge : decide (((s.size : Nat) : Int) - (k : Nat) ≤ (q : Int)) = false := by simp; omega
      by_cases h9 : k = 9 ∧ 1 < s[q + k].toNat
      · have HN := Lib.hid (Bt.numGo_ten (f := 9 - k) (u := u) hlt h9.1 h9.2)
        have hkk : ((k : Int) == 9) = true := by simp; omega
        have h1c : 1 < s[q + k].toNat := h9.2
        clear h9
        go_wp2
        exact bodyPost_ret (v := noutV (0, 0, 3)) (by simp [results, Tryz.results173, go_sem]) rfl ⟨by rw [← HRk.out, HF.out, HN.out], (Below.refl _ _).alloc (Nat.le_refl _) _⟩
      · have HSH := Lib.hid (shl_room (c := s[q + k].toNat) HU.out hk (fun e => by omega))
        have hroom := bits_room (c := s[q + k].toNat) HU.out hk (fun e => by omega)
        have HNX := Lib.hid (bits_next (c := s[q + k].toNat) HU.out)
        have H9 := Lib.hid h9
        have HZ : Hid (0 < k → s[q + k].toNat = 0 → R = (0, 0, 3)) := fun ek e0 => by rw [← HRk.out, HF.out]; exact Bt.numGo_zero hlt ek e0
        have HL : Hid (s[q + k].toNat < 128 → ¬ (s[q + k].toNat = 0 ∧ 0 < k) → R = (Bt.unzig (u + s[q + k].toNat % 128 * 2 ^ (7 * k)), (q : Int) + k + 1, 0)) := fun hc e0 => by rw [← HRk.out, HF.out]; exact Bt.numGo_last hlt H9.out hc e0
        have HX : Hid (¬ s[q + k].toNat < 128 → Bt.numGo s q (10 - (k + 1)) (k + 1) (u + s[q + k].toNat % 128 * 2 ^ (7 * k)) = R) := fun hc => by
          rw [← HRk.out, HF.out, Bt.numGo_more hlt (by have := H9.out; omega) hc, show 10 - (k + 1) = 9 - k by omega]
        have h9a : ((k : Int) == 9) = false ∨ (((k : Int) == 9) = true ∧ s[q + k].toNat ≤ 1) := by
          by_cases hk9 : k = 9
          · right; exact ⟨by simp [hk9], by omega⟩
          · left; simp; omega
        clear h9
        have hsh := HSH.out
        generalize s[q + k].toNat % 128 * 2 ^ (7 * k) = x at hsh hroom HNX HL HX
        have hux : (u : Int) + (x : Nat) ≤ 18446744073709551615 := by omega
        clear hroom HSH
        have HUZ1 : Hid ((u + x) % 2 = 1 → Bt.unzig (u + x) = -(((u : Int) + (x : Nat)) / 2) - 1) := fun h => by unfold Bt.unzig; rw [if_pos h]; omega
        have HUZ0 : Hid (¬ (u + x) % 2 = 1 → Bt.unzig (u + x) = ((u : Int) + (x : Nat)) / 2) := fun h => by unfold Bt.unzig; rw [if_neg h]; omega
        by_cases hc : s[q + k].toNat < 128
        · by_cases h0 : s[q + k].toNat = 0 ∧ 0 < k
          · have HRR := Lib.hid (HZ.out h0.2 h0.1)
            have hc0 : ((s[q + k].toNat : Int) == 0) = true := by simp [h0.1]
            have hk0 : 0 < k := h0.2
            clear h0
            rcases h9a with hkk | ⟨hkk, h1c⟩
            · go_wp2
              exact bodyPost_ret (v := noutV (0, 0, 3)) (by simp [results, Tryz.results173, go_sem]) rfl ⟨by rw [HRR.out], (Below.refl _ _).alloc (Nat.le_refl _) _⟩
            · have hg : decide ((1 : Int) < (s[q + k].toNat : Int)) = false := by simp; omega
              go_wp2
              exact bodyPost_ret (v := noutV (0, 0, 3)) (by simp [results, Tryz.results173, go_sem]) rfl ⟨by rw [HRR.out], (Below.refl _ _).alloc (Nat.le_refl _) _⟩
          · have HRR := Lib.hid (HL.out hc h0)
            have hz0 : ((s[q + k].toNat : Int) == 0) = false ∨ (((s[q + k].toNat : Int) == 0) = true ∧ ¬ 0 < k) := by
              by_cases hc0 : s[q + k].toNat = 0
              · right; exact ⟨by simp [hc0], by omega⟩
              · left; simp; omega
            clear h0
            by_cases hpar : (u + x) % 2 = 1
            · have HV := Lib.hid (HUZ1.out hpar)
              have hp1 : (((u : Int) + (x : Nat)) % 2 == 1) = true := by simp; omega
              clear hpar
              rcases h9a with hkk | ⟨hkk, h1c⟩
              · rcases hz0 with hz | ⟨hz, hz'⟩
                all_goals
                  go_wp2
                  exact bodyPost_ret (v := noutV (-(((u : Int) + (x : Nat)) / 2) - 1, (q : Int) + k + 1, 0)) (by simp [results, Tryz.results173, go_sem]) rfl ⟨by rw [HRR.out, HV.out], (Below.refl _ _).alloc (Nat.le_refl _) _⟩
              · have hg : decide ((1 : Int) < (s[q + k].toNat : Int)) = false := by simp; omega
                rcases hz0 with hz | ⟨hz, hz'⟩
                all_goals
                  go_wp2
                  exact bodyPost_ret (v := noutV (-(((u : Int) + (x : Nat)) / 2) - 1, (q : Int) + k + 1, 0)) (by simp [results, Tryz.results173, go_sem]) rfl ⟨by rw [HRR.out, HV.out], (Below.refl _ _).alloc (Nat.le_refl _) _⟩
            · have HV := Lib.hid (HUZ0.out hpar)
              have hp1 : (((u : Int) + (x : Nat)) % 2 == 1) = false := by simp; omega
              clear hpar
              rcases h9a with hkk | ⟨hkk, h1c⟩
              · rcases hz0 with hz | ⟨hz, hz'⟩
                all_goals
                  go_wp2
                  exact bodyPost_ret (v := noutV (((u : Int) + (x : Nat)) / 2, (q : Int) + k + 1, 0)) (by simp [results, Tryz.results173, go_sem]) rfl ⟨by rw [HRR.out, HV.out], (Below.refl _ _).alloc (Nat.le_refl _) _⟩
              · have hg : decide ((1 : Int) < (s[q + k].toNat : Int)) = false := by simp; omega
                rcases hz0 with hz | ⟨hz, hz'⟩
                all_goals
                  go_wp2
                  exact bodyPost_ret (v := noutV (((u : Int) + (x : Nat)) / 2, (q : Int) + k + 1, 0)) (by simp [results, Tryz.results173, go_sem]) rfl ⟨by rw [HRR.out, HV.out], (Below.refl _ _).alloc (Nat.le_refl _) _⟩
        · have HXX := Lib.hid (HX.out hc)
          rcases h9a with hkk | ⟨hkk, h1c⟩
          · go_wp2
            go_round
            case rel => exact ⟨k + 1, u + x, by have : ¬ (k : Int) = 9 := by simpa using hkk
                                                omega, by go_num, by go_num, HNX.out, HXX.out⟩
            case measure => simp [intOf]; omega
          · omega
    · have hge : decide (((s.size : Nat) : Int) - (k : Nat) ≤ (q : Int)) = true := by simp; omega
      have HN := Lib.hid (Bt.numGo_short (f := 9 - k) (u := u) hlt)
      go_wp2
      exact bodyPost_ret (v := noutV (0, 0, 4)) (by simp [results, Tryz.results173, go_sem]) rfl ⟨by rw [← HRk.out, HF.out, HN.out], (Below.refl _ _).alloc (Nat.le_refl _) _⟩

end Go.Proofs.YtloaeglmngcenaaGreatDoor
