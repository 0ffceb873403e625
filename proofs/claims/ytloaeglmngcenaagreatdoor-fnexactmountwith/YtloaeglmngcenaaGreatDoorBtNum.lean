/-
  The contracts of PutNum, of the program and of the model: each returns the bytes 'Bt.putNum n', in memory of its own.
-/
import Derived.Test.YtloaeglmngcenaaGreatDoorProg
import Derived.KernelRfl
import Derived.Test.YtloaeglmngcenaaGreatDoorBtPure
import Derived.Test.YtloaeglmngcenaaGreatDoorBtMem
import Derived.WalkKit
import Derived.Lib.Hide
import Derived.Laws.BitsAllLaws
namespace Go.Proofs.YtloaeglmngcenaaGreatDoor
open Go.RowKit

theorem info_byte : (Tryz.prog.info? 5).map (fun i => (i.zero, i.size, i.bytes)) = some (some (.int .u8 0), 1, 1) := by kernel_rfl
theorem byte_one : OneInfo Tryz.prog 22 5 (.int .u8 0) 1 := ⟨Tryz.underlying22, info_byte, rfl⟩

theorem ret_int {k : IntKind} {a b : Int} (h : a = b) : Ending.returned (.int k a) = .returned (.int k b) := by rw [h]

set_option maxHeartbeats 1000000 in
set_option maxRecDepth 100000 in
theorem l01Fold_any (n : Int) (w : World) (h1 : -9223372036854775808 ≤ n) (h2 : n ≤ 9223372036854775807) :
    Calls Tryz.prog 224 #[.int .i64 n] w fun e w' => e = .returned (.int .u64 (Bt.zig n : Nat)) ∧ w = w' := by
  by_cases h : n < 0
  · have HZ : Hid ((Bt.zig n : Int) = -2 * n - 1) := by show _ = _; unfold Bt.zig; rw [if_pos h]; omega
    go_enter Tryz.func224, Tryz.ntmps224
    go_wp2
    go_ret
    exact ⟨ret_int (by rw [HZ.out]; omega), rfl⟩
  · have HZ : Hid ((Bt.zig n : Int) = 2 * n) := by show _ = _; unfold Bt.zig; rw [if_neg h]; omega
    go_enter Tryz.func224, Tryz.ntmps224
    go_wp2
    go_ret
    exact ⟨ret_int (by rw [HZ.out]), rfl⟩

/-- the bytes so far and the rest make the whole encoding -/
def NumAt (u : Nat) (k : Nat) (bs : List UInt8) (r : Nat) : Prop := bs.length = k ∧ k ≤ 9 ∧ r < 2 ^ (64 - 7 * k) ∧ bs ++ Bt.vput (9 - k) r = Bt.vput 9 u
theorem numAt_zero {u : Nat} (h : u < 18446744073709551616) : NumAt u 0 [] u := ⟨rfl, by omega, h, rfl⟩
theorem numAt_succ {u k r : Nat} {bs : List UInt8} (h : NumAt u k bs r) (hr : ¬ r < 128) : k < 9 ∧ NumAt u (k + 1) (bs ++ [UInt8.ofNat (r % 128 + 128)]) (r / 128) := by
  obtain ⟨h1, h2, h3, h4⟩ := h
  have hk : k < 9 := by
    rcases Nat.lt_or_ge k 9 with h | h
    · exact h
    · obtain rfl : k = 9 := by omega
      simp at h3; omega
  refine ⟨hk, by simp [h1], by omega, ?_, ?_⟩
  · have e : 64 - 7 * k = (64 - 7 * (k + 1)) + 7 := by omega
    rw [e, Nat.pow_add] at h3
    exact Nat.div_lt_of_lt_mul (by rw [Nat.mul_comm]; exact h3)
  · rw [← h4, show 9 - k = (9 - (k + 1)) + 1 by omega, Bt.vput_big hr]; simp
theorem numAt_end {u k r : Nat} {bs : List UInt8} (h : NumAt u k bs r) (hr : r < 128) : bs ++ [UInt8.ofNat r] = Bt.vput 9 u := by
  rw [← h.2.2.2, Bt.vput_small hr]
theorem numAt_lt {u k r : Nat} {bs : List UInt8} (h : NumAt u k bs r) : r < 18446744073709551616 :=
  Nat.lt_of_lt_of_le h.2.2.1 (Nat.pow_le_pow_right (by omega) (by omega : 64 - 7 * k ≤ 64))
theorem byteV_big (r : Nat) : byteV (UInt8.ofNat (r % 128 + 128)) = .int .u8 ((r : Int) % 128 + 128) := by
  unfold byteV; rw [UInt8.toNat_ofNat']; congr 1; omega
theorem byteV_small {r : Nat} (h : r < 128) : byteV (UInt8.ofNat r) = .int .u8 (r : Int) := by
  unfold byteV; rw [UInt8.toNat_ofNat']; congr 1; omega

set_option maxHeartbeats 1000000 in
set_option maxRecDepth 100000 in
theorem spec_putNum_any (n : Int) (w : World) (h1 : -9223372036854775808 ≤ n) (h2 : n ≤ 9223372036854775807) :
    Calls Tryz.prog 162 #[.int .i64 n] w fun e w' => e = .returned (strV (Bt.putNum n)) ∧ Below w.heap.size w w' := by
  have hu := Bt.zig_lt h1 h2
  unfold Bt.putNum
  go_enter Tryz.func162, Tryz.ntmps162
  go_wp2_with (go_at_call 224; refine (l01Fold_any _ _ h1 h2).mono ?_; rintro e w' ⟨rfl, rfl⟩)
  generalize hz : Bt.zig n = u at hu
  have HZ := Lib.hid hz; clear hz
  have HU := Lib.hid hu; clear hu h1 h2
  go_loopw [3, 4] (fun rv v wr => ∃ (k r : Nat) (bs : List UInt8), NumAt u k bs r ∧ rv = .int .u64 (r : Nat) ∧ wr.ownsRow w.heap.size 5 1 v k (bs.map byteV) ∧ Below w.heap.size w wr) (fun rv _ _ => (intOf rv).toNat)
  case atStart => exact ⟨0, u, [], numAt_zero HU.out, rfl, World.ownsRow_made w #[] 0 (Nat.le_refl _) (by decide) rfl, (Below.refl _ _).alloc (Nat.le_refl _) _⟩
  case round =>
    obtain ⟨k, r, bs, hn, rfl, hown, hbel⟩ := hrel
    have HN := Lib.hid hn
    have hr : (r : Int) ≤ 18446744073709551615 := by have := numAt_lt hn; omega
    have hk9 := hn.2.1
    have hsz := hbel.size
    clear hn
    have HO := Lib.hid hown; have HB := Lib.hid hbel
    clear hown hbel
    by_cases hlt : r < 128
    · have HE := Lib.hid (numAt_end HN.out hlt)
      obtain ⟨c, hc⟩ : ∃ c, c = UInt8.ofNat r := ⟨_, rfl⟩
      have HV : Hid (Value.int .u8 (r : Int) = byteV c) := by rw [hc]; exact (byteV_small hlt).symm
      have HC := Lib.hid hc; clear hc
      go_wp2_with (at_builtin; refine wpList_append_one byteV oneCell_byteV rfl _ _ 22 5 _ 1 byte_one rfl HO.out HB.out hsz rfl rfl c HV.out (by omega) (by omega) ?_; intro v' w1 ho1 hb1; have HB1 := Lib.hid hb1; have hconv := conv_own (dst := 9) Tryz.underlying22 Tryz.underlying5 Tryz.underlying9 ho1; clear hb1 ho1)
      go_ret
      exact ⟨by rw [HZ.out, ← HE.out, ← HC.out]; rfl, HB1.out⟩
    · obtain ⟨hk, hn2⟩ := numAt_succ HN.out hlt
      obtain ⟨c, hc⟩ : ∃ c, c = UInt8.ofNat (r % 128 + 128) := ⟨_, rfl⟩
      have HV : Hid (Value.int .u8 ((r : Int) % 128 + 128) = byteV c) := by rw [hc]; exact (byteV_big r).symm
      rw [← hc] at hn2
      have HN2 := Lib.hid hn2; clear hn2 hc
      go_wp2_with (at_builtin; refine wpList_append_one byteV oneCell_byteV rfl _ _ 22 5 _ 1 byte_one rfl HO.out HB.out hsz rfl rfl c HV.out (by omega) (by omega) ?_; intro v' w1 ho1 hb1; have HB1 := Lib.hid hb1; have HO1 := Lib.hid ho1; clear hb1 ho1)
      go_roundw
      case rel => exact ⟨k + 1, r / 128, _, HN2.out, congrArg (Value.int .u64) (by omega), HO1.out, HB1.out⟩
      case measure => simp [intOf]; omega

theorem xor_ones64 (a : Nat) (h : a < 18446744073709551616) : a ^^^ 18446744073709551615 = 18446744073709551615 - a := by
  have h1 := BitVec.toNat_not (x := BitVec.ofNat 64 a)
  rw [← BitVec.xor_allOnes, BitVec.toNat_xor, BitVec.toNat_allOnes, BitVec.toNat_ofNat, Nat.mod_eq_of_lt (by simpa using h)] at h1
  exact h1
theorem zig_bits {n : Int} (h1 : -9223372036854775808 ≤ n) (h2 : n ≤ 9223372036854775807) :
    bits .xor .u64 (IntKind.u64.wrap (wrap64 (n * 2))) (IntKind.u64.wrap (n / 9223372036854775808)) = ((Bt.zig n : Nat) : Int) := by
  have hw : IntKind.u64.wrap (wrap64 (n * 2)) = (n * 2) % 18446744073709551616 := by rw [IntKind.wrap_u64]; unfold wrap64; omega
  rw [hw]
  by_cases h : n < 0
  · have e1 : n / 9223372036854775808 = -1 := by omega
    have e2 : IntKind.u64.wrap (-1) = ((18446744073709551615 : Nat) : Int) := by rw [IntKind.wrap_u64]; rfl
    obtain ⟨a, ha⟩ := Int.eq_ofNat_of_zero_le (show 0 ≤ (n * 2) % 18446744073709551616 by omega)
    rw [e1, e2, ha, u64_xor_nat a _ (by omega) (by omega), xor_ones64 a (by omega)]
    unfold Bt.zig; rw [if_pos h]; omega
  · have e1 : n / 9223372036854775808 = 0 := by omega
    have e2 : IntKind.u64.wrap 0 = ((0 : Nat) : Int) := by rw [IntKind.wrap_u64]; rfl
    obtain ⟨a, ha⟩ := Int.eq_ofNat_of_zero_le (show 0 ≤ (n * 2) % 18446744073709551616 by omega)
    rw [e1, e2, ha, u64_xor_nat a _ (by omega) (by omega), Nat.xor_zero]
    unfold Bt.zig; rw [if_neg h]; omega
theorem zeros_at {bs : List UInt8} {k : Nat} (h : bs.length = k) (hk : k ≤ 9) : (bs.map byteV ++ List.replicate (10 - k) (.int .u8 0))[k]? = some (.int .u8 0) := by
  subst h
  rw [List.getElem?_append_right (by simp)]
  simp [List.getElem?_replicate]; omega
theorem zeros_set {bs : List UInt8} {k : Nat} (h : bs.length = k) (hk : k ≤ 9) (c : UInt8) : (bs.map byteV ++ List.replicate (10 - k) (Value.int .u8 0)).set k (byteV c) = (bs ++ [c]).map byteV ++ List.replicate (10 - (k + 1)) (.int .u8 0) := by
  subst h
  rw [List.set_append_right _ _ (by simp)]
  rw [show 10 - bs.length = (10 - (bs.length + 1)) + 1 by omega, List.replicate_succ]
  simp
theorem or_big (r : Nat) : bits .or .u8 (IntKind.u8.wrap (r : Int)) 128 = (r : Int) % 128 + 128 := by
  have hw : IntKind.u8.wrap (r : Int) = ((r % 256 : Nat) : Int) := by rw [IntKind.wrap_u8]; omega
  have h := u8_or_nat (r % 256) 128 (by omega) (by omega)
  rw [hw, show (128 : Int) = ((128 : Nat) : Int) from rfl, h]
  have hx : ∀ x : Fin 256, x.val ||| 128 = x.val % 128 + 128 := by decide +kernel
  have := hx ⟨r % 256, by omega⟩
  simp only at this
  rw [this]; omega

set_option maxHeartbeats 1000000 in
set_option maxRecDepth 100000 in
theorem impl_putNum_any (n : Int) (w : World) (h1 : -9223372036854775808 ≤ n) (h2 : n ≤ 9223372036854775807) :
    Calls Tryz.prog 154 #[.int .i64 n] w fun e w' => e = .returned (strV (Bt.putNum n)) ∧ Below w.heap.size w w' := by
  have hu := Bt.zig_lt h1 h2
  unfold Bt.putNum
  go_enter Tryz.func154, Tryz.ntmps154
  go_wp2
  rw [zig_bits h1 h2]
  generalize hz : Bt.zig n = u at hu
  have HZ := Lib.hid hz; clear hz
  have HU := Lib.hid hu; clear hu h1 h2
  go_loopw [3, 5] (fun rv i wr => ∃ (k r : Nat) (bs : List UInt8), NumAt u k bs r ∧ rv = .int .u64 (r : Nat) ∧ i = .int .i64 (k : Nat) ∧ IsBlk wr w.heap.size 261 (bs.map byteV ++ List.replicate (10 - k) (.int .u8 0)) ∧ Below w.heap.size w wr) (fun rv _ _ => (intOf rv).toNat)
  case atStart => exact ⟨0, u, [], numAt_zero HU.out, rfl, rfl, isBlk_new w _ (List.replicate 10 (.int .u8 0)), (Below.refl _ _).alloc (Nat.le_refl _) _⟩
  case round =>
    obtain ⟨k, r, bs, hn, rfl, rfl, hblk, hbel⟩ := hrel
    have HN := Lib.hid hn
    have hr : (r : Int) ≤ 18446744073709551615 := by have := numAt_lt hn; omega
    have hk9 := hn.2.1
    have HL := Lib.hid hn.1
    clear hn
    have hfree : wr.frozen? ⟨w.heap.size, k, none⟩ = false := hblk.free
    have hcell : wr.cell? ⟨w.heap.size, k, none⟩ = some (.int .u8 0) := hblk.cell (zeros_at HL.out hk9)
    have HB := Lib.hid hbel; have HK := Lib.hid hblk
    clear hbel hblk
    by_cases hlt : r < 128
    · have HE := Lib.hid (numAt_end HN.out hlt)
      have hk10 : (k : Int) + 1 ≤ 10 := by omega
      have hk1 : (0 : Int) ≤ (k : Int) + 1 := by omega
      have hset := HK.out.set (j := k) (byteV (UInt8.ofNat r))
      rw [zeros_set HL.out hk9, byteV_small hlt] at hset
      have hconv := conv_blk (c := 10) (n := k + 1) (dst := 9) Tryz.underlying22 Tryz.underlying5 Tryz.underlying9 hset ⟨_, rfl⟩ (by simp [HL.out])
      have HB1 := Lib.hid (HB.out.setCell (p := ⟨w.heap.size, k, none⟩) (Nat.le_refl _) (.int .u8 (r : Int)))
      clear hset
      generalize hs : bs ++ [UInt8.ofNat r] = s at hconv
      have HS := Lib.hid hs; clear hs
      go_wp2
      go_ret
      exact ⟨by rw [HZ.out, ← HE.out, HS.out]; rfl, HB1.out⟩
    · obtain ⟨hk, hn2⟩ := numAt_succ HN.out hlt
      have HN2 := Lib.hid hn2; clear hn2
      have ho := or_big r
      rw [IntKind.wrap_u8] at ho
      have hset := HK.out.set (j := k) (byteV (UInt8.ofNat (r % 128 + 128)))
      rw [zeros_set HL.out hk9, byteV_big r] at hset
      have HS := Lib.hid hset; clear hset
      have HB1 := Lib.hid (HB.out.setCell (p := ⟨w.heap.size, k, none⟩) (Nat.le_refl _) (.int .u8 ((r : Int) % 128 + 128)))
      go_wp2
      go_roundw
      case rel => exact ⟨k + 1, r / 128, _, HN2.out, congrArg (Value.int .u64) (by omega), by go_num, HS.out, HB1.out⟩
      case measure => simp [intOf]; omega

end Go.Proofs.YtloaeglmngcenaaGreatDoor
