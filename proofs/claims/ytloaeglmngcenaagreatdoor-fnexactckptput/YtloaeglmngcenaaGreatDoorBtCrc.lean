/-
  The contracts of the checksum functions: crcStep and CrcMore of the program, l01Crc and CrcMore of the model, in terms of 'Bt.crcMore'.
-/
import Derived.Test.YtloaeglmngcenaaGreatDoorProg
import Derived.KernelRfl
import Derived.Test.YtloaeglmngcenaaGreatDoorBtPure
import Derived.WalkKit
import Derived.Lib.Hide
import Derived.Laws.BitsAllLaws
namespace Go.Proofs.YtloaeglmngcenaaGreatDoor
open Go.RowKit

theorem low_one {q : Nat} (hq : q < 4294967296) (h : q % 2 = 1) : bits .and .u32 (q : Int) 1 = 1 := by
  have := u32_and_nat q 1 hq (by omega)
  rw [show ((1 : Nat) : Int) = 1 from rfl] at this
  rw [this, Nat.and_one_is_mod, h]; rfl
theorem low_zero {q : Nat} (hq : q < 4294967296) (h : ¬ q % 2 = 1) : bits .and .u32 (q : Int) 1 = 0 := by
  have := u32_and_nat q 1 hq (by omega)
  rw [show ((1 : Nat) : Int) = 1 from rfl] at this
  rw [this, Nat.and_one_is_mod, show q % 2 = 0 by omega]; rfl
theorem bit_one {q : Nat} (hq : q < 4294967296) (h : q % 2 = 1) : bits .xor .u32 ((q : Int) / 2) 3988292384 = ((Bt.crcBit q : Nat) : Int) := by
  have := u32_xor_nat (q / 2) 3988292384 (by omega) (by omega)
  rw [show ((3988292384 : Nat) : Int) = 3988292384 from rfl, show ((q / 2 : Nat) : Int) = (q : Int) / 2 by omega] at this
  rw [this, Bt.crcBit, if_pos h]
theorem bit_zero {q : Nat} (h : ¬ q % 2 = 1) : (q : Int) / 2 = ((Bt.crcBit q : Nat) : Int) := by
  rw [Bt.crcBit, if_neg h]; omega

set_option maxHeartbeats 1000000 in
theorem crcStep_any (r : Nat) (c : UInt8) (w : World) (hr : r < 4294967296) :
    Calls Tryz.prog 307 #[.int .u32 r, .int .u8 c.toNat] w fun e w' => e = .returned (.int .u32 (Bt.crcByte r c)) ∧ w = w' := by
  have hb : c.toNat < 256 := c.toNat_lt
  have HX := Lib.hid (u32_xor_nat r c.toNat hr (by omega))
  have HL := Lib.hid (Nat.xor_lt_two_pow (n := 32) (x := r) (y := c.toNat) hr (by omega))
  unfold Bt.crcByte
  go_enter Tryz.func307, Tryz.ntmps307
  go_wp2
  rw [HX.out]
  generalize hx : r ^^^ c.toNat = x at HL
  have HE := Lib.hid hx; clear hx
  go_loop [0, 5] (fun r i => ∃ k : Nat, k ≤ 8 ∧ i = .int .i64 k ∧ r = .int .u32 (Bt.crcBits k x : Nat)) (fun _ i => 8 - (intOf i).toNat)
  case atStart => exact ⟨0, by omega, rfl, rfl⟩
  case round =>
    obtain ⟨k, hk, rfl, rfl⟩ := hrel
    have hq : Bt.crcBits k x < 4294967296 := Bt.crcBits_lt HL.out
    have HS := Lib.hid (Bt.crcBits_succ k x)
    by_cases hlt : k < 8
    · generalize Bt.crcBits k x = q at hq HS
      by_cases ho : q % 2 = 1
      · have hl := low_one hq ho
        have HB := Lib.hid (bit_one hq ho)
        clear ho
        go_wp2
        go_round
        case rel => exact ⟨k + 1, by omega, by go_num, by rw [HS.out, ← HB.out]⟩
        case measure => simp [intOf]; omega
      · have hl := low_zero hq ho
        have HB := Lib.hid (bit_zero ho)
        clear ho
        go_wp2
        go_round
        case rel => exact ⟨k + 1, by omega, by go_num, by rw [HS.out, ← HB.out]⟩
        case measure => simp [intOf]; omega
    · obtain rfl : k = 8 := by omega
      go_wp2
      go_ret
      exact ⟨by rw [HE.out]; rfl, rfl⟩

theorem not_u32 {c : Nat} (h : c < 4294967296) : bits .xor .u32 (c : Int) 4294967295 = ((c ^^^ 4294967295 : Nat) : Int) := u32_xor_nat c 4294967295 h (by omega)

theorem wrap64_nat {n : Nat} (h : n < 4294967296) : wrap64 (n : Int) = n := by unfold wrap64; omega
theorem not_u32' {c : Nat} (h : c < 4294967296) : bits .xor .u32 IntKind.u32.max (c : Int) = ((c ^^^ 4294967295 : Nat) : Int) := by
  rw [Nat.xor_comm]; exact u32_xor_nat 4294967295 c (by omega) h

set_option maxHeartbeats 1000000 in
theorem impl_crcMore_any (crc : Int) (s : ByteArray) (w : World) (hs : s.size ≤ maxLen) :
    Calls Tryz.prog 287 #[.int .i64 crc, .string s] w fun e w' => e = .returned (.int .i64 (Bt.crcAns crc s)) ∧ w = w' := by
  unfold maxLen at hs
  by_cases h1 : 8000 < s.size
  · rw [Bt.crcAns_long h1]
    go_enter Tryz.func287, Tryz.ntmps287
    go_wp2
    go_ret
    exact ⟨rfl, rfl⟩
  by_cases h2 : crc < 0
  · rw [Bt.crcAns_neg h2]
    go_enter Tryz.func287, Tryz.ntmps287
    go_wp2
    go_ret
    exact ⟨rfl, rfl⟩
  by_cases h3 : 4294967295 < crc
  · rw [Bt.crcAns_big h3]
    go_enter Tryz.func287, Tryz.ntmps287
    go_wp2
    go_ret
    exact ⟨rfl, rfl⟩
  obtain ⟨c, rfl⟩ := Int.eq_ofNat_of_zero_le (by omega : 0 ≤ crc)
  have hc : c < 4294967296 := by omega
  have HA := Lib.hid (Bt.crcAns_ok (s := s) (c := c) (by omega) hc)
  go_enter Tryz.func287, Tryz.ntmps287
  go_wp2
  rw [not_u32' hc]
  have hx : c ^^^ 4294967295 < 4294967296 := Nat.xor_lt_two_pow (n := 32) hc (by omega)
  generalize hq : c ^^^ 4294967295 = q at hx
  have HQ := Lib.hid hq; clear hq
  go_loop [5, 6] (fun r i => ∃ k : Nat, k ≤ s.size ∧ i = .int .i64 k ∧ r = .int .u32 (Bt.crcRun q (s.data.toList.take k) : Nat)) (fun _ i => s.size - (intOf i).toNat)
  case atStart => exact ⟨0, by omega, rfl, rfl⟩
  case round =>
    obtain ⟨k, hk, rfl, rfl⟩ := hrel
    have hr : Bt.crcRun q (s.data.toList.take k) < 4294967296 := Bt.crcRun_lt hx
    by_cases hlt : k < s.size
    · have HS := Lib.hid (Bt.crcRun_snoc q (s.data.toList.take k) s[k])
      have HT := Lib.hid (Bt.take_snoc s k hlt)
      generalize Bt.crcRun q (s.data.toList.take k) = r at hr HS
      go_wp2_with (go_at_call 307; refine (crcStep_any _ _ _ hr).mono ?_; rintro e w' ⟨rfl, rfl⟩)
      go_round
      case rel => exact ⟨k + 1, by omega, by go_num, by rw [HT.out, HS.out]⟩
      case measure => simp [intOf]; omega
    · obtain rfl : k = s.size := by omega
      have HN := Lib.hid (not_u32' hr)
      have hm := Bt.crcMore_lt (l := s.data.toList) hc
      have HE : Hid (Bt.crcRun q (s.data.toList.take s.size) ^^^ 4294967295 = Bt.crcMore c s.data.toList) := by
        show _ = _
        rw [List.take_of_length_le (by simp), Bt.crcMore, HQ.out]
      go_wp2
      go_ret
      rw [HN.out, HE.out, HA.out, wrap64_nat hm]
      exact ⟨rfl, rfl⟩

set_option maxHeartbeats 1000000 in
theorem impl_crc_any (s : ByteArray) (w : World) (hs : s.size ≤ maxLen) :
    Calls Tryz.prog 259 #[.string s] w fun e w' => e = .returned (.int .i64 (Bt.crcAns 0 s)) ∧ w = w' := by
  go_enter Tryz.func259, Tryz.ntmps259
  go_wp2_with (go_at_call 287; refine (impl_crcMore_any _ _ _ hs).mono ?_; rintro e w' ⟨rfl, rfl⟩)
  go_ret
  exact ⟨rfl, rfl⟩

set_option maxHeartbeats 1000000 in
theorem l01Crc_any (c : Nat) (s : ByteArray) (w : World) (hs : s.size ≤ maxLen) (hc : c < 4294967296) :
    Calls Tryz.prog 172 #[.int .i64 c, .string s] w fun e w' => e = .returned (.int .i64 ((Bt.crcMore c s.data.toList : Nat) : Int)) ∧ w = w' := by
  unfold maxLen at hs
  go_enter Tryz.func172, Tryz.ntmps172
  go_wp2
  rw [not_u32 hc]
  have hx : c ^^^ 4294967295 < 4294967296 := Nat.xor_lt_two_pow (n := 32) hc (by omega)
  generalize hq : c ^^^ 4294967295 = q at hx
  have HQ := Lib.hid hq; clear hq
  go_loop [5, 6] (fun r i => ∃ k : Nat, k ≤ s.size ∧ i = .int .i64 k ∧ r = .int .u32 (Bt.crcRun q (s.data.toList.take k) : Nat)) (fun _ i => s.size - (intOf i).toNat)
  case atStart => exact ⟨0, by omega, rfl, rfl⟩
  case round =>
    obtain ⟨k, hk, rfl, rfl⟩ := hrel
    have hr : Bt.crcRun q (s.data.toList.take k) < 4294967296 := Bt.crcRun_lt hx
    by_cases hlt : k < s.size
    · have HS := Lib.hid (Bt.crcRun_snoc q (s.data.toList.take k) s[k])
      have HT := Lib.hid (Bt.take_snoc s k hlt)
      generalize Bt.crcRun q (s.data.toList.take k) = r at hr HS
      have hb : s[k].toNat < 256 := s[k].toNat_lt
      have HX := Lib.hid (u32_xor_nat r s[k].toNat hr (by omega))
      have HL := Lib.hid (Nat.xor_lt_two_pow (n := 32) (x := r) (y := s[k].toNat) hr (by omega))
      go_wp2
      rw [HX.out]
      have HS2 : Hid (Bt.crcRun q (s.data.toList.take k ++ [s[k]]) = Bt.crcBits 8 (r ^^^ s[k].toNat)) := HS.out
      clear HS
      generalize r ^^^ s[k].toNat = x at HL HS2
      go_loop [5, 7] (fun r i => ∃ j : Nat, j ≤ 8 ∧ i = .int .i64 j ∧ r = .int .u32 (Bt.crcBits j x : Nat)) (fun _ i => 8 - (intOf i).toNat)
      case atStart => exact ⟨0, by omega, rfl, rfl⟩
      case round =>
        obtain ⟨j, hj, rfl, rfl⟩ := hrel
        have hz : Bt.crcBits j x < 4294967296 := Bt.crcBits_lt HL.out
        have HZ := Lib.hid (Bt.crcBits_succ j x)
        by_cases hjt : j < 8
        · generalize Bt.crcBits j x = z at hz HZ
          by_cases ho : z % 2 = 1
          · have hl := low_one hz ho
            have HB := Lib.hid (bit_one hz ho)
            clear ho
            go_wp2
            go_round
            case rel => exact ⟨j + 1, by omega, by go_num, by rw [HZ.out, ← HB.out]⟩
            case measure => simp [intOf]; omega
          · have hl := low_zero hz ho
            have HB := Lib.hid (bit_zero ho)
            clear ho
            go_wp2
            go_round
            case rel => exact ⟨j + 1, by omega, by go_num, by rw [HZ.out, ← HB.out]⟩
            case measure => simp [intOf]; omega
        · obtain rfl : j = 8 := by omega
          go_wp2
          go_round
          case rel => exact ⟨k + 1, by omega, by go_num, by rw [HT.out, HS2.out]⟩
          case measure => simp [intOf]; omega
    · obtain rfl : k = s.size := by omega
      have HN := Lib.hid (not_u32 hr)
      have hm := Bt.crcMore_lt (l := s.data.toList) hc
      have HE : Hid (Bt.crcRun q (s.data.toList.take s.size) ^^^ 4294967295 = Bt.crcMore c s.data.toList) := by
        show _ = _
        rw [List.take_of_length_le (by simp), Bt.crcMore, HQ.out]
      go_wp2
      go_ret
      rw [HN.out, HE.out, wrap64_nat hm]
      exact ⟨rfl, rfl⟩

end Go.Proofs.YtloaeglmngcenaaGreatDoor
