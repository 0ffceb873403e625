/-
  Error correction of the model: EccOf and EccFix.
-/
import Derived.Test.YtgkkkldajangeaaProg
import Derived.KernelRfl
import Derived.Test.YtgkkkldajangeaaEcI
namespace Go.Proofs.Ytgkkkldajangeaa
open Go.RowKit

set_option maxHeartbeats 2000000 in
set_option maxRecDepth 100000 in
theorem spec_eccOf (s : ByteArray) (w : World) (hs : s.size ≤ maxLen) :
    Calls Try.prog 40 #[.string s] w fun e w' => e = .returned (.int .i64 (Bt.eccAns s)) ∧ w = w' := by
  unfold maxLen at hs
  by_cases h1 : 60 < s.size
  · have : Bt.eccAns s = -1 := by rw [Bt.eccAns, if_pos h1]
    rw [this]
    go_enter Try.func40, Try.ntmps40
    go_wp2
    go_ret
    exact ⟨rfl, rfl⟩
  have HA : Hid (Bt.eccAns s = ((Bt.eccTo s.data.toList (8 * s.size) : Nat) : Int)) := by show _ = _; rw [Bt.eccAns, if_neg h1]; rfl
  go_enter Try.func40, Try.ntmps40
  go_wp2
  go_loop [3, 4, 5] (fun a o i => ∃ k : Nat, k ≤ s.size ∧ i = .int .i64 k ∧ a = .int .i64 (Bt.eccTo s.data.toList (8 * k) / 2 : Nat) ∧ o = .int .i64 (Bt.eccTo s.data.toList (8 * k) % 2 : Nat)) (fun _ _ i => s.size - (intOf i).toNat)
  case atStart => exact ⟨0, by omega, rfl, by rw [Nat.mul_zero, Bt.eccTo]; rfl, by rw [Nat.mul_zero, Bt.eccTo]; rfl⟩
  case round =>
    obtain ⟨k, hk, rfl, rfl, rfl⟩ := hrel
    by_cases hlt : k < s.size
    · have HX := Lib.hid (by8_get s k hlt)
      have hxl := Bt.by8_lt s.data.toList k
      go_wp2
      go_loop [3, 4, 6] (fun a o i => ∃ j : Nat, j ≤ 8 ∧ i = .int .i64 j ∧ a = .int .i64 (Bt.eccTo s.data.toList (8 * k + j) / 2 : Nat) ∧ o = .int .i64 (Bt.eccTo s.data.toList (8 * k + j) % 2 : Nat)) (fun _ _ i => 8 - (intOf i).toNat)
      case atStart => exact ⟨0, by omega, rfl, rfl, rfl⟩
      case round =>
        obtain ⟨j, hj, rfl, rfl, rfl⟩ := hrel
        by_cases hjt : j < 8
        · have hc := Bt.eccTo_lt s.data.toList (8 * k + j) (by omega)
          have hbit : Bt.bit1 s.data.toList (8 * k + j) = Bt.by8 s.data.toList k / 2 ^ j % 2 := by
            rw [Bt.bit1, show (8 * k + j) / 8 = k by omega, show (8 * k + j) % 8 = j by omega]
          have HS1 := fun h => Lib.hid (Bt.eccTo_one (l := s.data.toList) (p := 8 * k + j) h)
          have HS0 := fun h => Lib.hid (Bt.eccTo_no (l := s.data.toList) (p := 8 * k + j) h)
          have hb : bits .and .u8 ((Bt.by8 s.data.toList k : Int) / 2 ^ j) 1 = ((Bt.bit1 s.data.toList (8 * k + j) : Nat) : Int) := by
            rw [hbit, ← byte_and_one (Bt.by8 s.data.toList k / 2 ^ j) (Nat.lt_of_le_of_lt (Nat.div_le_self _ _) hxl)]
            congr 1
          clear hbit
          have hxx := i64_xor_nat (Bt.eccTo s.data.toList (8 * k + j) / 2) (8 * k + j + 1) (by omega) (by omega)
          rw [show ((8 * k + j + 1 : Nat) : Int) = 8 * (k : Int) + (j : Int) + 1 by omega] at hxx
          have hh := Bt.xor_half (Bt.eccTo s.data.toList (8 * k + j)) (8 * k + j + 1)
          have hl := Bt.xor_low (Bt.eccTo s.data.toList (8 * k + j)) (8 * k + j + 1)
          rw [← hh] at hxx
          by_cases ho : Bt.bit1 s.data.toList (8 * k + j) = 1
          · have HS := HS1 ho
            rw [ho] at hb
            rw [← (HS1 ho).out] at hxx hl
            clear HS1 HS0 ho hh HS
            generalize Bt.by8 s.data.toList k = x at HX hb
            have hm2 : Bt.eccTo s.data.toList (8 * k + j) % 2 < 2 := by omega
            generalize Bt.eccTo s.data.toList (8 * k + j) % 2 = c2 at hl hm2
            generalize Bt.eccTo s.data.toList (8 * k + j) / 2 = c1 at hxx
            have HL := Lib.hid hl
            clear hl hc
            go_wp2_with (rw [HX.out])
            go_round
            case rel => exact ⟨j + 1, by omega, by go_num, by rw [← Nat.add_assoc]; rfl, by rw [← Nat.add_assoc, HL.out]; congr 1; omega⟩
            case measure => simp [intOf]; omega
          · have HS := HS0 ho
            have hb0 : Bt.bit1 s.data.toList (8 * k + j) = 0 := by have := Bt.bit1_two s.data.toList (8 * k + j); omega
            rw [hb0] at hb
            clear HS1 HS0 ho hh hxx hl hb0
            generalize Bt.by8 s.data.toList k = x at HX hb
            go_wp2_with (rw [HX.out])
            go_round
            case rel => exact ⟨j + 1, by omega, by go_num, by rw [← Nat.add_assoc, HS.out], by rw [← Nat.add_assoc, HS.out]⟩
            case measure => simp [intOf]; omega
        · obtain rfl : j = 8 := by omega
          go_wp2
          go_round
          case rel => exact ⟨k + 1, by omega, by go_num, by rw [Nat.mul_add], by rw [Nat.mul_add]⟩
          case measure => simp [intOf]; omega
    · obtain rfl : k = s.size := by omega
      have hc := Bt.eccTo_lt s.data.toList (8 * s.size) (by omega)
      generalize Bt.eccTo s.data.toList (8 * s.size) = c at HA hc
      go_wp2
      go_ret
      rw [HA.out]
      refine ⟨?_, rfl⟩
      show Ending.returned (.int .i64 (2 * ((c : Int) / 2) + (c : Int) % 2)) = _
      rw [show 2 * ((c : Int) / 2) + (c : Int) % 2 = c by omega]

set_option maxHeartbeats 1000000 in
theorem ecIs_any (n : Int) (w : World) :
    Calls Try.prog 77 #[.int .i64 n, .int .i64 0, .int .i64 1023] w fun e w' => e = .returned (.bool (decide (0 ≤ n ∧ n ≤ 1023))) ∧ w = w' := by
  by_cases h1 : 0 ≤ n
  · by_cases h2 : n ≤ 1023
    · rw [decide_eq_true ⟨h1, h2⟩]
      go_enter Try.func77, Try.ntmps77
      go_wp2
      go_ret
      exact ⟨rfl, rfl⟩
    · have h2' : decide (n ≤ 1023) = false := by simpa using h2
      rw [decide_eq_false (by omega)]
      go_enter Try.func77, Try.ntmps77
      go_wp2
      go_ret
      exact ⟨rfl, rfl⟩
  · have h1' : decide (0 ≤ n) = false := by simpa using h1
    rw [decide_eq_false (by omega)]
    go_enter Try.func77, Try.ntmps77
    go_wp2
    go_ret
    exact ⟨rfl, rfl⟩

set_option maxHeartbeats 1000000 in
set_option maxRecDepth 100000 in
theorem spec_eccFix (s : ByteArray) (ecc : Int) (w : World) (hs : s.size ≤ maxLen) (he : -9223372036854775808 ≤ ecc) (he' : ecc ≤ 9223372036854775807) :
    Calls Try.prog 42 #[.string s, .int .i64 ecc] w fun e w' => e = .returned (fixV s ecc) ∧ Below w.heap.size w w' := by
  unfold maxLen at hs
  by_cases h1 : 8000 < s.size
  · rw [fixV_of (Bt.fix_long h1)]
    go_enter Try.func42, Try.ntmps42
    go_wp2
    exact bodyPost_ret (v := .agg #[strV [], .int .i64 (0 : Nat), .int .i64 2]) (by simp [results, Try.results42, go_sem]; rfl) rfl ⟨rfl, (Below.refl _ _).alloc (Nat.le_refl _) _⟩
  by_cases h2 : 60 < s.size
  · rw [fixV_of (Bt.fix_form (by omega) (.inl h2))]
    go_enter Try.func42, Try.ntmps42
    go_wp2
    exact bodyPost_ret (v := .agg #[strV [], .int .i64 (0 : Nat), .int .i64 1]) (by simp [results, Try.results42, go_sem]; rfl) rfl ⟨rfl, (Below.refl _ _).alloc (Nat.le_refl _) _⟩
  by_cases h3 : ¬ (0 ≤ ecc ∧ ecc ≤ 1023)
  · rw [fixV_of (Bt.fix_form (by omega) (.inr (by omega)))]
    have hd := decide_eq_false h3
    clear h3
    go_enter Try.func42, Try.ntmps42
    go_wp2_with (go_at_call 77; refine (ecIs_any _ _).mono ?_; rintro e w' ⟨rfl, rfl⟩; rw [hd])
    exact bodyPost_ret (v := .agg #[strV [], .int .i64 (0 : Nat), .int .i64 1]) (by simp [results, Try.results42, go_sem]; rfl) rfl ⟨rfl, (Below.refl _ _).alloc (Nat.le_refl _) _⟩
  have h3 : 0 ≤ ecc ∧ ecc ≤ 1023 := by omega
  have HD := Lib.hid (decide_eq_true h3)
  obtain ⟨q, rfl⟩ := Int.eq_ofNat_of_zero_le (by omega : 0 ≤ ecc)
  have hq : q < 1024 := by omega
  have hA : Bt.eccAns s = ((Bt.eccN s.data.toList : Nat) : Int) := by rw [Bt.eccAns, if_neg h2]
  have hnl := Bt.eccN_lt (l := s.data.toList) (show s.size ≤ 60 by omega)
  have hx := i64_xor_nat (Bt.eccN s.data.toList) q (by omega) (by omega)
  have hel : Bt.fixE s (q : Int) < 1024 := Nat.xor_lt_two_pow (n := 10) hnl (by rw [Int.toNat_natCast]; exact hq)
  have HE : Hid (Bt.fixE s (q : Int) = Bt.eccN s.data.toList ^^^ q) := by show _ = _; rw [Bt.fixE, Int.toNat_natCast]
  rw [← HE.out] at hx
  rw [← hA] at hx
  have hse : s.size ≤ 60 := by omega
  have HS := fun h => Lib.hid (fixV_of (Bt.fix_same (s := s) (ecc := (q : Int)) hse (by omega) (by omega) h))
  have HC := fun h h' => Lib.hid (fixV_of (Bt.fix_sum (s := s) (ecc := (q : Int)) hse (by omega) (by omega) h h'))
  have HO := fun h h' => Lib.hid (fixV_of (Bt.fix_one (s := s) (ecc := (q : Int)) hse (by omega) (by omega) h h'))
  generalize Bt.fixE s (q : Int) = d at hx hel HS HC HO
  clear HE hnl hA h2 h1 h3
  generalize fixV s (q : Int) = V at HS HC HO
  have HEC := fun W => Lib.hid (spec_eccOf s W (by unfold maxLen; omega))
  generalize Bt.eccAns s = A at hx HEC
  by_cases h5 : d = 0
  · have H := HS h5
    subst h5
    clear HS HC HO
    go_enter Try.func42, Try.ntmps42
    go_wp2_with (first | (go_at_call 40; refine (HEC _).out.mono ?_; rintro e w' ⟨rfl, rfl⟩) | (go_at_call 77; refine (ecIs_any _ _).mono ?_; rintro e w' ⟨rfl, rfl⟩; rw [HD.out]))
    exact bodyPost_ret (v := .agg #[strV s.data.toList, .int .i64 (0 : Nat), .int .i64 0]) (by simp [results, Try.results42, go_sem]; exact (bstr_of s).symm) rfl ⟨by rw [H.out], (Below.refl _ _).alloc (Nat.le_refl _) _⟩
  have h5i : ((d : Int) == 0) = false := beq_eq_false_iff_ne.2 (by omega)
  by_cases h6 : d % 2 = 0
  · have H := HC h5 (.inl h6)
    clear HS HC HO
    have h1 : (((d : Int) % 2) == 0) = true := by simp; omega
    go_enter Try.func42, Try.ntmps42
    go_wp2_with (first | (go_at_call 40; refine (HEC _).out.mono ?_; rintro e w' ⟨rfl, rfl⟩) | (go_at_call 77; refine (ecIs_any _ _).mono ?_; rintro e w' ⟨rfl, rfl⟩; rw [HD.out]))
    exact bodyPost_ret (v := .agg #[strV [], .int .i64 (0 : Nat), .int .i64 5]) (by simp [results, Try.results42, go_sem]; rfl) rfl ⟨by rw [H.out], (Below.refl _ _).alloc (Nat.le_refl _) _⟩
  have h1 : (((d : Int) % 2) == 0) = false := by simp; omega
  by_cases h7 : d / 2 < 1
  · have H := HC h5 (.inr (.inl h7))
    clear HS HC HO
    have h7i : (d : Int) / 2 < 1 := by omega
    go_enter Try.func42, Try.ntmps42
    go_wp2_with (first | (go_at_call 40; refine (HEC _).out.mono ?_; rintro e w' ⟨rfl, rfl⟩) | (go_at_call 77; refine (ecIs_any _ _).mono ?_; rintro e w' ⟨rfl, rfl⟩; rw [HD.out]))
    exact bodyPost_ret (v := .agg #[strV [], .int .i64 (0 : Nat), .int .i64 5]) (by simp [results, Try.results42, go_sem]; rfl) rfl ⟨by rw [H.out], (Below.refl _ _).alloc (Nat.le_refl _) _⟩
  have h7i : ¬ (d : Int) / 2 < 1 := by omega
  by_cases h8 : 8 * s.size < d / 2
  · have H := HC h5 (.inr (.inr h8))
    clear HS HC HO
    have h8i : 8 * (s.size : Int) < (d : Int) / 2 := by omega
    go_enter Try.func42, Try.ntmps42
    go_wp2_with (first | (go_at_call 40; refine (HEC _).out.mono ?_; rintro e w' ⟨rfl, rfl⟩) | (go_at_call 77; refine (ecIs_any _ _).mono ?_; rintro e w' ⟨rfl, rfl⟩; rw [HD.out]))
    exact bodyPost_ret (v := .agg #[strV [], .int .i64 (0 : Nat), .int .i64 5]) (by simp [results, Try.results42, go_sem]; rfl) rfl ⟨by rw [H.out], (Below.refl _ _).alloc (Nat.le_refl _) _⟩
  have h8i : ¬ 8 * (s.size : Int) < (d : Int) / 2 := by omega
  have H := HO h5 (by omega)
  clear HS HC HO
  obtain ⟨p, hp⟩ : ∃ p, d / 2 = p + 1 := ⟨d / 2 - 1, by omega⟩
  have hpi : (d : Int) / 2 = (p : Int) + 1 := by omega
  have hp8 : p < 8 * s.size := by omega
  rw [hp, Nat.add_sub_cancel] at H
  have k0 := isBlk_new w 58 [.string ⟨#[]⟩, .int .i64 0, .int .i64 0]
  change IsBlk (w.alloc (.cells #[.string ⟨#[]⟩, .int .i64 0, .int .i64 0] 58)) _ _ _ at k0
  have hb0 : Below w.heap.size w (w.alloc (.cells #[.string ⟨#[]⟩, .int .i64 0, .int .i64 0] 58)) := (Below.refl _ _).alloc (Nat.le_refl _) _
  have hz0 : (w.alloc (.cells #[.string ⟨#[]⟩, .int .i64 0, .int .i64 0] 58)).heap.size = w.heap.size + 1 := by simp
  obtain ⟨cap, W, hc, hz, hb, hr⟩ := bytes_row s (w.alloc (.cells #[.string ⟨#[]⟩, .int .i64 0, .int .i64 0] 58))
  have HK0 := Lib.hid (k0.below hb k0.lt); have HB0 := Lib.hid (hb0.trans (hb.mono hb0.size))
  rw [hz0] at hc hr
  clear k0 hb0 hb hz0
  have hl : s.data.toList.length = s.size := rfl
  have hq8 : p / 8 < s.data.toList.length := by omega
  have c0 := hr.cell hq8
  have f0 := hr.free hq8
  have HR := Lib.hid hr
  have hm : p % 8 < 8 := by omega
  have hfl := Bt.flip_lt s.data.toList p
  have HX : Hid (Bt.by8 s.data.toList (p / 8) = (s.data.toList.getD (p / 8) 0).toNat) := rfl
  have hxl := Bt.by8_lt s.data.toList (p / 8)
  have hml : 8 ≤ 8 := Nat.le_refl _
  have hpw := Bt.pow8_lt p
  rw [← HX.out] at c0
  have HF : Hid (Bt.flip1 s.data.toList p = s.data.toList.set (p / 8) (UInt8.ofNat (Bt.by8 s.data.toList (p / 8) ^^^ 2 ^ (p % 8)))) := rfl
  have ha : (p : Int) % 8 = ((p % 8 : Nat) : Int) := by omega
  generalize Bt.by8 s.data.toList (p / 8) = x at c0 hfl HX hxl HF
  generalize p % 8 = m at ha hm hfl hpw HF
  have hx8 : bits .xor .u8 (x : Int) (IntKind.u8.wrap (2 ^ m)) = ((x ^^^ 2 ^ m : Nat) : Int) := by
    rw [← u8_xor_nat x (2 ^ m) hxl hpw, IntKind.wrap_u8']
    congr 1
    have : ((2 : Int) ^ m) = ((2 ^ m : Nat) : Int) := by simp
    rw [this]
    generalize 2 ^ m = z at hpw
    omega
  generalize hy : x ^^^ 2 ^ m = y at hx8 hfl HF
  clear hy hr hpw
  have hwp : IntKind.i64.wrap (p : Int) = p := IntWalk.i64_in _ (by omega)
  have hin : 0 ≤ (p : Int) / 8 ∧ (p : Int) / 8 < (s.size : Int) := by omega
  have hnat : ((p : Int) / 8).toNat = p / 8 := by omega
  go_enter Try.func42, Try.ntmps42
  go_wp2_with (first | (go_at_call 40; refine (HEC _).out.mono ?_; rintro e w' ⟨rfl, rfl⟩) | (go_at_call 77; refine (ecIs_any _ _).mono ?_; rintro e w' ⟨rfl, rfl⟩; rw [HD.out]))
  have htd : ((p : Int)).tdiv 8 = (p : Int) / 8 := Int.tdiv_eq_ediv_of_nonneg (by omega)
  have htm : ((p : Int)).tmod 8 = (p : Int) % 8 := Int.tmod_eq_emod_of_nonneg (by omega)
  have hwq : IntKind.i64.wrap ((p : Int) / 8) = (p : Int) / 8 := IntWalk.i64_in _ (by omega)
  have hwm : IntKind.i64.wrap (m : Int) = m := IntWalk.i64_in _ (by omega)
  go_still_tail 16, (by kernel_rfl)
  change wpList _ _ _ _ _ W.drew
  have hy8 : (UInt8.ofNat y).toNat = y := by rw [UInt8.toNat_ofNat']; omega
  have hrs := HR.out.set hq8 (UInt8.ofNat y)
  rw [hy8, ← HF.out] at hrs
  generalize hW2 : (W.setCell ⟨w.heap.size + 1, p / 8, none⟩ (.int .u8 (y : Int))).drew = W2
  have hrd : ByRow W2 (w.heap.size + 1) (Bt.flip1 s.data.toList p) := by rw [← hW2]; exact hrs
  have hcv := row_text (n := s.size) (c := cap) hrd (by rw [Bt.flip1_len]; exact hl)
  have hbd : Below w.heap.size w (W.setCell ⟨w.heap.size + 1, p / 8, none⟩ (.int .u8 (y : Int))) := HB0.out.setCell (Nat.le_succ w.heap.size) _
  have HBF : Hid (Below w.heap.size w W2) := by rw [← hW2]; exact ⟨hbd.os, hbd.tape, hbd.output, hbd.size, hbd.block⟩
  have hkd : IsBlk (W.setCell ⟨w.heap.size + 1, p / 8, none⟩ (.int .u8 (y : Int))) w.heap.size 58 [.string ⟨#[]⟩, .int .i64 0, .int .i64 0] := HK0.out.other (by dsimp only; omega) _
  have hkw : IsBlk W2 w.heap.size 58 [.string ⟨#[]⟩, .int .i64 0, .int .i64 0] := by rw [← hW2]; exact hkd
  have hc0 : W2.cell? ⟨w.heap.size, 0, none⟩ = some _ := hkw.cell rfl
  have hc1 : W2.cell? ⟨w.heap.size, 1, none⟩ = some _ := hkw.cell rfl
  have hc2 : W2.cell? ⟨w.heap.size, 2, none⟩ = some _ := hkw.cell rfl
  have hf0 : W2.frozen? ⟨w.heap.size, 0, none⟩ = false := hkw.free
  have hf1 : W2.frozen? ⟨w.heap.size, 1, none⟩ = false := hkw.free
  have hf2 : W2.frozen? ⟨w.heap.size, 2, none⟩ = false := hkw.free
  clear hrd hrs hbd hkd hkw
  go_wp2_with (rw [hW2])
  exact bodyPost_ret (v := .agg #[strV (Bt.flip1 s.data.toList p), .int .i64 ((p + 1 : Nat) : Int), .int .i64 0]) (by simp [results, Try.results42, go_sem, hc0, hc1, hc2]) rfl ⟨by rw [H.out], ((HBF.out.setCell (Nat.le_refl _) _).setCell (Nat.le_refl _) _).setCell (Nat.le_refl _) _⟩
end Go.Proofs.Ytgkkkldajangeaa
