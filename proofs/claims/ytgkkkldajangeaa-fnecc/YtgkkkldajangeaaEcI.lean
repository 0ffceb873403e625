/-
  Error correction of the program: EccOf and EccFix.
-/
import Derived.Test.YtgkkkldajangeaaProg
import Derived.KernelRfl
import Derived.Test.YtgkkkldajangeaaEcPure
import Derived.Test.YtgkkkldajangeaaEcMem
import Derived.Test.YtgkkkldajangeaaBtText
import Derived.StillTailTactics
namespace Go.Proofs.Ytgkkkldajangeaa
open Go.RowKit

theorem i64_and_nat (a b : Nat) (ha : a < 9223372036854775808) (hb : b < 9223372036854775808) : bits .and .i64 (a : Int) (b : Int) = ((a &&& b : Nat) : Int) := by
  have hx : a &&& b < 9223372036854775808 := Nat.lt_of_le_of_lt Nat.and_le_left ha
  have e1 : (BitVec.ofInt 64 (a : Int)).toNat = a := by rw [BitVec.ofInt_natCast, BitVec.toNat_ofNat]; exact Nat.mod_eq_of_lt (by omega)
  have e2 : (BitVec.ofInt 64 (b : Int)).toNat = b := by rw [BitVec.ofInt_natCast, BitVec.toNat_ofNat]; exact Nat.mod_eq_of_lt (by omega)
  show IntKind.i64.wrap ((BitVec.ofInt 64 (a : Int) &&& BitVec.ofInt 64 (b : Int)).toNat : Int) = _
  rw [BitVec.toNat_and, e1, e2]
  exact IntWalk.i64_in _ (by omega)
theorem i64_xor_nat (a b : Nat) (ha : a < 4611686018427387904) (hb : b < 4611686018427387904) : bits .xor .i64 (a : Int) (b : Int) = ((a ^^^ b : Nat) : Int) := by
  have hx : a ^^^ b < 4611686018427387904 := Nat.xor_lt_two_pow (n := 62) ha hb
  have e1 : (BitVec.ofInt 64 (a : Int)).toNat = a := by rw [BitVec.ofInt_natCast, BitVec.toNat_ofNat]; exact Nat.mod_eq_of_lt (by omega)
  have e2 : (BitVec.ofInt 64 (b : Int)).toNat = b := by rw [BitVec.ofInt_natCast, BitVec.toNat_ofNat]; exact Nat.mod_eq_of_lt (by omega)
  show IntKind.i64.wrap ((BitVec.ofInt 64 (a : Int) ^^^ BitVec.ofInt 64 (b : Int)).toNat : Int) = _
  rw [BitVec.toNat_xor, e1, e2]
  exact IntWalk.i64_in _ (by omega)
theorem i64_or_one (a : Nat) (ha : a < 4611686018427387904) (h : a % 2 = 0) : bits .or .i64 (a : Int) 1 = ((a + 1 : Nat) : Int) := by
  have hx : a ||| 1 = a + 1 := by have := nat_join 1 a 1 (by simpa using h) (by omega); exact this
  have e1 : (BitVec.ofInt 64 (a : Int)).toNat = a := by rw [BitVec.ofInt_natCast, BitVec.toNat_ofNat]; exact Nat.mod_eq_of_lt (by omega)
  have e2 : (BitVec.ofInt 64 1).toNat = 1 := by decide
  show IntKind.i64.wrap ((BitVec.ofInt 64 (a : Int) ||| BitVec.ofInt 64 1).toNat : Int) = _
  rw [BitVec.toNat_or, e1, e2, hx]
  exact IntWalk.i64_in _ (by omega)
theorem byte_and_one (y : Nat) (hy : y < 256) : bits .and .u8 (y : Int) 1 = ((y % 2 : Nat) : Int) := by
  have := u8_and_nat y 1 hy (by omega)
  rw [show ((1 : Nat) : Int) = 1 from rfl] at this
  rw [this, Nat.and_one_is_mod]
theorem by8_get (s : ByteArray) (i : Nat) (h : i < s.size) : (s[i]).toNat = Bt.by8 s.data.toList i := by
  unfold Bt.by8
  rw [List.getD_eq_getElem?_getD, List.getElem?_eq_getElem (by simpa using h)]; rfl

theorem isOne_any (s : ByteArray) (p : Nat) (w : World) (hs : s.size ≤ 60) (hp : p < 8 * s.size) :
    Calls Try.prog 74 #[.string s, .int .i64 ((p : Int) + 1)] w fun e w' => e = .returned (.bool (decide (Bt.bit1 s.data.toList p = 1))) ∧ w = w' := by
  have ha : bits .and .i64 (p : Int) 7 = ((p % 8 : Nat) : Int) := by
    have := i64_and_nat p 7 (by omega) (by omega)
    rw [nat_mask3] at this; exact this
  have hq : p / 8 < s.size := by omega
  have HX := Lib.hid (by8_get s (p / 8) hq)
  have hxl := Bt.by8_lt s.data.toList (p / 8)
  have hm : p % 8 < 8 := by omega
  have HB : Hid (Bt.bit1 s.data.toList p = Bt.by8 s.data.toList (p / 8) / 2 ^ (p % 8) % 2) := rfl
  generalize Bt.by8 s.data.toList (p / 8) = x at HX HB hxl
  generalize p % 8 = m at ha hm HB
  have hb : bits .and .u8 ((x : Int) / 2 ^ m) 1 = ((Bt.bit1 s.data.toList p : Nat) : Int) := by
    rw [HB.out, ← byte_and_one (x / 2 ^ m) (Nat.lt_of_le_of_lt (Nat.div_le_self _ _) hxl)]
    congr 1
  clear hxl
  have hbb := Bt.bit1_two s.data.toList p
  generalize Bt.bit1 s.data.toList p = b at *
  go_enter Try.func74, Try.ntmps74
  go_wp2_with (rw [HX.out])
  go_ret
  exact ⟨by rcases hbb with rfl | rfl <;> rfl, rfl⟩

theorem placesIn_any (s : ByteArray) (w : World) (hs : s.size ≤ 60) :
    Calls Try.prog 73 #[.string s] w fun e w' => e = .returned (.int .i64 ((8 * s.size : Nat) : Int)) ∧ w = w' := by
  go_enter Try.func73, Try.ntmps73
  go_wp2
  go_ret
  exact ⟨by go_num, rfl⟩

set_option maxHeartbeats 1000000 in
theorem impl_eccOf (s : ByteArray) (w : World) (hs : s.size ≤ maxLen) :
    Calls Try.prog 38 #[.string s] w fun e w' => e = .returned (.int .i64 (Bt.eccAns s)) ∧ w = w' := by
  unfold maxLen at hs
  by_cases h1 : 60 < s.size
  · have : Bt.eccAns s = -1 := by rw [Bt.eccAns, if_pos h1]
    rw [this]
    go_enter Try.func38, Try.ntmps38
    go_wp2
    go_ret
    exact ⟨rfl, rfl⟩
  have HA : Hid (Bt.eccAns s = ((Bt.eccTo s.data.toList (8 * s.size) : Nat) : Int)) := by show _ = _; rw [Bt.eccAns, if_neg h1]; rfl
  go_enter Try.func38, Try.ntmps38
  go_wp2_with (go_at_call 73; refine (placesIn_any _ _ (by omega)).mono ?_; rintro e w' ⟨rfl, rfl⟩)
  go_loop [3, 11] (fun c i => ∃ k : Nat, k ≤ 8 * s.size ∧ i = .int .i64 k ∧ c = .int .i64 (Bt.eccTo s.data.toList k : Nat)) (fun _ i => 8 * s.size - (intOf i).toNat)
  case atStart => exact ⟨0, by omega, rfl, rfl⟩
  case round =>
    obtain ⟨k, hk, rfl, rfl⟩ := hrel
    have hc := Bt.eccTo_lt s.data.toList k (by omega)
    have HS1 := fun h => Lib.hid (Bt.eccTo_one (l := s.data.toList) (p := k) h)
    have HS0 := fun h => Lib.hid (Bt.eccTo_no (l := s.data.toList) (p := k) h)
    by_cases hlt : k < 8 * s.size
    · generalize Bt.eccTo s.data.toList k = c at hc HS1 HS0
      by_cases ho : Bt.bit1 s.data.toList k = 1
      · have HS := HS1 ho
        have HO := Lib.hid (decide_eq_true ho)
        have h1 : bits .or .i64 (((k : Int) + 1) * 2) 1 = ((2 * (k + 1) + 1 : Nat) : Int) := by
          rw [show ((k : Int) + 1) * 2 = ((2 * (k + 1) : Nat) : Int) by omega]
          exact i64_or_one _ (by omega) (by omega)
        have h2 : bits .xor .i64 (c : Int) (2 * ((k : Int) + 1) + 1) = ((c ^^^ (2 * (k + 1) + 1) : Nat) : Int) := by
          exact i64_xor_nat c (2 * (k + 1) + 1) (by omega) (by omega)
        clear HS1 HS0 ho
        go_wp2_with (go_at_call 74; refine (isOne_any s k _ (by omega) hlt).mono ?_; rintro e w' ⟨rfl, rfl⟩; rw [HO.out])
        go_round
        case rel => exact ⟨k + 1, by omega, by go_num, by rw [HS.out]⟩
        case measure => simp [intOf]; omega
      · have HS := HS0 ho
        have HO := Lib.hid (decide_eq_false ho)
        clear HS1 HS0 ho
        go_wp2_with (go_at_call 74; refine (isOne_any s k _ (by omega) hlt).mono ?_; rintro e w' ⟨rfl, rfl⟩; rw [HO.out])
        go_round
        case rel => exact ⟨k + 1, by omega, by go_num, by rw [HS.out]⟩
        case measure => simp [intOf]; omega
    · obtain rfl : k = 8 * s.size := by omega
      clear HS1 HS0
      generalize Bt.eccTo s.data.toList (8 * s.size) = c at hc HA
      go_wp2
      go_ret
      rw [HA.out]
      exact ⟨rfl, rfl⟩

set_option maxHeartbeats 1000000 in
set_option maxRecDepth 100000 in
theorem inverted_any (s : ByteArray) (p : Nat) (w : World) (hs : s.size ≤ 60) (hp : p < 8 * s.size) :
    Calls Try.prog 76 #[.string s, .int .i64 ((p : Int) + 1)] w fun e w' => e = .returned (strV (Bt.flip1 s.data.toList p)) ∧ Below w.heap.size w w' := by
  have ha : bits .and .i64 (p : Int) 7 = ((p % 8 : Nat) : Int) := by
    have := i64_and_nat p 7 (by omega) (by omega)
    rw [nat_mask3] at this; exact this
  obtain ⟨cap, W, hc, hz, hb, hr⟩ := bytes_row s w
  have hl : s.data.toList.length = s.size := rfl
  have hq : p / 8 < s.data.toList.length := by omega
  have c0 := hr.cell hq
  have f0 := hr.free hq
  have HR := Lib.hid hr; have HB := Lib.hid hb
  have hm : p % 8 < 8 := by omega
  have hfl := Bt.flip_lt s.data.toList p
  have HX : Hid (Bt.by8 s.data.toList (p / 8) = (s.data.toList.getD (p / 8) 0).toNat) := rfl
  have hxl := Bt.by8_lt s.data.toList (p / 8)
  have hml : 8 ≤ 8 := Nat.le_refl _
  have hpw := Bt.pow8_lt p
  rw [← HX.out] at c0
  have HF : Hid (Bt.flip1 s.data.toList p = s.data.toList.set (p / 8) (UInt8.ofNat (Bt.by8 s.data.toList (p / 8) ^^^ 2 ^ (p % 8)))) := rfl
  generalize Bt.by8 s.data.toList (p / 8) = x at c0 hfl HX hxl HF
  generalize p % 8 = m at ha hm hfl hpw HF
  have hx : bits .xor .u8 (x : Int) (IntKind.u8.wrap (2 ^ m)) = ((x ^^^ 2 ^ m : Nat) : Int) := by
    rw [← u8_xor_nat x (2 ^ m) hxl hpw, IntKind.wrap_u8']
    congr 1
    have : ((2 : Int) ^ m) = ((2 ^ m : Nat) : Int) := by simp
    rw [this]
    generalize 2 ^ m = z at hpw
    omega
  generalize hy : x ^^^ 2 ^ m = y at hx hfl HF
  clear hy hr hb hpw
  go_enter Try.func76, Try.ntmps76
  go_wp2
  have hwp : IntKind.i64.wrap (p : Int) = p := IntWalk.i64_in _ (by omega)
  have hin : 0 ≤ (p : Int) / 8 ∧ (p : Int) / 8 < (s.size : Int) := by omega
  have hnat : ((p : Int) / 8).toNat = p / 8 := by omega
  go_still_tail 12, (by kernel_rfl)
  change wpList _ _ _ _ _ W.drew
  have hy8 : (UInt8.ofNat y).toNat = y := by rw [UInt8.toNat_ofNat']; omega
  have hrs := HR.out.set hq (UInt8.ofNat y)
  rw [hy8, ← HF.out] at hrs
  have hrd : ByRow (W.setCell ⟨w.heap.size, p / 8, none⟩ (.int .u8 (y : Int))).drew w.heap.size (Bt.flip1 s.data.toList p) := hrs
  have hcv := row_text (n := s.size) (c := cap) hrd (by rw [Bt.flip1_len]; exact hl)
  have hbd : Below w.heap.size w (W.setCell ⟨w.heap.size, p / 8, none⟩ (.int .u8 (y : Int))) := HB.out.setCell (Nat.le_refl w.heap.size) _
  have HBF : Hid (Below w.heap.size w (W.setCell ⟨w.heap.size, p / 8, none⟩ (.int .u8 (y : Int))).drew) := ⟨hbd.os, hbd.tape, hbd.output, hbd.size, hbd.block⟩
  clear hrd hrs hbd
  go_wp2
  go_ret
  exact ⟨rfl, HBF.out⟩

/-- what EccFix answers, as a value -/
def fixV (s : ByteArray) (ecc : Int) : Value := .agg #[strV (Bt.fixText s ecc), .int .i64 (Bt.fixAt s ecc : Nat), .int .i64 (Bt.fixCode s ecc)]
theorem fixV_of {s : ByteArray} {ecc c : Int} {a : Nat} {l : List UInt8} (h : Bt.fixCode s ecc = c ∧ Bt.fixAt s ecc = a ∧ Bt.fixText s ecc = l) : fixV s ecc = .agg #[strV l, .int .i64 (a : Nat), .int .i64 c] := by
  obtain ⟨h1, h2, h3⟩ := h
  rw [fixV, h1, h2, h3]

set_option maxHeartbeats 1000000 in
set_option maxRecDepth 100000 in
theorem impl_eccFix (s : ByteArray) (ecc : Int) (w : World) (hs : s.size ≤ maxLen) (he : -9223372036854775808 ≤ ecc) (he' : ecc ≤ 9223372036854775807) :
    Calls Try.prog 41 #[.string s, .int .i64 ecc] w fun e w' => e = .returned (fixV s ecc) ∧ Below w.heap.size w w' := by
  unfold maxLen at hs
  by_cases h1 : 8000 < s.size
  · rw [fixV_of (Bt.fix_long h1)]
    go_enter Try.func41, Try.ntmps41
    go_wp2
    exact bodyPost_ret (v := .agg #[strV [], .int .i64 (0 : Nat), .int .i64 2]) (by simp [results, Try.results41, go_sem]; rfl) rfl ⟨rfl, (Below.refl _ _).alloc (Nat.le_refl _) _⟩
  by_cases h2 : 60 < s.size
  · rw [fixV_of (Bt.fix_form (by omega) (.inl h2))]
    go_enter Try.func41, Try.ntmps41
    go_wp2
    exact bodyPost_ret (v := .agg #[strV [], .int .i64 (0 : Nat), .int .i64 1]) (by simp [results, Try.results41, go_sem]; rfl) rfl ⟨rfl, (Below.refl _ _).alloc (Nat.le_refl _) _⟩
  by_cases h3 : ecc < 0
  · rw [fixV_of (Bt.fix_form (by omega) (.inr (.inl h3)))]
    go_enter Try.func41, Try.ntmps41
    go_wp2
    exact bodyPost_ret (v := .agg #[strV [], .int .i64 (0 : Nat), .int .i64 1]) (by simp [results, Try.results41, go_sem]; rfl) rfl ⟨rfl, (Below.refl _ _).alloc (Nat.le_refl _) _⟩
  by_cases h4 : 1023 < ecc
  · rw [fixV_of (Bt.fix_form (by omega) (.inr (.inr h4)))]
    go_enter Try.func41, Try.ntmps41
    go_wp2
    exact bodyPost_ret (v := .agg #[strV [], .int .i64 (0 : Nat), .int .i64 1]) (by simp [results, Try.results41, go_sem]; rfl) rfl ⟨rfl, (Below.refl _ _).alloc (Nat.le_refl _) _⟩
  obtain ⟨q, rfl⟩ := Int.eq_ofNat_of_zero_le (by omega : 0 ≤ ecc)
  have hq : q < 1024 := by omega
  have hA : Bt.eccAns s = ((Bt.eccN s.data.toList : Nat) : Int) := by rw [Bt.eccAns, if_neg h2]
  have hnl := Bt.eccN_lt (l := s.data.toList) (show s.size ≤ 60 by omega)
  have hx := i64_xor_nat (Bt.eccN s.data.toList) q (by omega) (by omega)
  have hel : Bt.fixE s (q : Int) < 1024 := Nat.xor_lt_two_pow (n := 10) hnl (by rw [Int.toNat_natCast]; exact hq)
  have HE : Hid (Bt.fixE s (q : Int) = Bt.eccN s.data.toList ^^^ q) := by show _ = _; rw [Bt.fixE, Int.toNat_natCast]
  rw [← HE.out] at hx
  rw [← hA] at hx
  have hse : s.size ≤ 60 := by omega
  have HS := fun h => Lib.hid (fixV_of (Bt.fix_same (s := s) (ecc := (q : Int)) hse (by omega) (by omega) h))
  have HC := fun h h' => Lib.hid (fixV_of (Bt.fix_sum (s := s) (ecc := (q : Int)) hse (by omega) (by omega) h h'))
  have HO := fun h h' => Lib.hid (fixV_of (Bt.fix_one (s := s) (ecc := (q : Int)) hse (by omega) (by omega) h h'))
  generalize Bt.fixE s (q : Int) = d at hx hel HS HC HO
  clear HE hnl hA h3 h4 h2 h1
  generalize fixV s (q : Int) = V at HS HC HO
  have HEC := fun W => Lib.hid (impl_eccOf s W (by unfold maxLen; omega))
  generalize Bt.eccAns s = A at hx HEC
  by_cases h5 : d = 0
  · have H := HS h5
    subst h5
    clear HS HC HO
    go_enter Try.func41, Try.ntmps41
    have k0 := isBlk_new w 58 [.string ⟨#[]⟩, .int .i64 0, .int .i64 0]
    change IsBlk (w.alloc (.cells #[.string ⟨#[]⟩, .int .i64 0, .int .i64 0] 58)) _ _ _ at k0
    have hb0 : Below w.heap.size w (w.alloc (.cells #[.string ⟨#[]⟩, .int .i64 0, .int .i64 0] 58)) := (Below.refl _ _).alloc (Nat.le_refl _) _
    have HK0 := Lib.hid k0; have HB0 := Lib.hid hb0
    clear k0 hb0
    go_wp2_with (go_at_call 38; refine (HEC _).out.mono ?_; rintro e w' ⟨rfl, rfl⟩)
    have hpt := parts_one (w.alloc (.cells #[.string ⟨#[]⟩, .int .i64 0, .int .i64 0] 58)) 9 s
    rw [show (w.alloc (.cells #[.string ⟨#[]⟩, .int .i64 0, .int .i64 0] 58)).heap.size = w.heap.size + 1 by simp] at hpt
    refine (assemble_any [s] (w.heap.size + 1) 0 1 _ hpt (by simp) (by simp) (by rw [flat_one, len_list]; omega)).mono ?_
    rintro e w3 ⟨rfl, hb3⟩
    clear hpt
    have HB3 := Lib.hid (HB0.out.trans (((Below.refl _ _).alloc HB0.out.size _).trans (hb3.mono (by simp; omega))))
    have hk3 := (HK0.out.alloc (.cells #[.string s] 9)).below hb3 (by simp; omega)
    have hc0 : w3.cell? ⟨w.heap.size, 0, none⟩ = some _ := hk3.cell rfl
    have hc1 : w3.cell? ⟨w.heap.size, 1, none⟩ = some _ := hk3.cell rfl
    have hc2 : w3.cell? ⟨w.heap.size, 2, none⟩ = some _ := hk3.cell rfl
    have hf0 : w3.frozen? ⟨w.heap.size, 0, none⟩ = false := hk3.free
    have hf1 : w3.frozen? ⟨w.heap.size, 1, none⟩ = false := hk3.free
    have hf2 : w3.frozen? ⟨w.heap.size, 2, none⟩ = false := hk3.free
    clear hb3 hk3
    go_wp2
    exact bodyPost_ret (v := .agg #[strV s.data.toList, .int .i64 (0 : Nat), .int .i64 0]) (by simp [results, Try.results41, go_sem, hc0, hc1, hc2, flat_one]) rfl ⟨by rw [H.out], ((HB3.out.setCell (Nat.le_refl _) _).setCell (Nat.le_refl _) _).setCell (Nat.le_refl _) _⟩
  have h5i : ((d : Int) == 0) = false := beq_eq_false_iff_ne.2 (by omega)
  by_cases h6 : d % 2 = 0
  · have H := HC h5 (.inl h6)
    clear HS HC HO
    have h1 : bits .and .i64 (d : Int) 1 = 0 := by
      have := i64_and_nat d 1 (by omega) (by omega)
      rw [Nat.and_one_is_mod, h6] at this; exact this
    go_enter Try.func41, Try.ntmps41
    go_wp2_with (go_at_call 38; refine (HEC _).out.mono ?_; rintro e w' ⟨rfl, rfl⟩)
    exact bodyPost_ret (v := .agg #[strV [], .int .i64 (0 : Nat), .int .i64 5]) (by simp [results, Try.results41, go_sem]; rfl) rfl ⟨by rw [H.out], (Below.refl _ _).alloc (Nat.le_refl _) _⟩
  have h1 : bits .and .i64 (d : Int) 1 = 1 := by
    have := i64_and_nat d 1 (by omega) (by omega)
    rw [Nat.and_one_is_mod, show d % 2 = 1 by omega] at this; exact this
  by_cases h7 : d / 2 < 1
  · have H := HC h5 (.inr (.inl h7))
    clear HS HC HO
    have h7i : (d : Int) / 2 < 1 := by omega
    go_enter Try.func41, Try.ntmps41
    go_wp2_with (go_at_call 38; refine (HEC _).out.mono ?_; rintro e w' ⟨rfl, rfl⟩)
    exact bodyPost_ret (v := .agg #[strV [], .int .i64 (0 : Nat), .int .i64 5]) (by simp [results, Try.results41, go_sem]; rfl) rfl ⟨by rw [H.out], (Below.refl _ _).alloc (Nat.le_refl _) _⟩
  have h7i : ¬ (d : Int) / 2 < 1 := by omega
  by_cases h8 : 8 * s.size < d / 2
  · have H := HC h5 (.inr (.inr h8))
    clear HS HC HO
    have h8i : 8 * (s.size : Int) < (d : Int) / 2 := by omega
    go_enter Try.func41, Try.ntmps41
    go_wp2_with (first | (go_at_call 38; refine (HEC _).out.mono ?_; rintro e w' ⟨rfl, rfl⟩) | (go_at_call 73; refine (placesIn_any s _ hse).mono ?_; rintro e w' ⟨rfl, rfl⟩))
    exact bodyPost_ret (v := .agg #[strV [], .int .i64 (0 : Nat), .int .i64 5]) (by simp [results, Try.results41, go_sem]; rfl) rfl ⟨by rw [H.out], (Below.refl _ _).alloc (Nat.le_refl _) _⟩
  have h8i : ¬ 8 * (s.size : Int) < (d : Int) / 2 := by omega
  have H := HO h5 (by omega)
  clear HS HC HO
  obtain ⟨p, hp⟩ : ∃ p, d / 2 = p + 1 := ⟨d / 2 - 1, by omega⟩
  have hpi : (d : Int) / 2 = (p : Int) + 1 := by omega
  have hp8 : p < 8 * s.size := by omega
  rw [hp, Nat.add_sub_cancel] at H
  have k0 := isBlk_new w 58 [.string ⟨#[]⟩, .int .i64 0, .int .i64 0]
  change IsBlk (w.alloc (.cells #[.string ⟨#[]⟩, .int .i64 0, .int .i64 0] 58)) _ _ _ at k0
  have hb0 : Below w.heap.size w (w.alloc (.cells #[.string ⟨#[]⟩, .int .i64 0, .int .i64 0] 58)) := (Below.refl _ _).alloc (Nat.le_refl _) _
  have HK0 := Lib.hid k0; have HB0 := Lib.hid hb0
  clear k0 hb0
  go_enter Try.func41, Try.ntmps41
  go_wp2_with (first | (go_at_call 38; refine (HEC _).out.mono ?_; rintro e w' ⟨rfl, rfl⟩) | (go_at_call 73; refine (placesIn_any s _ hse).mono ?_; rintro e w' ⟨rfl, rfl⟩) | fail)
  refine (inverted_any s p _ hse hp8).mono ?_
  rintro e w3 ⟨rfl, hb3⟩
  have HB3 := Lib.hid (HB0.out.trans (hb3.mono HB0.out.size))
  have hk3 := HK0.out.below hb3 (by simp)
  have hc0 : w3.cell? ⟨w.heap.size, 0, none⟩ = some _ := hk3.cell rfl
  have hc1 : w3.cell? ⟨w.heap.size, 1, none⟩ = some _ := hk3.cell rfl
  have hc2 : w3.cell? ⟨w.heap.size, 2, none⟩ = some _ := hk3.cell rfl
  have hf0 : w3.frozen? ⟨w.heap.size, 0, none⟩ = false := hk3.free
  have hf1 : w3.frozen? ⟨w.heap.size, 1, none⟩ = false := hk3.free
  have hf2 : w3.frozen? ⟨w.heap.size, 2, none⟩ = false := hk3.free
  clear hb3 hk3
  go_wp2
  exact bodyPost_ret (v := .agg #[strV (Bt.flip1 s.data.toList p), .int .i64 ((p + 1 : Nat) : Int), .int .i64 0]) (by simp [results, Try.results41, go_sem, hc0, hc1, hc2]) rfl ⟨by rw [H.out], ((HB3.out.setCell (Nat.le_refl _) _).setCell (Nat.le_refl _) _).setCell (Nat.le_refl _) _⟩
end Go.Proofs.Ytgkkkldajangeaa
