/-
  The contracts of the program's and the model's NameRight: each returns whether the string is a name ('Bt.nm'). No condition but that the string is no longer than any string may be.
-/
import Derived.Test.YtdhciemedplolaaChecked
import Derived.Test.YtdhciemedplolaaBtPure
import Derived.WalkKit
import Derived.Lib.Hide
namespace Go.Proofs.Ytdhciemedplolaa
open Go.RowKit

theorem isLetter_any (c : UInt8) (w : World) :
    Calls Try.prog 28 #[.int .u8 c.toNat] w fun e w' => e = .returned (.bool (Bt.letter c)) ∧ w = w' := by
  have hb : c.toNat < 256 := c.toNat_lt
  by_cases h1 : 97 ≤ c.toNat
  · by_cases h2 : c.toNat ≤ 122
    · have e : Bt.letter c = true := by simp [Bt.letter, h1, h2]
      rw [e]
      clear e
      go_enter Try.func28, Try.ntmps28
      go_wp2
      go_ret
      exact ⟨by simp; omega, rfl⟩
    · have e : Bt.letter c = false := by simp [Bt.letter]; omega
      rw [e]
      clear e
      go_enter Try.func28, Try.ntmps28
      go_wp2
      go_ret
      exact ⟨by simp; omega, rfl⟩
  · have e : Bt.letter c = false := by simp [Bt.letter]; omega
    rw [e]
    clear e
    go_enter Try.func28, Try.ntmps28
    go_wp2
    go_ret
    exact ⟨by simp, rfl⟩

theorem isDigit_any (c : UInt8) (w : World) :
    Calls Try.prog 29 #[.int .u8 c.toNat] w fun e w' => e = .returned (.bool (Bt.digit c)) ∧ w = w' := by
  have hb : c.toNat < 256 := c.toNat_lt
  by_cases h1 : 48 ≤ c.toNat
  · by_cases h2 : c.toNat ≤ 57
    · have e : Bt.digit c = true := by simp [Bt.digit, h1, h2]
      rw [e]
      clear e
      go_enter Try.func29, Try.ntmps29
      go_wp2
      go_ret
      exact ⟨by simp; omega, rfl⟩
    · have e : Bt.digit c = false := by simp [Bt.digit]; omega
      rw [e]
      clear e
      go_enter Try.func29, Try.ntmps29
      go_wp2
      go_ret
      exact ⟨by simp; omega, rfl⟩
  · have e : Bt.digit c = false := by simp [Bt.digit]; omega
    rw [e]
    clear e
    go_enter Try.func29, Try.ntmps29
    go_wp2
    go_ret
    exact ⟨by simp, rfl⟩

/-- what the round of the loops needs: a byte in a string as the walk reads it -/
theorem byte_lt (c : UInt8) : c.toNat < 256 := c.toNat_lt

theorem big_dec {n : Nat} (m : Int) (h : m < n) : decide ((n : Int) ≤ m) = false := by simp; omega

theorem okAt_letter {i : Nat} {c : UInt8} (h : Bt.letter c = true) : Bt.okAt i c = true := by simp [Bt.okAt, h]
theorem okAt_no {i : Nat} {c : UInt8} (h : Bt.letter c = false) (h0 : Bt.digit c = false) (h1 : ¬ c.toNat = 95) : Bt.okAt i c = false := by simp [Bt.okAt, h, h0, h1]
theorem okAt_first {c : UInt8} (h : Bt.letter c = false) : Bt.okAt 0 c = false := by simp [Bt.okAt, h]
theorem okAt_digit {i : Nat} {c : UInt8} (hi : i ≠ 0) (h : Bt.digit c = true) : Bt.okAt i c = true := by simp [Bt.okAt, h, hi]
theorem okAt_line {i : Nat} {c : UInt8} (hi : i ≠ 0) (h : c.toNat = 95) : Bt.okAt i c = true := by simp [Bt.okAt, h, hi]

set_option maxHeartbeats 1000000 in
theorem spec_nameRight_any (s : ByteArray) (w : World) (hs : s.size ≤ maxLen) :
    Calls Try.prog 15 #[.string s] w fun e w' => e = .returned (.bool (Bt.nm s)) ∧ w = w' := by
  unfold maxLen at hs
  by_cases h1 : s.size < 1
  · rw [Bt.nm_short h1]
    go_enter Try.func15, Try.ntmps15
    go_wp2
    go_ret
    exact ⟨rfl, rfl⟩
  by_cases h2 : 20 < s.size
  · rw [Bt.nm_long h2]
    go_enter Try.func15, Try.ntmps15
    go_wp2
    go_ret
    exact ⟨rfl, rfl⟩
  go_enter Try.func15, Try.ntmps15
  go_wp2
  go_loop [3] (fun i => ∃ k : Nat, k ≤ s.size ∧ i = .int .i64 k ∧ Bt.okTo s k) (fun i => s.size - (intOf i).toNat)
  case atStart => exact ⟨0, Nat.zero_le _, rfl, Bt.okTo_zero s⟩
  case round =>
    obtain ⟨k, hk, rfl, hok⟩ := hrel
    have Hok := Lib.hid hok; clear hok
    by_cases hlt : k < s.size
    · have hb := byte_lt s[k]
      cases hL : Bt.letter s[k]
      · have hl : s[k].toNat < 97 ∨ 122 < s[k].toNat := by
          have : ¬ (97 ≤ s[k].toNat ∧ s[k].toNat ≤ 122) := by simpa [Bt.letter] using hL
          omega
        by_cases h0 : k = 0
        · subst h0
          have HN := Lib.hid (Bt.nm_bad hlt (okAt_first hL)); clear hL
          rcases hl with hl | hl
          · go_wp2
            go_ret
            exact ⟨by rw [HN.out]; rfl, rfl⟩
          · have hx := big_dec (n := s[0].toNat) 122 (by omega)
            go_wp2
            go_ret
            exact ⟨by rw [HN.out]; rfl, rfl⟩
        · have hk0 : ((k : Int) == 0) = false := by simpa using h0
          cases hD : Bt.digit s[k]
          · have hd : s[k].toNat < 48 ∨ 57 < s[k].toNat := by
              have : ¬ (48 ≤ s[k].toNat ∧ s[k].toNat ≤ 57) := by simpa [Bt.digit] using hD
              omega
            by_cases h95 : s[k].toNat = 95
            · have HK := Lib.hid (Bt.okTo_succ Hok.out hlt (okAt_line h0 h95))
              have h9 : ((s[k].toNat : Int) != 95) = false := by simp [h95]
              have h95a : 95 ≤ s[k].toNat := by omega
              have h95b : s[k].toNat ≤ 95 := by omega
              clear hL hD h0 h95
              rcases hl with hl | hl
              · rcases hd with hd | hd
                · omega
                · have hy := big_dec (n := s[k].toNat) 57 (by omega)
                  go_wp2
                  go_round
                  case rel => exact ⟨k + 1, by omega, by go_num, HK.out⟩
                  case measure => simp [intOf]; omega
              · omega
            · have HN := Lib.hid (Bt.nm_bad hlt (okAt_no hL hD h95))
              have h9 : ((s[k].toNat : Int) != 95) = true := by simp; omega
              clear hL hD h0 h95
              rcases hl with hl | hl
              · rcases hd with hd | hd
                · go_wp2
                  go_ret
                  exact ⟨by rw [HN.out]; rfl, rfl⟩
                · have hy := big_dec (n := s[k].toNat) 57 (by omega)
                  go_wp2
                  go_ret
                  exact ⟨by rw [HN.out]; rfl, rfl⟩
              · have hx := big_dec (n := s[k].toNat) 122 (by omega)
                have hy := big_dec (n := s[k].toNat) 57 (by omega)
                clear hd
                go_wp2
                go_ret
                exact ⟨by rw [HN.out]; rfl, rfl⟩
          · have hd : 48 ≤ s[k].toNat ∧ s[k].toNat ≤ 57 := by simpa [Bt.digit] using hD
            obtain ⟨hd1, hd2⟩ := hd
            have HK := Lib.hid (Bt.okTo_succ Hok.out hlt (okAt_digit h0 hD))
            clear hL hD h0
            rcases hl with hl | hl
            · go_wp2
              go_round
              case rel => exact ⟨k + 1, by omega, by go_num, HK.out⟩
              case measure => simp [intOf]; omega
            · omega
      · have hl : 97 ≤ s[k].toNat ∧ s[k].toNat ≤ 122 := by simpa [Bt.letter] using hL
        obtain ⟨hl1, hl2⟩ := hl
        have HK := Lib.hid (Bt.okTo_succ Hok.out hlt (okAt_letter hL)); clear hL
        go_wp2
        go_round
        case rel => exact ⟨k + 1, by omega, by go_num, HK.out⟩
        case measure => simp [intOf]; omega
    · obtain rfl : k = s.size := by omega
      have HN := Lib.hid (Bt.nm_good (by omega) (by omega) Hok.out)
      go_wp2
      go_ret
      exact ⟨by rw [HN.out]; rfl, rfl⟩

set_option maxHeartbeats 1000000 in
theorem impl_nameRight_any (s : ByteArray) (w : World) (hs : s.size ≤ maxLen) :
    Calls Try.prog 16 #[.string s] w fun e w' => e = .returned (.bool (Bt.nm s)) ∧ w = w' := by
  unfold maxLen at hs
  by_cases h1 : s.size < 1
  · rw [Bt.nm_short h1]
    go_enter Try.func16, Try.ntmps16
    go_wp2
    go_ret
    exact ⟨rfl, rfl⟩
  by_cases h2 : 20 < s.size
  · rw [Bt.nm_long h2]
    go_enter Try.func16, Try.ntmps16
    go_wp2
    go_ret
    exact ⟨rfl, rfl⟩
  have h0 : 0 < s.size := by omega
  cases hL : Bt.letter s[0]
  · have HL := Lib.hid hL
    have HN := Lib.hid (Bt.nm_bad h0 (okAt_first hL))
    clear hL
    go_enter Try.func16, Try.ntmps16
    go_wp2_with (go_at_call 28; refine (isLetter_any _ _).mono ?_; rintro e w' ⟨rfl, rfl⟩; rw [HL.out])
    go_ret
    exact ⟨by rw [HN.out]; rfl, rfl⟩
  have HL := Lib.hid hL
  have HO := Lib.hid (Bt.okTo_succ (Bt.okTo_zero s) h0 (okAt_letter hL))
  clear hL
  go_enter Try.func16, Try.ntmps16
  go_wp2_with (go_at_call 28; refine (isLetter_any _ _).mono ?_; rintro e w' ⟨rfl, rfl⟩; rw [HL.out])
  go_loop [3] (fun i => ∃ k : Nat, 1 ≤ k ∧ k ≤ s.size ∧ i = .int .i64 k ∧ Bt.okTo s k) (fun i => s.size - (intOf i).toNat)
  case atStart => exact ⟨1, Nat.le_refl _, by omega, rfl, HO.out⟩
  case round =>
    obtain ⟨k, hk1, hk, rfl, hok⟩ := hrel
    have Hok := Lib.hid hok; clear hok
    have hk0 : k ≠ 0 := by omega
    by_cases hlt : k < s.size
    · have hb := byte_lt s[k]
      cases hL : Bt.letter s[k]
      · cases hD : Bt.digit s[k]
        · by_cases h95 : s[k].toNat = 95
          · have HK := Lib.hid (Bt.okTo_succ Hok.out hlt (okAt_line hk0 h95))
            have h9 : ((s[k].toNat : Int) != 95) = false := by simp [h95]
            have HL := Lib.hid hL
            have HD := Lib.hid hD
            clear hL hD h95
            go_wp2_with (first | (go_at_call 28; refine (isLetter_any _ _).mono ?_; rintro e w' ⟨rfl, rfl⟩; rw [HL.out]) | (go_at_call 29; refine (isDigit_any _ _).mono ?_; rintro e w' ⟨rfl, rfl⟩; rw [HD.out]))
            go_round
            case rel => exact ⟨k + 1, by omega, by omega, by go_num, HK.out⟩
            case measure => simp [intOf]; omega
          · have HN := Lib.hid (Bt.nm_bad hlt (okAt_no hL hD h95))
            have h9 : ((s[k].toNat : Int) != 95) = true := by simp; omega
            have HL := Lib.hid hL
            have HD := Lib.hid hD
            clear hL hD h95
            go_wp2_with (first | (go_at_call 28; refine (isLetter_any _ _).mono ?_; rintro e w' ⟨rfl, rfl⟩; rw [HL.out]) | (go_at_call 29; refine (isDigit_any _ _).mono ?_; rintro e w' ⟨rfl, rfl⟩; rw [HD.out]))
            go_ret
            exact ⟨by rw [HN.out]; rfl, rfl⟩
        · have HK := Lib.hid (Bt.okTo_succ Hok.out hlt (okAt_digit hk0 hD))
          have HL := Lib.hid hL
          have HD := Lib.hid hD
          clear hL hD
          go_wp2_with (first | (go_at_call 28; refine (isLetter_any _ _).mono ?_; rintro e w' ⟨rfl, rfl⟩; rw [HL.out]) | (go_at_call 29; refine (isDigit_any _ _).mono ?_; rintro e w' ⟨rfl, rfl⟩; rw [HD.out]))
          go_round
          case rel => exact ⟨k + 1, by omega, by omega, by go_num, HK.out⟩
          case measure => simp [intOf]; omega
      · have HK := Lib.hid (Bt.okTo_succ Hok.out hlt (okAt_letter hL))
        have HL := Lib.hid hL
        clear hL
        go_wp2_with (go_at_call 28; refine (isLetter_any _ _).mono ?_; rintro e w' ⟨rfl, rfl⟩; rw [HL.out])
        go_round
        case rel => exact ⟨k + 1, by omega, by omega, by go_num, HK.out⟩
        case measure => simp [intOf]; omega
    · obtain rfl : k = s.size := by omega
      have HN := Lib.hid (Bt.nm_good (by omega) (by omega) Hok.out)
      go_wp2
      go_ret
      exact ⟨by rw [HN.out]; rfl, rfl⟩

end Go.Proofs.Ytdhciemedplolaa
