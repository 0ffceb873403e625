/-
  Plain mathematics of chapter 11 (error correction): the code of a string, and what one inverted bit does to it. No condition.
-/
import Derived.WalkKit
import Derived.Laws.BitsAllLaws
namespace Go.Proofs.Ytgkkkldajangeaa.Bt

/-- byte i of a string as a number -/
def by8 (l : List UInt8) (i : Nat) : Nat := (l.getD i 0).toNat
theorem by8_lt (l : List UInt8) (i : Nat) : by8 l i < 256 := (l.getD i 0).toNat_lt
/-- the bit at place p + 1 -/
def bit1 (l : List UInt8) (p : Nat) : Nat := by8 l (p / 8) / 2 ^ (p % 8) % 2
theorem bit1_two (l : List UInt8) (p : Nat) : bit1 l p = 0 ∨ bit1 l p = 1 := by unfold bit1; omega
/-- the code of the first so many bits -/
def eccTo (l : List UInt8) : Nat → Nat
  | 0 => 0
  | p + 1 => if bit1 l p = 1 then eccTo l p ^^^ (2 * (p + 1) + 1) else eccTo l p
theorem eccTo_lt (l : List UInt8) : ∀ p, p ≤ 480 → eccTo l p < 1024
  | 0, _ => by rw [eccTo]; omega
  | p + 1, h => by
    have h1 := eccTo_lt l p (by omega)
    unfold eccTo
    split
    · exact Nat.xor_lt_two_pow (n := 10) h1 (by omega)
    · exact h1
theorem eccTo_one {l : List UInt8} {p : Nat} (h : bit1 l p = 1) : eccTo l (p + 1) = eccTo l p ^^^ (2 * (p + 1) + 1) := by rw [eccTo, if_pos h]
theorem eccTo_no {l : List UInt8} {p : Nat} (h : ¬ bit1 l p = 1) : eccTo l (p + 1) = eccTo l p := by rw [eccTo, if_neg h]
theorem xor_half (c q : Nat) : (c ^^^ (2 * q + 1)) / 2 = c / 2 ^^^ q := by
  rw [Nat.xor_div_two]; congr 1; omega
theorem xor_low (c q : Nat) : (c ^^^ (2 * q + 1)) % 2 = 1 - c % 2 := by
  have h := Nat.xor_mod_two_pow (a := c) (b := 2 * q + 1) (n := 1)
  rw [Nat.pow_one] at h
  rw [h, show (2 * q + 1) % 2 = 1 by omega]
  have : c % 2 = 0 ∨ c % 2 = 1 := by omega
  rcases this with e | e <;> rw [e] <;> rfl

/-- what EccOf answers -/
def eccN (l : List UInt8) : Nat := eccTo l (8 * l.length)
def eccAns (s : ByteArray) : Int := if 60 < s.size then -1 else (eccN s.data.toList : Nat)
theorem eccN_lt {l : List UInt8} (h : l.length ≤ 60) : eccN l < 1024 := eccTo_lt l _ (by omega)

/-- a string with one bit inverted -/
def flip1 (l : List UInt8) (p : Nat) : List UInt8 := l.set (p / 8) (UInt8.ofNat (by8 l (p / 8) ^^^ 2 ^ (p % 8)))
theorem flip1_len (l : List UInt8) (p : Nat) : (flip1 l p).length = l.length := by simp [flip1]
theorem pow8_lt (p : Nat) : 2 ^ (p % 8) < 256 := by
  have : p % 8 < 8 := Nat.mod_lt _ (by omega)
  calc 2 ^ (p % 8) < 2 ^ 8 := Nat.pow_lt_pow_right (by omega) this
    _ = 256 := rfl
theorem flip_lt (l : List UInt8) (p : Nat) : by8 l (p / 8) ^^^ 2 ^ (p % 8) < 256 := Nat.xor_lt_two_pow (n := 8) (by8_lt l _) (pow8_lt p)
theorem by8_flip {l : List UInt8} {p : Nat} (h : p < 8 * l.length) (i : Nat) : by8 (flip1 l p) i = if i = p / 8 then by8 l (p / 8) ^^^ 2 ^ (p % 8) else by8 l i := by
  unfold by8 flip1
  by_cases e : i = p / 8
  · subst e
    rw [if_pos rfl, List.getD_eq_getElem?_getD, List.getElem?_set_self (by omega)]
    simp only [Option.getD_some, UInt8.toNat_ofNat']
    have := flip_lt l p
    unfold by8 at *
    omega
  · rw [if_neg e, List.getD_eq_getElem?_getD, List.getElem?_set_ne (fun h => e h.symm), ← List.getD_eq_getElem?_getD]
theorem bit_testBit (x k : Nat) : x / 2 ^ k % 2 = if x.testBit k then 1 else 0 := by
  rw [Nat.testBit_eq_decide_div_mod_eq]
  have : x / 2 ^ k % 2 = 0 ∨ x / 2 ^ k % 2 = 1 := by omega
  rcases this with e | e <;> simp [e]
theorem bit1_flip {l : List UInt8} {p : Nat} (h : p < 8 * l.length) (q : Nat) : bit1 (flip1 l p) q = if q = p then 1 - bit1 l p else bit1 l q := by
  unfold bit1
  rw [by8_flip h]
  by_cases e : q / 8 = p / 8
  · rw [if_pos e, e, bit_testBit, bit_testBit, bit_testBit, Nat.testBit_xor, Nat.testBit_two_pow]
    by_cases e2 : q = p
    · subst e2
      cases hb : (by8 l (q / 8)).testBit (q % 8) <;> simp
    · have e3 : ¬ p % 8 = q % 8 := by omega
      simp [e2, e3]
  · rw [if_neg e, if_neg (fun h => e (by rw [h]))]
theorem eccTo_flip {l : List UInt8} {p : Nat} (h : p < 8 * l.length) : ∀ n, eccTo (flip1 l p) n = if p < n then eccTo l n ^^^ (2 * (p + 1) + 1) else eccTo l n
  | 0 => by simp [eccTo]
  | n + 1 => by
    have ih := eccTo_flip h n
    have hb := bit1_flip h n
    by_cases e : n = p
    · subst e
      rw [if_neg (by omega)] at ih
      rw [if_pos rfl] at hb
      rw [if_pos (by omega)]
      rcases bit1_two l n with e1 | e1
      · rw [eccTo_one (by rw [hb, e1]), eccTo_no (by omega), ih]
      · rw [eccTo_no (by rw [hb, e1]; decide), eccTo_one e1, ih, Nat.xor_assoc, Nat.xor_self, Nat.xor_zero]
    · rw [if_neg e] at hb
      by_cases hp : p < n
      · rw [if_pos hp] at ih
        rw [if_pos (by omega)]
        by_cases e1 : bit1 l n = 1
        · rw [eccTo_one (by rw [hb]; exact e1), eccTo_one e1, ih, Nat.xor_assoc, Nat.xor_assoc, Nat.xor_comm (2 * (p + 1) + 1)]
        · rw [eccTo_no (by rw [hb]; exact e1), eccTo_no e1, ih]
      · rw [if_neg hp] at ih
        rw [if_neg (by omega)]
        by_cases e1 : bit1 l n = 1
        · rw [eccTo_one (by rw [hb]; exact e1), eccTo_one e1, ih]
        · rw [eccTo_no (by rw [hb]; exact e1), eccTo_no e1, ih]
theorem eccN_flip {l : List UInt8} {p : Nat} (h : p < 8 * l.length) : eccN (flip1 l p) = eccN l ^^^ (2 * (p + 1) + 1) := by
  unfold eccN; rw [flip1_len, eccTo_flip h, if_pos h]
theorem flip_flip {l : List UInt8} {p : Nat} (h : p < 8 * l.length) : flip1 (flip1 l p) p = l := by
  have hf := by8_flip h (p / 8)
  rw [if_pos rfl] at hf
  have : flip1 (flip1 l p) p = (flip1 l p).set (p / 8) (UInt8.ofNat (by8 (flip1 l p) (p / 8) ^^^ 2 ^ (p % 8))) := rfl
  rw [this, hf, Nat.xor_assoc, Nat.xor_self, Nat.xor_zero]
  unfold flip1 by8
  rw [List.set_set]
  have hl : p / 8 < l.length := by omega
  simp [List.getD_eq_getElem?_getD, List.getElem?_eq_getElem hl]

/-- what EccFix answers: the text, the place, the code -/
def fixE (s : ByteArray) (ecc : Int) : Nat := eccN s.data.toList ^^^ ecc.toNat
def fixCode (s : ByteArray) (ecc : Int) : Int :=
  if 8000 < s.size then 2 else if 60 < s.size ∨ ecc < 0 ∨ 1023 < ecc then 1 else
  if fixE s ecc = 0 then 0 else if fixE s ecc % 2 = 0 ∨ fixE s ecc / 2 < 1 ∨ 8 * s.size < fixE s ecc / 2 then 5 else 0
def fixAt (s : ByteArray) (ecc : Int) : Nat := if fixCode s ecc = 0 then fixE s ecc / 2 else 0
def fixText (s : ByteArray) (ecc : Int) : List UInt8 :=
  if fixCode s ecc = 0 then if fixE s ecc = 0 then s.data.toList else flip1 s.data.toList (fixE s ecc / 2 - 1) else []
theorem fix_long {s : ByteArray} {ecc : Int} (h : 8000 < s.size) : fixCode s ecc = 2 ∧ fixAt s ecc = 0 ∧ fixText s ecc = [] := by
  have : fixCode s ecc = 2 := by rw [fixCode, if_pos h]
  exact ⟨this, by rw [fixAt, this]; rfl, by rw [fixText, this]; rfl⟩
theorem fix_form {s : ByteArray} {ecc : Int} (h0 : s.size ≤ 8000) (h : 60 < s.size ∨ ecc < 0 ∨ 1023 < ecc) : fixCode s ecc = 1 ∧ fixAt s ecc = 0 ∧ fixText s ecc = [] := by
  have : fixCode s ecc = 1 := by rw [fixCode, if_neg (by omega), if_pos h]
  exact ⟨this, by rw [fixAt, this]; rfl, by rw [fixText, this]; rfl⟩
theorem fix_same {s : ByteArray} {ecc : Int} (h0 : s.size ≤ 60) (h1 : 0 ≤ ecc) (h2 : ecc ≤ 1023) (h : fixE s ecc = 0) : fixCode s ecc = 0 ∧ fixAt s ecc = 0 ∧ fixText s ecc = s.data.toList := by
  have : fixCode s ecc = 0 := by rw [fixCode, if_neg (by omega), if_neg (by omega), if_pos h]
  exact ⟨this, by rw [fixAt, this, h]; rfl, by rw [fixText, this, if_pos rfl, if_pos h]⟩
theorem fix_sum {s : ByteArray} {ecc : Int} (h0 : s.size ≤ 60) (h1 : 0 ≤ ecc) (h2 : ecc ≤ 1023) (h : ¬ fixE s ecc = 0) (h' : fixE s ecc % 2 = 0 ∨ fixE s ecc / 2 < 1 ∨ 8 * s.size < fixE s ecc / 2) : fixCode s ecc = 5 ∧ fixAt s ecc = 0 ∧ fixText s ecc = [] := by
  have : fixCode s ecc = 5 := by rw [fixCode, if_neg (by omega), if_neg (by omega), if_neg h, if_pos h']
  exact ⟨this, by rw [fixAt, this]; rfl, by rw [fixText, this]; rfl⟩
theorem fix_one {s : ByteArray} {ecc : Int} (h0 : s.size ≤ 60) (h1 : 0 ≤ ecc) (h2 : ecc ≤ 1023) (h : ¬ fixE s ecc = 0) (h' : ¬ (fixE s ecc % 2 = 0 ∨ fixE s ecc / 2 < 1 ∨ 8 * s.size < fixE s ecc / 2)) : fixCode s ecc = 0 ∧ fixAt s ecc = fixE s ecc / 2 ∧ fixText s ecc = flip1 s.data.toList (fixE s ecc / 2 - 1) := by
  have : fixCode s ecc = 0 := by rw [fixCode, if_neg (by omega), if_neg (by omega), if_neg h, if_neg h']
  exact ⟨this, by rw [fixAt, this, if_pos rfl], by rw [fixText, this, if_pos rfl, if_neg h]⟩

/-! what the promise says -/
theorem xor_cancel (a b : Nat) : (a ^^^ b) ^^^ a = b := by rw [Nat.xor_comm a b, Nat.xor_assoc, Nat.xor_self, Nat.xor_zero]
theorem told_same {s : ByteArray} (h0 : s.size ≤ 60) : fixCode s (eccN s.data.toList : Nat) = 0 ∧ fixAt s (eccN s.data.toList : Nat) = 0 ∧ fixText s (eccN s.data.toList : Nat) = s.data.toList := by
  have hl : s.data.toList.length = s.size := rfl
  have hlt := eccN_lt (l := s.data.toList) (by omega)
  exact fix_same h0 (by omega) (by omega) (by rw [fixE, Int.toNat_natCast, Nat.xor_self])
theorem told_one {s o : ByteArray} {p : Nat} (h0 : s.size ≤ 60) (hp : p < 8 * s.size) (ho : o.data.toList = flip1 s.data.toList p) :
    fixCode o (eccN s.data.toList : Nat) = 0 ∧ fixAt o (eccN s.data.toList : Nat) = p + 1 ∧ fixText o (eccN s.data.toList : Nat) = s.data.toList := by
  have hl : s.data.toList.length = s.size := rfl
  have hol : o.size = s.size := by have := flip1_len s.data.toList p; rw [← ho] at this; exact this
  have hlt := eccN_lt (l := s.data.toList) (by omega)
  have hE : fixE o (eccN s.data.toList : Nat) = 2 * (p + 1) + 1 := by
    rw [fixE, Int.toNat_natCast, ho, eccN_flip (by omega), xor_cancel]
  obtain ⟨h1, h2, h3⟩ := fix_one (s := o) (ecc := (eccN s.data.toList : Nat)) (by omega) (by omega) (by omega) (by rw [hE]; omega) (by rw [hE, hol]; omega)
  refine ⟨h1, ?_, ?_⟩
  · rw [h2, hE]; omega
  · rw [h3, hE, ho, show (2 * (p + 1) + 1) / 2 - 1 = p by omega]
    exact flip_flip (by omega)
theorem told_two {s o : ByteArray} {p q : Nat} (h0 : s.size ≤ 60) (hp : p < 8 * s.size) (hq : q < 8 * s.size) (hne : p ≠ q) (ho : o.data.toList = flip1 (flip1 s.data.toList p) q) : fixCode o (eccN s.data.toList : Nat) = 5 := by
  have hl : s.data.toList.length = s.size := rfl
  have hol : o.size = s.size := by have := flip1_len (flip1 s.data.toList p) q; rw [← ho, flip1_len] at this; exact this
  have hlt := eccN_lt (l := s.data.toList) (by omega)
  have hE : fixE o (eccN s.data.toList : Nat) = (2 * (p + 1) + 1) ^^^ (2 * (q + 1) + 1) := by
    rw [fixE, Int.toNat_natCast, ho, eccN_flip (by rw [flip1_len]; omega), eccN_flip (by omega), Nat.xor_assoc (eccN s.data.toList), xor_cancel]
  have h2 : fixE o (eccN s.data.toList : Nat) % 2 = 0 := by
    rw [hE, xor_low]; omega
  have hn : ¬ fixE o (eccN s.data.toList : Nat) = 0 := by
    rw [hE]; intro h
    have := congrArg (· ^^^ (2 * (q + 1) + 1)) h
    simp only [Nat.xor_assoc, Nat.xor_self, Nat.xor_zero, Nat.zero_xor] at this
    omega
  exact (fix_sum (s := o) (by omega) (by omega) (by omega) hn (.inl h2)).1
end Go.Proofs.Ytgkkkldajangeaa.Bt
