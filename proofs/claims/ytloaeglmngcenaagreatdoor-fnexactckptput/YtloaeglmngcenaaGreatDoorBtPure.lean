/-
  Plain mathematics of chapter 2 (bytes): what names, numbers, checksums and seals are, as functions on lists of bytes. No condition.
-/
import Derived.WalkKit
namespace Go.Proofs.YtloaeglmngcenaaGreatDoor.Bt

def letter (c : UInt8) : Bool := decide (97 ≤ c.toNat ∧ c.toNat ≤ 122)
def digit (c : UInt8) : Bool := decide (48 ≤ c.toNat ∧ c.toNat ≤ 57)
def okAt (i : Nat) (c : UInt8) : Bool := letter c || (decide (i ≠ 0) && (digit c || decide (c.toNat = 95)))
/-- the bytes of a string from place k on are right for a name -/
def okFrom (s : ByteArray) (k : Nat) : Prop := ∀ i (h : i < s.size), k ≤ i → okAt i s[i] = true
def okTo (s : ByteArray) (k : Nat) : Prop := ∀ i (h : i < s.size), i < k → okAt i s[i] = true
open Classical in
noncomputable def nm (s : ByteArray) : Bool := decide (1 ≤ s.size ∧ s.size ≤ 20 ∧ okTo s s.size)

theorem nm_short {s : ByteArray} (h : s.size < 1) : nm s = false := by simp [nm]; omega
theorem nm_long {s : ByteArray} (h : 20 < s.size) : nm s = false := by simp [nm]; omega
theorem nm_bad {s : ByteArray} {i : Nat} (h : i < s.size) (hb : okAt i s[i] = false) : nm s = false := by
  simp only [nm, decide_eq_false_iff_not]
  rintro ⟨-, -, ho⟩
  have := ho i h h
  rw [hb] at this; cases this
theorem nm_good {s : ByteArray} (h1 : 1 ≤ s.size) (h2 : s.size ≤ 20) (ho : okTo s s.size) : nm s = true := by
  simp only [nm, decide_eq_true_eq]; exact ⟨h1, h2, ho⟩
theorem okTo_zero (s : ByteArray) : okTo s 0 := fun _ _ h => absurd h (Nat.not_lt_zero _)
theorem okTo_succ {s : ByteArray} {k : Nat} (h : okTo s k) (hk : k < s.size) (hc : okAt k s[k] = true) : okTo s (k + 1) := by
  intro i hi hik
  by_cases e : i = k
  · subst e; exact hc
  · exact h i hi (by omega)

/-! checksums: a register of 32 bits as a natural number -/
def crcBit (r : Nat) : Nat := if r % 2 = 1 then (r / 2) ^^^ 3988292384 else r / 2
def crcBits : Nat → Nat → Nat
  | 0, r => r
  | k + 1, r => crcBits k (crcBit r)
def crcByte (r : Nat) (c : UInt8) : Nat := crcBits 8 (r ^^^ c.toNat)
def crcRun (r : Nat) (l : List UInt8) : Nat := l.foldl crcByte r
def crcMore (crc : Nat) (l : List UInt8) : Nat := crcRun (crc ^^^ 4294967295) l ^^^ 4294967295

theorem crcBits_succ (k r : Nat) : crcBits (k + 1) r = crcBit (crcBits k r) := by
  induction k generalizing r with
  | zero => rfl
  | succ k ih => rw [crcBits, ih]; rfl
theorem crcBit_lt {r : Nat} (h : r < 4294967296) : crcBit r < 4294967296 := by
  unfold crcBit
  split
  · exact Nat.xor_lt_two_pow (n := 32) (by omega) (by omega)
  · omega
theorem crcBits_lt {k r : Nat} (h : r < 4294967296) : crcBits k r < 4294967296 := by
  induction k generalizing r with
  | zero => exact h
  | succ k ih => exact ih (crcBit_lt h)
theorem crcByte_lt {r : Nat} {c : UInt8} (h : r < 4294967296) : crcByte r c < 4294967296 :=
  crcBits_lt (Nat.xor_lt_two_pow (n := 32) h (by have := c.toNat_lt; omega))
theorem crcRun_lt {l : List UInt8} {r : Nat} (h : r < 4294967296) : crcRun r l < 4294967296 := by
  induction l generalizing r with
  | nil => exact h
  | cons c l ih => exact ih (crcByte_lt h)
theorem crcMore_lt {c : Nat} {l : List UInt8} (h : c < 4294967296) : crcMore c l < 4294967296 :=
  Nat.xor_lt_two_pow (n := 32) (crcRun_lt (Nat.xor_lt_two_pow (n := 32) h (by omega))) (by omega)
theorem take_snoc (s : ByteArray) (k : Nat) (h : k < s.size) : s.data.toList.take (k + 1) = s.data.toList.take k ++ [s[k]] := by
  rw [List.take_succ_eq_append_getElem (by simpa using h)]; rfl
theorem crcRun_snoc (r : Nat) (l : List UInt8) (c : UInt8) : crcRun r (l ++ [c]) = crcByte (crcRun r l) c := by simp [crcRun]

/-- what CrcMore answers -/
def crcAns (crc : Int) (s : ByteArray) : Int := if 8000 < s.size ∨ crc < 0 ∨ 4294967295 < crc then 0 else ((crcMore crc.toNat s.data.toList : Nat) : Int)
theorem crcAns_long {crc : Int} {s : ByteArray} (h : 8000 < s.size) : crcAns crc s = 0 := by simp [crcAns, h]
theorem crcAns_neg {crc : Int} {s : ByteArray} (h : crc < 0) : crcAns crc s = 0 := by simp [crcAns, h]
theorem crcAns_big {crc : Int} {s : ByteArray} (h : 4294967295 < crc) : crcAns crc s = 0 := by simp [crcAns, h]
theorem crcAns_ok {c : Nat} {s : ByteArray} (h : s.size ≤ 8000) (hc : c < 4294967296) : crcAns (c : Int) s = ((crcMore c s.data.toList : Nat) : Int) := by
  unfold crcAns; rw [if_neg (by omega)]; rfl

/-! numbers: the zigzag of an integer, and its groups of seven bits, least first -/
def zig (n : Int) : Nat := if n < 0 then (-2 * n - 1).toNat else (2 * n).toNat
def vput : Nat → Nat → List UInt8
  | 0, u => [UInt8.ofNat u]
  | f + 1, u => if u < 128 then [UInt8.ofNat u] else UInt8.ofNat (u % 128 + 128) :: vput f (u / 128)
def putNum (n : Int) : List UInt8 := vput 9 (zig n)

theorem zig_lt {n : Int} (h1 : -9223372036854775808 ≤ n) (h2 : n ≤ 9223372036854775807) : zig n < 18446744073709551616 := by
  unfold zig; split <;> omega
theorem vput_small {f u : Nat} (h : u < 128) : vput f u = [UInt8.ofNat u] := by
  cases f with
  | zero => rfl
  | succ f => simp [vput, h]
theorem vput_big {f u : Nat} (h : ¬ u < 128) : vput (f + 1) u = UInt8.ofNat (u % 128 + 128) :: vput f (u / 128) := by simp [vput, h]
theorem vput_length (f u : Nat) : (vput f u).length ≤ f + 1 := by
  induction f generalizing u with
  | zero => simp [vput]
  | succ f ih =>
    unfold vput; split
    · simp
    · have := ih (u / 128); simp; omega
theorem vput_pos (f u : Nat) : 1 ≤ (vput f u).length := by
  cases f with
  | zero => simp [vput]
  | succ f => unfold vput; split <;> simp
theorem putNum_length (n : Int) : 1 ≤ (putNum n).length ∧ (putNum n).length ≤ 10 := ⟨vput_pos _ _, vput_length _ _⟩

/-! strings -/
def putText (s : ByteArray) : List UInt8 := if 8000 < s.size then [] else putNum s.size ++ s.data.toList
theorem putText_long {s : ByteArray} (h : 8000 < s.size) : putText s = [] := by simp [putText, h]
theorem putText_ok {s : ByteArray} (h : ¬ 8000 < s.size) : putText s = putNum s.size ++ s.data.toList := by simp [putText, h]

/-! seals -/
def four (n : Nat) : List UInt8 := [UInt8.ofNat n, UInt8.ofNat (n / 256), UInt8.ofNat (n / 65536), UInt8.ofNat (n / 16777216)]
def sum (l : List UInt8) : List UInt8 := four (crcMore 0 l)
def sealed (s : ByteArray) : List UInt8 := if 7996 < s.size then [] else s.data.toList ++ sum s.data.toList
theorem seal_long {s : ByteArray} (h : 7996 < s.size) : sealed s = [] := by simp [sealed, h]
theorem seal_ok {s : ByteArray} (h : ¬ 7996 < s.size) : sealed s = s.data.toList ++ sum s.data.toList := by simp [sealed, h]
theorem sum_length (l : List UInt8) : (sum l).length = 4 := rfl

def opened (s : ByteArray) : List UInt8 × Int :=
  if 8000 < s.size then ([], 2) else if s.size < 4 then ([], 4)
  else if sum (s.data.toList.take (s.size - 4)) ≠ s.data.toList.drop (s.size - 4) then ([], 5) else (s.data.toList.take (s.size - 4), 0)
theorem opened_long {s : ByteArray} (h : 8000 < s.size) : opened s = ([], 2) := by simp [opened, h]
theorem opened_short {s : ByteArray} (h : s.size < 4) : opened s = ([], 4) := by unfold opened; rw [if_neg (by omega), if_pos h]
theorem opened_bad {s : ByteArray} (h1 : ¬ 8000 < s.size) (h2 : ¬ s.size < 4) (h : ¬ sum (s.data.toList.take (s.size - 4)) = s.data.toList.drop (s.size - 4)) : opened s = ([], 5) := by
  unfold opened; rw [if_neg h1, if_neg h2, if_pos h]
theorem opened_ok {s : ByteArray} (h1 : ¬ 8000 < s.size) (h2 : ¬ s.size < 4) (h : sum (s.data.toList.take (s.size - 4)) = s.data.toList.drop (s.size - 4)) : opened s = (s.data.toList.take (s.size - 4), 0) := by
  unfold opened; rw [if_neg h1, if_neg h2, if_neg (by simp [h])]

/-! decoding -/
def unzig (u : Nat) : Int := if u % 2 = 1 then -((u / 2 : Nat) : Int) - 1 else ((u / 2 : Nat) : Int)
/-- the number at a place, its i-th byte on, with the bits so far: the number, the place behind it, the code -/
def numGo (s : ByteArray) (p : Nat) : Nat → Nat → Nat → Int × Int × Int
  | 0, _, _ => (0, 0, 3)
  | f + 1, i, u =>
    if h : p + i < s.size then
      if i = 9 ∧ 1 < s[p + i].toNat then (0, 0, 3)
      else if s[p + i].toNat < 128 then
        (if s[p + i].toNat = 0 ∧ 0 < i then (0, 0, 3) else (unzig (u + s[p + i].toNat % 128 * 2 ^ (7 * i)), (p : Int) + i + 1, 0))
      else numGo s p f (i + 1) (u + s[p + i].toNat % 128 * 2 ^ (7 * i))
    else (0, 0, 4)
def getNum (s : ByteArray) (p : Int) : Int × Int × Int := if 8000 < s.size then (0, 0, 2) else if p < 0 then (0, 0, 1) else numGo s p.toNat 10 0 0

theorem getNum_long {s : ByteArray} {p : Int} (h : 8000 < s.size) : getNum s p = (0, 0, 2) := by simp [getNum, h]
theorem getNum_neg {s : ByteArray} {p : Int} (h : ¬ 8000 < s.size) (hp : p < 0) : getNum s p = (0, 0, 1) := by simp [getNum, h, hp]
theorem getNum_ok {s : ByteArray} {p : Nat} (h : ¬ 8000 < s.size) : getNum s p = numGo s p 10 0 0 := by
  unfold getNum; rw [if_neg h, if_neg (by omega)]; rfl
theorem numGo_short {s : ByteArray} {p f i u : Nat} (h : ¬ p + i < s.size) : numGo s p (f + 1) i u = (0, 0, 4) := by simp [numGo, h]
theorem numGo_ten {s : ByteArray} {p f i u : Nat} (h : p + i < s.size) (h9 : i = 9) (hc : 1 < s[p + i].toNat) : numGo s p (f + 1) i u = (0, 0, 3) := by
  subst h9; simp [numGo, h, hc]
theorem numGo_zero {s : ByteArray} {p f i u : Nat} (h : p + i < s.size) (hi : 0 < i) (hc : s[p + i].toNat = 0) : numGo s p (f + 1) i u = (0, 0, 3) := by
  unfold numGo; rw [dif_pos h, if_neg (by omega), if_pos (by omega), if_pos ⟨hc, hi⟩]
theorem numGo_last {s : ByteArray} {p f i u : Nat} (h : p + i < s.size) (h9 : ¬ (i = 9 ∧ 1 < s[p + i].toNat)) (hc : s[p + i].toNat < 128) (h0 : ¬ (s[p + i].toNat = 0 ∧ 0 < i)) :
    numGo s p (f + 1) i u = (unzig (u + s[p + i].toNat % 128 * 2 ^ (7 * i)), (p : Int) + i + 1, 0) := by
  unfold numGo; rw [dif_pos h, if_neg h9, if_pos hc, if_neg h0]
theorem numGo_more {s : ByteArray} {p f i u : Nat} (h : p + i < s.size) (h9 : ¬ i = 9) (hc : ¬ s[p + i].toNat < 128) :
    numGo s p (f + 1) i u = numGo s p f (i + 1) (u + s[p + i].toNat % 128 * 2 ^ (7 * i)) := by
  rw [numGo, dif_pos h, if_neg (by omega), if_neg hc]

theorem numGo_at (s : ByteArray) (p f i u : Nat) : 0 ≤ (numGo s p f i u).2.1 ∧ ((numGo s p f i u).2.2 = 0 → (numGo s p f i u).2.1 ≤ s.size) := by
  induction f generalizing i u with
  | zero => simp [numGo]
  | succ f ih =>
    unfold numGo
    split
    · split
      · simp
      · split
        · split
          · simp
          · simp; omega
        · exact ih _ _
    · simp
theorem getNum_at (s : ByteArray) (p : Int) : 0 ≤ (getNum s p).2.1 ∧ ((getNum s p).2.2 = 0 → (getNum s p).2.1 ≤ s.size ∧ s.size ≤ 8000) := by
  unfold getNum
  split
  · simp
  · split
    · simp
    · have := numGo_at s p.toNat 10 0 0
      exact ⟨this.1, fun h => ⟨this.2 h, by omega⟩⟩
/-- the text at a place: its bytes, the place behind it, the code -/
def getText (s : ByteArray) (p : Int) : List UInt8 × Int × Int :=
  if (getNum s p).2.2 ≠ 0 then ([], 0, (getNum s p).2.2)
  else if (getNum s p).1 < 0 ∨ 8000 < (getNum s p).1 then ([], 0, 3)
  else if s.size < (getNum s p).2.1 + (getNum s p).1 then ([], 0, 4)
  else ((s.extract (getNum s p).2.1.toNat ((getNum s p).2.1 + (getNum s p).1).toNat).data.toList, (getNum s p).2.1 + (getNum s p).1, 0)
theorem getText_code {s : ByteArray} {p : Int} (h : (getNum s p).2.2 ≠ 0) : getText s p = ([], 0, (getNum s p).2.2) := by unfold getText; rw [if_pos h]
theorem getText_size {s : ByteArray} {p : Int} (h : ¬ (getNum s p).2.2 ≠ 0) (h1 : (getNum s p).1 < 0 ∨ 8000 < (getNum s p).1) : getText s p = ([], 0, 3) := by unfold getText; rw [if_neg h, if_pos h1]
theorem getText_short {s : ByteArray} {p : Int} (h : ¬ (getNum s p).2.2 ≠ 0) (h1 : ¬ ((getNum s p).1 < 0 ∨ 8000 < (getNum s p).1)) (h2 : s.size < (getNum s p).2.1 + (getNum s p).1) : getText s p = ([], 0, 4) := by
  unfold getText; rw [if_neg h, if_neg h1, if_pos h2]
theorem getText_ok {s : ByteArray} {p : Int} (h : ¬ (getNum s p).2.2 ≠ 0) (h1 : ¬ ((getNum s p).1 < 0 ∨ 8000 < (getNum s p).1)) (h2 : ¬ s.size < (getNum s p).2.1 + (getNum s p).1) :
    getText s p = ((s.extract (getNum s p).2.1.toNat ((getNum s p).2.1 + (getNum s p).1).toNat).data.toList, (getNum s p).2.1 + (getNum s p).1, 0) := by
  unfold getText; rw [if_neg h, if_neg h1, if_neg h2]

end Go.Proofs.YtloaeglmngcenaaGreatDoor.Bt
