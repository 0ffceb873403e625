/-
  Plain mathematics of chapter 9 (text interface), first part: a text taken apart. No condition.
-/
import Derived.Lib.SplitLaws
import Derived.Lib.SlicesS
import Derived.Lib.Join
import Derived.Lib.ItoaNum
import Derived.Test.YtdeagcdafcfimaaGreatDoorProg
namespace Go.Proofs.YtdeagcdafcfimaaGreatDoor


/-- a text cut at each byte c -/
def pcs (c : UInt8) : List UInt8 → List (List UInt8)
  | [] => [[]]
  | b :: l => if b = c then [] :: pcs c l else ((b :: (pcs c l).headD []) :: (pcs c l).tail)
theorem pcs_cons_eq (c : UInt8) (l : List UInt8) : pcs c (c :: l) = [] :: pcs c l := by simp [pcs]
theorem pcs_cons_ne {b c : UInt8} (l : List UInt8) (h : b ≠ c) : pcs c (b :: l) = (b :: (pcs c l).headD []) :: (pcs c l).tail := by rw [pcs, if_neg h]
theorem pcs_ne (c : UInt8) : ∀ l, pcs c l ≠ []
  | [] => by simp [pcs]
  | b :: l => by unfold pcs; split <;> simp
theorem idx_cons_eq (c : UInt8) (l : List UInt8) : Lib.index (c :: l) [c] = ((0 : Nat) : Int) := by rw [Lib.index]; simp [List.isPrefixOf]
theorem idx_cons_ne {b c : UInt8} (l : List UInt8) (h : b ≠ c) : Lib.index (b :: l) [c] = if Lib.index l [c] == -1 then -1 else Lib.index l [c] + 1 := by
  have hp : ([c] : List UInt8).isPrefixOf (b :: l) = false := by simp [List.isPrefixOf, Ne.symm h]
  rw [Lib.index, hp]; simp
theorem splitK_pcs (c : UInt8) : ∀ l, Lib.splitK [c] 0 (Lib.count l [c]) l = pcs c l
  | [] => by rw [Lib.count_miss (by simp [Lib.index])]; rfl
  | b :: l => by
    have ih := splitK_pcs c l
    by_cases h : b = c
    · subst h
      rw [Lib.count_cons_eq, Nat.add_comm, Lib.splitK, idx_cons_eq, pcs_cons_eq, ← ih]
      simp
    · rw [Lib.count_cons_ne b c l h, pcs_cons_ne l h]
      cases hk : Lib.count l [c] with
      | zero =>
        rw [hk] at ih
        rw [← ih]; rfl
      | succ k =>
        rw [hk] at ih
        rw [← ih]
        have hne : Lib.index l [c] ≠ -1 := fun e => by rw [Lib.count_miss e] at hk; omega
        have hge := Lib.index_ge l [c]
        obtain ⟨j, hj⟩ : ∃ j : Nat, Lib.index l [c] = j := ⟨(Lib.index l [c]).toNat, by omega⟩
        rw [Lib.splitK, idx_cons_ne l h, hj]
        have h1 : ¬ ((j : Int) == -1) = true := by simp
        have h2 : ¬ (((j : Int) + 1) == -1) = true := by simp; omega
        have h3 : ((j : Int) + 1).toNat = j + 1 := by omega
        rw [if_neg h1, if_neg h2, h3]
        rw [Lib.splitK, hj, if_neg h1]
        simp
theorem splitB_pcs (c : UInt8) (s : ByteArray) : (Lib.splitB ⟨#[c]⟩ 0 (Lib.countB s ⟨#[c]⟩) s).map (·.data.toList) = pcs c s.data.toList := by
  rw [Lib.splitB_data]
  exact splitK_pcs c s.data.toList
theorem cut_pcs (c : UInt8) : ∀ l, (Lib.cut l [c]).2.2 = true ∧ pcs c l = (Lib.cut l [c]).1 :: pcs c (Lib.cut l [c]).2.1 ∧ (Lib.cut l [c]).2.1.length < l.length ∨ (Lib.cut l [c]).2.2 = false ∧ pcs c l = [l] ∧ Lib.cut l [c] = (l, [], false)
  | [] => by right; simp [Lib.cut, Lib.index, pcs]
  | b :: l => by
    by_cases h : b = c
    · subst h
      left
      have e : Lib.cut (b :: l) [b] = ([], l, true) := by unfold Lib.cut; rw [idx_cons_eq]; simp
      rw [e]
      simp [pcs]
    · have hge := Lib.index_ge l [c]
      rcases cut_pcs c l with ⟨h1, h2, h3⟩ | ⟨h1, h2, h3⟩
      · left
        have hi : 0 ≤ Lib.index l [c] := by
          unfold Lib.cut at h1; split at h1
          · assumption
          · simp at h1
        obtain ⟨j, hj⟩ : ∃ j : Nat, Lib.index l [c] = j := ⟨(Lib.index l [c]).toNat, by omega⟩
        have h4 : ¬ ((j : Int) == -1) = true := by simp
        have e1 : Lib.cut l [c] = (l.take j, l.drop (j + 1), true) := by unfold Lib.cut; rw [hj]; simp
        have e2 : Lib.cut (b :: l) [c] = (b :: l.take j, l.drop (j + 1), true) := by
          unfold Lib.cut; rw [idx_cons_ne l h, hj, if_neg h4, if_pos (by omega)]
          have : ((j : Int) + 1).toNat = j + 1 := by omega
          rw [this]; simp
        rw [e1] at h2 h3
        rw [e2]
        refine ⟨rfl, ?_, by simp at h3 ⊢; omega⟩
        rw [pcs_cons_ne l h, h2]
        rfl
      · right
        have hi : Lib.index l [c] = -1 := by
          unfold Lib.cut at h1; split at h1
          · simp at h1
          · omega
        have e2 : Lib.cut (b :: l) [c] = (b :: l, [], false) := by
          unfold Lib.cut; rw [idx_cons_ne l h, hi]; simp
        rw [e2]
        refine ⟨rfl, ?_, rfl⟩
        rw [pcs_cons_ne l h, h2]
        rfl
/-- cut at each byte, by places: what lies from each place on -/
theorem pcs_append (c : UInt8) : ∀ (a b : List UInt8), c ∉ a → pcs c (a ++ c :: b) = a :: pcs c b
  | [], b, _ => by simp [pcs]
  | x :: a, b, h => by
    have hx : x ≠ c := fun e => h (by simp [e])
    have := pcs_append c a b (fun e => h (by simp [e]))
    simp only [List.cons_append]
    rw [pcs_cons_ne _ hx, this]
    rfl
theorem pcs_none (c : UInt8) : ∀ (a : List UInt8), c ∉ a → pcs c a = [a]
  | [], _ => rfl
  | x :: a, h => by
    have hx : x ≠ c := fun e => h (by simp [e])
    have := pcs_none c a (fun e => h (by simp [e]))
    rw [pcs_cons_ne _ hx, this]
    rfl
theorem pcs_sum (c : UInt8) : ∀ l, (pcs c l).length ≤ l.length + 1
  | [] => by simp [pcs]
  | b :: l => by
    have := pcs_sum c l
    have h0 := pcs_ne c l
    unfold pcs
    split
    · simp; omega
    · cases hp : pcs c l with
      | nil => exact absurd hp h0
      | cons p r => rw [hp] at this; simp at this ⊢; omega
theorem pcs_le (c : UInt8) : ∀ l, ∀ p ∈ pcs c l, p.length ≤ l.length
  | [], p, hp => by simp [pcs] at hp; subst hp; simp
  | b :: l, p, hp => by
    have ih := pcs_le c l
    unfold pcs at hp
    split at hp
    · rcases List.mem_cons.1 hp with rfl | h
      · simp
      · have := ih p h; simp; omega
    · cases hq : pcs c l with
      | nil => exact absurd hq (pcs_ne c l)
      | cons q r =>
        rw [hq] at hp ih
        simp at hp
        rcases hp with rfl | h
        · have := ih q (by simp); simp; omega
        · have := ih p (by simp [h]); simp; omega

/-- a number in digits: at most nine, no leading zero -/
def dgs : List UInt8 → Nat → Option Nat
  | [], v => some v
  | b :: l, v => if 48 ≤ b.toNat ∧ b.toNat ≤ 57 then dgs l (10 * v + (b.toNat - 48)) else none
def numOf (l : List UInt8) : Option Nat := if l.length = 0 ∨ 9 < l.length ∨ 1 < l.length ∧ l.headD 0 = 48 then none else dgs l 0
theorem dgs_lt : ∀ (l : List UInt8) (v k n : Nat), dgs l v = some n → v < 10 ^ k → n < 10 ^ (k + l.length)
  | [], v, k, n, h, hv => by simp [dgs] at h; subst h; simpa using hv
  | b :: l, v, k, n, h, hv => by
    unfold dgs at h
    split at h
    · have := dgs_lt l _ (k + 1) n h (by rw [Nat.pow_succ]; omega)
      have e : k + 1 + l.length = k + (b :: l).length := by simp; omega
      rw [e] at this; exact this
    · cases h
theorem numOf_lt {l : List UInt8} {n : Nat} (h : numOf l = some n) : n < 1000000000 := by
  unfold numOf at h
  split at h
  · cases h
  · have := dgs_lt l 0 0 n h (by simp)
    have h9 : l.length ≤ 9 := by omega
    have : n < 10 ^ 9 := Nat.lt_of_lt_of_le this (Nat.pow_le_pow_right (by decide) (by omega))
    simpa using this
/-- the words, in the document's order -/
def dkWords : List (List UInt8) := [[119, 114, 105, 116, 101], [116, 114, 105, 109], [114, 111, 108, 108], [116, 105, 99, 107], [114, 101, 97, 100], [97, 116], [116, 105, 109, 101, 115], [114, 97, 105, 115, 101], [103, 99], [99, 117, 116], [116, 111, 114, 110], [114, 111, 111, 109]]
/-- what stands behind a word: 0 nothing, 1 a number, 2 two numbers, 3 a number and a text -/
def dkKind : Nat → Nat
  | 0 => 3 | 1 => 1 | 2 => 1 | 3 => 1 | 4 => 1 | 5 => 2 | 6 => 1 | 7 => 0 | 8 => 0 | 9 => 1 | 10 => 3 | _ => 0
/-- which word -/
def dkNo (x : List UInt8) : Option Nat := if dkWords.idxOf x < 12 then some (dkWords.idxOf x) else none
/-- a line, taken apart -/
structure Ln where
  k : Nat
  a : Nat
  b : Nat
  t : List UInt8
def dkArgsK (κ k : Nat) (r : List (List UInt8)) : Option Ln :=
  match κ, r with
  | 0, [] => some ⟨k, 0, 0, []⟩
  | 1, [n] => (numOf n).map fun a => ⟨k, a, 0, []⟩
  | 2, [n, m] => (numOf n).bind fun a => (numOf m).map fun b => ⟨k, a, b, []⟩
  | 3, [n, t] => if t = [] then none else (numOf n).map fun a => ⟨k, a, 0, t⟩
  | _, _ => none
def dkArgs (k : Nat) (r : List (List UInt8)) : Option Ln := dkArgsK (dkKind k) k r
def dkParse (W : List (List UInt8)) : Option Ln := (dkNo (W.headD [])).bind fun k => dkArgs k W.tail
theorem numOf_nil : numOf [] = none := by simp [numOf]
theorem dkNo_nil : dkNo [] = none := by decide
theorem dkParse_empty {W : List (List UInt8)} (h : [] ∈ W) : dkParse W = none := by
  cases W with
  | nil => simp at h
  | cons x r =>
    unfold dkParse
    rcases List.mem_cons.1 h with rfl | h
    · simp [dkNo_nil]
    · cases hk : dkNo (List.headD (x :: r) []) with
      | none => rfl
      | some k =>
        show dkArgs k r = none
        unfold dkArgs dkArgsK
        split
        · simp at h
        · simp at h; subst h; simp [numOf_nil]
        · simp at h
          rcases h with rfl | rfl
          · simp [numOf_nil]
          · simp [numOf_nil]
        · simp at h
          rcases h with rfl | rfl
          · simp [numOf_nil]
          · simp
        · rfl
/-- the place of the first faulty line, the line pieces numbered from i on -/
def dkFault : List (List UInt8) → Nat → Option Nat
  | [], _ => none
  | [p], i => if p = [] then none else some i
  | p :: q :: r, i => if dkParse (pcs 32 p) = none ∨ 40 ≤ i then some i else dkFault (q :: r) (i + 1)
/-- the lines ahead of it -/
def dkGood : List (List UInt8) → List Ln
  | p :: q :: r => match dkParse (pcs 32 p) with
    | some l => l :: dkGood (q :: r)
    | none => []
  | _ => []
/-- what a text is: refused at a place, or lines -/
def dkRead (t : List UInt8) : Option Nat × List Ln := (dkFault (pcs 10 t) 0, dkGood (pcs 10 t))
theorem dkGood_len : ∀ (P : List (List UInt8)) (i : Nat), dkFault P i = none → i ≤ 40 → (dkGood P).length + i ≤ 40
  | [], i, _, h => by simp [dkGood]; exact h
  | [p], i, _, h => by simp [dkGood]; exact h
  | p :: q :: r, i, hf, h => by
    unfold dkFault at hf
    split at hf
    · cases hf
    · rename_i hn
      unfold dkGood
      cases hp : dkParse (pcs 32 p) with
      | none => simp [hp] at hn
      | some l =>
        have := dkGood_len (q :: r) (i + 1) hf (by simp [hp] at hn; omega)
        simp; omega
end Go.Proofs.YtdeagcdafcfimaaGreatDoor
