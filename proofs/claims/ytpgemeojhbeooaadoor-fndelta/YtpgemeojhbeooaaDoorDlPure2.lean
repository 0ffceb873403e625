/-
  Plain mathematics of chapter 10's reading: how great what is read can be; one operation read as the program reads it. No condition.
-/
import Derived.Test.YtpgemeojhbeooaaDoorDlPure
namespace Go.Proofs.YtpgemeojhbeooaaDoor.Bt

theorem unzig_range {y : Nat} (h : y < 18446744073709551616) : -9223372036854775808 ≤ unzig y ∧ unzig y ≤ 9223372036854775807 := by
  unfold unzig; split <;> omega
theorem pow7 (i : Nat) : 2 ^ (7 * (i + 1)) = 128 * 2 ^ (7 * i) := by
  rw [show 7 * (i + 1) = 7 * i + 7 by omega, Nat.pow_add, Nat.mul_comm]
theorem numGo_range (s : ByteArray) (p : Nat) : ∀ f i u, f + i = 10 → u < 2 ^ (7 * i) → -9223372036854775808 ≤ (numGo s p f i u).1 ∧ (numGo s p f i u).1 ≤ 9223372036854775807 := by
  intro f
  induction f with
  | zero => intro i u _ _; simp [numGo]
  | succ f ih =>
    intro i u hfi hu
    by_cases hp : p + i < s.size
    · by_cases h9 : i = 9 ∧ 1 < s[p + i].toNat
      · rw [numGo_ten hp h9.1 h9.2]; simp
      · by_cases hc : s[p + i].toNat < 128
        · by_cases h0 : s[p + i].toNat = 0 ∧ 0 < i
          · rw [numGo_zero hp h0.2 h0.1]; simp
          · rw [numGo_last hp h9 hc h0]
            refine unzig_range ?_
            rw [Nat.mod_eq_of_lt hc]
            generalize hcc : s[p + i].toNat = c at *
            by_cases h8 : i ≤ 8
            · have h1 : 2 ^ (7 * i) ≤ 2 ^ 56 := Nat.pow_le_pow_right (by decide) (by omega)
              have h2 : c * 2 ^ (7 * i) ≤ 127 * 2 ^ 56 := Nat.mul_le_mul (by omega) h1
              have h3 : (2 : Nat) ^ 56 = 72057594037927936 := by decide
              rw [h3] at h1 h2
              omega
            · obtain rfl : i = 9 := by omega
              have h1 : c ≤ 1 := by omega
              have h3 : (2 : Nat) ^ (7 * 9) = 9223372036854775808 := by decide
              rw [h3] at hu ⊢
              have h2 : c * 9223372036854775808 ≤ 1 * 9223372036854775808 := Nat.mul_le_mul h1 (Nat.le_refl _)
              omega
        · have h9' : ¬ i = 9 := fun e => h9 ⟨e, by omega⟩
          rw [numGo_more hp h9' hc]
          refine ih (i + 1) _ (by omega) ?_
          rw [pow7]
          have h1 : s[p + i].toNat % 128 * 2 ^ (7 * i) ≤ 127 * 2 ^ (7 * i) := Nat.mul_le_mul (by omega) (Nat.le_refl _)
          omega
    · rw [numGo_short hp]; simp
theorem getNum_range (s : ByteArray) (p : Int) : -9223372036854775808 ≤ (getNum s p).1 ∧ (getNum s p).1 ≤ 9223372036854775807 := by
  by_cases h1 : 8000 < s.size
  · rw [getNum_long h1]; simp
  by_cases h2 : p < 0
  · rw [getNum_neg h1 h2]; simp
  obtain ⟨q, rfl⟩ := Int.eq_ofNat_of_zero_le (by omega : 0 ≤ p)
  rw [getNum_ok h1]
  exact numGo_range s q 10 0 0 (by omega) (by simp)
theorem rdNum_range (s : ByteArray) (x : Int × Bool) : -9223372036854775808 ≤ (rdNum s x).1 ∧ (rdNum s x).1 ≤ 9223372036854775807 := by
  by_cases hc : x.2 = true ∨ (getNum s x.1).2.2 ≠ 0
  · rw [rdNum_bad hc]; simp
  · rw [rdNum_ok hc]; exact getNum_range s x.1
theorem getText_le (s : ByteArray) (p : Int) : (getText s p).1.length ≤ 8000 := by
  by_cases h1 : (getNum s p).2.2 ≠ 0
  · rw [getText_code h1]; simp
  by_cases h2 : (getNum s p).1 < 0 ∨ 8000 < (getNum s p).1
  · rw [getText_size h1 h2]; simp
  by_cases h3 : (s.size : Int) < (getNum s p).2.1 + (getNum s p).1
  · rw [getText_short h1 h2 h3]; simp
  rw [getText_ok h1 h2 h3]
  have : ∀ (a b : Nat), b - a ≤ 8000 → (s.extract a b).data.toList.length ≤ 8000 := by
    intro a b h
    have : (s.extract a b).data.toList.length = (s.extract a b).size := rfl
    rw [this, ByteArray.size_extract]; omega
  refine this _ _ ?_
  have := getNum_at s p
  omega
theorem rdText_le (s : ByteArray) (x : Int × Bool) : (rdText s x).1.length ≤ 8000 := by
  by_cases hc : x.2 = true ∨ (getText s x.1).2.2 ≠ 0
  · rw [rdText_bad hc]; simp
  · rw [rdText_ok hc]; exact getText_le s x.1
theorem drOp_small (s : ByteArray) (x : Int × Bool) : (drOp s x).1.x.size ≤ 8000 ∧ (drOp s x).1.f ≤ 9223372036854775807 := by
  unfold drOp
  split
  · simp only [bstr_size]; exact ⟨rdText_le s _, by omega⟩
  · exact ⟨Nat.zero_le _, (rdNum_range s _).2⟩
theorem drTo_small (s : ByteArray) : ∀ k, ∀ o ∈ (drTo s k).1, o.x.size ≤ 8000 ∧ o.f ≤ 9223372036854775807
  | 0, o, h => by cases h
  | k + 1, o, h => by
    rw [drTo] at h
    simp only [List.mem_append, List.mem_singleton] at h
    rcases h with h | h
    · exact drTo_small s k o h
    · subst h; exact drOp_small s _

/-- an operation as the program reads it: the operation, the place behind it, whether it is whole -/
def rop (s : ByteArray) (p : Int) : Dop × Int × Bool :=
  if (getNum s p).2.2 ≠ 0 then (Dop.zero, 0, false)
  else if (getNum s p).1 = 0 then (⟨0, 0, bstr (getText s (getNum s p).2.1).1⟩, (getText s (getNum s p).2.1).2.1, (getText s (getNum s p).2.1).2.2 == 0)
  else (⟨(getNum s (getNum s p).2.1).1, (getNum s p).1, ⟨#[]⟩⟩, (getNum s (getNum s p).2.1).2.1, (getNum s (getNum s p).2.1).2.2 == 0)
theorem rop_bad {s : ByteArray} {p : Int} (h : (getNum s p).2.2 ≠ 0) : rop s p = (Dop.zero, 0, false) := by unfold rop; rw [if_pos h]
theorem rop_ins {s : ByteArray} {p : Int} (h : (getNum s p).2.2 = 0) (h0 : (getNum s p).1 = 0) : rop s p = (⟨0, 0, bstr (getText s (getNum s p).2.1).1⟩, (getText s (getNum s p).2.1).2.1, (getText s (getNum s p).2.1).2.2 == 0) := by
  unfold rop; rw [if_neg (by simp [h]), if_pos h0]
theorem rop_cp {s : ByteArray} {p : Int} (h : (getNum s p).2.2 = 0) (h0 : (getNum s p).1 ≠ 0) : rop s p = (⟨(getNum s (getNum s p).2.1).1, (getNum s p).1, ⟨#[]⟩⟩, (getNum s (getNum s p).2.1).2.1, (getNum s (getNum s p).2.1).2.2 == 0) := by
  unfold rop; rw [if_neg (by simp [h]), if_neg h0]
/-- both ways of reading agree -/
theorem rop_drOp (s : ByteArray) (p : Int) : ((rop s p).2.2 = true → drOp s (p, false) = ((rop s p).1, ((rop s p).2.1, false))) ∧ ((rop s p).2.2 = false → (drOp s (p, false)).2.2 = true) := by
  by_cases h : (getNum s p).2.2 = 0
  · have e1 : rdNum s (p, false) = ((getNum s p).1, ((getNum s p).2.1, false)) := rdNum_ok (by simp [h])
    by_cases h0 : (getNum s p).1 = 0
    · rw [rop_ins h h0]
      unfold drOp
      rw [e1]
      simp only [h0, if_true]
      constructor
      · intro h2
        have h2' : (getText s (getNum s p).2.1).2.2 = 0 := by simpa using h2
        rw [rdText_ok (x := ((getNum s p).2.1, false)) (by simp [h2'])]
      · intro h2
        have h2' : (getText s (getNum s p).2.1).2.2 ≠ 0 := by simpa using h2
        rw [rdText_bad (x := ((getNum s p).2.1, false)) (.inr h2')]
    · rw [rop_cp h h0]
      unfold drOp
      rw [e1]
      simp only [h0, if_false]
      constructor
      · intro h2
        have h2' : (getNum s (getNum s p).2.1).2.2 = 0 := by simpa using h2
        rw [rdNum_ok (x := ((getNum s p).2.1, false)) (by simp [h2'])]
      · intro h2
        have h2' : (getNum s (getNum s p).2.1).2.2 ≠ 0 := by simpa using h2
        rw [rdNum_bad (x := ((getNum s p).2.1, false)) (.inr h2')]
  · rw [rop_bad h]
    refine ⟨(fun h2 => by cases h2), fun _ => ?_⟩
    unfold drOp
    rw [rdNum_bad (x := (p, false)) (.inr h)]
    simp only [if_true]
    rw [rdText_stuck rfl]
end Go.Proofs.YtpgemeojhbeooaaDoor.Bt
