/-
  Valid chips stay valid: MarkBad, Erase, Program that answer OK. No condition.
-/
import Derived.Test.YtdgmpllonnddmaaNdAns
namespace Go.Proofs.Ytdgmpllonnddmaa
open Go.RowKit

theorem ok_set {X : List Bk} {k : Nat} {b : Bk} (h : NdOk X) (hk : k < X.length) (hb : BkOk b) : NdOk (X.set k b) := by
  refine ⟨by simpa using h.1, fun i hi => ?_⟩
  rw [set_getD hk]
  split
  · exact hb
  · exact h.2 i (by simpa using hi)
theorem mark_ok {X : List Bk} {bi : Int} (h : (markAns X bi).code = 0) : NdOk (markAns X bi).nd := by
  unfold markAns at h ⊢
  split at h
  · rename_i h1; exact absurd h h1
  · rename_i h1
    rw [if_neg h1]
    obtain ⟨hok, hk⟩ := few_of_code h1
    have := hok.2 _ hk
    exact ok_set hok hk ⟨this.1, this.2.1, this.2.2⟩
theorem zero_ok (k : Nat) : ¬ PgBad [zeroPg, zeroPg, zeroPg, zeroPg] k := by
  have h : ∀ i, [zeroPg, zeroPg, zeroPg, zeroPg].getD i zeroPg = zeroPg := fun i => by
    match i with
    | 0 => rfl
    | 1 => rfl
    | 2 => rfl
    | 3 => rfl
    | i + 4 => rfl
  unfold PgBad
  rw [h, h]
  have : zeroPg.data.size = 0 := rfl
  have h2 : zeroPg.used = false := rfl
  simp [this, h2]
theorem erase_ok {X : List Bk} {bi : Int} (h : (eraseAns X bi).code = 0) : NdOk (eraseAns X bi).nd := by
  unfold eraseAns at h ⊢
  split at h
  · rename_i h1; exact absurd h h1
  · rename_i h1
    rw [if_neg h1]
    split at h
    · exact absurd h (by decide)
    · rename_i h2
      rw [if_neg h2]
      split at h
      · exact absurd h (by decide)
      · rename_i h3
        rw [if_neg h3]
        obtain ⟨hok, hk⟩ := few_of_code h1
        have := hok.2 _ hk
        exact ok_set hok hk ⟨rfl, by have := this.2.1; dsimp only; omega, fun k _ => zero_ok k⟩
theorem prog_pages {P : List Pg} {d : ByteArray} (hl : P.length = 4) (h : ∀ k, k < 4 → ¬ PgBad P k) (hu : uPre P ≠ 4) (hd : d.size ≤ 60) : ∀ k, k < 4 → ¬ PgBad (P.set (uPre P) ⟨true, d⟩) k := by
  have hle := uPre_le P
  have hlt : uPre P < P.length := by omega
  have hst := uPre_stop hlt
  intro k hk
  have hb := h k hk
  unfold PgBad at hb ⊢
  rw [set_getD hlt, set_getD hlt]
  by_cases e : k = uPre P
  · rw [if_pos e]
    rintro (h1 | ⟨h1, -⟩ | ⟨h0, -, h1⟩)
    · dsimp only at h1; omega
    · cases h1
    · rw [if_neg (by omega)] at h1
      rw [uPre_lt (by omega)] at h1; cases h1
  · rw [if_neg e]
    rintro (h1 | h1 | ⟨h0, h1, h2⟩)
    · exact hb (Or.inl h1)
    · exact hb (Or.inr (Or.inl h1))
    · by_cases e2 : k - 1 = uPre P
      · rw [if_pos e2] at h2; cases h2
      · rw [if_neg e2] at h2
        exact hb (Or.inr (Or.inr ⟨h0, h1, h2⟩))
theorem prog_ok {X : List Bk} {bi : Int} {d : ByteArray} (h : (progAns X bi d).code = 0) : NdOk (progAns X bi d).nd := by
  unfold progAns at h ⊢
  split at h
  · exact absurd h (by decide)
  · rename_i h0
    rw [if_neg h0]
    split at h
    · rename_i h1; exact absurd h h1
    · rename_i h1
      rw [if_neg h1]
      split at h
      · exact absurd h (by decide)
      · rename_i h2
        rw [if_neg h2]
        split at h
        · exact absurd h (by decide)
        · rename_i h3
          rw [if_neg h3]
          split at h
          · exact absurd h (by decide)
          · rename_i h4
            rw [if_neg h4]
            obtain ⟨hok, hk⟩ := few_of_code h1
            have := hok.2 _ hk
            exact ok_set hok hk ⟨by rw [List.length_set]; exact this.1, this.2.1, prog_pages this.1 this.2.2 h4 (by omega)⟩
end Go.Proofs.Ytdgmpllonnddmaa
