/-
  What the answers of chapter 3 say of each other (plain mathematics): a bad block is not programmed; an erased block is empty; a written page is read back, and no other one changes.
-/
import Derived.Test.YtdgmpllonnddmaaLwBag
namespace Go.Proofs.Ytdgmpllonnddmaa
open Go.RowKit

/-! the fields of an answer that is nowhere stored -/
theorem field_code (A : Option Addr) (n c : Nat) (d : ByteArray) (z : Int) (w : World) : (Instr.field 29 (.agg #[.slice A n c, .string d, .int .i64 z]) 2).run Try.prog w = .ok (.int .i64 z) w := by
  simp [Instr.field, run_underlying Try.underlying29, part, asAgg, go_sem]
theorem field_data (A : Option Addr) (n c : Nat) (d : ByteArray) (z : Int) (w : World) : (Instr.field 29 (.agg #[.slice A n c, .string d, .int .i64 z]) 1).run Try.prog w = .ok (.string d) w := by
  simp [Instr.field, run_underlying Try.underlying29, part, asAgg, go_sem]

theorem mark_parts {X : List Bk} {bi : Int} (h : (markAns X bi).code = 0) : ∃ k : Nat, bi = (k : Int) ∧ k < X.length ∧ NdOk X ∧ (markAns X bi).nd = X.set k ⟨(X.getD k zeroBk).pages, (X.getD k zeroBk).erases, true⟩ := by
  unfold markAns at h ⊢
  split at h
  · rename_i h1; exact absurd h h1
  · rename_i h1
    have h1 : blkCode X bi = 0 := by simpa using h1
    obtain ⟨hok, k, rfl, hk⟩ := blkCode_zero h1
    rw [if_neg (by simpa using h1)]
    exact ⟨k, rfl, hk, hok, rfl⟩
/-- a bad block is not programmed any more -/
theorem mark_then_prog {X : List Bk} {bi : Int} {t : ByteArray} (h : (markAns X bi).code = 0) (ht : t.size ≤ 60) : (progAns (markAns X bi).nd bi t).code = 11 := by
  obtain ⟨k, rfl, hk, hok, hnd⟩ := mark_parts h
  have hok' := mark_ok h
  rw [hnd] at hok' ⊢
  have hb : blkCode (X.set k ⟨(X.getD k zeroBk).pages, (X.getD k zeroBk).erases, true⟩) (k : Int) = 0 := blkCode_ok hok' (by omega) (by simpa using hk)
  unfold progAns
  rw [if_neg (by omega), if_neg (by simpa using hb), if_neg (by omega), if_pos]
  · rfl
  · rw [Int.toNat_natCast, set_getD hk, if_pos rfl]

theorem erase_parts {X : List Bk} {bi : Int} (h : (eraseAns X bi).code = 0) : ∃ k : Nat, bi = (k : Int) ∧ k < X.length ∧ NdOk X ∧ (X.getD k zeroBk).erases ≠ 1000000 ∧
    (eraseAns X bi).nd = X.set k ⟨[zeroPg, zeroPg, zeroPg, zeroPg], (X.getD k zeroBk).erases + 1, (X.getD k zeroBk).bad⟩ := by
  unfold eraseAns at h ⊢
  split at h
  · rename_i h1; exact absurd h h1
  · rename_i h1
    have h1 : blkCode X bi = 0 := by simpa using h1
    obtain ⟨hok, k, rfl, hk⟩ := blkCode_zero h1
    rw [if_neg (by simpa using h1)]
    split at h
    · exact absurd h (by decide)
    · rename_i h2
      rw [if_neg h2]
      split at h
      · exact absurd h (by decide)
      · rename_i h3
        rw [if_neg h3]
        exact ⟨k, rfl, hk, hok, h3, rfl⟩
/-- an erased block is empty, and was erased once more -/
theorem erase_then {X : List Bk} {bi : Int} (h : (eraseAns X bi).code = 0) : usedAns (eraseAns X bi).nd bi = 0 ∧ ∃ k : Nat, bi = (k : Int) ∧ k < X.length ∧ (eraseAns X bi).nd.length = X.length ∧
    ((eraseAns X bi).nd.getD k zeroBk).erases = (X.getD k zeroBk).erases + 1 ∧ 0 ≤ (X.getD k zeroBk).erases ∧ (X.getD k zeroBk).erases ≤ 1000000 := by
  obtain ⟨k, rfl, hk, hok, he, hnd⟩ := erase_parts h
  rw [hnd]
  have hb := (hok.2 k hk).2.1
  refine ⟨?_, k, rfl, hk, by simp, ?_, hb.1, hb.2⟩
  · unfold usedAns
    split
    · rw [Int.toNat_natCast, set_getD hk, if_pos rfl]
      simp [uPre, zeroPg]
    · rfl
  · rw [set_getD hk, if_pos rfl]

theorem prog_parts {X : List Bk} {bi : Int} {d : ByteArray} (h : (progAns X bi d).code = 0) : ∃ k : Nat, bi = (k : Int) ∧ k < X.length ∧ NdOk X ∧ uPre (X.getD k zeroBk).pages < 4 ∧
    (progAns X bi d).nd = X.set k ⟨(X.getD k zeroBk).pages.set (uPre (X.getD k zeroBk).pages) ⟨true, d⟩, (X.getD k zeroBk).erases, (X.getD k zeroBk).bad⟩ := by
  unfold progAns at h ⊢
  split at h
  · exact absurd h (by decide)
  · rename_i h0
    rw [if_neg h0]
    split at h
    · rename_i h1; exact absurd h h1
    · rename_i h1
      have h1 : blkCode X bi = 0 := by simpa using h1
      obtain ⟨hok, k, rfl, hk⟩ := blkCode_zero h1
      rw [if_neg (by simpa using h1)]
      split at h
      · exact absurd h (by decide)
      · rename_i h2
        rw [if_neg h2]
        split at h
        · exact absurd h (by decide)
        · rename_i h3
          rw [if_neg h3]
          split at h
          · exact absurd h (by decide)
          · rename_i h4
            rw [if_neg h4]
            rw [Int.toNat_natCast] at h4
            have hl := (hok.2 k hk).1
            have := uPre_le (X.getD k zeroBk).pages
            exact ⟨k, rfl, hk, hok, by omega, rfl⟩
theorem page_parts {X : List Bk} {bi pi : Int} (h : (pageAns X bi pi).code = 0) : ∃ k j : Nat, bi = (k : Int) ∧ pi = (j : Int) ∧ k < X.length ∧ j < 4 ∧ NdOk X ∧ ((X.getD k zeroBk).pages.getD j zeroPg).used = true ∧ (pageAns X bi pi).data = ((X.getD k zeroBk).pages.getD j zeroPg).data := by
  unfold pageAns at h ⊢
  split at h
  · rename_i h1; exact absurd h h1
  · rename_i h1
    have h1 : blkCode X bi = 0 := by simpa using h1
    obtain ⟨hok, k, rfl, hk⟩ := blkCode_zero h1
    rw [if_neg (by simpa using h1)]
    split at h
    · exact absurd h (by decide)
    · rename_i h2
      rw [if_neg h2]
      split at h
      · exact absurd h (by decide)
      · rename_i h3
        rw [if_neg h3]
        obtain ⟨j, rfl⟩ := Int.eq_ofNat_of_zero_le (show 0 ≤ pi by omega)
        rw [Int.toNat_natCast, Int.toNat_natCast] at h3 ⊢
        exact ⟨k, j, rfl, rfl, hk, by omega, hok, by simpa using h3, rfl⟩
theorem page_of {X : List Bk} {k j : Nat} (hok : NdOk X) (hk : k < X.length) (hj : j < 4) (hu : ((X.getD k zeroBk).pages.getD j zeroPg).used = true) : (pageAns X (k : Int) (j : Int)).data = ((X.getD k zeroBk).pages.getD j zeroPg).data := by
  have hb : blkCode X (k : Int) = 0 := blkCode_ok hok (by omega) (by omega)
  unfold pageAns
  rw [if_neg (by simpa using hb), if_neg (by omega), Int.toNat_natCast, Int.toNat_natCast, if_neg (by rw [hu]; simp)]
/-- programming changes no page that was used -/
theorem prog_keeps {X : List Bk} {bi : Int} {d : ByteArray} (h : (progAns X bi d).code = 0) {i j : Int} (hp : (pageAns X i j).code = 0) : (pageAns (progAns X bi d).nd i j).data = (pageAns X i j).data := by
  obtain ⟨k, rfl, hk, hok, hu, hnd⟩ := prog_parts h
  obtain ⟨a, b, rfl, rfl, ha, hb, -, hus, hda⟩ := page_parts hp
  have hok' := prog_ok h
  rw [hnd] at hok' ⊢
  have hlen := (hok.2 k hk).1
  have hst := uPre_stop (X := (X.getD k zeroBk).pages) (by omega)
  have key : (((X.set k ⟨(X.getD k zeroBk).pages.set (uPre (X.getD k zeroBk).pages) ⟨true, d⟩, (X.getD k zeroBk).erases, (X.getD k zeroBk).bad⟩).getD a zeroBk).pages.getD b zeroPg) = (X.getD a zeroBk).pages.getD b zeroPg := by
    rw [set_getD hk]
    by_cases e : a = k
    · subst e
      rw [if_pos rfl]
      show ((X.getD a zeroBk).pages.set _ _).getD b zeroPg = _
      rw [set_getD (by omega), if_neg]
      intro e; rw [e, hst] at hus; cases hus
    · rw [if_neg e]
  rw [page_of hok' (by simpa using ha) hb (by rw [key]; exact hus), key, hda]
theorem used_of {X : List Bk} {k : Nat} (hok : NdOk X) (hk : k < X.length) : usedAns X (k : Int) = ((uPre (X.getD k zeroBk).pages : Nat) : Int) := by
  unfold usedAns
  rw [if_pos ⟨hok, by omega, by omega⟩, Int.toNat_natCast]
/-- the written page is read back, and one more page is used -/
theorem prog_reads {X : List Bk} {bi : Int} {d : ByteArray} (h : (progAns X bi d).code = 0) : (pageAns (progAns X bi d).nd bi (usedAns X bi)).data = d ∧ usedAns (progAns X bi d).nd bi = usedAns X bi + 1 ∧ 0 ≤ usedAns X bi ∧ usedAns X bi < 4 := by
  obtain ⟨k, rfl, hk, hok, hu, hnd⟩ := prog_parts h
  have hok' := prog_ok h
  rw [hnd] at hok' ⊢
  have hlen := (hok.2 k hk).1
  rw [used_of hok hk, used_of hok' (by simpa using hk)]
  have hset : (X.set k ⟨(X.getD k zeroBk).pages.set (uPre (X.getD k zeroBk).pages) ⟨true, d⟩, (X.getD k zeroBk).erases, (X.getD k zeroBk).bad⟩).getD k zeroBk = ⟨(X.getD k zeroBk).pages.set (uPre (X.getD k zeroBk).pages) ⟨true, d⟩, (X.getD k zeroBk).erases, (X.getD k zeroBk).bad⟩ := by
    rw [set_getD hk, if_pos rfl]
  have hb4 := (hok'.2 k (by simpa using hk)).2.2
  rw [hset] at hb4
  simp only at hb4
  refine ⟨?_, ?_, by omega, by omega⟩
  · rw [page_of hok' (by simpa using hk) hu (by rw [hset]; show (((X.getD k zeroBk).pages.set _ _).getD _ zeroPg).used = true; rw [set_getD (by omega), if_pos rfl]), hset]
    show (((X.getD k zeroBk).pages.set _ _).getD _ zeroPg).data = d
    rw [set_getD (by omega), if_pos rfl]
  · rw [hset]
    show ((uPre ((X.getD k zeroBk).pages.set (uPre (X.getD k zeroBk).pages) ⟨true, d⟩) : Nat) : Int) = _
    have : uPre ((X.getD k zeroBk).pages.set (uPre (X.getD k zeroBk).pages) ⟨true, d⟩) = uPre (X.getD k zeroBk).pages + 1 := by
      apply uPre_of
      · rw [List.length_set]; omega
      · intro i hi
        rw [set_getD (by omega)]
        by_cases e : i = uPre (X.getD k zeroBk).pages
        · rw [if_pos e]
        · rw [if_neg e]; exact uPre_lt (by omega)
      · by_cases e : uPre (X.getD k zeroBk).pages + 1 = 4
        · left; rw [List.length_set]; omega
        · right
          rw [set_getD (by omega), if_neg (by omega)]
          cases hx : ((X.getD k zeroBk).pages.getD (uPre (X.getD k zeroBk).pages + 1) zeroPg).used
          · rfl
          · exfalso
            exact (hok.2 k hk).2.2 (uPre (X.getD k zeroBk).pages + 1) (by omega) (Or.inr (Or.inr ⟨by omega, hx, by rw [Nat.add_sub_cancel]; exact uPre_stop (by omega)⟩))
    rw [this]; omega
end Go.Proofs.Ytdgmpllonnddmaa
