/-
  What the answers of MarkBad, Erase, Program and PageAt have in common: few blocks, of four pages each.
-/
import Derived.Test.YtimlaeicbnnbdaaDoorNdMark
import Derived.Test.YtimlaeicbnnbdaaDoorNdUpd
namespace Go.Proofs.YtimlaeicbnnbdaaDoor
open Go.RowKit

def Few (X : List Bk) : Prop := X.length ≤ 12 ∧ ∀ b ∈ X, b.pages.length = 4
theorem few_nil : Few [] := ⟨by simp, fun b h => by cases h⟩
theorem few_ok {X : List Bk} (h : NdOk X) : Few X := ⟨h.1.2, fun b hb => by
  obtain ⟨i, hi, rfl⟩ := mem_getD hb zeroBk
  exact (h.2 i hi).1⟩
theorem few_set {X : List Bk} (h : Few X) {k : Nat} {b : Bk} (hb : b.pages.length = 4) : Few (X.set k b) := ⟨by simpa using h.1, fun c hc => by
  rcases List.mem_or_eq_of_mem_set hc with h' | h'
  · exact h.2 c h'
  · rw [h']; exact hb⟩
theorem few_of_code {X : List Bk} {bi : Int} (h : ¬ blkCode X bi ≠ 0) : NdOk X ∧ bi.toNat < X.length := by
  obtain ⟨hok, k, rfl, hk⟩ := blkCode_zero (by omega : blkCode X bi = 0)
  exact ⟨hok, hk⟩
theorem markAns_few (X : List Bk) (bi : Int) : Few (markAns X bi).nd := by
  unfold markAns
  split
  · exact few_nil
  · rename_i h
    obtain ⟨hok, hk⟩ := few_of_code h
    exact few_set (few_ok hok) ((few_ok hok).2 (X.getD bi.toNat zeroBk) (getD_lt hk))
theorem eraseAns_few (X : List Bk) (bi : Int) : Few (eraseAns X bi).nd := by
  unfold eraseAns
  split
  · exact few_nil
  · rename_i h
    obtain ⟨hok, hk⟩ := few_of_code h
    split
    · exact few_nil
    · split
      · exact few_nil
      · exact few_set (few_ok hok) rfl
theorem progAns_few (X : List Bk) (bi : Int) (t : ByteArray) : Few (progAns X bi t).nd := by
  unfold progAns
  split
  · exact few_nil
  · split
    · exact few_nil
    · rename_i h
      obtain ⟨hok, hk⟩ := few_of_code h
      split
      · exact few_nil
      · split
        · exact few_nil
        · split
          · exact few_nil
          · exact few_set (few_ok hok) (by rw [List.length_set]; exact (few_ok hok).2 _ (getD_lt hk))
theorem pageAns_few (X : List Bk) (bi pi : Int) : Few (pageAns X bi pi).nd := by
  unfold pageAns
  split
  · exact few_nil
  · rename_i h
    obtain ⟨hok, hk⟩ := few_of_code h
    split
    · exact few_nil
    · split
      · exact few_nil
      · exact few_ok hok
theorem newNd_few (bi : Int) : Few (newNd bi) := by
  unfold newNd
  split
  · rename_i h
    exact ⟨by simp; omega, fun b hb => by rw [List.eq_of_mem_replicate hb]; rfl⟩
  · exact few_nil
theorem sumTo_bound {f : Nat → Nat} {c n : Nat} (h : ∀ i, i < n → f i ≤ c) : sumTo f n ≤ n * c := by
  induction n with
  | zero => simp [sumTo]
  | succ n ih => have := ih fun i hi => h i (by omega); have := h n (by omega); simp only [sumTo]; rw [Nat.succ_mul]; omega
theorem few_kAt {X : List Bk} (h : Few X) : kAt X 1 X.length ≤ 16777216 := by
  have hb := sumTo_bound (f := fun j => 2 * nPg X j + 2) (c := 10) (n := X.length) (fun i hi => by
    have := h.2 _ (getD_lt (z := zeroBk) hi); show 2 * nPg X i + 2 ≤ 10; unfold nPg; omega)
  have := h.1
  unfold kAt; omega
theorem sum_le_sz (X : List Bk) (n : Nat) : sumTo (fun j => 2 * nPg X j + 2) n ≤ 2 * (n + sumTo (fun i => szPgs (X.getD i zeroBk).pages) n) := by
  induction n with
  | zero => simp [sumTo]
  | succ n ih =>
    simp only [sumTo]
    have : nPg X n ≤ szPgs (X.getD n zeroBk).pages := by unfold nPg szPgs; omega
    omega
theorem sz_kAt {X : List Bk} (h : szBks X ≤ 1048576) : kAt X 1 X.length ≤ 16777216 := by
  have := sum_le_sz X X.length
  unfold szBks at h
  unfold kAt; omega
end Go.Proofs.YtimlaeicbnnbdaaDoor
