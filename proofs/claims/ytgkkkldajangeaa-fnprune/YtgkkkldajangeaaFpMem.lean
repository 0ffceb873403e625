/-
  A pruned history in a box of the law's own.
-/
import Derived.Test.YtgkkkldajangeaaFhMem
import Derived.Test.YtgkkkldajangeaaHsKeep2
import Derived.Test.YtgkkkldajangeaaHsPruneC
import Derived.Test.YtgkkkldajangeaaHsNeedS
import Derived.Test.YtgkkkldajangeaaHsFloor
namespace Go.Proofs.Ytgkkkldajangeaa
open Go.RowKit
open Bt (Rc)

theorem pr_sub (X : List Rc) : ∀ k, k ≤ X.length → ∀ r ∈ prTo X k, r ∈ X
  | 0, _, r, h => by simp [prTo] at h
  | k + 1, hk, r, h => by
    cases hkp : kp X k
    · rw [pr_no hkp] at h; exact pr_sub X k (by omega) r h
    · rw [pr_yes hkp] at h
      rcases List.mem_append.1 h with h | h
      · exact pr_sub X k (by omega) r h
      · simp only [List.mem_singleton] at h
        subst h
        rw [List.getD_eq_getElem?_getD, List.getElem?_eq_getElem (by omega : k < X.length)]
        exact List.getElem_mem _
theorem fine_prune {X : List Rc} (h : FineH X) : FineH (pruneOf X) := by
  by_cases hX : hRight X = true
  · rw [pruneOf_yes hX]
    exact ⟨by have := prTo_len X X.length; have := h.len; omega, fun r hr => h.each r (pr_sub X _ (Nat.le_refl _) r hr)⟩
  · rw [pruneOf_no hX]; exact fine_nil
theorem field_hist0 (A : Option Addr) (n c : Nat) (w : World) : (Instr.field 25 (.agg #[.slice A n c]) 0).run Try.prog w = .ok (.slice A n c) w := by
  simp [Instr.field, run_underlying Try.underlying25, part, asAgg, go_sem]
theorem pruned_floor {X : List Rc} (hX : hRight X = true) : floorOf (pruneOf X) = floorOf X := by
  rw [pruneOf_yes hX, floorOf_of hX, floorOf_of (prune_right hX), prune_floor]
theorem pruned_last {X : List Rc} (hX : hRight X = true) : lastOf (pruneOf X) = lastOf X := by
  rw [pruneOf_yes hX]
  unfold lastOf
  rw [if_pos hX, if_pos (prune_right hX), prune_last]
theorem pruned_once {X : List Rc} (hX : hRight X = true) : pruneOf (pruneOf X) = pruneOf X := by
  rw [pruneOf_yes hX, pruneOf_yes (prune_right hX), prune_once hX]
theorem lastOf_t {X : List Rc} (hX : hRight X = true) : 0 ≤ (lastOf X).t ∧ (lastOf X).t ≤ 1000000 := by
  unfold lastOf
  rw [if_pos hX]
  by_cases hl : X.length = 0
  · rw [lastR_nil hl]; exact ⟨by decide, by decide⟩
  · have := (hRight_at hX (k := X.length - 1) (by omega)).1
    exact ⟨this.2.2.2.2.2.2.1, this.2.2.2.2.2.2.2.1⟩
end Go.Proofs.Ytgkkkldajangeaa
