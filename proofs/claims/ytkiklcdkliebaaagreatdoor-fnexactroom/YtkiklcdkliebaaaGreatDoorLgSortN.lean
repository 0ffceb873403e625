/-
  slices.SortFunc at records, of every row that a call owns; firstRecs of the program.
-/
import Derived.Shelf.SlSortCmp.NoneTotal
import Derived.Test.YtkiklcdkliebaaaGreatDoorChecked
import Derived.Test.YtkiklcdkliebaaaGreatDoorLgSort
namespace Go.Proofs.YtkiklcdkliebaaaGreatDoor
open Go.Shelf Go.RowKit Go.Lib Go.Sort
open Bt (Rc)
theorem sortC : SortC := by
  intro base Y v W hY hrow
  rcases hrow.2 with ⟨hv, hn⟩ | ⟨g, cap, cur, hv, -⟩
  · have hY0 : Y = [] := List.length_eq_zero_iff.1 hn
    subst hv hY0
    refine (AnyF.slices_SortFunc_none sortLay none 0 _ W).mono ?_
    rintro e w' ⟨rfl, rfl⟩
    exact ⟨rfl, [], List.Perm.refl _, List.Pairwise.nil, hrow, ⟨rfl, rfl, rfl, Nat.le_refl _, fun _ _ _ => rfl⟩⟩
  · subst hv
    exact sort_main base g cap Y W hY hrow
theorem firstRecs_any (A : Option Addr) (n ca : Nat) (X : List Bk) (w : World) (hok : NdOk X) (hG : ErrType w) (hA : RdBk w w.heap.size A n X) :
    Calls Tryz.prog 64 #[.agg #[.slice A n ca]] w (RetRs w (mnt (recsTo X n))) := firstRecs_of sortC A n ca X w hok hG hA
end Go.Proofs.YtkiklcdkliebaaaGreatDoor
