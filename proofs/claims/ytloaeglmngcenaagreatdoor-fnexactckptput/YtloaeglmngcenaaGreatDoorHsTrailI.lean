/-
  Trail, of the program.
-/
import Derived.Test.YtloaeglmngcenaaGreatDoorProg
import Derived.KernelRfl
import Derived.Test.YtloaeglmngcenaaGreatDoorHsIter
import Derived.Test.YtloaeglmngcenaaGreatDoorHsNum
import Derived.Maps.AppendAt
namespace Go.Proofs.YtloaeglmngcenaaGreatDoor
open Go.RowKit Go.Shelf
open Bt (Rc)
attribute [local go_sem] Oper.semAt_some

theorem info_num : (Tryz.prog.info? 2).map (fun i => (i.zero, i.size, i.bytes)) = some (some (.int .i64 0), 1, 8) := by kernel_rfl
theorem IsBlk.kept {W W' : World} {row : Option Nat} {g : Nat} {e : TypeId} {cs : List Value} (h : IsBlk W g e cs) (hg : W.grownBy W' row) (hr : ∀ r, row = some r → ∃ o : Obj, W.heap[r]? = some o ∧ o.isCells = false) : IsBlk W' g e cs :=
  (hg.block g h.lt (fun e => by obtain ⟨o, ho, hc⟩ := hr g e.symm; unfold IsBlk at h; rw [h] at ho; cases ho; cases hc)).trans h
/-- a collected element, appended to the row whose slice lies in box B, and stored there -/
theorem coll_step {W w1 : World} {n₀ base B bs : Nat} {t e : TypeId} {v v' : Value} {k m : Nat} {xs ys : List Value} {tmp : Obj} (hv : Boxed W B t v) (hrow : W.ownsRow base e 1 v k xs) (hB : B < base) (hbs : bs < base) (hne : bs ≠ B) (hn₀ : n₀ ≤ B) (hbase : base ≤ W.heap.size)
    (hg : (W.alloc tmp).grownBy w1 v.ownBlock) (hown : w1.ownsRow base e 1 v' m ys) :
    Boxed w1 B t v ∧ Boxed (w1.setCell ⟨B, 0, none⟩ v') B t v' ∧ (w1.setCell ⟨B, 0, none⟩ v').ownsRow base e 1 v' m ys ∧ KeepsOthers W (w1.setCell ⟨B, 0, none⟩ v') ∧ KpB n₀ bs W (w1.setCell ⟨B, 0, none⟩ v') ∧ w1.heap.size ≤ (w1.setCell ⟨B, 0, none⟩ v').heap.size := by
  have hrow' := hrow.alloc tmp
  have hlt : ∀ q, v.ownBlock = some q → base ≤ q := fun q hq => (own_block_ltR hrow hq).1
  have hb1 : Below base W w1 := ((Below.refl _ W).alloc hbase tmp).grown hg (by simp; omega) hlt
  have b1 : Boxed w1 B t v := (hb1.block B hB).trans hv
  refine ⟨b1, b1.set v', own_otherR hown hB _, ?_, ⟨(hb1.mono (by omega)).setCell (p := ⟨B, 0, none⟩) hn₀ _, ?_⟩, by simp [World.setCell]⟩
  · refine ((KeepsOthers.alloc W tmp).trans (KeepsOthers.of_grownBy hg fun j o hj ho => ?_)).trans (KeepsOthers.setCell _ _ _)
    rcases hrow'.2 with ⟨rfl, -⟩ | ⟨g, cap, cur, rfl, -, hh, -⟩
    · cases hj
    · have : g = j := by simpa [Value.ownBlock] using hj
      subst this
      rw [hh] at ho; cases ho; rfl
  · rw [Below.heap_setCell _ _ _ _ (by dsimp only; omega)]
    exact hb1.block bs hbs

end Go.Proofs.YtloaeglmngcenaaGreatDoor
