/-
  DeskWords of the program and of the model.
-/
import Derived.Test.YtdeagcdafcfimaaGreatDoorProg
import Derived.KernelRfl
import Derived.Sort.OwnSorted
import Derived.Laws.EntriesVeiled
import Derived.Test.YtdeagcdafcfimaaGreatDoorBtMem
import Derived.Test.YtdeagcdafcfimaaGreatDoorDkText
import Derived.Test.YtdeagcdafcfimaaGreatDoorDkTable
import Derived.Test.YtdeagcdafcfimaaGreatDoorDkLib
import Derived.Test.YtdeagcdafcfimaaGreatDoorDkStr
import Derived.Test.YtdeagcdafcfimaaGreatDoorSsLaw
import Derived.Test.YtdeagcdafcfimaaGreatDoorNdUse
import Derived.Test.YtdeagcdafcfimaaGreatDoorDkSplit
import Derived.Test.YtdeagcdafcfimaaGreatDoorHsOne
import Derived.Test.YtdeagcdafcfimaaGreatDoorHsNum
import Derived.WalkKit
import Derived.Lib.Hide
namespace Go.Proofs.YtdeagcdafcfimaaGreatDoor
open Go.RowKit

/-- the words in increasing order -/
def dkSorted : List (List UInt8) := [[97, 116], [99, 117, 116], [103, 99], [114, 97, 105, 115, 101], [114, 101, 97, 100], [114, 111, 108, 108], [114, 111, 111, 109], [116, 105, 99, 107], [116, 105, 109, 101, 115], [116, 111, 114, 110], [116, 114, 105, 109], [119, 114, 105, 116, 101]]
theorem dk_sorted : (dkWords.mergeSort fun x y => decide (x ≤ y)) = dkSorted := by
  refine List.Perm.eq_of_pairwise (le := fun a b => decide (a ≤ b) = true) (fun a b _ _ h1 h2 => ?_) (List.pairwise_mergeSort ?_ ?_ _) (by decide) ((List.mergeSort_perm _ _).trans (by decide))
  · exact List.le_antisymm (of_decide_eq_true h1) (of_decide_eq_true h2)
  · intro a b c h1 h2; exact decide_eq_true (List.le_trans (of_decide_eq_true h1) (of_decide_eq_true h2))
  · intro a b; simp; exact List.le_total a b
/-- an answer with the words, in memory of its own -/
def RetWd (w : World) (e : Ending) (w' : World) : Prop :=
  ∃ g ca, e = .returned (.slice (some ⟨g, 0, none⟩) 12 ca) ∧ w.heap.size ≤ g ∧ Row w' g 12 (ssF dkSorted) ∧ Below w.heap.size w w'
theorem wd_rows : ∀ i, i < 12 * 1 → (dkSorted.map strV)[i]? = some (ssF dkSorted i) := by
  intro i hi
  have : i < dkSorted.length := by rw [Nat.mul_one] at hi; exact hi
  simp [ssF, List.getD_eq_getElem?_getD, List.getElem?_eq_getElem this]

set_option maxHeartbeats 1000000 in
theorem spec_deskWords (w : World) : Calls Tryz.prog 12 #[] w (RetWd w) := by
  go_enter Tryz.func12, Tryz.ntmps12
  go_wp2
  go_ret
  refine ⟨w.heap.size, 12, rfl, Nat.le_refl _, ?_, box_below _ _⟩
  refine ⟨_, _, heap_alloc_new w _, by decide, ?_⟩
  intro i hi
  match i, hi with
  | 0, _ => rfl | 1, _ => rfl | 2, _ => rfl | 3, _ => rfl | 4, _ => rfl | 5, _ => rfl | 6, _ => rfl | 7, _ => rfl | 8, _ => rfl | 9, _ => rfl | 10, _ => rfl | 11, _ => rfl

set_option maxHeartbeats 2000000 in
set_option maxRecDepth 100000 in
theorem impl_deskWords (w : World) : Calls Tryz.prog 13 #[] w (RetWd w) := by
  go_enter Tryz.func13, Tryz.ntmps13
  go_wp2_with fail
  refine (deskTable_any _).mono ?_
  rintro e w1 ⟨rfl, rfl⟩
  have HT : Hid (IsBlk (w.alloc (.cells tbl.toArray 72)) w.heap.size 72 tbl) := isBlk_new w _ _
  have HB1 : Hid (Below w.heap.size w (w.alloc (.cells tbl.toArray 72))) := box_below w _
  have hs1 : (w.alloc (.cells tbl.toArray 72)).heap.size = w.heap.size + 1 := size_alloc w _
  generalize w.alloc (.cells tbl.toArray 72) = W at *
  go_wp2_with fail
  go_loopw [1, 6] (fun v i wr => ∃ (k : Nat) (vv : Value), k ≤ 12 ∧ i = .int .i64 (k : Nat) ∧ vv = v ∧ Hid (wr.ownsRow (w.heap.size + 1) 9 1 vv k (((dkWords.take k).map bstr).map Value.string)) ∧ Hid (Below (w.heap.size + 1) W wr)) (fun _ i _ => 12 - (intOf i).toNat)
  case atStart => exact ⟨0, _, by omega, rfl, rfl, World.ownsRow_nil .., Below.refl _ _⟩
  case round =>
    obtain ⟨k, vv, hk, rfl, rfl, HO, HW⟩ := hrel
    have hsz := HW.out.size
    by_cases hlt : k < 12
    · obtain ⟨t0, t1, t2⟩ := tbl_at hlt
      have c0 : wr.cell? ⟨w.heap.size, k * 3, none⟩ = some (strV (dkWord k)) := (HT.out.below HW.out (by omega)).cell t0
      have c1 : wr.cell? ⟨w.heap.size, k * 3 + 1, none⟩ = some (.int .i64 ((dkKind k : Nat) : Int)) := (HT.out.below HW.out (by omega)).cell t1
      have c2 : wr.cell? ⟨w.heap.size, k * 3 + 2, none⟩ = some (dkFn k) := (HT.out.below HW.out (by omega)).cell t2
      have HST : Hid (dkWords.take (k + 1) = dkWords.take k ++ [dkWord k]) := by
        have hl : k < dkWords.length := hlt
        show _ = _
        rw [List.take_succ_eq_append_getElem hl]; unfold dkWord; rw [List.getD_eq_getElem?_getD, List.getElem?_eq_getElem hl, Option.getD_some]
      have hF : dkFn k = .func (.func (dkFnNo k)) #[] #[] := rfl
      rw [hF] at c2 t2
      generalize dkFnNo k = fk at *
      generalize hK : ((dkKind k : Nat) : Int) = kk at *
      generalize hWd : dkWord k = wd at *
      generalize hTk : dkWords.take k = tk at *
      clear t0 t1 t2 hF hK hWd
      have hbx := box_below wr (.cells #[strV wd, .int .i64 kk, .func (.func fk) #[] #[]] 72)
      have kx := isBlk_new wr 72 [strV wd, .int .i64 kk, .func (.func fk) #[] #[]]
      change IsBlk (wr.alloc (.cells #[strV wd, .int .i64 kk, .func (.func fk) #[] #[]] 72)) _ _ _ at kx
      have y0 : (wr.alloc (.cells #[strV wd, .int .i64 kk, .func (.func fk) #[] #[]] 72)).cell? ⟨wr.heap.size, 0, none⟩ = some (strV wd) := kx.cell rfl
      have HBx := Lib.hid (bel_step (bel_step (Below.refl _ _) hbx) (Below.refl _ _))
      have HOx : Hid ((wr.alloc (.cells #[strV wd, .int .i64 kk, .func (.func fk) #[] #[]] 72)).ownsRow (w.heap.size + 1) 9 1 vv k ((tk.map bstr).map Value.string)) := HO.out.alloc _
      have HWx : Hid (Below (w.heap.size + 1) W (wr.alloc (.cells #[strV wd, .int .i64 kk, .func (.func fk) #[] #[]] 72))) := HW.out.alloc (by omega) _
      have hszx : w.heap.size + 1 ≤ (wr.alloc (.cells #[strV wd, .int .i64 kk, .func (.func fk) #[] #[]] 72)).heap.size := by rw [size_alloc]; omega
      clear hbx kx
      go_wp2_with (at_builtin; refine wpList_append_oneG Value.string oneCell_str rfl _ _ 27 9 _ 16 one_string rfl HOx.out HWx.out hszx (g0 := wr.heap.size + 1) (size_alloc _ _).symm rfl rfl (bstr wd) rfl (by omega) (by omega) ?_; intro g2 cap2 w1 ho1 hb1 hk1 hz1; have HB1' := Lib.hid hb1; have HO1 := Lib.hid ho1; clear hb1 ho1 hk1 hz1)
      go_roundw
      case rel => exact ⟨k + 1, _, by omega, by go_num, rfl, by show World.ownsRow _ _ _ _ _ _ _; rw [HST.out]; simpa using HO1.out, HB1'⟩
      case measure => simp [intOf]; omega
    · obtain rfl : k = 12 := by omega
      have hown : wr.ownsRow (w.heap.size + 1) 9 1 vv 12 (dkWords.map Go.Proofs.encStr) := by
        have h := HO.out
        rw [show dkWords.take 12 = dkWords from rfl, List.map_map] at h
        exact h
      rcases hown.2 with ⟨-, h0⟩ | ⟨g, cap, cur, rfl, hbase, hb, h1, h2, h3, h4⟩
      · cases h0
      have hH := Go.holds_of_block (ss := dkWords) hb (by rw [Nat.mul_one] at h4; exact h4)
      have hgl : g < wr.heap.size := lt_of_block hb
      have HS := Lib.hid (dk_sort g 0 cap dkWords wr hH hgl (by decide))
      have HOS : Hid (∀ n os, (Go.Sort.grow (Go.Sort.putRow Go.Proofs.encStr (Go.Sort.ahead wr n) g 0 dkSorted.toArray) os).ownsRow (w.heap.size + 1) 9 1 (.slice (some ⟨g, 0, none⟩) 12 cap) 12 (dkSorted.map Go.Proofs.encStr)) := fun n os =>
        Go.ownsRow_sorted (ss := dkWords) (ts := dkSorted) rfl hbase hb h1 h2 h3
      have HGR : Hid (∀ n os, wr.grownBy (Go.Sort.grow (Go.Sort.putRow Go.Proofs.encStr (Go.Sort.ahead wr n) g 0 dkSorted.toArray) os) (some g)) := fun n os => Go.grownBy_sorted _
      rw [dk_sorted] at HS
      have HBW : Hid (Below w.heap.size w wr) := HB1.out.trans (HW.out.mono (by omega))
      have hwl : w.heap.size ≤ wr.heap.size := by omega
      clear hown hH hb h4
      go_wp2_with fail
      refine HS.out.mono ?_
      rintro e w5 ⟨rfl, n, os, rfl⟩
      have hos := HOS.out n os
      have hgr := HGR.out n os
      have HB5 : Hid (Below w.heap.size w _) := HBW.out.grown hgr hwl (fun k hk => by cases hk; omega)
      generalize Go.Sort.grow (Go.Sort.putRow Go.Proofs.encStr (Go.Sort.ahead wr n) g 0 dkSorted.toArray) os = Z at *
      have hr := row_of_ownR hos wd_rows
      have HR5 := Lib.hid hr
      clear hos hgr hr HOS HGR HS
      go_wp2
      go_ret
      exact ⟨g, cap, rfl, by omega, HR5.out, HB5.out⟩
end Go.Proofs.YtdeagcdafcfimaaGreatDoor
