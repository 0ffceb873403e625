/-
  slices.SortFunc at records: the library's contract, laid on this program.
-/
import Derived.Shelf.SlSortCmp.WholeK
import Derived.Shelf.Lay
import Derived.Ground.SlsfProg
import Derived.Test.YtkiklcdkliebaaaGreatDoorChecked
import Derived.Test.YtkiklcdkliebaaaGreatDoorLgCmp
import Derived.Test.YtkiklcdkliebaaaGreatDoorLgFirstI
namespace Go.Proofs.YtkiklcdkliebaaaGreatDoor
open Go.Shelf Go.RowKit Go.Lib Go.Sort
open Bt (Rc)
instance : Inhabited Rc := ⟨Rc.zero⟩
shelf_lay_g SlLaysF0.n6 Slsf 6 at Tryz 98 as sortLay

theorem cmpLays1 (blk off size : Nat) (w : World) : CmpLays Tryz.prog 99 #[] recC 6 (fun x y : Rc => Lib.compareInt x.q y.q) blk off size w :=
  fun _ _ _ _ x y => (firstRecs1_any x y _).mono fun _ _ ⟨he, hw⟩ => by subst hw; exact ⟨he, 0, _, by rw [alloc_eq_grow, alloc_eq_grow, grow_grow]; rfl⟩
theorem ltQ (x y : Rc) : ltOf (fun x y : Rc => Lib.compareInt x.q y.q) x y = decide (x.q < y.q) := by
  unfold ltOf Lib.compareInt
  by_cases h1 : x.q < y.q
  · simp [h1]
  · by_cases h2 : y.q < x.q <;> simp [h1, h2]
theorem swoQ : SWO (ltOf fun x y : Rc => Lib.compareInt x.q y.q) where
  irrefl x := by rw [ltQ]; simp
  trans x y z h1 h2 := by rw [ltQ] at *; simp at *; omega
  ntrans x y z h1 h2 := by rw [ltQ] at *; simp at *; omega
theorem agRec : ∀ w, (isAgg 71).run Tryz.prog w = .ok true w := fun w => by kernel_rfl
theorem szRecT : ∀ w, (Go.sizeOf 71).run Tryz.prog w = .ok 6 w := fun w => by kernel_rfl
theorem recC_cells (x : Rc) : ∀ v ∈ recC x, v.oneCell' = true := by
  intro u hu
  simp only [recC, List.mem_cons, List.not_mem_nil, or_false] at hu
  rcases hu with h | h | h | h | h | h <;> subst h <;> rfl
/-- the sort of a row that lies in a block: the library's own words -/
theorem sort_whole (blk off cap : Nat) (d : Array Rc) (w : World) (hH : HoldsK recC 6 w blk off d) (hblk : blk < w.heap.size) (hsz : d.size < 4611686018427387904) :
    Calls Tryz.prog 98 #[.slice (some ⟨blk, off, none⟩) d.size cap, .func (.func 99) #[] #[]] w fun e w' => e = .returned (.tuple #[]) ∧ ∃ d' n os, PermIn 0 d.size d d' ∧ SortedIn (ltOf fun x y : Rc => Lib.compareInt x.q y.q) 0 d.size d' ∧ w' = sortWorldK recC 6 w blk off n d' os :=
  AnyQ.slices_SortFunc sortLay 6 agRec szRecT recC (fun _ => rfl) recC_cells (fun x y => Lib.compareInt x.q y.q) swoQ 99 #[] blk off cap d w (enters_of Tryz.func99 (by kernel_rfl) rfl) (cmpLays1 blk off d.size w) hH hblk hsz
/-- sorted, in lists' words -/
theorem sorted_list {d d' : Array Rc} (hp : PermIn 0 d.size d d') (hs : SortedIn (ltOf fun x y : Rc => Lib.compareInt x.q y.q) 0 d.size d') : d'.toList.Perm d.toList ∧ d'.toList.Pairwise (fun a b => a.q ≤ b.q) := by
  obtain ⟨h1, -, h3⟩ := hp
  constructor
  · have e1 : d'.extract 0 d.size = d' := by rw [← h1]; simp
    have e2 : d.extract 0 d.size = d := by simp
    rw [e1, e2] at h3
    exact h3
  · rw [List.pairwise_iff_getElem]
    intro i j hi hj hij
    have hi' : i < d'.size := by simpa using hi
    have hj' : j < d'.size := by simpa using hj
    have h := hs i j (Nat.zero_le _) hij (by omega)
    rw [ltQ, getElem!_pos d' j hj', getElem!_pos d' i hi'] at h
    simp at h
    simpa using h
/-- the cells of a row of records, as the library's flat row -/
theorem flat_rcF (Y : List Rc) (j : Nat) (h : j < Y.length * 6) : (flatK recC 6 Y.toArray)[j]! = rcF Y j := by
  rw [get_flatK _ _ _ _ (by simpa using h)]
  have h1 : j / 6 < Y.length := by omega
  have h2 : j % 6 < 6 := Nat.mod_lt _ (by omega)
  unfold rcF
  have e1 : Y.toArray[j / 6]! = Y.getD (j / 6) Rc.zero := by simp [h1, List.getD]
  rw [e1]
  generalize Y.getD (j / 6) Rc.zero = r
  have h3 : j % 6 < (recC r).length := h2
  rw [getElem!_pos (recC r) (j % 6) h3, List.getElem?_eq_getElem h3]
  rfl
theorem sort_main (base g cap : Nat) (Y : List Rc) (W : World) (hY : Y.length ≤ 48) (hrow : W.ownsRow base 71 6 (.slice (some ⟨g, 0, none⟩) Y.length cap) Y.length (rcA Y)) :
    Calls Tryz.prog 98 #[.slice (some ⟨g, 0, none⟩) Y.length cap, .func (.func 99) #[] #[]] W fun e W' => e = .returned (.tuple #[]) ∧
      ∃ Y' : List Rc, Y'.Perm Y ∧ Y'.Pairwise (fun a b => a.q ≤ b.q) ∧ W'.ownsRow base 71 6 (.slice (some ⟨g, 0, none⟩) Y.length cap) Y.length (rcA Y') ∧ W.grownBy W' (Value.slice (some ⟨g, 0, none⟩) Y.length cap).ownBlock := by
  have hR := row_of_ownR hrow (rcA_at Y)
  have hH : HoldsK recC 6 W g 0 Y.toArray := by
    intro j hj
    have hj' : j < Y.length * 6 := by simpa using hj
    rw [Nat.zero_add]
    refine ⟨?_, hR.free j⟩
    rw [hR.cell hj', flat_rcF Y j hj']
    rfl
  have h := sort_whole g 0 cap Y.toArray W hH hR.lt (by simp; omega)
  rw [show Y.toArray.size = Y.length by simp] at h
  refine h.mono ?_
  rintro e w' ⟨rfl, d', n, os, hp, hs, rfl⟩
  obtain ⟨p1, p2⟩ := sorted_list (d := Y.toArray) (by simpa using hp) (by simpa using hs)
  refine ⟨rfl, d'.toList, by simpa using p1, p2, ?_, ?_⟩
  · have hl : d'.toList.length = Y.length := by simpa using p1.length_eq
    rcases hrow.2 with ⟨hv, -⟩ | ⟨g', cap', cur, hv, hb, hh, hn, hcap, hsz, ht⟩
    · cases hv
    · simp only [Value.slice.injEq, Option.some.injEq, Addr.mk.injEq] at hv
      obtain ⟨⟨rfl, -⟩, -, rfl⟩ := hv
      have hgl := lt_of_block hh
      refine ⟨by rw [rcA_len, hl], .inr ⟨g, cap, putCells id 0 (flatK recC 6 d') cur, rfl, hb, ?_, hn, hcap, by simpa [putCells] using hsz, ?_⟩⟩
      · unfold sortWorldK putRowK putRow mapBlock grow Sort.ahead
        simp only
        rw [Array.getElem?_append_left (by simpa using hgl), Array.getElem?_modify, if_pos rfl, hh]
        rfl
      · have hcs : Y.length * 6 ≤ cur.size := by rw [hsz]; exact Nat.mul_le_mul_right _ hn
        refine List.ext_getElem? (fun i => ?_)
        by_cases hi : i < Y.length * 6
        · rw [List.getElem?_take_of_lt hi, rcA_at _ i (by rw [hl]; exact hi)]
          have hi2 : i < cur.size := by omega
          have hds : d'.size = Y.length := by simpa using hl
          have h6 : i < (flatK recC 6 d').size := by rw [size_flatK, hds]; exact hi
          simp only [putCells, Array.getElem?_toList, Array.getElem?_mapIdx, Array.getElem?_eq_getElem hi2, Option.map_some]
          rw [if_pos ⟨Nat.zero_le _, by omega⟩, Nat.sub_zero]
          have := flat_rcF d'.toList i (by rw [hl]; exact hi)
          rw [Array.toArray_toList] at this
          rw [this]
          rfl
        · rw [List.getElem?_eq_none (by simp; omega), List.getElem?_eq_none (by rw [rcA_len, hl]; omega)]
  · have hgl : g < W.heap.size := hR.lt
    refine ⟨rfl, rfl, rfl, ?_, fun k hk hne => ?_⟩
    · unfold sortWorldK putRowK putRow mapBlock grow Sort.ahead
      simp
    · have hkg : g ≠ k := fun e => hne (by rw [e]; rfl)
      unfold sortWorldK putRowK putRow mapBlock grow Sort.ahead
      simp only
      rw [Array.getElem?_append_left (by simpa using hk), Array.getElem?_modify, if_neg hkg]
end Go.Proofs.YtkiklcdkliebaaaGreatDoor
