/-
  slices.SortFunc at records: the library's contract, laid on this program.
  slices.SortFunc at records, of every row that a call owns; firstRecs of the program.
  mounted and Mount, of the program.
  MountWith of the program.
  MountWith of the program, whole.
  MountWith of the document's model.
  MountWith of the document's model, whole.
-/
import Derived.Shelf.SlSortCmp.WholeK
import Derived.Shelf.SlGeneric
import Derived.Ground.SlsfProg
import Derived.Test.YtloaeglmngcenaaGreatDoorProg
import Derived.KernelRfl
import Derived.Test.YtloaeglmngcenaaGreatDoorMpB2
import Derived.Shelf.SlSortCmp.NoneTotal
import Derived.Deep.RegionHeld3
import Derived.Stop.IfaceNil
import Derived.Test.YtloaeglmngcenaaGreatDoorLgErr
import Derived.Test.YtloaeglmngcenaaGreatDoorHsRight
import Derived.Test.YtloaeglmngcenaaGreatDoorMpB1
import Derived.Test.YtloaeglmngcenaaGreatDoorHsLast
import Derived.Test.YtloaeglmngcenaaGreatDoorCkReadI
import Derived.ArgAppend
namespace Go.Proofs.YtloaeglmngcenaaGreatDoor
open Go.Shelf Go.RowKit Go.Lib Go.Sort
open Bt (Rc)
instance : Inhabited Rc := ⟨Rc.zero⟩
def sortLay_ren : Go.Shelf.Ren := ⟨fun | 6 => 215 | 15 => 257 | 14 => 256 | 28 => 285 | 29 => 286 | 20 => 277 | 21 => 278 | 22 => 279 | 23 => 280 | 24 => 281 | 25 => 282 | 26 => 283 | 27 => 284 | 46 => 302 | 47 => 303 | 48 => 304 | 49 => 305 | 50 => 306 | 57 => 316 | n => n, fun | 22 => 27 | 24 => 34 | 25 => 254 | 3 => 3 | 39 => 197 | 0 => 0 | 53 => 264 | 55 => 191 | 4 => 4 | 46 => 323 | 45 => 322 | 50 => 314 | 5 => 5 | 9 => 9 | 66 => 347 | 70 => 351 | 76 => 362 | 77 => 363 | n => n, fun | n => n⟩
theorem sortLay : Go.Proofs.SlLaysF0.n6 Tryz.prog sortLay_ren := {
  mixed := by kernel_rfl
  f6 := ⟨Tryz.f215.name, by decide, Tryz.func215.trans (congrArg some (by kernel_rfl))⟩
  f14 := ⟨Tryz.f256.name, by decide, Tryz.func256.trans (congrArg some (by kernel_rfl))⟩
  f15 := Tryz.func257.trans (congrArg some (by kernel_rfl))
  f20 := ⟨Tryz.f277.name, by decide, Tryz.func277.trans (congrArg some (by kernel_rfl))⟩
  f21 := ⟨Tryz.f278.name, by decide, Tryz.func278.trans (congrArg some (by kernel_rfl))⟩
  f22 := ⟨Tryz.f279.name, by decide, Tryz.func279.trans (congrArg some (by kernel_rfl))⟩
  f23 := ⟨Tryz.f280.name, by decide, Tryz.func280.trans (congrArg some (by kernel_rfl))⟩
  f24 := ⟨Tryz.f281.name, by decide, Tryz.func281.trans (congrArg some (by kernel_rfl))⟩
  f25 := ⟨Tryz.f282.name, by decide, Tryz.func282.trans (congrArg some (by kernel_rfl))⟩
  f26 := ⟨Tryz.f283.name, by decide, Tryz.func283.trans (congrArg some (by kernel_rfl))⟩
  f27 := ⟨Tryz.f284.name, by decide, Tryz.func284.trans (congrArg some (by kernel_rfl))⟩
  f28 := Tryz.func285.trans (congrArg some (by kernel_rfl))
  f29 := Tryz.func286.trans (congrArg some (by kernel_rfl))
  f46 := ⟨Tryz.f302.name, by decide, Tryz.func302.trans (congrArg some (by kernel_rfl))⟩
  f47 := Tryz.func303.trans (congrArg some (by kernel_rfl))
  f48 := Tryz.func304.trans (congrArg some (by kernel_rfl))
  f49 := ⟨Tryz.f305.name, by decide, Tryz.func305.trans (congrArg some (by kernel_rfl))⟩
  f50 := ⟨Tryz.f306.name, by decide, Tryz.func306.trans (congrArg some (by kernel_rfl))⟩
  f57 := ⟨Tryz.f316.name, by decide, Tryz.func316.trans (congrArg some (by kernel_rfl))⟩
  t0 := Tryz.underlying0
  a0 := Tryz.isAgg0
  z0 := Tryz.sizeOf0
  v0 := Tryz.zeroValue0
  t3 := Tryz.underlying3
  a3 := Tryz.isAgg3
  z3 := Tryz.sizeOf3
  v3 := Tryz.zeroValue3
  t4 := Tryz.underlying4
  a4 := Tryz.isAgg4
  z4 := Tryz.sizeOf4
  v4 := Tryz.zeroValue4
  t5 := Tryz.underlying5
  a5 := Tryz.isAgg5
  z5 := Tryz.sizeOf5
  v5 := Tryz.zeroValue5
  t9 := Tryz.underlying9
  a9 := Tryz.isAgg9
  z9 := Tryz.sizeOf9
  v9 := Tryz.zeroValue9
  t22 := Tryz.underlying27
  a22 := Tryz.isAgg27
  z22 := Tryz.sizeOf27
  v22 := Tryz.zeroValue27
  t25 := Tryz.underlying254
  a25 := Tryz.isAgg254
  z25 := Tryz.sizeOf254
  v25 := Tryz.zeroValue254
  t39 := Tryz.underlying197
  a39 := Tryz.isAgg197
  z39 := Tryz.sizeOf197
  v39 := Tryz.zeroValue197
  t45 := Tryz.underlying322
  a45 := Tryz.isAgg322
  z45 := Tryz.sizeOf322
  v45 := Tryz.zeroValue322
  t46 := Tryz.underlying323
  a46 := Tryz.isAgg323
  z46 := Tryz.sizeOf323
  v46 := Tryz.zeroValue323
  t50 := Tryz.underlying314
  a50 := Tryz.isAgg314
  z50 := Tryz.sizeOf314
  v50 := Tryz.zeroValue314
  t53 := Tryz.underlying264
  a53 := Tryz.isAgg264
  z53 := Tryz.sizeOf264
  v53 := Tryz.zeroValue264
  t55 := Tryz.underlying191
  a55 := Tryz.isAgg191
  z55 := Tryz.sizeOf191
  v55 := Tryz.zeroValue191
  t66 := Tryz.underlying347
  a66 := Tryz.isAgg347
  z66 := Tryz.sizeOf347
  v66 := Tryz.zeroValue347
  t70 := Tryz.underlying351
  a70 := Tryz.isAgg351
  z70 := Tryz.sizeOf351
  v70 := Tryz.zeroValue351
  t76 := Tryz.underlying362
  a76 := Tryz.isAgg362
  z76 := Tryz.sizeOf362
  v76 := Tryz.zeroValue362
  t77 := Tryz.underlying363
  a77 := Tryz.isAgg363
  z77 := Tryz.sizeOf363
  v77 := Tryz.zeroValue363 }

theorem cmpLays1 (blk off size : Nat) (w : World) : CmpLays Tryz.prog 216 #[] recC 6 (fun x y : Rc => Lib.compareInt x.q y.q) blk off size w :=
  fun _ _ _ _ x y => (firstRecs1_any x y _).mono fun _ _ ⟨he, hw⟩ => by subst hw; exact ⟨he, 0, _, by rw [alloc_eq_grow, alloc_eq_grow, grow_grow]; rfl⟩
theorem ltQ (x y : Rc) : ltOf (fun x y : Rc => Lib.compareInt x.q y.q) x y = decide (x.q < y.q) := by
  unfold ltOf Lib.compareInt
  by_cases h1 : x.q < y.q
  · simp [h1]
  · by_cases h2 : y.q < x.q <;> simp [h1, h2]
theorem swoQ : SWO (ltOf fun x y : Rc => Lib.compareInt x.q y.q) where
  irrefl x := by rw [ltQ]; simp
  trans x y z h1 h2 := by rw [ltQ] at *; simp at *; omega
  ntrans x y z h1 h2 := by rw [ltQ] at *; simp at *; omega
theorem agRec : ∀ w, (isAgg 34).run Tryz.prog w = .ok true w := fun w => by kernel_rfl
theorem szRecT : ∀ w, (Go.sizeOf 34).run Tryz.prog w = .ok 6 w := fun w => by kernel_rfl
theorem recC_cells (x : Rc) : ∀ v ∈ recC x, v.oneCell' = true := by
  intro u hu
  simp only [recC, List.mem_cons, List.not_mem_nil, or_false] at hu
  rcases hu with h | h | h | h | h | h <;> subst h <;> rfl
/-- the sort of a row that lies in a block: the library's own words -/
theorem sort_whole (blk off cap : Nat) (d : Array Rc) (w : World) (hH : HoldsK recC 6 w blk off d) (hblk : blk < w.heap.size) (hsz : d.size < 4611686018427387904) :
    Calls Tryz.prog 215 #[.slice (some ⟨blk, off, none⟩) d.size cap, .func (.func 216) #[] #[]] w fun e w' => e = .returned (.tuple #[]) ∧ ∃ d' n os, PermIn 0 d.size d d' ∧ SortedIn (ltOf fun x y : Rc => Lib.compareInt x.q y.q) 0 d.size d' ∧ w' = sortWorldK recC 6 w blk off n d' os :=
  AnyQ.slices_SortFunc sortLay 6 agRec szRecT recC (fun _ => rfl) recC_cells (fun x y => Lib.compareInt x.q y.q) swoQ 216 #[] blk off cap d w (enters_of Tryz.func216 (by kernel_rfl) rfl) (cmpLays1 blk off d.size w) hH hblk hsz
/-- sorted, in lists' words -/
theorem sorted_list {d d' : Array Rc} (hp : PermIn 0 d.size d d') (hs : SortedIn (ltOf fun x y : Rc => Lib.compareInt x.q y.q) 0 d.size d') : d'.toList.Perm d.toList ∧ d'.toList.Pairwise (fun a b => a.q ≤ b.q) := by
  obtain ⟨h1, -, h3⟩ := hp
  constructor
  · have e1 : d'.extract 0 d.size = d' := by rw [← h1]; simp
    have e2 : d.extract 0 d.size = d := by simp
    rw [e1, e2] at h3
    exact h3
  · rw [List.pairwise_iff_getElem]
    intro i j hi hj hij
    have hi' : i < d'.size := by simpa using hi
    have hj' : j < d'.size := by simpa using hj
    have h := hs i j (Nat.zero_le _) hij (by omega)
    rw [ltQ, getElem!_pos d' j hj', getElem!_pos d' i hi'] at h
    simp at h
    simpa using h
/-- the cells of a row of records, as the library's flat row -/
theorem flat_rcF (Y : List Rc) (j : Nat) (h : j < Y.length * 6) : (flatK recC 6 Y.toArray)[j]! = rcF Y j := by
  rw [get_flatK _ _ _ _ (by simpa using h)]
  have h1 : j / 6 < Y.length := by omega
  have h2 : j % 6 < 6 := Nat.mod_lt _ (by omega)
  unfold rcF
  have e1 : Y.toArray[j / 6]! = Y.getD (j / 6) Rc.zero := by simp [h1, List.getD]
  rw [e1]
  generalize Y.getD (j / 6) Rc.zero = r
  have h3 : j % 6 < (recC r).length := h2
  rw [getElem!_pos (recC r) (j % 6) h3, List.getElem?_eq_getElem h3]
  rfl
theorem sort_main (base g cap : Nat) (Y : List Rc) (W : World) (hY : Y.length ≤ 48) (hrow : W.ownsRow base 34 6 (.slice (some ⟨g, 0, none⟩) Y.length cap) Y.length (rcA Y)) :
    Calls Tryz.prog 215 #[.slice (some ⟨g, 0, none⟩) Y.length cap, .func (.func 216) #[] #[]] W fun e W' => e = .returned (.tuple #[]) ∧
      ∃ Y' : List Rc, Y'.Perm Y ∧ Y'.Pairwise (fun a b => a.q ≤ b.q) ∧ W'.ownsRow base 34 6 (.slice (some ⟨g, 0, none⟩) Y.length cap) Y.length (rcA Y') ∧ W.grownBy W' (Value.slice (some ⟨g, 0, none⟩) Y.length cap).ownBlock := by
  have hR := row_of_ownR hrow (rcA_at Y)
  have hH : HoldsK recC 6 W g 0 Y.toArray := by
    intro j hj
    have hj' : j < Y.length * 6 := by simpa using hj
    rw [Nat.zero_add]
    refine ⟨?_, hR.free j⟩
    rw [hR.cell hj', flat_rcF Y j hj']
    rfl
  have h := sort_whole g 0 cap Y.toArray W hH hR.lt (by simp; omega)
  rw [show Y.toArray.size = Y.length by simp] at h
  refine h.mono ?_
  rintro e w' ⟨rfl, d', n, os, hp, hs, rfl⟩
  obtain ⟨p1, p2⟩ := sorted_list (d := Y.toArray) (by simpa using hp) (by simpa using hs)
  refine ⟨rfl, d'.toList, by simpa using p1, p2, ?_, ?_⟩
  · have hl : d'.toList.length = Y.length := by simpa using p1.length_eq
    rcases hrow.2 with ⟨hv, -⟩ | ⟨g', cap', cur, hv, hb, hh, hn, hcap, hsz, ht⟩
    · cases hv
    · simp only [Value.slice.injEq, Option.some.injEq, Addr.mk.injEq] at hv
      obtain ⟨⟨rfl, -⟩, -, rfl⟩ := hv
      have hgl := lt_of_block hh
      refine ⟨by rw [rcA_len, hl], .inr ⟨g, cap, putCells id 0 (flatK recC 6 d') cur, rfl, hb, ?_, hn, hcap, by simpa [putCells] using hsz, ?_⟩⟩
      · unfold sortWorldK putRowK putRow mapBlock grow Sort.ahead
        simp only
        rw [Array.getElem?_append_left (by simpa using hgl), Array.getElem?_modify, if_pos rfl, hh]
        rfl
      · have hcs : Y.length * 6 ≤ cur.size := by rw [hsz]; exact Nat.mul_le_mul_right _ hn
        refine List.ext_getElem? (fun i => ?_)
        by_cases hi : i < Y.length * 6
        · rw [List.getElem?_take_of_lt hi, rcA_at _ i (by rw [hl]; exact hi)]
          have hi2 : i < cur.size := by omega
          have hds : d'.size = Y.length := by simpa using hl
          have h6 : i < (flatK recC 6 d').size := by rw [size_flatK, hds]; exact hi
          simp only [putCells, Array.getElem?_toList, Array.getElem?_mapIdx, Array.getElem?_eq_getElem hi2, Option.map_some]
          rw [if_pos ⟨Nat.zero_le _, by omega⟩, Nat.sub_zero]
          have := flat_rcF d'.toList i (by rw [hl]; exact hi)
          rw [Array.toArray_toList] at this
          rw [this]
          rfl
        · rw [List.getElem?_eq_none (by simp; omega), List.getElem?_eq_none (by rw [rcA_len, hl]; omega)]
  · have hgl : g < W.heap.size := hR.lt
    refine ⟨rfl, rfl, rfl, ?_, fun k hk hne => ?_⟩
    · unfold sortWorldK putRowK putRow mapBlock grow Sort.ahead
      simp
    · have hkg : g ≠ k := fun e => hne (by rw [e]; rfl)
      unfold sortWorldK putRowK putRow mapBlock grow Sort.ahead
      simp only
      rw [Array.getElem?_append_left (by simpa using hk), Array.getElem?_modify, if_neg hkg]
end Go.Proofs.YtloaeglmngcenaaGreatDoor

namespace Go.Proofs.YtloaeglmngcenaaGreatDoor
open Go.Shelf Go.RowKit Go.Lib Go.Sort
open Bt (Rc)
theorem sortC : SortC := by
  intro base Y v W hY hrow
  rcases hrow.2 with ⟨hv, hn⟩ | ⟨g, cap, cur, hv, -⟩
  · have hY0 : Y = [] := List.length_eq_zero_iff.1 hn
    subst hv hY0
    refine (AnyF.slices_SortFunc_none sortLay none 0 _ W).mono ?_
    rintro e w' ⟨rfl, rfl⟩
    exact ⟨rfl, [], List.Perm.refl _, List.Pairwise.nil, hrow, ⟨rfl, rfl, rfl, Nat.le_refl _, fun _ _ _ => rfl⟩⟩
  · subst hv
    exact sort_main base g cap Y W hY hrow
theorem firstRecs_any (A : Option Addr) (n ca : Nat) (X : List Bk) (w : World) (hok : NdOk X) (hG : ErrType w) (hA : RdBk w w.heap.size A n X) :
    Calls Tryz.prog 147 #[.agg #[.slice A n ca]] w (RetRs w (mnt (recsTo X n))) := firstRecs_of sortC A n ca X w hok hG hA
end Go.Proofs.YtloaeglmngcenaaGreatDoor

namespace Go.Proofs.YtloaeglmngcenaaGreatDoor
open Go.RowKit
open Bt (Rc)

/-- the failure beside a mount's code -/
def errOf (a0 a2 : Addr) (c : Int) : Value := if c = 0 then .nilIface else if c = 1 then .iface 383 (.pointer (some a0)) else .iface 383 (.pointer (some a2))
/-- what mounted answers -/
def RetMt (w : World) (Y : List Rc) (E : Value) (e : Ending) (w' : World) : Prop :=
  ∃ (A : Option Addr) (ca : Nat), e = .returned (.tuple #[.agg #[.slice A Y.length ca], E]) ∧ Y.length ≤ ca ∧ OwRc w' w.heap.size w'.heap.size A Y.length Y ∧ Below w.heap.size w w'

set_option maxHeartbeats 2000000 in
set_option maxRecDepth 100000 in
theorem mounted_any (A : Option Addr) (n ca : Nat) (X : List Bk) (a0 a2 : Addr) (w : World) (hG : ErrType w) (hS : Two w a0 a2) (hX : Small X) (hA : RdBk w w.heap.size A n X) :
    Calls Tryz.prog 71 #[.agg #[.slice A n ca]] w (RetMt w (mntList X) (errOf a0 a2 (mntCode X))) := by
  have HL := Lib.hid hA.1
  have HA := Lib.hid hA; have HX := Lib.hid hX; have HS := Lib.hid hS; have HG := Lib.hid hG; clear hA hX hS hG
  go_enter Tryz.func71, Tryz.ntmps71
  go_wp2_with fail
  have hb0 : Below w.heap.size w ((w.alloc (.cells #[.slice A n ca] 25)).alloc (.cells #[.slice none 0 0] 29)) := ((Below.refl _ _).alloc (Nat.le_refl _) _).alloc (by simp) _
  have k0 := (isBlk_new w 25 [.slice A n ca]).alloc (.cells #[.slice none 0 0] 29)
  have k1 := isBlk_new (w.alloc (.cells #[.slice A n ca] 25)) 29 [.slice none 0 0]
  change IsBlk ((w.alloc (.cells #[.slice A n ca] 25)).alloc (.cells #[.slice none 0 0] 29)) _ _ _ at k0 k1
  rw [size_alloc] at k1
  generalize (w.alloc (.cells #[.slice A n ca] 25)).alloc (.cells #[.slice none 0 0] 29) = W at hb0 k0 k1 ⊢
  refine (impl_nandRight A n ca X W HX.out (rd_step HA.out hb0)).mono ?_
  rintro e w2 ⟨rfl, hb2⟩
  have HK2 := Lib.hid (k0.below hb2 k0.lt); have HR2 := Lib.hid (k1.below hb2 k1.lt)
  have hb2' := bel_step hb0 hb2
  have HB2 := Lib.hid hb2'
  have h2s : w.heap.size + 1 < w2.heap.size := HR2.out.lt
  clear hb0 k0 k1 hb2 hb2'
  by_cases hok : NdOk X
  case neg =>
    have HC := Lib.hid (mnt_no hok)
    have g0 := (HS.out.below HB2.out).v0
    have x0 : w2.cell? ⟨w.heap.size + 1, 0, none⟩ = some (.slice none 0 0) := HR2.out.cell rfl
    have fx0 : w2.frozen? ⟨w.heap.size + 1, 0, none⟩ = false := HR2.out.free
    have HNE : Hid (∀ v : Value, v = .slice none 0 0 → Below w.heap.size w (w2.setCell ⟨w.heap.size + 1, 0, none⟩ v)) := fun v _ => HB2.out.setCell (by dsimp only; omega) _
    rw [ndB_no hok]
    go_wp2
    go_region
    all_goals
      go_wp2
      refine bodyPost_ret (v := .tuple #[.agg #[.slice none 0 0], .iface 383 (.pointer (some a0))]) (by simp [results, Tryz.results71, go_sem, x0]) rfl ?_
      rw [HC.out.1, HC.out.2]
      exact ⟨none, 0, rfl, Nat.le_refl _, ow_nilR _ _ _ _, by first | exact (HNE.out _ rfl).drew | exact (HNE.out _ rfl) | exact HB2.out.drew.setCell (by dsimp only; omega) _⟩
  rw [ndB_yes hok]
  have HOK := Lib.hid hok
  have HSM := Lib.hid (mnt_smallR hok)
  have y0 : w2.cell? ⟨w.heap.size, 0, none⟩ = some (.slice A n ca) := HK2.out.cell rfl
  go_wp2_with fail
  refine (firstRecs_any A n ca X w2 hok (HG.out.below HB2.out) (rd_step HA.out HB2.out)).mono ?_
  rintro e w3 ⟨Ar, cr, rfl, hcr, ho3, hb3⟩
  rw [← HL.out] at hcr ho3 ⊢
  have HN1 := Lib.hid (fun h => mnt_bad (X := X) hok h); have HN2 := Lib.hid (fun h => mnt_ok (X := X) hok h)
  clear hok
  generalize hY : mnt (recsTo X X.length) = Y at *
  clear hY
  have HCR := Lib.hid hcr
  have HB3 := Lib.hid (bel_step HB2.out hb3)
  have HR3 := Lib.hid (HR2.out.below hb3 HR2.out.lt)
  have HO3 := Lib.hid ho3
  have h23 := hb3.size
  clear hcr hb3 ho3 y0
  go_wp2_with fail
  have k4 := isBlk_new w3 29 [.slice Ar Y.length cr]
  have hb4 := box_below w3 (.cells #[.slice Ar Y.length cr] 29)
  have hs4 := size_alloc w3 (.cells #[.slice Ar Y.length cr] 29)
  change Calls _ _ _ (w3.alloc (.cells #[.slice Ar Y.length cr] 29)) _
  generalize w3.alloc (.cells #[.slice Ar Y.length cr] 29) = w4 at k4 hb4 hs4 ⊢
  refine (impl_histRight_any Ar Y.length cr Y w4 HSM.out ((HO3.out.below hb4 (Nat.le_refl _)).rd hb4.size)).mono ?_
  rintro e w5 ⟨rfl, hb5⟩
  have hb35 := bel_step hb4 hb5
  have HK5 := Lib.hid (k4.below hb5 k4.lt)
  have HB5 := Lib.hid (bel_step HB3.out hb35)
  have HR5 := Lib.hid (HR3.out.below hb35 HR3.out.lt)
  have HO5 := Lib.hid (HO3.out.below hb35 (Nat.le_refl _))
  have h35 := hb35.size
  have x0 : w5.cell? ⟨w.heap.size + 1, 0, none⟩ = some (.slice none 0 0) := HR5.out.cell rfl
  have fx0 : w5.frozen? ⟨w.heap.size + 1, 0, none⟩ = false := HR5.out.free
  clear k4 hb4 hs4 hb5 hb35
  cases hr : hRight Y with
  | false =>
    have HC := Lib.hid (HN1.out hr)
    have g2 := (HS.out.below HB5.out).v2
    have hw1 : 1 < w.heap.size := by have := World.block_lt_of_cell? _ _ HS.out.v2; simpa using this
    have g2' : (w5.setCell ⟨w.heap.size + 1, 0, none⟩ (.slice none 0 0)).cell? ⟨1, 0, none⟩ = some (.iface 383 (.pointer (some a2))) := (World.cell?_setCell_other _ _ _ _ (by first | (simp; done) | (simp; omega))).trans g2
    have HNE : Hid (∀ v : Value, v = .slice none 0 0 → Below w.heap.size w (w5.setCell ⟨w.heap.size + 1, 0, none⟩ v)) := fun v _ => HB5.out.setCell (by dsimp only; omega) _
    go_wp2
    go_region
    all_goals
      go_wp2
      refine bodyPost_ret (v := .tuple #[.agg #[.slice none 0 0], .iface 383 (.pointer (some a2))]) (by simp [results, Tryz.results71, go_sem, x0]) rfl ?_
      rw [HC.out.1, HC.out.2]
      exact ⟨none, 0, rfl, Nat.le_refl _, ow_nilR _ _ _ _, by first | exact (HNE.out _ rfl).drew | exact (HNE.out _ rfl) | exact HB5.out.drew.setCell (by dsimp only; omega) _⟩
  | true =>
    have HC := Lib.hid (HN2.out hr)
    have z0 : w5.cell? ⟨w3.heap.size, 0, none⟩ = some (.slice Ar Y.length cr) := HK5.out.cell rfl
    go_wp2
    refine bodyPost_ret (v := .tuple #[.agg #[.slice Ar Y.length cr], .nilIface]) (by simp [results, Tryz.results71, go_sem, x0]) rfl ?_
    rw [HC.out.1, HC.out.2]
    refine ⟨Ar, cr, rfl, HCR.out, ((HO5.out.same fun k h1 h2 => Below.heap_setCell _ _ _ _ (by dsimp only; omega)).mono (by have := HB2.out.size; omega) (by simp [World.setCell]; omega)), HB5.out.setCell (by dsimp only; omega) _⟩

/-- an answer with records, stored in its box -/
theorem ho_ends {w u : World} {lo hi b2 : Nat} {A : Option Addr} {c : Nat} {Y : List Rc} {C : Int} (hO : OwRc u lo hi A Y.length Y) (hlo : b2 < lo) (hwl : w.heap.size ≤ lo) (hhi : hi ≤ u.heap.size) (hB : Below w.heap.size w u) (h1 : w.heap.size ≤ b2) (x y : Value) :
    RetHO w Y C (.returned (.agg #[.slice A Y.length c, .int .i64 C])) ((u.setCell ⟨b2, 0, none⟩ x).setCell ⟨b2, 1, none⟩ y).drew := by
  refine ⟨A, c, rfl, ?_, ((hB.setCell (p := ⟨b2, 0, none⟩) h1 _).setCell (p := ⟨b2, 1, none⟩) h1 _).drew⟩
  have h2 : u.heap.size ≤ ((u.setCell ⟨b2, 0, none⟩ x).setCell ⟨b2, 1, none⟩ y).drew.heap.size := by simp [World.setCell, World.drew]
  exact (hO.same fun k hk _ => (Below.heap_setCell _ _ _ _ (by dsimp only; omega)).trans (Below.heap_setCell _ _ _ _ (by dsimp only; omega))).mono hwl (Nat.le_trans hhi h2)
/-- what mounted and failureCode answer together -/
theorem mount_fails (a0 a1 a2 : Addr) (X : List Bk) (W : World) (hS : Sents W a0 a1 a2) : Calls Tryz.prog 72 #[errOf a0 a2 (mntCode X)] W fun e w' => e = .returned (.int .i64 (mntCode X)) ∧ W = w' := by
  rcases mnt_codes X with h | h | h <;> rw [h]
  · exact failure_nil a0 a1 a2 W hS
  · exact failure_inv a0 a1 a2 W hS
  · exact failure_hist a0 a1 a2 W hS

set_option maxHeartbeats 2000000 in
set_option maxRecDepth 100000 in
theorem impl_mount (A : Option Addr) (n ca : Nat) (X : List Bk) (a0 a1 a2 : Addr) (w : World) (hG : ErrType w) (hS : Sents w a0 a1 a2) (hX : Small X) (hA : RdBk w w.heap.size A n X) :
    Calls Tryz.prog 9 #[.agg #[.slice A n ca]] w (RetHO w (mntList X) (mntCode X)) := by
  have HA := Lib.hid hA; have HX := Lib.hid hX; have HS := Lib.hid hS; have HG := Lib.hid hG; clear hA hX hS hG
  go_enter Tryz.func9, Tryz.ntmps9
  go_wp2_with fail
  have hb0 : Below w.heap.size w ((w.alloc (.cells #[.slice A n ca] 25)).alloc (.cells #[.slice none 0 0, .int .i64 0] 31)) := ((Below.refl _ _).alloc (Nat.le_refl _) _).alloc (by simp) _
  have k1 := isBlk_new (w.alloc (.cells #[.slice A n ca] 25)) 31 [.slice none 0 0, .int .i64 0]
  change IsBlk ((w.alloc (.cells #[.slice A n ca] 25)).alloc (.cells #[.slice none 0 0, .int .i64 0] 31)) _ _ _ at k1
  rw [size_alloc] at k1
  generalize (w.alloc (.cells #[.slice A n ca] 25)).alloc (.cells #[.slice none 0 0, .int .i64 0] 31) = W at hb0 k1 ⊢
  refine (mounted_any A n ca X a0 a2 W (HG.out.below hb0) (HS.out.two.below hb0) HX.out (rd_step HA.out hb0)).mono ?_
  rintro e w2 ⟨Ar, cr, rfl, -, ho2, hb2⟩
  have HFC : Hid (∀ U : World, Below w.heap.size w U → Calls Tryz.prog 72 #[errOf a0 a2 (mntCode X)] U fun e w' => e = .returned (.int .i64 (mntCode X)) ∧ U = w') := fun U h => mount_fails a0 a1 a2 X U (HS.out.below h)
  generalize mntList X = Y at *
  generalize mntCode X = C at *
  generalize errOf a0 a2 C = E at *
  have HR2 := Lib.hid (k1.below hb2 k1.lt)
  have HB2 := Lib.hid (bel_step hb0 hb2)
  have hW : w.heap.size ≤ W.heap.size := hb0.size
  have hW1 : w.heap.size + 1 < W.heap.size := k1.lt
  have HO2 := Lib.hid ho2
  have h2 := hb2.size
  clear hb0 k1 hb2 ho2
  obtain ⟨yl, hyl⟩ : ∃ yl, yl = Y.length := ⟨_, rfl⟩
  have HYL := Lib.hid hyl
  rw [← hyl]
  have k3 := isBlk_new w2 29 [.slice Ar yl cr]
  have hb3 := box_below w2 (.cells #[.slice Ar yl cr] 29)
  have hs3 := size_alloc w2 (.cells #[.slice Ar yl cr] 29)
  clear hyl
  go_wp2
  change IsBlk (w2.alloc (.cells #[.slice Ar yl cr] 29)) _ _ _ at k3
  generalize w2.alloc (.cells #[.slice Ar yl cr] 29) = w3 at k3 hb3 hs3 ⊢
  have HB3 := Lib.hid (bel_step HB2.out hb3)
  have HB3d : Hid (Below w.heap.size w w3.drew) := HB3.out.drew
  have HO3 := Lib.hid (HO2.out.below hb3 (Nat.le_refl _))
  have x0 : w3.cell? ⟨w2.heap.size, 0, none⟩ = some (.slice Ar yl cr) := k3.cell rfl
  obtain ⟨d0, d1, fd0, fd1⟩ := blk2 (HR2.out.below hb3 HR2.out.lt)
  have hne : ¬ w.heap.size + 1 = w2.heap.size := by omega
  have hne' : ¬ w2.heap.size = w.heap.size + 1 := by omega
  have hlt3 : w2.heap.size < w3.heap.size := by omega
  clear k3 hb3 hs3
  go_region_held3 (fun w' => w'.cell? ⟨w2.heap.size, 0, none⟩ = some (.slice Ar yl cr))
    (first | exact x0 | go_keep)
    ((go_at_call 72
      refine (HFC.out _ HB3d.out).mono ?_
      rintro e wF ⟨rfl, rfl⟩))
  all_goals
    go_wp2
    refine bodyPost_ret (v := .agg #[.slice Ar yl cr, .int .i64 C]) (by simp [results, Tryz.results9, go_sem, d0, d1]) rfl ?_
    rw [HYL.out]
    exact ho_ends HO3.out (by omega) hW (by omega) HB3.out (by omega) _ _
theorem errOf_0 (a0 a2 : Addr) : errOf a0 a2 0 = .nilIface := rfl
theorem errOf_1 (a0 a2 : Addr) : errOf a0 a2 1 = .iface 383 (.pointer (some a0)) := rfl
theorem errOf_10 (a0 a2 : Addr) : errOf a0 a2 10 = .iface 383 (.pointer (some a2)) := rfl
theorem error_iface : Tryz.prog.isIface 109 = true := by kernel_rfl
theorem ho_code (A : Option Addr) (n c : Nat) (z : Int) (w : World) : (Instr.field 31 (.agg #[.slice A n c, .int .i64 z]) 1).run Tryz.prog w = .ok (.int .i64 z) w := by
  simp [Instr.field, run_underlying Tryz.underlying31, part, asAgg, go_sem]
end Go.Proofs.YtloaeglmngcenaaGreatDoor

namespace Go.Proofs.YtloaeglmngcenaaGreatDoor
open Go.RowKit
open Bt (Rc)

theorem clip_any (A : Option Addr) (n d : Nat) (w : World) (hn : n ≤ 96) :
    Calls Tryz.prog 205 #[.slice A n (n + d)] w fun e w' => e = .returned (.slice A n n) ∧ Below w.heap.size w w' := by
  have h1 : (n : Int) ≤ ((n + d : Nat) : Int) := by omega
  have h0 : (0 : Int) ≤ (n : Int) := by omega
  have h2 : n ≤ n + d := by omega
  go_enter Tryz.func205, Tryz.ntmps205
  go_wp2
  go_ret
  exact ⟨rfl, Below.refl _ _⟩

/-- a row that still is H's, clipped, or the call's own -/
def CwRow (w : World) (base : Nat) (A : Option Addr) (n : Nat) (H Z : List Rc) (v : Value) : Prop :=
  (Z = H ∧ v = .slice A n n) ∨ w.ownsRow base 34 6 v Z.length (rcA Z)
theorem CwRow.sl {w : World} {base n : Nat} {A : Option Addr} {H Z : List Rc} {v : Value} (h : CwRow w base A n H Z v) (hn : H.length = n) : ∃ A' c', v = .slice A' Z.length c' := by
  rcases h with ⟨rfl, rfl⟩ | h
  · exact ⟨A, n, by rw [hn]⟩
  · exact own_slK h
theorem CwRow.below {w w' : World} {base n : Nat} {A : Option Addr} {H Z : List Rc} {v : Value} (h : CwRow w base A n H Z v) (hb : Below w.heap.size w w') : CwRow w' base A n H Z v :=
  h.imp id fun h => own_belowR h hb
theorem CwRow.ow {w : World} {base n lo cv : Nat} {A Av : Option Addr} {H Z : List Rc} (h : CwRow w base A n H Z (.slice Av Z.length cv)) (hO : OwRc w lo w.heap.size A n H) (hlo : lo ≤ base) : OwRc w lo w.heap.size Av Z.length Z := by
  rcases h with ⟨rfl, hv⟩ | h
  · simp only [Value.slice.injEq] at hv
    obtain ⟨rfl, h2, -⟩ := hv
    rw [h2]; exact hO
  · exact (ow_of_own h).mono hlo (Nat.le_refl _)
/-- 's = append(s, x)' of one record, s such a row -/
theorem wpList_append_cw {w0 wr : World} {ops : Array Oper} {rest : List Oper} {o : Oper} {a : Act} {Q : Exit → Act → World → Prop} (hgd : o.guard = none) (s x : Operand)
    (ho : o.op = .call { callee := .builtin .append, args := #[s, x], argTypes := #[27, 27] })
    {i0 : TypeInfo} (hi : Tryz.prog.info? 34 = some i0) (hz : i0.zero = some (recV Rc.zero)) (hsize : i0.size = 6) (hby : i0.bytes = 56)
    {base n : Nat} {A : Option Addr} {H Z : List Rc} {v : Value} (hrow : CwRow wr base A n H Z v) (hO : RdRc wr base A n H) (hbel : Below base w0 wr) (hbase : base ≤ wr.heap.size)
    {g0 : Nat} (hg0 : g0 = wr.heap.size) (hs : a.eval s = v) (hx : a.eval x = .slice (some ⟨g0, 0, none⟩) 1 1) (r : Rc) {ar : Array Value} (har : ar = (recC r).toArray) (hZ : Z.length ≤ 96) (hnil : A = none → n = 0)
    (h : ∀ v' w', w'.ownsRow base 34 6 v' (Z ++ [r]).length (rcA (Z ++ [r])) → Below base w0 w' → wpList Tryz.prog ops Q rest (a.put o.dst v') w') :
    wpList Tryz.prog ops Q (o :: rest) a (wr.alloc (.cells ar 34)) := by
  have hl : (Z ++ [r]).length = Z.length + 1 := by simp
  rw [hl] at h
  rcases hrow with ⟨hZH, hv⟩ | hown
  · subst har hg0 hZH hv
    obtain ⟨hn, hO⟩ := hO
    subst hn
    refine wpList_append_grows _ hgd s x _ ho 34 i0 (recV Rc.zero) 6 56 Tryz.underlying27 hi hz hsize hby rfl (by omega) A Z.length Z.length (rcA Z) hs (fun e => ⟨hnil e, hnil e⟩) (rcA_len Z) ?_ ⟨wr.heap.size, 0, none⟩ 1 1 (recC r) hx rfl ?_ (recC_one r) (by omega) (by unfold maxLen; omega) (by omega) ?_
    · intro b hb j u hj
      have hj2 : j < Z.length * 6 := by rw [← rcA_len]; exact (List.getElem?_eq_some_iff.1 hj).1
      obtain ⟨g, off, hA, hg, hc⟩ := hO (by omega)
      obtain rfl : b = ⟨g, off, none⟩ := Option.some.inj (hb.symm.trans hA)
      rw [rcA_at Z j hj2] at hj
      rw [add_off, (box_below wr _).cell (p := ⟨g, off + j, none⟩) (by dsimp only; omega), hc j hj2]
      exact hj
    · intro j u hj
      rw [add_plain]
      exact (isBlk_new wr 34 (recC r)).cell hj
    · intro v' w' ho' hg
      rw [← rcA_snoc] at ho'
      exact h v' w' (own_monoR ho' (by simp; omega)) ((hbel.alloc hbase _).grown hg (by simp; omega) fun k hk => by cases hk)
  · refine wpList_append_rec hgd s x _ _ i0 _ 6 56 Tryz.underlying27 hi hz hsize hby rfl (by omega) ho hown hbel hbase hg0 hs hx (recC r) har rfl (recC_one r) (by omega) (by omega) ?_
    intro v' w' ho' hb'
    exact h v' w' (by rw [rcA_snoc]; exact ho') hb'

set_option maxHeartbeats 4000000 in
set_option maxRecDepth 100000 in
/-- a history with the later records of a valid chip: in memory of the call's own, or where the history's lie -/
theorem continued_any (Ah : Option Addr) (nh d lo : Nat) (H : List Rc) (A : Option Addr) (n ca : Nat) (X : List Bk) (w : World) (hG : ErrType w) (hok : NdOk X) (hH : hRight H = true) (hlo : lo ≤ w.heap.size) (hO : OwRc w lo w.heap.size Ah nh H) (hA : RdBk w w.heap.size A n X) :
    Calls Tryz.prog 141 #[.agg #[.slice Ah nh (nh + d)], .agg #[.slice A n ca]] w fun e w' => ∃ (A' : Option Addr) (c' : Nat), e = .returned (.agg #[.slice A' (cwOf H X).length c']) ∧ OwRc w' lo w'.heap.size A' (cwOf H X).length (cwOf H X) ∧ Below w.heap.size w w' := by
  have hnh : H.length = nh := hO.1
  have hHl := hRight_len hH
  have hXn : n = X.length := hA.1.symm
  have HSM : Hid (SmallR H) := ⟨by omega, fun r hr => by
    obtain ⟨i, hi, rfl⟩ := mem_getD hr Rc.zero
    have := (hRight_at hH hi).1.2.2.2.2.2.2.2.2.2.2.1
    omega⟩
  have hnil : Ah = none → nh = 0 := fun e => by
    rcases Nat.eq_zero_or_pos nh with h0 | h0
    · exact h0
    · obtain ⟨g, hA', -⟩ := hO.2 h0; rw [e] at hA'; cases hA'
  have HLQ : Hid ((lastOf H).q = (lastR H).q) := by show _ = _; unfold lastOf; rw [if_pos hH]
  have HCW : Hid (∀ Y : List Rc, Y = mnt (recsTo X n) → H ++ laterOf (lastR H).q Y = cwOf H X) := fun Y hY => by rw [hY, hXn]; rfl
  have hYl : (mnt (recsTo X n)).length ≤ 48 := by rw [hXn]; exact (mnt_upto hok X.length (Nat.le_refl _)).1
  have HG := Lib.hid hG; have HOK := Lib.hid hok; have HO := Lib.hid hO; have HA := Lib.hid hA; have HN := Lib.hid hnil; have HXN := Lib.hid hXn; have HNH := Lib.hid hnh
  have hn48 : nh ≤ 48 := by omega
  clear hG hok hO hA hH hnil hXn hnh
  generalize (lastR H).q = q at HLQ HCW
  obtain ⟨i0, hi0, hiv⟩ := Option.map_eq_some_iff.1 info_recP
  have Hi := Lib.hid hi0; have Z0 := Lib.hid (congrArg (·.1) hiv); have Z1 := Lib.hid (congrArg (·.2.1) hiv); have Z2 := Lib.hid (congrArg (·.2.2) hiv)
  clear hi0 hiv
  go_enter Tryz.func141, Tryz.ntmps141
  go_wp2_with fail
  have hb0 : Below w.heap.size w (((w.alloc (.cells #[.slice Ah nh (nh + d)] 29)).alloc (.cells #[.slice A n ca] 25)).alloc (.cells #[.slice none 0 0] 29)) := (((Below.refl _ _).alloc (Nat.le_refl _) _).alloc (by simp) _).alloc (by simp; omega) _
  have k0 := ((isBlk_new w 29 [.slice Ah nh (nh + d)]).alloc (.cells #[.slice A n ca] 25)).alloc (.cells #[.slice none 0 0] 29)
  have k1 := (isBlk_new (w.alloc (.cells #[.slice Ah nh (nh + d)] 29)) 25 [.slice A n ca]).alloc (.cells #[.slice none 0 0] 29)
  have k2 := isBlk_new ((w.alloc (.cells #[.slice Ah nh (nh + d)] 29)).alloc (.cells #[.slice A n ca] 25)) 29 [.slice none 0 0]
  simp only [size_alloc] at k1 k2
  change IsBlk (((w.alloc (.cells #[.slice Ah nh (nh + d)] 29)).alloc (.cells #[.slice A n ca] 25)).alloc (.cells #[.slice none 0 0] 29)) _ _ _ at k0 k1 k2
  generalize ((w.alloc (.cells #[.slice Ah nh (nh + d)] 29)).alloc (.cells #[.slice A n ca] 25)).alloc (.cells #[.slice none 0 0] 29) = W at hb0 k0 k1 k2 ⊢
  refine (clip_any Ah nh d W (by omega)).mono ?_
  rintro e u1 ⟨rfl, hb1⟩
  have hb1' := bel_thru hb0 hb1
  have K0 := Lib.hid (k0.below hb1 k0.lt); have K1 := Lib.hid (k1.below hb1 k1.lt); have K2 := Lib.hid (k2.below hb1 k2.lt)
  have HB1 := Lib.hid hb1'
  have hz1 : w.heap.size + 2 < u1.heap.size := K2.out.lt
  clear hb0 hb1 k0 k1 k2 hb1'
  have h0 : u1.cell? ⟨w.heap.size, 0, none⟩ = some (.slice Ah nh (nh + d)) := K0.out.cell rfl
  have hl0 : w.heap.size < u1.heap.size := K0.out.lt
  have k3 := isBlk_new u1 29 [.slice Ah nh nh]
  have hb3 := box_below u1 (.cells #[.slice Ah nh nh] 29)
  have hz3 := size_alloc u1 (.cells #[.slice Ah nh nh] 29)
  change IsBlk (u1.alloc (.cells #[.slice Ah nh nh] 29)) _ _ _ at k3
  go_wp2_with fail
  change Calls _ _ _ (u1.alloc (.cells #[.slice Ah nh nh] 29)) _
  generalize u1.alloc (.cells #[.slice Ah nh nh] 29) = u2 at k3 hb3 hz3 ⊢
  clear h0 hl0
  have hb2 := bel_thru HB1.out hb3
  refine (impl_lastSeq_any Ah nh (nh + d) H u2 HSM.out ((HO.out.rd (Nat.le_refl _)).next hb2)).mono ?_
  rintro e u3 ⟨rfl, hb4⟩
  have HB3 := Lib.hid (bel_thru hb2 hb4)
  have K03 := Lib.hid ((K0.out.below hb3 K0.out.lt).below hb4 (Nat.lt_of_lt_of_le K0.out.lt hb3.size)); have K13 := Lib.hid ((K1.out.below hb3 K1.out.lt).below hb4 (Nat.lt_of_lt_of_le K1.out.lt hb3.size)); have K23 := Lib.hid ((K2.out.below hb3 K2.out.lt).below hb4 (Nat.lt_of_lt_of_le K2.out.lt hb3.size))
  have KB3 := Lib.hid (k3.below hb4 k3.lt)
  have hzB : u1.heap.size < u3.heap.size := KB3.out.lt
  clear hb2 hb3 hb4 hz3 k3 K0 K1 K2 HB1
  rw [HLQ.out]
  have h1 : u3.cell? ⟨w.heap.size + 1, 0, none⟩ = some (.slice A n ca) := K13.out.cell rfl
  go_wp2_with fail
  refine (firstRecs_any A n ca X u3 HOK.out (HG.out.below HB3.out) (rd_step HA.out HB3.out)).mono ?_
  rintro e u4 ⟨Ar, cr, rfl, hcr, ho4, hb5⟩
  generalize hY : mnt (recsTo X n) = Y at *
  have HCY : Hid (H ++ laterOf q Y = cwOf H X) := HCW.out Y rfl
  have HCR := Lib.hid hcr; have HO4 := Lib.hid ho4
  have HB4 := Lib.hid (bel_thru HB3.out hb5)
  have K24 := Lib.hid (K23.out.below hb5 K23.out.lt); have KB4 := Lib.hid (KB3.out.below hb5 KB3.out.lt)
  have hz5 := hb5.size
  clear hb5 hcr ho4 hY h1 K03 K13 K23 KB3 HCW HLQ
  generalize u1.heap.size = B at *
  go_wp2
  go_loopw [18] (fun iv wr => ∃ (k : Nat) (v : Value), k ≤ Y.length ∧ iv = .int .i64 (k : Nat) ∧ IsBlk wr B 29 [v] ∧ Hid (CwRow wr u4.heap.size Ah nh H (H ++ laterOf q (Y.take k)) v) ∧ Hid (Below B u4 wr) ∧ Hid (OwRc wr u3.heap.size u4.heap.size Ar Y.length Y) ∧ u4.heap.size ≤ wr.heap.size) (fun iv _ => Y.length - (intOf iv).toNat)
  case atStart => exact ⟨0, _, by omega, rfl, KB4.out, Lib.hid (.inl ⟨by simp [laterOf], rfl⟩), Lib.hid (Below.refl _ _), HO4, Nat.le_refl _⟩
  case round =>
    obtain ⟨k, v, hk, rfl, hbox, HROW, HBW, HOY, hzr⟩ := hrel
    have HBX := Lib.hid hbox
    clear hbox
    by_cases hlt : k < Y.length
    · have hkn : (k : Int) < (Y.length : Int) := by omega
      have hk0 : (0 : Int) ≤ (k : Int) := by omega
      have hkc : k < cr := by have := HCR.out; omega
      obtain ⟨g, off, rfl, hg, hc0, hc1, hc2, hc3, hc4, hc5⟩ := (HOY.out.rd (Nat.le_refl _)).at hlt
      have HTY : Hid (q < (Y.getD k Rc.zero).q → H ++ laterOf q (Y.take (k + 1)) = (H ++ laterOf q (Y.take k)) ++ [Y.getD k Rc.zero]) := fun h => by rw [laterOf_yes hlt h, List.append_assoc]
      have HTN : Hid (¬ q < (Y.getD k Rc.zero).q → H ++ laterOf q (Y.take (k + 1)) = H ++ laterOf q (Y.take k)) := fun h => by rw [laterOf_no hlt h]
      have HZL : Hid ((H ++ laterOf q (Y.take k)).length ≤ 96) := by
        show _ ≤ _
        have := laterOf_len q (Y.take k)
        rw [List.length_take] at this
        rw [List.length_append]; omega
      generalize Y.getD k Rc.zero = p at *
      generalize H ++ laterOf q (Y.take k) = Z at *
      obtain ⟨Av, cv, rfl⟩ := HROW.out.sl HNH.out
      have hbx : wr.cell? ⟨B, 0, none⟩ = some (.slice Av Z.length cv) := HBX.out.cell rfl
      have hlB : B < wr.heap.size := by omega
      by_cases hq : q < p.q
      · have hq' : p.q > q := hq
        have HT := Lib.hid (HTY.out hq)
        have HR4 : Hid (CwRow (wr.alloc (.cells (recC p).toArray 34)) u4.heap.size Ah nh H Z (.slice Av Z.length cv)) := HROW.out.below (box_below _ _)
        have HRD4 : Hid (RdRc (wr.alloc (.cells (recC p).toArray 34)) u4.heap.size Ah nh H) := (((HO.out.rd (Nat.le_refl _)).below (HB4.out.trans (HBW.out.mono (by omega)))).mono (by omega)).below ((box_below _ _).mono (by omega))
        have HBR : Hid (Below u4.heap.size wr (wr.alloc (.cells (recC p).toArray 34))) := (box_below _ _).mono (by omega)
        have hz4 : u4.heap.size ≤ (wr.alloc (.cells (recC p).toArray 34)).heap.size := by rw [size_alloc]; omega
        have hZ96 : Z.length ≤ 96 := HZL.out
        clear HTY HTN
        go_wp2_with (at_builtin; refine wpList_append_cw (wr := wr.alloc (.cells (recC p).toArray 34)) rfl _ _ rfl Hi.out Z0.out Z1.out Z2.out HR4.out HRD4.out HBR.out hz4 (by first | rfl | simp) rfl rfl p rfl hZ96 HN.out ?_; intro v5 w5 ho5 hb5; have HO5 := Lib.hid ho5; have HB5 := Lib.hid hb5; obtain ⟨A5, c5, rfl⟩ := own_slK ho5; have KB5 := Lib.hid (HBX.out.below hb5 (by omega)); have hx5 : w5.cell? ⟨B, 0, none⟩ = some (.slice Av Z.length cv) := (by first | exact KB5.out.cell rfl); have fx5 : w5.frozen? ⟨B, 0, none⟩ = false := KB5.out.free; have hz5' := hb5.size; clear ho5 hb5)
        go_roundw
        case rel =>
          refine ⟨k + 1, .slice A5 (Z.length + 1) c5, by omega, by go_num, KB5.out.set (j := 0) _, Lib.hid ?_, Lib.hid ((HBW.out.trans (HB5.out.mono (by omega))).setCell (by dsimp only; omega) _), Lib.hid ((HOY.out.below HB5.out (Nat.le_refl _)).otherK (by dsimp only; omega) _), by simp [World.setCell]; omega⟩
          rw [HT.out]
          refine .inr (own_otherR ?_ (by dsimp only; omega) _)
          have h := HO5.out
          rw [List.length_append] at h ⊢
          exact h
        case measure => simp [intOf]; omega
      · have hq' : ¬ p.q > q := hq
        have HT := Lib.hid (HTN.out hq)
        have hbb := box_below wr (.cells (recC p).toArray 34)
        have HBB := Lib.hid hbb
        have hzb := size_alloc wr (.cells (recC p).toArray 34)
        clear HTY HTN hbb
        go_wp2
        go_roundw
        case rel =>
          refine ⟨k + 1, .slice Av Z.length cv, by omega, by go_num, HBX.out.below HBB.out hlB, Lib.hid ?_, Lib.hid (HBW.out.trans (HBB.out.mono (by omega))), Lib.hid (HOY.out.below HBB.out (by omega)), by have := HBB.out.size; exact Nat.le_trans hzr this⟩
          rw [HT.out]
          exact HROW.out.below HBB.out
        case measure => simp [intOf]; omega
    · obtain rfl : k = Y.length := by omega
      rw [List.take_length, HCY.out] at HROW
      obtain ⟨Z, hZ⟩ : ∃ Z, Z = cwOf H X := ⟨_, rfl⟩
      have HZE := Lib.hid hZ
      rw [← hZ] at HROW
      clear hZ HCY
      obtain ⟨Av, cv, rfl⟩ := HROW.out.sl HNH.out
      have hbx : wr.cell? ⟨B, 0, none⟩ = some (.slice Av Z.length cv) := HBX.out.cell rfl
      have HBww : Hid (Below w.heap.size w wr) := HB4.out.trans (HBW.out.mono (by omega))
      have k2 := K24.out.below HBW.out (by omega)
      have d0 : wr.cell? ⟨w.heap.size + 1 + 1, 0, none⟩ = some (.slice none 0 0) := k2.cell rfl
      have fd0 : wr.frozen? ⟨w.heap.size + 1 + 1, 0, none⟩ = false := k2.free
      clear k2
      go_wp2
      refine bodyPost_ret (v := .agg #[.slice Av Z.length cv]) (by simp [results, Tryz.results141, go_sem, d0]) rfl ?_
      rw [← HZE.out]
      have hw4 := HB4.out.size
      have h1 : CwRow (wr.setCell ⟨w.heap.size + 1 + 1, 0, none⟩ (.slice Av Z.length cv)) u4.heap.size Ah nh H Z (.slice Av Z.length cv) := HROW.out.imp id fun h => own_otherR h (by dsimp only; omega) _
      have h2 : OwRc (wr.setCell ⟨w.heap.size + 1 + 1, 0, none⟩ (.slice Av Z.length cv)) lo (wr.setCell ⟨w.heap.size + 1 + 1, 0, none⟩ (.slice Av Z.length cv)).heap.size Ah nh H :=
        ((HO.out.below HBww.out (Nat.le_refl _)).same fun k _ hk => Below.heap_setCell _ _ _ _ (by dsimp only; omega)).mono (Nat.le_refl _) (by simp only [World.setCell]; simpa using HBww.out.size)
      exact ⟨Av, cv, rfl, h1.ow h2 (by omega), HBww.out.setCell (by dsimp only; omega) _⟩
end Go.Proofs.YtloaeglmngcenaaGreatDoor

namespace Go.Proofs.YtloaeglmngcenaaGreatDoor
open Go.RowKit
open Bt (Rc)

/-- an answer with records, stored in its box -/
theorem ho_endN {w u : World} {lo b2 c : Nat} {A : Option Addr} {Y Z : List Rc} {C D : Int} (hZ : Z = Y) (hD : D = C) (hO : OwRc u lo u.heap.size A Y.length Y) (hlo : b2 < lo) (hwl : w.heap.size ≤ b2) (hB : Below w.heap.size w u) (x y : Value) :
    RetHO w Z D (.returned (.agg #[.slice A Y.length c, .int .i64 C])) ((u.setCell ⟨b2, 0, none⟩ x).setCell ⟨b2, 1, none⟩ y) := by
  subst hZ hD
  refine ⟨A, c, rfl, ?_, (hB.setCell (p := ⟨b2, 0, none⟩) hwl _).setCell (p := ⟨b2, 1, none⟩) hwl _⟩
  exact (hO.same fun k hk _ => (Below.heap_setCell _ _ _ _ (by dsimp only; omega)).trans (Below.heap_setCell _ _ _ _ (by dsimp only; omega))).mono (by omega) (by simp [World.setCell])
theorem ho_nilN {w u : World} {b2 : Nat} {Z : List Rc} {C D : Int} (hZ : Z = []) (hD : D = C) (hwl : w.heap.size ≤ b2) (hB : Below w.heap.size w u) (x y : Value) :
    RetHO w Z D (.returned (.agg #[.slice none 0 0, .int .i64 C])) ((u.setCell ⟨b2, 0, none⟩ x).setCell ⟨b2, 1, none⟩ y) := by
  subst hZ hD
  exact ⟨none, 0, rfl, ow_nilR _ _ _ _, (hB.setCell (p := ⟨b2, 0, none⟩) hwl _).setCell (p := ⟨b2, 1, none⟩) hwl _⟩

set_option maxHeartbeats 4000000 in
set_option maxRecDepth 100000 in
theorem impl_mountWith (A : Option Addr) (n ca : Nat) (X : List Bk) (a b : ByteArray) (a0 a1 a2 : Addr) (w : World) (ha : a.size ≤ maxLen) (hb : b.size ≤ maxLen) (hG : ErrType w) (hS : Sents w a0 a1 a2) (hX : Small X) (hA : RdBk w w.heap.size A n X) :
    Calls Tryz.prog 63 #[.agg #[.slice A n ca], slotsV a b] w (RetHO w (mwList X a b) (mwCode X a b)) := by
  have HA := Lib.hid hA; have HX := Lib.hid hX; have HS := Lib.hid hS; have HG := Lib.hid hG; clear hA hX hS hG
  go_enter Tryz.func63, Tryz.ntmps63
  go_wp2_with fail
  have hb0 : Below w.heap.size w (((w.alloc (.cells #[.slice A n ca] 25)).alloc (.cells #[.string a, .string b] 88)).alloc (.cells #[.slice none 0 0, .int .i64 0] 31)) := (((Below.refl _ _).alloc (Nat.le_refl _) _).alloc (by simp) _).alloc (by simp; omega) _
  have k0 := ((isBlk_new w 25 [.slice A n ca]).alloc (.cells #[.string a, .string b] 88)).alloc (.cells #[.slice none 0 0, .int .i64 0] 31)
  have k1 := (isBlk_new (w.alloc (.cells #[.slice A n ca] 25)) 88 [.string a, .string b]).alloc (.cells #[.slice none 0 0, .int .i64 0] 31)
  have k2 := isBlk_new ((w.alloc (.cells #[.slice A n ca] 25)).alloc (.cells #[.string a, .string b] 88)) 31 [.slice none 0 0, .int .i64 0]
  simp only [size_alloc] at k1 k2
  change IsBlk (((w.alloc (.cells #[.slice A n ca] 25)).alloc (.cells #[.string a, .string b] 88)).alloc (.cells #[.slice none 0 0, .int .i64 0] 31)) _ _ _ at k0 k1 k2
  generalize ((w.alloc (.cells #[.slice A n ca] 25)).alloc (.cells #[.string a, .string b] 88)).alloc (.cells #[.slice none 0 0, .int .i64 0] 31) = W at hb0 k0 k1 k2 ⊢
  refine (impl_nandRight A n ca X W HX.out (rd_step HA.out hb0)).mono ?_
  rintro e w2 ⟨rfl, hb2⟩
  have HB2 := Lib.hid (bel_step hb0 hb2)
  have K0 := Lib.hid (k0.below hb2 k0.lt); have K1 := Lib.hid (k1.below hb2 k1.lt); have K2 := Lib.hid (k2.below hb2 k2.lt)
  clear hb0 hb2 k0 k1 k2
  by_cases hok : NdOk X
  case neg =>
    rw [ndB_no hok]
    have HC := Lib.hid (mw_noNand (a := a) (b := b) hok)
    obtain ⟨d0, d1, fd0, fd1⟩ := blk2 K2.out
    go_wp2
    refine bodyPost_ret (v := .agg #[.slice none 0 0, .int .i64 1]) (by simp [results, Tryz.results63, go_sem, d0, d1]) rfl ?_
    exact ho_nilN HC.out.2 HC.out.1 (by omega) HB2.out _ _
  rw [ndB_yes hok]
  have HOK := Lib.hid hok
  clear hok
  obtain ⟨c0, c1, -, -⟩ := blk2 K1.out
  go_wp2_with fail
  refine (impl_slotsRight a b w2 ha hb).mono ?_
  rintro e w3 ⟨rfl, hb3⟩
  have HB3 := Lib.hid (bel_step HB2.out hb3)
  have K03 := Lib.hid (K0.out.below hb3 K0.out.lt); have K13 := Lib.hid (K1.out.below hb3 K1.out.lt); have K23 := Lib.hid (K2.out.below hb3 K2.out.lt)
  clear hb3 c0 c1 K0 K1 K2
  cases hs : slotB a b with
  | false =>
    have HC := Lib.hid (mw_noSlots (X := X) hs)
    obtain ⟨d0, d1, fd0, fd1⟩ := blk2 K23.out
    go_wp2
    refine bodyPost_ret (v := .agg #[.slice none 0 0, .int .i64 1]) (by simp [results, Tryz.results63, go_sem, d0, d1]) rfl ?_
    exact ho_nilN HC.out.2 HC.out.1 (by omega) HB3.out _ _
  | true =>
  have HN := Lib.hid (fun h => mw_noCk (X := X) (a := a) (b := b) HOK.out hs h)
  have HBD := Lib.hid (fun h => mw_bad (X := X) (a := a) (b := b) HOK.out hs h)
  have HY := Lib.hid (fun h1 h2 => mw_ck (X := X) (a := a) (b := b) HOK.out hs h1 h2)
  have HR := Lib.hid (fun h => cb_right (a := a) (b := b) hs h)
  obtain ⟨c0, c1, -, -⟩ := blk2 K13.out
  have HFIN : Hid (∀ (u : World) (Am : Option Addr) (cm lo : Nat) (x y : Value), OwRc u lo u.heap.size Am (mntList X).length (mntList X) → w.heap.size + 1 + 1 < lo → Below w.heap.size w u → mwCode X a b = mntCode X ∧ mwList X a b = mntList X →
      RetHO w (mwList X a b) (mwCode X a b) (.returned (.agg #[.slice Am (mntList X).length cm, .int .i64 (mntCode X)])) ((u.setCell ⟨w.heap.size + 1 + 1, 0, none⟩ x).setCell ⟨w.heap.size + 1 + 1, 1, none⟩ y)) := fun u Am cm lo x y ho hl hB hh => ho_endN hh.2 hh.1 ho hl (by omega) hB x y
  have HMT : Hid (∀ u : World, Below w.heap.size w u → Calls Tryz.prog 9 #[.agg #[.slice A n ca]] u (RetHO u (mntList X) (mntCode X))) := fun u hB => impl_mount A n ca X a0 a1 a2 u (HG.out.below hB) (HS.out.below hB) HX.out (rd_step HA.out hB)
  go_wp2_with fail
  refine (impl_ckptBestC a b w3 ha hb (HG.out.below HB3.out)).mono ?_
  rintro e w4 ⟨Ab, d, rfl, ho4, hb4⟩
  have HB4 := Lib.hid (bel_step HB3.out hb4)
  have K04 := Lib.hid (K03.out.below hb4 K03.out.lt); have K24 := Lib.hid (K23.out.below hb4 K23.out.lt)
  have hz3 : w.heap.size + 1 + 1 < w3.heap.size := K23.out.lt
  have hz4 := hb4.size
  have HO4 := Lib.hid ho4
  clear hb4 ho4 c0 c1 K03 K13 K23
  generalize cbNum a b = Q at *
  generalize hLL : cbList a b = L at *
  generalize hCC : cbCode a b = C at *
  have k5 := isBlk_new w4 175 [.int .i64 Q, .slice Ab L.length (L.length + d), .int .i64 C]
  have hb5 := box_below w4 (.cells #[.int .i64 Q, .slice Ab L.length (L.length + d), .int .i64 C] 175)
  change IsBlk (w4.alloc (.cells #[.int .i64 Q, .slice Ab L.length (L.length + d), .int .i64 C] 175)) _ _ _ at k5
  have hz5 := size_alloc w4 (.cells #[.int .i64 Q, .slice Ab L.length (L.length + d), .int .i64 C] 175)
  have p0 : (w4.alloc (.cells #[.int .i64 Q, .slice Ab L.length (L.length + d), .int .i64 C] 175)).cell? ⟨w4.heap.size, 0, none⟩ = some (.int .i64 Q) := k5.cell rfl
  have p1 : (w4.alloc (.cells #[.int .i64 Q, .slice Ab L.length (L.length + d), .int .i64 C] 175)).cell? ⟨w4.heap.size, 1, none⟩ = some (.slice Ab L.length (L.length + d)) := k5.cell rfl
  have p2 : (w4.alloc (.cells #[.int .i64 Q, .slice Ab L.length (L.length + d), .int .i64 C] 175)).cell? ⟨w4.heap.size, 2, none⟩ = some (.int .i64 C) := k5.cell rfl
  have q0 : (w4.alloc (.cells #[.int .i64 Q, .slice Ab L.length (L.length + d), .int .i64 C] 175)).cell? ⟨w.heap.size, 0, none⟩ = some (.slice A n ca) := (K04.out.below hb5 K04.out.lt).cell rfl
  have HB5 := Lib.hid (bel_step HB4.out hb5)
  have K25 := Lib.hid (K24.out.below hb5 K24.out.lt); have K05 := Lib.hid (K04.out.below hb5 K04.out.lt)
  have HO5 := Lib.hid (HO4.out.below hb5 (Nat.le_refl _))
  clear hb5 k5 K04 K24 HO4
  by_cases hc : C = 0
  case neg =>
    have hcb : (C == 0) = false := by simpa using hc
    have HC := Lib.hid (HN.out hc)
    clear HN HBD HY HR hc
    go_wp2_with fail
    generalize w4.alloc (.cells #[.int .i64 Q, .slice Ab L.length (L.length + d), .int .i64 C] 175) = w5 at *
    refine (HMT.out w5 HB5.out).mono ?_
    rintro e w6 ⟨Am, cm, rfl, hom, hbm⟩
    have HBM := Lib.hid (bel_step HB5.out hbm)
    have HOM := Lib.hid hom
    obtain ⟨d0, d1, fd0, fd1⟩ := blk2 (K25.out.below hbm K25.out.lt)
    clear hom hbm p0 p1 p2 q0
    go_wp2
    refine bodyPost_ret (v := .agg #[.slice Am (mntList X).length cm, .int .i64 (mntCode X)]) (by simp [results, Tryz.results63, go_sem, d0, d1]) rfl ?_
    exact HFIN.out _ _ _ _ _ _ HOM.out (by omega) HBM.out HC.out
  subst hc
  have HRL := Lib.hid (HR.out rfl)
  have HY1 := Lib.hid (HY.out rfl)
  clear HN HR HY
  go_wp2_with fail
  generalize w4.alloc (.cells #[.int .i64 Q, .slice Ab L.length (L.length + d), .int .i64 0] 175) = w5 at *
  refine (continued_any Ab L.length d w3.heap.size L A n ca X w5 (HG.out.below HB5.out) HOK.out HRL.out (by omega) (HO5.out.mono (Nat.le_refl _) (by omega)) (rd_step HA.out HB5.out)).mono ?_
  rintro e w6 ⟨A6, c6, rfl, ho6, hb6⟩
  have HSM6 := Lib.hid (cwOf_smallR HRL.out HOK.out)
  have HB6 := Lib.hid (bel_step HB5.out hb6)
  have K26 := Lib.hid (K25.out.below hb6 K25.out.lt); have K06 := Lib.hid (K05.out.below hb6 K05.out.lt)
  have HO6 := Lib.hid ho6
  have hz6 := hb6.size
  clear hb6 ho6 p0 p1 p2 q0 K25 K05 HO5
  generalize cwOf L X = Z at *
  have k7 := isBlk_new w6 29 [.slice A6 Z.length c6]
  have hb7 := box_below w6 (.cells #[.slice A6 Z.length c6] 29)
  have hz7 := size_alloc w6 (.cells #[.slice A6 Z.length c6] 29)
  change IsBlk (w6.alloc (.cells #[.slice A6 Z.length c6] 29)) _ _ _ at k7
  go_wp2_with fail
  change Calls _ _ _ (w6.alloc (.cells #[.slice A6 Z.length c6] 29)) _
  generalize w6.alloc (.cells #[.slice A6 Z.length c6] 29) = w7 at *
  refine (impl_histRight_any A6 Z.length c6 Z w7 HSM6.out ((HO6.out.below hb7 (Nat.le_refl _)).rd (by omega))).mono ?_
  rintro e w8 ⟨rfl, hb8⟩
  have hb68 := bel_step hb7 hb8
  have HB8 := Lib.hid (bel_step HB6.out hb68)
  have K28 := Lib.hid (K26.out.below hb68 K26.out.lt); have K08 := Lib.hid (K06.out.below hb68 K06.out.lt)
  have HO8 := Lib.hid (HO6.out.below hb68 (Nat.le_refl _))
  have K78 := Lib.hid (k7.below hb8 k7.lt)
  have hz8 := hb8.size
  clear hb7 hb8 hb68 k7 K26 K06 HO6
  cases hr : hRight Z with
  | true =>
    have HC := Lib.hid (HY1.out hr)
    have z0 : w8.cell? ⟨w6.heap.size, 0, none⟩ = some (.slice A6 Z.length c6) := K78.out.cell rfl
    obtain ⟨d0, d1, fd0, fd1⟩ := blk2 K28.out
    go_wp2
    refine bodyPost_ret (v := .agg #[.slice A6 Z.length c6, .int .i64 0]) (by simp [results, Tryz.results63, go_sem, d0, d1]) rfl ?_
    exact ho_endN HC.out.2 HC.out.1 (HO8.out.mono (Nat.le_refl _) (by omega)) (by omega) (by omega) HB8.out _ _
  | false =>
    have HC := Lib.hid (HBD.out hr)
    have z0 : w8.cell? ⟨w.heap.size, 0, none⟩ = some (.slice A n ca) := K08.out.cell rfl
    go_wp2_with fail
    refine (HMT.out w8 HB8.out).mono ?_
    rintro e w9 ⟨Am, cm, rfl, hom, hbm⟩
    have HBM := Lib.hid (bel_step HB8.out hbm)
    have HOM := Lib.hid hom
    obtain ⟨d0, d1, fd0, fd1⟩ := blk2 (K28.out.below hbm K28.out.lt)
    clear hom hbm z0
    go_wp2
    refine bodyPost_ret (v := .agg #[.slice Am (mntList X).length cm, .int .i64 (mntCode X)]) (by simp [results, Tryz.results63, go_sem, d0, d1]) rfl ?_
    exact HFIN.out _ _ _ _ _ _ HOM.out (by omega) HBM.out HC.out
end Go.Proofs.YtloaeglmngcenaaGreatDoor

namespace Go.Proofs.YtloaeglmngcenaaGreatDoor
open Go.RowKit
open Bt (Rc)

theorem own_otherB {w : World} {lo n size : Nat} {e : TypeId} {v : Value} {xs : List Value} (h : w.ownsRow lo e size v n xs) {a : Addr} (ha : v.ownBlock ≠ some a.block) (u : Value) : (w.setCell a u).ownsRow lo e size v n xs :=
  own_sameR h fun g hg => Below.heap_setCell _ _ _ _ (fun e => ha (by rw [hg, e]))
/-- a row and a box of another type lie apart -/
theorem own_neB {w : World} {lo n size B : Nat} {e t : TypeId} {v : Value} {xs cs : List Value} (h : w.ownsRow lo e size v n xs) (hk : IsBlk w B t cs) (ht : e ≠ t) : v.ownBlock ≠ some B := by
  intro hv
  rcases h.2 with ⟨rfl, -⟩ | ⟨g, cap, cur, rfl, -, hh, -⟩
  · cases hv
  · obtain rfl : g = B := by simpa [Value.ownBlock] using hv
    unfold IsBlk at hk
    rw [hh] at hk
    simp only [Option.some.injEq, Obj.cells.injEq] at hk
    exact ht hk.2.1
section
variable {P : Program} {w : World}
theorem run_append_none_any (base : Nat) (t ty e : TypeId) (i : TypeInfo) (size c : Nat) (ht : P.underlying t = some (.slice e)) (hi : P.info? e = some i)
    (v : Value) (n : Nat) (xs : List Value) (hown : w.ownsRow base e size v n xs) :
    (Builtin.append_ #[t, t] ty #[v, .slice none 0 c]).run P w = .ok v w := by
  rcases hown.2 with ⟨rfl, rfl⟩ | ⟨g, cap, cur, rfl, _, _, hnc, _⟩
  · simp [Builtin.append_, run_underlying ht, sizeOf, typeInfo, hi, Builtin.lenOf, Builtin.firstCells]
  · simp [Builtin.append_, run_underlying ht, sizeOf, typeInfo, hi, Builtin.lenOf, Builtin.firstCells, hnc, storeCells]
end
/-- 'append(s, H...)' onto an empty row of the call's own -/
theorem wpList_append_copy {w0 wr : World} {ops : Array Oper} {rest : List Oper} {o : Oper} {a : Act} {Q : Exit → Act → World → Prop} (hgd : o.guard = none) (s x : Operand)
    (ho : o.op = .call { callee := .builtin .append, args := #[s, x], argTypes := #[27, 27] })
    {i0 : TypeInfo} (hi : Tryz.prog.info? 34 = some i0) (hz : i0.zero = some (recV Rc.zero)) (hsize : i0.size = 6) (hby : i0.bytes = 56)
    {base n c B : Nat} {A : Option Addr} {H : List Rc} {v : Value} (hown : wr.ownsRow base 34 6 v 0 []) (hO : RdRc wr B A n H) (hbel : Below base w0 wr) (hbase : base ≤ wr.heap.size)
    (hs : a.eval s = v) (hx : a.eval x = .slice A n c) (hn : n ≤ 96)
    (h : ∀ v' w', w'.ownsRow base 34 6 v' H.length (rcA H) → Below base w0 w' → wpList Tryz.prog ops Q rest (a.put o.dst v') w') :
    wpList Tryz.prog ops Q (o :: rest) a wr := by
  obtain ⟨hHn, hO⟩ := hO
  subst hHn
  cases A with
  | none =>
    have h0 : H = [] := by
      cases H with
      | nil => rfl
      | cons r l => obtain ⟨g, off, hA, -⟩ := hO (by simp); cases hA
    subst h0
    refine wpList_plain hgd fun K hK => ?_
    have hrun := run_append_none_any (P := Tryz.prog) (w := wr) base 27 o.type 34 i0 6 c Tryz.underlying27 hi v 0 [] hown
    unfold Oper.wp
    simp only [List.length_nil] at hx
    simp [execOp, ho, resolve, invoke, builtin, hs, hx, hrun, Result.andThen]
    exact hK _ _ (h v wr hown hbel)
  | some ad =>
    refine wpList_append_own_at _ hgd s x _ ho base 34 i0 (recV Rc.zero) 6 56 Tryz.underlying27 hi hz hsize hby rfl (by omega) v 0 [] hs hown ad H.length c (rcA H) hx (rcA_len H) ?_ (rcA_one H) (by unfold maxLen; omega) (by omega) hbase ?_
    · intro j u hj
      have hj2 : j < H.length * 6 := by rw [← rcA_len]; exact (List.getElem?_eq_some_iff.1 hj).1
      obtain ⟨g, off, hA, hg, hc⟩ := hO (by omega)
      obtain rfl : ad = ⟨g, off, none⟩ := Option.some.inj hA
      rw [rcA_at H j hj2] at hj
      rw [add_off, hc j hj2]
      exact hj
    · intro v' w' ho' hg _ _
      rw [Nat.zero_add, List.nil_append] at ho'
      exact h v' w' ho' (hbel.grown hg hbase fun k hk => (own_block_ltR hown hk).1)

set_option maxHeartbeats 8000000 in
set_option maxRecDepth 100000 in
theorem l12With_any (Ah : Option Addr) (nh ch : Nat) (H : List Rc) (A : Option Addr) (n ca : Nat) (X : List Bk) (w : World) (hok : NdOk X) (hH : hRight H = true) (hO : RdRc w w.heap.size Ah nh H) (hA : RdBk w w.heap.size A n X) :
    Calls Tryz.prog 138 #[.agg #[.slice A n ca], .agg #[.slice Ah nh ch]] w fun e w' => ∃ (A' : Option Addr) (c' : Nat), e = .returned (.agg #[.slice A' (cwOf H X).length c']) ∧ OwRc w' w.heap.size w'.heap.size A' (cwOf H X).length (cwOf H X) ∧ Below w.heap.size w w' := by
  have hNL : n = X.length := hA.1.symm
  have hn : n ≤ 12 := by rw [hNL]; exact hok.1.2
  have hnh : nh ≤ 48 := by rw [← hO.1]; exact hRight_len hH
  have HNL := Lib.hid hNL
  have HA := Lib.hid hA; have HOK := Lib.hid hok; have HH := Lib.hid hH; have HR := Lib.hid hO; clear hA hok hNL hH hO
  obtain ⟨i0, hi0, hiv⟩ := Option.map_eq_some_iff.1 info_recP
  have Hi := Lib.hid hi0; have Z0 := Lib.hid (congrArg (·.1) hiv); have Z1 := Lib.hid (congrArg (·.2.1) hiv); have Z2 := Lib.hid (congrArg (·.2.2) hiv)
  clear hi0 hiv
  go_enter Tryz.func138, Tryz.ntmps138
  have hb0 : Below w.heap.size w (((w.alloc (.cells #[.slice A n ca] 25)).alloc (.cells #[.slice Ah nh ch] 29)).alloc (.cells #[.slice none 0 0] 29)) := (((Below.refl _ _).alloc (Nat.le_refl _) _).alloc (by simp) _).alloc (by simp; omega) _
  have k0 := ((isBlk_new w 25 [.slice A n ca]).alloc (.cells #[.slice Ah nh ch] 29)).alloc (.cells #[.slice none 0 0] 29)
  have k1 := (isBlk_new (w.alloc (.cells #[.slice A n ca] 25)) 29 [.slice Ah nh ch]).alloc (.cells #[.slice none 0 0] 29)
  have k2 := isBlk_new ((w.alloc (.cells #[.slice A n ca] 25)).alloc (.cells #[.slice Ah nh ch] 29)) 29 [.slice none 0 0]
  simp only [size_alloc] at k1 k2
  change IsBlk (((w.alloc (.cells #[.slice A n ca] 25)).alloc (.cells #[.slice Ah nh ch] 29)).alloc (.cells #[.slice none 0 0] 29)) _ _ _ at k0 k1 k2
  have hs0 : (((w.alloc (.cells #[.slice A n ca] 25)).alloc (.cells #[.slice Ah nh ch] 29)).alloc (.cells #[.slice none 0 0] 29)).heap.size = w.heap.size + 3 := by simp
  obtain ⟨W, hW⟩ : ∃ W, W = ((w.alloc (.cells #[.slice A n ca] 25)).alloc (.cells #[.slice Ah nh ch] 29)).alloc (.cells #[.slice none 0 0] 29) := ⟨_, rfl⟩
  rw [← hW] at hb0 k0 k1 k2 hs0
  have HB0 := Lib.hid hb0; have HK0 := Lib.hid k0; have HK1 := Lib.hid k1; have HK2 := Lib.hid k2
  have HE : Hid ((W.alloc (.cells #[] 34)).ownsRow (w.heap.size + 3) 34 6 (.slice (some ⟨w.heap.size + 3, 0, none⟩) 0 0) 0 []) := by
    have h := own_empty (w := W) (base := W.heap.size) (e := 34) (k := 6) (Nat.le_refl _)
    rw [hs0] at h; exact h
  have HBE : Hid (Below (w.heap.size + 3) W (W.alloc (.cells #[] 34))) := (Below.refl _ _).alloc (by omega) _
  have hsE : (W.alloc (.cells #[] 34)).heap.size = w.heap.size + 3 + 1 := by rw [size_alloc, hs0]
  have HRE : Hid (RdRc (W.alloc (.cells #[] 34)) w.heap.size Ah nh H) := HR.out.below (HB0.out.trans (HBE.out.mono (by omega)))
  clear hb0 k0 k1 k2
  have hN3 : w.heap.size + 3 ≤ (W.alloc (.cells #[] 34)).heap.size := by rw [hsE]; omega
  subst hW
  go_wp2_with (at_builtin; refine wpList_append_copy rfl _ _ rfl Hi.out Z0.out Z1.out Z2.out HE.out HRE.out HBE.out hN3 rfl rfl (by omega) ?_; intro v5 w5 ho5 hb5; have HO5 := Lib.hid ho5; have HB5 := Lib.hid hb5; obtain ⟨A5, c5, rfl⟩ := own_slK ho5; have h15 : w5.cell? ⟨w.heap.size + 1, 0, none⟩ = some (.slice Ah nh ch) := (by first | exact (HK1.out.below hb5 (by omega)).cell rfl); have hz5 : w.heap.size + 3 ≤ w5.heap.size := (by first | exact Nat.le_trans (Nat.le_of_eq hs0.symm) hb5.size); have hl5 : w.heap.size + 1 < w5.heap.size := (by first | omega); clear ho5 hb5)
  have k6 := isBlk_new w5 29 [.slice A5 H.length c5]
  have hb6 := box_below w5 (.cells #[.slice A5 H.length c5] 29)
  have hz6 := size_alloc w5 (.cells #[.slice A5 H.length c5] 29)
  have ho6 := own_belowR HO5.out hb6
  have hb06 := (HB5.out).trans (hb6.mono hz5)
  have k06 := HK0.out.below hb06 (by omega)
  have k26 := HK2.out.below hb06 (by omega)
  have hbw6 := HB0.out.trans (hb06.mono (by omega))
  change IsBlk (w5.alloc (.cells #[.slice A5 H.length c5] 29)) _ _ _ at k6
  change Calls _ _ _ (w5.alloc (.cells #[.slice A5 H.length c5] 29)) _
  clear HB0 HK0 HK1 HK2 HE HBE HRE hsE hN3 hs0 HB5 HO5 h15 hl5 hb06
  generalize w5.alloc (.cells #[.slice A5 H.length c5] 29) = w6 at k6 hb6 hz6 ho6 k06 k26 hbw6 ⊢
  refine (l04Last_any Ah nh ch H w6 (by omega) (HR.out.next hbw6)).mono ?_
  rintro e W ⟨rfl, hb7⟩
  have HB0 := Lib.hid (hbw6.trans (hb7.mono hbw6.size)); have HK0 := Lib.hid (k06.below hb7 k06.lt); have HK2 := Lib.hid (k26.below hb7 k26.lt); have HKB := Lib.hid (k6.below hb7 k6.lt)
  have HOB := Lib.hid (own_belowR ho6 hb7)
  have hNz : w.heap.size + 3 ≤ W.heap.size := by have := hb7.size; omega
  clear hbw6 hb7 k06 k26 k6 ho6 hb6 hz6
  generalize w5.heap.size = B at *
  have hf : ∀ w' : World, (Instr.field 34 (recV (lastR H)) 2).run Tryz.prog w' = .ok (.int .i64 (lastR H).q) w' := fun w' => recField_2 _ _ _ _ _ _ w'
  go_wp2
  go_loopw [7] (fun iv wr => ∃ (i : Nat) (v : Value), i ≤ n ∧ iv = .int .i64 (i : Nat) ∧ IsBlk wr B 29 [v] ∧ wr.ownsRow (w.heap.size + 3) 34 6 v (cwn H X i).length (rcA (cwn H X i)) ∧ Below (w.heap.size + 3) W wr ∧ w.heap.size + 3 ≤ wr.heap.size) (fun iv _ => n - (intOf iv).toNat)
  case atStart => exact ⟨0, _, by omega, rfl, HKB.out, by rw [cwn_zero]; exact HOB.out, Below.refl _ _, hNz⟩
  case round =>
    obtain ⟨i, v, hi, rfl, hbox, hown, hbel, hzr⟩ := hrel
    have HOW := Lib.hid hown; have HW := Lib.hid hbel; have HBX := Lib.hid hbox
    have hx : wr.cell? ⟨w.heap.size, 0, none⟩ = some (.slice A n ca) := (HK0.out.below hbel (by omega)).cell rfl
    clear hown hbox
    by_cases hlt : i < n
    · have hil : i < X.length := by rw [← HNL.out]; exact hlt
      have HBO := Lib.hid (HOK.out.2 i hil)
      have HEND := Lib.hid (cwk_end (H := H) (X := X) (i := i) HBO.out.1)
      have HPO : Hid (PgsOk (X.getD i zeroBk).pages) := (pgsOk_iff HBO.out.1).2 HBO.out.2.2
      have HPL : Hid (∀ k, (cwk H X i (X.getD i zeroBk).pages k).length ≤ 96) := fun k => cwk_len HH.out HOK.out hil HBO.out.1 k
      have HOW0 : Hid (wr.ownsRow (w.heap.size + 3) 34 6 v (cwk H X i (X.getD i zeroBk).pages 0).length (rcA (cwk H X i (X.getD i zeroBk).pages 0))) := by show World.ownsRow _ _ _ _ _ _ _; rw [cwk_zero]; exact HOW.out
      clear hbel
      go_wp2
      clear hx
      go_loopw [8] (fun jv wq => ∃ (j : Nat) (v : Value), j ≤ 4 ∧ jv = .int .i64 (j : Nat) ∧ IsBlk wq B 29 [v] ∧ wq.ownsRow (w.heap.size + 3) 34 6 v (cwk H X i (X.getD i zeroBk).pages j).length (rcA (cwk H X i (X.getD i zeroBk).pages j)) ∧ Below (w.heap.size + 3) W wq ∧ w.heap.size + 3 ≤ wq.heap.size) (fun jv _ => 4 - (intOf jv).toNat)
      case atStart => exact ⟨0, v, by omega, rfl, HBX.out, HOW0.out, HW.out, hzr⟩
      case round =>
        clear HOW0 HOW HW HBX hzr v
        obtain ⟨j, v, hj, rfl, hbox, hown, hbel, hzq⟩ := hrel
        have HOWq := Lib.hid hown; have HWq := Lib.hid hbel; have HBXq := Lib.hid hbox
        have hx : wr.cell? ⟨w.heap.size, 0, none⟩ = some (.slice A n ca) := (HK0.out.below hbel (by omega)).cell rfl
        obtain ⟨g, off, pA, pc, rfl, hg, hc0, -, -, hpg⟩ := (HA.out.below (HB0.out.trans (hbel.mono (by omega)))).at hlt
        rw [HBO.out.1] at hc0 hpg
        clear hown hbox
        by_cases hj4 : j < 4
        · obtain ⟨g2, off2, rfl, hg2, d0, d1⟩ := hpg.at hj4
          have HSM := Lib.hid ((HPO.out j hj4).2)
          have HUN := Lib.hid (fun h => cwk_unused (H := H) (X := X) (i := i) (ps := (X.getD i zeroBk).pages) (k := j) h)
          have HYE := Lib.hid (fun h h1 hq => cwk_late HH.out (X := X) (i := i) hj4 HPO.out h h1 hq)
          have HOL := Lib.hid (fun h h1 hq => cwk_old (H := H) (X := X) (i := i) hj4 HPO.out h h1 hq)
          have HNO := Lib.hid (fun h h1 => cwk_no (H := H) (X := X) (i := i) hj4 HPO.out h h1)
          have HTl := Lib.hid (HPL.out j)
          clear hbel hpg
          generalize (X.getD i zeroBk).pages.getD j zeroPg = pg at *
          generalize cwk H X i (X.getD i zeroBk).pages j = T at *
          obtain ⟨us, sd⟩ := pg
          simp only at d0 d1 HSM HUN HYE HOL HNO
          go_wp2_with fail
          have hb5 := box_below wr (.cells #[.bool us, .string sd] 206)
          have k5 := isBlk_new wr 206 [.bool us, .string sd]
          change Calls _ _ _ (wr.alloc (.cells #[.bool us, .string sd] 206)) _
          change IsBlk (wr.alloc (.cells #[.bool us, .string sd] 206)) _ _ _ at k5
          generalize wr.alloc (.cells #[.bool us, .string sd] 206) = w5 at hb5 k5 ⊢
          refine (spec_recRead_any sd w5 (by have := HSM.out; unfold maxLen; omega)).mono ?_
          rintro e w6 ⟨rfl, hb6⟩
          generalize Bt.recRead sd = RR at *
          obtain ⟨⟨rk, rs, rq, rt, ro, rd⟩, c⟩ := RR
          simp only at HYE HOL HNO
          have hb7 : Below wr.heap.size wr (w6.alloc (.cells #[.int .i64 rk, .int .i64 rs, .int .i64 rq, .int .i64 rt, .int .i64 ro, .string rd, .int .i64 c] 53)) := (hb5.trans (hb6.mono hb5.size)).alloc (Nat.le_trans hb5.size hb6.size) _
          have k7 := (k5.below hb6 k5.lt).alloc (.cells #[.int .i64 rk, .int .i64 rs, .int .i64 rq, .int .i64 rt, .int .i64 ro, .string rd, .int .i64 c] 53)
          have kx := isBlk_new w6 53 [.int .i64 rk, .int .i64 rs, .int .i64 rq, .int .i64 rt, .int .i64 ro, .string rd, .int .i64 c]
          have hz6 : wr.heap.size < w6.heap.size := Nat.lt_of_lt_of_le k5.lt hb6.size
          change IsBlk (w6.alloc (.cells #[.int .i64 rk, .int .i64 rs, .int .i64 rq, .int .i64 rt, .int .i64 ro, .string rd, .int .i64 c] 53)) _ _ _ at k7 kx
          clear hb5 k5 hb6 hx hc0 d0 d1
          have hu6 : (w6.alloc (.cells #[.int .i64 rk, .int .i64 rs, .int .i64 rq, .int .i64 rt, .int .i64 ro, .string rd, .int .i64 c] 53)).cell? ⟨wr.heap.size, 0, none⟩ = some (.bool us) := k7.cell rfl
          have HOW7 := Lib.hid (own_belowR HOWq.out hb7)
          have HW7 := Lib.hid (HWq.out.trans (hb7.mono (by omega)))
          have HBX7 := Lib.hid (HBXq.out.below hb7 HBXq.out.lt)
          have hz7 : w.heap.size + 3 ≤ (w6.alloc (.cells #[.int .i64 rk, .int .i64 rs, .int .i64 rq, .int .i64 rt, .int .i64 ro, .string rd, .int .i64 c] 53)).heap.size := Nat.le_trans hzq hb7.size
          cases us with
          | false =>
            have HT := Lib.hid (HUN.out rfl)
            clear HUN HYE HOL HNO
            go_wp2
            go_roundw
            case rel => exact ⟨j + 1, v, by omega, by go_num, HBX7.out, by rw [HT.out]; exact HOW7.out, HW7.out, hz7⟩
            case measure => simp [intOf]; omega
          | true =>
            have hc6 : (w6.alloc (.cells #[.int .i64 rk, .int .i64 rs, .int .i64 rq, .int .i64 rt, .int .i64 ro, .string rd, .int .i64 c] 53)).cell? ⟨w6.heap.size, 6, none⟩ = some (.int .i64 c) := kx.cell rfl
            by_cases h0c : c = 0
            case neg =>
              have hc' : (c == 0) = false := by simpa using h0c
              have HT := Lib.hid (HNO.out rfl h0c)
              clear HUN HYE HOL HNO h0c
              go_wp2
              go_roundw
              case rel => exact ⟨j + 1, v, by omega, by go_num, HBX7.out, by rw [HT.out]; exact HOW7.out, HW7.out, hz7⟩
              case measure => simp [intOf]; omega
            subst h0c
            have hbx : (w6.alloc (.cells #[.int .i64 rk, .int .i64 rs, .int .i64 rq, .int .i64 rt, .int .i64 ro, .string rd, .int .i64 0] 53)).cell? ⟨B, 0, none⟩ = some v := HBX7.out.cell rfl
            have c0 : (w6.alloc (.cells #[.int .i64 rk, .int .i64 rs, .int .i64 rq, .int .i64 rt, .int .i64 ro, .string rd, .int .i64 0] 53)).cell? ⟨w6.heap.size, 0, none⟩ = some (.int .i64 rk) := kx.cell rfl
            have c1 : (w6.alloc (.cells #[.int .i64 rk, .int .i64 rs, .int .i64 rq, .int .i64 rt, .int .i64 ro, .string rd, .int .i64 0] 53)).cell? ⟨w6.heap.size, 1, none⟩ = some (.int .i64 rs) := kx.cell rfl
            have c2 : (w6.alloc (.cells #[.int .i64 rk, .int .i64 rs, .int .i64 rq, .int .i64 rt, .int .i64 ro, .string rd, .int .i64 0] 53)).cell? ⟨w6.heap.size, 2, none⟩ = some (.int .i64 rq) := kx.cell rfl
            have c3 : (w6.alloc (.cells #[.int .i64 rk, .int .i64 rs, .int .i64 rq, .int .i64 rt, .int .i64 ro, .string rd, .int .i64 0] 53)).cell? ⟨w6.heap.size, 3, none⟩ = some (.int .i64 rt) := kx.cell rfl
            have c4 : (w6.alloc (.cells #[.int .i64 rk, .int .i64 rs, .int .i64 rq, .int .i64 rt, .int .i64 ro, .string rd, .int .i64 0] 53)).cell? ⟨w6.heap.size, 4, none⟩ = some (.int .i64 ro) := kx.cell rfl
            have c5 : (w6.alloc (.cells #[.int .i64 rk, .int .i64 rs, .int .i64 rq, .int .i64 rt, .int .i64 ro, .string rd, .int .i64 0] 53)).cell? ⟨w6.heap.size, 5, none⟩ = some (.string rd) := kx.cell rfl
            by_cases hq : (lastR H).q < rq
            case neg =>
              have hq' : ¬ rq > (lastR H).q := hq
              have HT := Lib.hid (HOL.out rfl rfl (by omega))
              clear HUN HYE HOL HNO hq
              go_wp2
              go_roundw
              case rel => exact ⟨j + 1, v, by omega, by go_num, HBX7.out, by rw [HT.out]; exact HOW7.out, HW7.out, hz7⟩
              case measure => simp [intOf]; omega
            have hq' : rq > (lastR H).q := hq
            have HT := Lib.hid (HYE.out rfl rfl hq)
            clear HUN HYE HOL HNO hq
            clear hb7 k7 kx
            go_wp2_with fail
            change Calls _ _ _ (w6.alloc (.cells #[.int .i64 rk, .int .i64 rs, .int .i64 rq, .int .i64 rt, .int .i64 ro, .string rd, .int .i64 0] 53)) _
            generalize w6.alloc (.cells #[.int .i64 rk, .int .i64 rs, .int .i64 rq, .int .i64 rt, .int .i64 ro, .string rd, .int .i64 0] 53) = w7 at HOW7 HW7 HBX7 hz7 ⊢
            clear c0 c1 c2 c3 c4 c5 hc6 hbx hu6
            refine (l05Put_any (w.heap.size + 3) v T ⟨rk, rs, rq, rt, ro, rd⟩ w7 hz7 (by have := HTl.out; omega) HOW7.out).mono ?_
            rintro e w8 ⟨v8, rfl, ho8, hb8⟩
            obtain ⟨A8, c8, rfl⟩ := own_sl ho8
            have HO8 := Lib.hid ho8; have HB8 := Lib.hid hb8
            have HBX8 := Lib.hid (HBX7.out.below hb8 HBX7.out.lt)
            have h78 := hb8.size
            have fx8 : w8.frozen? ⟨B, 0, none⟩ = false := HBX8.out.free
            have hx8 : w8.cell? ⟨B, 0, none⟩ = some v := HBX8.out.cell rfl
            clear ho8 hb8
            go_wp2
            go_roundw
            case rel => exact ⟨j + 1, _, by omega, by go_num, HBX8.out.set (j := 0) _, by rw [HT.out]; exact own_otherB HO8.out (own_neB HO8.out HBX8.out (by decide)) _, (HW7.out.trans (HB8.out.mono (by omega))).setCell (by dsimp only; omega) _, by simp [World.setCell]; omega⟩
            case measure => simp [intOf]; omega
        · obtain rfl : j = 4 := by omega
          clear hbel hpg
          go_wp2
          go_roundw
          case rel => exact ⟨i + 1, v, by omega, by go_num, HBXq.out, by rw [← HEND.out]; exact HOWq.out, HWq.out, hzq⟩
          case measure => simp [intOf]; omega
    · obtain rfl : i = n := by omega
      have k2 := HK2.out.below hbel (by omega)
      have d0 : wr.cell? ⟨w.heap.size + 1 + 1, 0, none⟩ = some (.slice none 0 0) := k2.cell rfl
      have fd0 : wr.frozen? ⟨w.heap.size + 1 + 1, 0, none⟩ = false := k2.free
      clear hbel k2
      have hcw : cwn H X i = cwOf H X := by rw [HNL.out]; rfl
      rw [hcw] at HOW
      obtain ⟨Av, cv, rfl⟩ := own_slK HOW.out
      have hbx : wr.cell? ⟨B, 0, none⟩ = some (.slice Av (cwOf H X).length cv) := HBX.out.cell rfl
      have HO := Lib.hid (ow_of_own HOW.out)
      obtain ⟨Y, hY⟩ : ∃ Y, Y = cwOf H X := ⟨_, rfl⟩
      rw [← hY] at HO hbx
      have HYE := Lib.hid hY
      clear hcw HOW hY
      rw [← HYE.out] at HBX
      go_wp2
      refine bodyPost_ret (v := .agg #[.slice Av Y.length cv]) (by simp [results, Tryz.results138, go_sem, d0]) rfl ?_
      rw [← HYE.out]
      refine ⟨Av, cv, rfl, (HO.out.same fun k hk _ => Below.heap_setCell _ _ _ _ (by dsimp only; omega)).mono (by omega) (by simp [World.setCell]), ?_⟩
      exact (HB0.out.trans (HW.out.mono (by omega))).setCell (by dsimp only; omega) _
end Go.Proofs.YtloaeglmngcenaaGreatDoor

namespace Go.Proofs.YtloaeglmngcenaaGreatDoor
open Go.RowKit
open Bt (Rc)

/-- an answer with records, stored in its box -/
theorem ho_endS {w u : World} {lo b2 c : Nat} {A : Option Addr} {Y Z : List Rc} {C D : Int} (hZ : Z = Y) (hD : D = C) (hO : OwRc u lo u.heap.size A Y.length Y) (hlo : b2 < lo) (hwl : w.heap.size ≤ b2) (hB : Below w.heap.size w u) (x y : Value) :
    RetHO w Z D (.returned (.agg #[.slice A Y.length c, .int .i64 C])) ((u.setCell ⟨b2, 0, none⟩ x).setCell ⟨b2, 1, none⟩ y) := by
  subst hZ hD
  refine ⟨A, c, rfl, ?_, (hB.setCell (p := ⟨b2, 0, none⟩) hwl _).setCell (p := ⟨b2, 1, none⟩) hwl _⟩
  exact (hO.same fun k hk _ => (Below.heap_setCell _ _ _ _ (by dsimp only; omega)).trans (Below.heap_setCell _ _ _ _ (by dsimp only; omega))).mono (by omega) (by simp [World.setCell])
theorem ho_nilS {w u : World} {b2 : Nat} {Z : List Rc} {C D : Int} (hZ : Z = []) (hD : D = C) (hwl : w.heap.size ≤ b2) (hB : Below w.heap.size w u) (x y : Value) :
    RetHO w Z D (.returned (.agg #[.slice none 0 0, .int .i64 C])) ((u.setCell ⟨b2, 0, none⟩ x).setCell ⟨b2, 1, none⟩ y) := by
  subst hZ hD
  exact ⟨none, 0, rfl, ow_nilR _ _ _ _, (hB.setCell (p := ⟨b2, 0, none⟩) hwl _).setCell (p := ⟨b2, 1, none⟩) hwl _⟩

set_option maxHeartbeats 4000000 in
set_option maxRecDepth 100000 in
theorem spec_mountWith (A : Option Addr) (n ca : Nat) (X : List Bk) (a b : ByteArray) (w : World) (ha : a.size ≤ maxLen) (hb : b.size ≤ maxLen) (hX : Small X) (hA : RdBk w w.heap.size A n X) :
    Calls Tryz.prog 61 #[.agg #[.slice A n ca], slotsV a b] w (RetHO w (mwList X a b) (mwCode X a b)) := by
  have HA := Lib.hid hA; have HX := Lib.hid hX; clear hA hX
  go_enter Tryz.func61, Tryz.ntmps61
  go_wp2_with fail
  have hb0 : Below w.heap.size w (((w.alloc (.cells #[.slice A n ca] 25)).alloc (.cells #[.string a, .string b] 88)).alloc (.cells #[.slice none 0 0, .int .i64 0] 31)) := (((Below.refl _ _).alloc (Nat.le_refl _) _).alloc (by simp) _).alloc (by simp; omega) _
  have k0 := ((isBlk_new w 25 [.slice A n ca]).alloc (.cells #[.string a, .string b] 88)).alloc (.cells #[.slice none 0 0, .int .i64 0] 31)
  have k1 := (isBlk_new (w.alloc (.cells #[.slice A n ca] 25)) 88 [.string a, .string b]).alloc (.cells #[.slice none 0 0, .int .i64 0] 31)
  have k2 := isBlk_new ((w.alloc (.cells #[.slice A n ca] 25)).alloc (.cells #[.string a, .string b] 88)) 31 [.slice none 0 0, .int .i64 0]
  simp only [size_alloc] at k1 k2
  change IsBlk (((w.alloc (.cells #[.slice A n ca] 25)).alloc (.cells #[.string a, .string b] 88)).alloc (.cells #[.slice none 0 0, .int .i64 0] 31)) _ _ _ at k0 k1 k2
  generalize ((w.alloc (.cells #[.slice A n ca] 25)).alloc (.cells #[.string a, .string b] 88)).alloc (.cells #[.slice none 0 0, .int .i64 0] 31) = W at hb0 k0 k1 k2 ⊢
  refine (spec_nandRight A n ca X W HX.out (rd_step HA.out hb0)).mono ?_
  rintro e w2 ⟨rfl, hb2⟩
  have HB2 := Lib.hid (bel_step hb0 hb2)
  have K0 := Lib.hid (k0.below hb2 k0.lt); have K1 := Lib.hid (k1.below hb2 k1.lt); have K2 := Lib.hid (k2.below hb2 k2.lt)
  clear hb0 hb2 k0 k1 k2
  by_cases hok : NdOk X
  case neg =>
    rw [ndB_no hok]
    have HC := Lib.hid (mw_noNand (a := a) (b := b) hok)
    obtain ⟨d0, d1, fd0, fd1⟩ := blk2 K2.out
    go_wp2
    refine bodyPost_ret (v := .agg #[.slice none 0 0, .int .i64 1]) (by simp [results, Tryz.results61, go_sem, d0, d1]) rfl ?_
    exact ho_nilS HC.out.2 HC.out.1 (by omega) HB2.out _ _
  rw [ndB_yes hok]
  have HOK := Lib.hid hok
  clear hok
  obtain ⟨c0, c1, -, -⟩ := blk2 K1.out
  go_wp2_with fail
  refine (spec_slotsRight a b w2 ha hb).mono ?_
  rintro e w3 ⟨rfl, hb3⟩
  have HB3 := Lib.hid (bel_step HB2.out hb3)
  have K03 := Lib.hid (K0.out.below hb3 K0.out.lt); have K13 := Lib.hid (K1.out.below hb3 K1.out.lt); have K23 := Lib.hid (K2.out.below hb3 K2.out.lt)
  clear hb3 c0 c1 K0 K1 K2
  cases hs : slotB a b with
  | false =>
    have HC := Lib.hid (mw_noSlots (X := X) hs)
    obtain ⟨d0, d1, fd0, fd1⟩ := blk2 K23.out
    go_wp2
    refine bodyPost_ret (v := .agg #[.slice none 0 0, .int .i64 1]) (by simp [results, Tryz.results61, go_sem, d0, d1]) rfl ?_
    exact ho_nilS HC.out.2 HC.out.1 (by omega) HB3.out _ _
  | true =>
  have HN := Lib.hid (fun h => mw_noCk (X := X) (a := a) (b := b) HOK.out hs h)
  have HBD := Lib.hid (fun h => mw_bad (X := X) (a := a) (b := b) HOK.out hs h)
  have HY := Lib.hid (fun h1 h2 => mw_ck (X := X) (a := a) (b := b) HOK.out hs h1 h2)
  have HR := Lib.hid (fun h => cb_right (a := a) (b := b) hs h)
  obtain ⟨c0, c1, -, -⟩ := blk2 K13.out
  have HFIN : Hid (∀ (u : World) (Am : Option Addr) (cm lo : Nat) (x y : Value), OwRc u lo u.heap.size Am (mntList X).length (mntList X) → w.heap.size + 1 + 1 < lo → Below w.heap.size w u → mwCode X a b = mntCode X ∧ mwList X a b = mntList X →
      RetHO w (mwList X a b) (mwCode X a b) (.returned (.agg #[.slice Am (mntList X).length cm, .int .i64 (mntCode X)])) ((u.setCell ⟨w.heap.size + 1 + 1, 0, none⟩ x).setCell ⟨w.heap.size + 1 + 1, 1, none⟩ y)) := fun u Am cm lo x y ho hl hB hh => ho_endS hh.2 hh.1 ho hl (by omega) hB x y
  have HMT : Hid (∀ u : World, Below w.heap.size w u → Calls Tryz.prog 82 #[.agg #[.slice A n ca]] u (RetHO u (mntList X) (mntCode X))) := fun u hB => l05Mount_any A n ca X u HOK.out (rd_step HA.out hB)
  go_wp2_with fail
  refine (l12Best_any a b w3 ha hb hs).mono ?_
  rintro e w4 ⟨Ab, d, rfl, ho4, hb4⟩
  have HB4 := Lib.hid (bel_step HB3.out hb4)
  have K04 := Lib.hid (K03.out.below hb4 K03.out.lt); have K24 := Lib.hid (K23.out.below hb4 K23.out.lt)
  have hz3 : w.heap.size + 1 + 1 < w3.heap.size := K23.out.lt
  have hz4 := hb4.size
  have HO4 := Lib.hid ho4
  clear hb4 ho4 c0 c1 K03 K13 K23
  generalize cbNum a b = Q at *
  generalize hLL : cbList a b = L at *
  generalize hCC : cbCode a b = C at *
  have k5 := isBlk_new w4 175 [.int .i64 Q, .slice Ab L.length d, .int .i64 C]
  have hb5 := box_below w4 (.cells #[.int .i64 Q, .slice Ab L.length d, .int .i64 C] 175)
  change IsBlk (w4.alloc (.cells #[.int .i64 Q, .slice Ab L.length d, .int .i64 C] 175)) _ _ _ at k5
  have hz5 := size_alloc w4 (.cells #[.int .i64 Q, .slice Ab L.length d, .int .i64 C] 175)
  have p0 : (w4.alloc (.cells #[.int .i64 Q, .slice Ab L.length d, .int .i64 C] 175)).cell? ⟨w4.heap.size, 0, none⟩ = some (.int .i64 Q) := k5.cell rfl
  have p1 : (w4.alloc (.cells #[.int .i64 Q, .slice Ab L.length d, .int .i64 C] 175)).cell? ⟨w4.heap.size, 1, none⟩ = some (.slice Ab L.length d) := k5.cell rfl
  have p2 : (w4.alloc (.cells #[.int .i64 Q, .slice Ab L.length d, .int .i64 C] 175)).cell? ⟨w4.heap.size, 2, none⟩ = some (.int .i64 C) := k5.cell rfl
  have q0 : (w4.alloc (.cells #[.int .i64 Q, .slice Ab L.length d, .int .i64 C] 175)).cell? ⟨w.heap.size, 0, none⟩ = some (.slice A n ca) := (K04.out.below hb5 K04.out.lt).cell rfl
  have HB5 := Lib.hid (bel_step HB4.out hb5)
  have K25 := Lib.hid (K24.out.below hb5 K24.out.lt); have K05 := Lib.hid (K04.out.below hb5 K04.out.lt)
  have HO5 := Lib.hid (HO4.out.below hb5 (Nat.le_refl _))
  clear hb5 k5 K04 K24 HO4
  by_cases hc : C = 0
  case neg =>
    have hcb : (C == 0) = false := by simpa using hc
    have HC := Lib.hid (HN.out hc)
    clear HN HBD HY HR hc
    go_wp2_with fail
    generalize w4.alloc (.cells #[.int .i64 Q, .slice Ab L.length d, .int .i64 C] 175) = w5 at *
    refine (HMT.out w5 HB5.out).mono ?_
    rintro e w6 ⟨Am, cm, rfl, hom, hbm⟩
    have HBM := Lib.hid (bel_step HB5.out hbm)
    have HOM := Lib.hid hom
    obtain ⟨d0, d1, fd0, fd1⟩ := blk2 (K25.out.below hbm K25.out.lt)
    clear hom hbm p0 p1 p2 q0
    go_wp2
    refine bodyPost_ret (v := .agg #[.slice Am (mntList X).length cm, .int .i64 (mntCode X)]) (by simp [results, Tryz.results61, go_sem, d0, d1]) rfl ?_
    exact HFIN.out _ _ _ _ _ _ HOM.out (by omega) HBM.out HC.out
  subst hc
  have HRL := Lib.hid (HR.out rfl)
  have HY1 := Lib.hid (HY.out rfl)
  clear HN HR HY
  go_wp2_with fail
  generalize w4.alloc (.cells #[.int .i64 Q, .slice Ab L.length d, .int .i64 0] 175) = w5 at *
  refine (l12With_any Ab L.length d L A n ca X w5 HOK.out HRL.out (HO5.out.rd (by omega)) (rd_step HA.out HB5.out)).mono ?_
  rintro e w6 ⟨A6, c6, rfl, ho6, hb6⟩
  have HSM6 := Lib.hid (cwOf_smallR HRL.out HOK.out)
  have HB6 := Lib.hid (bel_step HB5.out hb6)
  have K26 := Lib.hid (K25.out.below hb6 K25.out.lt); have K06 := Lib.hid (K05.out.below hb6 K05.out.lt)
  have HO6 := Lib.hid ho6
  have hz6 := hb6.size
  clear hb6 ho6 p0 p1 p2 q0 K25 K05 HO5
  generalize cwOf L X = Z at *
  have k7 := isBlk_new w6 29 [.slice A6 Z.length c6]
  have hb7 := box_below w6 (.cells #[.slice A6 Z.length c6] 29)
  have hz7 := size_alloc w6 (.cells #[.slice A6 Z.length c6] 29)
  change IsBlk (w6.alloc (.cells #[.slice A6 Z.length c6] 29)) _ _ _ at k7
  go_wp2_with fail
  change Calls _ _ _ (w6.alloc (.cells #[.slice A6 Z.length c6] 29)) _
  generalize w6.alloc (.cells #[.slice A6 Z.length c6] 29) = w7 at *
  refine (spec_histRight_any A6 Z.length c6 Z w7 HSM6.out ((HO6.out.below hb7 (Nat.le_refl _)).rd (by omega))).mono ?_
  rintro e w8 ⟨rfl, hb8⟩
  have hb68 := bel_step hb7 hb8
  have HB8 := Lib.hid (bel_step HB6.out hb68)
  have K28 := Lib.hid (K26.out.below hb68 K26.out.lt); have K08 := Lib.hid (K06.out.below hb68 K06.out.lt)
  have HO8 := Lib.hid (HO6.out.below hb68 (Nat.le_refl _))
  have K78 := Lib.hid (k7.below hb8 k7.lt)
  have hz8 := hb8.size
  clear hb7 hb8 hb68 k7 K26 K06 HO6
  cases hr : hRight Z with
  | true =>
    have HC := Lib.hid (HY1.out hr)
    have z0 : w8.cell? ⟨w6.heap.size, 0, none⟩ = some (.slice A6 Z.length c6) := K78.out.cell rfl
    obtain ⟨d0, d1, fd0, fd1⟩ := blk2 K28.out
    go_wp2
    refine bodyPost_ret (v := .agg #[.slice A6 Z.length c6, .int .i64 0]) (by simp [results, Tryz.results61, go_sem, d0, d1]) rfl ?_
    exact ho_endS HC.out.2 HC.out.1 (HO8.out.mono (Nat.le_refl _) (by omega)) (by omega) (by omega) HB8.out _ _
  | false =>
    have HC := Lib.hid (HBD.out hr)
    have z0 : w8.cell? ⟨w.heap.size, 0, none⟩ = some (.slice A n ca) := K08.out.cell rfl
    go_wp2_with fail
    refine (HMT.out w8 HB8.out).mono ?_
    rintro e w9 ⟨Am, cm, rfl, hom, hbm⟩
    have HBM := Lib.hid (bel_step HB8.out hbm)
    have HOM := Lib.hid hom
    obtain ⟨d0, d1, fd0, fd1⟩ := blk2 (K28.out.below hbm K28.out.lt)
    clear hom hbm z0
    go_wp2
    refine bodyPost_ret (v := .agg #[.slice Am (mntList X).length cm, .int .i64 (mntCode X)]) (by simp [results, Tryz.results61, go_sem, d0, d1]) rfl ?_
    exact HFIN.out _ _ _ _ _ _ HOM.out (by omega) HBM.out HC.out
end Go.Proofs.YtloaeglmngcenaaGreatDoor
