/-
  A drive that comes in as an argument, opened: its chip's cells, its two numbers.
  The laws' own functions over drives: size, copy, comparison, marks.
  l07Hist, DriveRight, l07Ill, l07With and l07Put of the model.
  Tick, Write, Trim, RollTo, Raise and Collect of the model.
  What the operations on drives answer is small.
-/
import Derived.Test.YtohmkjgmhippoaaGreatDoorProg
import Derived.KernelRfl
import Derived.Test.YtohmkjgmhippoaaGreatDoorMgNd
import Derived.Test.YtohmkjgmhippoaaGreatDoorMgDa
import Derived.Test.YtohmkjgmhippoaaGreatDoorNdUse
import Derived.Test.YtohmkjgmhippoaaGreatDoorLgMountS
import Derived.Test.YtohmkjgmhippoaaGreatDoorMgChip
import Derived.Test.YtohmkjgmhippoaaGreatDoorMgGc
import Derived.Test.YtohmkjgmhippoaaGreatDoorHsLast
import Derived.Test.YtohmkjgmhippoaaGreatDoorHsTrailS
import Derived.Test.YtohmkjgmhippoaaGreatDoorRcBytes
import Derived.Deep.RegionHeld3
import Derived.StillTailTactics
import Derived.Deep.RegionWith
import Derived.Test.YtohmkjgmhippoaaGreatDoorHsFloor
namespace Go.Proofs.YtohmkjgmhippoaaGreatDoor
open Go.RowKit Go.ChangeShapes Go.WideShapes Go.Deep

section
variable {H : Type} {enc : TypeId × Value → H} {P : Program} {w : World} {base : Nat} {spare : Nat → Bool} {held : Bool}
/-- a drive that comes in -/
theorem open_drive {r : Reach} {b0 : Nat} {td tn t e pt pe : TypeId} {d0 d1 d2 n0 f0 f1 f2 g0 g1 : Field} {v : Value} {d : DataW H} {ps : List MemPlace}
    (hd : P.underlying td = some (.struct #[d0, d1, d2])) (hdone : oneCellFields P #[d0, d1, d2] = true) (hdC : P.cellsOf td = 3) (hd0 : d0.type = tn) (hd1 : P.underlying d1.type = some (.int .i64)) (hd2 : P.underlying d2.type = some (.int .i64))
    (hn : P.underlying tn = some (.struct #[n0])) (hnone : oneCellFields P #[n0] = true) (hnC : P.cellsOf tn = 1) (hn0 : n0.type = t)
    (ht : P.underlying t = some (.slice e)) (he : P.underlying e = some (.struct #[f0, f1, f2])) (hone : oneCellFields P #[f0, f1, f2] = true) (hC : P.cellsOf e = 3)
    (hf0 : f0.type = pt) (hpt : P.underlying pt = some (.slice pe)) (hpe : P.underlying pe = some (.struct #[g0, g1])) (hpone : oneCellFields P #[g0, g1] = true) (hpC : P.cellsOf pe = 2) (hg0 : P.underlying g0.type = some .bool) (hg1 : P.underlying g1.type = some .string)
    (h1 : P.underlying f1.type = some (.int .i64)) (h2 : P.underlying f2.type = some .bool) (hval : Value.okWide P w r b0 td v) (h : DataW.Trod enc P w base spare held td v d ps) :
    ∃ (A : Option Addr) (n cap : Nat) (X : List Bk) (now ret : Int), v = .agg #[.slice A n cap, .int .i64 now, .int .i64 ret] ∧ RdBk w w.heap.size A n X ∧ Wide X ∧ ((-9223372036854775808 ≤ now ∧ now ≤ 9223372036854775807) ∧ (-9223372036854775808 ≤ ret ∧ ret ≤ 9223372036854775807)) := by
  obtain ⟨cs, rfl, hsz⟩ := okWide_struct hd hval
  obtain ⟨fuel, hf⟩ := h
  obtain ⟨hcl, hfs⟩ := fields_of hd hdone hf hdC
  obtain ⟨u, y, m, hu, hy⟩ := hfs 0 d0 rfl
  obtain ⟨u1, y1, m1, hu1, hy1⟩ := hfs 1 d1 rfl
  obtain ⟨u2, y2, m2, hu2, hy2⟩ := hfs 2 d2 rfl
  rw [hd0] at hy
  obtain ⟨hcl', hfs'⟩ := fields_of hn hnone hy hnC
  obtain ⟨u', y', m', hu', hy'⟩ := hfs' 0 n0 rfl
  rw [hn0] at hy'
  obtain ⟨A, n, cap, X, rfl, hX, hW⟩ := open_blocks ht he hone hC hf0 hpt hpe hpone hpC hg0 hg1 h1 h2 hy'
  obtain rfl : u = .slice A n cap := by simpa using hu'
  obtain ⟨z1, hz1, -, hwf1⟩ := DataW.trod_int hd1 hy1
  obtain ⟨z2, hz2, -, hwf2⟩ := DataW.trod_int hd2 hy2
  simp only [List.cons.injEq, and_true] at hz1 hz2
  subst hz1 hz2
  simp only [Lit.wf, Bool.and_eq_true, decide_eq_true_eq] at hwf1 hwf2
  refine ⟨A, n, cap, X, z1, z2, ?_, hX, hW, ⟨hwf1.1, hwf1.2⟩, ⟨hwf2.1, hwf2.2⟩⟩
  obtain ⟨l⟩ := cs
  match l, hcl, hu, hu1, hu2 with
  | [c, c1, c2], _, hu, hu1, hu2 => simp [Value.cells] at hu hu1 hu2; rw [hu, hu1, hu2]
end

set_option maxRecDepth 100000 in
/-- a drive that comes in, at this program's types -/
theorem open_lawsDrive {H : Type} {enc : TypeId × Value → H} {w : World} {base : Nat} {spare : Nat → Bool} {held : Bool} {r : Reach} {b0 : Nat} {v : Value} {d : DataW H} {ps : List MemPlace}
    (hval : Value.okWide Tryz.prog w r b0 26 v) (h : DataW.Trod enc Tryz.prog w base spare held 26 v d ps) :
    ∃ (A : Option Addr) (n cap : Nat) (X : List Bk) (now ret : Int), v = .agg #[.slice A n cap, .int .i64 now, .int .i64 ret] ∧ RdBk w w.heap.size A n X ∧ Wide X ∧ ((-9223372036854775808 ≤ now ∧ now ≤ 9223372036854775807) ∧ (-9223372036854775808 ≤ ret ∧ ret ≤ 9223372036854775807)) :=
  open_drive Tryz.underlying26 (by kernel_rfl) (by kernel_rfl) rfl Tryz.underlying2 Tryz.underlying2 Tryz.underlying24 (by kernel_rfl) (by kernel_rfl) rfl Tryz.underlying22 Tryz.underlying139 (by kernel_rfl) (by kernel_rfl) rfl Tryz.underlying137 Tryz.underlying205 (by kernel_rfl) (by kernel_rfl)
    Tryz.underlying4 Tryz.underlying9 Tryz.underlying2 Tryz.underlying4 hval h
end Go.Proofs.YtohmkjgmhippoaaGreatDoor

namespace Go.Proofs.YtohmkjgmhippoaaGreatDoor
open Go.RowKit

set_option maxHeartbeats 1000000 in
theorem szDrive_any (A : Option Addr) (n ca : Nat) (X : List Bk) (now ret left : Int) (w : World) (h0 : 0 ≤ left) (h1 : left ≤ 1048576) (hX : Wide X) (hA : RdBk w w.heap.size A n X) :
    Calls Tryz.prog 15 #[.agg #[.slice A n ca, .int .i64 now, .int .i64 ret], .int .i64 left] w fun e w' => e = .returned (.int .i64 (szR (szBks X) left)) ∧ Below w.heap.size w w' := by
  have HA := Lib.hid hA; have HD := Lib.hid hX; clear hA hX
  go_enter Tryz.func15, Tryz.ntmps15
  go_wp2_with fail
  refine (szNand_any A n ca X left _ h0 h1 HD.out ?_).mono ?_
  · exact (HA.out.below ((Below.refl _ _).alloc (Nat.le_refl _) _)).mono (by simp)
  rintro e w4 ⟨rfl, hb4⟩
  have HB4 := Lib.hid (((Below.refl w.heap.size w).alloc (Nat.le_refl _) _).trans (hb4.mono (by simp)))
  clear hb4
  by_cases hc : ((szBks X : Nat) : Int) ≤ left
  · have hz := szR_ok hc
    have hnn : 0 ≤ left - (szBks X : Nat) := by omega
    go_wp2
    go_ret
    exact ⟨ret_i hz.symm, HB4.out⟩
  · have hz := szR_no (t := szBks X) (left := left) (by omega)
    go_wp2
    go_ret
    exact ⟨ret_i hz.symm, HB4.out⟩

set_option maxHeartbeats 1000000 in
theorem toDrive_any (A : Option Addr) (n ca : Nat) (X : List Bk) (now ret : Int) (w : World) (hn : n ≤ 2147483648) (hp : ∀ b ∈ X, b.pages.length ≤ 2147483648) (hA : RdBk w w.heap.size A n X) :
    Calls Tryz.prog 17 #[.agg #[.slice A n ca, .int .i64 now, .int .i64 ret]] w fun e w' => ∃ At : Option Addr, e = .returned (.agg #[.slice At n n, .int .i64 now, .int .i64 ret]) ∧ OwNd w' w.heap.size w'.heap.size At n X ∧ Below w.heap.size w w' := by
  have HA := Lib.hid hA; clear hA
  have HP := Lib.hid hp; clear hp
  go_enter Tryz.func17, Tryz.ntmps17
  go_wp2_with fail
  have hb0 : Below w.heap.size w (((w.alloc (.cells #[.slice A n ca, .int .i64 now, .int .i64 ret] 26)).alloc (.cells #[.slice none 0 0, .int .i64 0, .int .i64 0] 33)).alloc (.cells #[.slice none 0 0, .int .i64 0, .int .i64 0] 33)) := (((Below.refl _ _).alloc (Nat.le_refl _) _).alloc (by simp) _).alloc (by simp; omega) _
  have k0 := ((isBlk_new w 26 [.slice A n ca, .int .i64 now, .int .i64 ret]).alloc (.cells #[.slice none 0 0, .int .i64 0, .int .i64 0] 33)).alloc (.cells #[.slice none 0 0, .int .i64 0, .int .i64 0] 33)
  have k1 := (isBlk_new (w.alloc (.cells #[.slice A n ca, .int .i64 now, .int .i64 ret] 26)) 33 [.slice none 0 0, .int .i64 0, .int .i64 0]).alloc (.cells #[.slice none 0 0, .int .i64 0, .int .i64 0] 33)
  have k2 := isBlk_new ((w.alloc (.cells #[.slice A n ca, .int .i64 now, .int .i64 ret] 26)).alloc (.cells #[.slice none 0 0, .int .i64 0, .int .i64 0] 33)) 33 [.slice none 0 0, .int .i64 0, .int .i64 0]
  change IsBlk (((w.alloc (.cells #[.slice A n ca, .int .i64 now, .int .i64 ret] 26)).alloc (.cells #[.slice none 0 0, .int .i64 0, .int .i64 0] 33)).alloc (.cells #[.slice none 0 0, .int .i64 0, .int .i64 0] 33)) _ _ _ at k0 k1 k2
  simp only [size_alloc] at k0 k1 k2
  change Calls _ _ _ (((w.alloc (.cells #[.slice A n ca, .int .i64 now, .int .i64 ret] 26)).alloc (.cells #[.slice none 0 0, .int .i64 0, .int .i64 0] 33)).alloc (.cells #[.slice none 0 0, .int .i64 0, .int .i64 0] 33)) _
  generalize (((w.alloc (.cells #[.slice A n ca, .int .i64 now, .int .i64 ret] 26)).alloc (.cells #[.slice none 0 0, .int .i64 0, .int .i64 0] 33)).alloc (.cells #[.slice none 0 0, .int .i64 0, .int .i64 0] 33)) = U at *
  refine (toNand_any A n ca X U hn HP.out (rd_step HA.out hb0)).mono ?_
  rintro e w4 ⟨rfl, ho, hb4⟩
  generalize (some ⟨U.heap.size + 3, 0, none⟩ : Option Addr) = At at *
  have hs : w.heap.size + 3 ≤ U.heap.size := by have := k2.lt; omega
  have HB4 := Lib.hid (bel_step hb0 hb4)
  have HO := Lib.hid ho
  obtain ⟨c0, c1, c2, -, -, -⟩ := blk3 (k0.below hb4 k0.lt)
  obtain ⟨d0, d1, d2, fd0, fd1, fd2⟩ := blk3 (k1.below hb4 k1.lt)
  obtain ⟨e0, e1, e2, fe0, fe1, fe2⟩ := blk3 (k2.below hb4 k2.lt)
  clear ho hb4 k0 k1 k2 hb0
  go_wp2
  refine bodyPost_ret (v := .agg #[.slice At n n, .int .i64 now, .int .i64 ret]) (by simp [results, Tryz.results17, go_sem, d0, d1, d2]) rfl ⟨At, rfl, ?_, ?_⟩
  · refine (HO.out.mono (Nat.le_refl _) (by simp [World.setCell])).same ?_ |>.mono (by omega) (Nat.le_refl _)
    intro k h1 h2
    repeat rw [Below.heap_setCell _ _ _ _ (by dsimp only; omega)]
  · repeat (with_reducible refine Below.setCell ?_ ?_ _)
    all_goals first | exact HB4.out | (dsimp only; omega)

set_option maxHeartbeats 1000000 in
theorem eqDrive_same (A B : Option Addr) (n ca cb : Nat) (X : List Bk) (now ret : Int) (w : World) (hn : n ≤ 2147483648) (hp : ∀ b ∈ X, b.pages.length ≤ 2147483648) (hA : RdBk w w.heap.size A n X) (hB : RdBk w w.heap.size B n X) :
    Calls Tryz.prog 19 #[.agg #[.slice A n ca, .int .i64 now, .int .i64 ret], .agg #[.slice B n cb, .int .i64 now, .int .i64 ret]] w fun e w' => e = .returned (.bool true) ∧ Below w.heap.size w w' := by
  have HA := Lib.hid hA; have HB := Lib.hid hB; have HP := Lib.hid hp; clear hA hB hp
  go_enter Tryz.func19, Tryz.ntmps19
  go_wp2_with fail
  refine (eqNand_same A B n ca cb X _ hn HP.out ?_ ?_).mono ?_
  · exact (HA.out.below (((Below.refl _ _).alloc (Nat.le_refl _) _).alloc (by simp) _)).mono (by simp; omega)
  · exact (HB.out.below (((Below.refl _ _).alloc (Nat.le_refl _) _).alloc (by simp) _)).mono (by simp; omega)
  rintro e w4 ⟨rfl, hb4⟩
  have k0 := (((isBlk_new w 33 [Value.slice A n ca, .int .i64 now, .int .i64 ret]).alloc _).below hb4 (by simp; omega))
  have k1 := ((isBlk_new (w.alloc _) 33 [Value.slice B n cb, .int .i64 now, .int .i64 ret]).below hb4 (by simp))
  have HB4 := Lib.hid ((((Below.refl w.heap.size w).alloc (Nat.le_refl _) _).alloc (by simp) _).trans (hb4.mono (by simp; omega)))
  simp only [size_alloc] at k0 k1
  obtain ⟨c0, c1, c2, -, -, -⟩ := blk3 k0
  obtain ⟨d0, d1, d2, -, -, -⟩ := blk3 k1
  clear hb4 k0 k1
  go_wp2
  go_ret
  exact ⟨rfl, HB4.out⟩

set_option maxHeartbeats 1000000 in
theorem eqDriveOut_same (A B : Option Addr) (n ca cb : Nat) (X : List Bk) (now ret code : Int) (w : World) (hn : n ≤ 2147483648) (hp : ∀ b ∈ X, b.pages.length ≤ 2147483648) (hA : RdBk w w.heap.size A n X) (hB : RdBk w w.heap.size B n X) :
    Calls Tryz.prog 22 #[.agg #[.slice A n ca, .int .i64 now, .int .i64 ret, .int .i64 code], .agg #[.slice B n cb, .int .i64 now, .int .i64 ret, .int .i64 code]] w fun e w' => e = .returned (.bool true) ∧ Below w.heap.size w w' := by
  have HA := Lib.hid hA; have HB := Lib.hid hB; have HP := Lib.hid hp; clear hA hB hp
  go_enter Tryz.func22, Tryz.ntmps22
  go_wp2_with fail
  refine (eqDrive_same A B n ca cb X now ret _ hn HP.out ?_ ?_).mono ?_
  · exact (HA.out.below (((Below.refl _ _).alloc (Nat.le_refl _) _).alloc (by simp) _)).mono (by simp; omega)
  · exact (HB.out.below (((Below.refl _ _).alloc (Nat.le_refl _) _).alloc (by simp) _)).mono (by simp; omega)
  rintro e w4 ⟨rfl, hb4⟩
  have k0 := (((isBlk_new w 38 [Value.slice A n ca, .int .i64 now, .int .i64 ret, .int .i64 code]).alloc _).below hb4 (by simp; omega))
  have k1 := ((isBlk_new (w.alloc _) 38 [Value.slice B n cb, .int .i64 now, .int .i64 ret, .int .i64 code]).below hb4 (by simp))
  have HB4 := Lib.hid ((((Below.refl w.heap.size w).alloc (Nat.le_refl _) _).alloc (by simp) _).trans (hb4.mono (by simp; omega)))
  simp only [size_alloc] at k0 k1
  obtain ⟨c0, c1, c2, c3, -, -, -, -⟩ := blk4 k0
  obtain ⟨d0, d1, d2, d3, -, -, -, -⟩ := blk4 k1
  clear hb4 k0 k1
  go_wp2
  go_ret
  exact ⟨rfl, HB4.out⟩

set_option maxHeartbeats 1000000 in
theorem markDrive_any (A : Option Addr) (lo hi n ca k : Nat) (X : List Bk) (now ret : Int) (w : World) (hn : n ≤ 2097152) (hk : kAt X k n ≤ 16777216) (hh : hi ≤ w.heap.size) (hA : OwNd w lo hi A n X) :
    Calls Tryz.prog 27 #[.agg #[.slice A n ca, .int .i64 now, .int .i64 ret], .int .i64 (k : Int)] w fun e w' => e = .returned (.int .i64 ((kAt X k n : Nat) : Int)) ∧ MkNd w' lo hi A n X k ∧ Btw lo hi w w' := by
  have HA := Lib.hid hA; clear hA
  go_enter Tryz.func27, Tryz.ntmps27
  go_wp2_with fail
  refine (markNand_any A lo hi n ca k X _ hn hk (by simp; omega) (HA.out.below ((Below.refl _ _).alloc (Nat.le_refl _) _) hh)).mono ?_
  rintro e w1 ⟨rfl, h1, hb⟩
  have H1 := Lib.hid h1; have HB := Lib.hid ((Btw.of_below (lo := lo) (hi := hi) ((Below.refl w.heap.size w).alloc (Nat.le_refl _) _)).trans hb)
  clear h1 hb
  go_wp2
  go_ret
  exact ⟨rfl, H1.out, HB.out⟩

set_option maxHeartbeats 1000000 in
theorem markDriveOut_any (A : Option Addr) (lo hi n ca k : Nat) (X : List Bk) (now ret code : Int) (w : World) (hn : n ≤ 2097152) (hk : kAt X k n ≤ 16777216) (hh : hi ≤ w.heap.size) (hA : OwNd w lo hi A n X) :
    Calls Tryz.prog 23 #[.agg #[.slice A n ca, .int .i64 now, .int .i64 ret, .int .i64 code], .int .i64 (k : Int)] w fun e w' => e = .returned (.int .i64 ((kAt X k n : Nat) : Int)) ∧ MkNd w' lo hi A n X k ∧ Btw lo hi w w' := by
  have HA := Lib.hid hA; clear hA
  go_enter Tryz.func23, Tryz.ntmps23
  go_wp2_with fail
  refine (markDrive_any A lo hi n ca k X now ret _ hn hk (by simp; omega) (HA.out.below ((Below.refl _ _).alloc (Nat.le_refl _) _) hh)).mono ?_
  rintro e w1 ⟨rfl, h1, hb⟩
  have H1 := Lib.hid h1; have HB := Lib.hid ((Btw.of_below (lo := lo) (hi := hi) ((Below.refl w.heap.size w).alloc (Nat.le_refl _) _)).trans hb)
  clear h1 hb
  go_wp2
  go_ret
  exact ⟨rfl, H1.out, HB.out⟩

set_option maxHeartbeats 1000000 in
theorem heldDrive_any (A : Option Addr) (lo hi n ca k : Nat) (X : List Bk) (now ret : Int) (w : World) (hn : n ≤ 2097152) (hk : kAt X k n ≤ 16777216) (hh : hi ≤ w.heap.size) (hA : MkNd w lo hi A n X k) :
    Calls Tryz.prog 60 #[.agg #[.slice A n ca, .int .i64 now, .int .i64 ret], .int .i64 (k : Int)] w fun e w' => e = .returned (.int .i64 ((kAt X k n : Nat) : Int)) ∧ Below w.heap.size w w' := by
  have HA := Lib.hid hA; clear hA
  go_enter Tryz.func60, Tryz.ntmps60
  go_wp2_with fail
  refine (heldNand_any A lo hi n ca k X _ hn hk (by simp; omega) (HA.out.below ((Below.refl _ _).alloc (Nat.le_refl _) _) hh)).mono ?_
  rintro e w1 ⟨rfl, hb⟩
  have HB := Lib.hid (((Below.refl w.heap.size w).alloc (Nat.le_refl _) _).trans (hb.mono (by simp)))
  clear hb
  go_wp2
  go_ret
  exact ⟨rfl, HB.out⟩

set_option maxHeartbeats 1000000 in
theorem heldDriveOut_any (A : Option Addr) (lo hi n ca k : Nat) (X : List Bk) (now ret code : Int) (w : World) (hn : n ≤ 2097152) (hk : kAt X k n ≤ 16777216) (hh : hi ≤ w.heap.size) (hA : MkNd w lo hi A n X k) :
    Calls Tryz.prog 24 #[.agg #[.slice A n ca, .int .i64 now, .int .i64 ret, .int .i64 code], .int .i64 (k : Int)] w fun e w' => e = .returned (.int .i64 ((kAt X k n : Nat) : Int)) ∧ Below w.heap.size w w' := by
  have HA := Lib.hid hA; clear hA
  go_enter Tryz.func24, Tryz.ntmps24
  go_wp2_with fail
  refine (heldDrive_any A lo hi n ca k X now ret _ hn hk (by simp; omega) (HA.out.below ((Below.refl _ _).alloc (Nat.le_refl _) _) hh)).mono ?_
  rintro e w1 ⟨rfl, hb⟩
  have HB := Lib.hid (((Below.refl w.heap.size w).alloc (Nat.le_refl _) _).trans (hb.mono (by simp)))
  clear hb
  go_wp2
  go_ret
  exact ⟨rfl, HB.out⟩
end Go.Proofs.YtohmkjgmhippoaaGreatDoor

namespace Go.Proofs.YtohmkjgmhippoaaGreatDoor
open Go.RowKit
open Bt (Rc)

theorem isB_rc (lo hi n : Int) : isB lo hi n = rcIs lo hi n := rfl
/-- what l07Hist answers -/
def RetLh (w : World) (X : List Bk) (now ret : Int) (e : Ending) (w' : World) : Prop :=
  ∃ (Y : List Rc) (A : Option Addr) (c : Nat), e = .returned (.tuple #[.agg #[.slice A Y.length c], .bool (dvB X now ret)]) ∧ (dvB X now ret = true → Y = mntList X) ∧ OwRc w' w.heap.size w'.heap.size A Y.length Y ∧ Below w.heap.size w w'

theorem lh_keep {u w' : World} {b0 b1 : Nat} {e0 e1 : TypeId} {A B : Option Addr} {n c m d : Nat} {now ret cd : Int} (h0 : IsBlk u b0 e0 [.slice A n c, .int .i64 now, .int .i64 ret]) (h1 : IsBlk u b1 e1 [.slice B m d, .int .i64 cd]) (hb : Below u.heap.size u w') :
    w'.cell? ⟨b0, 1, none⟩ = some (.int .i64 now) ∧ w'.cell? ⟨b1, 0, none⟩ = some (.slice B m d) ∧ w'.cell? ⟨b1, 1, none⟩ = some (.int .i64 cd) :=
  ⟨(h0.below hb h0.lt).cell rfl, (h1.below hb h1.lt).cell rfl, (h1.below hb h1.lt).cell rfl⟩

set_option maxHeartbeats 4000000 in
set_option maxRecDepth 100000 in
theorem l07Hist_any (A : Option Addr) (n ca : Nat) (X : List Bk) (now ret : Int) (w : World) (hX : Small X) (hA : RdBk w w.heap.size A n X) :
    Calls Tryz.prog 51 #[.agg #[.slice A n ca, .int .i64 now, .int .i64 ret]] w (RetLh w X now ret) := by
  have HMT : Hid (∀ u, Below w.heap.size w u → Calls Tryz.prog 79 #[.agg #[.slice A n ca]] u (RetHO u (mntList X) (mntCode X))) := fun u hb => spec_mount A n ca X u hX (rd_step hA hb)
  have hb0 : Below w.heap.size w ((w.alloc (.cells #[.slice A n ca, .int .i64 now, .int .i64 ret] 33)).alloc (.cells #[.slice none 0 0] 64)) := ((Below.refl _ _).alloc (Nat.le_refl _) _).alloc (by simp) _
  have k0 := (isBlk_new w 33 [.slice A n ca, .int .i64 now, .int .i64 ret]).alloc (.cells #[.slice none 0 0] 64)
  have k1 := isBlk_new (w.alloc (.cells #[.slice A n ca, .int .i64 now, .int .i64 ret] 33)) 64 [.slice none 0 0]
  change IsBlk ((w.alloc (.cells #[.slice A n ca, .int .i64 now, .int .i64 ret] 33)).alloc (.cells #[.slice none 0 0] 64)) _ _ _ at k0 k1
  simp only [size_alloc] at k0 k1
  have HEND : Hid (∀ (u : World) (Y : List Rc) (A' : Option Addr) (c' : Nat) (D : Bool), dvB X now ret = D → (D = true → Y = mntList X) → OwRc u w.heap.size u.heap.size A' Y.length Y → Below w.heap.size w u → RetLh w X now ret (.returned (.tuple #[.agg #[.slice A' Y.length c'], .bool D])) u) := fun u Y A' c' D h1 h2 h3 h4 => by
    subst h1; exact ⟨Y, A', c', rfl, h2, h3, h4⟩
  clear hX hA
  go_enter Tryz.func51, Tryz.ntmps51
  go_wp2_with fail
  generalize (w.alloc (.cells #[.slice A n ca, .int .i64 now, .int .i64 ret] 33)).alloc (.cells #[.slice none 0 0] 64) = W at hb0 k0 k1 ⊢
  have HB0 := Lib.hid hb0; have HK0 := Lib.hid k0; have HK1 := Lib.hid k1
  have hlt1 := k1.lt
  obtain ⟨c0, c1, c2, -, -, -⟩ := blk3 k0
  have x0 : W.cell? ⟨w.heap.size + 1, 0, none⟩ = some (.slice none 0 0) := k1.cell rfl
  have xf0 : W.frozen? ⟨w.heap.size + 1, 0, none⟩ = false := k1.free
  clear hb0 k0 k1
  refine (l02Time_any now W).mono ?_
  rintro e u ⟨rfl, rfl⟩
  rw [isB_rc]
  by_cases g1 : rcIs 0 1000000 now = true
  case neg =>
    rw [Bool.not_eq_true] at g1
    have HF : Hid (dvB X now ret = false) := by show _ = false; unfold dvB; rw [g1]; rfl
    rw [g1]
    go_wp2
    refine bodyPost_ret (v := .tuple #[.agg #[.slice none 0 0], .bool false]) (by simp [results, Tryz.results51, go_sem, x0]) rfl ?_
    exact HEND.out _ [] none 0 false HF.out (fun h => by cases h) (ow_nilR _ _ _ _) (HB0.out.setCell (by dsimp only; omega) _)
  rw [g1]
  go_wp2_with fail
  refine (l02Time_any ret W).mono ?_
  rintro e u ⟨rfl, rfl⟩
  rw [isB_rc]
  by_cases g2 : rcIs 0 1000000 ret = true
  case neg =>
    rw [Bool.not_eq_true] at g2
    have HF : Hid (dvB X now ret = false) := by show _ = false; unfold dvB; rw [g2]; simp
    rw [g2]
    go_wp2
    refine bodyPost_ret (v := .tuple #[.agg #[.slice none 0 0], .bool false]) (by simp [results, Tryz.results51, go_sem, x0]) rfl ?_
    exact HEND.out _ [] none 0 false HF.out (fun h => by cases h) (ow_nilR _ _ _ _) (HB0.out.setCell (by dsimp only; omega) _)
  rw [g2]
  go_wp2_with fail
  refine (HMT.out W HB0.out).mono ?_
  rintro e w2 ⟨Am, cm, rfl, hom, hbm⟩
  have HBm := Lib.hid (bel_step HB0.out hbm)
  have HKm0 := Lib.hid (HK0.out.below hbm HK0.out.lt)
  have HKm1 := Lib.hid (HK1.out.below hbm HK1.out.lt)
  have HOm := Lib.hid hom
  have hsm := hbm.size
  have hlen := mntList_len X
  have HC0 : Hid (mntCode X ≠ 0 → dvB X now ret = false) := fun h => dvB_code h
  have HC1 : Hid (mntCode X = 0 → dvB X now ret = decide ((lastR (mntList X)).t ≤ now)) := fun h => by rw [dvB_ok h, g1, g2]; rfl
  have HYY : Hid (∀ D : Bool, D = true → mntList X = mntList X) := fun _ _ => rfl
  replace HEND : Hid (∀ (u : World) (A' : Option Addr) (c' : Nat) (D : Bool), dvB X now ret = D → OwRc u w.heap.size u.heap.size A' (mntList X).length (mntList X) → Below w.heap.size w u → RetLh w X now ret (.returned (.tuple #[.agg #[.slice A' (mntList X).length c'], .bool D])) u) := fun u A' c' D h1 h2 h3 => HEND.out u _ A' c' D h1 (fun _ => rfl) h2 h3
  generalize hY : mntList X = Y at *
  generalize hyl : Y.length = yl at *
  generalize hC : mntCode X = C at *
  have k4 := isBlk_new w2 113 [.slice Am yl cm, .int .i64 C]
  have hb4 := box_below w2 (.cells #[.slice Am yl cm, .int .i64 C] 113)
  change IsBlk (w2.alloc (.cells #[.slice Am yl cm, .int .i64 C] 113)) _ _ _ at k4
  clear hom hbm c0 c1 c2 x0 xf0 HMT
  go_wp2_with fail
  generalize w2.alloc (.cells #[.slice Am yl cm, .int .i64 C] 113) = w4 at k4 hb4 ⊢
  have HB4 := Lib.hid (bel_step HBm.out hb4)
  have HK4 := Lib.hid k4
  have HD4 := Lib.hid (HKm0.out.below hb4 HKm0.out.lt)
  have HR4 := Lib.hid (HKm1.out.below hb4 HKm1.out.lt)
  have HO4 := Lib.hid (HOm.out.below hb4 (Nat.le_refl _))
  have h24 : w2.heap.size < w4.heap.size := k4.lt
  have y0 : w4.cell? ⟨w2.heap.size, 0, none⟩ = some (.slice Am yl cm) := k4.cell rfl
  have y1 : w4.cell? ⟨w2.heap.size, 1, none⟩ = some (.int .i64 C) := k4.cell rfl
  have x0 : w4.cell? ⟨w.heap.size + 1, 0, none⟩ = some (.slice none 0 0) := HR4.out.cell rfl
  have xf0 : w4.frozen? ⟨w.heap.size + 1, 0, none⟩ = false := HR4.out.free
  clear k4 hb4
  by_cases hc : C = 0
  case neg =>
    have hce : (C == 0) = false := by simpa using hc
    have HF := Lib.hid (HC0.out hc)
    first | go_region | fail "no"
    all_goals
      go_wp2
      refine bodyPost_ret (v := .tuple #[.agg #[.slice Am yl cm], .bool false]) (by simp [results, Tryz.results51, go_sem, x0]) rfl ?_
      refine HEND.out _ Am cm false HF.out ?_ ?_
      · refine (HO4.out.mono (Nat.le_refl _) (by simp [World.setCell]; omega)).same ?_ |>.mono (by have := HB0.out.size; omega) (Nat.le_refl _)
        intro k h1 h2
        first | rw [Below.heap_setCell _ _ _ _ (by dsimp only; omega)] | exact Below.heap_setCell _ _ _ _ (by dsimp only; omega)
      · first | exact (HB4.out.setCell (by dsimp only; omega) _).drew | exact HB4.out.drew.setCell (by dsimp only; omega) _
  subst hc
  replace HC1 := Lib.hid (HC1.out rfl)
  have hf := recField_3
  have HLS : Hid (∀ u, Below w4.heap.size w4 u → Calls Tryz.prog 80 #[.agg #[.slice Am yl cm]] u fun e w' => e = .returned (recV (lastR Y)) ∧ Below u.heap.size u w') := fun u hb => l04Last_any Am yl cm Y u (by omega) ((HO4.out.below hb (by omega)).rd (by have := hb.size; omega))
  generalize lastR Y = L at *
  have hne : ¬ w.heap.size + 1 = w2.heap.size := by have := HKm1.out.lt; omega
  have hne' : ¬ w2.heap.size = w.heap.size + 1 := by have := HKm1.out.lt; omega
  have hd4 : w4.cell? ⟨w.heap.size, 1, none⟩ = some (.int .i64 now) := HD4.out.cell rfl
  go_region_held3 (fun w' => w'.cell? ⟨w.heap.size, 1, none⟩ = some (.int .i64 now) ∧ w'.cell? ⟨w2.heap.size, 0, none⟩ = some (.slice Am yl cm) ∧ w'.cell? ⟨w2.heap.size, 1, none⟩ = some (.int .i64 0))
    (first | exact ⟨hd4, y0, y1⟩ | exact hsu | go_keep)
    ((go_at_call 80
      refine (HLS.out _ (by first | exact (Below.refl _ _).drew | exact ((Below.refl _ _).drew.setCell (by dsimp only; omega) _))).mono ?_
      rintro e u ⟨rfl, hbu⟩
      have hbu' : Below w4.heap.size w4 u := bel_step (Below.refl _ _).drew hbu
      have hsu := lh_keep HD4.out HK4.out hbu'
      have hru := HR4.out.below hbu' HR4.out.lt
      have z0 : u.cell? ⟨w.heap.size + 1, 0, none⟩ = some (.slice none 0 0) := hru.cell rfl
      have zf0 : u.frozen? ⟨w.heap.size + 1, 0, none⟩ = false := hru.free
      have HBu := Lib.hid hbu'
      clear hbu hbu' hru))
  all_goals
    go_wp2
    refine bodyPost_ret (v := .tuple #[.agg #[.slice Am yl cm], .bool (decide (L.t ≤ now))]) (by simp [results, Tryz.results51, go_sem, z0]) rfl ?_
    have hus := HBu.out.size
    refine HEND.out _ Am cm _ HC1.out ?_ ((bel_step HB4.out HBu.out).setCell (by dsimp only; omega) _)
    refine ((HO4.out.below HBu.out (by omega)).mono (Nat.le_refl _) (show _ ≤ _ by simp [World.setCell]; omega)).same ?_ |>.mono (by have := HB0.out.size; omega) (Nat.le_refl _)
    intro k h1 h2
    exact Below.heap_setCell _ _ _ _ (by dsimp only; omega)

set_option maxHeartbeats 1000000 in
set_option maxRecDepth 100000 in
theorem spec_driveRight (A : Option Addr) (n ca : Nat) (X : List Bk) (now ret : Int) (w : World) (hX : Small X) (hA : RdBk w w.heap.size A n X) :
    Calls Tryz.prog 16 #[.agg #[.slice A n ca, .int .i64 now, .int .i64 ret]] w fun e w' => e = .returned (.bool (dvB X now ret)) ∧ Below w.heap.size w w' := by
  have hb0 := box_below w (.cells #[.slice A n ca, .int .i64 now, .int .i64 ret] 33)
  have HLH := Lib.hid (l07Hist_any A n ca X now ret (w.alloc (.cells #[.slice A n ca, .int .i64 now, .int .i64 ret] 33)) hX (rd_step hA hb0))
  have HB0 := Lib.hid hb0
  clear hX hA hb0
  go_enter Tryz.func16, Tryz.ntmps16
  go_wp2_with fail
  refine HLH.out.mono ?_
  rintro e u ⟨Y, A', c', rfl, -, -, hbu⟩
  have HB := Lib.hid (bel_step HB0.out hbu)
  generalize Y.length = yl at *
  generalize hD : dvB X now ret = D at *
  clear hbu
  go_wp2
  go_ret
  exact ⟨by rw [hD]; rfl, HB.out.alloc HB.out.size _⟩

set_option maxHeartbeats 1000000 in
set_option maxRecDepth 100000 in
theorem l07Ill_any (c : Int) (w : World) :
    Calls Tryz.prog 57 #[.int .i64 c] w fun e w' => e = .returned (.agg #[.slice none 0 0, .int .i64 0, .int .i64 0, .int .i64 c]) ∧ Below w.heap.size w w' := by
  go_enter Tryz.func57, Tryz.ntmps57
  go_wp2
  refine bodyPost_ret (v := .agg #[.slice none 0 0, .int .i64 0, .int .i64 0, .int .i64 c]) (by simp [results, Tryz.results57, go_sem]) rfl ⟨rfl, ?_⟩
  exact (Below.refl _ _).alloc (Nat.le_refl _) _

set_option maxHeartbeats 1000000 in
set_option maxRecDepth 100000 in
theorem l07With_any (A : Option Addr) (n ca : Nat) (now ret : Int) (A' : Option Addr) (c' : Nat) (r : NdAns) (w : World) (lo hi : Nat) (hhi : hi ≤ w.heap.size) (ho : OwNd w lo hi A' r.nd.length r.nd) :
    Calls Tryz.prog 70 #[.agg #[.slice A n ca, .int .i64 now, .int .i64 ret], .agg #[.slice A' r.nd.length c', .string r.data, .int .i64 r.code]] w fun e w' =>
      ∃ (A2 : Option Addr) (c2 : Nat), e = .returned (.agg #[.slice A2 (dvWith now ret r).nd.length c2, .int .i64 (dvWith now ret r).now, .int .i64 (dvWith now ret r).ret, .int .i64 (dvWith now ret r).code]) ∧ OwNd w' lo hi A2 (dvWith now ret r).nd.length (dvWith now ret r).nd ∧ Below w.heap.size w w' := by
  have HO := Lib.hid ho
  clear ho
  obtain ⟨nd, da, cd⟩ := r
  simp only at *
  by_cases hc : cd = 0
  · subst hc
    have HE : Hid (dvWith now ret ⟨nd, da, 0⟩ = ⟨nd, now, ret, 0⟩) := by show _ = _; unfold dvWith; rw [if_pos rfl]
    rw [HE.out]
    simp only
    generalize hzl : nd.length = zl at *
    go_enter Tryz.func70, Tryz.ntmps70
    go_wp2
    refine bodyPost_ret (v := .agg #[.slice A' zl c', .int .i64 now, .int .i64 ret, .int .i64 0]) (by simp [results, Tryz.results70, go_sem]) rfl ⟨A', c', rfl, ?_, ?_⟩
    · exact HO.out.below ((((Below.refl _ _).alloc (Nat.le_refl _) _).alloc (by simp) _).alloc (by simp; omega) _) hhi
    · exact (((Below.refl _ _).alloc (Nat.le_refl _) _).alloc (by simp) _).alloc (by simp; omega) _
  · have HE : Hid (dvWith now ret ⟨nd, da, cd⟩ = dvIll cd) := by show _ = _; unfold dvWith; rw [if_neg hc]
    rw [HE.out]
    simp only [dvIll, List.length_nil]
    generalize hzl : nd.length = zl at *
    have hce : (cd != 0) = true := by simpa using hc
    go_enter Tryz.func70, Tryz.ntmps70
    go_wp2_with fail
    have hb0 : Below w.heap.size w (((w.alloc (.cells #[.slice A n ca, .int .i64 now, .int .i64 ret] 33)).alloc (.cells #[.slice A' zl c', .string da, .int .i64 cd] 99)).alloc (.cells #[.slice none 0 0, .int .i64 0, .int .i64 0, .int .i64 0] 38)) := (((Below.refl _ _).alloc (Nat.le_refl _) _).alloc (by simp) _).alloc (by simp; omega) _
    have k2 := isBlk_new ((w.alloc (.cells #[.slice A n ca, .int .i64 now, .int .i64 ret] 33)).alloc (.cells #[.slice A' zl c', .string da, .int .i64 cd] 99)) 38 [.slice none 0 0, .int .i64 0, .int .i64 0, .int .i64 0]
    change IsBlk (((w.alloc (.cells #[.slice A n ca, .int .i64 now, .int .i64 ret] 33)).alloc (.cells #[.slice A' zl c', .string da, .int .i64 cd] 99)).alloc (.cells #[.slice none 0 0, .int .i64 0, .int .i64 0, .int .i64 0] 38)) _ _ _ at k2
    simp only [size_alloc] at k2
    generalize (((w.alloc (.cells #[.slice A n ca, .int .i64 now, .int .i64 ret] 33)).alloc (.cells #[.slice A' zl c', .string da, .int .i64 cd] 99)).alloc (.cells #[.slice none 0 0, .int .i64 0, .int .i64 0, .int .i64 0] 38)) = W at hb0 k2 ⊢
    refine (l07Ill_any cd W).mono ?_
    rintro e u ⟨rfl, hbu⟩
    have HB := Lib.hid (bel_step hb0 hbu)
    obtain ⟨d0, d1, d2, d3, fd0, fd1, fd2, fd3⟩ := blk4 (k2.below hbu k2.lt)
    clear hb0 hbu k2
    go_wp2
    refine bodyPost_ret (v := .agg #[.slice none 0 0, .int .i64 0, .int .i64 0, .int .i64 cd]) (by simp [results, Tryz.results70, go_sem, d0, d1, d2, d3]) rfl ⟨none, 0, rfl, ow_nil _ _ _ _, ?_⟩
    repeat (with_reducible refine Below.setCell ?_ ?_ _)
    all_goals first | exact HB.out | (dsimp only; omega)

theorem pt_keep {u w' : World} {b0 b1 : Nat} {e0 e1 : TypeId} {A : Option Addr} {n c : Nat} {now ret k s q t o : Int} {d : ByteArray} (h0 : IsBlk u b0 e0 [.slice A n c, .int .i64 now, .int .i64 ret]) (h1 : IsBlk u b1 e1 [.int .i64 k, .int .i64 s, .int .i64 q, .int .i64 t, .int .i64 o, .string d]) (hb : Below u.heap.size u w') :
    w'.cell? ⟨b0, 0, none⟩ = some (.slice A n c) ∧ w'.cell? ⟨b0, 1, none⟩ = some (.int .i64 now) ∧ w'.cell? ⟨b0, 2, none⟩ = some (.int .i64 ret) ∧ w'.cell? ⟨b1, 0, none⟩ = some (.int .i64 k) ∧ w'.cell? ⟨b1, 1, none⟩ = some (.int .i64 s) ∧ w'.cell? ⟨b1, 2, none⟩ = some (.int .i64 q) ∧ w'.cell? ⟨b1, 3, none⟩ = some (.int .i64 t) ∧ w'.cell? ⟨b1, 4, none⟩ = some (.int .i64 o) ∧ w'.cell? ⟨b1, 5, none⟩ = some (.string d) ∧ Hid (Below u.heap.size u w') :=
  ⟨(h0.below hb h0.lt).cell rfl, (h0.below hb h0.lt).cell rfl, (h0.below hb h0.lt).cell rfl, (h1.below hb h1.lt).cell rfl, (h1.below hb h1.lt).cell rfl, (h1.below hb h1.lt).cell rfl, (h1.below hb h1.lt).cell rfl, (h1.below hb h1.lt).cell rfl, (h1.below hb h1.lt).cell rfl, hb⟩
theorem pt_of {u w' : World} {a b c d e f g h i : Prop} (x : a ∧ b ∧ c ∧ d ∧ e ∧ f ∧ g ∧ h ∧ i ∧ Hid (Below u.heap.size u w')) : Below u.heap.size u w' := x.2.2.2.2.2.2.2.2.2.out
theorem and_nine {a b c d e f g h i j : Prop} (x : a ∧ b ∧ c ∧ d ∧ e ∧ f ∧ g ∧ h ∧ i ∧ j) : a ∧ b ∧ c ∧ d ∧ e ∧ f ∧ g ∧ h ∧ i :=
  ⟨x.1, x.2.1, x.2.2.1, x.2.2.2.1, x.2.2.2.2.1, x.2.2.2.2.2.1, x.2.2.2.2.2.2.1, x.2.2.2.2.2.2.2.1, x.2.2.2.2.2.2.2.2.1⟩
theorem lastR_qq {Y : List Rc} (h : hRight Y = true) : 0 ≤ (lastR Y).q ∧ (lastR Y).q ≤ 1000000 := by
  unfold lastR
  by_cases hl : Y.length = 0
  · rw [List.getD_eq_getElem?_getD, List.getElem?_eq_none (by omega)]
    show (0 : Int) ≤ 0 ∧ (0 : Int) ≤ 1000000
    omega
  · obtain ⟨h1, -, -⟩ := hRight_at h (k := Y.length - 1) (by omega)
    obtain ⟨-, -, -, -, q1, q2, -⟩ := h1
    exact ⟨by omega, q2⟩

set_option maxHeartbeats 4000000 in
set_option maxRecDepth 100000 in
theorem l07Put_any (A Ah : Option Addr) (n ca ch : Nat) (X : List Bk) (r : Rc) (now ret : Int) (w : World) (hc : mntCode X = 0) (hOk : (lastR (mntList X)).q < 1000000 → (dvRec (mntList X) now r).Ok) (hA : RdBk w w.heap.size A n X) (hR : RdRc w w.heap.size Ah (mntList X).length (mntList X)) :
    Calls Tryz.prog 64 #[.agg #[.slice A n ca, .int .i64 now, .int .i64 ret], .agg #[.slice Ah (mntList X).length ch], recV r] w (RetDv w (dvPut X now ret r)) := by
  obtain ⟨z1, z2, z3⟩ := mnt_zero hc
  have hq := lastR_qq z3
  have hlen := mntList_len X
  have HLS : Hid (∀ u : World, Below w.heap.size w u → Calls Tryz.prog 80 #[.agg #[.slice Ah (mntList X).length ch]] u fun e w' => e = .returned (recV (lastR (mntList X))) ∧ Below u.heap.size u w') := fun u hb => l04Last_any Ah _ ch (mntList X) u (by omega) ((hR.below hb).mono hb.size)
  have HFULL : Hid (1000000 ≤ (lastR (mntList X)).q ∨ 48 ≤ (mntList X).length → dvPut X now ret r = dvIll 9) := fun h => by unfold dvPut; rw [if_pos h]
  have HPUT : Hid (¬ (1000000 ≤ (lastR (mntList X)).q ∨ 48 ≤ (mntList X).length) → dvPut X now ret r = dvWith now ret (putAns X 1 (bstr (dvRec (mntList X) now r).bytes))) := fun h => by unfold dvPut; rw [if_neg h]
  have HBY : Hid ((lastR (mntList X)).q < 1000000 → ∀ u : World, Calls Tryz.prog 91 #[.agg #[.int .i64 r.k, .int .i64 r.s, .int .i64 ((lastR (mntList X)).q + 1), .int .i64 now, .int .i64 r.o, .string r.d]] u fun e w' => e = .returned (.string (bstr (dvRec (mntList X) now r).bytes)) ∧ Below u.heap.size u w') := fun hl u => l03Bytes_any (dvRec (mntList X) now r) u (hOk hl)
  have HAPP : Hid (∀ (D : ByteArray) (u : World), Below w.heap.size w u → Calls Tryz.prog 90 #[.agg #[.slice A n ca], .string D, .int .i64 1] u (RetAns u (putAns X 1 D))) := fun D u hb => l05Append_any A n ca X D 1 u z1 (small_ok z1) (rd_step hA hb)
  generalize dvPut X now ret r = R at *
  generalize bstr (dvRec (mntList X) now r).bytes = DD at *
  replace HAPP := Lib.hid (HAPP.out DD)
  generalize putAns X 1 DD = Q at *
  generalize lastR (mntList X) = L at *
  generalize (mntList X).length = yl at *
  clear hc hOk hA hR z1 z2 z3
  obtain ⟨k, s, sq, ti, o, d⟩ := r
  simp only at *
  obtain ⟨lk, ls, lq, lt, lo, ld⟩ := L
  simp only at *
  have hf := recField_2
  have hb0 : Below w.heap.size w ((((w.alloc (.cells #[.slice A n ca, .int .i64 now, .int .i64 ret] 33)).alloc (.cells #[.slice Ah yl ch] 64)).alloc (.cells #[.int .i64 k, .int .i64 s, .int .i64 sq, .int .i64 ti, .int .i64 o, .string d] 80)).alloc (.cells #[.slice none 0 0, .int .i64 0, .int .i64 0, .int .i64 0] 38)) := ((((Below.refl _ _).alloc (Nat.le_refl _) _).alloc (by simp) _).alloc (by simp; omega) _).alloc (by simp; omega) _
  have k0 := (((isBlk_new w 33 [.slice A n ca, .int .i64 now, .int .i64 ret]).alloc (.cells #[.slice Ah yl ch] 64)).alloc (.cells #[.int .i64 k, .int .i64 s, .int .i64 sq, .int .i64 ti, .int .i64 o, .string d] 80)).alloc (.cells #[.slice none 0 0, .int .i64 0, .int .i64 0, .int .i64 0] 38)
  have k1 := ((isBlk_new (w.alloc (.cells #[.slice A n ca, .int .i64 now, .int .i64 ret] 33)) 64 [.slice Ah yl ch]).alloc (.cells #[.int .i64 k, .int .i64 s, .int .i64 sq, .int .i64 ti, .int .i64 o, .string d] 80)).alloc (.cells #[.slice none 0 0, .int .i64 0, .int .i64 0, .int .i64 0] 38)
  have k2 := (isBlk_new ((w.alloc (.cells #[.slice A n ca, .int .i64 now, .int .i64 ret] 33)).alloc (.cells #[.slice Ah yl ch] 64)) 80 [.int .i64 k, .int .i64 s, .int .i64 sq, .int .i64 ti, .int .i64 o, .string d]).alloc (.cells #[.slice none 0 0, .int .i64 0, .int .i64 0, .int .i64 0] 38)
  have k3 := isBlk_new (((w.alloc (.cells #[.slice A n ca, .int .i64 now, .int .i64 ret] 33)).alloc (.cells #[.slice Ah yl ch] 64)).alloc (.cells #[.int .i64 k, .int .i64 s, .int .i64 sq, .int .i64 ti, .int .i64 o, .string d] 80)) 38 [.slice none 0 0, .int .i64 0, .int .i64 0, .int .i64 0]
  change IsBlk ((((w.alloc (.cells #[.slice A n ca, .int .i64 now, .int .i64 ret] 33)).alloc (.cells #[.slice Ah yl ch] 64)).alloc (.cells #[.int .i64 k, .int .i64 s, .int .i64 sq, .int .i64 ti, .int .i64 o, .string d] 80)).alloc (.cells #[.slice none 0 0, .int .i64 0, .int .i64 0, .int .i64 0] 38)) _ _ _ at k0 k1 k2 k3
  simp only [size_alloc] at k0 k1 k2 k3
  go_enter Tryz.func64, Tryz.ntmps64
  go_wp2_with fail
  generalize ((((w.alloc (.cells #[.slice A n ca, .int .i64 now, .int .i64 ret] 33)).alloc (.cells #[.slice Ah yl ch] 64)).alloc (.cells #[.int .i64 k, .int .i64 s, .int .i64 sq, .int .i64 ti, .int .i64 o, .string d] 80)).alloc (.cells #[.slice none 0 0, .int .i64 0, .int .i64 0, .int .i64 0] 38)) = W at hb0 k0 k1 k2 k3 ⊢
  refine (HLS.out W hb0).mono ?_
  rintro e w2 ⟨rfl, hb2⟩
  have HB2 := Lib.hid (bel_step hb0 hb2)
  have HK0 := Lib.hid (k0.below hb2 k0.lt); have HK1 := Lib.hid (k1.below hb2 k1.lt); have HK2 := Lib.hid (k2.below hb2 k2.lt); have HK3 := Lib.hid (k3.below hb2 k3.lt)
  have h2l := HK3.out.lt
  clear hb0 k0 k1 k2 k3 hb2 HLS
  have y0 : w2.cell? ⟨w.heap.size + 1, 0, none⟩ = some (.slice Ah yl ch) := HK1.out.cell rfl
  by_cases g : 1000000 ≤ lq ∨ 48 ≤ yl
  · have HF := HFULL.out g
    subst HF
    obtain ⟨d0, d1, d2, d3, fd0, fd1, fd2, fd3⟩ := blk4 HK3.out
    have HEND : Hid (∀ u, Below w2.heap.size w2 u → ∀ x y z t : Value, RetDv w (dvIll 9) (.returned (.agg #[.slice none 0 0, .int .i64 0, .int .i64 0, .int .i64 9])) ((((u.setCell ⟨w.heap.size + 1 + 1 + 1, 0, none⟩ x).setCell ⟨w.heap.size + 1 + 1 + 1, 1, none⟩ y).setCell ⟨w.heap.size + 1 + 1 + 1, 2, none⟩ z).setCell ⟨w.heap.size + 1 + 1 + 1, 3, none⟩ t)) := fun u hb x y z t =>
      ⟨none, 0, rfl, ow_nil _ _ _ _, ((((bel_step HB2.out hb).setCell (p := ⟨w.heap.size + 1 + 1 + 1, 0, none⟩) (by dsimp only; omega) _).setCell (p := ⟨w.heap.size + 1 + 1 + 1, 1, none⟩) (by dsimp only; omega) _).setCell (p := ⟨w.heap.size + 1 + 1 + 1, 2, none⟩) (by dsimp only; omega) _).setCell (p := ⟨w.heap.size + 1 + 1 + 1, 3, none⟩) (by dsimp only; omega) _⟩
    by_cases g1 : 1000000 ≤ lq
    · go_wp2_with fail
      refine (l07Ill_any 9 _).mono ?_
      rintro e u ⟨rfl, hbu⟩
      have HBu := Lib.hid hbu
      obtain ⟨d0, d1, d2, d3, fd0, fd1, fd2, fd3⟩ := blk4 (HK3.out.below hbu HK3.out.lt)
      clear hbu
      go_wp2
      refine bodyPost_ret (v := .agg #[.slice none 0 0, .int .i64 0, .int .i64 0, .int .i64 9]) (by simp [results, Tryz.results64, go_sem, d0, d1, d2, d3]) rfl ?_
      exact HEND.out _ HBu.out _ _ _ _
    · have g2 : (48 : Int) ≤ (yl : Int) := by omega
      go_wp2_with fail
      refine (l07Ill_any 9 _).mono ?_
      rintro e u ⟨rfl, hbu⟩
      have HBu := Lib.hid hbu
      obtain ⟨d0, d1, d2, d3, fd0, fd1, fd2, fd3⟩ := blk4 (HK3.out.below hbu HK3.out.lt)
      clear hbu
      go_wp2
      refine bodyPost_ret (v := .agg #[.slice none 0 0, .int .i64 0, .int .i64 0, .int .i64 9]) (by simp [results, Tryz.results64, go_sem, d0, d1, d2, d3]) rfl ?_
      exact HEND.out _ HBu.out _ _ _ _
  have g1 : ¬ 1000000 ≤ lq := by omega
  have g2 : ¬ (48 : Int) ≤ (yl : Int) := by omega
  have HF := HPUT.out g
  subst HF
  replace HBY := Lib.hid (HBY.out (by omega))
  have r2 : w2.cell? ⟨w.heap.size + 1 + 1, 2, none⟩ = some (.int .i64 sq) := HK2.out.cell rfl
  have r3 : w2.cell? ⟨w.heap.size + 1 + 1, 3, none⟩ = some (.int .i64 ti) := HK2.out.cell rfl
  have rf2 : w2.frozen? ⟨w.heap.size + 1 + 1, 2, none⟩ = false := HK2.out.free
  have rf3 : w2.frozen? ⟨w.heap.size + 1 + 1, 3, none⟩ = false := HK2.out.free
  have e1 : w2.cell? ⟨w.heap.size, 1, none⟩ = some (.int .i64 now) := HK0.out.cell rfl
  go_wp2_with fail
  have k2 := (HK2.out.set (j := 2) (.int .i64 (lq + 1))).set (j := 3) (.int .i64 now)
  have k0 := (HK0.out.other (a := ⟨w.heap.size + 1 + 1, 2, none⟩) (by dsimp only; omega) (.int .i64 (lq + 1))).other (a := ⟨w.heap.size + 1 + 1, 3, none⟩) (by dsimp only; omega) (.int .i64 now)
  have k3 := (HK3.out.other (a := ⟨w.heap.size + 1 + 1, 2, none⟩) (by dsimp only; omega) (.int .i64 (lq + 1))).other (a := ⟨w.heap.size + 1 + 1, 3, none⟩) (by dsimp only; omega) (.int .i64 now)
  have hb3 := (HB2.out.setCell (p := ⟨w.heap.size + 1 + 1, 2, none⟩) (by dsimp only; omega) (.int .i64 (lq + 1))).setCell (p := ⟨w.heap.size + 1 + 1, 3, none⟩) (by dsimp only; omega) (.int .i64 now)
  generalize (w2.setCell ⟨w.heap.size + 1 + 1, 2, none⟩ (.int .i64 (lq + 1))).setCell ⟨w.heap.size + 1 + 1, 3, none⟩ (.int .i64 now) = w3 at k0 k2 k3 hb3 ⊢
  change IsBlk w3 _ _ [.int .i64 k, .int .i64 s, .int .i64 (lq + 1), .int .i64 now, .int .i64 o, .string d] at k2
  have HB3 := Lib.hid hb3; have HD3 := Lib.hid k0; have HR3 := Lib.hid k2; have HU3 := Lib.hid k3
  have h3l := k3.lt
  have hne : ¬ w.heap.size + 1 + 1 + 1 = w.heap.size := by omega
  clear k0 k2 k3 hb3 y0 r2 r3 rf2 rf3 e1 HK0 HK1 HK2 HK3 HB2 HPUT HFULL
  go_region_held3 (fun w' => w'.cell? ⟨w.heap.size, 0, none⟩ = some (.slice A n ca) ∧ w'.cell? ⟨w.heap.size, 1, none⟩ = some (.int .i64 now) ∧ w'.cell? ⟨w.heap.size, 2, none⟩ = some (.int .i64 ret) ∧ w'.cell? ⟨w.heap.size + 1 + 1, 0, none⟩ = some (.int .i64 k) ∧ w'.cell? ⟨w.heap.size + 1 + 1, 1, none⟩ = some (.int .i64 s) ∧ w'.cell? ⟨w.heap.size + 1 + 1, 2, none⟩ = some (.int .i64 (lq + 1)) ∧ w'.cell? ⟨w.heap.size + 1 + 1, 3, none⟩ = some (.int .i64 now) ∧ w'.cell? ⟨w.heap.size + 1 + 1, 4, none⟩ = some (.int .i64 o) ∧ w'.cell? ⟨w.heap.size + 1 + 1, 5, none⟩ = some (.string d))
    (first | exact and_nine (pt_keep HD3.out HR3.out (Below.refl _ _)) | exact and_nine (pt_keep HD3.out HR3.out (Below.refl _ _).drew) | exact hsx | exact hsy | exact hsz | go_keep)
    (first
      | (go_at_call 91
         refine (HBY.out _).mono ?_
         rintro e x ⟨rfl, hbx⟩
         have HBx : Hid (Below w3.heap.size w3 x) := bel_step (Below.refl _ _).drew hbx
         have hsx := and_nine (pt_keep HD3.out HR3.out HBx.out)
         clear hbx)
      | (go_at_call 90
         refine (HAPP.out _ (bel_step HB3.out HBx.out)).mono ?_
         rintro e y ⟨Ay, cy, rfl, hoy, hby⟩
         have HBy : Hid (Below w3.heap.size w3 y) := bel_step HBx.out hby
         have HOy := Lib.hid hoy
         have hsy := and_nine (pt_keep HD3.out HR3.out HBy.out)
         clear hby hoy)
      | (go_at_call 70
         refine (l07With_any A n ca now ret Ay cy Q y x.heap.size y.heap.size (Nat.le_refl _) HOy.out).mono ?_
         rintro e z ⟨Az, cz, rfl, hoz, hbz⟩
         have HBz : Hid (Below w3.heap.size w3 z) := bel_step HBy.out hbz
         have HOz := Lib.hid hoz
         have hsz := and_nine (pt_keep HD3.out HR3.out HBz.out)
         have hxx := HBx.out.size
         have hyz := hbz.size
         obtain ⟨d0, d1, d2, d3, fd0, fd1, fd2, fd3⟩ := blk4 (HU3.out.below HBz.out HU3.out.lt)
         clear hbz hoz))
  all_goals
    generalize hDD : dvWith now ret Q = D at *
    obtain ⟨nd, tn, tr, dc⟩ := D
    simp only at *
    generalize hzl : nd.length = zl at *
    go_wp2
    refine bodyPost_ret (v := .agg #[.slice Az zl cz, .int .i64 tn, .int .i64 tr, .int .i64 dc]) (by simp [results, Tryz.results64, go_sem, d0, d1, d2, d3]) rfl ?_
    try rw [hDD]
    subst hzl
    refine ⟨Az, cz, rfl, ?_, ?_⟩
    · have hyz' := HBz.out.size
      have h30 := HB3.out.size
      refine (HOz.out.mono (Nat.le_refl _) (show _ ≤ _ by simp [World.setCell]; omega)).same ?_ |>.mono (by omega) (Nat.le_refl _)
      intro k h1 h2
      repeat rw [Below.heap_setCell _ _ _ _ (by dsimp only; omega)]
    · repeat (with_reducible refine Below.setCell ?_ ?_ _)
      all_goals first | exact bel_step HB3.out HBz.out | (dsimp only; omega)
end Go.Proofs.YtohmkjgmhippoaaGreatDoor

namespace Go.Proofs.YtohmkjgmhippoaaGreatDoor
open Go.RowKit
open Bt (Rc)

/-- an answer laid into its box -/
theorem dv_ends {w u : World} {b lo hi : Nat} {A : Option Addr} {c : Nat} {D : Dv} (hO : OwNd u lo hi A D.nd.length D.nd) (hlo : b < lo) (hwl : w.heap.size ≤ lo) (hhi : hi ≤ u.heap.size) (hB : Below w.heap.size w u) (h1 : w.heap.size ≤ b) (x y z t : Value) :
    RetDv w D (.returned (.agg #[.slice A D.nd.length c, .int .i64 D.now, .int .i64 D.ret, .int .i64 D.code])) ((((u.setCell ⟨b, 0, none⟩ x).setCell ⟨b, 1, none⟩ y).setCell ⟨b, 2, none⟩ z).setCell ⟨b, 3, none⟩ t) := by
  refine ⟨A, c, rfl, ?_, (((hB.setCell (p := ⟨b, 0, none⟩) h1 _).setCell (p := ⟨b, 1, none⟩) h1 _).setCell (p := ⟨b, 2, none⟩) h1 _).setCell (p := ⟨b, 3, none⟩) h1 _⟩
  refine (hO.mono (Nat.le_refl _) (show hi ≤ _ by simp [World.setCell]; omega)).same ?_ |>.mono hwl (Nat.le_refl _)
  intro k h1 h2
  repeat rw [Below.heap_setCell _ _ _ _ (by dsimp only; omega)]
theorem ill_ends {w u : World} {b : Nat} {cd : Int} (hB : Below w.heap.size w u) (h1 : w.heap.size ≤ b) (x y z t : Value) :
    RetDv w (dvIll cd) (.returned (.agg #[.slice none 0 0, .int .i64 0, .int .i64 0, .int .i64 cd])) ((((u.setCell ⟨b, 0, none⟩ x).setCell ⟨b, 1, none⟩ y).setCell ⟨b, 2, none⟩ z).setCell ⟨b, 3, none⟩ t) :=
  ⟨none, 0, rfl, ow_nil _ _ _ _, (((hB.setCell (p := ⟨b, 0, none⟩) h1 _).setCell (p := ⟨b, 1, none⟩) h1 _).setCell (p := ⟨b, 2, none⟩) h1 _).setCell (p := ⟨b, 3, none⟩) h1 _⟩

-- ops
set_option maxHeartbeats 2000000 in
set_option maxRecDepth 100000 in
theorem spec_dvTrim (A : Option Addr) (n ca : Nat) (X : List Bk) (now ret : Int) (s : Int) (w : World) (hX : Small X) (hA : RdBk w w.heap.size A n X) :
    Calls Tryz.prog 30 #[.agg #[.slice A n ca, .int .i64 now, .int .i64 ret], .int .i64 s] w (RetDv w (dvTrim X now ret s)) := by
  have HA := Lib.hid hA; have HX := Lib.hid hX; clear hA hX
  have hR : dvTrim X now ret s = dvOn X now ret (trimIn X now ret s) := rfl
  generalize dvTrim X now ret s = R at hR ⊢
  have HR := Lib.hid hR
  clear hR
  have hb0 : Below w.heap.size w ((w.alloc (.cells #[.slice A n ca, .int .i64 now, .int .i64 ret] 33)).alloc (.cells #[.slice none 0 0, .int .i64 0, .int .i64 0, .int .i64 0] 38)) := ((Below.refl _ _).alloc (Nat.le_refl _) _).alloc (by simp) _
  have k0 := (isBlk_new w 33 [.slice A n ca, .int .i64 now, .int .i64 ret]).alloc (.cells #[.slice none 0 0, .int .i64 0, .int .i64 0, .int .i64 0] 38)
  have k1 := isBlk_new (w.alloc (.cells #[.slice A n ca, .int .i64 now, .int .i64 ret] 33)) 38 [.slice none 0 0, .int .i64 0, .int .i64 0, .int .i64 0]
  change IsBlk ((w.alloc (.cells #[.slice A n ca, .int .i64 now, .int .i64 ret] 33)).alloc (.cells #[.slice none 0 0, .int .i64 0, .int .i64 0, .int .i64 0] 38)) _ _ _ at k0 k1
  simp only [size_alloc] at k0 k1
  go_enter Tryz.func30, Tryz.ntmps30
  go_wp2_with fail
  generalize ((w.alloc (.cells #[.slice A n ca, .int .i64 now, .int .i64 ret] 33)).alloc (.cells #[.slice none 0 0, .int .i64 0, .int .i64 0, .int .i64 0] 38)) = W at hb0 k0 k1 ⊢
  refine (l07Hist_any A n ca X now ret W HX.out (rd_step HA.out hb0)).mono ?_
  rintro e u ⟨Y, Ah, ch, rfl, hYe, ho, hb⟩
  generalize hyl : Y.length = yl at *
  have hbh := box_below u (.cells #[.slice Ah yl ch] 64)
  have kh := isBlk_new u 64 [.slice Ah yl ch]
  change IsBlk (u.alloc (.cells #[.slice Ah yl ch] 64)) _ _ _ at kh
  cases hD : dvB X now ret with
  | false =>
    have hRe : Hid (R = dvIll 1) := by show _ = _; rw [HR.out]; unfold dvOn; rw [hD, if_neg (by simp)]
    have HUw := Lib.hid (bel_step (bel_step hb0 hb) hbh)
    have HK1 := Lib.hid ((k1.below hb k1.lt).below hbh (Nat.lt_of_lt_of_le k1.lt hb.size))
    clear hYe ho hb hbh kh hb0 k0 k1
    go_wp2_with fail
    refine (l07Ill_any 1 _).mono ?_
    rintro e v ⟨rfl, hbv⟩
    have HBv := Lib.hid (bel_step HUw.out hbv)
    have HKv := HK1.out.below hbv HK1.out.lt
    obtain ⟨d0, d1, d2, d3, fd0, fd1, fd2, fd3⟩ := blk4 HKv
    clear hbv HKv
    go_wp2
    refine bodyPost_ret (v := .agg #[.slice none 0 0, .int .i64 0, .int .i64 0, .int .i64 1]) (by simp [results, Tryz.results30, go_sem, d0, d1, d2, d3]) rfl ?_
    rw [hRe.out]
    exact ill_ends HBv.out (by omega) _ _ _ _
  | true =>
    replace HR : Hid (R = trimIn X now ret s) := by show _ = _; rw [HR.out]; unfold dvOn; rw [if_pos hD]
    have hYm := hYe hD
    subst hYm
    obtain ⟨t1, t2, hrt, hnd⟩ := dvB_right hD
    have hcd := (dvB_yes hD).1
    have hb1 := bel_step hb0 hb
    have HUw := Lib.hid (bel_step hb1 hbh)
    have HK0 := Lib.hid ((k0.below hb k0.lt).below hbh (Nat.lt_of_lt_of_le k0.lt hb.size))
    have HK1 := Lib.hid ((k1.below hb k1.lt).below hbh (Nat.lt_of_lt_of_le k1.lt hb.size))
    have HKH := Lib.hid kh
    have HOH := Lib.hid ((ho.below hbh (Nat.le_refl _)).mono (Nat.zero_le _) (Nat.le_refl _))
    have hsz := size_alloc u (.cells #[.slice Ah yl ch] 64)
    have hKl := k1.lt
    have hWu := hb.size
    have hlen48 := mntList_len X
    clear hYe ho hb hbh kh hb0 k0 k1 hb1
    have y0 : (u.alloc (.cells #[.slice Ah yl ch] 64)).cell? ⟨u.heap.size, 0, none⟩ = some (.slice Ah yl ch) := HKH.out.cell rfl
    obtain ⟨e0, e1, e2, -, -, -⟩ := blk3 HK0.out
    go_wp2_with fail
    refine (l04Sector_any s _).mono ?_
    rintro e v ⟨rfl, rfl⟩
    by_cases g : rcIs 0 5 s = true
    · have hRe : Hid (R = dvPut X now ret ⟨2, s, 0, 0, 0, ⟨#[]⟩⟩) := by show _ = _; rw [HR.out]; unfold trimIn; rw [if_pos g]
      rw [g]
      clear y0 e0 e1 e2
      generalize u.alloc (.cells #[.slice Ah yl ch] 64) = U at *
      have HPT : Hid (Calls Tryz.prog 64 #[.agg #[.slice A n ca, .int .i64 now, .int .i64 ret], .agg #[.slice Ah yl ch], .agg #[.int .i64 2, .int .i64 s, .int .i64 0, .int .i64 0, .int .i64 0, .string ⟨#[]⟩]] U (RetDv U (dvPut X now ret ⟨2, s, 0, 0, 0, ⟨#[]⟩⟩))) := by
        have := l07Put_any A Ah n ca ch X ⟨2, s, 0, 0, 0, ⟨#[]⟩⟩ now ret U hcd (fun hq => rec_ok hrt t1 hq (by omega) (by simpa [rcIs] using g) (by omega) (by simp [ByteArray.size]) (fun _ => rfl) (fun _ => rfl) (fun h => absurd h (by omega))) (rd_step HA.out HUw.out) (by rw [hyl]; exact HOH.out.rd (by omega))
        rw [hyl] at this
        exact this
      generalize dvPut X now ret ⟨2, s, 0, 0, 0, ⟨#[]⟩⟩ = D at *
      have y0 : U.cell? ⟨u.heap.size, 0, none⟩ = some (.slice Ah yl ch) := HKH.out.cell rfl
      obtain ⟨e0, e1, e2, -, -, -⟩ := blk3 HK0.out
      go_wp2_with fail
      refine HPT.out.mono ?_
      rintro e v ⟨A', c', rfl, hov, hbv⟩
      obtain ⟨nd, tn, tr, dc⟩ := D
      simp only at *
      generalize hzl : nd.length = zl at *
      have HBv := Lib.hid (bel_step HUw.out hbv)
      have HOv := Lib.hid hov
      have hvs := hbv.size
      obtain ⟨d0, d1, d2, d3, fd0, fd1, fd2, fd3⟩ := blk4 (HK1.out.below hbv HK1.out.lt)
      clear hov hbv HPT
      go_wp2
      refine bodyPost_ret (v := .agg #[.slice A' zl c', .int .i64 tn, .int .i64 tr, .int .i64 dc]) (by simp [results, Tryz.results30, go_sem, d0, d1, d2, d3]) rfl ?_
      rw [hRe.out]
      subst hzl
      have hUw := HUw.out.size
      exact dv_ends (D := ⟨nd, tn, tr, dc⟩) HOv.out (by omega) (by omega) (by omega) HBv.out (by omega) _ _ _ _
    · have hRe : Hid (R = dvIll 1) := by show _ = _; rw [HR.out]; unfold trimIn; rw [if_neg g]
      rw [Bool.not_eq_true] at g
      rw [g]
      go_wp2_with fail
      refine (l07Ill_any 1 _).mono ?_
      rintro e v ⟨rfl, hbv⟩
      have HBv := Lib.hid (bel_step HUw.out hbv)
      have HKv := HK1.out.below hbv HK1.out.lt
      obtain ⟨d0, d1, d2, d3, fd0, fd1, fd2, fd3⟩ := blk4 HKv
      clear hbv HKv
      go_wp2
      refine bodyPost_ret (v := .agg #[.slice none 0 0, .int .i64 0, .int .i64 0, .int .i64 1]) (by simp [results, Tryz.results30, go_sem, d0, d1, d2, d3]) rfl ?_
      rw [hRe.out]
      exact ill_ends HBv.out (by omega) _ _ _ _

set_option maxHeartbeats 2000000 in
set_option maxRecDepth 100000 in
theorem spec_dvRollTo (A : Option Addr) (n ca : Nat) (X : List Bk) (now ret : Int) (a : Int) (w : World) (hX : Small X) (hA : RdBk w w.heap.size A n X) :
    Calls Tryz.prog 37 #[.agg #[.slice A n ca, .int .i64 now, .int .i64 ret], .int .i64 a] w (RetDv w (dvRoll X now ret a)) := by
  have HA := Lib.hid hA; have HX := Lib.hid hX; clear hA hX
  have hR : dvRoll X now ret a = dvOn X now ret (rollIn X now ret a) := rfl
  generalize dvRoll X now ret a = R at hR ⊢
  have HR := Lib.hid hR
  clear hR
  have hb0 : Below w.heap.size w ((w.alloc (.cells #[.slice A n ca, .int .i64 now, .int .i64 ret] 33)).alloc (.cells #[.slice none 0 0, .int .i64 0, .int .i64 0, .int .i64 0] 38)) := ((Below.refl _ _).alloc (Nat.le_refl _) _).alloc (by simp) _
  have k0 := (isBlk_new w 33 [.slice A n ca, .int .i64 now, .int .i64 ret]).alloc (.cells #[.slice none 0 0, .int .i64 0, .int .i64 0, .int .i64 0] 38)
  have k1 := isBlk_new (w.alloc (.cells #[.slice A n ca, .int .i64 now, .int .i64 ret] 33)) 38 [.slice none 0 0, .int .i64 0, .int .i64 0, .int .i64 0]
  change IsBlk ((w.alloc (.cells #[.slice A n ca, .int .i64 now, .int .i64 ret] 33)).alloc (.cells #[.slice none 0 0, .int .i64 0, .int .i64 0, .int .i64 0] 38)) _ _ _ at k0 k1
  simp only [size_alloc] at k0 k1
  go_enter Tryz.func37, Tryz.ntmps37
  go_wp2_with fail
  generalize ((w.alloc (.cells #[.slice A n ca, .int .i64 now, .int .i64 ret] 33)).alloc (.cells #[.slice none 0 0, .int .i64 0, .int .i64 0, .int .i64 0] 38)) = W at hb0 k0 k1 ⊢
  refine (l07Hist_any A n ca X now ret W HX.out (rd_step HA.out hb0)).mono ?_
  rintro e u ⟨Y, Ah, ch, rfl, hYe, ho, hb⟩
  generalize hyl : Y.length = yl at *
  have hbh := box_below u (.cells #[.slice Ah yl ch] 64)
  have kh := isBlk_new u 64 [.slice Ah yl ch]
  change IsBlk (u.alloc (.cells #[.slice Ah yl ch] 64)) _ _ _ at kh
  cases hD : dvB X now ret with
  | false =>
    have hRe : Hid (R = dvIll 1) := by show _ = _; rw [HR.out]; unfold dvOn; rw [hD, if_neg (by simp)]
    have HUw := Lib.hid (bel_step (bel_step hb0 hb) hbh)
    have HK1 := Lib.hid ((k1.below hb k1.lt).below hbh (Nat.lt_of_lt_of_le k1.lt hb.size))
    clear hYe ho hb hbh kh hb0 k0 k1
    go_wp2_with fail
    refine (l07Ill_any 1 _).mono ?_
    rintro e v ⟨rfl, hbv⟩
    have HBv := Lib.hid (bel_step HUw.out hbv)
    have HKv := HK1.out.below hbv HK1.out.lt
    obtain ⟨d0, d1, d2, d3, fd0, fd1, fd2, fd3⟩ := blk4 HKv
    clear hbv HKv
    go_wp2
    refine bodyPost_ret (v := .agg #[.slice none 0 0, .int .i64 0, .int .i64 0, .int .i64 1]) (by simp [results, Tryz.results37, go_sem, d0, d1, d2, d3]) rfl ?_
    rw [hRe.out]
    exact ill_ends HBv.out (by omega) _ _ _ _
  | true =>
    replace HR : Hid (R = rollIn X now ret a) := by show _ = _; rw [HR.out]; unfold dvOn; rw [if_pos hD]
    have hYm := hYe hD
    subst hYm
    obtain ⟨t1, t2, hrt, hnd⟩ := dvB_right hD
    have hcd := (dvB_yes hD).1
    have hb1 := bel_step hb0 hb
    have HUw := Lib.hid (bel_step hb1 hbh)
    have HK0 := Lib.hid ((k0.below hb k0.lt).below hbh (Nat.lt_of_lt_of_le k0.lt hb.size))
    have HK1 := Lib.hid ((k1.below hb k1.lt).below hbh (Nat.lt_of_lt_of_le k1.lt hb.size))
    have HKH := Lib.hid kh
    have HOH := Lib.hid ((ho.below hbh (Nat.le_refl _)).mono (Nat.zero_le _) (Nat.le_refl _))
    have hsz := size_alloc u (.cells #[.slice Ah yl ch] 64)
    have hKl := k1.lt
    have hWu := hb.size
    have hlen48 := mntList_len X
    clear hYe ho hb hbh kh hb0 k0 k1 hb1
    have y0 : (u.alloc (.cells #[.slice Ah yl ch] 64)).cell? ⟨u.heap.size, 0, none⟩ = some (.slice Ah yl ch) := HKH.out.cell rfl
    obtain ⟨e0, e1, e2, -, -, -⟩ := blk3 HK0.out
    go_wp2_with fail
    refine (l02Is_any _ _ _ _).mono ?_
    rintro e v ⟨rfl, rfl⟩
    rw [isB_rc]
    by_cases g : 0 ≤ a ∧ a ≤ now
    · rw [rcIs_yes g]
      have HFL : Hid (Calls Tryz.prog 69 #[.agg #[.slice Ah yl ch]] (u.alloc (.cells #[.slice Ah yl ch] 64)) fun e w' => e = .returned (.int .i64 (floorR (mntList X))) ∧ Below (u.alloc (.cells #[.slice Ah yl ch] 64)).heap.size (u.alloc (.cells #[.slice Ah yl ch] 64)) w') := by
        have := l04Floor_any Ah yl ch (mntList X) (u.alloc (.cells #[.slice Ah yl ch] 64)) (by omega) (HOH.out.rd (by omega))
        rw [← hyl] at this ⊢
        exact this
      go_wp2_with fail
      refine HFL.out.mono ?_
      rintro e v ⟨rfl, hbv⟩
      have HUv := Lib.hid (bel_step HUw.out hbv)
      have HK1' := Lib.hid (HK1.out.below hbv HK1.out.lt)
      have HK0' := Lib.hid (HK0.out.below hbv HK0.out.lt)
      have HKH' := Lib.hid (HKH.out.below hbv HKH.out.lt)
      have HOH' := Lib.hid (HOH.out.below hbv (by omega))
      have hvz := hbv.size
      clear hbv HUw HK1 HK0 HKH HOH y0 e0 e1 e2 HFL
      have HUw := HUv; have HK1 := HK1'; have HK0 := HK0'; have HKH := HKH'; have HOH := HOH'
      clear HUv HK1' HK0' HKH' HOH'
      by_cases g2 : a < floorR (mntList X)
      · have hRe : Hid (R = dvIll 12) := by show _ = _; rw [HR.out]; unfold rollIn; rw [if_pos g, if_pos g2]
        generalize floorR (mntList X) = fl at *
        go_wp2_with fail
        refine (l07Ill_any 12 _).mono ?_
        rintro e v ⟨rfl, hbv⟩
        have HBv := Lib.hid (bel_step HUw.out hbv)
        have HKv := HK1.out.below hbv HK1.out.lt
        obtain ⟨d0, d1, d2, d3, fd0, fd1, fd2, fd3⟩ := blk4 HKv
        clear hbv HKv
        go_wp2
        refine bodyPost_ret (v := .agg #[.slice none 0 0, .int .i64 0, .int .i64 0, .int .i64 12]) (by simp [results, Tryz.results37, go_sem, d0, d1, d2, d3]) rfl ?_
        rw [hRe.out]
        exact ill_ends HBv.out (by omega) _ _ _ _
      · have hRe : Hid (R = dvPut X now ret ⟨3, 0, 0, 0, a, ⟨#[]⟩⟩) := by show _ = _; rw [HR.out]; unfold rollIn; rw [if_pos g, if_neg g2]
        generalize floorR (mntList X) = fl at *
        generalize v = U at *
        have HPT : Hid (Calls Tryz.prog 64 #[.agg #[.slice A n ca, .int .i64 now, .int .i64 ret], .agg #[.slice Ah yl ch], .agg #[.int .i64 3, .int .i64 0, .int .i64 0, .int .i64 0, .int .i64 a, .string ⟨#[]⟩]] U (RetDv U (dvPut X now ret ⟨3, 0, 0, 0, a, ⟨#[]⟩⟩))) := by
          have := l07Put_any A Ah n ca ch X ⟨3, 0, 0, 0, a, ⟨#[]⟩⟩ now ret U hcd (fun hq => rec_ok hrt t1 hq (by omega) (by omega) g (by simp [ByteArray.size]) (fun h => absurd h (by omega)) (fun _ => rfl) (fun _ => rfl)) (rd_step HA.out HUw.out) (by rw [hyl]; exact HOH.out.rd (by omega))
          rw [hyl] at this
          exact this
        generalize dvPut X now ret ⟨3, 0, 0, 0, a, ⟨#[]⟩⟩ = D at *
        have y0 : U.cell? ⟨u.heap.size, 0, none⟩ = some (.slice Ah yl ch) := HKH.out.cell rfl
        obtain ⟨e0, e1, e2, -, -, -⟩ := blk3 HK0.out
        go_wp2_with fail
        refine HPT.out.mono ?_
        rintro e v ⟨A', c', rfl, hov, hbv⟩
        obtain ⟨nd, tn, tr, dc⟩ := D
        simp only at *
        generalize hzl : nd.length = zl at *
        have HBv := Lib.hid (bel_step HUw.out hbv)
        have HOv := Lib.hid hov
        have hvs := hbv.size
        obtain ⟨d0, d1, d2, d3, fd0, fd1, fd2, fd3⟩ := blk4 (HK1.out.below hbv HK1.out.lt)
        clear hov hbv HPT
        go_wp2
        refine bodyPost_ret (v := .agg #[.slice A' zl c', .int .i64 tn, .int .i64 tr, .int .i64 dc]) (by simp [results, Tryz.results37, go_sem, d0, d1, d2, d3]) rfl ?_
        rw [hRe.out]
        subst hzl
        have hUw := HUw.out.size
        exact dv_ends (D := ⟨nd, tn, tr, dc⟩) HOv.out (by omega) (by omega) (by omega) HBv.out (by omega) _ _ _ _
    · have hRe : Hid (R = dvIll 1) := by show _ = _; rw [HR.out]; unfold rollIn; rw [if_neg g]
      rw [rcIs_no g]
      go_wp2_with fail
      refine (l07Ill_any 1 _).mono ?_
      rintro e v ⟨rfl, hbv⟩
      have HBv := Lib.hid (bel_step HUw.out hbv)
      have HKv := HK1.out.below hbv HK1.out.lt
      obtain ⟨d0, d1, d2, d3, fd0, fd1, fd2, fd3⟩ := blk4 HKv
      clear hbv HKv
      go_wp2
      refine bodyPost_ret (v := .agg #[.slice none 0 0, .int .i64 0, .int .i64 0, .int .i64 1]) (by simp [results, Tryz.results37, go_sem, d0, d1, d2, d3]) rfl ?_
      rw [hRe.out]
      exact ill_ends HBv.out (by omega) _ _ _ _

set_option maxHeartbeats 2000000 in
set_option maxRecDepth 100000 in
theorem spec_dvWrite (A : Option Addr) (n ca : Nat) (X : List Bk) (now ret : Int) (s : Int) (d : ByteArray) (w : World) (hd : d.size ≤ 2147483648) (hX : Small X) (hA : RdBk w w.heap.size A n X) :
    Calls Tryz.prog 28 #[.agg #[.slice A n ca, .int .i64 now, .int .i64 ret], .int .i64 s, .string d] w (RetDv w (dvWrite X now ret s d)) := by
  have HA := Lib.hid hA; have HX := Lib.hid hX; clear hA hX
  have hR : dvWrite X now ret s d = if 8000 < d.size then dvIll 2 else dvOn X now ret (writeIn X now ret s d) := rfl
  generalize dvWrite X now ret s d = R at hR ⊢
  have HR := Lib.hid hR
  clear hR
  have hb0 : Below w.heap.size w ((w.alloc (.cells #[.slice A n ca, .int .i64 now, .int .i64 ret] 33)).alloc (.cells #[.slice none 0 0, .int .i64 0, .int .i64 0, .int .i64 0] 38)) := ((Below.refl _ _).alloc (Nat.le_refl _) _).alloc (by simp) _
  have k0 := (isBlk_new w 33 [.slice A n ca, .int .i64 now, .int .i64 ret]).alloc (.cells #[.slice none 0 0, .int .i64 0, .int .i64 0, .int .i64 0] 38)
  have k1 := isBlk_new (w.alloc (.cells #[.slice A n ca, .int .i64 now, .int .i64 ret] 33)) 38 [.slice none 0 0, .int .i64 0, .int .i64 0, .int .i64 0]
  change IsBlk ((w.alloc (.cells #[.slice A n ca, .int .i64 now, .int .i64 ret] 33)).alloc (.cells #[.slice none 0 0, .int .i64 0, .int .i64 0, .int .i64 0] 38)) _ _ _ at k0 k1
  simp only [size_alloc] at k0 k1
  go_enter Tryz.func28, Tryz.ntmps28
  by_cases gs : 8000 < d.size
  · have g' : (8000 : Int) < (d.size : Int) := by omega
    have hRe : Hid (R = dvIll 2) := by show _ = _; rw [HR.out, if_pos gs]
    have HUw := Lib.hid hb0; have HK1 := Lib.hid k1
    have hKl := k1.lt
    clear hb0 k0 k1
    go_wp2_with fail
    generalize ((w.alloc (.cells #[.slice A n ca, .int .i64 now, .int .i64 ret] 33)).alloc (.cells #[.slice none 0 0, .int .i64 0, .int .i64 0, .int .i64 0] 38)) = W at *
    refine (l07Ill_any 2 _).mono ?_
    rintro e v ⟨rfl, hbv⟩
    have HBv := Lib.hid (bel_step HUw.out hbv)
    have HKv := HK1.out.below hbv HK1.out.lt
    obtain ⟨d0, d1, d2, d3, fd0, fd1, fd2, fd3⟩ := blk4 HKv
    clear hbv HKv
    go_wp2
    refine bodyPost_ret (v := .agg #[.slice none 0 0, .int .i64 0, .int .i64 0, .int .i64 2]) (by simp [results, Tryz.results28, go_sem, d0, d1, d2, d3]) rfl ?_
    rw [hRe.out]
    exact ill_ends HBv.out (by omega) _ _ _ _
  have g' : ¬ (8000 : Int) < (d.size : Int) := by omega
  replace HR : Hid (R = dvOn X now ret (writeIn X now ret s d)) := by show _ = _; rw [HR.out, if_neg gs]
  go_wp2_with fail
  generalize ((w.alloc (.cells #[.slice A n ca, .int .i64 now, .int .i64 ret] 33)).alloc (.cells #[.slice none 0 0, .int .i64 0, .int .i64 0, .int .i64 0] 38)) = W at hb0 k0 k1 ⊢
  refine (l07Hist_any A n ca X now ret W HX.out (rd_step HA.out hb0)).mono ?_
  rintro e u ⟨Y, Ah, ch, rfl, hYe, ho, hb⟩
  generalize hyl : Y.length = yl at *
  have hbh := box_below u (.cells #[.slice Ah yl ch] 64)
  have kh := isBlk_new u 64 [.slice Ah yl ch]
  change IsBlk (u.alloc (.cells #[.slice Ah yl ch] 64)) _ _ _ at kh
  cases hD : dvB X now ret with
  | false =>
    have hRe : Hid (R = dvIll 1) := by show _ = _; rw [HR.out]; unfold dvOn; rw [hD, if_neg (by simp)]
    have HUw := Lib.hid (bel_step (bel_step hb0 hb) hbh)
    have HK1 := Lib.hid ((k1.below hb k1.lt).below hbh (Nat.lt_of_lt_of_le k1.lt hb.size))
    clear hYe ho hb hbh kh hb0 k0 k1
    go_wp2_with fail
    refine (l07Ill_any 1 _).mono ?_
    rintro e v ⟨rfl, hbv⟩
    have HBv := Lib.hid (bel_step HUw.out hbv)
    have HKv := HK1.out.below hbv HK1.out.lt
    obtain ⟨d0, d1, d2, d3, fd0, fd1, fd2, fd3⟩ := blk4 HKv
    clear hbv HKv
    go_wp2
    refine bodyPost_ret (v := .agg #[.slice none 0 0, .int .i64 0, .int .i64 0, .int .i64 1]) (by simp [results, Tryz.results28, go_sem, d0, d1, d2, d3]) rfl ?_
    rw [hRe.out]
    exact ill_ends HBv.out (by omega) _ _ _ _
  | true =>
    replace HR : Hid (R = writeIn X now ret s d) := by show _ = _; rw [HR.out]; unfold dvOn; rw [if_pos hD]
    have hYm := hYe hD
    subst hYm
    obtain ⟨t1, t2, hrt, hnd⟩ := dvB_right hD
    have hcd := (dvB_yes hD).1
    have hb1 := bel_step hb0 hb
    have HUw := Lib.hid (bel_step hb1 hbh)
    have HK0 := Lib.hid ((k0.below hb k0.lt).below hbh (Nat.lt_of_lt_of_le k0.lt hb.size))
    have HK1 := Lib.hid ((k1.below hb k1.lt).below hbh (Nat.lt_of_lt_of_le k1.lt hb.size))
    have HKH := Lib.hid kh
    have HOH := Lib.hid ((ho.below hbh (Nat.le_refl _)).mono (Nat.zero_le _) (Nat.le_refl _))
    have hsz := size_alloc u (.cells #[.slice Ah yl ch] 64)
    have hKl := k1.lt
    have hWu := hb.size
    have hlen48 := mntList_len X
    clear hYe ho hb hbh kh hb0 k0 k1 hb1
    have y0 : (u.alloc (.cells #[.slice Ah yl ch] 64)).cell? ⟨u.heap.size, 0, none⟩ = some (.slice Ah yl ch) := HKH.out.cell rfl
    obtain ⟨e0, e1, e2, -, -, -⟩ := blk3 HK0.out
    go_wp2_with fail
    refine (l04Sector_any s _).mono ?_
    rintro e v ⟨rfl, rfl⟩
    by_cases g : rcIs 0 5 s = true ∧ d.size ≤ 16
    · have hRe : Hid (R = dvPut X now ret ⟨1, s, 0, 0, 0, d⟩) := by show _ = _; rw [HR.out]; unfold writeIn; rw [if_pos g]
      rw [g.1]
      have g2 : ¬ (16 : Int) < (d.size : Int) := by omega
      clear y0 e0 e1 e2
      generalize u.alloc (.cells #[.slice Ah yl ch] 64) = U at *
      have HPT : Hid (Calls Tryz.prog 64 #[.agg #[.slice A n ca, .int .i64 now, .int .i64 ret], .agg #[.slice Ah yl ch], .agg #[.int .i64 1, .int .i64 s, .int .i64 0, .int .i64 0, .int .i64 0, .string d]] U (RetDv U (dvPut X now ret ⟨1, s, 0, 0, 0, d⟩))) := by
        have := l07Put_any A Ah n ca ch X ⟨1, s, 0, 0, 0, d⟩ now ret U hcd (fun hq => rec_ok hrt t1 hq (by omega) (by simpa [rcIs] using g.1) (by omega) g.2 (fun _ => rfl) (fun h => absurd h (by omega)) (fun h => absurd h (by omega))) (rd_step HA.out HUw.out) (by rw [hyl]; exact HOH.out.rd (by omega))
        rw [hyl] at this
        exact this
      generalize dvPut X now ret ⟨1, s, 0, 0, 0, d⟩ = D at *
      have y0 : U.cell? ⟨u.heap.size, 0, none⟩ = some (.slice Ah yl ch) := HKH.out.cell rfl
      obtain ⟨e0, e1, e2, -, -, -⟩ := blk3 HK0.out
      go_wp2_with fail
      refine HPT.out.mono ?_
      rintro e v ⟨A', c', rfl, hov, hbv⟩
      obtain ⟨nd, tn, tr, dc⟩ := D
      simp only at *
      generalize hzl : nd.length = zl at *
      have HBv := Lib.hid (bel_step HUw.out hbv)
      have HOv := Lib.hid hov
      have hvs := hbv.size
      obtain ⟨d0, d1, d2, d3, fd0, fd1, fd2, fd3⟩ := blk4 (HK1.out.below hbv HK1.out.lt)
      clear hov hbv HPT
      go_wp2
      refine bodyPost_ret (v := .agg #[.slice A' zl c', .int .i64 tn, .int .i64 tr, .int .i64 dc]) (by simp [results, Tryz.results28, go_sem, d0, d1, d2, d3]) rfl ?_
      rw [hRe.out]
      subst hzl
      have hUw := HUw.out.size
      exact dv_ends (D := ⟨nd, tn, tr, dc⟩) HOv.out (by omega) (by omega) (by omega) HBv.out (by omega) _ _ _ _
    · have hRe : Hid (R = dvIll 1) := by show _ = _; rw [HR.out]; unfold writeIn; rw [if_neg g]
      by_cases g1 : rcIs 0 5 s = true
      · have g2 : (16 : Int) < (d.size : Int) := by have : ¬ d.size ≤ 16 := fun h => g ⟨g1, h⟩; omega
        rw [g1]
        clear g
        go_wp2_with fail
        refine (l07Ill_any 1 _).mono ?_
        rintro e v ⟨rfl, hbv⟩
        have HBv := Lib.hid (bel_step HUw.out hbv)
        have HKv := HK1.out.below hbv HK1.out.lt
        obtain ⟨d0, d1, d2, d3, fd0, fd1, fd2, fd3⟩ := blk4 HKv
        clear hbv HKv
        go_wp2
        refine bodyPost_ret (v := .agg #[.slice none 0 0, .int .i64 0, .int .i64 0, .int .i64 1]) (by simp [results, Tryz.results28, go_sem, d0, d1, d2, d3]) rfl ?_
        rw [hRe.out]
        exact ill_ends HBv.out (by omega) _ _ _ _
      · rw [Bool.not_eq_true] at g1
        rw [g1]
        clear g
        go_wp2_with fail
        refine (l07Ill_any 1 _).mono ?_
        rintro e v ⟨rfl, hbv⟩
        have HBv := Lib.hid (bel_step HUw.out hbv)
        have HKv := HK1.out.below hbv HK1.out.lt
        obtain ⟨d0, d1, d2, d3, fd0, fd1, fd2, fd3⟩ := blk4 HKv
        clear hbv HKv
        go_wp2
        refine bodyPost_ret (v := .agg #[.slice none 0 0, .int .i64 0, .int .i64 0, .int .i64 1]) (by simp [results, Tryz.results28, go_sem, d0, d1, d2, d3]) rfl ?_
        rw [hRe.out]
        exact ill_ends HBv.out (by omega) _ _ _ _

set_option maxHeartbeats 2000000 in
set_option maxRecDepth 100000 in
theorem spec_dvRaise (A : Option Addr) (n ca : Nat) (X : List Bk) (now ret : Int) (w : World) (hX : Small X) (hA : RdBk w w.heap.size A n X) :
    Calls Tryz.prog 39 #[.agg #[.slice A n ca, .int .i64 now, .int .i64 ret]] w (RetDv w (dvRaise X now ret)) := by
  have HA := Lib.hid hA; have HX := Lib.hid hX; clear hA hX
  have hR : dvRaise X now ret = dvOn X now ret (raiseIn X now ret) := rfl
  generalize dvRaise X now ret = R at hR ⊢
  have HR := Lib.hid hR
  clear hR
  have hb0 : Below w.heap.size w ((w.alloc (.cells #[.slice A n ca, .int .i64 now, .int .i64 ret] 33)).alloc (.cells #[.slice none 0 0, .int .i64 0, .int .i64 0, .int .i64 0] 38)) := ((Below.refl _ _).alloc (Nat.le_refl _) _).alloc (by simp) _
  have k0 := (isBlk_new w 33 [.slice A n ca, .int .i64 now, .int .i64 ret]).alloc (.cells #[.slice none 0 0, .int .i64 0, .int .i64 0, .int .i64 0] 38)
  have k1 := isBlk_new (w.alloc (.cells #[.slice A n ca, .int .i64 now, .int .i64 ret] 33)) 38 [.slice none 0 0, .int .i64 0, .int .i64 0, .int .i64 0]
  change IsBlk ((w.alloc (.cells #[.slice A n ca, .int .i64 now, .int .i64 ret] 33)).alloc (.cells #[.slice none 0 0, .int .i64 0, .int .i64 0, .int .i64 0] 38)) _ _ _ at k0 k1
  simp only [size_alloc] at k0 k1
  go_enter Tryz.func39, Tryz.ntmps39
  go_wp2_with fail
  generalize ((w.alloc (.cells #[.slice A n ca, .int .i64 now, .int .i64 ret] 33)).alloc (.cells #[.slice none 0 0, .int .i64 0, .int .i64 0, .int .i64 0] 38)) = W at hb0 k0 k1 ⊢
  refine (l07Hist_any A n ca X now ret W HX.out (rd_step HA.out hb0)).mono ?_
  rintro e u ⟨Y, Ah, ch, rfl, hYe, ho, hb⟩
  generalize hyl : Y.length = yl at *
  have hbh := box_below u (.cells #[.slice Ah yl ch] 64)
  have kh := isBlk_new u 64 [.slice Ah yl ch]
  change IsBlk (u.alloc (.cells #[.slice Ah yl ch] 64)) _ _ _ at kh
  cases hD : dvB X now ret with
  | false =>
    have hRe : Hid (R = dvIll 1) := by show _ = _; rw [HR.out]; unfold dvOn; rw [hD, if_neg (by simp)]
    have HUw := Lib.hid (bel_step (bel_step hb0 hb) hbh)
    have HK1 := Lib.hid ((k1.below hb k1.lt).below hbh (Nat.lt_of_lt_of_le k1.lt hb.size))
    clear hYe ho hb hbh kh hb0 k0 k1
    go_wp2_with fail
    refine (l07Ill_any 1 _).mono ?_
    rintro e v ⟨rfl, hbv⟩
    have HBv := Lib.hid (bel_step HUw.out hbv)
    have HKv := HK1.out.below hbv HK1.out.lt
    obtain ⟨d0, d1, d2, d3, fd0, fd1, fd2, fd3⟩ := blk4 HKv
    clear hbv HKv
    go_wp2
    refine bodyPost_ret (v := .agg #[.slice none 0 0, .int .i64 0, .int .i64 0, .int .i64 1]) (by simp [results, Tryz.results39, go_sem, d0, d1, d2, d3]) rfl ?_
    rw [hRe.out]
    exact ill_ends HBv.out (by omega) _ _ _ _
  | true =>
    replace HR : Hid (R = raiseIn X now ret) := by show _ = _; rw [HR.out]; unfold dvOn; rw [if_pos hD]
    have hYm := hYe hD
    subst hYm
    obtain ⟨t1, t2, hrt, hnd⟩ := dvB_right hD
    have hcd := (dvB_yes hD).1
    have hb1 := bel_step hb0 hb
    have HUw := Lib.hid (bel_step hb1 hbh)
    have HK0 := Lib.hid ((k0.below hb k0.lt).below hbh (Nat.lt_of_lt_of_le k0.lt hb.size))
    have HK1 := Lib.hid ((k1.below hb k1.lt).below hbh (Nat.lt_of_lt_of_le k1.lt hb.size))
    have HKH := Lib.hid kh
    have HOH := Lib.hid ((ho.below hbh (Nat.le_refl _)).mono (Nat.zero_le _) (Nat.le_refl _))
    have hsz := size_alloc u (.cells #[.slice Ah yl ch] 64)
    have hKl := k1.lt
    have hWu := hb.size
    have hlen48 := mntList_len X
    clear hYe ho hb hbh kh hb0 k0 k1 hb1
    have y0 : (u.alloc (.cells #[.slice Ah yl ch] 64)).cell? ⟨u.heap.size, 0, none⟩ = some (.slice Ah yl ch) := HKH.out.cell rfl
    obtain ⟨e0, e1, e2, -, -, -⟩ := blk3 HK0.out
    have HFL : Hid (∀ x, Below (u.alloc (.cells #[.slice Ah yl ch] 64)).heap.size (u.alloc (.cells #[.slice Ah yl ch] 64)) x → Calls Tryz.prog 69 #[.agg #[.slice Ah yl ch]] x fun e w' => e = .returned (.int .i64 (floorR (mntList X))) ∧ Below x.heap.size x w') := fun x hx => by
      have := l04Floor_any Ah yl ch (mntList X) x (by omega) ((HOH.out.below hx (by omega)).rd (by have := hx.size; omega))
      rw [← hyl] at this ⊢
      exact this
    have hwr : IntKind.i64.wrap (now - ret) = now - ret := IntWalk.i64_in _ (by omega)
    go_wp2_with fail
    generalize hUU : u.alloc (.cells #[.slice Ah yl ch] 64) = U at *
    clear hUU
    go_region_held3 (fun w' => w'.cell? ⟨w.heap.size, 1, none⟩ = some (.int .i64 now) ∧ w'.cell? ⟨w.heap.size, 2, none⟩ = some (.int .i64 ret) ∧ w'.cell? ⟨u.heap.size, 0, none⟩ = some (.slice Ah yl ch))
      (first | exact ⟨e1, e2, y0⟩ | exact hsx | go_keep)
      ((go_at_call 69
        refine (HFL.out _ (Below.refl _ _).drew).mono ?_
        rintro e v ⟨rfl, hbv⟩
        have hbv' : Below U.heap.size U v := bel_step (Below.refl _ _).drew hbv
        have hsx : v.cell? ⟨w.heap.size, 1, none⟩ = some (.int .i64 now) ∧ v.cell? ⟨w.heap.size, 2, none⟩ = some (.int .i64 ret) ∧ v.cell? ⟨u.heap.size, 0, none⟩ = some (.slice Ah yl ch) := ⟨(HK0.out.below hbv' HK0.out.lt).cell rfl, (HK0.out.below hbv' HK0.out.lt).cell rfl, (HKH.out.below hbv' HKH.out.lt).cell rfl⟩
        have HBUv := Lib.hid hbv'
        clear hbv hbv'))
    all_goals
      have HUv := Lib.hid (bel_step HUw.out HBUv.out)
      have HK1' := Lib.hid (HK1.out.below HBUv.out HK1.out.lt)
      have HK0' := Lib.hid (HK0.out.below HBUv.out HK0.out.lt)
      have HKH' := Lib.hid (HKH.out.below HBUv.out HKH.out.lt)
      have HOH' := Lib.hid (HOH.out.below HBUv.out (by omega))
      have hvz := HBUv.out.size
      clear hsx HUw HK1 HK0 HKH HOH y0 e0 e1 e2 HFL
      have HUw := HUv; have HK1 := HK1'; have HK0 := HK0'; have HKH := HKH'; have HOH := HOH'
      clear HUv HK1' HK0' HKH' HOH'
      by_cases g2 : now - ret ≤ floorR (mntList X)
      · have hRe : Hid (R = dvIll 10) := by show _ = _; rw [HR.out]; unfold raiseIn; rw [if_pos g2]
        generalize floorR (mntList X) = fl at *
        go_wp2_with fail
        refine (l07Ill_any 10 _).mono ?_
        rintro e v ⟨rfl, hbv⟩
        have HBv := Lib.hid (bel_step HUw.out hbv)
        have HKv := HK1.out.below hbv HK1.out.lt
        obtain ⟨d0, d1, d2, d3, fd0, fd1, fd2, fd3⟩ := blk4 HKv
        clear hbv HKv
        go_wp2
        refine bodyPost_ret (v := .agg #[.slice none 0 0, .int .i64 0, .int .i64 0, .int .i64 10]) (by simp [results, Tryz.results39, go_sem, d0, d1, d2, d3]) rfl ?_
        rw [hRe.out]
        exact ill_ends HBv.out (by omega) _ _ _ _
      · have hRe : Hid (R = dvPut X now ret ⟨4, 0, 0, 0, now - ret, ⟨#[]⟩⟩) := by show _ = _; rw [HR.out]; unfold raiseIn; rw [if_neg g2]
        have hfl : 0 ≤ floorR (mntList X) := floorTo_nonneg _ _
        generalize floorR (mntList X) = fl at *
        generalize v = V at *
        have HPT : Hid (Calls Tryz.prog 64 #[.agg #[.slice A n ca, .int .i64 now, .int .i64 ret], .agg #[.slice Ah yl ch], .agg #[.int .i64 4, .int .i64 0, .int .i64 0, .int .i64 0, .int .i64 (now - ret), .string ⟨#[]⟩]] V (RetDv V (dvPut X now ret ⟨4, 0, 0, 0, now - ret, ⟨#[]⟩⟩))) := by
          have := l07Put_any A Ah n ca ch X ⟨4, 0, 0, 0, now - ret, ⟨#[]⟩⟩ now ret V hcd (fun hq => rec_ok hrt t1 hq (by omega) (by omega) (by omega) (by simp [ByteArray.size]) (fun h => absurd h (by omega)) (fun _ => rfl) (fun _ => rfl)) (rd_step HA.out HUw.out) (by rw [hyl]; exact HOH.out.rd (by omega))
          rw [hyl] at this
          exact this
        generalize dvPut X now ret ⟨4, 0, 0, 0, now - ret, ⟨#[]⟩⟩ = D at *
        have y0 : V.cell? ⟨u.heap.size, 0, none⟩ = some (.slice Ah yl ch) := HKH.out.cell rfl
        obtain ⟨e0, e1, e2, -, -, -⟩ := blk3 HK0.out
        go_wp2_with fail
        refine HPT.out.mono ?_
        rintro e v ⟨A', c', rfl, hov, hbv⟩
        obtain ⟨nd, tn, tr, dc⟩ := D
        simp only at *
        generalize hzl : nd.length = zl at *
        have HBv := Lib.hid (bel_step HUw.out hbv)
        have HOv := Lib.hid hov
        have hvs := hbv.size
        obtain ⟨d0, d1, d2, d3, fd0, fd1, fd2, fd3⟩ := blk4 (HK1.out.below hbv HK1.out.lt)
        clear hov hbv HPT
        go_wp2
        refine bodyPost_ret (v := .agg #[.slice A' zl c', .int .i64 tn, .int .i64 tr, .int .i64 dc]) (by simp [results, Tryz.results39, go_sem, d0, d1, d2, d3]) rfl ?_
        rw [hRe.out]
        subst hzl
        have hUw := HUw.out.size
        exact dv_ends (D := ⟨nd, tn, tr, dc⟩) HOv.out (by omega) (by omega) (by omega) HBv.out (by omega) _ _ _ _

set_option maxHeartbeats 2000000 in
set_option maxRecDepth 100000 in
theorem spec_dvCollect (A : Option Addr) (n ca : Nat) (X : List Bk) (now ret : Int) (v : Int) (w : World) (hX : Small X) (hA : RdBk w w.heap.size A n X) :
    Calls Tryz.prog 41 #[.agg #[.slice A n ca, .int .i64 now, .int .i64 ret], .int .i64 v] w (RetDv w (dvColl X now ret v)) := by
  have HA := Lib.hid hA; have HX := Lib.hid hX; clear hA hX
  have hR : dvColl X now ret v = dvOn X now ret (collIn X now ret v) := rfl
  generalize dvColl X now ret v = R at hR ⊢
  have HR := Lib.hid hR
  clear hR
  have hb0 : Below w.heap.size w ((w.alloc (.cells #[.slice A n ca, .int .i64 now, .int .i64 ret] 33)).alloc (.cells #[.slice none 0 0, .int .i64 0, .int .i64 0, .int .i64 0] 38)) := ((Below.refl _ _).alloc (Nat.le_refl _) _).alloc (by simp) _
  have k0 := (isBlk_new w 33 [.slice A n ca, .int .i64 now, .int .i64 ret]).alloc (.cells #[.slice none 0 0, .int .i64 0, .int .i64 0, .int .i64 0] 38)
  have k1 := isBlk_new (w.alloc (.cells #[.slice A n ca, .int .i64 now, .int .i64 ret] 33)) 38 [.slice none 0 0, .int .i64 0, .int .i64 0, .int .i64 0]
  change IsBlk ((w.alloc (.cells #[.slice A n ca, .int .i64 now, .int .i64 ret] 33)).alloc (.cells #[.slice none 0 0, .int .i64 0, .int .i64 0, .int .i64 0] 38)) _ _ _ at k0 k1
  simp only [size_alloc] at k0 k1
  go_enter Tryz.func41, Tryz.ntmps41
  go_wp2_with fail
  generalize ((w.alloc (.cells #[.slice A n ca, .int .i64 now, .int .i64 ret] 33)).alloc (.cells #[.slice none 0 0, .int .i64 0, .int .i64 0, .int .i64 0] 38)) = W at hb0 k0 k1 ⊢
  refine (l07Hist_any A n ca X now ret W HX.out (rd_step HA.out hb0)).mono ?_
  rintro e u ⟨Y, Ah, ch, rfl, hYe, ho, hb⟩
  generalize hyl : Y.length = yl at *
  have hbh := box_below u (.cells #[.slice Ah yl ch] 64)
  have kh := isBlk_new u 64 [.slice Ah yl ch]
  change IsBlk (u.alloc (.cells #[.slice Ah yl ch] 64)) _ _ _ at kh
  cases hD : dvB X now ret with
  | false =>
    have hRe : Hid (R = dvIll 1) := by show _ = _; rw [HR.out]; unfold dvOn; rw [hD, if_neg (by simp)]
    have HUw := Lib.hid (bel_step (bel_step hb0 hb) hbh)
    have HK1 := Lib.hid ((k1.below hb k1.lt).below hbh (Nat.lt_of_lt_of_le k1.lt hb.size))
    clear hYe ho hb hbh kh hb0 k0 k1
    go_wp2_with fail
    refine (l07Ill_any 1 _).mono ?_
    rintro e v ⟨rfl, hbv⟩
    have HBv := Lib.hid (bel_step HUw.out hbv)
    have HKv := HK1.out.below hbv HK1.out.lt
    obtain ⟨d0, d1, d2, d3, fd0, fd1, fd2, fd3⟩ := blk4 HKv
    clear hbv HKv
    go_wp2
    refine bodyPost_ret (v := .agg #[.slice none 0 0, .int .i64 0, .int .i64 0, .int .i64 1]) (by simp [results, Tryz.results41, go_sem, d0, d1, d2, d3]) rfl ?_
    rw [hRe.out]
    exact ill_ends HBv.out (by omega) _ _ _ _
  | true =>
    replace HR : Hid (R = collIn X now ret v) := by show _ = _; rw [HR.out]; unfold dvOn; rw [if_pos hD]
    have hYm := hYe hD
    subst hYm
    obtain ⟨t1, t2, hrt, hnd⟩ := dvB_right hD
    have hcd := (dvB_yes hD).1
    have hb1 := bel_step hb0 hb
    have HUw := Lib.hid (bel_step hb1 hbh)
    have HK0 := Lib.hid ((k0.below hb k0.lt).below hbh (Nat.lt_of_lt_of_le k0.lt hb.size))
    have HK1 := Lib.hid ((k1.below hb k1.lt).below hbh (Nat.lt_of_lt_of_le k1.lt hb.size))
    have HKH := Lib.hid kh
    have HOH := Lib.hid ((ho.below hbh (Nat.le_refl _)).mono (Nat.zero_le _) (Nat.le_refl _))
    have hsz := size_alloc u (.cells #[.slice Ah yl ch] 64)
    have hKl := k1.lt
    have hWu := hb.size
    have hlen48 := mntList_len X
    clear hYe ho hb hbh kh hb0 k0 k1 hb1
    have y0 : (u.alloc (.cells #[.slice Ah yl ch] 64)).cell? ⟨u.heap.size, 0, none⟩ = some (.slice Ah yl ch) := HKH.out.cell rfl
    obtain ⟨e0, e1, e2, -, -, -⟩ := blk3 HK0.out
    have HGC : Hid (∀ x, Below (u.alloc (.cells #[.slice Ah yl ch] 64)).heap.size (u.alloc (.cells #[.slice Ah yl ch] 64)) x → Calls Tryz.prog 71 #[.agg #[.slice A n ca], .agg #[.slice Ah yl ch], .int .i64 v] x (RetAns x (gcAns X v))) := fun x hx => by
      have hl := HA.out.1
      have := l06Gc_any A Ah n ca yl ch X (mntList X) v x hnd hrt (fun r hr => by obtain ⟨-, he, -⟩ := mnt_zero hcd; rw [he] at hr; exact (mnt_upto hnd X.length (Nat.le_refl _)).2 r hr) (rd_step HA.out (bel_step HUw.out hx)) ((HOH.out.below hx (by omega)).rd (by have := hx.size; omega))
      rw [← gcMod_ans hcd v]
      simp only [hyl, hl]
      exact this
    have hRe : Hid (R = dvWith now ret (gcAns X v)) := by show _ = _; rw [HR.out]; rfl
    generalize gcAns X v = Q at *
    have hne : ¬ w.heap.size + 1 = w.heap.size := by omega
    have hne1 : ¬ w.heap.size = w.heap.size + 1 := by omega
    have hKu : w.heap.size + 1 < u.heap.size := by omega
    have hne2 : ¬ w.heap.size + 1 = u.heap.size := by omega
    have hne3 : ¬ u.heap.size = w.heap.size + 1 := by omega
    go_wp2_with fail
    generalize hUU : u.alloc (.cells #[.slice Ah yl ch] 64) = U at *
    clear hUU
    go_region_held3 (fun w' => w'.cell? ⟨w.heap.size, 0, none⟩ = some (.slice A n ca) ∧ w'.cell? ⟨w.heap.size, 1, none⟩ = some (.int .i64 now) ∧ w'.cell? ⟨w.heap.size, 2, none⟩ = some (.int .i64 ret) ∧ w'.cell? ⟨u.heap.size, 0, none⟩ = some (.slice Ah yl ch))
      (first | exact ⟨e0, e1, e2, y0⟩ | exact hsx | exact hsz | go_keep)
      (first
        | (go_at_call 71
           refine (HGC.out _ (Below.refl _ _).drew).mono ?_
           rintro e y ⟨Ay, cy, rfl, hoy, hby⟩
           have HBy : Hid (Below U.heap.size U y) := bel_step (Below.refl _ _).drew hby
           have HOy := Lib.hid hoy
           have hsx : y.cell? ⟨w.heap.size, 0, none⟩ = some (.slice A n ca) ∧ y.cell? ⟨w.heap.size, 1, none⟩ = some (.int .i64 now) ∧ y.cell? ⟨w.heap.size, 2, none⟩ = some (.int .i64 ret) ∧ y.cell? ⟨u.heap.size, 0, none⟩ = some (.slice Ah yl ch) := ⟨(HK0.out.below HBy.out HK0.out.lt).cell rfl, (HK0.out.below HBy.out HK0.out.lt).cell rfl, (HK0.out.below HBy.out HK0.out.lt).cell rfl, (HKH.out.below HBy.out HKH.out.lt).cell rfl⟩
           clear hby hoy)
        | (go_at_call 70
           refine (l07With_any A n ca now ret Ay cy Q y U.heap.size y.heap.size (Nat.le_refl _) HOy.out).mono ?_
           rintro e z ⟨A', c', rfl, hoz, hbz⟩
           have HBz : Hid (Below U.heap.size U z) := bel_step HBy.out hbz
           have HOv := Lib.hid hoz
           have hsz : z.cell? ⟨w.heap.size, 0, none⟩ = some (.slice A n ca) ∧ z.cell? ⟨w.heap.size, 1, none⟩ = some (.int .i64 now) ∧ z.cell? ⟨w.heap.size, 2, none⟩ = some (.int .i64 ret) ∧ z.cell? ⟨u.heap.size, 0, none⟩ = some (.slice Ah yl ch) := ⟨(HK0.out.below HBz.out HK0.out.lt).cell rfl, (HK0.out.below HBz.out HK0.out.lt).cell rfl, (HK0.out.below HBz.out HK0.out.lt).cell rfl, (HKH.out.below HBz.out HKH.out.lt).cell rfl⟩
           have hyz := hbz.size
           have hUy := HBy.out.size
           obtain ⟨d0, d1, d2, d3, fd0, fd1, fd2, fd3⟩ := blk4 (HK1.out.below HBz.out HK1.out.lt)
           clear hbz hoz))
    all_goals
      generalize dvWith now ret Q = D at *
      obtain ⟨nd, tn, tr, dc⟩ := D
      simp only at *
      generalize hzl : nd.length = zl at *
      go_wp2
      refine bodyPost_ret (v := .agg #[.slice A' zl c', .int .i64 tn, .int .i64 tr, .int .i64 dc]) (by simp [results, Tryz.results41, go_sem, d0, d1, d2, d3]) rfl ?_
      rw [hRe.out]
      subst hzl
      have hUw := HUw.out.size
      exact dv_ends (D := ⟨nd, tn, tr, dc⟩) HOv.out (by omega) (by omega) (by omega) (bel_step HUw.out HBz.out) (by omega) _ _ _ _

set_option maxHeartbeats 2000000 in
set_option maxRecDepth 100000 in
theorem spec_dvTick (A : Option Addr) (n ca : Nat) (X : List Bk) (now ret : Int) (bye : Int) (w : World) (hX : Small X) (hA : RdBk w w.heap.size A n X) :
    Calls Tryz.prog 25 #[.agg #[.slice A n ca, .int .i64 now, .int .i64 ret], .int .i64 bye] w (RetDv w (dvTick X now ret bye)) := by
  have HA := Lib.hid hA; have HX := Lib.hid hX; clear hA hX
  have hR : dvTick X now ret bye = dvOn X now ret (tickIn X now ret bye) := rfl
  generalize dvTick X now ret bye = R at hR ⊢
  have HR := Lib.hid hR
  clear hR
  have hb0 : Below w.heap.size w ((w.alloc (.cells #[.slice A n ca, .int .i64 now, .int .i64 ret] 33)).alloc (.cells #[.slice none 0 0, .int .i64 0, .int .i64 0, .int .i64 0] 38)) := ((Below.refl _ _).alloc (Nat.le_refl _) _).alloc (by simp) _
  have k0 := (isBlk_new w 33 [.slice A n ca, .int .i64 now, .int .i64 ret]).alloc (.cells #[.slice none 0 0, .int .i64 0, .int .i64 0, .int .i64 0] 38)
  have k1 := isBlk_new (w.alloc (.cells #[.slice A n ca, .int .i64 now, .int .i64 ret] 33)) 38 [.slice none 0 0, .int .i64 0, .int .i64 0, .int .i64 0]
  change IsBlk ((w.alloc (.cells #[.slice A n ca, .int .i64 now, .int .i64 ret] 33)).alloc (.cells #[.slice none 0 0, .int .i64 0, .int .i64 0, .int .i64 0] 38)) _ _ _ at k0 k1
  simp only [size_alloc] at k0 k1
  go_enter Tryz.func25, Tryz.ntmps25
  go_wp2_with fail
  generalize ((w.alloc (.cells #[.slice A n ca, .int .i64 now, .int .i64 ret] 33)).alloc (.cells #[.slice none 0 0, .int .i64 0, .int .i64 0, .int .i64 0] 38)) = W at hb0 k0 k1 ⊢
  refine (spec_driveRight A n ca X now ret W HX.out (rd_step HA.out hb0)).mono ?_
  rintro e u ⟨rfl, hb⟩
  have HUw := Lib.hid (bel_step hb0 hb)
  have HK0 := Lib.hid (k0.below hb k0.lt)
  have HK1 := Lib.hid (k1.below hb k1.lt)
  have hKl := k1.lt
  have hWu := hb.size
  obtain ⟨e0, e1, e2, -, -, -⟩ := blk3 HK0.out
  clear hb hb0 k0 k1
  cases hD : dvB X now ret with
  | false =>
    have hRe : Hid (R = dvIll 1) := by show _ = _; rw [HR.out]; unfold dvOn; rw [hD, if_neg (by simp)]
    go_wp2_with fail
    refine (l07Ill_any 1 _).mono ?_
    rintro e v ⟨rfl, hbv⟩
    have HBv := Lib.hid (bel_step HUw.out hbv)
    have HKv := HK1.out.below hbv HK1.out.lt
    obtain ⟨d0, d1, d2, d3, fd0, fd1, fd2, fd3⟩ := blk4 HKv
    clear hbv HKv
    go_wp2
    refine bodyPost_ret (v := .agg #[.slice none 0 0, .int .i64 0, .int .i64 0, .int .i64 1]) (by simp [results, Tryz.results25, go_sem, d0, d1, d2, d3]) rfl ?_
    rw [hRe.out]
    exact ill_ends HBv.out (by omega) _ _ _ _
  | true =>
    replace HR : Hid (R = tickIn X now ret bye) := by show _ = _; rw [HR.out]; unfold dvOn; rw [if_pos hD]
    obtain ⟨t1, t2, hrt, hnd⟩ := dvB_right hD
    have hwr : IntKind.i64.wrap (1000000 - now) = 1000000 - now := IntWalk.i64_in _ (by omega)
    go_wp2_with fail
    refine (l02Is_any _ _ _ _).mono ?_
    rintro e v ⟨rfl, rfl⟩
    rw [isB_rc]
    by_cases g : 0 ≤ bye ∧ bye ≤ 1000000 - now
    · rw [rcIs_yes g]
      have hRe : Hid (R = ⟨X, now + bye, ret, 0⟩) := by show _ = _; rw [HR.out]; unfold tickIn; rw [if_pos g]
      have hwr2 : IntKind.i64.wrap (now + bye) = now + bye := IntWalk.i64_in _ (by omega)
      have HCP : Hid (∀ x, Below u.heap.size u x → Calls Tryz.prog 61 #[.agg #[.slice A n ca]] x (RetNd x X)) := fun x hx => spec_l02Copy A n ca X x hnd (rd_step HA.out (bel_step HUw.out hx))
      generalize hzl : X.length = zl at *
      have hne : ¬ w.heap.size + 1 = w.heap.size := by omega
      have hne1 : ¬ w.heap.size = w.heap.size + 1 := by omega
      go_wp2_with fail
      go_region_held3 (fun w' => w'.cell? ⟨w.heap.size, 0, none⟩ = some (.slice A n ca) ∧ w'.cell? ⟨w.heap.size, 1, none⟩ = some (.int .i64 now) ∧ w'.cell? ⟨w.heap.size, 2, none⟩ = some (.int .i64 ret))
        (first | exact ⟨e0, e1, e2⟩ | exact hsx | go_keep)
        ((go_at_call 61
          refine (HCP.out _ (Below.refl _ _).drew).mono ?_
          rintro e y ⟨Ay, cy, rfl, hoy, hby⟩
          have HBy : Hid (Below u.heap.size u y) := bel_step (Below.refl _ _).drew hby
          have HOv : Hid (OwNd y u.heap.size y.heap.size Ay X.length X) := hoy
          have hsx : y.cell? ⟨w.heap.size, 0, none⟩ = some (.slice A n ca) ∧ y.cell? ⟨w.heap.size, 1, none⟩ = some (.int .i64 now) ∧ y.cell? ⟨w.heap.size, 2, none⟩ = some (.int .i64 ret) := ⟨(HK0.out.below HBy.out HK0.out.lt).cell rfl, (HK0.out.below HBy.out HK0.out.lt).cell rfl, (HK0.out.below HBy.out HK0.out.lt).cell rfl⟩
          have hUy := HBy.out.size
          obtain ⟨d0, d1, d2, d3, fd0, fd1, fd2, fd3⟩ := blk4 (HK1.out.below HBy.out HK1.out.lt)
          clear hby hoy
          rw [hzl]))
      all_goals
        go_wp2
        refine bodyPost_ret (v := .agg #[.slice Ay zl cy, .int .i64 (now + bye), .int .i64 ret, .int .i64 0]) (by simp [results, Tryz.results25, go_sem, d0, d1, d2, d3]) rfl ?_
        rw [hRe.out]
        subst hzl
        have hUw := HUw.out.size
        exact dv_ends (D := ⟨X, now + bye, ret, 0⟩) HOv.out (by omega) (by omega) (by omega) (bel_step HUw.out HBy.out) (by omega) _ _ _ _
    · rw [rcIs_no g]
      have hRe : Hid (R = dvIll 1) := by show _ = _; rw [HR.out]; unfold tickIn; rw [if_neg g]
      go_wp2_with fail
      refine (l07Ill_any 1 _).mono ?_
      rintro e v ⟨rfl, hbv⟩
      have HBv := Lib.hid (bel_step HUw.out hbv)
      have HKv := HK1.out.below hbv HK1.out.lt
      obtain ⟨d0, d1, d2, d3, fd0, fd1, fd2, fd3⟩ := blk4 HKv
      clear hbv HKv
      go_wp2
      refine bodyPost_ret (v := .agg #[.slice none 0 0, .int .i64 0, .int .i64 0, .int .i64 1]) (by simp [results, Tryz.results25, go_sem, d0, d1, d2, d3]) rfl ?_
      rw [hRe.out]
      exact ill_ends HBv.out (by omega) _ _ _ _
end Go.Proofs.YtohmkjgmhippoaaGreatDoor

namespace Go.Proofs.YtohmkjgmhippoaaGreatDoor
open Go.RowKit

theorem dvTick_few (X : List Bk) (now ret a : Int) : Few (dvTick X now ret a).nd := on_few tick_ok tick_ill
theorem dvTrim_few (X : List Bk) (now ret a : Int) : Few (dvTrim X now ret a).nd := on_few trim_ok trim_ill
theorem dvRoll_few (X : List Bk) (now ret a : Int) : Few (dvRoll X now ret a).nd := on_few roll_ok roll_ill
theorem dvRaise_few (X : List Bk) (now ret : Int) : Few (dvRaise X now ret).nd := on_few raise_ok raise_ill
theorem dvColl_few (X : List Bk) (now ret a : Int) : Few (dvColl X now ret a).nd := on_few coll_ok coll_ill
theorem dvWrite_few (X : List Bk) (now ret s : Int) (d : ByteArray) : Few (dvWrite X now ret s d).nd := by
  unfold dvWrite
  split
  · exact few_nil
  · exact on_few write_ok write_ill
end Go.Proofs.YtohmkjgmhippoaaGreatDoor
