/-
  A drive that comes in as an argument, opened: its chip's cells, its two numbers.
  The laws' own functions over drives: size, copy, comparison, marks.
  l07Hist, DriveRight, l07Ill, l07With and l07Put of the model.
  erasesGap of the program, and the plain mathematics of Wear.
-/
import Derived.Test.YtdeagcdafcfimaaGreatDoorProg
import Derived.KernelRfl
import Derived.Test.YtdeagcdafcfimaaGreatDoorMgNd
import Derived.Test.YtdeagcdafcfimaaGreatDoorMgDa
import Derived.Test.YtdeagcdafcfimaaGreatDoorNdUse
import Derived.Test.YtdeagcdafcfimaaGreatDoorLgMountS
import Derived.Test.YtdeagcdafcfimaaGreatDoorMgChip
import Derived.Test.YtdeagcdafcfimaaGreatDoorMgGc
import Derived.Test.YtdeagcdafcfimaaGreatDoorHsLast
import Derived.Test.YtdeagcdafcfimaaGreatDoorHsTrailS
import Derived.Test.YtdeagcdafcfimaaGreatDoorRcBytes
import Derived.Deep.RegionHeld3
import Derived.StillTailTactics
import Derived.Deep.RegionWith
import Derived.Test.YtdeagcdafcfimaaGreatDoorHsFloor
namespace Go.Proofs.YtdeagcdafcfimaaGreatDoor
open Go.RowKit Go.ChangeShapes Go.WideShapes Go.Deep

section
variable {H : Type} {enc : TypeId × Value → H} {P : Program} {w : World} {base : Nat} {spare : Nat → Bool} {held : Bool}
/-- a drive that comes in -/
theorem open_drive {r : Reach} {b0 : Nat} {td tn t e pt pe : TypeId} {d0 d1 d2 n0 f0 f1 f2 g0 g1 : Field} {v : Value} {d : DataW H} {ps : List MemPlace}
    (hd : P.underlying td = some (.struct #[d0, d1, d2])) (hdone : oneCellFields P #[d0, d1, d2] = true) (hdC : P.cellsOf td = 3) (hd0 : d0.type = tn) (hd1 : P.underlying d1.type = some (.int .i64)) (hd2 : P.underlying d2.type = some (.int .i64))
    (hn : P.underlying tn = some (.struct #[n0])) (hnone : oneCellFields P #[n0] = true) (hnC : P.cellsOf tn = 1) (hn0 : n0.type = t)
    (ht : P.underlying t = some (.slice e)) (he : P.underlying e = some (.struct #[f0, f1, f2])) (hone : oneCellFields P #[f0, f1, f2] = true) (hC : P.cellsOf e = 3)
    (hf0 : f0.type = pt) (hpt : P.underlying pt = some (.slice pe)) (hpe : P.underlying pe = some (.struct #[g0, g1])) (hpone : oneCellFields P #[g0, g1] = true) (hpC : P.cellsOf pe = 2) (hg0 : P.underlying g0.type = some .bool) (hg1 : P.underlying g1.type = some .string)
    (h1 : P.underlying f1.type = some (.int .i64)) (h2 : P.underlying f2.type = some .bool) (hval : Value.okWide P w r b0 td v) (h : DataW.Trod enc P w base spare held td v d ps) :
    ∃ (A : Option Addr) (n cap : Nat) (X : List Bk) (now ret : Int), v = .agg #[.slice A n cap, .int .i64 now, .int .i64 ret] ∧ RdBk w w.heap.size A n X ∧ Wide X ∧ ((-9223372036854775808 ≤ now ∧ now ≤ 9223372036854775807) ∧ (-9223372036854775808 ≤ ret ∧ ret ≤ 9223372036854775807)) := by
  obtain ⟨cs, rfl, hsz⟩ := okWide_struct hd hval
  obtain ⟨fuel, hf⟩ := h
  obtain ⟨hcl, hfs⟩ := fields_of hd hdone hf hdC
  obtain ⟨u, y, m, hu, hy⟩ := hfs 0 d0 rfl
  obtain ⟨u1, y1, m1, hu1, hy1⟩ := hfs 1 d1 rfl
  obtain ⟨u2, y2, m2, hu2, hy2⟩ := hfs 2 d2 rfl
  rw [hd0] at hy
  obtain ⟨hcl', hfs'⟩ := fields_of hn hnone hy hnC
  obtain ⟨u', y', m', hu', hy'⟩ := hfs' 0 n0 rfl
  rw [hn0] at hy'
  obtain ⟨A, n, cap, X, rfl, hX, hW⟩ := open_blocks ht he hone hC hf0 hpt hpe hpone hpC hg0 hg1 h1 h2 hy'
  obtain rfl : u = .slice A n cap := by simpa using hu'
  obtain ⟨z1, hz1, -, hwf1⟩ := DataW.trod_int hd1 hy1
  obtain ⟨z2, hz2, -, hwf2⟩ := DataW.trod_int hd2 hy2
  simp only [List.cons.injEq, and_true] at hz1 hz2
  subst hz1 hz2
  simp only [Lit.wf, Bool.and_eq_true, decide_eq_true_eq] at hwf1 hwf2
  refine ⟨A, n, cap, X, z1, z2, ?_, hX, hW, ⟨hwf1.1, hwf1.2⟩, ⟨hwf2.1, hwf2.2⟩⟩
  obtain ⟨l⟩ := cs
  match l, hcl, hu, hu1, hu2 with
  | [c, c1, c2], _, hu, hu1, hu2 => simp [Value.cells] at hu hu1 hu2; rw [hu, hu1, hu2]
end

set_option maxRecDepth 100000 in
/-- a drive that comes in, at this program's types -/
theorem open_lawsDrive {H : Type} {enc : TypeId × Value → H} {w : World} {base : Nat} {spare : Nat → Bool} {held : Bool} {r : Reach} {b0 : Nat} {v : Value} {d : DataW H} {ps : List MemPlace}
    (hval : Value.okWide Tryz.prog w r b0 36 v) (h : DataW.Trod enc Tryz.prog w base spare held 36 v d ps) :
    ∃ (A : Option Addr) (n cap : Nat) (X : List Bk) (now ret : Int), v = .agg #[.slice A n cap, .int .i64 now, .int .i64 ret] ∧ RdBk w w.heap.size A n X ∧ Wide X ∧ ((-9223372036854775808 ≤ now ∧ now ≤ 9223372036854775807) ∧ (-9223372036854775808 ≤ ret ∧ ret ≤ 9223372036854775807)) :=
  open_drive Tryz.underlying36 (by kernel_rfl) (by kernel_rfl) rfl Tryz.underlying2 Tryz.underlying2 Tryz.underlying34 (by kernel_rfl) (by kernel_rfl) rfl Tryz.underlying32 Tryz.underlying192 (by kernel_rfl) (by kernel_rfl) rfl Tryz.underlying190 Tryz.underlying303 (by kernel_rfl) (by kernel_rfl)
    Tryz.underlying4 Tryz.underlying9 Tryz.underlying2 Tryz.underlying4 hval h
end Go.Proofs.YtdeagcdafcfimaaGreatDoor

namespace Go.Proofs.YtdeagcdafcfimaaGreatDoor
open Go.RowKit

set_option maxHeartbeats 1000000 in
theorem szDrive_any (A : Option Addr) (n ca : Nat) (X : List Bk) (now ret left : Int) (w : World) (h0 : 0 ≤ left) (h1 : left ≤ 1048576) (hX : Wide X) (hA : RdBk w w.heap.size A n X) :
    Calls Tryz.prog 17 #[.agg #[.slice A n ca, .int .i64 now, .int .i64 ret], .int .i64 left] w fun e w' => e = .returned (.int .i64 (szR (szBks X) left)) ∧ Below w.heap.size w w' := by
  have HA := Lib.hid hA; have HD := Lib.hid hX; clear hA hX
  go_enter Tryz.func17, Tryz.ntmps17
  go_wp2_with fail
  refine (szNand_any A n ca X left _ h0 h1 HD.out ?_).mono ?_
  · exact (HA.out.below ((Below.refl _ _).alloc (Nat.le_refl _) _)).mono (by simp)
  rintro e w4 ⟨rfl, hb4⟩
  have HB4 := Lib.hid (((Below.refl w.heap.size w).alloc (Nat.le_refl _) _).trans (hb4.mono (by simp)))
  clear hb4
  by_cases hc : ((szBks X : Nat) : Int) ≤ left
  · have hz := szR_ok hc
    have hnn : 0 ≤ left - (szBks X : Nat) := by omega
    go_wp2
    go_ret
    exact ⟨ret_i hz.symm, HB4.out⟩
  · have hz := szR_no (t := szBks X) (left := left) (by omega)
    go_wp2
    go_ret
    exact ⟨ret_i hz.symm, HB4.out⟩

set_option maxHeartbeats 1000000 in
theorem toDrive_any (A : Option Addr) (n ca : Nat) (X : List Bk) (now ret : Int) (w : World) (hn : n ≤ 2147483648) (hp : ∀ b ∈ X, b.pages.length ≤ 2147483648) (hA : RdBk w w.heap.size A n X) :
    Calls Tryz.prog 19 #[.agg #[.slice A n ca, .int .i64 now, .int .i64 ret]] w fun e w' => ∃ At : Option Addr, e = .returned (.agg #[.slice At n n, .int .i64 now, .int .i64 ret]) ∧ OwNd w' w.heap.size w'.heap.size At n X ∧ Below w.heap.size w w' := by
  have HA := Lib.hid hA; clear hA
  have HP := Lib.hid hp; clear hp
  go_enter Tryz.func19, Tryz.ntmps19
  go_wp2_with fail
  have hb0 : Below w.heap.size w (((w.alloc (.cells #[.slice A n ca, .int .i64 now, .int .i64 ret] 36)).alloc (.cells #[.slice none 0 0, .int .i64 0, .int .i64 0] 43)).alloc (.cells #[.slice none 0 0, .int .i64 0, .int .i64 0] 43)) := (((Below.refl _ _).alloc (Nat.le_refl _) _).alloc (by simp) _).alloc (by simp; omega) _
  have k0 := ((isBlk_new w 36 [.slice A n ca, .int .i64 now, .int .i64 ret]).alloc (.cells #[.slice none 0 0, .int .i64 0, .int .i64 0] 43)).alloc (.cells #[.slice none 0 0, .int .i64 0, .int .i64 0] 43)
  have k1 := (isBlk_new (w.alloc (.cells #[.slice A n ca, .int .i64 now, .int .i64 ret] 36)) 43 [.slice none 0 0, .int .i64 0, .int .i64 0]).alloc (.cells #[.slice none 0 0, .int .i64 0, .int .i64 0] 43)
  have k2 := isBlk_new ((w.alloc (.cells #[.slice A n ca, .int .i64 now, .int .i64 ret] 36)).alloc (.cells #[.slice none 0 0, .int .i64 0, .int .i64 0] 43)) 43 [.slice none 0 0, .int .i64 0, .int .i64 0]
  change IsBlk (((w.alloc (.cells #[.slice A n ca, .int .i64 now, .int .i64 ret] 36)).alloc (.cells #[.slice none 0 0, .int .i64 0, .int .i64 0] 43)).alloc (.cells #[.slice none 0 0, .int .i64 0, .int .i64 0] 43)) _ _ _ at k0 k1 k2
  simp only [size_alloc] at k0 k1 k2
  change Calls _ _ _ (((w.alloc (.cells #[.slice A n ca, .int .i64 now, .int .i64 ret] 36)).alloc (.cells #[.slice none 0 0, .int .i64 0, .int .i64 0] 43)).alloc (.cells #[.slice none 0 0, .int .i64 0, .int .i64 0] 43)) _
  generalize (((w.alloc (.cells #[.slice A n ca, .int .i64 now, .int .i64 ret] 36)).alloc (.cells #[.slice none 0 0, .int .i64 0, .int .i64 0] 43)).alloc (.cells #[.slice none 0 0, .int .i64 0, .int .i64 0] 43)) = U at *
  refine (toNand_any A n ca X U hn HP.out (rd_step HA.out hb0)).mono ?_
  rintro e w4 ⟨rfl, ho, hb4⟩
  generalize (some ⟨U.heap.size + 3, 0, none⟩ : Option Addr) = At at *
  have hs : w.heap.size + 3 ≤ U.heap.size := by have := k2.lt; omega
  have HB4 := Lib.hid (bel_step hb0 hb4)
  have HO := Lib.hid ho
  obtain ⟨c0, c1, c2, -, -, -⟩ := blk3 (k0.below hb4 k0.lt)
  obtain ⟨d0, d1, d2, fd0, fd1, fd2⟩ := blk3 (k1.below hb4 k1.lt)
  obtain ⟨e0, e1, e2, fe0, fe1, fe2⟩ := blk3 (k2.below hb4 k2.lt)
  clear ho hb4 k0 k1 k2 hb0
  go_wp2
  refine bodyPost_ret (v := .agg #[.slice At n n, .int .i64 now, .int .i64 ret]) (by simp [results, Tryz.results19, go_sem, d0, d1, d2]) rfl ⟨At, rfl, ?_, ?_⟩
  · refine (HO.out.mono (Nat.le_refl _) (by simp [World.setCell])).same ?_ |>.mono (by omega) (Nat.le_refl _)
    intro k h1 h2
    repeat rw [Below.heap_setCell _ _ _ _ (by dsimp only; omega)]
  · repeat (with_reducible refine Below.setCell ?_ ?_ _)
    all_goals first | exact HB4.out | (dsimp only; omega)

set_option maxHeartbeats 1000000 in
theorem eqDrive_same (A B : Option Addr) (n ca cb : Nat) (X : List Bk) (now ret : Int) (w : World) (hn : n ≤ 2147483648) (hp : ∀ b ∈ X, b.pages.length ≤ 2147483648) (hA : RdBk w w.heap.size A n X) (hB : RdBk w w.heap.size B n X) :
    Calls Tryz.prog 21 #[.agg #[.slice A n ca, .int .i64 now, .int .i64 ret], .agg #[.slice B n cb, .int .i64 now, .int .i64 ret]] w fun e w' => e = .returned (.bool true) ∧ Below w.heap.size w w' := by
  have HA := Lib.hid hA; have HB := Lib.hid hB; have HP := Lib.hid hp; clear hA hB hp
  go_enter Tryz.func21, Tryz.ntmps21
  go_wp2_with fail
  refine (eqNand_same A B n ca cb X _ hn HP.out ?_ ?_).mono ?_
  · exact (HA.out.below (((Below.refl _ _).alloc (Nat.le_refl _) _).alloc (by simp) _)).mono (by simp; omega)
  · exact (HB.out.below (((Below.refl _ _).alloc (Nat.le_refl _) _).alloc (by simp) _)).mono (by simp; omega)
  rintro e w4 ⟨rfl, hb4⟩
  have k0 := (((isBlk_new w 43 [Value.slice A n ca, .int .i64 now, .int .i64 ret]).alloc _).below hb4 (by simp; omega))
  have k1 := ((isBlk_new (w.alloc _) 43 [Value.slice B n cb, .int .i64 now, .int .i64 ret]).below hb4 (by simp))
  have HB4 := Lib.hid ((((Below.refl w.heap.size w).alloc (Nat.le_refl _) _).alloc (by simp) _).trans (hb4.mono (by simp; omega)))
  simp only [size_alloc] at k0 k1
  obtain ⟨c0, c1, c2, -, -, -⟩ := blk3 k0
  obtain ⟨d0, d1, d2, -, -, -⟩ := blk3 k1
  clear hb4 k0 k1
  go_wp2
  go_ret
  exact ⟨rfl, HB4.out⟩

end Go.Proofs.YtdeagcdafcfimaaGreatDoor

namespace Go.Proofs.YtdeagcdafcfimaaGreatDoor
open Go.RowKit
open Bt (Rc)

theorem isB_rc (lo hi n : Int) : isB lo hi n = rcIs lo hi n := rfl
/-- what l07Hist answers -/
def RetLh (w : World) (X : List Bk) (now ret : Int) (e : Ending) (w' : World) : Prop :=
  ∃ (Y : List Rc) (A : Option Addr) (c : Nat), e = .returned (.tuple #[.agg #[.slice A Y.length c], .bool (dvB X now ret)]) ∧ (dvB X now ret = true → Y = mntList X) ∧ OwRc w' w.heap.size w'.heap.size A Y.length Y ∧ Below w.heap.size w w'

theorem lh_keep {u w' : World} {b0 b1 : Nat} {e0 e1 : TypeId} {A B : Option Addr} {n c m d : Nat} {now ret cd : Int} (h0 : IsBlk u b0 e0 [.slice A n c, .int .i64 now, .int .i64 ret]) (h1 : IsBlk u b1 e1 [.slice B m d, .int .i64 cd]) (hb : Below u.heap.size u w') :
    w'.cell? ⟨b0, 1, none⟩ = some (.int .i64 now) ∧ w'.cell? ⟨b1, 0, none⟩ = some (.slice B m d) ∧ w'.cell? ⟨b1, 1, none⟩ = some (.int .i64 cd) :=
  ⟨(h0.below hb h0.lt).cell rfl, (h1.below hb h1.lt).cell rfl, (h1.below hb h1.lt).cell rfl⟩

set_option maxHeartbeats 4000000 in
set_option maxRecDepth 100000 in
theorem l07Hist_any (A : Option Addr) (n ca : Nat) (X : List Bk) (now ret : Int) (w : World) (hX : Small X) (hA : RdBk w w.heap.size A n X) :
    Calls Tryz.prog 86 #[.agg #[.slice A n ca, .int .i64 now, .int .i64 ret]] w (RetLh w X now ret) := by
  have HMT : Hid (∀ u, Below w.heap.size w u → Calls Tryz.prog 56 #[.agg #[.slice A n ca]] u (RetHO u (mntList X) (mntCode X))) := fun u hb => spec_mount A n ca X u hX (rd_step hA hb)
  have hb0 : Below w.heap.size w ((w.alloc (.cells #[.slice A n ca, .int .i64 now, .int .i64 ret] 43)).alloc (.cells #[.slice none 0 0] 105)) := ((Below.refl _ _).alloc (Nat.le_refl _) _).alloc (by simp) _
  have k0 := (isBlk_new w 43 [.slice A n ca, .int .i64 now, .int .i64 ret]).alloc (.cells #[.slice none 0 0] 105)
  have k1 := isBlk_new (w.alloc (.cells #[.slice A n ca, .int .i64 now, .int .i64 ret] 43)) 105 [.slice none 0 0]
  change IsBlk ((w.alloc (.cells #[.slice A n ca, .int .i64 now, .int .i64 ret] 43)).alloc (.cells #[.slice none 0 0] 105)) _ _ _ at k0 k1
  simp only [size_alloc] at k0 k1
  have HEND : Hid (∀ (u : World) (Y : List Rc) (A' : Option Addr) (c' : Nat) (D : Bool), dvB X now ret = D → (D = true → Y = mntList X) → OwRc u w.heap.size u.heap.size A' Y.length Y → Below w.heap.size w u → RetLh w X now ret (.returned (.tuple #[.agg #[.slice A' Y.length c'], .bool D])) u) := fun u Y A' c' D h1 h2 h3 h4 => by
    subst h1; exact ⟨Y, A', c', rfl, h2, h3, h4⟩
  clear hX hA
  go_enter Tryz.func86, Tryz.ntmps86
  go_wp2_with fail
  generalize (w.alloc (.cells #[.slice A n ca, .int .i64 now, .int .i64 ret] 43)).alloc (.cells #[.slice none 0 0] 105) = W at hb0 k0 k1 ⊢
  have HB0 := Lib.hid hb0; have HK0 := Lib.hid k0; have HK1 := Lib.hid k1
  have hlt1 := k1.lt
  obtain ⟨c0, c1, c2, -, -, -⟩ := blk3 k0
  have x0 : W.cell? ⟨w.heap.size + 1, 0, none⟩ = some (.slice none 0 0) := k1.cell rfl
  have xf0 : W.frozen? ⟨w.heap.size + 1, 0, none⟩ = false := k1.free
  clear hb0 k0 k1
  refine (l02Time_any now W).mono ?_
  rintro e u ⟨rfl, rfl⟩
  rw [isB_rc]
  by_cases g1 : rcIs 0 1000000 now = true
  case neg =>
    rw [Bool.not_eq_true] at g1
    have HF : Hid (dvB X now ret = false) := by show _ = false; unfold dvB; rw [g1]; rfl
    rw [g1]
    go_wp2
    refine bodyPost_ret (v := .tuple #[.agg #[.slice none 0 0], .bool false]) (by simp [results, Tryz.results86, go_sem, x0]) rfl ?_
    exact HEND.out _ [] none 0 false HF.out (fun h => by cases h) (ow_nilR _ _ _ _) (HB0.out.setCell (by dsimp only; omega) _)
  rw [g1]
  go_wp2_with fail
  refine (l02Time_any ret W).mono ?_
  rintro e u ⟨rfl, rfl⟩
  rw [isB_rc]
  by_cases g2 : rcIs 0 1000000 ret = true
  case neg =>
    rw [Bool.not_eq_true] at g2
    have HF : Hid (dvB X now ret = false) := by show _ = false; unfold dvB; rw [g2]; simp
    rw [g2]
    go_wp2
    refine bodyPost_ret (v := .tuple #[.agg #[.slice none 0 0], .bool false]) (by simp [results, Tryz.results86, go_sem, x0]) rfl ?_
    exact HEND.out _ [] none 0 false HF.out (fun h => by cases h) (ow_nilR _ _ _ _) (HB0.out.setCell (by dsimp only; omega) _)
  rw [g2]
  go_wp2_with fail
  refine (HMT.out W HB0.out).mono ?_
  rintro e w2 ⟨Am, cm, rfl, hom, hbm⟩
  have HBm := Lib.hid (bel_step HB0.out hbm)
  have HKm0 := Lib.hid (HK0.out.below hbm HK0.out.lt)
  have HKm1 := Lib.hid (HK1.out.below hbm HK1.out.lt)
  have HOm := Lib.hid hom
  have hsm := hbm.size
  have hlen := mntList_len X
  have HC0 : Hid (mntCode X ≠ 0 → dvB X now ret = false) := fun h => dvB_code h
  have HC1 : Hid (mntCode X = 0 → dvB X now ret = decide ((lastR (mntList X)).t ≤ now)) := fun h => by rw [dvB_ok h, g1, g2]; rfl
  have HYY : Hid (∀ D : Bool, D = true → mntList X = mntList X) := fun _ _ => rfl
  replace HEND : Hid (∀ (u : World) (A' : Option Addr) (c' : Nat) (D : Bool), dvB X now ret = D → OwRc u w.heap.size u.heap.size A' (mntList X).length (mntList X) → Below w.heap.size w u → RetLh w X now ret (.returned (.tuple #[.agg #[.slice A' (mntList X).length c'], .bool D])) u) := fun u A' c' D h1 h2 h3 => HEND.out u _ A' c' D h1 (fun _ => rfl) h2 h3
  generalize hY : mntList X = Y at *
  generalize hyl : Y.length = yl at *
  generalize hC : mntCode X = C at *
  have k4 := isBlk_new w2 107 [.slice Am yl cm, .int .i64 C]
  have hb4 := box_below w2 (.cells #[.slice Am yl cm, .int .i64 C] 107)
  change IsBlk (w2.alloc (.cells #[.slice Am yl cm, .int .i64 C] 107)) _ _ _ at k4
  clear hom hbm c0 c1 c2 x0 xf0 HMT
  go_wp2_with fail
  generalize w2.alloc (.cells #[.slice Am yl cm, .int .i64 C] 107) = w4 at k4 hb4 ⊢
  have HB4 := Lib.hid (bel_step HBm.out hb4)
  have HK4 := Lib.hid k4
  have HD4 := Lib.hid (HKm0.out.below hb4 HKm0.out.lt)
  have HR4 := Lib.hid (HKm1.out.below hb4 HKm1.out.lt)
  have HO4 := Lib.hid (HOm.out.below hb4 (Nat.le_refl _))
  have h24 : w2.heap.size < w4.heap.size := k4.lt
  have y0 : w4.cell? ⟨w2.heap.size, 0, none⟩ = some (.slice Am yl cm) := k4.cell rfl
  have y1 : w4.cell? ⟨w2.heap.size, 1, none⟩ = some (.int .i64 C) := k4.cell rfl
  have x0 : w4.cell? ⟨w.heap.size + 1, 0, none⟩ = some (.slice none 0 0) := HR4.out.cell rfl
  have xf0 : w4.frozen? ⟨w.heap.size + 1, 0, none⟩ = false := HR4.out.free
  clear k4 hb4
  by_cases hc : C = 0
  case neg =>
    have hce : (C == 0) = false := by simpa using hc
    have HF := Lib.hid (HC0.out hc)
    first | go_region | fail "no"
    all_goals
      go_wp2
      refine bodyPost_ret (v := .tuple #[.agg #[.slice Am yl cm], .bool false]) (by simp [results, Tryz.results86, go_sem, x0]) rfl ?_
      refine HEND.out _ Am cm false HF.out ?_ ?_
      · refine (HO4.out.mono (Nat.le_refl _) (by simp [World.setCell]; omega)).same ?_ |>.mono (by have := HB0.out.size; omega) (Nat.le_refl _)
        intro k h1 h2
        first | rw [Below.heap_setCell _ _ _ _ (by dsimp only; omega)] | exact Below.heap_setCell _ _ _ _ (by dsimp only; omega)
      · first | exact (HB4.out.setCell (by dsimp only; omega) _).drew | exact HB4.out.drew.setCell (by dsimp only; omega) _
  subst hc
  replace HC1 := Lib.hid (HC1.out rfl)
  have hf := recField_3
  have HLS : Hid (∀ u, Below w4.heap.size w4 u → Calls Tryz.prog 103 #[.agg #[.slice Am yl cm]] u fun e w' => e = .returned (recV (lastR Y)) ∧ Below u.heap.size u w') := fun u hb => l04Last_any Am yl cm Y u (by omega) ((HO4.out.below hb (by omega)).rd (by have := hb.size; omega))
  generalize lastR Y = L at *
  have hne : ¬ w.heap.size + 1 = w2.heap.size := by have := HKm1.out.lt; omega
  have hne' : ¬ w2.heap.size = w.heap.size + 1 := by have := HKm1.out.lt; omega
  have hd4 : w4.cell? ⟨w.heap.size, 1, none⟩ = some (.int .i64 now) := HD4.out.cell rfl
  go_region_held3 (fun w' => w'.cell? ⟨w.heap.size, 1, none⟩ = some (.int .i64 now) ∧ w'.cell? ⟨w2.heap.size, 0, none⟩ = some (.slice Am yl cm) ∧ w'.cell? ⟨w2.heap.size, 1, none⟩ = some (.int .i64 0))
    (first | exact ⟨hd4, y0, y1⟩ | exact hsu | go_keep)
    ((go_at_call 103
      refine (HLS.out _ (by first | exact (Below.refl _ _).drew | exact ((Below.refl _ _).drew.setCell (by dsimp only; omega) _))).mono ?_
      rintro e u ⟨rfl, hbu⟩
      have hbu' : Below w4.heap.size w4 u := bel_step (Below.refl _ _).drew hbu
      have hsu := lh_keep HD4.out HK4.out hbu'
      have hru := HR4.out.below hbu' HR4.out.lt
      have z0 : u.cell? ⟨w.heap.size + 1, 0, none⟩ = some (.slice none 0 0) := hru.cell rfl
      have zf0 : u.frozen? ⟨w.heap.size + 1, 0, none⟩ = false := hru.free
      have HBu := Lib.hid hbu'
      clear hbu hbu' hru))
  all_goals
    go_wp2
    refine bodyPost_ret (v := .tuple #[.agg #[.slice Am yl cm], .bool (decide (L.t ≤ now))]) (by simp [results, Tryz.results86, go_sem, z0]) rfl ?_
    have hus := HBu.out.size
    refine HEND.out _ Am cm _ HC1.out ?_ ((bel_step HB4.out HBu.out).setCell (by dsimp only; omega) _)
    refine ((HO4.out.below HBu.out (by omega)).mono (Nat.le_refl _) (show _ ≤ _ by simp [World.setCell]; omega)).same ?_ |>.mono (by have := HB0.out.size; omega) (Nat.le_refl _)
    intro k h1 h2
    exact Below.heap_setCell _ _ _ _ (by dsimp only; omega)

set_option maxHeartbeats 1000000 in
set_option maxRecDepth 100000 in
theorem spec_driveRight (A : Option Addr) (n ca : Nat) (X : List Bk) (now ret : Int) (w : World) (hX : Small X) (hA : RdBk w w.heap.size A n X) :
    Calls Tryz.prog 33 #[.agg #[.slice A n ca, .int .i64 now, .int .i64 ret]] w fun e w' => e = .returned (.bool (dvB X now ret)) ∧ Below w.heap.size w w' := by
  have hb0 := box_below w (.cells #[.slice A n ca, .int .i64 now, .int .i64 ret] 43)
  have HLH := Lib.hid (l07Hist_any A n ca X now ret (w.alloc (.cells #[.slice A n ca, .int .i64 now, .int .i64 ret] 43)) hX (rd_step hA hb0))
  have HB0 := Lib.hid hb0
  clear hX hA hb0
  go_enter Tryz.func33, Tryz.ntmps33
  go_wp2_with fail
  refine HLH.out.mono ?_
  rintro e u ⟨Y, A', c', rfl, -, -, hbu⟩
  have HB := Lib.hid (bel_step HB0.out hbu)
  generalize Y.length = yl at *
  generalize hD : dvB X now ret = D at *
  clear hbu
  go_wp2
  go_ret
  exact ⟨by rw [hD]; rfl, HB.out.alloc HB.out.size _⟩

set_option maxHeartbeats 1000000 in
set_option maxRecDepth 100000 in
theorem l07Ill_any (c : Int) (w : World) :
    Calls Tryz.prog 41 #[.int .i64 c] w fun e w' => e = .returned (.agg #[.slice none 0 0, .int .i64 0, .int .i64 0, .int .i64 c]) ∧ Below w.heap.size w w' := by
  go_enter Tryz.func41, Tryz.ntmps41
  go_wp2
  refine bodyPost_ret (v := .agg #[.slice none 0 0, .int .i64 0, .int .i64 0, .int .i64 c]) (by simp [results, Tryz.results41, go_sem]) rfl ⟨rfl, ?_⟩
  exact (Below.refl _ _).alloc (Nat.le_refl _) _

set_option maxHeartbeats 1000000 in
set_option maxRecDepth 100000 in
theorem l07With_any (A : Option Addr) (n ca : Nat) (now ret : Int) (A' : Option Addr) (c' : Nat) (r : NdAns) (w : World) (lo hi : Nat) (hhi : hi ≤ w.heap.size) (ho : OwNd w lo hi A' r.nd.length r.nd) :
    Calls Tryz.prog 101 #[.agg #[.slice A n ca, .int .i64 now, .int .i64 ret], .agg #[.slice A' r.nd.length c', .string r.data, .int .i64 r.code]] w fun e w' =>
      ∃ (A2 : Option Addr) (c2 : Nat), e = .returned (.agg #[.slice A2 (dvWith now ret r).nd.length c2, .int .i64 (dvWith now ret r).now, .int .i64 (dvWith now ret r).ret, .int .i64 (dvWith now ret r).code]) ∧ OwNd w' lo hi A2 (dvWith now ret r).nd.length (dvWith now ret r).nd ∧ Below w.heap.size w w' := by
  have HO := Lib.hid ho
  clear ho
  obtain ⟨nd, da, cd⟩ := r
  simp only at *
  by_cases hc : cd = 0
  · subst hc
    have HE : Hid (dvWith now ret ⟨nd, da, 0⟩ = ⟨nd, now, ret, 0⟩) := by show _ = _; unfold dvWith; rw [if_pos rfl]
    rw [HE.out]
    simp only
    generalize hzl : nd.length = zl at *
    go_enter Tryz.func101, Tryz.ntmps101
    go_wp2
    refine bodyPost_ret (v := .agg #[.slice A' zl c', .int .i64 now, .int .i64 ret, .int .i64 0]) (by simp [results, Tryz.results101, go_sem]) rfl ⟨A', c', rfl, ?_, ?_⟩
    · exact HO.out.below ((((Below.refl _ _).alloc (Nat.le_refl _) _).alloc (by simp) _).alloc (by simp; omega) _) hhi
    · exact (((Below.refl _ _).alloc (Nat.le_refl _) _).alloc (by simp) _).alloc (by simp; omega) _
  · have HE : Hid (dvWith now ret ⟨nd, da, cd⟩ = dvIll cd) := by show _ = _; unfold dvWith; rw [if_neg hc]
    rw [HE.out]
    simp only [dvIll, List.length_nil]
    generalize hzl : nd.length = zl at *
    have hce : (cd != 0) = true := by simpa using hc
    go_enter Tryz.func101, Tryz.ntmps101
    go_wp2_with fail
    have hb0 : Below w.heap.size w (((w.alloc (.cells #[.slice A n ca, .int .i64 now, .int .i64 ret] 43)).alloc (.cells #[.slice A' zl c', .string da, .int .i64 cd] 156)).alloc (.cells #[.slice none 0 0, .int .i64 0, .int .i64 0, .int .i64 0] 50)) := (((Below.refl _ _).alloc (Nat.le_refl _) _).alloc (by simp) _).alloc (by simp; omega) _
    have k2 := isBlk_new ((w.alloc (.cells #[.slice A n ca, .int .i64 now, .int .i64 ret] 43)).alloc (.cells #[.slice A' zl c', .string da, .int .i64 cd] 156)) 50 [.slice none 0 0, .int .i64 0, .int .i64 0, .int .i64 0]
    change IsBlk (((w.alloc (.cells #[.slice A n ca, .int .i64 now, .int .i64 ret] 43)).alloc (.cells #[.slice A' zl c', .string da, .int .i64 cd] 156)).alloc (.cells #[.slice none 0 0, .int .i64 0, .int .i64 0, .int .i64 0] 50)) _ _ _ at k2
    simp only [size_alloc] at k2
    generalize (((w.alloc (.cells #[.slice A n ca, .int .i64 now, .int .i64 ret] 43)).alloc (.cells #[.slice A' zl c', .string da, .int .i64 cd] 156)).alloc (.cells #[.slice none 0 0, .int .i64 0, .int .i64 0, .int .i64 0] 50)) = W at hb0 k2 ⊢
    refine (l07Ill_any cd W).mono ?_
    rintro e u ⟨rfl, hbu⟩
    have HB := Lib.hid (bel_step hb0 hbu)
    obtain ⟨d0, d1, d2, d3, fd0, fd1, fd2, fd3⟩ := blk4 (k2.below hbu k2.lt)
    clear hb0 hbu k2
    go_wp2
    refine bodyPost_ret (v := .agg #[.slice none 0 0, .int .i64 0, .int .i64 0, .int .i64 cd]) (by simp [results, Tryz.results101, go_sem, d0, d1, d2, d3]) rfl ⟨none, 0, rfl, ow_nil _ _ _ _, ?_⟩
    repeat (with_reducible refine Below.setCell ?_ ?_ _)
    all_goals first | exact HB.out | (dsimp only; omega)

theorem pt_keep {u w' : World} {b0 b1 : Nat} {e0 e1 : TypeId} {A : Option Addr} {n c : Nat} {now ret k s q t o : Int} {d : ByteArray} (h0 : IsBlk u b0 e0 [.slice A n c, .int .i64 now, .int .i64 ret]) (h1 : IsBlk u b1 e1 [.int .i64 k, .int .i64 s, .int .i64 q, .int .i64 t, .int .i64 o, .string d]) (hb : Below u.heap.size u w') :
    w'.cell? ⟨b0, 0, none⟩ = some (.slice A n c) ∧ w'.cell? ⟨b0, 1, none⟩ = some (.int .i64 now) ∧ w'.cell? ⟨b0, 2, none⟩ = some (.int .i64 ret) ∧ w'.cell? ⟨b1, 0, none⟩ = some (.int .i64 k) ∧ w'.cell? ⟨b1, 1, none⟩ = some (.int .i64 s) ∧ w'.cell? ⟨b1, 2, none⟩ = some (.int .i64 q) ∧ w'.cell? ⟨b1, 3, none⟩ = some (.int .i64 t) ∧ w'.cell? ⟨b1, 4, none⟩ = some (.int .i64 o) ∧ w'.cell? ⟨b1, 5, none⟩ = some (.string d) ∧ Hid (Below u.heap.size u w') :=
  ⟨(h0.below hb h0.lt).cell rfl, (h0.below hb h0.lt).cell rfl, (h0.below hb h0.lt).cell rfl, (h1.below hb h1.lt).cell rfl, (h1.below hb h1.lt).cell rfl, (h1.below hb h1.lt).cell rfl, (h1.below hb h1.lt).cell rfl, (h1.below hb h1.lt).cell rfl, (h1.below hb h1.lt).cell rfl, hb⟩
theorem pt_of {u w' : World} {a b c d e f g h i : Prop} (x : a ∧ b ∧ c ∧ d ∧ e ∧ f ∧ g ∧ h ∧ i ∧ Hid (Below u.heap.size u w')) : Below u.heap.size u w' := x.2.2.2.2.2.2.2.2.2.out
theorem and_nine {a b c d e f g h i j : Prop} (x : a ∧ b ∧ c ∧ d ∧ e ∧ f ∧ g ∧ h ∧ i ∧ j) : a ∧ b ∧ c ∧ d ∧ e ∧ f ∧ g ∧ h ∧ i :=
  ⟨x.1, x.2.1, x.2.2.1, x.2.2.2.1, x.2.2.2.2.1, x.2.2.2.2.2.1, x.2.2.2.2.2.2.1, x.2.2.2.2.2.2.2.1, x.2.2.2.2.2.2.2.2.1⟩
theorem lastR_qq {Y : List Rc} (h : hRight Y = true) : 0 ≤ (lastR Y).q ∧ (lastR Y).q ≤ 1000000 := by
  unfold lastR
  by_cases hl : Y.length = 0
  · rw [List.getD_eq_getElem?_getD, List.getElem?_eq_none (by omega)]
    show (0 : Int) ≤ 0 ∧ (0 : Int) ≤ 1000000
    omega
  · obtain ⟨h1, -, -⟩ := hRight_at h (k := Y.length - 1) (by omega)
    obtain ⟨-, -, -, -, q1, q2, -⟩ := h1
    exact ⟨by omega, q2⟩

set_option maxHeartbeats 4000000 in
set_option maxRecDepth 100000 in
theorem l07Put_any (A Ah : Option Addr) (n ca ch : Nat) (X : List Bk) (r : Rc) (now ret : Int) (w : World) (hc : mntCode X = 0) (hOk : (lastR (mntList X)).q < 1000000 → (dvRec (mntList X) now r).Ok) (hA : RdBk w w.heap.size A n X) (hR : RdRc w w.heap.size Ah (mntList X).length (mntList X)) :
    Calls Tryz.prog 93 #[.agg #[.slice A n ca, .int .i64 now, .int .i64 ret], .agg #[.slice Ah (mntList X).length ch], recV r] w (RetDv w (dvPut X now ret r)) := by
  obtain ⟨z1, z2, z3⟩ := mnt_zero hc
  have hq := lastR_qq z3
  have hlen := mntList_len X
  have HLS : Hid (∀ u : World, Below w.heap.size w u → Calls Tryz.prog 103 #[.agg #[.slice Ah (mntList X).length ch]] u fun e w' => e = .returned (recV (lastR (mntList X))) ∧ Below u.heap.size u w') := fun u hb => l04Last_any Ah _ ch (mntList X) u (by omega) ((hR.below hb).mono hb.size)
  have HFULL : Hid (1000000 ≤ (lastR (mntList X)).q ∨ 48 ≤ (mntList X).length → dvPut X now ret r = dvIll 9) := fun h => by unfold dvPut; rw [if_pos h]
  have HPUT : Hid (¬ (1000000 ≤ (lastR (mntList X)).q ∨ 48 ≤ (mntList X).length) → dvPut X now ret r = dvWith now ret (putAns X 1 (bstr (dvRec (mntList X) now r).bytes))) := fun h => by unfold dvPut; rw [if_neg h]
  have HBY : Hid ((lastR (mntList X)).q < 1000000 → ∀ u : World, Calls Tryz.prog 106 #[.agg #[.int .i64 r.k, .int .i64 r.s, .int .i64 ((lastR (mntList X)).q + 1), .int .i64 now, .int .i64 r.o, .string r.d]] u fun e w' => e = .returned (.string (bstr (dvRec (mntList X) now r).bytes)) ∧ Below u.heap.size u w') := fun hl u => l03Bytes_any (dvRec (mntList X) now r) u (hOk hl)
  have HAPP : Hid (∀ (D : ByteArray) (u : World), Below w.heap.size w u → Calls Tryz.prog 158 #[.agg #[.slice A n ca], .string D, .int .i64 1] u (RetAns u (putAns X 1 D))) := fun D u hb => l05Append_any A n ca X D 1 u z1 (small_ok z1) (rd_step hA hb)
  generalize dvPut X now ret r = R at *
  generalize bstr (dvRec (mntList X) now r).bytes = DD at *
  replace HAPP := Lib.hid (HAPP.out DD)
  generalize putAns X 1 DD = Q at *
  generalize lastR (mntList X) = L at *
  generalize (mntList X).length = yl at *
  clear hc hOk hA hR z1 z2 z3
  obtain ⟨k, s, sq, ti, o, d⟩ := r
  simp only at *
  obtain ⟨lk, ls, lq, lt, lo, ld⟩ := L
  simp only at *
  have hf := recField_2
  have hb0 : Below w.heap.size w ((((w.alloc (.cells #[.slice A n ca, .int .i64 now, .int .i64 ret] 43)).alloc (.cells #[.slice Ah yl ch] 105)).alloc (.cells #[.int .i64 k, .int .i64 s, .int .i64 sq, .int .i64 ti, .int .i64 o, .string d] 148)).alloc (.cells #[.slice none 0 0, .int .i64 0, .int .i64 0, .int .i64 0] 50)) := ((((Below.refl _ _).alloc (Nat.le_refl _) _).alloc (by simp) _).alloc (by simp; omega) _).alloc (by simp; omega) _
  have k0 := (((isBlk_new w 43 [.slice A n ca, .int .i64 now, .int .i64 ret]).alloc (.cells #[.slice Ah yl ch] 105)).alloc (.cells #[.int .i64 k, .int .i64 s, .int .i64 sq, .int .i64 ti, .int .i64 o, .string d] 148)).alloc (.cells #[.slice none 0 0, .int .i64 0, .int .i64 0, .int .i64 0] 50)
  have k1 := ((isBlk_new (w.alloc (.cells #[.slice A n ca, .int .i64 now, .int .i64 ret] 43)) 105 [.slice Ah yl ch]).alloc (.cells #[.int .i64 k, .int .i64 s, .int .i64 sq, .int .i64 ti, .int .i64 o, .string d] 148)).alloc (.cells #[.slice none 0 0, .int .i64 0, .int .i64 0, .int .i64 0] 50)
  have k2 := (isBlk_new ((w.alloc (.cells #[.slice A n ca, .int .i64 now, .int .i64 ret] 43)).alloc (.cells #[.slice Ah yl ch] 105)) 148 [.int .i64 k, .int .i64 s, .int .i64 sq, .int .i64 ti, .int .i64 o, .string d]).alloc (.cells #[.slice none 0 0, .int .i64 0, .int .i64 0, .int .i64 0] 50)
  have k3 := isBlk_new (((w.alloc (.cells #[.slice A n ca, .int .i64 now, .int .i64 ret] 43)).alloc (.cells #[.slice Ah yl ch] 105)).alloc (.cells #[.int .i64 k, .int .i64 s, .int .i64 sq, .int .i64 ti, .int .i64 o, .string d] 148)) 50 [.slice none 0 0, .int .i64 0, .int .i64 0, .int .i64 0]
  change IsBlk ((((w.alloc (.cells #[.slice A n ca, .int .i64 now, .int .i64 ret] 43)).alloc (.cells #[.slice Ah yl ch] 105)).alloc (.cells #[.int .i64 k, .int .i64 s, .int .i64 sq, .int .i64 ti, .int .i64 o, .string d] 148)).alloc (.cells #[.slice none 0 0, .int .i64 0, .int .i64 0, .int .i64 0] 50)) _ _ _ at k0 k1 k2 k3
  simp only [size_alloc] at k0 k1 k2 k3
  go_enter Tryz.func93, Tryz.ntmps93
  go_wp2_with fail
  generalize ((((w.alloc (.cells #[.slice A n ca, .int .i64 now, .int .i64 ret] 43)).alloc (.cells #[.slice Ah yl ch] 105)).alloc (.cells #[.int .i64 k, .int .i64 s, .int .i64 sq, .int .i64 ti, .int .i64 o, .string d] 148)).alloc (.cells #[.slice none 0 0, .int .i64 0, .int .i64 0, .int .i64 0] 50)) = W at hb0 k0 k1 k2 k3 ⊢
  refine (HLS.out W hb0).mono ?_
  rintro e w2 ⟨rfl, hb2⟩
  have HB2 := Lib.hid (bel_step hb0 hb2)
  have HK0 := Lib.hid (k0.below hb2 k0.lt); have HK1 := Lib.hid (k1.below hb2 k1.lt); have HK2 := Lib.hid (k2.below hb2 k2.lt); have HK3 := Lib.hid (k3.below hb2 k3.lt)
  have h2l := HK3.out.lt
  clear hb0 k0 k1 k2 k3 hb2 HLS
  have y0 : w2.cell? ⟨w.heap.size + 1, 0, none⟩ = some (.slice Ah yl ch) := HK1.out.cell rfl
  by_cases g : 1000000 ≤ lq ∨ 48 ≤ yl
  · have HF := HFULL.out g
    subst HF
    obtain ⟨d0, d1, d2, d3, fd0, fd1, fd2, fd3⟩ := blk4 HK3.out
    have HEND : Hid (∀ u, Below w2.heap.size w2 u → ∀ x y z t : Value, RetDv w (dvIll 9) (.returned (.agg #[.slice none 0 0, .int .i64 0, .int .i64 0, .int .i64 9])) ((((u.setCell ⟨w.heap.size + 1 + 1 + 1, 0, none⟩ x).setCell ⟨w.heap.size + 1 + 1 + 1, 1, none⟩ y).setCell ⟨w.heap.size + 1 + 1 + 1, 2, none⟩ z).setCell ⟨w.heap.size + 1 + 1 + 1, 3, none⟩ t)) := fun u hb x y z t =>
      ⟨none, 0, rfl, ow_nil _ _ _ _, ((((bel_step HB2.out hb).setCell (p := ⟨w.heap.size + 1 + 1 + 1, 0, none⟩) (by dsimp only; omega) _).setCell (p := ⟨w.heap.size + 1 + 1 + 1, 1, none⟩) (by dsimp only; omega) _).setCell (p := ⟨w.heap.size + 1 + 1 + 1, 2, none⟩) (by dsimp only; omega) _).setCell (p := ⟨w.heap.size + 1 + 1 + 1, 3, none⟩) (by dsimp only; omega) _⟩
    by_cases g1 : 1000000 ≤ lq
    · go_wp2_with fail
      refine (l07Ill_any 9 _).mono ?_
      rintro e u ⟨rfl, hbu⟩
      have HBu := Lib.hid hbu
      obtain ⟨d0, d1, d2, d3, fd0, fd1, fd2, fd3⟩ := blk4 (HK3.out.below hbu HK3.out.lt)
      clear hbu
      go_wp2
      refine bodyPost_ret (v := .agg #[.slice none 0 0, .int .i64 0, .int .i64 0, .int .i64 9]) (by simp [results, Tryz.results93, go_sem, d0, d1, d2, d3]) rfl ?_
      exact HEND.out _ HBu.out _ _ _ _
    · have g2 : (48 : Int) ≤ (yl : Int) := by omega
      go_wp2_with fail
      refine (l07Ill_any 9 _).mono ?_
      rintro e u ⟨rfl, hbu⟩
      have HBu := Lib.hid hbu
      obtain ⟨d0, d1, d2, d3, fd0, fd1, fd2, fd3⟩ := blk4 (HK3.out.below hbu HK3.out.lt)
      clear hbu
      go_wp2
      refine bodyPost_ret (v := .agg #[.slice none 0 0, .int .i64 0, .int .i64 0, .int .i64 9]) (by simp [results, Tryz.results93, go_sem, d0, d1, d2, d3]) rfl ?_
      exact HEND.out _ HBu.out _ _ _ _
  have g1 : ¬ 1000000 ≤ lq := by omega
  have g2 : ¬ (48 : Int) ≤ (yl : Int) := by omega
  have HF := HPUT.out g
  subst HF
  replace HBY := Lib.hid (HBY.out (by omega))
  have r2 : w2.cell? ⟨w.heap.size + 1 + 1, 2, none⟩ = some (.int .i64 sq) := HK2.out.cell rfl
  have r3 : w2.cell? ⟨w.heap.size + 1 + 1, 3, none⟩ = some (.int .i64 ti) := HK2.out.cell rfl
  have rf2 : w2.frozen? ⟨w.heap.size + 1 + 1, 2, none⟩ = false := HK2.out.free
  have rf3 : w2.frozen? ⟨w.heap.size + 1 + 1, 3, none⟩ = false := HK2.out.free
  have e1 : w2.cell? ⟨w.heap.size, 1, none⟩ = some (.int .i64 now) := HK0.out.cell rfl
  go_wp2_with fail
  have k2 := (HK2.out.set (j := 2) (.int .i64 (lq + 1))).set (j := 3) (.int .i64 now)
  have k0 := (HK0.out.other (a := ⟨w.heap.size + 1 + 1, 2, none⟩) (by dsimp only; omega) (.int .i64 (lq + 1))).other (a := ⟨w.heap.size + 1 + 1, 3, none⟩) (by dsimp only; omega) (.int .i64 now)
  have k3 := (HK3.out.other (a := ⟨w.heap.size + 1 + 1, 2, none⟩) (by dsimp only; omega) (.int .i64 (lq + 1))).other (a := ⟨w.heap.size + 1 + 1, 3, none⟩) (by dsimp only; omega) (.int .i64 now)
  have hb3 := (HB2.out.setCell (p := ⟨w.heap.size + 1 + 1, 2, none⟩) (by dsimp only; omega) (.int .i64 (lq + 1))).setCell (p := ⟨w.heap.size + 1 + 1, 3, none⟩) (by dsimp only; omega) (.int .i64 now)
  generalize (w2.setCell ⟨w.heap.size + 1 + 1, 2, none⟩ (.int .i64 (lq + 1))).setCell ⟨w.heap.size + 1 + 1, 3, none⟩ (.int .i64 now) = w3 at k0 k2 k3 hb3 ⊢
  change IsBlk w3 _ _ [.int .i64 k, .int .i64 s, .int .i64 (lq + 1), .int .i64 now, .int .i64 o, .string d] at k2
  have HB3 := Lib.hid hb3; have HD3 := Lib.hid k0; have HR3 := Lib.hid k2; have HU3 := Lib.hid k3
  have h3l := k3.lt
  have hne : ¬ w.heap.size + 1 + 1 + 1 = w.heap.size := by omega
  clear k0 k2 k3 hb3 y0 r2 r3 rf2 rf3 e1 HK0 HK1 HK2 HK3 HB2 HPUT HFULL
  go_region_held3 (fun w' => w'.cell? ⟨w.heap.size, 0, none⟩ = some (.slice A n ca) ∧ w'.cell? ⟨w.heap.size, 1, none⟩ = some (.int .i64 now) ∧ w'.cell? ⟨w.heap.size, 2, none⟩ = some (.int .i64 ret) ∧ w'.cell? ⟨w.heap.size + 1 + 1, 0, none⟩ = some (.int .i64 k) ∧ w'.cell? ⟨w.heap.size + 1 + 1, 1, none⟩ = some (.int .i64 s) ∧ w'.cell? ⟨w.heap.size + 1 + 1, 2, none⟩ = some (.int .i64 (lq + 1)) ∧ w'.cell? ⟨w.heap.size + 1 + 1, 3, none⟩ = some (.int .i64 now) ∧ w'.cell? ⟨w.heap.size + 1 + 1, 4, none⟩ = some (.int .i64 o) ∧ w'.cell? ⟨w.heap.size + 1 + 1, 5, none⟩ = some (.string d))
    (first | exact and_nine (pt_keep HD3.out HR3.out (Below.refl _ _)) | exact and_nine (pt_keep HD3.out HR3.out (Below.refl _ _).drew) | exact hsx | exact hsy | exact hsz | go_keep)
    (first
      | (go_at_call 106
         refine (HBY.out _).mono ?_
         rintro e x ⟨rfl, hbx⟩
         have HBx : Hid (Below w3.heap.size w3 x) := bel_step (Below.refl _ _).drew hbx
         have hsx := and_nine (pt_keep HD3.out HR3.out HBx.out)
         clear hbx)
      | (go_at_call 158
         refine (HAPP.out _ (bel_step HB3.out HBx.out)).mono ?_
         rintro e y ⟨Ay, cy, rfl, hoy, hby⟩
         have HBy : Hid (Below w3.heap.size w3 y) := bel_step HBx.out hby
         have HOy := Lib.hid hoy
         have hsy := and_nine (pt_keep HD3.out HR3.out HBy.out)
         clear hby hoy)
      | (go_at_call 101
         refine (l07With_any A n ca now ret Ay cy Q y x.heap.size y.heap.size (Nat.le_refl _) HOy.out).mono ?_
         rintro e z ⟨Az, cz, rfl, hoz, hbz⟩
         have HBz : Hid (Below w3.heap.size w3 z) := bel_step HBy.out hbz
         have HOz := Lib.hid hoz
         have hsz := and_nine (pt_keep HD3.out HR3.out HBz.out)
         have hxx := HBx.out.size
         have hyz := hbz.size
         obtain ⟨d0, d1, d2, d3, fd0, fd1, fd2, fd3⟩ := blk4 (HU3.out.below HBz.out HU3.out.lt)
         clear hbz hoz))
  all_goals
    generalize hDD : dvWith now ret Q = D at *
    obtain ⟨nd, tn, tr, dc⟩ := D
    simp only at *
    generalize hzl : nd.length = zl at *
    go_wp2
    refine bodyPost_ret (v := .agg #[.slice Az zl cz, .int .i64 tn, .int .i64 tr, .int .i64 dc]) (by simp [results, Tryz.results93, go_sem, d0, d1, d2, d3]) rfl ?_
    try rw [hDD]
    subst hzl
    refine ⟨Az, cz, rfl, ?_, ?_⟩
    · have hyz' := HBz.out.size
      have h30 := HB3.out.size
      refine (HOz.out.mono (Nat.le_refl _) (show _ ≤ _ by simp [World.setCell]; omega)).same ?_ |>.mono (by omega) (Nat.le_refl _)
      intro k h1 h2
      repeat rw [Below.heap_setCell _ _ _ _ (by dsimp only; omega)]
    · repeat (with_reducible refine Below.setCell ?_ ?_ _)
      all_goals first | exact bel_step HB3.out HBz.out | (dsimp only; omega)
end Go.Proofs.YtdeagcdafcfimaaGreatDoor

namespace Go.Proofs.YtdeagcdafcfimaaGreatDoor
open Go.RowKit

/-- the least Erases among the first blocks that are not bad: the program's -/
def wrLo (X : List Bk) : Nat → Int
  | 0 => 1000000
  | k + 1 => if (X.getD k zeroBk).bad = true then wrLo X k else if (X.getD k zeroBk).erases < wrLo X k then (X.getD k zeroBk).erases else wrLo X k
/-- the greatest -/
def wrHi (X : List Bk) : Nat → Int
  | 0 => 0
  | k + 1 => if (X.getD k zeroBk).bad = true then wrHi X k else if wrHi X k < (X.getD k zeroBk).erases then (X.getD k zeroBk).erases else wrHi X k
/-- the least: the model's -/
def wrL2 (X : List Bk) : Nat → Int
  | 0 => -1
  | k + 1 => if (X.getD k zeroBk).bad = true then wrL2 X k else if wrL2 X k < 0 ∨ (X.getD k zeroBk).erases < wrL2 X k then (X.getD k zeroBk).erases else wrL2 X k
theorem wr_inv {X : List Bk} (h : ∀ i, i < X.length → 0 ≤ (X.getD i zeroBk).erases ∧ (X.getD i zeroBk).erases ≤ 1000000) : ∀ k, k ≤ X.length → (wrL2 X k = -1 ∧ wrLo X k = 1000000 ∧ wrHi X k = 0) ∨ (0 ≤ wrL2 X k ∧ wrLo X k = wrL2 X k ∧ wrL2 X k ≤ wrHi X k ∧ wrHi X k ≤ 1000000)
  | 0, _ => .inl ⟨rfl, rfl, rfl⟩
  | k + 1, hk => by
    have ih := wr_inv h k (by omega)
    obtain ⟨e0, e1⟩ := h k (by omega)
    simp only [wrL2, wrLo, wrHi]
    generalize X.getD k zeroBk = b at *
    cases b.bad with
    | true => simpa using ih
    | false =>
      simp only [Bool.false_eq_true, if_false]
      right
      rcases ih with ⟨a, b', c⟩ | ⟨a, b', c, d⟩
      · rw [a, b', c, if_pos (by omega)]
        by_cases g : b.erases < 1000000
        · rw [if_pos g]
          by_cases g2 : 0 < b.erases
          · rw [if_pos g2]; omega
          · rw [if_neg g2]; omega
        · rw [if_neg g, if_pos (by omega)]; omega
      · rw [b']
        by_cases g : b.erases < wrL2 X k
        · rw [if_pos (.inr g), if_pos g]
          by_cases g2 : wrHi X k < b.erases
          · rw [if_pos g2]; omega
          · rw [if_neg g2]; omega
        · rw [if_neg (by omega), if_neg g]
          by_cases g2 : wrHi X k < b.erases
          · rw [if_pos g2]; omega
          · rw [if_neg g2]; omega
/-- what Wear answers -/
def wrGap (X : List Bk) : Int := wrHi X X.length - (if 0 ≤ wrL2 X X.length then wrL2 X X.length else 0)
noncomputable def wrAns (X : List Bk) (now ret : Int) : Int := if dvB X now ret = true then wrGap X else 0
theorem nd_er {X : List Bk} (h : NdOk X) : ∀ i, i < X.length → 0 ≤ (X.getD i zeroBk).erases ∧ (X.getD i zeroBk).erases ≤ 1000000 := fun i hi => by
  have := (h.2 i hi).2.1
  omega
theorem wr_impl {X : List Bk} (h : NdOk X) : (if 0 < wrHi X X.length - wrLo X X.length then wrHi X X.length - wrLo X X.length else 0) = wrGap X := by
  unfold wrGap
  rcases wr_inv (nd_er h) X.length (Nat.le_refl _) with ⟨a, b, c⟩ | ⟨a, b, c, d⟩
  · rw [a, b, c]; rfl
  · rw [b, if_pos a]
    by_cases g : 0 < wrHi X X.length - wrL2 X X.length
    · rw [if_pos g]
    · rw [if_neg g]; omega

set_option maxHeartbeats 2000000 in
set_option maxRecDepth 100000 in
theorem erasesGap_any (A : Option Addr) (n ca : Nat) (X : List Bk) (w : World) (hok : NdOk X) (hA : RdBk w w.heap.size A n X) :
    Calls Tryz.prog 37 #[.agg #[.slice A n ca]] w fun e w' => e = .returned (.int .i64 (wrGap X)) ∧ Below w.heap.size w w' := by
  have hl := hA.1
  have hn12 : n ≤ 12 := by rw [← hl]; exact hok.1.2
  have HER := Lib.hid (nd_er hok)
  have HIN := Lib.hid (wr_inv (nd_er hok))
  have HWI := Lib.hid (wr_impl hok)
  have HA := Lib.hid hA
  have HL := Lib.hid hl
  have hb0 := box_below w (.cells #[.slice A n ca] 41)
  have k0 := isBlk_new w 41 [.slice A n ca]
  change IsBlk (w.alloc (.cells #[.slice A n ca] 41)) _ _ _ at k0
  have x0 : (w.alloc (.cells #[.slice A n ca] 41)).cell? ⟨w.heap.size, 0, none⟩ = some (.slice A n ca) := k0.cell rfl
  clear hA hok hl
  go_enter Tryz.func37, Tryz.ntmps37
  go_wp2
  generalize w.alloc (.cells #[.slice A n ca] 41) = W at hb0 k0 x0 ⊢
  have HB0 := Lib.hid hb0
  clear hb0 k0
  go_loopw [3, 4, 9] (fun l g i wr => ∃ k : Nat, k ≤ n ∧ i = .int .i64 (k : Nat) ∧ l = .int .i64 (wrLo X k) ∧ g = .int .i64 (wrHi X k) ∧ wr = W) (fun _ _ i _ => n - (intOf i).toNat)
  case atStart => exact ⟨0, by omega, rfl, rfl, rfl, rfl⟩
  case round =>
    obtain ⟨k, hk, rfl, rfl, rfl, rfl⟩ := hrel
    by_cases hlt : k < n
    · obtain ⟨g, off, pA, pc, hA', hg, hc0, hc1, hc2, -⟩ := (rd_step HA.out HB0.out).at hlt
      subst hA'
      have hkl : k < X.length := by have := HL.out; omega
      have her := HER.out k hkl
      have hin := HIN.out k (by omega)
      have HLO : Hid (wrLo X (k + 1) = if (X.getD k zeroBk).bad = true then wrLo X k else if (X.getD k zeroBk).erases < wrLo X k then (X.getD k zeroBk).erases else wrLo X k) := rfl
      have HHI : Hid (wrHi X (k + 1) = if (X.getD k zeroBk).bad = true then wrHi X k else if wrHi X k < (X.getD k zeroBk).erases then (X.getD k zeroBk).erases else wrHi X k) := rfl
      generalize X.getD k zeroBk = b at *
      generalize wrLo X k = lo at *
      generalize wrHi X k = hi at *
      obtain ⟨bp, er, bad⟩ := b
      simp only at *
      cases bad with
      | true =>
        go_wp2
        go_roundw
        case rel => exact ⟨k + 1, by omega, by go_num, by rw [HLO.out]; rfl, by rw [HHI.out]; rfl, by first | rfl | trivial⟩
        case measure => simp [intOf]; omega
      | false =>
        simp only [Bool.false_eq_true, if_false] at HLO HHI
        go_wp2
        go_roundw
        case rel => exact ⟨k + 1, by omega, by go_num, by rw [HLO.out]; congr 1; split <;> omega, by rw [HHI.out]; congr 1; split <;> omega, by first | rfl | trivial⟩
        case measure => simp [intOf]; omega
    · obtain rfl : k = n := by omega
      have hkl := HL.out
      have hin := HIN.out k (by omega)
      have hwi := HWI.out
      rw [hkl] at hwi
      have hw : IntKind.i64.wrap (wrHi X k - wrLo X k) = wrHi X k - wrLo X k := IntWalk.i64_in _ (by rcases hin with ⟨-, b, c⟩ | ⟨a, b, c, d⟩ <;> omega)
      have HWI' := Lib.hid hwi
      generalize wrLo X k = lo at *
      generalize wrHi X k = hi at *
      clear hwi hin
      go_wp2
      go_ret
      refine ⟨?_, HB0.out⟩
      rw [← HWI'.out]
      exact ret_i (by split <;> omega)

set_option maxHeartbeats 1000000 in
set_option maxRecDepth 100000 in
/-- Wear of the program -/
theorem impl_dvWear (A : Option Addr) (n ca : Nat) (X : List Bk) (now ret : Int) (a0 a2 : Addr) (w : World) (hG : ErrType w) (hS : Two w a0 a2) (hX : Small X) (hA : RdBk w w.heap.size A n X) :
    Calls Tryz.prog 20 #[.agg #[.slice A n ca, .int .i64 now, .int .i64 ret]] w fun e w' => e = .returned (.int .i64 (wrAns X now ret)) ∧ Below w.heap.size w w' := by
  have hb0 := box_below w (.cells #[.slice A n ca, .int .i64 now, .int .i64 ret] 43)
  have k0 := isBlk_new w 43 [.slice A n ca, .int .i64 now, .int .i64 ret]
  change IsBlk (w.alloc (.cells #[.slice A n ca, .int .i64 now, .int .i64 ret] 43)) _ _ _ at k0
  have HDR := Lib.hid (impl_driveRight A n ca X now ret a0 a2 (w.alloc (.cells #[.slice A n ca, .int .i64 now, .int .i64 ret] 43)) (hG.below hb0) (hS.below hb0) hX (rd_step hA hb0))
  have HA := Lib.hid hA
  obtain ⟨c0, c1, c2, -, -, -⟩ := blk3 k0
  clear hG hS hX hA
  have HANS : Hid (wrAns X now ret = if dvB X now ret = true then wrGap X else 0) := rfl
  generalize wrAns X now ret = ans at *
  go_enter Tryz.func20, Tryz.ntmps20
  go_wp2_with fail
  generalize w.alloc (.cells #[.slice A n ca, .int .i64 now, .int .i64 ret] 43) = W at *
  refine HDR.out.mono ?_
  rintro e u ⟨rfl, hbu⟩
  have HB := Lib.hid (bel_step hb0 hbu)
  obtain ⟨d0, d1, d2, -, -, -⟩ := blk3 (k0.below hbu k0.lt)
  cases hD : dvB X now ret with
  | false =>
    rw [hD, if_neg (by simp)] at HANS
    clear hb0 hbu k0 c0 c1 c2 HDR
    go_wp2
    go_ret
    exact ⟨by rw [HANS.out]; rfl, HB.out⟩
  | true =>
    rw [hD, if_pos rfl] at HANS
    have hok := (dvB_right hD).2.2.2
    have HE := Lib.hid (erasesGap_any A n ca X u hok (rd_step HA.out HB.out))
    clear hb0 hbu k0 c0 c1 c2 HDR hok
    go_wp2_with fail
    refine HE.out.mono ?_
    rintro e v ⟨rfl, hbv⟩
    have HBv := Lib.hid (bel_step HB.out hbv)
    clear hbv
    go_wp2
    go_ret
    exact ⟨by rw [HANS.out]; rfl, HBv.out⟩

set_option maxHeartbeats 2000000 in
set_option maxRecDepth 100000 in
/-- Wear of the model -/
theorem spec_dvWear (A : Option Addr) (n ca : Nat) (X : List Bk) (now ret : Int) (w : World) (hX : Small X) (hA : RdBk w w.heap.size A n X) :
    Calls Tryz.prog 18 #[.agg #[.slice A n ca, .int .i64 now, .int .i64 ret]] w fun e w' => e = .returned (.int .i64 (wrAns X now ret)) ∧ Below w.heap.size w w' := by
  have hb0 := box_below w (.cells #[.slice A n ca, .int .i64 now, .int .i64 ret] 43)
  have k0 := isBlk_new w 43 [.slice A n ca, .int .i64 now, .int .i64 ret]
  change IsBlk (w.alloc (.cells #[.slice A n ca, .int .i64 now, .int .i64 ret] 43)) _ _ _ at k0
  have HDR := Lib.hid (spec_driveRight A n ca X now ret (w.alloc (.cells #[.slice A n ca, .int .i64 now, .int .i64 ret] 43)) hX (rd_step hA hb0))
  have HA := Lib.hid hA
  have HL := Lib.hid hA.1
  obtain ⟨c0, c1, c2, -, -, -⟩ := blk3 k0
  clear hX hA
  have HANS : Hid (wrAns X now ret = if dvB X now ret = true then wrGap X else 0) := rfl
  generalize wrAns X now ret = ans at *
  go_enter Tryz.func18, Tryz.ntmps18
  go_wp2_with fail
  generalize w.alloc (.cells #[.slice A n ca, .int .i64 now, .int .i64 ret] 43) = W at *
  refine HDR.out.mono ?_
  rintro e u ⟨rfl, hbu⟩
  have HB := Lib.hid (bel_step hb0 hbu)
  have HK := Lib.hid (k0.below hbu k0.lt)
  cases hD : dvB X now ret with
  | false =>
    rw [hD, if_neg (by simp)] at HANS
    clear hb0 hbu k0 c0 c1 c2 HDR
    go_wp2
    go_ret
    exact ⟨by rw [HANS.out]; rfl, HB.out⟩
  | true =>
    rw [hD, if_pos rfl] at HANS
    have hok := (dvB_right hD).2.2.2
    have hn12 : n ≤ 12 := by rw [← HL.out]; exact hok.1.2
    have HER := Lib.hid (nd_er hok)
    have HIN := Lib.hid (wr_inv (nd_er hok))
    have HGAP : Hid (wrGap X = wrHi X X.length - (if 0 ≤ wrL2 X X.length then wrL2 X X.length else 0)) := rfl
    clear hb0 hbu k0 c0 c1 c2 HDR hok
    go_wp2_with fail
    go_loopw [3, 4, 5] (fun l g i wr => ∃ k : Nat, k ≤ n ∧ i = .int .i64 (k : Nat) ∧ l = .int .i64 (wrL2 X k) ∧ g = .int .i64 (wrHi X k) ∧ Hid (Below u.heap.size u wr)) (fun _ _ i _ => n - (intOf i).toNat)
    case atStart => exact ⟨0, by omega, rfl, rfl, rfl, Below.refl _ _⟩
    case round =>
      obtain ⟨k, hk, rfl, rfl, rfl, hbr⟩ := hrel
      have HBR := Lib.hid (bel_step HB.out hbr.out)
      obtain ⟨y0, y1, y2, -, -, -⟩ := blk3 (HK.out.below hbr.out HK.out.lt)
      by_cases hlt : k < n
      · obtain ⟨g, off, pA, pc, hA', hg, hc0, hc1, hc2, -⟩ := (rd_step HA.out HBR.out).at hlt
        subst hA'
        have hkl : k < X.length := by have := HL.out; omega
        have her := HER.out k hkl
        have hin := HIN.out k (by omega)
        have HLO : Hid (wrL2 X (k + 1) = if (X.getD k zeroBk).bad = true then wrL2 X k else if wrL2 X k < 0 ∨ (X.getD k zeroBk).erases < wrL2 X k then (X.getD k zeroBk).erases else wrL2 X k) := rfl
        have HHI : Hid (wrHi X (k + 1) = if (X.getD k zeroBk).bad = true then wrHi X k else if wrHi X k < (X.getD k zeroBk).erases then (X.getD k zeroBk).erases else wrHi X k) := rfl
        generalize X.getD k zeroBk = b at *
        generalize wrL2 X k = lo at *
        generalize wrHi X k = hi at *
        obtain ⟨bp, er, bad⟩ := b
        simp only at *
        cases bad with
        | true =>
          go_wp2_with fail
          go_roundw
          case rel => exact ⟨k + 1, by omega, by go_num, by rw [HLO.out]; rfl, by rw [HHI.out]; rfl, Lib.hid (bel_step hbr.out (box_below _ _))⟩
          case measure => simp [intOf]; omega
        | false =>
          simp only [Bool.false_eq_true, if_false] at HLO HHI
          have hmx : (if hi ≤ er then er else hi) = (if hi < er then er else hi) := by split <;> split <;> omega
          have HMX := Lib.hid hmx
          clear hmx
          go_wp2_with (refine (l01Max_any _ _ _).mono ?_; rintro e w1 ⟨rfl, rfl⟩)
          all_goals
            go_roundw
            case rel => exact ⟨k + 1, by omega, by go_num, by rw [HLO.out]; congr 1; split <;> omega, by rw [HHI.out, ← HMX.out], Lib.hid (bel_step hbr.out (box_below _ _))⟩
            case measure => simp [intOf]; omega
      · obtain rfl : k = n := by omega
        have hin := HIN.out k (by have := HL.out; omega)
        have hgap := HGAP.out
        rw [HL.out] at hgap
        have hmx : (if 0 ≤ wrL2 X k then wrL2 X k else 0) = 0 ∨ (0 ≤ wrL2 X k ∧ (if 0 ≤ wrL2 X k then wrL2 X k else 0) = wrL2 X k) := by by_cases h : 0 ≤ wrL2 X k <;> simp [h]
        have hw : IntKind.i64.wrap (wrHi X k - (if 0 ≤ wrL2 X k then wrL2 X k else 0)) = wrHi X k - (if 0 ≤ wrL2 X k then wrL2 X k else 0) := IntWalk.i64_in _ (by rcases hin with ⟨a, b, c⟩ | ⟨a, b, c, d⟩ <;> rcases hmx with h | h <;> omega)
        have HG := Lib.hid hgap
        clear hgap hin hmx
        generalize wrL2 X k = lo at *
        generalize wrHi X k = hi at *
        go_wp2_with (refine (l01Max_any _ _ _).mono ?_; rintro e w1 ⟨rfl, rfl⟩)
        all_goals
          go_ret
          exact ⟨by rw [HANS.out, HG.out]; first | (rw [if_pos (by assumption)]; rfl) | (rw [if_neg (by omega), Int.sub_zero]; rfl), HBR.out⟩
end Go.Proofs.YtdeagcdafcfimaaGreatDoor
