/-
  Restart of the program and of the model.
-/
import Derived.Test.YtohmkjgmhippoaaGreatDoorProg
import Derived.KernelRfl
import Derived.Test.YtohmkjgmhippoaaGreatDoorMgDa
import Derived.Test.YtohmkjgmhippoaaGreatDoorMgDb
namespace Go.Proofs.YtohmkjgmhippoaaGreatDoor
open Go.RowKit

theorem restart_ok {X : List Bk} {now ret : Int} (h : dvB X now ret = true) (_ : (⟨X, now, ret, 0⟩ : Dv).code = 0) : NdOk (⟨X, now, ret, 0⟩ : Dv).nd := (dvB_right h).2.2.2
theorem restart_ill {X : List Bk} {now ret : Int} : (⟨X, now, ret, 0⟩ : Dv).code ≠ 0 → (⟨X, now, ret, 0⟩ : Dv) = dvIll (⟨X, now, ret, 0⟩ : Dv).code := fun h => absurd rfl h
theorem dvRestart_few (X : List Bk) (now ret : Int) : Few (dvRestart X now ret).nd := on_few restart_ok restart_ill

set_option maxHeartbeats 2000000 in
set_option maxRecDepth 100000 in
theorem impl_dvRestart (A : Option Addr) (n ca : Nat) (X : List Bk) (now ret : Int) (a0 a2 : Addr) (w : World) (hG : ErrType w) (hS : Two w a0 a2) (hX : Small X) (hA : RdBk w w.heap.size A n X) :
    Calls Tryz.prog 46 #[.agg #[.slice A n ca], .int .i64 now, .int .i64 ret] w (RetDv w (dvRestart X now ret)) := by
  have HRT : Hid (∀ u, Below w.heap.size w u → Calls Tryz.prog 18 #[.agg #[.slice A n ca, .int .i64 now, .int .i64 ret]] u fun e w' => e = .returned (.bool (dvB X now ret)) ∧ Below u.heap.size u w') := fun u hb => impl_driveRight A n ca X now ret a0 a2 u (hG.below hb) (hS.below hb) hX (rd_step hA hb)
  have HCP : Hid (dvB X now ret = true → ∀ u, Below w.heap.size w u → Calls Tryz.prog 74 #[.agg #[.slice A n ca]] u (RetNd u X)) := fun h u hb => impl_copyNand A n ca X u hX (dvB_right h).2.2.2 (rd_step hA hb)
  have HR1 : Hid (dvB X now ret = true → dvRestart X now ret = ⟨X, now, ret, 0⟩) := fun h => by unfold dvRestart dvOn; rw [if_pos h]
  have HR0 : Hid (dvB X now ret = false → dvRestart X now ret = dvIll 1) := fun h => by unfold dvRestart dvOn; rw [h, if_neg (by simp)]
  generalize dvRestart X now ret = R at *
  clear hG hS hX hA
  have hb0 : Below w.heap.size w (((w.alloc (.cells #[.slice A n ca] 31)).alloc (.cells #[.slice none 0 0, .int .i64 0, .int .i64 0, .int .i64 0] 38)).alloc (.cells #[.slice A n ca, .int .i64 now, .int .i64 ret] 33)) := (((Below.refl _ _).alloc (Nat.le_refl _) _).alloc (by simp) _).alloc (by simp; omega) _
  have k0 := ((isBlk_new w 31 [.slice A n ca]).alloc (.cells #[.slice none 0 0, .int .i64 0, .int .i64 0, .int .i64 0] 38)).alloc (.cells #[.slice A n ca, .int .i64 now, .int .i64 ret] 33)
  have k1 := (isBlk_new (w.alloc (.cells #[.slice A n ca] 31)) 38 [.slice none 0 0, .int .i64 0, .int .i64 0, .int .i64 0]).alloc (.cells #[.slice A n ca, .int .i64 now, .int .i64 ret] 33)
  have k2 := isBlk_new ((w.alloc (.cells #[.slice A n ca] 31)).alloc (.cells #[.slice none 0 0, .int .i64 0, .int .i64 0, .int .i64 0] 38)) 33 [.slice A n ca, .int .i64 now, .int .i64 ret]
  change IsBlk (((w.alloc (.cells #[.slice A n ca] 31)).alloc (.cells #[.slice none 0 0, .int .i64 0, .int .i64 0, .int .i64 0] 38)).alloc (.cells #[.slice A n ca, .int .i64 now, .int .i64 ret] 33)) _ _ _ at k0 k1 k2
  simp only [size_alloc] at k0 k1 k2
  go_enter Tryz.func46, Tryz.ntmps46
  go_wp2_with fail
  generalize (((w.alloc (.cells #[.slice A n ca] 31)).alloc (.cells #[.slice none 0 0, .int .i64 0, .int .i64 0, .int .i64 0] 38)).alloc (.cells #[.slice A n ca, .int .i64 now, .int .i64 ret] 33)) = W at hb0 k0 k1 k2 ⊢
  refine (HRT.out W hb0).mono ?_
  rintro e u ⟨rfl, hb⟩
  have HB := Lib.hid (bel_step hb0 hb)
  have HK0 := Lib.hid (k0.below hb k0.lt); have HK1 := Lib.hid (k1.below hb k1.lt); have HK2 := Lib.hid (k2.below hb k2.lt)
  have hl2 := HK2.out.lt
  clear hb0 hb k0 k1 k2 HRT
  cases hD : dvB X now ret with
  | false =>
    have hRe := Lib.hid (HR0.out hD)
    obtain ⟨d0, d1, d2, d3, fd0, fd1, fd2, fd3⟩ := blk4 HK1.out
    go_wp2
    refine bodyPost_ret (v := .agg #[.slice none 0 0, .int .i64 0, .int .i64 0, .int .i64 1]) (by simp [results, Tryz.results46, go_sem, d0, d1, d2, d3]) rfl ?_
    rw [hRe.out]
    exact ill_ends HB.out (by omega) _ _ _ _
  | true =>
    have hRe := Lib.hid (HR1.out hD)
    replace HCP := Lib.hid (HCP.out hD u HB.out)
    have x0 : u.cell? ⟨w.heap.size, 0, none⟩ = some (.slice A n ca) := HK0.out.cell rfl
    go_wp2_with fail
    refine HCP.out.mono ?_
    rintro e v ⟨A', c', rfl, hov, hbv⟩
    generalize hzl : X.length = zl at *
    have HBv := Lib.hid (bel_step HB.out hbv)
    have HOv := Lib.hid hov
    have huv := hbv.size
    obtain ⟨d0, d1, d2, d3, fd0, fd1, fd2, fd3⟩ := blk4 (HK1.out.below hbv HK1.out.lt)
    obtain ⟨e0, e1, e2, fe0, fe1, fe2⟩ := blk3 (HK2.out.below hbv HK2.out.lt)
    clear hov hbv HCP x0
    go_wp2
    refine bodyPost_ret (v := .agg #[.slice A' zl c', .int .i64 now, .int .i64 ret, .int .i64 0]) (by simp [results, Tryz.results46, go_sem, d0, d1, d2, d3]) rfl ?_
    rw [hRe.out]
    subst hzl
    have hBw := HB.out.size
    refine dv_ends (D := ⟨X, now, ret, 0⟩) (lo := u.heap.size) (hi := v.heap.size) ?_ (by omega) (by omega) (by simp [World.setCell]) ?_ (by omega) _ _ _ _
    · exact HOv.out.same fun j h1 h2 => Below.heap_setCell _ _ _ _ (by dsimp only; omega)
    · exact HBv.out.setCell (by dsimp only; omega) _

set_option maxHeartbeats 2000000 in
set_option maxRecDepth 100000 in
theorem spec_dvRestart (A : Option Addr) (n ca : Nat) (X : List Bk) (now ret : Int) (w : World) (hX : Small X) (hA : RdBk w w.heap.size A n X) :
    Calls Tryz.prog 44 #[.agg #[.slice A n ca], .int .i64 now, .int .i64 ret] w (RetDv w (dvRestart X now ret)) := by
  have HRT : Hid (∀ u, Below w.heap.size w u → Calls Tryz.prog 16 #[.agg #[.slice A n ca, .int .i64 now, .int .i64 ret]] u fun e w' => e = .returned (.bool (dvB X now ret)) ∧ Below u.heap.size u w') := fun u hb => spec_driveRight A n ca X now ret u hX (rd_step hA hb)
  have HCP : Hid (dvB X now ret = true → ∀ u, Below w.heap.size w u → Calls Tryz.prog 61 #[.agg #[.slice A n ca]] u (RetNd u X)) := fun h u hb => spec_l02Copy A n ca X u (dvB_right h).2.2.2 (rd_step hA hb)
  have HR1 : Hid (dvB X now ret = true → dvRestart X now ret = ⟨X, now, ret, 0⟩) := fun h => by unfold dvRestart dvOn; rw [if_pos h]
  have HR0 : Hid (dvB X now ret = false → dvRestart X now ret = dvIll 1) := fun h => by unfold dvRestart dvOn; rw [h, if_neg (by simp)]
  generalize dvRestart X now ret = R at *
  clear hX hA
  have hb0 : Below w.heap.size w (((w.alloc (.cells #[.slice A n ca] 31)).alloc (.cells #[.slice none 0 0, .int .i64 0, .int .i64 0, .int .i64 0] 38)).alloc (.cells #[.slice A n ca, .int .i64 now, .int .i64 ret] 33)) := (((Below.refl _ _).alloc (Nat.le_refl _) _).alloc (by simp) _).alloc (by simp; omega) _
  have k0 := ((isBlk_new w 31 [.slice A n ca]).alloc (.cells #[.slice none 0 0, .int .i64 0, .int .i64 0, .int .i64 0] 38)).alloc (.cells #[.slice A n ca, .int .i64 now, .int .i64 ret] 33)
  have k1 := (isBlk_new (w.alloc (.cells #[.slice A n ca] 31)) 38 [.slice none 0 0, .int .i64 0, .int .i64 0, .int .i64 0]).alloc (.cells #[.slice A n ca, .int .i64 now, .int .i64 ret] 33)
  have k2 := isBlk_new ((w.alloc (.cells #[.slice A n ca] 31)).alloc (.cells #[.slice none 0 0, .int .i64 0, .int .i64 0, .int .i64 0] 38)) 33 [.slice A n ca, .int .i64 now, .int .i64 ret]
  change IsBlk (((w.alloc (.cells #[.slice A n ca] 31)).alloc (.cells #[.slice none 0 0, .int .i64 0, .int .i64 0, .int .i64 0] 38)).alloc (.cells #[.slice A n ca, .int .i64 now, .int .i64 ret] 33)) _ _ _ at k0 k1 k2
  simp only [size_alloc] at k0 k1 k2
  go_enter Tryz.func44, Tryz.ntmps44
  go_wp2_with fail
  generalize (((w.alloc (.cells #[.slice A n ca] 31)).alloc (.cells #[.slice none 0 0, .int .i64 0, .int .i64 0, .int .i64 0] 38)).alloc (.cells #[.slice A n ca, .int .i64 now, .int .i64 ret] 33)) = W at hb0 k0 k1 k2 ⊢
  refine (HRT.out W hb0).mono ?_
  rintro e u ⟨rfl, hb⟩
  have HB := Lib.hid (bel_step hb0 hb)
  have HK0 := Lib.hid (k0.below hb k0.lt); have HK1 := Lib.hid (k1.below hb k1.lt); have HK2 := Lib.hid (k2.below hb k2.lt)
  have hl2 := HK2.out.lt
  clear hb0 hb k0 k1 k2 HRT
  cases hD : dvB X now ret with
  | false =>
    have hRe := Lib.hid (HR0.out hD)
    go_wp2_with fail
    refine (l07Ill_any 1 _).mono ?_
    rintro e v ⟨rfl, hbv⟩
    have HBv := Lib.hid (bel_step HB.out hbv)
    obtain ⟨d0, d1, d2, d3, fd0, fd1, fd2, fd3⟩ := blk4 (HK1.out.below hbv HK1.out.lt)
    clear hbv
    go_wp2
    refine bodyPost_ret (v := .agg #[.slice none 0 0, .int .i64 0, .int .i64 0, .int .i64 1]) (by simp [results, Tryz.results44, go_sem, d0, d1, d2, d3]) rfl ?_
    rw [hRe.out]
    exact ill_ends HBv.out (by omega) _ _ _ _
  | true =>
    have hRe := Lib.hid (HR1.out hD)
    replace HCP := Lib.hid (HCP.out hD u HB.out)
    have x0 : u.cell? ⟨w.heap.size, 0, none⟩ = some (.slice A n ca) := HK0.out.cell rfl
    go_wp2_with fail
    refine HCP.out.mono ?_
    rintro e v ⟨A', c', rfl, hov, hbv⟩
    generalize hzl : X.length = zl at *
    have HBv := Lib.hid (bel_step HB.out hbv)
    have HOv := Lib.hid hov
    have huv := hbv.size
    obtain ⟨d0, d1, d2, d3, fd0, fd1, fd2, fd3⟩ := blk4 (HK1.out.below hbv HK1.out.lt)
    obtain ⟨e0, e1, e2, fe0, fe1, fe2⟩ := blk3 (HK2.out.below hbv HK2.out.lt)
    clear hov hbv HCP x0
    go_wp2
    refine bodyPost_ret (v := .agg #[.slice A' zl c', .int .i64 now, .int .i64 ret, .int .i64 0]) (by simp [results, Tryz.results44, go_sem, d0, d1, d2, d3]) rfl ?_
    rw [hRe.out]
    subst hzl
    have hBw := HB.out.size
    refine dv_ends (D := ⟨X, now, ret, 0⟩) (lo := u.heap.size) (hi := v.heap.size) ?_ (by omega) (by omega) (by simp [World.setCell]) ?_ (by omega) _ _ _ _
    · exact HOv.out.same fun j h1 h2 => Below.heap_setCell _ _ _ _ (by dsimp only; omega)
    · exact HBv.out.setCell (by dsimp only; omega) _

end Go.Proofs.YtohmkjgmhippoaaGreatDoor
