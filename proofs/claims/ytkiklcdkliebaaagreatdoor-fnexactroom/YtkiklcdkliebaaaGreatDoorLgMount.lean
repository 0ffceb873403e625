/-
  mounted and Mount, of the program.
-/
import Derived.Deep.RegionHeld3
import Derived.Test.YtkiklcdkliebaaaGreatDoorChecked
import Derived.Test.YtkiklcdkliebaaaGreatDoorLgSortN
import Derived.Test.YtkiklcdkliebaaaGreatDoorLgErr
import Derived.Test.YtkiklcdkliebaaaGreatDoorLgMountA
import Derived.Test.YtkiklcdkliebaaaGreatDoorHsRight
import Derived.Test.YtkiklcdkliebaaaGreatDoorNdUse
namespace Go.Proofs.YtkiklcdkliebaaaGreatDoor
open Go.RowKit
open Bt (Rc)

/-- the failure beside a mount's code -/
def errOf (a0 a2 : Addr) (c : Int) : Value := if c = 0 then .nilIface else if c = 1 then .iface 263 (.pointer (some a0)) else .iface 263 (.pointer (some a2))
/-- what mounted answers -/
def RetMt (w : World) (Y : List Rc) (E : Value) (e : Ending) (w' : World) : Prop :=
  ∃ (A : Option Addr) (ca : Nat), e = .returned (.tuple #[.agg #[.slice A Y.length ca], E]) ∧ Y.length ≤ ca ∧ OwRc w' w.heap.size w'.heap.size A Y.length Y ∧ Below w.heap.size w w'

set_option maxHeartbeats 2000000 in
set_option maxRecDepth 100000 in
theorem mounted_any (A : Option Addr) (n ca : Nat) (X : List Bk) (a0 a2 : Addr) (w : World) (hG : ErrType w) (hS : Two w a0 a2) (hX : Small X) (hA : RdBk w w.heap.size A n X) :
    Calls Tryz.prog 35 #[.agg #[.slice A n ca]] w (RetMt w (mntList X) (errOf a0 a2 (mntCode X))) := by
  have HL := Lib.hid hA.1
  have HA := Lib.hid hA; have HX := Lib.hid hX; have HS := Lib.hid hS; have HG := Lib.hid hG; clear hA hX hS hG
  go_enter Tryz.func35, Tryz.ntmps35
  go_wp2_with fail
  have hb0 : Below w.heap.size w ((w.alloc (.cells #[.slice A n ca] 34)).alloc (.cells #[.slice none 0 0] 28)) := ((Below.refl _ _).alloc (Nat.le_refl _) _).alloc (by simp) _
  have k0 := (isBlk_new w 34 [.slice A n ca]).alloc (.cells #[.slice none 0 0] 28)
  have k1 := isBlk_new (w.alloc (.cells #[.slice A n ca] 34)) 28 [.slice none 0 0]
  change IsBlk ((w.alloc (.cells #[.slice A n ca] 34)).alloc (.cells #[.slice none 0 0] 28)) _ _ _ at k0 k1
  rw [size_alloc] at k1
  generalize (w.alloc (.cells #[.slice A n ca] 34)).alloc (.cells #[.slice none 0 0] 28) = W at hb0 k0 k1 ⊢
  refine (impl_nandRight A n ca X W HX.out (rd_step HA.out hb0)).mono ?_
  rintro e w2 ⟨rfl, hb2⟩
  have HK2 := Lib.hid (k0.below hb2 k0.lt); have HR2 := Lib.hid (k1.below hb2 k1.lt)
  have hb2' := bel_step hb0 hb2
  have HB2 := Lib.hid hb2'
  have h2s : w.heap.size + 1 < w2.heap.size := HR2.out.lt
  clear hb0 k0 k1 hb2 hb2'
  by_cases hok : NdOk X
  case neg =>
    have HC := Lib.hid (mnt_no hok)
    have g0 := (HS.out.below HB2.out).v0
    have x0 : w2.cell? ⟨w.heap.size + 1, 0, none⟩ = some (.slice none 0 0) := HR2.out.cell rfl
    have fx0 : w2.frozen? ⟨w.heap.size + 1, 0, none⟩ = false := HR2.out.free
    have HNE : Hid (∀ v : Value, v = .slice none 0 0 → Below w.heap.size w (w2.setCell ⟨w.heap.size + 1, 0, none⟩ v)) := fun v _ => HB2.out.setCell (by dsimp only; omega) _
    rw [ndB_no hok]
    go_wp2
    go_region
    all_goals
      go_wp2
      refine bodyPost_ret (v := .tuple #[.agg #[.slice none 0 0], .iface 263 (.pointer (some a0))]) (by simp [results, Tryz.results35, go_sem, x0]) rfl ?_
      rw [HC.out.1, HC.out.2]
      exact ⟨none, 0, rfl, Nat.le_refl _, ow_nilR _ _ _ _, by first | exact (HNE.out _ rfl).drew | exact (HNE.out _ rfl) | exact HB2.out.drew.setCell (by dsimp only; omega) _⟩
  rw [ndB_yes hok]
  have HOK := Lib.hid hok
  have HSM := Lib.hid (mnt_smallR hok)
  have y0 : w2.cell? ⟨w.heap.size, 0, none⟩ = some (.slice A n ca) := HK2.out.cell rfl
  go_wp2_with fail
  refine (firstRecs_any A n ca X w2 hok (HG.out.below HB2.out) (rd_step HA.out HB2.out)).mono ?_
  rintro e w3 ⟨Ar, cr, rfl, hcr, ho3, hb3⟩
  rw [← HL.out] at hcr ho3 ⊢
  have HN1 := Lib.hid (fun h => mnt_bad (X := X) hok h); have HN2 := Lib.hid (fun h => mnt_ok (X := X) hok h)
  clear hok
  generalize hY : mnt (recsTo X X.length) = Y at *
  clear hY
  have HCR := Lib.hid hcr
  have HB3 := Lib.hid (bel_step HB2.out hb3)
  have HR3 := Lib.hid (HR2.out.below hb3 HR2.out.lt)
  have HO3 := Lib.hid ho3
  have h23 := hb3.size
  clear hcr hb3 ho3 y0
  go_wp2_with fail
  have k4 := isBlk_new w3 28 [.slice Ar Y.length cr]
  have hb4 := box_below w3 (.cells #[.slice Ar Y.length cr] 28)
  have hs4 := size_alloc w3 (.cells #[.slice Ar Y.length cr] 28)
  change Calls _ _ _ (w3.alloc (.cells #[.slice Ar Y.length cr] 28)) _
  generalize w3.alloc (.cells #[.slice Ar Y.length cr] 28) = w4 at k4 hb4 hs4 ⊢
  refine (impl_histRight_any Ar Y.length cr Y w4 HSM.out ((HO3.out.below hb4 (Nat.le_refl _)).rd hb4.size)).mono ?_
  rintro e w5 ⟨rfl, hb5⟩
  have hb35 := bel_step hb4 hb5
  have HK5 := Lib.hid (k4.below hb5 k4.lt)
  have HB5 := Lib.hid (bel_step HB3.out hb35)
  have HR5 := Lib.hid (HR3.out.below hb35 HR3.out.lt)
  have HO5 := Lib.hid (HO3.out.below hb35 (Nat.le_refl _))
  have h35 := hb35.size
  have x0 : w5.cell? ⟨w.heap.size + 1, 0, none⟩ = some (.slice none 0 0) := HR5.out.cell rfl
  have fx0 : w5.frozen? ⟨w.heap.size + 1, 0, none⟩ = false := HR5.out.free
  clear k4 hb4 hs4 hb5 hb35
  cases hr : hRight Y with
  | false =>
    have HC := Lib.hid (HN1.out hr)
    have g2 := (HS.out.below HB5.out).v2
    have hw1 : 1 < w.heap.size := by have := World.block_lt_of_cell? _ _ HS.out.v2; simpa using this
    have g2' : (w5.setCell ⟨w.heap.size + 1, 0, none⟩ (.slice none 0 0)).cell? ⟨1, 0, none⟩ = some (.iface 263 (.pointer (some a2))) := (World.cell?_setCell_other _ _ _ _ (by first | (simp; done) | (simp; omega))).trans g2
    have HNE : Hid (∀ v : Value, v = .slice none 0 0 → Below w.heap.size w (w5.setCell ⟨w.heap.size + 1, 0, none⟩ v)) := fun v _ => HB5.out.setCell (by dsimp only; omega) _
    go_wp2
    go_region
    all_goals
      go_wp2
      refine bodyPost_ret (v := .tuple #[.agg #[.slice none 0 0], .iface 263 (.pointer (some a2))]) (by simp [results, Tryz.results35, go_sem, x0]) rfl ?_
      rw [HC.out.1, HC.out.2]
      exact ⟨none, 0, rfl, Nat.le_refl _, ow_nilR _ _ _ _, by first | exact (HNE.out _ rfl).drew | exact (HNE.out _ rfl) | exact HB5.out.drew.setCell (by dsimp only; omega) _⟩
  | true =>
    have HC := Lib.hid (HN2.out hr)
    have z0 : w5.cell? ⟨w3.heap.size, 0, none⟩ = some (.slice Ar Y.length cr) := HK5.out.cell rfl
    go_wp2
    refine bodyPost_ret (v := .tuple #[.agg #[.slice Ar Y.length cr], .nilIface]) (by simp [results, Tryz.results35, go_sem, x0]) rfl ?_
    rw [HC.out.1, HC.out.2]
    refine ⟨Ar, cr, rfl, HCR.out, ((HO5.out.same fun k h1 h2 => Below.heap_setCell _ _ _ _ (by dsimp only; omega)).mono (by have := HB2.out.size; omega) (by simp [World.setCell]; omega)), HB5.out.setCell (by dsimp only; omega) _⟩

/-- an answer with records, stored in its box -/
theorem ho_ends {w u : World} {lo hi b2 : Nat} {A : Option Addr} {c : Nat} {Y : List Rc} {C : Int} (hO : OwRc u lo hi A Y.length Y) (hlo : b2 < lo) (hwl : w.heap.size ≤ lo) (hhi : hi ≤ u.heap.size) (hB : Below w.heap.size w u) (h1 : w.heap.size ≤ b2) (x y : Value) :
    RetHO w Y C (.returned (.agg #[.slice A Y.length c, .int .i64 C])) ((u.setCell ⟨b2, 0, none⟩ x).setCell ⟨b2, 1, none⟩ y).drew := by
  refine ⟨A, c, rfl, ?_, ((hB.setCell (p := ⟨b2, 0, none⟩) h1 _).setCell (p := ⟨b2, 1, none⟩) h1 _).drew⟩
  have h2 : u.heap.size ≤ ((u.setCell ⟨b2, 0, none⟩ x).setCell ⟨b2, 1, none⟩ y).drew.heap.size := by simp [World.setCell, World.drew]
  exact (hO.same fun k hk _ => (Below.heap_setCell _ _ _ _ (by dsimp only; omega)).trans (Below.heap_setCell _ _ _ _ (by dsimp only; omega))).mono hwl (Nat.le_trans hhi h2)
/-- what mounted and failureCode answer together -/
theorem mount_fails (a0 a1 a2 : Addr) (X : List Bk) (W : World) (hS : Sents W a0 a1 a2) : Calls Tryz.prog 36 #[errOf a0 a2 (mntCode X)] W fun e w' => e = .returned (.int .i64 (mntCode X)) ∧ W = w' := by
  rcases mnt_codes X with h | h | h <;> rw [h]
  · exact failure_nil a0 a1 a2 W hS
  · exact failure_inv a0 a1 a2 W hS
  · exact failure_hist a0 a1 a2 W hS

set_option maxHeartbeats 2000000 in
set_option maxRecDepth 100000 in
theorem impl_mount (A : Option Addr) (n ca : Nat) (X : List Bk) (a0 a1 a2 : Addr) (w : World) (hG : ErrType w) (hS : Sents w a0 a1 a2) (hX : Small X) (hA : RdBk w w.heap.size A n X) :
    Calls Tryz.prog 11 #[.agg #[.slice A n ca]] w (RetHO w (mntList X) (mntCode X)) := by
  have HA := Lib.hid hA; have HX := Lib.hid hX; have HS := Lib.hid hS; have HG := Lib.hid hG; clear hA hX hS hG
  go_enter Tryz.func11, Tryz.ntmps11
  go_wp2_with fail
  have hb0 : Below w.heap.size w ((w.alloc (.cells #[.slice A n ca] 34)).alloc (.cells #[.slice none 0 0, .int .i64 0] 30)) := ((Below.refl _ _).alloc (Nat.le_refl _) _).alloc (by simp) _
  have k1 := isBlk_new (w.alloc (.cells #[.slice A n ca] 34)) 30 [.slice none 0 0, .int .i64 0]
  change IsBlk ((w.alloc (.cells #[.slice A n ca] 34)).alloc (.cells #[.slice none 0 0, .int .i64 0] 30)) _ _ _ at k1
  rw [size_alloc] at k1
  generalize (w.alloc (.cells #[.slice A n ca] 34)).alloc (.cells #[.slice none 0 0, .int .i64 0] 30) = W at hb0 k1 ⊢
  refine (mounted_any A n ca X a0 a2 W (HG.out.below hb0) (HS.out.two.below hb0) HX.out (rd_step HA.out hb0)).mono ?_
  rintro e w2 ⟨Ar, cr, rfl, -, ho2, hb2⟩
  have HFC : Hid (∀ U : World, Below w.heap.size w U → Calls Tryz.prog 36 #[errOf a0 a2 (mntCode X)] U fun e w' => e = .returned (.int .i64 (mntCode X)) ∧ U = w') := fun U h => mount_fails a0 a1 a2 X U (HS.out.below h)
  generalize mntList X = Y at *
  generalize mntCode X = C at *
  generalize errOf a0 a2 C = E at *
  have HR2 := Lib.hid (k1.below hb2 k1.lt)
  have HB2 := Lib.hid (bel_step hb0 hb2)
  have hW : w.heap.size ≤ W.heap.size := hb0.size
  have hW1 : w.heap.size + 1 < W.heap.size := k1.lt
  have HO2 := Lib.hid ho2
  have h2 := hb2.size
  clear hb0 k1 hb2 ho2
  obtain ⟨yl, hyl⟩ : ∃ yl, yl = Y.length := ⟨_, rfl⟩
  have HYL := Lib.hid hyl
  rw [← hyl]
  have k3 := isBlk_new w2 28 [.slice Ar yl cr]
  have hb3 := box_below w2 (.cells #[.slice Ar yl cr] 28)
  have hs3 := size_alloc w2 (.cells #[.slice Ar yl cr] 28)
  clear hyl
  go_wp2
  change IsBlk (w2.alloc (.cells #[.slice Ar yl cr] 28)) _ _ _ at k3
  generalize w2.alloc (.cells #[.slice Ar yl cr] 28) = w3 at k3 hb3 hs3 ⊢
  have HB3 := Lib.hid (bel_step HB2.out hb3)
  have HB3d : Hid (Below w.heap.size w w3.drew) := HB3.out.drew
  have HO3 := Lib.hid (HO2.out.below hb3 (Nat.le_refl _))
  have x0 : w3.cell? ⟨w2.heap.size, 0, none⟩ = some (.slice Ar yl cr) := k3.cell rfl
  obtain ⟨d0, d1, fd0, fd1⟩ := blk2 (HR2.out.below hb3 HR2.out.lt)
  have hne : ¬ w.heap.size + 1 = w2.heap.size := by omega
  have hne' : ¬ w2.heap.size = w.heap.size + 1 := by omega
  have hlt3 : w2.heap.size < w3.heap.size := by omega
  clear k3 hb3 hs3
  go_region_held3 (fun w' => w'.cell? ⟨w2.heap.size, 0, none⟩ = some (.slice Ar yl cr))
    (first | exact x0 | go_keep)
    ((go_at_call 36
      refine (HFC.out _ HB3d.out).mono ?_
      rintro e wF ⟨rfl, rfl⟩))
  all_goals
    go_wp2
    refine bodyPost_ret (v := .agg #[.slice Ar yl cr, .int .i64 C]) (by simp [results, Tryz.results11, go_sem, d0, d1]) rfl ?_
    rw [HYL.out]
    exact ho_ends HO3.out (by omega) hW (by omega) HB3.out (by omega) _ _
end Go.Proofs.YtkiklcdkliebaaaGreatDoor
