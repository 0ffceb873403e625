/-
  programNext of the program, and l05Append of the model.
-/
import Derived.Test.YtimlaeicbnnbdaaDoorChecked
import Derived.Test.YtimlaeicbnnbdaaDoorLgNext
import Derived.Test.YtimlaeicbnnbdaaDoorLgAns
import Derived.Test.YtimlaeicbnnbdaaDoorLgErr
import Derived.Test.YtimlaeicbnnbdaaDoorNdProg
import Derived.Test.YtimlaeicbnnbdaaDoorNdSpec3
namespace Go.Proofs.YtimlaeicbnnbdaaDoor
open Go.RowKit

theorem field_nand (A : Option Addr) (n c : Nat) (d : ByteArray) (z : Int) (w : World) : (Instr.field 41 (.agg #[.slice A n c, .string d, .int .i64 z]) 0).run Tryd.prog w = .ok (.agg #[.slice A n c]) w := by
  simp [Instr.field, run_underlying Tryd.underlying41, part, asAgg, go_sem]
/-- a chip and an error -/
def RetPN (w : World) (Y : List Bk) (er : Value) (e : Ending) (w' : World) : Prop :=
  ∃ A c, e = .returned (.tuple #[.agg #[.slice A Y.length c], er]) ∧ OwNd w' w.heap.size w'.heap.size A Y.length Y ∧ Below w.heap.size w w'

set_option maxHeartbeats 2000000 in
set_option maxRecDepth 100000 in
theorem programNext_inv (A : Option Addr) (n ca : Nat) (X : List Bk) (d : ByteArray) (r : Int) (a0 a1 a2 : Addr) (w : World) (hno : ¬ (NdOk X ∧ (0 ≤ r ∧ r ≤ 12))) (hS : Sents w a0 a1 a2) (hX : Small X) (hA : RdBk w w.heap.size A n X) :
    Calls Tryd.prog 38 #[.agg #[.slice A n ca], .string d, .int .i64 r] w (RetPN w [] (.iface 177 (.pointer (some a0)))) := by
  have HL := Lib.hid hA.1
  have HA := Lib.hid hA; have HX := Lib.hid hX; have HS := Lib.hid hS; clear hA hX hS
  go_enter Tryd.func38, Tryd.ntmps38
  go_wp2_with fail
  have hb0 : Below w.heap.size w ((w.alloc (.cells #[.slice A n ca] 30)).alloc (.cells #[.slice none 0 0] 30)) := ((Below.refl _ _).alloc (Nat.le_refl _) _).alloc (by simp) _
  have k1 := isBlk_new (w.alloc (.cells #[.slice A n ca] 30)) 30 [.slice none 0 0]
  change IsBlk ((w.alloc (.cells #[.slice A n ca] 30)).alloc (.cells #[.slice none 0 0] 30)) _ _ _ at k1
  rw [size_alloc] at k1
  generalize (w.alloc (.cells #[.slice A n ca] 30)).alloc (.cells #[.slice none 0 0] 30) = W at hb0 k1 ⊢
  refine (impl_nandRight A n ca X W HX.out (rd_step HA.out hb0)).mono ?_
  rintro e w2 ⟨rfl, hb2⟩
  have k2 := k1.below hb2 k1.lt
  have hb2' := bel_step hb0 hb2
  have g0 := (HS.out.below hb2').v0
  have x0 : w2.cell? ⟨w.heap.size + 1, 0, none⟩ = some (.slice none 0 0) := k2.cell rfl
  have fx0 : w2.frozen? ⟨w.heap.size + 1, 0, none⟩ = false := k2.free
  have HB2 := Lib.hid hb2'; have HK2 := Lib.hid k2
  clear hb0 k1 hb2 k2 hb2'
  have hne : ∀ v : Value, v = .slice none 0 0 → Below w.heap.size w (w2.setCell ⟨w.heap.size + 1, 0, none⟩ v) := fun v _ => HB2.out.setCell (by dsimp only; omega) _
  have HNE := Lib.hid hne
  clear hne
  by_cases hok : NdOk X
  case neg =>
    rw [ndB_no hok]
    go_wp2
    go_region
    all_goals
      go_wp2
      refine bodyPost_ret (v := .tuple #[.agg #[.slice none 0 0], .iface 177 (.pointer (some a0))]) (by simp [results, Tryd.results38, go_sem, x0]) rfl ?_
      exact ⟨none, 0, rfl, ow_nil _ _ _ _, by first | exact (HNE.out _ rfl).drew | exact (HNE.out _ rfl) | exact HB2.out.drew.setCell (by dsimp only; omega) _⟩
  have hr : ¬ (0 ≤ r ∧ r ≤ 12) := fun h => hno ⟨hok, h⟩
  rw [ndB_yes hok]
  go_wp2_with fail
  refine (isReserve_any r w2).mono ?_
  rintro e w3 ⟨rfl, rfl⟩
  rw [isB_no hr]
  clear hno hok hr
  go_wp2
  go_region
  all_goals
    go_wp2
    refine bodyPost_ret (v := .tuple #[.agg #[.slice none 0 0], .iface 177 (.pointer (some a0))]) (by simp [results, Tryd.results38, go_sem, x0]) rfl ?_
    exact ⟨none, 0, rfl, ow_nil _ _ _ _, by first | exact (HNE.out _ rfl).drew | exact (HNE.out _ rfl) | exact HB2.out.drew.setCell (by dsimp only; omega) _⟩

set_option maxHeartbeats 2000000 in
set_option maxRecDepth 100000 in
theorem programNext_full (A : Option Addr) (n ca : Nat) (X : List Bk) (d : ByteArray) (r : Int) (a0 a1 a2 : Addr) (w : World) (hok : NdOk X) (hr : 0 ≤ r ∧ r ≤ 12) (hf : nextR X r = -1) (hS : Sents w a0 a1 a2) (hX : Small X) (hA : RdBk w w.heap.size A n X) :
    Calls Tryd.prog 38 #[.agg #[.slice A n ca], .string d, .int .i64 r] w (RetPN w [] (.iface 177 (.pointer (some a1)))) := by
  have HA := Lib.hid hA; have HX := Lib.hid hX; have HS := Lib.hid hS; clear hA hX hS
  have HN : Hid (nextAns X r = -1) := by show _ = _; rw [nextAns_yes hok hr, hf]
  go_enter Tryd.func38, Tryd.ntmps38
  go_wp2_with fail
  have hb0 : Below w.heap.size w ((w.alloc (.cells #[.slice A n ca] 30)).alloc (.cells #[.slice none 0 0] 30)) := ((Below.refl _ _).alloc (Nat.le_refl _) _).alloc (by simp) _
  have k0 := (isBlk_new w 30 [.slice A n ca]).alloc (.cells #[.slice none 0 0] 30)
  have k1 := isBlk_new (w.alloc (.cells #[.slice A n ca] 30)) 30 [.slice none 0 0]
  change IsBlk ((w.alloc (.cells #[.slice A n ca] 30)).alloc (.cells #[.slice none 0 0] 30)) _ _ _ at k0 k1
  rw [size_alloc] at k1
  generalize (w.alloc (.cells #[.slice A n ca] 30)).alloc (.cells #[.slice none 0 0] 30) = W at hb0 k0 k1 ⊢
  refine (impl_nandRight A n ca X W HX.out (rd_step HA.out hb0)).mono ?_
  rintro e w2 ⟨rfl, hb2⟩
  have HK2 := Lib.hid (k0.below hb2 k0.lt); have HR2 := Lib.hid (k1.below hb2 k1.lt)
  have HB2 := Lib.hid (bel_step hb0 hb2)
  have y0 : w2.cell? ⟨w.heap.size, 0, none⟩ = some (.slice A n ca) := HK2.out.cell rfl
  clear hb0 k0 k1 hb2
  rw [ndB_yes hok]
  go_wp2_with fail
  refine (isReserve_any r w2).mono ?_
  rintro e w3 ⟨rfl, rfl⟩
  rw [isB_yes hr]
  clear hok hf
  go_wp2_with fail
  refine (impl_nextBlock A n ca X r w2 HX.out (rd_step HA.out HB2.out)).mono ?_
  rintro e w4 ⟨rfl, hb4⟩
  rw [HN.out]
  have k4 := HR2.out.below hb4 HR2.out.lt
  have hb4' := bel_step HB2.out hb4
  have g1 := (HS.out.below hb4').v1
  have hw1 : 1 < w.heap.size := by have := World.block_lt_of_cell? _ _ HS.out.v1; simpa using this
  have g1' : (w4.setCell ⟨w.heap.size + 1, 0, none⟩ (.slice none 0 0)).cell? ⟨1, 0, none⟩ = some (.iface 177 (.pointer (some a1))) := (World.cell?_setCell_other _ _ _ _ (by first | (simp; done) | (simp; omega))).trans g1
  have x0 : w4.cell? ⟨w.heap.size + 1, 0, none⟩ = some (.slice none 0 0) := k4.cell rfl
  have fx0 : w4.frozen? ⟨w.heap.size + 1, 0, none⟩ = false := k4.free
  have HB4 := Lib.hid hb4'
  have HNE : Hid (∀ v : Value, v = .slice none 0 0 → Below w.heap.size w (w4.setCell ⟨w.heap.size + 1, 0, none⟩ v)) := fun v _ => HB4.out.setCell (by dsimp only; omega) _
  clear hb4 k4 hb4' y0
  go_wp2
  go_region
  all_goals
    go_wp2
    refine bodyPost_ret (v := .tuple #[.agg #[.slice none 0 0], .iface 177 (.pointer (some a1))]) (by simp [results, Tryd.results38, go_sem, x0]) rfl ?_
    exact ⟨none, 0, rfl, ow_nil _ _ _ _, by first | exact (HNE.out _ rfl).drew | exact (HNE.out _ rfl) | exact HB4.out.drew.setCell (by dsimp only; omega) _⟩

set_option maxHeartbeats 2000000 in
set_option maxRecDepth 100000 in
theorem programNext_ok (A : Option Addr) (n ca : Nat) (X : List Bk) (d : ByteArray) (r : Int) (k : Nat) (w : World) (hok : NdOk X) (hr : 0 ≤ r ∧ r ≤ 12) (hf : nextR X r = (k : Int)) (hk : k < X.length) (hd : d.size ≤ 60) (hX : Small X) (hA : RdBk w w.heap.size A n X) :
    Calls Tryd.prog 38 #[.agg #[.slice A n ca], .string d, .int .i64 r] w (RetPN w (progLate X k d).nd .nilIface) := by
  have HA := Lib.hid hA; have HX := Lib.hid hX; clear hA hX
  have HN : Hid (nextAns X r = (k : Int)) := by show _ = _; rw [nextAns_yes hok hr, hf]
  have HP := Lib.hid (prog_late hok hk hd)
  go_enter Tryd.func38, Tryd.ntmps38
  go_wp2_with fail
  have hb0 : Below w.heap.size w ((w.alloc (.cells #[.slice A n ca] 30)).alloc (.cells #[.slice none 0 0] 30)) := ((Below.refl _ _).alloc (Nat.le_refl _) _).alloc (by simp) _
  have k0 := (isBlk_new w 30 [.slice A n ca]).alloc (.cells #[.slice none 0 0] 30)
  have k1 := isBlk_new (w.alloc (.cells #[.slice A n ca] 30)) 30 [.slice none 0 0]
  change IsBlk ((w.alloc (.cells #[.slice A n ca] 30)).alloc (.cells #[.slice none 0 0] 30)) _ _ _ at k0 k1
  rw [size_alloc] at k1
  generalize (w.alloc (.cells #[.slice A n ca] 30)).alloc (.cells #[.slice none 0 0] 30) = W at hb0 k0 k1 ⊢
  refine (impl_nandRight A n ca X W HX.out (rd_step HA.out hb0)).mono ?_
  rintro e w2 ⟨rfl, hb2⟩
  have HK2 := Lib.hid (k0.below hb2 k0.lt); have HR2 := Lib.hid (k1.below hb2 k1.lt)
  have HB2 := Lib.hid (bel_step hb0 hb2)
  have y0 : w2.cell? ⟨w.heap.size, 0, none⟩ = some (.slice A n ca) := HK2.out.cell rfl
  clear hb0 k0 k1 hb2
  rw [ndB_yes hok]
  go_wp2_with fail
  refine (isReserve_any r w2).mono ?_
  rintro e w3 ⟨rfl, rfl⟩
  rw [isB_yes hr]
  clear hok hf
  go_wp2_with fail
  refine (impl_nextBlock A n ca X r w2 HX.out (rd_step HA.out HB2.out)).mono ?_
  rintro e w4 ⟨rfl, hb4⟩
  rw [HN.out]
  have HB4 := Lib.hid (bel_step HB2.out hb4)
  have HK4 := Lib.hid (HK2.out.below hb4 HK2.out.lt); have HR4 := Lib.hid (HR2.out.below hb4 HR2.out.lt)
  have y4 : w4.cell? ⟨w.heap.size, 0, none⟩ = some (.slice A n ca) := HK4.out.cell rfl
  have hkm : ((k : Int) == -1) = false := by first | (simp; done) | (simp; omega)
  clear hb4 y0
  go_wp2_with fail
  refine (impl_program A n ca X (k : Int) d w4 (by omega) HX.out (rd_step HA.out HB4.out)).mono ?_
  rintro e w5 ⟨A5, c5, rfl, ho5, hb5⟩
  rw [HP.out] at ho5 ⊢
  have hfn := field_nand A5 (progLate X k d).nd.length c5 (progLate X k d).data (progLate X k d).code
  have HO5 := Lib.hid ho5
  have HB5 := Lib.hid (bel_step HB4.out hb5)
  have k5 := HR4.out.below hb5 HR4.out.lt
  have x5 : w5.cell? ⟨w.heap.size + 1, 0, none⟩ = some (.slice none 0 0) := k5.cell rfl
  have fx5 : w5.frozen? ⟨w.heap.size + 1, 0, none⟩ = false := k5.free
  have hz4 : w.heap.size + 1 < w4.heap.size := HR4.out.lt
  have h45 := hb5.size
  clear ho5 hb5 k5 y4
  generalize (progLate X k d).nd = Y at *
  generalize (progLate X k d).data = pd at *
  generalize (progLate X k d).code = pc at *
  go_wp2
  refine bodyPost_ret (v := .tuple #[.agg #[.slice A5 Y.length c5], .nilIface]) (by simp [results, Tryd.results38, go_sem, x5]) rfl ?_
  refine ⟨A5, c5, rfl, ?_, HB5.out.setCell (by dsimp only; omega) _⟩
  refine (HO5.out.same fun j h1 h2 => Below.heap_setCell _ _ _ _ (by dsimp only; omega)).mono (by omega) (by simp [World.setCell])

set_option maxHeartbeats 2000000 in
set_option maxRecDepth 100000 in
theorem l05Append_any (A : Option Addr) (n ca : Nat) (X : List Bk) (d : ByteArray) (r : Int) (w : World) (hok : NdOk X) (hX : Small X) (hA : RdBk w w.heap.size A n X) :
    Calls Tryd.prog 35 #[.agg #[.slice A n ca], .string d, .int .i64 r] w (RetAns w (putAns X r d)) := by
  have HA := Lib.hid hA; have HX := Lib.hid hX; have HOK := Lib.hid hok; clear hA hX hok
  go_enter Tryd.func35, Tryd.ntmps35
  go_wp2_with fail
  have hb0 : Below w.heap.size w ((w.alloc (.cells #[.slice A n ca] 30)).alloc (.cells #[.slice none 0 0, .string ⟨#[]⟩, .int .i64 0] 41)) := ((Below.refl _ _).alloc (Nat.le_refl _) _).alloc (by simp) _
  have k0 := (isBlk_new w 30 [.slice A n ca]).alloc (.cells #[.slice none 0 0, .string ⟨#[]⟩, .int .i64 0] 41)
  have k1 := isBlk_new (w.alloc (.cells #[.slice A n ca] 30)) 41 [.slice none 0 0, .string ⟨#[]⟩, .int .i64 0]
  change IsBlk ((w.alloc (.cells #[.slice A n ca] 30)).alloc (.cells #[.slice none 0 0, .string ⟨#[]⟩, .int .i64 0] 41)) _ _ _ at k0 k1
  rw [size_alloc] at k1
  generalize (w.alloc (.cells #[.slice A n ca] 30)).alloc (.cells #[.slice none 0 0, .string ⟨#[]⟩, .int .i64 0] 41) = W at hb0 k0 k1 ⊢
  refine (l05Next_any A n ca X r W HX.out HOK.out (rd_step HA.out hb0)).mono ?_
  rintro e w2 ⟨rfl, hb2⟩
  have HK2 := Lib.hid (k0.below hb2 k0.lt); have HR2 := Lib.hid (k1.below hb2 k1.lt)
  have HB2 := Lib.hid (bel_step hb0 hb2)
  have y0 : w2.cell? ⟨w.heap.size, 0, none⟩ = some (.slice A n ca) := HK2.out.cell rfl
  clear hb0 k0 k1 hb2
  by_cases hf : nextR X r = -1
  · have HP := Lib.hid (putAns_full (d := d) hf)
    rw [hf]
    clear hf
    go_wp2_with fail
    refine (l02Ill_any 9 w2).mono ?_
    rintro e w3 ⟨rfl, hb3⟩
    have k3 := HR2.out.below hb3 HR2.out.lt
    obtain ⟨d0, d1, d2, fd0, fd1, fd2⟩ := blk3 k3
    have HB3 := Lib.hid (bel_step HB2.out hb3)
    clear hb3 k3 y0
    go_wp2
    refine bodyPost_ret (v := .agg #[.slice none 0 0, .string ⟨#[]⟩, .int .i64 9]) (by simp [results, Tryd.results35, go_sem, d0, d1, d2]) rfl ?_
    rw [HP.out]
    refine ⟨none, 0, rfl, ow_nil _ _ _ _, ?_⟩
    repeat (with_reducible refine Below.setCell ?_ ?_ _)
    all_goals first | exact HB3.out | (dsimp only; omega)
  · obtain ⟨k, hk, hkl, -, -⟩ := next_ready hf
    have HP := Lib.hid (putAns_at (d := d) hk)
    rw [hk]
    have hkm : decide ((k : Int) < 0) = false := by simp
    clear hf hk
    go_wp2_with fail
    refine (spec_l02Program A n ca k X d w2 HOK.out hkl (rd_step HA.out HB2.out)).mono ?_
    rintro e w5 ⟨A5, c5, rfl, ho5, hb5⟩
    have HO5 := Lib.hid ho5
    have HB5 := Lib.hid (bel_step HB2.out hb5)
    have k5 := HR2.out.below hb5 HR2.out.lt
    obtain ⟨d0, d1, d2, fd0, fd1, fd2⟩ := blk3 k5
    have hz4 : w.heap.size + 1 < w2.heap.size := HR2.out.lt
    have h45 := hb5.size
    clear ho5 hb5 k5 y0
    generalize progLate X k d = R at *
    go_wp2
    refine bodyPost_ret (v := .agg #[.slice A5 R.nd.length c5, .string R.data, .int .i64 R.code]) (by simp [results, Tryd.results35, go_sem, d0, d1, d2]) rfl ?_
    rw [HP.out]
    refine ⟨A5, c5, rfl, ?_, ?_⟩
    · refine (HO5.out.same fun j h1 h2 => ?_).mono (by omega) (by simp [World.setCell])
      rw [Below.heap_setCell _ _ _ _ (by dsimp only; omega), Below.heap_setCell _ _ _ _ (by dsimp only; omega), Below.heap_setCell _ _ _ _ (by dsimp only; omega)]
    · repeat (with_reducible refine Below.setCell ?_ ?_ _)
      all_goals first | exact HB5.out | (dsimp only; omega)
end Go.Proofs.YtimlaeicbnnbdaaDoor
