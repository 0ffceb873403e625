/-
  The laws' own comparison of answers.
-/
import Derived.Test.YtdgmpllonnddmaaLwNand
import Derived.Test.YtdgmpllonnddmaaNdRight
namespace Go.Proofs.Ytdgmpllonnddmaa
open Go.RowKit

set_option maxHeartbeats 4000000 in
set_option maxRecDepth 100000 in
theorem lwNands_same (A B : Option Addr) (n ca cb : Nat) (X : List Bk) (d : ByteArray) (code : Int) (w : World) (hX : Small X) (hok : code = 0 → NdOk X) (hA : RdBk w w.heap.size A n X) (hB : RdBk w w.heap.size B n X) :
    Calls Try.prog 14 #[.agg #[.slice A n ca, .string d, .int .i64 code], .agg #[.slice B n cb, .string d, .int .i64 code]] w fun e w' => e = .returned (.bool true) ∧ Below w.heap.size w w' := by
  have HOK := Lib.hid hok
  have HA := Lib.hid hA; have HB := Lib.hid hB; have HX := Lib.hid hX; clear hA hB hX hok
  by_cases hc : code = 0
  · subst hc
    go_enter Try.func14, Try.ntmps14
    go_wp2_with fail
    refine (lwNand_same A B n ca cb X _ HX.out ?_ ?_).mono ?_
    · exact (HA.out.below (((Below.refl _ _).alloc (Nat.le_refl _) _).alloc (by simp) _)).mono (by simp; omega)
    · exact (HB.out.below (((Below.refl _ _).alloc (Nat.le_refl _) _).alloc (by simp) _)).mono (by simp; omega)
    rintro e w4 ⟨rfl, hb4⟩
    have k0 := (((isBlk_new w 29 [Value.slice A n ca, .string d, .int .i64 0]).alloc _).below hb4 (by simp; omega))
    have k1 := ((isBlk_new (w.alloc _) 29 [Value.slice B n cb, .string d, .int .i64 0]).below hb4 (by simp))
    have HB4 := Lib.hid ((((Below.refl w.heap.size w).alloc (Nat.le_refl _) _).alloc (by simp) _).trans (hb4.mono (by simp; omega)))
    simp only [size_alloc] at k0 k1
    obtain ⟨c0, c1, c2, -, -, -⟩ := blk3 k0
    obtain ⟨d0, d1, d2, -, -, -⟩ := blk3 k1
    clear hb4 k0 k1
    go_wp2_with fail
    refine (spec_nandRight A n ca X w4 HX.out (rd_step HA.out HB4.out)).mono ?_
    rintro e w5 ⟨rfl, hb5⟩
    have HB5 := Lib.hid (bel_step HB4.out hb5)
    clear hb5
    rw [ndB_yes (HOK.out trivial)]
    go_wp2
    go_ret
    exact ⟨rfl, HB5.out⟩
  · have hcI : (code == 0) = false := by simpa using hc
    go_enter Try.func14, Try.ntmps14
    go_wp2_with fail
    refine (lwNand_same A B n ca cb X _ HX.out ?_ ?_).mono ?_
    · exact (HA.out.below (((Below.refl _ _).alloc (Nat.le_refl _) _).alloc (by simp) _)).mono (by simp; omega)
    · exact (HB.out.below (((Below.refl _ _).alloc (Nat.le_refl _) _).alloc (by simp) _)).mono (by simp; omega)
    rintro e w4 ⟨rfl, hb4⟩
    have k0 := (((isBlk_new w 29 [Value.slice A n ca, .string d, .int .i64 code]).alloc _).below hb4 (by simp; omega))
    have k1 := ((isBlk_new (w.alloc _) 29 [Value.slice B n cb, .string d, .int .i64 code]).below hb4 (by simp))
    have HB4 := Lib.hid ((((Below.refl w.heap.size w).alloc (Nat.le_refl _) _).alloc (by simp) _).trans (hb4.mono (by simp; omega)))
    simp only [size_alloc] at k0 k1
    obtain ⟨c0, c1, c2, -, -, -⟩ := blk3 k0
    obtain ⟨d0, d1, d2, -, -, -⟩ := blk3 k1
    clear hb4 k0 k1
    go_wp2
    go_ret
    exact ⟨rfl, HB4.out⟩
end Go.Proofs.Ytdgmpllonnddmaa
