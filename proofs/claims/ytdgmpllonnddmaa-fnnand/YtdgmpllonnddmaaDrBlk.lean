/-
  A block's number drawn.
-/
import Derived.Test.YtdgmpllonnddmaaDrMore
namespace Go.Proofs.Ytdgmpllonnddmaa
open Go.RowKit

theorem draw_block (s : Nat) (A : Option Addr) (c n : Nat) (w : World) (h1 : 1 ≤ n) (hn : n ≤ 1048576) (hS : Src w s) :
    Calls Try.prog 31 #[.pointer (some ⟨s, 0, none⟩), .agg #[.slice A n c]] w (fun e w' => ∃ z : Int, e = .returned (.int .i64 z) ∧ -1 ≤ z ∧ z ≤ 1048576 ∧ Src w' s ∧ Btw s (s + 1) w w') := by
  have HS := Lib.hid hS; clear hS
  have hsl := HS.out.lt
  go_enter Try.func31, Try.ntmps31
  go_wp2_with fail
  have k0 : Src (w.alloc (.cells #[.slice A n c] 25)) s := HS.out.same fun k hk => Below.heap_alloc _ _ _ (by omega)
  have HBX := Lib.hid (isBlk_new w 25 [.slice A n c])
  have HB0 : Hid (Btw s (s + 1) w (w.alloc (.cells #[.slice A n c] 25))) := (Btw.refl _ _ _).alloc _
  refine (draw_one s 12 _ (by omega) k0).mono ?_
  rintro e w1 ⟨bb, rfl, hS1, hb1⟩
  have hk1 : IsBlk w1 w.heap.size 25 [.slice A n c] := (hb1.block _ (by simp) (Or.inr (by omega))).trans HBX.out
  have HS1 := Lib.hid hS1; have HB1 := Lib.hid (HB0.out.trans hb1)
  have c1 : w1.cell? ⟨w.heap.size, 0, none⟩ = some _ := hk1.cell rfl
  have hsl1 := hS1.lt
  clear hS1 hb1 k0 HBX HB0
  cases bb
  · go_wp2_with fail
    refine (draw_n s _ w1 (by omega) HS1.out).mono ?_
    rintro e w2 ⟨r, rfl, hr, hS2, hb2⟩
    have HS2 := Lib.hid hS2; have HB2 := Lib.hid (HB1.out.trans hb2); clear hS2 hb2
    go_wp2
    go_ret
    exact ⟨_, rfl, by omega, by have := hr (by omega); omega, HS2.out, HB2.out⟩
  · go_wp2_with fail
    obtain ⟨V, hV⟩ : ∃ x, x = w1.alloc (.cells [.int .i64 (-1), .int .i64 11, .int .i64 12].toArray 2) := ⟨_, rfl⟩
    have hSV : Src V s := by rw [hV]; exact HS1.out.same fun k hk => Below.heap_alloc _ _ _ (by omega)
    have hBV : Btw s (s + 1) w V := by rw [hV]; exact HB1.out.alloc _
    have hKV : IsBlk V w1.heap.size 2 [.int .i64 (-1), .int .i64 11, .int .i64 12] := by rw [hV]; exact isBlk_new _ _ _
    show Calls _ _ _ (w1.alloc (.cells [.int .i64 (-1), .int .i64 11, .int .i64 12].toArray 2)) _
    rw [← hV]
    clear hV
    refine (draw_n s 3 V (by omega) hSV).mono ?_
    rintro e w2 ⟨r, rfl, hr, hS2, hb2⟩
    have hr := hr (by omega)
    have hk2 : IsBlk w2 w1.heap.size 2 [.int .i64 (-1), .int .i64 11, .int .i64 12] := (hb2.block _ hKV.lt (Or.inr (by omega))).trans hKV
    obtain ⟨z, hz1, hz2, hz3⟩ : ∃ z : Int, -1 ≤ z ∧ z ≤ 1048576 ∧ [Value.int .i64 (-1), .int .i64 11, .int .i64 12][r]? = some (.int .i64 z) := by
      match r, hr with
      | 0, _ => exact ⟨-1, by omega, by omega, rfl⟩
      | 1, _ => exact ⟨11, by omega, by omega, rfl⟩
      | 2, _ => exact ⟨12, by omega, by omega, rfl⟩
      | r + 3, h => omega
    have cz : w2.cell? ⟨w1.heap.size, r, none⟩ = some (.int .i64 z) := hk2.cell hz3
    have HS2 := Lib.hid hS2; have HB2 := Lib.hid (hBV.trans hb2); clear hS2 hb2 hBV hSV hKV hk2 hz3
    go_wp2
    go_ret
    exact ⟨_, rfl, hz1, hz2, HS2.out, HB2.out⟩
end Go.Proofs.Ytdgmpllonnddmaa
