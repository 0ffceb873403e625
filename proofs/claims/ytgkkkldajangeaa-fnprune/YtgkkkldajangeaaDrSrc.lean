/-
  Draws: a source in memory, and what is drawn from it.
-/
import Derived.Test.YtgkkkldajangeaaProg
import Derived.KernelRfl
import Derived.Test.YtgkkkldajangeaaNdMem
import Derived.BigQuiet
import Derived.Deep.QuietTactic
import Derived.StillTailTactics
import Derived.Laws.BitsAllLaws
import Derived.Lib.Hide
namespace Go.Proofs.Ytgkkkldajangeaa
open Go.RowKit

/-- the slice (A, n) holds bytes, below block B -/
def RdBy (w : World) (B : Nat) (A : Option Addr) (n : Nat) : Prop := 0 < n → ∃ g off, A = some ⟨g, off, none⟩ ∧ g < B ∧ ∀ i, i < n → ∃ z : Nat, z < 256 ∧ w.cell? ⟨g, off + i, none⟩ = some (.int .u8 (z : Int))
theorem RdBy.same {w w' : World} {B n : Nat} {A : Option Addr} (h : RdBy w B A n) (hb : ∀ k, k < B → w'.heap[k]? = w.heap[k]?) : RdBy w' B A n := fun hn => by
  obtain ⟨g, off, hA, hg, hc⟩ := h hn
  refine ⟨g, off, hA, hg, fun i hi => ?_⟩
  obtain ⟨z, hz, hcell⟩ := hc i hi
  exact ⟨z, hz, (World.cell?_of_block (hb g hg)).trans hcell⟩
/-- a source: a block s of its own, over bytes that lie below it -/
def Src (w : World) (s : Nat) : Prop :=
  ∃ (A : Option Addr) (n c at_ : Nat) (mix sz : Int), IsBlk w s 96 [.slice A n c, .int .i64 (at_ : Int), .int .u64 mix, .int .i64 sz] ∧ RdBy w s A n ∧ n ≤ 1048576 ∧ at_ ≤ n
theorem Src.lt {w : World} {s : Nat} (h : Src w s) : s < w.heap.size := by obtain ⟨A, n, c, a, m, z, hk, -⟩ := h; exact hk.lt
theorem Src.same {w w' : World} {s : Nat} (h : Src w s) (hb : ∀ k, k ≤ s → w'.heap[k]? = w.heap[k]?) : Src w' s := by
  obtain ⟨A, n, c, a, m, z, hk, hr, h1, h2⟩ := h
  exact ⟨A, n, c, a, m, z, (hb s (Nat.le_refl _)).trans hk, hr.same fun k hk => hb k (by omega), h1, h2⟩
theorem Src.below {w w' : World} {s B : Nat} (h : Src w s) (hb : Below B w w') (hs : s < B) : Src w' s := h.same fun k hk => hb.block k (by omega)
/-- a draw: a number, the source drawn from, nothing else changed -/
def RetDraw (w : World) (s : Nat) (most : Int) (e : Ending) (w' : World) : Prop := ∃ r : Nat, e = .returned (.int .i64 (r : Int)) ∧ (1 ≤ most → (r : Int) < most) ∧ Src w' s ∧ Btw s (s + 1) w w'

theorem draw_val (x most : Int) (h1 : 1 < most) (h2 : most ≤ 1048577) : ∃ r : Nat, wrap64 ((IntKind.u64.wrap x).tmod most) = (r : Int) ∧ (r : Int) < most := by
  have h0 : 0 ≤ IntKind.u64.wrap x := by
    have : IntKind.u64.wrap x = x % 18446744073709551616 := by simp [IntKind.wrap, IntKind.bits, IntKind.signed]
    omega
  rw [Int.tmod_eq_emod_of_nonneg h0]
  generalize IntKind.u64.wrap x = y at *
  have k1 := Int.emod_nonneg y (b := most) (by omega)
  have k2 := Int.emod_lt_of_pos y (b := most) (by omega)
  refine ⟨(y % most).toNat, ?_, by omega⟩
  rw [Int.toNat_of_nonneg k1]
  generalize y % most = z at *
  simp only [wrap64]
  omega
/-- on the way in a draw: what is in the source, and that nothing else changed -/
structure SrcAt (w w' : World) (s : Nat) (v : Value) (at_ : Int) (mix sz : Int) : Prop where
  bt : Btw s (s + 1) w w'
  blk : IsBlk w' s 96 [v, .int .i64 at_, .int .u64 mix, .int .i64 sz]
theorem SrcAt.drewN {w w' : World} {s : Nat} {v : Value} {a m z : Int} (h : SrcAt w w' s v a m z) (k : Nat) : SrcAt w (w'.drewN k) s v a m z := ⟨⟨h.bt.os, h.bt.tape, h.bt.output, h.bt.size, h.bt.block⟩, h.blk⟩
theorem SrcAt.drew {w w' : World} {s : Nat} {v : Value} {a m z : Int} (h : SrcAt w w' s v a m z) : SrcAt w w'.drew s v a m z := ⟨⟨h.bt.os, h.bt.tape, h.bt.output, h.bt.size, h.bt.block⟩, h.blk⟩
theorem SrcAt.set1 {w w' : World} {s : Nat} {v : Value} {a m z : Int} (h : SrcAt w w' s v a m z) (x : Int) : SrcAt w (w'.setCell ⟨s, 1, none⟩ (.int .i64 x)) s v x m z := ⟨h.bt.setCell (Or.inl ⟨Nat.le_refl _, Nat.lt_succ_self _⟩) _, h.blk.set _⟩
theorem SrcAt.set2 {w w' : World} {s : Nat} {v : Value} {a m z : Int} (h : SrcAt w w' s v a m z) (x : Int) : SrcAt w (w'.setCell ⟨s, 2, none⟩ (.int .u64 x)) s v a x z := ⟨h.bt.setCell (Or.inl ⟨Nat.le_refl _, Nat.lt_succ_self _⟩) _, h.blk.set _⟩

set_option maxHeartbeats 2000000 in
set_option maxRecDepth 100000 in
theorem draw_n (s : Nat) (most : Int) (w : World) (hm : most ≤ 1048577) (hS : Src w s) :
    Calls Try.prog 49 #[.pointer (some ⟨s, 0, none⟩), .int .i64 most] w (RetDraw w s most) := by
  by_cases h1 : most ≤ 1
  · have HS := Lib.hid hS; clear hS
    go_enter Try.func49, Try.ntmps49
    go_wp2
    go_ret
    exact ⟨0, rfl, fun h => by omega, HS.out, Btw.refl _ _ _⟩
  obtain ⟨A, n, c, a, mix, sz, hk, hr, hn, ha⟩ := hS
  have K0 := Lib.hid (SrcAt.mk (Btw.refl s (s + 1) w) hk); have HR := Lib.hid hr
  have c0 : w.cell? ⟨s, 0, none⟩ = some _ := hk.cell rfl
  have c1 : w.cell? ⟨s, 1, none⟩ = some _ := hk.cell rfl
  have c2 : w.cell? ⟨s, 2, none⟩ = some _ := hk.cell rfl
  have f1 := hk.free (j := 1)
  have f2 := hk.free (j := 2)
  have hsl := hk.lt
  clear hk hr
  by_cases hlt : a < n
  · have hltI : (a : Int) < (n : Int) := by omega
    obtain ⟨g, off, rfl, hg, hby⟩ := HR.out (by omega)
    obtain ⟨z, hz, cz⟩ := hby a hlt
    have HBY := Lib.hid hby; clear hby
    go_enter Try.func49, Try.ntmps49
    go_wp2
    go_quiet (fail)
    obtain ⟨w1, hW, K1⟩ : ∃ x, w.drewN nq = x ∧ Hid (SrcAt w x s (.slice (some ⟨g, off, none⟩) n c) (a : Int) mix sz) := ⟨_, rfl, Lib.hid (K0.out.drewN _)⟩
    have cz1 : w1.cell? ⟨g, off + a, none⟩ = some (.int .u8 (z : Int)) := by rw [← hW]; exact cz
    rw [hW]
    clear hW cz c0 c1 c2 f1 f2 K0
    have c0 : w1.cell? ⟨s, 0, none⟩ = some _ := K1.out.blk.cell rfl
    have c1 : w1.cell? ⟨s, 1, none⟩ = some _ := K1.out.blk.cell rfl
    go_wp2
    go_quiet (fail)
    obtain ⟨w2, hW, K2⟩ : ∃ x, w1.drewN nq = x ∧ Hid (SrcAt w x s (.slice (some ⟨g, off, none⟩) n c) (a : Int) mix sz) := ⟨_, rfl, Lib.hid (K1.out.drewN _)⟩
    rw [hW]
    clear hW cz1 c0 c1 K1
    have c1 : w2.cell? ⟨s, 1, none⟩ = some _ := K2.out.blk.cell rfl
    have f1 := K2.out.blk.free (j := 1)
    go_wp2
    obtain ⟨w3, hW, K3⟩ : ∃ x, w2.setCell ⟨s, 1, none⟩ (.int .i64 ((a : Int) + 1)) = x ∧ Hid (SrcAt w x s (.slice (some ⟨g, off, none⟩) n c) ((a : Int) + 1) mix sz) := ⟨_, rfl, Lib.hid (K2.out.set1 _)⟩
    rw [hW]
    have K0 : True := trivial; have c0 := K0; have c2 := K0; have f2 := K0
    clear hW K2
    clear K0 c0 c1 c2 f1 f2
    have c2 : w3.cell? ⟨s, 2, none⟩ = some _ := K3.out.blk.cell rfl
    have f2 := K3.out.blk.free (j := 2)
    go_still_tail 13, (by kernel_rfl)
    change wpList _ _ _ _ _ w3.drew
    go_wp2
    generalize bits BinOp.xor IntKind.u64 mix (IntKind.u64.wrap (mix * 8192)) = m1
    obtain ⟨w4, hW, K4⟩ : ∃ x, (w3.setCell ⟨s, 2, none⟩ (.int .u64 m1)).drew = x ∧ Hid (SrcAt w x s (.slice (some ⟨g, off, none⟩) n c) ((a : Int) + 1) m1 sz) := ⟨_, rfl, Lib.hid (K3.out.set2 _).drew⟩
    rw [hW]
    clear hW c2 f2 K3
    have c2 : w4.cell? ⟨s, 2, none⟩ = some _ := K4.out.blk.cell rfl
    have f2 := K4.out.blk.free (j := 2)
    go_still_tail 13, (by kernel_rfl)
    change wpList _ _ _ _ _ w4.drew
    go_wp2
    generalize bits BinOp.xor IntKind.u64 m1 (m1 / 128) = m2
    obtain ⟨w5, hW, K5⟩ : ∃ x, (w4.setCell ⟨s, 2, none⟩ (.int .u64 m2)).drew = x ∧ Hid (SrcAt w x s (.slice (some ⟨g, off, none⟩) n c) ((a : Int) + 1) m2 sz) := ⟨_, rfl, Lib.hid (K4.out.set2 _).drew⟩
    rw [hW]
    clear hW c2 f2 K4
    have c2 : w5.cell? ⟨s, 2, none⟩ = some _ := K5.out.blk.cell rfl
    have f2 := K5.out.blk.free (j := 2)
    go_still_tail 13, (by kernel_rfl)
    change wpList _ _ _ _ _ w5.drew
    go_wp2
    generalize bits BinOp.xor IntKind.u64 m2 (IntKind.u64.wrap (m2 * 131072)) = m3
    obtain ⟨w6, hW, K6⟩ : ∃ x, (w5.setCell ⟨s, 2, none⟩ (.int .u64 m3)).drew = x ∧ Hid (SrcAt w x s (.slice (some ⟨g, off, none⟩) n c) ((a : Int) + 1) m3 sz) := ⟨_, rfl, Lib.hid (K5.out.set2 _).drew⟩
    rw [hW]
    clear hW c2 f2 K5
    have c2 : w6.cell? ⟨s, 2, none⟩ = some _ := K6.out.blk.cell rfl
    go_wp2
    obtain ⟨r, hr1, hr2⟩ := draw_val ((z : Int) + m3 / 1048576) most (by omega) hm
    rw [hr1]
    go_ret
    exact ⟨r, rfl, fun _ => hr2, ⟨_, n, c, a + 1, m3, sz, K6.out.blk, HR.out.same fun k hk => K6.out.bt.block k (by omega) (Or.inl hk), hn, by omega⟩, K6.out.bt⟩
  · have hltI : ¬ (a : Int) < (n : Int) := by omega
    go_enter Try.func49, Try.ntmps49
    go_wp2
    go_quiet (fail)
    obtain ⟨w3, hW, K3⟩ : ∃ x, w.drewN nq = x ∧ Hid (SrcAt w x s (.slice A n c) (a : Int) mix sz) := ⟨_, rfl, Lib.hid (K0.out.drewN _)⟩
    rw [hW]
    clear hW
    go_wp2
    clear K0 c0 c1 c2 f1 f2
    have c2 : w3.cell? ⟨s, 2, none⟩ = some _ := K3.out.blk.cell rfl
    have f2 := K3.out.blk.free (j := 2)
    go_still_tail 13, (by kernel_rfl)
    change wpList _ _ _ _ _ w3.drew
    go_wp2
    generalize bits BinOp.xor IntKind.u64 mix (IntKind.u64.wrap (mix * 8192)) = m1
    obtain ⟨w4, hW, K4⟩ : ∃ x, (w3.setCell ⟨s, 2, none⟩ (.int .u64 m1)).drew = x ∧ Hid (SrcAt w x s (.slice A n c) (a : Int) m1 sz) := ⟨_, rfl, Lib.hid (K3.out.set2 _).drew⟩
    rw [hW]
    clear hW c2 f2 K3
    have c2 : w4.cell? ⟨s, 2, none⟩ = some _ := K4.out.blk.cell rfl
    have f2 := K4.out.blk.free (j := 2)
    go_still_tail 13, (by kernel_rfl)
    change wpList _ _ _ _ _ w4.drew
    go_wp2
    generalize bits BinOp.xor IntKind.u64 m1 (m1 / 128) = m2
    obtain ⟨w5, hW, K5⟩ : ∃ x, (w4.setCell ⟨s, 2, none⟩ (.int .u64 m2)).drew = x ∧ Hid (SrcAt w x s (.slice A n c) (a : Int) m2 sz) := ⟨_, rfl, Lib.hid (K4.out.set2 _).drew⟩
    rw [hW]
    clear hW c2 f2 K4
    have c2 : w5.cell? ⟨s, 2, none⟩ = some _ := K5.out.blk.cell rfl
    have f2 := K5.out.blk.free (j := 2)
    go_still_tail 13, (by kernel_rfl)
    change wpList _ _ _ _ _ w5.drew
    go_wp2
    generalize bits BinOp.xor IntKind.u64 m2 (IntKind.u64.wrap (m2 * 131072)) = m3
    obtain ⟨w6, hW, K6⟩ : ∃ x, (w5.setCell ⟨s, 2, none⟩ (.int .u64 m3)).drew = x ∧ Hid (SrcAt w x s (.slice A n c) (a : Int) m3 sz) := ⟨_, rfl, Lib.hid (K5.out.set2 _).drew⟩
    rw [hW]
    clear hW c2 f2 K5
    have c2 : w6.cell? ⟨s, 2, none⟩ = some _ := K6.out.blk.cell rfl
    go_wp2
    obtain ⟨r, hr1, hr2⟩ := draw_val (m3 / 1048576) most (by omega) hm
    rw [hr1]
    go_ret
    exact ⟨r, rfl, fun _ => hr2, ⟨_, n, c, a, m3, sz, K6.out.blk, HR.out.same fun k hk => K6.out.bt.block k (by omega) (Or.inl hk), hn, by omega⟩, K6.out.bt⟩

end Go.Proofs.Ytgkkkldajangeaa
