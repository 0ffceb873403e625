/-
  One operation read, of the program.
-/
import Derived.Test.YtpgemeojhbeooaaDoorProg
import Derived.KernelRfl
import Derived.Test.YtpgemeojhbeooaaDoorDlPure2
import Derived.Test.YtpgemeojhbeooaaDoorDlMem
import Derived.Test.YtpgemeojhbeooaaDoorBtGet2
namespace Go.Proofs.YtpgemeojhbeooaaDoor
open Go.RowKit
open Bt (Dop dok)

set_option maxHeartbeats 4000000 in
set_option maxRecDepth 100000 in
theorem readOp_any (s : ByteArray) (p : Int) (w : World) (hs : s.size ≤ maxLen) (hp : p ≤ 9223372036854775807) (hg : ErrType w) :
    Calls Tryd.prog 58 #[.string s, .int .i64 p] w fun e w' => e = .returned (.tuple #[dopV (Bt.rop s p).1, .int .i64 (Bt.rop s p).2.1, .bool (Bt.rop s p).2.2]) ∧ Below w.heap.size w w' := by
  have HB := fun h => Lib.hid (Bt.rop_bad (s := s) (p := p) h)
  have HI := fun h h0 => Lib.hid (Bt.rop_ins (s := s) (p := p) h h0)
  have HC := fun h h0 => Lib.hid (Bt.rop_cp (s := s) (p := p) h h0)
  have hat := Bt.getNum_at s p
  have HNUM := Lib.hid (fun W h => impl_getNum_any s p W hs hp h)
  have HTXT := Lib.hid (fun q W (hq : q ≤ 9223372036854775807) h => impl_getText_any s q W hs hq h)
  have HNUM2 := Lib.hid (fun q W (hq : q ≤ 9223372036854775807) h => impl_getNum_any s q W hs hq h)
  have HG := Lib.hid hg
  generalize Bt.rop s p = R at HB HI HC ⊢
  generalize Bt.getNum s p = G at HB HI HC hat HNUM
  obtain ⟨n, a, c⟩ := G
  simp only at HB HI HC hat
  have hb0 : Below w.heap.size w (w.alloc (.cells #[.int .i64 0, .int .i64 0, .string ⟨#[]⟩] 41)) := (Below.refl _ _).alloc (Nat.le_refl _) _
  have k0 := isBlk_new w 41 [.int .i64 0, .int .i64 0, .string ⟨#[]⟩]
  change IsBlk (w.alloc (.cells #[.int .i64 0, .int .i64 0, .string ⟨#[]⟩] 41)) _ _ _ at k0
  have hg0 := hg.below hb0
  clear hg
  go_enter Tryd.func58, Tryd.ntmps58
  go_wp2_with fail
  refine (HNUM.out _ hg0).mono ?_
  rintro e w1 ⟨rfl, hb1⟩
  have HB1 : Hid (Below w.heap.size w w1) := hb0.trans (hb1.mono hb0.size)
  have HK1 := Lib.hid (k0.below hb1 k0.lt)
  have hg1 := HG.out.below HB1.out
  have HG1 := Lib.hid hg1
  clear hb1 k0 hb0 hg0 hg1 HNUM
  by_cases h0 : c = 0
  case neg =>
    have HR := HB h0
    have hcc : (c != 0) = true := by simpa using h0
    obtain ⟨d0, d1, d2, f0, f1, f2⟩ := blk3 HK1.out
    have hlt := HK1.out.lt
    clear HB HI HC hat h0
    go_wp2
    refine bodyPost_ret (v := .tuple #[dopV Dop.zero, .int .i64 0, .bool false]) (by simp [results, Tryd.results58, go_sem, d0, d1, d2, hlt, Dop.zero]) rfl ⟨by rw [HR.out], ?_⟩
    exact (((HB1.out.setCell (Nat.le_refl _) _).setCell (Nat.le_refl _) _).setCell (Nat.le_refl _) _).alloc (by simpa [World.setCell] using HB1.out.size) _
  subst h0
  have ha : a ≤ 9223372036854775807 := by have := hat.2 rfl; unfold maxLen at hs; omega
  by_cases hn : n = 0
  · have HR := HI rfl hn
    have HT := Lib.hid (fun W h => HTXT.out a W ha h)
    generalize Bt.getText s a = T at HR HT
    obtain ⟨t, ta, tc⟩ := T
    simp only at HR HT
    subst hn
    clear HB HI HC hat HTXT HNUM2
    have hlt := HK1.out.lt
    go_wp2_with fail
    refine (HT.out _ (HG1.out.alloc _)).mono ?_
    rintro e w2 ⟨rfl, hb2⟩
    have HB2 : Hid (Below w.heap.size w w2) := (HB1.out.alloc HB1.out.size _).trans (hb2.mono (by have := HB1.out.size; simp; omega))
    have HK2 := Lib.hid ((HK1.out.alloc _).below hb2 (by simp; omega))
    clear hb2
    go_wp2_with fail
    have hb3 : Below w.heap.size w (w2.alloc (.cells #[strV t, .int .i64 ta, .int .i64 tc] 35)) := HB2.out.alloc HB2.out.size _
    have k3 := HK2.out.alloc (.cells #[strV t, .int .i64 ta, .int .i64 tc] 35)
    have kt := isBlk_new w2 35 [strV t, .int .i64 ta, .int .i64 tc]
    have hltn := HK2.out.lt
    change IsBlk (w2.alloc (.cells #[strV t, .int .i64 ta, .int .i64 tc] 35)) _ _ _ at kt
    generalize w2.alloc (.cells #[strV t, .int .i64 ta, .int .i64 tc] 35) = w3 at hb3 k3 kt ⊢
    generalize w2.heap.size = nb at *
    have HB3 := Lib.hid hb3
    obtain ⟨d0, d1, d2, f0, f1, f2⟩ := blk3 k3
    obtain ⟨t0, t1, t2, -, -, -⟩ := blk3 kt
    have hne : nb ≠ w.heap.size := by omega
    have hne2 : w.heap.size ≠ nb := by omega
    have hlt3 := k3.lt; have hlt4 := kt.lt
    clear hb3 k3 kt hlt
    go_region
    all_goals
      go_wp2
      refine bodyPost_ret (v := .tuple #[dopV ⟨0, 0, bstr t⟩, .int .i64 ta, .bool (tc == 0)]) (by simp [results, Tryd.results58, go_sem, d0, d1, d2]) rfl ⟨by rw [HR.out], ?_⟩
      first | exact (((HB3.out.setCell (Nat.le_refl _) _).setCell (Nat.le_refl _) _).setCell (Nat.le_refl _) _).drew | exact ((HB3.out.setCell (Nat.le_refl _) _).setCell (Nat.le_refl _) _).setCell (Nat.le_refl _) _
  · have HR := HC rfl hn
    have HT := Lib.hid (fun W h => HNUM2.out a W ha h)
    generalize Bt.getNum s a = T at HR HT
    obtain ⟨t, ta, tc⟩ := T
    simp only at HR HT
    have hnn : (n == 0) = false := by simpa using hn
    clear HB HI HC hat HTXT HNUM2 hn
    have hlt := HK1.out.lt
    have kn := isBlk_new w1 88 [.int .i64 n, .int .i64 a, .int .i64 0]
    have hb2a : Below w.heap.size w (w1.alloc (.cells #[.int .i64 n, .int .i64 a, .int .i64 0] 88)) := HB1.out.alloc HB1.out.size _
    have k2a := HK1.out.alloc (.cells #[.int .i64 n, .int .i64 a, .int .i64 0] 88)
    have hg2a := HG1.out.alloc (.cells #[.int .i64 n, .int .i64 a, .int .i64 0] 88)
    change IsBlk (w1.alloc (.cells #[.int .i64 n, .int .i64 a, .int .i64 0] 88)) _ _ _ at kn
    go_wp2_with fail
    change Calls _ _ _ (w1.alloc (.cells #[.int .i64 n, .int .i64 a, .int .i64 0] 88)) _
    generalize w1.alloc (.cells #[.int .i64 n, .int .i64 a, .int .i64 0] 88) = v1 at kn hb2a k2a hg2a ⊢
    generalize w1.heap.size = na at *
    refine (HT.out _ hg2a).mono ?_
    rintro e w2 ⟨rfl, hb2⟩
    have HB2 : Hid (Below w.heap.size w w2) := hb2a.trans (hb2.mono hb2a.size)
    have HK2 := Lib.hid (k2a.below hb2 k2a.lt)
    have HN2 := Lib.hid (kn.below hb2 kn.lt)
    obtain ⟨n0, n1, n2, -, -, -⟩ := blk3 HN2.out
    clear hb2 kn hb2a k2a hg2a
    go_wp2_with fail
    have hb3 : Below w.heap.size w (w2.alloc (.cells #[.int .i64 t, .int .i64 ta, .int .i64 tc] 88)) := HB2.out.alloc HB2.out.size _
    have k3 := HK2.out.alloc (.cells #[.int .i64 t, .int .i64 ta, .int .i64 tc] 88)
    have kn3 := HN2.out.alloc (.cells #[.int .i64 t, .int .i64 ta, .int .i64 tc] 88)
    have kt := isBlk_new w2 88 [.int .i64 t, .int .i64 ta, .int .i64 tc]
    have hltn := HK2.out.lt
    have hltn2 := HN2.out.lt
    change IsBlk (w2.alloc (.cells #[.int .i64 t, .int .i64 ta, .int .i64 tc] 88)) _ _ _ at kt
    clear n0 n1 n2
    generalize w2.alloc (.cells #[.int .i64 t, .int .i64 ta, .int .i64 tc] 88) = w3 at hb3 k3 kn3 kt ⊢
    generalize w2.heap.size = nb at *
    have HB3 := Lib.hid hb3
    obtain ⟨d0, d1, d2, f0, f1, f2⟩ := blk3 k3
    obtain ⟨t0, t1, t2, -, -, -⟩ := blk3 kt
    obtain ⟨n0, n1, n2, -, -, -⟩ := blk3 kn3
    have hne : nb ≠ w.heap.size := by omega
    have hne2 : w.heap.size ≠ nb := by omega
    have hne3 : na ≠ w.heap.size := by omega
    have hne4 : w.heap.size ≠ na := by omega
    have hlt3 := k3.lt; have hlt4 := kt.lt; have hlt5 := kn3.lt
    clear hb3 k3 kt kn3 hlt
    go_region
    all_goals
      go_wp2
      refine bodyPost_ret (v := .tuple #[dopV ⟨t, n, ⟨#[]⟩⟩, .int .i64 ta, .bool (tc == 0)]) (by simp [results, Tryd.results58, go_sem, d0, d1, d2]) rfl ⟨by rw [HR.out], ?_⟩
      first | exact (((HB3.out.setCell (Nat.le_refl _) _).setCell (Nat.le_refl _) _).setCell (Nat.le_refl _) _).drew | exact ((HB3.out.setCell (Nat.le_refl _) _).setCell (Nat.le_refl _) _).setCell (Nat.le_refl _) _
end Go.Proofs.YtpgemeojhbeooaaDoor
