/-
  HistAdd, of the program.
-/
import Derived.Test.YtgkkkldajangeaaProg
import Derived.KernelRfl
import Derived.Test.YtgkkkldajangeaaHsApp
import Derived.Test.YtgkkkldajangeaaHsLaw
namespace Go.Proofs.Ytgkkkldajangeaa
open Go.RowKit
open Bt (Rc)

theorem size_setR (w : World) (a : Addr) (u : Value) : (w.setCell a u).heap.size = w.heap.size := by simp [World.setCell]
theorem take_getD {X : List Rc} {k : Nat} (h : k < X.length) : X.take (k + 1) = X.take k ++ [X.getD k Rc.zero] := take_snoc' Rc.zero h

set_option maxHeartbeats 4000000 in
set_option maxRecDepth 100000 in
theorem impl_histAdd (A : Option Addr) (n ca : Nat) (X : List Rc) (r : Rc) (w : World) (hS : SmallR X) (hd : r.d.size ≤ 1048576) (hA : RdRc w w.heap.size A n X) :
    Calls Try.prog 9 #[.agg #[.slice A n ca], recV r] w (RetHO w (addList X r) (addCode X r)) := by
  have hn : n ≤ 1048576 := by rw [← hA.1]; exact hS.1
  have HL := Lib.hid hA.1
  have HA := Lib.hid hA; have HS := Lib.hid hS; clear hA hS
  go_enter Try.func9, Try.ntmps9
  go_wp2
  have hb0 : Below w.heap.size w (((w.alloc (.cells #[.slice A n ca] 25)).alloc (.cells (recC r).toArray 27)).alloc (.cells #[.slice none 0 0, .int .i64 0] 31)) := (((Below.refl _ _).alloc (Nat.le_refl _) _).alloc (by simp) _).alloc (by simp; omega) _
  have k0 := ((isBlk_new w 25 [.slice A n ca]).alloc (.cells (recC r).toArray 27)).alloc (.cells #[.slice none 0 0, .int .i64 0] 31)
  have k1 := (isBlk_new (w.alloc (.cells #[.slice A n ca] 25)) 27 (recC r)).alloc (.cells #[.slice none 0 0, .int .i64 0] 31)
  have k2 := isBlk_new ((w.alloc (.cells #[.slice A n ca] 25)).alloc (.cells (recC r).toArray 27)) 31 [.slice none 0 0, .int .i64 0]
  simp only [size_alloc] at k1 k2
  change IsBlk (((w.alloc (.cells #[.slice A n ca] 25)).alloc (.cells (recC r).toArray 27)).alloc (.cells #[.slice none 0 0, .int .i64 0] 31)) _ _ _ at k0
  change IsBlk (((w.alloc (.cells #[.slice A n ca] 25)).alloc (.cells (recC r).toArray 27)).alloc (.cells #[.slice none 0 0, .int .i64 0] 31)) _ _ _ at k1
  change IsBlk (((w.alloc (.cells #[.slice A n ca] 25)).alloc (.cells (recC r).toArray 27)).alloc (.cells #[.slice none 0 0, .int .i64 0] 31)) _ _ _ at k2
  change Code.wp _ _ _ _ (((w.alloc (.cells #[.slice A n ca] 25)).alloc (.cells (recC r).toArray 27)).alloc (.cells #[.slice none 0 0, .int .i64 0] 31))
  generalize ((w.alloc (.cells #[.slice A n ca] 25)).alloc (.cells (recC r).toArray 27)).alloc (.cells #[.slice none 0 0, .int .i64 0] 31) = W at hb0 k0 k1 k2 ⊢
  have hx : W.cell? ⟨w.heap.size, 0, none⟩ = some (.slice A n ca) := k0.cell rfl
  obtain ⟨r0, r1, r2, r3, r4, r5⟩ := rcCells k1
  have hx' := cell_regrown hx
  have r0' := cell_regrown r0; have r1' := cell_regrown r1; have r2' := cell_regrown r2; have r3' := cell_regrown r3; have r4' := cell_regrown r4; have r5' := cell_regrown r5
  have HB0 := Lib.hid hb0; have HK0 := Lib.hid k0; have HK1 := Lib.hid k1; have HK2 := Lib.hid k2
  have HRD := Lib.hid (HA.out.next hb0)
  clear hb0 k0 k1 k2
  by_cases hr : hRight X = true
  case neg =>
    have hr : hRight X = false := by simpa using hr
    have HNO := Lib.hid (add_no (X := X) (r := r) (by rw [hr]; rfl))
    refine wp_region_quiet_below (by kernel_rfl) (by kernel_rfl) ?_
    repeat (go_big_quiet_step ((go_at_call 29; exact Calls.regrown_of ((impl_histRight_any A n ca X _ HS.out (HRD.out.next (below_regrown _ _ _))).mono (fun e w' h => by rw [hr] at h; exact h)))))
    refine wpQuiet_nil ?_
    intro w2 hw'
    have hb2 : Below W.heap.size W w2 := by obtain ⟨⟨dq, osq⟩, rfl⟩ := hw'; exact below_regrown W dq osq
    clear hw' hx r0 r1 r2 r3 r4 r5 hx' r0' r1' r2' r3' r4' r5'
    have k2 := HK2.out.below hb2 HK2.out.lt
    obtain ⟨d0, d1, fd0, fd1⟩ := blk2 k2
    have HB2 := Lib.hid (HB0.out.trans (hb2.mono HB0.out.size))
    clear hb2 k2
    go_wp2
    refine bodyPost_ret (v := .agg #[.slice none 0 0, .int .i64 1]) (by simp [results, Try.results9, go_sem, d0, d1]) rfl ?_
    rw [HNO.out.1, HNO.out.2]
    exact ⟨none, 0, rfl, ow_nilR _ _ _ _, (HB2.out.setCell (by dsimp only; omega) _).setCell (by dsimp only; omega) _⟩
  by_cases hok : r.Ok
  case neg =>
    have HNO := Lib.hid (add_no (X := X) (r := r) (by rw [decide_eq_false hok]; simp))
    refine wp_region_quiet_below (by kernel_rfl) (by kernel_rfl) ?_
    repeat (go_big_quiet_step (first
      | (go_at_call 29; exact Calls.regrown_of ((impl_histRight_any A n ca X _ HS.out (HRD.out.next (below_regrown _ _ _))).mono (fun e w' h => by rw [hr] at h; exact h)))
      | (go_at_call 50; exact Calls.regrown_of ((impl_recRight_any r _ (by unfold maxLen; omega)).mono (fun e w' h => by rw [decide_eq_false hok] at h; exact h)))))
    refine wpQuiet_nil ?_
    intro w2 hw'
    have hb2 : Below W.heap.size W w2 := by obtain ⟨⟨dq, osq⟩, rfl⟩ := hw'; exact below_regrown W dq osq
    clear hw' hx r0 r1 r2 r3 r4 r5 hx' r0' r1' r2' r3' r4' r5'
    have k2 := HK2.out.below hb2 HK2.out.lt
    obtain ⟨d0, d1, fd0, fd1⟩ := blk2 k2
    have HB2 := Lib.hid (HB0.out.trans (hb2.mono HB0.out.size))
    clear hb2 k2
    go_wp2
    refine bodyPost_ret (v := .agg #[.slice none 0 0, .int .i64 1]) (by simp [results, Try.results9, go_sem, d0, d1]) rfl ?_
    rw [HNO.out.1, HNO.out.2]
    exact ⟨none, 0, rfl, ow_nilR _ _ _ _, (HB2.out.setCell (by dsimp only; omega) _).setCell (by dsimp only; omega) _⟩
  have HLO : Hid (lastOf X = lastR X) := by show _ = _; unfold lastOf; rw [if_pos hr]
  by_cases hfl : flw (lastR X) r = true
  case neg =>
    have hfl : flw (lastR X) r = false := by simpa using hfl
    have HNO := Lib.hid (add_no (X := X) (r := r) (by rw [hfl]; simp))
    refine wp_region_quiet_below (by kernel_rfl) (by kernel_rfl) ?_
    repeat (go_big_quiet_step (first
      | (go_at_call 29; exact Calls.regrown_of ((impl_histRight_any A n ca X _ HS.out (HRD.out.next (below_regrown _ _ _))).mono (fun e w' h => by rw [hr] at h; exact h)))
      | (go_at_call 50; exact Calls.regrown_of ((impl_recRight_any r _ (by unfold maxLen; omega)).mono (fun e w' h => by rw [decide_eq_true hok] at h; exact h)))
      | (go_at_call 52; exact Calls.regrown_of ((lastRec_any A n ca X _ HS.out (HRD.out.next (below_regrown _ _ _))).mono (fun e w' h => by rw [HLO.out] at h; exact h)))
      | (go_at_call 51; exact Calls.regrown_of ((follows_any r (lastR X) _).mono (fun e w' h => by rw [hfl] at h; exact h)))))
    refine wpQuiet_nil ?_
    intro w2 hw'
    have hb2 : Below W.heap.size W w2 := by obtain ⟨⟨dq, osq⟩, rfl⟩ := hw'; exact below_regrown W dq osq
    clear hw' hx r0 r1 r2 r3 r4 r5 hx' r0' r1' r2' r3' r4' r5'
    have k2 := HK2.out.below hb2 HK2.out.lt
    obtain ⟨d0, d1, fd0, fd1⟩ := blk2 k2
    have HB2 := Lib.hid (HB0.out.trans (hb2.mono HB0.out.size))
    clear hb2 k2
    go_wp2
    refine bodyPost_ret (v := .agg #[.slice none 0 0, .int .i64 1]) (by simp [results, Try.results9, go_sem, d0, d1]) rfl ?_
    rw [HNO.out.1, HNO.out.2]
    exact ⟨none, 0, rfl, ow_nilR _ _ _ _, (HB2.out.setCell (by dsimp only; omega) _).setCell (by dsimp only; omega) _⟩
  have HYES : Hid ((hRight X && (decide r.Ok && flw (lastR X) r)) = true) := by show _ = _; rw [hr, hfl, decide_eq_true hok]; rfl
  refine wp_region_quiet_below (by kernel_rfl) (by kernel_rfl) ?_
  repeat (go_big_quiet_step (first
    | (go_at_call 29; exact Calls.regrown_of ((impl_histRight_any A n ca X _ HS.out (HRD.out.next (below_regrown _ _ _))).mono (fun e w' h => by rw [hr] at h; exact h)))
    | (go_at_call 50; exact Calls.regrown_of ((impl_recRight_any r _ (by unfold maxLen; omega)).mono (fun e w' h => by rw [decide_eq_true hok] at h; exact h)))
    | (go_at_call 52; exact Calls.regrown_of ((lastRec_any A n ca X _ HS.out (HRD.out.next (below_regrown _ _ _))).mono (fun e w' h => by rw [HLO.out] at h; exact h)))
    | (go_at_call 51; exact Calls.regrown_of ((follows_any r (lastR X) _).mono (fun e w' h => by rw [hfl] at h; exact h)))))
  refine wpQuiet_nil ?_
  intro w2 hw'
  have hb2 : Below W.heap.size W w2 := by obtain ⟨⟨dq, osq⟩, rfl⟩ := hw'; exact below_regrown W dq osq
  clear hw' hx r0 r1 r2 r3 r4 r5 hx' r0' r1' r2' r3' r4' r5' HLO hfl hok hr
  have hx : w2.cell? ⟨w.heap.size, 0, none⟩ = some (.slice A n ca) := (HK0.out.below hb2 HK0.out.lt).cell rfl
  have HK12 := Lib.hid (HK1.out.below hb2 HK1.out.lt)
  have HK22 := Lib.hid (HK2.out.below hb2 HK2.out.lt)
  have HB2 := Lib.hid (HB0.out.trans (hb2.mono HB0.out.size))
  have HRD2 := Lib.hid (HRD.out.next hb2)
  clear hb2 HB0 HK0 HK1 HK2 HRD
  by_cases h48 : n = 48
  · subst h48
    have HF := Lib.hid (add_full HYES.out HL.out)
    obtain ⟨d0, d1, fd0, fd1⟩ := blk2 HK22.out
    go_wp2
    refine bodyPost_ret (v := .agg #[.slice none 0 0, .int .i64 9]) (by simp [results, Try.results9, go_sem, d0, d1]) rfl ?_
    rw [HF.out.1, HF.out.2]
    exact ⟨none, 0, rfl, ow_nilR _ _ _ _, (HB2.out.setCell (by dsimp only; omega) _).setCell (by dsimp only; omega) _⟩
  have HF := Lib.hid (add_ok HYES.out (by rw [HL.out]; exact h48))
  have h48' : decide (n = 48) = false := by simpa using h48
  have h48'' : ((n : Int) == 48) = false := by simp; omega
  have hlt1 := HK12.out.lt
  have hlt2 := HK22.out.lt
  have hlt0 : w.heap.size < w2.heap.size := by omega
  go_wp2
  have hb3 : Below w2.heap.size w2 (w2.alloc (.cells #[.slice none 0 0] 25)) := (Below.refl _ _).alloc (Nat.le_refl _) _
  have k3 := isBlk_new w2 25 [.slice none 0 0]
  have hs3 : (w2.alloc (.cells #[.slice none 0 0] 25)).heap.size = w2.heap.size + 1 := by simp
  change IsBlk (w2.alloc (.cells #[.slice none 0 0] 25)) _ _ _ at k3
  generalize w2.alloc (.cells #[.slice none 0 0] 25) = W3 at hb3 k3 hs3 ⊢
  have HB3 := Lib.hid hb3; have HK3 := Lib.hid k3; have HS3 := Lib.hid hs3; clear hb3 k3 hs3
  obtain ⟨ir, hir, zr0, zr1, zr2⟩ := info_parts info_recL
  have Hir := Lib.hid hir; have Zr0 := Lib.hid zr0; have Zr1 := Lib.hid zr1; have Zr2 := Lib.hid zr2
  clear hir zr0 zr1 zr2
  go_loopw [32] (fun i wr => ∃ (k : Nat) (v : Value), k ≤ n ∧ i = .int .i64 (k : Nat) ∧ wr.ownsRow (w2.heap.size + 1) 27 6 v k (rcA (X.take k)) ∧ Below w2.heap.size W3 wr ∧ IsBlk wr w2.heap.size 25 [v]) (fun i _ => n - (intOf i).toNat)
  case atStart => exact ⟨0, _, by omega, rfl, ⟨by simp [rcA], .inl ⟨rfl, rfl⟩⟩, Below.refl _ _, HK3.out⟩
  case round =>
    obtain ⟨k, v, hk, rfl, hown, hbw, hkv⟩ := hrel
    have HOWN := Lib.hid hown; have HBW := Lib.hid hbw; have HKV := Lib.hid hkv
    have HBR := Lib.hid (HB3.out.trans (hbw))
    by_cases hlt : k < n
    · obtain ⟨g, off, rfl, hg, hc0, hc1, hc2, hc3, hc4, hc5⟩ := (HRD2.out.below HBR.out).at hlt
      have hds := HS.out.at k
      have HTK : Hid (X.take (k + 1) = X.take k ++ [X.getD k Rc.zero]) := take_getD (by have := HL.out; omega)
      generalize X.getD k Rc.zero = p at *
      have hv0 : wr.cell? ⟨w2.heap.size, 0, none⟩ = some v := hkv.cell rfl
      have fv0 : wr.frozen? ⟨w2.heap.size, 0, none⟩ = false := hkv.free
      have hz2 : w2.heap.size < wr.heap.size := hkv.lt
      clear hown hbw hkv
      go_wp2
      have hb4 : Below wr.heap.size wr (wr.alloc (.cells (recC p).toArray 27)) := (Below.refl _ _).alloc (Nat.le_refl _) _
      have k4 := isBlk_new wr 27 (recC p)
      change IsBlk (wr.alloc (.cells (recC p).toArray 27)) _ _ _ at k4
      change Code.wp _ _ _ _ (wr.alloc (.cells (recC p).toArray 27))
      generalize wr.alloc (.cells (recC p).toArray 27) = w4 at hb4 k4 ⊢
      have hv4 : w4.cell? ⟨w2.heap.size, 0, none⟩ = some v := (hb4.cell (p := ⟨w2.heap.size, 0, none⟩) hz2).trans hv0
      obtain ⟨p0, p1, p2, p3, p4, p5⟩ := rcCells k4
      have HB4 := Lib.hid hb4
      clear hb4 k4 hc0 hc1 hc2 hc3 hc4 hc5 hv0 fv0
      go_region_law (first
        | (go_simp
           go_at_call 53
           refine (copyRec_any p _ (by omega)).mono ?_
           rintro e w5 ⟨rfl, hb5⟩
           have hb45 : Below wr.heap.size wr w5 := HB4.out.trans (((Below.refl _ _).drew.trans hb5).mono HB4.out.size)
           have hv5 : w5.cell? ⟨w2.heap.size, 0, none⟩ = some v := (HKV.out.below hb45 hz2).cell rfl
           have hb56 : Below w5.heap.size w5 (w5.alloc (.cells (recC p).toArray 27)) := (Below.refl _ _).alloc (Nat.le_refl _) _
           have HOWN5 := Lib.hid (own_belowR (own_belowR HOWN.out hb45) hb56)
           have HNEWS5 := Lib.hid (fun j u (hj : (recC p)[j]? = some u) => (show (w5.alloc (.cells (recC p).toArray 27)).cell? ((⟨w5.heap.size, 0, none⟩ : Addr).add j) = some u by rw [add_plain]; exact (isBlk_new w5 27 (recC p)).cell hj))
           have HB5 := Lib.hid (hb45.trans (hb56.mono hb45.size))
           have hz5 : wr.heap.size ≤ w5.heap.size := hb45.size
           have hz25 : w2.heap.size < w5.heap.size := by omega
           clear hb5 hb45 hb56)
        | (refine step_append_lies _ rfl (.tmp 37) (.tmp 40) 23 rfl (w2.heap.size + 1) 27 ir _ 6 56 Try.underlying23 Hir.out Zr0.out Zr1.out Zr2.out rfl (by omega) v k (rcA (X.take k)) (by rfl) HOWN5.out ⟨w5.heap.size, 0, none⟩ 1 1 (recC p) (by rfl) (by rfl) HNEWS5.out (recC_one p) (by omega) (by unfold maxLen; omega) (by omega) (by simp; omega) (w5.heap.size + 1) (by simp) ?_
           intro g2 cap2 w6 hown6 hgrow6 hat6 hlt6
           have hvb : ∀ q, v.ownBlock = some q → w2.heap.size + 1 ≤ q := fun q hq => (own_block_ltR HOWN.out hq).1
           have hb6 : Below (w2.heap.size + 1) (w5.alloc (.cells (recC p).toArray 27)) w6 := (Below.refl _ _).grown hgrow6 (by simp; omega) hvb
           have HB6 := Lib.hid ((HBW.out.trans (HB5.out.mono (by omega))).trans (hb6.mono (by omega)))
           have k6 := (HKV.out.below HB5.out hz2).below hb6 (by omega)
           have HK6 := Lib.hid k6
           have hv6 : w6.cell? ⟨w2.heap.size, 0, none⟩ = some v := k6.cell rfl
           have fv6 : w6.frozen? ⟨w2.heap.size, 0, none⟩ = false := k6.free
           have HOWN6 : Hid (w6.ownsRow (w2.heap.size + 1) 27 6 (.slice (some ⟨g2, 0, none⟩) (k + 1) cap2) (k + 1) (rcA (X.take (k + 1)))) := by
             show World.ownsRow _ _ _ _ _ _ _
             rw [HTK.out, rcA_snoc]; exact hown6
           clear hvb hb6 k6 hown6 hgrow6 hat6 hlt6))
      all_goals
        go_wp2
        go_roundw
        case rel => exact ⟨k + 1, .slice (some ⟨g2, 0, none⟩) (k + 1) cap2, by omega, by go_num, own_otherR HOWN6.out (by dsimp only; omega) _, HB6.out.setCell (by dsimp only; omega) _, HK6.out.set _⟩
        case measure => simp [intOf]; omega
    · obtain rfl : k = n := by omega
      have HTK : Hid (X.take k = X) := by show _ = _; exact List.take_of_length_le (by have := HL.out; omega)
      rw [HTK.out] at hown
      have HOWN := Lib.hid hown
      have hv0 : wr.cell? ⟨w2.heap.size, 0, none⟩ = some v := hkv.cell rfl
      have fv0 : wr.frozen? ⟨w2.heap.size, 0, none⟩ = false := hkv.free
      have hz2 : w2.heap.size < wr.heap.size := hkv.lt
      have HK1r := Lib.hid (HK12.out.below HBR.out HK12.out.lt)
      have HK2r := Lib.hid (HK22.out.below HBR.out HK22.out.lt)
      obtain ⟨p0, p1, p2, p3, p4, p5⟩ := rcCells HK1r.out
      clear hown hbw hkv
      go_wp2
      go_region_law (first
        | (go_simp
           go_at_call 53
           refine (copyRec_any r _ (by omega)).mono ?_
           rintro e w5 ⟨rfl, hb5⟩
           have hb45 : Below wr.heap.size wr w5 := ((Below.refl _ _).drew.trans hb5)
           have hv5 : w5.cell? ⟨w2.heap.size, 0, none⟩ = some v := (HKV.out.below hb45 hz2).cell rfl
           have hb56 : Below w5.heap.size w5 (w5.alloc (.cells (recC r).toArray 27)) := (Below.refl _ _).alloc (Nat.le_refl _) _
           have HOWN5 := Lib.hid (own_belowR (own_belowR HOWN.out hb45) hb56)
           have HNEWS5 := Lib.hid (fun j u (hj : (recC r)[j]? = some u) => (show (w5.alloc (.cells (recC r).toArray 27)).cell? ((⟨w5.heap.size, 0, none⟩ : Addr).add j) = some u by rw [add_plain]; exact (isBlk_new w5 27 (recC r)).cell hj))
           have HB5 := Lib.hid (hb45.trans (hb56.mono hb45.size))
           have hz5 : wr.heap.size ≤ w5.heap.size := hb45.size
           have hz25 : w2.heap.size < w5.heap.size := by omega
           clear hb5 hb45 hb56)
        | (refine step_append_lies _ rfl (.tmp 45) (.tmp 48) 23 rfl (w2.heap.size + 1) 27 ir _ 6 56 Try.underlying23 Hir.out Zr0.out Zr1.out Zr2.out rfl (by omega) v k (rcA X) (by rfl) HOWN5.out ⟨w5.heap.size, 0, none⟩ 1 1 (recC r) (by rfl) (by rfl) HNEWS5.out (recC_one r) (by omega) (by unfold maxLen; omega) (by omega) (by simp; omega) (w5.heap.size + 1) (by simp) ?_
           intro g2 cap2 w6 hown6 hgrow6 hat6 hlt6
           have hvb : ∀ q, v.ownBlock = some q → w2.heap.size + 1 ≤ q := fun q hq => (own_block_ltR HOWN.out hq).1
           have hb6 : Below (w2.heap.size + 1) (w5.alloc (.cells (recC r).toArray 27)) w6 := (Below.refl _ _).grown hgrow6 (by simp; omega) hvb
           have HB6 := Lib.hid ((HBR.out.trans (HB5.out.mono (by omega))).trans (hb6.mono (by omega)))
           have k6 := (HKV.out.below HB5.out hz2).below hb6 (by omega)
           have k62 := HK22.out.below HB6.out HK22.out.lt
           have HK6 := Lib.hid k6
           have hv6 : w6.cell? ⟨w2.heap.size, 0, none⟩ = some v := k6.cell rfl
           have fv6 : w6.frozen? ⟨w2.heap.size, 0, none⟩ = false := k6.free
           obtain ⟨d0, d1, fd0, fd1⟩ := blk2 k62
           have HOWN6 : Hid (w6.ownsRow (w2.heap.size + 1) 27 6 (.slice (some ⟨g2, 0, none⟩) (X ++ [r]).length cap2) (X ++ [r]).length (rcA (X ++ [r]))) := by
             show World.ownsRow _ _ _ _ _ _ _
             rw [rcA_snoc, List.length_append, HL.out]; exact hown6
           clear hvb hb6 k6 k62 hown6 hgrow6 hat6 hlt6))
      all_goals
        go_wp2
        refine bodyPost_ret (v := .agg #[.slice (some ⟨g2, 0, none⟩) (k + 1) cap2, .int .i64 0]) (by simp [results, Try.results9, go_sem, d0, d1]) rfl ?_
        rw [HF.out.1, HF.out.2]
        refine ⟨some ⟨g2, 0, none⟩, cap2, by simp [HL.out], ?_, ?_⟩
        · have := HB2.out.size
          refine (ow_of_own HOWN6.out).same (fun j h1 h2 => ?_) |>.mono (by omega) (by simp only [size_setR]; omega)
          rw [Below.heap_setCell _ _ _ _ (by dsimp only; omega), Below.heap_setCell _ _ _ _ (by dsimp only; omega), Below.heap_setCell _ _ _ _ (by dsimp only; omega)]
        · have := HB2.out.size
          have hbb := HB2.out.trans (HB6.out.mono this)
          repeat (with_reducible refine Below.setCell ?_ ?_ _)
          all_goals first | exact hbb | (dsimp only; omega)
end Go.Proofs.Ytgkkkldajangeaa
