/-
  HistAdd, of the document's model: the answer with its row.
-/
import Derived.Test.YtgkkkldajangeaaProg
import Derived.KernelRfl
import Derived.Test.YtgkkkldajangeaaHsAdd
namespace Go.Proofs.Ytgkkkldajangeaa
open Go.RowKit
open Bt (Rc)

theorem own_monoR {w : World} {lo lo' n size : Nat} {e : TypeId} {v : Value} {xs : List Value} (h : w.ownsRow lo e size v n xs) (hl : lo' ≤ lo) : w.ownsRow lo' e size v n xs := by
  refine ⟨h.1, ?_⟩
  rcases h.2 with h0 | ⟨g, cap, cur, hv, hb, r⟩
  · exact .inl h0
  · exact .inr ⟨g, cap, cur, hv, by omega, r⟩
/-- a drawn or made history, with its row -/
def RetHOw (w : World) (Y : List Rc) (code : Int) (e : Ending) (w' : World) : Prop :=
  ∃ (A : Option Addr) (ca : Nat), e = .returned (.agg #[.slice A Y.length ca, .int .i64 code]) ∧ w'.ownsRow w.heap.size 27 6 (.slice A Y.length ca) Y.length (rcA Y) ∧ Below w.heap.size w w'

set_option maxHeartbeats 4000000 in
set_option maxRecDepth 100000 in
theorem spec_histAddW (A : Option Addr) (n ca : Nat) (X : List Rc) (r : Rc) (w : World) (hS : SmallR X) (hd : r.d.size ≤ 1048576) (hA : RdRc w w.heap.size A n X) :
    Calls Try.prog 15 #[.agg #[.slice A n ca], recV r] w (RetHOw w (addList X r) (addCode X r)) := by
  have hn : n ≤ 1048576 := by rw [← hA.1]; exact hS.1
  have HL := Lib.hid hA.1
  have HA := Lib.hid hA; have HS := Lib.hid hS; clear hA hS
  go_enter Try.func15, Try.ntmps15
  go_wp2
  have hb0 : Below w.heap.size w (((w.alloc (.cells #[.slice A n ca] 25)).alloc (.cells (recC r).toArray 27)).alloc (.cells #[.slice none 0 0, .int .i64 0] 31)) := (((Below.refl _ _).alloc (Nat.le_refl _) _).alloc (by simp) _).alloc (by simp; omega) _
  have k0 := ((isBlk_new w 25 [.slice A n ca]).alloc (.cells (recC r).toArray 27)).alloc (.cells #[.slice none 0 0, .int .i64 0] 31)
  have k1 := (isBlk_new (w.alloc (.cells #[.slice A n ca] 25)) 27 (recC r)).alloc (.cells #[.slice none 0 0, .int .i64 0] 31)
  have k2 := isBlk_new ((w.alloc (.cells #[.slice A n ca] 25)).alloc (.cells (recC r).toArray 27)) 31 [.slice none 0 0, .int .i64 0]
  simp only [size_alloc] at k1 k2
  change IsBlk (((w.alloc (.cells #[.slice A n ca] 25)).alloc (.cells (recC r).toArray 27)).alloc (.cells #[.slice none 0 0, .int .i64 0] 31)) _ _ _ at k0
  change IsBlk (((w.alloc (.cells #[.slice A n ca] 25)).alloc (.cells (recC r).toArray 27)).alloc (.cells #[.slice none 0 0, .int .i64 0] 31)) _ _ _ at k1
  change IsBlk (((w.alloc (.cells #[.slice A n ca] 25)).alloc (.cells (recC r).toArray 27)).alloc (.cells #[.slice none 0 0, .int .i64 0] 31)) _ _ _ at k2
  change Code.wp _ _ _ _ (((w.alloc (.cells #[.slice A n ca] 25)).alloc (.cells (recC r).toArray 27)).alloc (.cells #[.slice none 0 0, .int .i64 0] 31))
  generalize ((w.alloc (.cells #[.slice A n ca] 25)).alloc (.cells (recC r).toArray 27)).alloc (.cells #[.slice none 0 0, .int .i64 0] 31) = W at hb0 k0 k1 k2 ⊢
  have hx : W.cell? ⟨w.heap.size, 0, none⟩ = some (.slice A n ca) := k0.cell rfl
  obtain ⟨r0, r1, r2, r3, r4, r5⟩ := rcCells k1
  have hx' := cell_regrown hx
  have r0' := cell_regrown r0; have r1' := cell_regrown r1; have r2' := cell_regrown r2; have r3' := cell_regrown r3; have r4' := cell_regrown r4; have r5' := cell_regrown r5
  have HB0 := Lib.hid hb0; have HK0 := Lib.hid k0; have HK1 := Lib.hid k1; have HK2 := Lib.hid k2
  have HRD := Lib.hid (HA.out.next hb0)
  clear hb0 k0 k1 k2
  have hf2 := recField_2; have hf3 := recField_3
  have HFLW : Hid (flw (lastR X) r = (decide ((lastR X).q < r.q) && decide ((lastR X).t ≤ r.t))) := Lib.hid rfl
  by_cases hr : hRight X = true
  case neg =>
    have hr : hRight X = false := by simpa using hr
    have HNO := Lib.hid (add_no (X := X) (r := r) (by rw [hr]; rfl))
    refine wp_region_quiet_below (by kernel_rfl) (by kernel_rfl) ?_
    repeat (go_big_quiet_step ((go_at_call 30; exact Calls.regrown_of ((spec_histRight_any A n ca X _ HS.out (HRD.out.next (below_regrown _ _ _))).mono (fun e w' h => by rw [hr] at h; exact h)))))
    refine wpQuiet_nil ?_
    intro w2 hw'
    have hb2 : Below W.heap.size W w2 := by obtain ⟨⟨dq, osq⟩, rfl⟩ := hw'; exact below_regrown W dq osq
    clear hw' hx r0 r1 r2 r3 r4 r5 hx' r0' r1' r2' r3' r4' r5' hf2 hf3
    have k2 := HK2.out.below hb2 HK2.out.lt
    obtain ⟨d0, d1, fd0, fd1⟩ := blk2 k2
    have HB2 := Lib.hid (HB0.out.trans (hb2.mono HB0.out.size))
    clear hb2 k2
    go_wp2
    refine bodyPost_ret (v := .agg #[.slice none 0 0, .int .i64 1]) (by simp [results, Try.results15, go_sem, d0, d1]) rfl ?_
    rw [HNO.out.1, HNO.out.2]
    exact ⟨none, 0, rfl, World.ownsRow_nil _ _ _ _, (HB2.out.setCell (by dsimp only; omega) _).setCell (by dsimp only; omega) _⟩
  by_cases hok : r.Ok
  case neg =>
    have HNO := Lib.hid (add_no (X := X) (r := r) (by rw [decide_eq_false hok]; simp))
    refine wp_region_quiet_below (by kernel_rfl) (by kernel_rfl) ?_
    repeat (go_big_quiet_step (first
      | (go_at_call 30; exact Calls.regrown_of ((spec_histRight_any A n ca X _ HS.out (HRD.out.next (below_regrown _ _ _))).mono (fun e w' h => by rw [hr] at h; exact h)))
      | (go_at_call 56; exact Calls.regrown_of ((spec_recRight_any r _ (by unfold maxLen; omega)).mono (fun e w' h => by rw [decide_eq_false hok] at h; exact h)))))
    refine wpQuiet_nil ?_
    intro w2 hw'
    have hb2 : Below W.heap.size W w2 := by obtain ⟨⟨dq, osq⟩, rfl⟩ := hw'; exact below_regrown W dq osq
    clear hw' hx r0 r1 r2 r3 r4 r5 hx' r0' r1' r2' r3' r4' r5' hf2 hf3
    have k2 := HK2.out.below hb2 HK2.out.lt
    obtain ⟨d0, d1, fd0, fd1⟩ := blk2 k2
    have HB2 := Lib.hid (HB0.out.trans (hb2.mono HB0.out.size))
    clear hb2 k2
    go_wp2
    refine bodyPost_ret (v := .agg #[.slice none 0 0, .int .i64 1]) (by simp [results, Try.results15, go_sem, d0, d1]) rfl ?_
    rw [HNO.out.1, HNO.out.2]
    exact ⟨none, 0, rfl, World.ownsRow_nil _ _ _ _, (HB2.out.setCell (by dsimp only; omega) _).setCell (by dsimp only; omega) _⟩
  by_cases hq : (lastR X).q < r.q
  case neg =>
    have HNO := Lib.hid (add_no (X := X) (r := r) (by rw [HFLW.out, decide_eq_false hq]; simp))
    have hqf : decide (r.q ≤ (lastR X).q) = true := decide_eq_true (by omega)
    refine wp_region_quiet_below (by kernel_rfl) (by kernel_rfl) ?_
    repeat (go_big_quiet_step (first
      | (go_at_call 30; exact Calls.regrown_of ((spec_histRight_any A n ca X _ HS.out (HRD.out.next (below_regrown _ _ _))).mono (fun e w' h => by rw [hr] at h; exact h)))
      | (go_at_call 56; exact Calls.regrown_of ((spec_recRight_any r _ (by unfold maxLen; omega)).mono (fun e w' h => by rw [decide_eq_true hok] at h; exact h)))
      | (go_at_call 48; exact Calls.regrown_of (l04Last_any A n ca X _ hn (HRD.out.next (below_regrown _ _ _))))))
    refine wpQuiet_nil ?_
    intro w2 hw'
    have hb2 : Below W.heap.size W w2 := by obtain ⟨⟨dq, osq⟩, rfl⟩ := hw'; exact below_regrown W dq osq
    clear hw' hx r0 r1 r2 r3 r4 r5 hx' r0' r1' r2' r3' r4' r5' hf2 hf3
    have k2 := HK2.out.below hb2 HK2.out.lt
    obtain ⟨d0, d1, fd0, fd1⟩ := blk2 k2
    have HB2 := Lib.hid (HB0.out.trans (hb2.mono HB0.out.size))
    clear hb2 k2
    go_wp2
    refine bodyPost_ret (v := .agg #[.slice none 0 0, .int .i64 1]) (by simp [results, Try.results15, go_sem, d0, d1]) rfl ?_
    rw [HNO.out.1, HNO.out.2]
    exact ⟨none, 0, rfl, World.ownsRow_nil _ _ _ _, (HB2.out.setCell (by dsimp only; omega) _).setCell (by dsimp only; omega) _⟩
  have hqf : decide (r.q ≤ (lastR X).q) = false := decide_eq_false (by omega)
  by_cases ht : (lastR X).t ≤ r.t
  case neg =>
    have HNO := Lib.hid (add_no (X := X) (r := r) (by rw [HFLW.out, decide_eq_false ht]; simp))
    have htf : decide (r.t < (lastR X).t) = true := decide_eq_true (by omega)
    refine wp_region_quiet_below (by kernel_rfl) (by kernel_rfl) ?_
    repeat (go_big_quiet_step (first
      | (go_at_call 30; exact Calls.regrown_of ((spec_histRight_any A n ca X _ HS.out (HRD.out.next (below_regrown _ _ _))).mono (fun e w' h => by rw [hr] at h; exact h)))
      | (go_at_call 56; exact Calls.regrown_of ((spec_recRight_any r _ (by unfold maxLen; omega)).mono (fun e w' h => by rw [decide_eq_true hok] at h; exact h)))
      | (go_at_call 48; exact Calls.regrown_of (l04Last_any A n ca X _ hn (HRD.out.next (below_regrown _ _ _))))))
    refine wpQuiet_nil ?_
    intro w2 hw'
    have hb2 : Below W.heap.size W w2 := by obtain ⟨⟨dq, osq⟩, rfl⟩ := hw'; exact below_regrown W dq osq
    clear hw' hx r0 r1 r2 r3 r4 r5 hx' r0' r1' r2' r3' r4' r5' hf2 hf3
    have k2 := HK2.out.below hb2 HK2.out.lt
    obtain ⟨d0, d1, fd0, fd1⟩ := blk2 k2
    have HB2 := Lib.hid (HB0.out.trans (hb2.mono HB0.out.size))
    clear hb2 k2
    go_wp2
    refine bodyPost_ret (v := .agg #[.slice none 0 0, .int .i64 1]) (by simp [results, Try.results15, go_sem, d0, d1]) rfl ?_
    rw [HNO.out.1, HNO.out.2]
    exact ⟨none, 0, rfl, World.ownsRow_nil _ _ _ _, (HB2.out.setCell (by dsimp only; omega) _).setCell (by dsimp only; omega) _⟩
  have htf : decide (r.t < (lastR X).t) = false := decide_eq_false (by omega)
  have HYES : Hid ((hRight X && (decide r.Ok && flw (lastR X) r)) = true) := by show _ = _; rw [hr, HFLW.out, decide_eq_true hok, decide_eq_true hq, decide_eq_true ht]; rfl
  refine wp_region_quiet_below (by kernel_rfl) (by kernel_rfl) ?_
  repeat (go_big_quiet_step (first
    | (go_at_call 30; exact Calls.regrown_of ((spec_histRight_any A n ca X _ HS.out (HRD.out.next (below_regrown _ _ _))).mono (fun e w' h => by rw [hr] at h; exact h)))
    | (go_at_call 56; exact Calls.regrown_of ((spec_recRight_any r _ (by unfold maxLen; omega)).mono (fun e w' h => by rw [decide_eq_true hok] at h; exact h)))
    | (go_at_call 48; exact Calls.regrown_of (l04Last_any A n ca X _ hn (HRD.out.next (below_regrown _ _ _))))))
  refine wpQuiet_nil ?_
  intro w2 hw'
  have hb2 : Below W.heap.size W w2 := by obtain ⟨⟨dq, osq⟩, rfl⟩ := hw'; exact below_regrown W dq osq
  clear hw' hx r0 r1 r2 r3 r4 r5 hx' r0' r1' r2' r3' r4' r5' hok hf2 hf3 hq ht
  have HLEN := Lib.hid (hRight_len hr)
  clear hr
  have hx : w2.cell? ⟨w.heap.size, 0, none⟩ = some (.slice A n ca) := (HK0.out.below hb2 HK0.out.lt).cell rfl
  have HK12 := Lib.hid (HK1.out.below hb2 HK1.out.lt)
  have HK22 := Lib.hid (HK2.out.below hb2 HK2.out.lt)
  have HB2 := Lib.hid (HB0.out.trans (hb2.mono HB0.out.size))
  have HRD2 := Lib.hid (HRD.out.next hb2)
  have hlt1 := HK12.out.lt
  have hlt2 := HK22.out.lt
  have hlt0 : w.heap.size < w2.heap.size := by omega
  clear hb2 HB0 HK0 HK1 HK2 HRD HFLW
  by_cases h48 : n = 48
  · subst h48
    have HF := Lib.hid (add_full HYES.out HL.out)
    obtain ⟨d0, d1, fd0, fd1⟩ := blk2 HK22.out
    clear hqf htf
    go_wp2
    refine bodyPost_ret (v := .agg #[.slice none 0 0, .int .i64 9]) (by simp [results, Try.results15, go_sem, d0, d1]) rfl ?_
    rw [HF.out.1, HF.out.2]
    exact ⟨none, 0, rfl, World.ownsRow_nil _ _ _ _, (HB2.out.setCell (by dsimp only; omega) _).setCell (by dsimp only; omega) _⟩
  have HF := Lib.hid (add_ok HYES.out (by rw [HL.out]; exact h48))
  have hn48 : n < 48 := by have := HLEN.out; have := HL.out; omega
  obtain ⟨r0, r1, r2, r3, r4, r5⟩ := rcCells HK12.out
  obtain ⟨d0, d1, fd0, fd1⟩ := blk2 HK22.out
  obtain ⟨ir, hir, zr0, zr1, zr2⟩ := info_parts info_recL
  have Hir := Lib.hid hir; have Zr0 := Lib.hid zr0; have Zr1 := Lib.hid zr1; have Zr2 := Lib.hid zr2
  clear hir zr0 zr1 zr2 h48 hqf htf
  have hbE : Below w2.heap.size w2 (w2.alloc (.cells #[] 27)).drew := ((Below.refl _ _).alloc (Nat.le_refl _) _).drew
  have hbER : Below w2.heap.size w2 ((w2.alloc (.cells #[] 27)).alloc (.cells (recC r).toArray 27)).drew := (((Below.refl _ _).alloc (Nat.le_refl _) _).alloc (by simp) _).drew
  have hbRE : Below w2.heap.size w2 ((w2.alloc (.cells (recC r).toArray 27)).alloc (.cells #[] 27)).drew := (((Below.refl _ _).alloc (Nat.le_refl _) _).alloc (by simp) _).drew
  have HbE := Lib.hid hbE; have HbER := Lib.hid hbER; have HbRE := Lib.hid hbRE
  have EA : Hid ((w2.alloc (.cells #[] 27)).drew.ownsRow w2.heap.size 27 6 (.slice (some ⟨w2.heap.size, 0, none⟩) 0 0) 0 []) := ⟨rfl, .inr ⟨w2.heap.size, 0, #[], rfl, Nat.le_refl _, isBlk_new w2 27 [], Nat.le_refl _, by simp [maxLen], rfl, rfl⟩⟩
  have EB : Hid (((w2.alloc (.cells #[] 27)).alloc (.cells (recC r).toArray 27)).drew.ownsRow w2.heap.size 27 6 (.slice (some ⟨w2.heap.size, 0, none⟩) 0 0) 0 []) := ⟨rfl, .inr ⟨w2.heap.size, 0, #[], rfl, Nat.le_refl _, (isBlk_new w2 27 []).alloc (.cells (recC r).toArray 27), Nat.le_refl _, by simp [maxLen], rfl, rfl⟩⟩
  have EC : Hid (((w2.alloc (.cells (recC r).toArray 27)).alloc (.cells #[] 27)).drew.ownsRow w2.heap.size 27 6 (.slice (some ⟨w2.heap.size + 1, 0, none⟩) 0 0) 0 []) := ⟨rfl, .inr ⟨w2.heap.size + 1, 0, #[], rfl, by omega, by have h := isBlk_new (w2.alloc (.cells (recC r).toArray 27)) 27 []; rw [size_alloc] at h; exact h, Nat.le_refl _, by simp [maxLen], rfl, rfl⟩⟩
  have RB : Hid (IsBlk ((w2.alloc (.cells #[] 27)).alloc (.cells (recC r).toArray 27)).drew (w2.heap.size + 1) 27 (recC r)) := by
    have h := isBlk_new (w2.alloc (.cells #[] 27)) 27 (recC r); rw [size_alloc] at h; exact h
  have RC : Hid (IsBlk ((w2.alloc (.cells (recC r).toArray 27)).alloc (.cells #[] 27)).drew w2.heap.size 27 (recC r)) := (isBlk_new w2 27 (recC r)).alloc (.cells #[] 27)
  clear hbE hbER hbRE
  go_wp2
  by_cases h0 : n = 0
  · subst h0
    have HX0 : Hid (X = []) := List.eq_nil_of_length_eq_zero HL.out
    clear HA HRD2
    cases A with
    | none =>
      go_region_law (first
      | (refine step_append_lies ((w2.alloc (.cells #[] 27)).alloc (.cells (recC r).toArray 27)).drew rfl (.tmp 38) (.tmp 40) 23 rfl w2.heap.size 27 ir _ 6 56 Try.underlying23 Hir.out Zr0.out Zr1.out Zr2.out rfl (by omega) (.slice (some ⟨w2.heap.size, 0, none⟩) 0 0) 0 [] (by rfl) EB.out ⟨w2.heap.size + 1, 0, none⟩ 1 1 (recC r) (by rfl) (by rfl) (fun j u hj => by rw [add_plain]; exact RB.out.cell hj) (recC_one r) (by omega) (by unfold maxLen; omega) (by omega) (by first | omega | (simp; omega) | simp) _ (by rfl) ?_
         intro g3 cap3 w7 hown7 hgrow7 hat7 hlt7
         have hb7 : Below w2.heap.size w2 w7 := HbER.out.grown hgrow7 HbER.out.size (fun k hk => (own_block_ltR EB.out hk).1)
         have HB7 := Lib.hid hb7
         have HOWN7 : Hid (w7.ownsRow w2.heap.size 27 6 (.slice (some ⟨g3, 0, none⟩) (X ++ [r]).length cap3) (X ++ [r]).length (rcA (X ++ [r]))) := by
           show World.ownsRow _ _ _ _ _ _ _
           rw [HX0.out]; exact hown7
         obtain ⟨e0, e1, fe0, fe1⟩ := blk2 (HK22.out.below hb7 HK22.out.lt)
         clear hown7 hgrow7 hat7 hlt7 hb7)
      | (refine step_append_lies ((w2.alloc (.cells (recC r).toArray 27)).alloc (.cells #[] 27)).drew rfl (.tmp 38) (.tmp 40) 23 rfl w2.heap.size 27 ir _ 6 56 Try.underlying23 Hir.out Zr0.out Zr1.out Zr2.out rfl (by omega) (.slice (some ⟨w2.heap.size + 1, 0, none⟩) 0 0) 0 [] (by rfl) EC.out ⟨w2.heap.size, 0, none⟩ 1 1 (recC r) (by rfl) (by rfl) (fun j u hj => by rw [add_plain]; exact RC.out.cell hj) (recC_one r) (by omega) (by unfold maxLen; omega) (by omega) (by first | omega | (simp; omega) | simp) _ (by rfl) ?_
         intro g3 cap3 w7 hown7 hgrow7 hat7 hlt7
         have hb7 : Below w2.heap.size w2 w7 := HbRE.out.grown hgrow7 HbRE.out.size (fun k hk => (own_block_ltR EC.out hk).1)
         have HB7 := Lib.hid hb7
         have HOWN7 : Hid (w7.ownsRow w2.heap.size 27 6 (.slice (some ⟨g3, 0, none⟩) (X ++ [r]).length cap3) (X ++ [r]).length (rcA (X ++ [r]))) := by
           show World.ownsRow _ _ _ _ _ _ _
           rw [HX0.out]; exact hown7
         obtain ⟨e0, e1, fe0, fe1⟩ := blk2 (HK22.out.below hb7 HK22.out.lt)
         clear hown7 hgrow7 hat7 hlt7 hb7))
      all_goals
        go_wp2
        refine bodyPost_ret (v := .agg #[.slice (some ⟨g3, 0, none⟩) 1 cap3, .int .i64 0]) (by simp [results, Try.results15, go_sem, e0, e1]) rfl ?_
        rw [HF.out.1, HF.out.2]
        refine ⟨some ⟨g3, 0, none⟩, cap3, by simp [HL.out], ?_, ?_⟩
        · have := HB2.out.size
          refine own_monoR (lo := w2.heap.size) ?_ (by omega)
          repeat (with_reducible refine own_otherR ?_ ?_ _)
          all_goals first | exact HOWN7.out | (dsimp only; omega)
        · have := HB2.out.size
          have hbb := HB2.out.trans (HB7.out.mono this)
          repeat (with_reducible refine Below.setCell ?_ ?_ _)
          all_goals first | exact hbb | (dsimp only; omega)

    | some ad0 =>
      go_region_law (first
      | (refine step_append_lies ((w2.alloc (.cells #[] 27)).alloc (.cells (recC r).toArray 27)).drew rfl (.tmp 38) (.tmp 40) 23 rfl w2.heap.size 27 ir _ 6 56 Try.underlying23 Hir.out Zr0.out Zr1.out Zr2.out rfl (by omega) (.slice (some ⟨w2.heap.size, 0, none⟩) 0 0) 0 [] (by rfl) EB.out ⟨w2.heap.size + 1, 0, none⟩ 1 1 (recC r) (by rfl) (by rfl) (fun j u hj => by rw [add_plain]; exact RB.out.cell hj) (recC_one r) (by omega) (by unfold maxLen; omega) (by omega) (by first | omega | (simp; omega) | simp) _ (by rfl) ?_
         intro g3 cap3 w7 hown7 hgrow7 hat7 hlt7
         have hb7 : Below w2.heap.size w2 w7 := HbER.out.grown hgrow7 HbER.out.size (fun k hk => (own_block_ltR EB.out hk).1)
         have HB7 := Lib.hid hb7
         have HOWN7 : Hid (w7.ownsRow w2.heap.size 27 6 (.slice (some ⟨g3, 0, none⟩) (X ++ [r]).length cap3) (X ++ [r]).length (rcA (X ++ [r]))) := by
           show World.ownsRow _ _ _ _ _ _ _
           rw [HX0.out]; exact hown7
         obtain ⟨e0, e1, fe0, fe1⟩ := blk2 (HK22.out.below hb7 HK22.out.lt)
         clear hown7 hgrow7 hat7 hlt7 hb7)
      | (refine step_append_lies ((w2.alloc (.cells (recC r).toArray 27)).alloc (.cells #[] 27)).drew rfl (.tmp 38) (.tmp 40) 23 rfl w2.heap.size 27 ir _ 6 56 Try.underlying23 Hir.out Zr0.out Zr1.out Zr2.out rfl (by omega) (.slice (some ⟨w2.heap.size + 1, 0, none⟩) 0 0) 0 [] (by rfl) EC.out ⟨w2.heap.size, 0, none⟩ 1 1 (recC r) (by rfl) (by rfl) (fun j u hj => by rw [add_plain]; exact RC.out.cell hj) (recC_one r) (by omega) (by unfold maxLen; omega) (by omega) (by first | omega | (simp; omega) | simp) _ (by rfl) ?_
         intro g3 cap3 w7 hown7 hgrow7 hat7 hlt7
         have hb7 : Below w2.heap.size w2 w7 := HbRE.out.grown hgrow7 HbRE.out.size (fun k hk => (own_block_ltR EC.out hk).1)
         have HB7 := Lib.hid hb7
         have HOWN7 : Hid (w7.ownsRow w2.heap.size 27 6 (.slice (some ⟨g3, 0, none⟩) (X ++ [r]).length cap3) (X ++ [r]).length (rcA (X ++ [r]))) := by
           show World.ownsRow _ _ _ _ _ _ _
           rw [HX0.out]; exact hown7
         obtain ⟨e0, e1, fe0, fe1⟩ := blk2 (HK22.out.below hb7 HK22.out.lt)
         clear hown7 hgrow7 hat7 hlt7 hb7))
      all_goals
        go_wp2
        refine bodyPost_ret (v := .agg #[.slice (some ⟨g3, 0, none⟩) 1 cap3, .int .i64 0]) (by simp [results, Try.results15, go_sem, e0, e1]) rfl ?_
        rw [HF.out.1, HF.out.2]
        refine ⟨some ⟨g3, 0, none⟩, cap3, by simp [HL.out], ?_, ?_⟩
        · have := HB2.out.size
          refine own_monoR (lo := w2.heap.size) ?_ (by omega)
          repeat (with_reducible refine own_otherR ?_ ?_ _)
          all_goals first | exact HOWN7.out | (dsimp only; omega)
        · have := HB2.out.size
          have hbb := HB2.out.trans (HB7.out.mono this)
          repeat (with_reducible refine Below.setCell ?_ ?_ _)
          all_goals first | exact hbb | (dsimp only; omega)
  obtain ⟨g, off, rfl, hg, hcc⟩ := HRD2.out.2 (by omega)
  have HN : Hid (∀ W', Below w2.heap.size w2 W' → ∀ j u, (rcA X)[j]? = some u → W'.cell? ((⟨g, off, none⟩ : Addr).add j) = some u) := fun W' hb j u hj => by
    have hjl : j < X.length * 6 := by rw [← rcA_len]; exact (List.getElem?_eq_some_iff.1 hj).1
    rw [rcA_at X j hjl] at hj
    rw [add_off, hb.cell (p := ⟨g, off + j, none⟩) hg, hcc j (by rw [← HL.out]; exact hjl)]
    exact hj
  have HLX : Hid ((rcA X).length = n * 6) := by show _ = _; rw [rcA_len, HL.out]
  have HONE : Hid (∀ u ∈ rcA X, u.oneCell' = true) := fun u hu => by
    obtain ⟨p, -, hp⟩ := List.mem_flatMap.1 hu
    exact recC_one p u hp
  clear hcc
  go_region_law (first
    | (refine step_append_lies (w2.alloc (.cells #[] 27)).drew rfl (.tmp 35) (.tmp 37) 23 rfl w2.heap.size 27 ir _ 6 56 Try.underlying23 Hir.out Zr0.out Zr1.out Zr2.out rfl (by omega) (.slice (some ⟨w2.heap.size, 0, none⟩) 0 0) 0 [] (by rfl) EA.out ⟨g, off, none⟩ n ca (rcA X) (by rfl) HLX.out (HN.out _ HbE.out) HONE.out (by omega) (by unfold maxLen; omega) (by omega) (by first | omega | (simp; omega) | simp) _ (by rfl) ?_
       intro g2 cap2 w6 hown6 hgrow6 hat6 hlt6
       simp only [Nat.zero_add, List.nil_append] at hown6 ⊢
       have hb6 : Below w2.heap.size w2 w6 := HbE.out.grown hgrow6 HbE.out.size (fun k hk => (own_block_ltR EA.out hk).1)
       have HOWN6 := Lib.hid hown6
       have HB6 := Lib.hid hb6
       obtain ⟨s0, s1, s2, s3, s4, s5⟩ := rcCells (HK12.out.below hb6 HK12.out.lt)
       have hz6 : w2.heap.size ≤ w6.heap.size := hb6.size
       have hz61 : w.heap.size + 1 < w6.heap.size := by omega
       have RA6 := Lib.hid (isBlk_new w6 27 (recC r))
       clear hown6 hgrow6 hat6 hlt6 hb6)
    | (refine step_append_lies ((w2.alloc (.cells #[] 27)).alloc (.cells (recC r).toArray 27)).drew rfl (.tmp 35) (.tmp 37) 23 rfl w2.heap.size 27 ir _ 6 56 Try.underlying23 Hir.out Zr0.out Zr1.out Zr2.out rfl (by omega) (.slice (some ⟨w2.heap.size, 0, none⟩) 0 0) 0 [] (by rfl) EB.out ⟨g, off, none⟩ n ca (rcA X) (by rfl) HLX.out (HN.out _ HbER.out) HONE.out (by omega) (by unfold maxLen; omega) (by omega) (by first | omega | (simp; omega) | simp) _ (by rfl) ?_
       intro g2 cap2 w6 hown6 hgrow6 hat6 hlt6
       simp only [Nat.zero_add, List.nil_append] at hown6 ⊢
       have hb6 : Below w2.heap.size w2 w6 := HbER.out.grown hgrow6 HbER.out.size (fun k hk => (own_block_ltR EB.out hk).1)
       have HOWN6 := Lib.hid hown6
       have HB6 := Lib.hid hb6
       obtain ⟨s0, s1, s2, s3, s4, s5⟩ := rcCells (HK12.out.below hb6 HK12.out.lt)
       have hz6 : w2.heap.size ≤ w6.heap.size := hb6.size
       have hz61 : w.heap.size + 1 < w6.heap.size := by omega
       have RB6 : Hid (IsBlk w6 (w2.heap.size + 1) 27 (recC r)) := (hgrow6.block (w2.heap.size + 1) RB.out.lt (fun e => by simp [Value.ownBlock] at e)).trans RB.out
       clear hown6 hgrow6 hat6 hlt6 hb6)
    | (refine step_append_lies ((w2.alloc (.cells (recC r).toArray 27)).alloc (.cells #[] 27)).drew rfl (.tmp 35) (.tmp 37) 23 rfl w2.heap.size 27 ir _ 6 56 Try.underlying23 Hir.out Zr0.out Zr1.out Zr2.out rfl (by omega) (.slice (some ⟨w2.heap.size + 1, 0, none⟩) 0 0) 0 [] (by rfl) EC.out ⟨g, off, none⟩ n ca (rcA X) (by rfl) HLX.out (HN.out _ HbRE.out) HONE.out (by omega) (by unfold maxLen; omega) (by omega) (by first | omega | (simp; omega) | simp) _ (by rfl) ?_
       intro g2 cap2 w6 hown6 hgrow6 hat6 hlt6
       simp only [Nat.zero_add, List.nil_append] at hown6 ⊢
       have hb6 : Below w2.heap.size w2 w6 := HbRE.out.grown hgrow6 HbRE.out.size (fun k hk => (own_block_ltR EC.out hk).1)
       have HOWN6 := Lib.hid hown6
       have HB6 := Lib.hid hb6
       obtain ⟨s0, s1, s2, s3, s4, s5⟩ := rcCells (HK12.out.below hb6 HK12.out.lt)
       have hz6 : w2.heap.size ≤ w6.heap.size := hb6.size
       have hz61 : w.heap.size + 1 < w6.heap.size := by omega
       have RC6 : Hid (IsBlk w6 (w2.heap.size) 27 (recC r)) := (hgrow6.block (w2.heap.size) RC.out.lt (fun e => by simp [Value.ownBlock] at e)).trans RC.out
       clear hown6 hgrow6 hat6 hlt6 hb6)
    | (have hRR := RA6.out.lt
       clear hRR
       refine step_append_lies (w6.alloc (.cells (recC r).toArray 27)) rfl (.tmp 38) (.tmp 40) 23 rfl w2.heap.size 27 ir _ 6 56 Try.underlying23 Hir.out Zr0.out Zr1.out Zr2.out rfl (by omega) (.slice (some ⟨g2, 0, none⟩) n cap2) n (rcA X) (by rfl) (own_belowR HOWN6.out ((Below.refl _ _).alloc (Nat.le_refl _) _)) ⟨w6.heap.size, 0, none⟩ 1 1 (recC r) (by rfl) (by rfl) (fun j u hj => by rw [add_plain]; exact RA6.out.cell hj) (recC_one r) (by omega) (by unfold maxLen; omega) (by omega) (by first | omega | (simp; omega) | simp) _ (by rfl) ?_
       intro g3 cap3 w7 hown7 hgrow7 hat7 hlt7
       have hb7 : Below w2.heap.size w2 w7 := (HB6.out.alloc HB6.out.size (.cells (recC r).toArray 27)).grown hgrow7 (HB6.out.alloc HB6.out.size (.cells (recC r).toArray 27)).size (fun k hk => (own_block_ltR HOWN6.out hk).1)
       have HB7 := Lib.hid hb7
       have HOWN7 : Hid (w7.ownsRow w2.heap.size 27 6 (.slice (some ⟨g3, 0, none⟩) (X ++ [r]).length cap3) (X ++ [r]).length (rcA (X ++ [r]))) := by
         show World.ownsRow _ _ _ _ _ _ _
         rw [rcA_snoc, List.length_append, HL.out]; exact hown7
       obtain ⟨e0, e1, fe0, fe1⟩ := blk2 (HK22.out.below hb7 HK22.out.lt)
       clear hown7 hgrow7 hat7 hlt7 hb7)
    | (have hRR := RB6.out.lt
       clear hRR
       refine step_append_lies w6 rfl (.tmp 38) (.tmp 40) 23 rfl w2.heap.size 27 ir _ 6 56 Try.underlying23 Hir.out Zr0.out Zr1.out Zr2.out rfl (by omega) (.slice (some ⟨g2, 0, none⟩) n cap2) n (rcA X) (by rfl) HOWN6.out ⟨w2.heap.size + 1, 0, none⟩ 1 1 (recC r) (by rfl) (by rfl) (fun j u hj => by rw [add_plain]; exact RB6.out.cell hj) (recC_one r) (by omega) (by unfold maxLen; omega) (by omega) (by first | omega | (simp; omega) | simp) _ (by rfl) ?_
       intro g3 cap3 w7 hown7 hgrow7 hat7 hlt7
       have hb7 : Below w2.heap.size w2 w7 := HB6.out.grown hgrow7 HB6.out.size (fun k hk => (own_block_ltR HOWN6.out hk).1)
       have HB7 := Lib.hid hb7
       have HOWN7 : Hid (w7.ownsRow w2.heap.size 27 6 (.slice (some ⟨g3, 0, none⟩) (X ++ [r]).length cap3) (X ++ [r]).length (rcA (X ++ [r]))) := by
         show World.ownsRow _ _ _ _ _ _ _
         rw [rcA_snoc, List.length_append, HL.out]; exact hown7
       obtain ⟨e0, e1, fe0, fe1⟩ := blk2 (HK22.out.below hb7 HK22.out.lt)
       clear hown7 hgrow7 hat7 hlt7 hb7)
    | (have hRR := RC6.out.lt
       clear hRR
       refine step_append_lies w6 rfl (.tmp 38) (.tmp 40) 23 rfl w2.heap.size 27 ir _ 6 56 Try.underlying23 Hir.out Zr0.out Zr1.out Zr2.out rfl (by omega) (.slice (some ⟨g2, 0, none⟩) n cap2) n (rcA X) (by rfl) HOWN6.out ⟨w2.heap.size, 0, none⟩ 1 1 (recC r) (by rfl) (by rfl) (fun j u hj => by rw [add_plain]; exact RC6.out.cell hj) (recC_one r) (by omega) (by unfold maxLen; omega) (by omega) (by first | omega | (simp; omega) | simp) _ (by rfl) ?_
       intro g3 cap3 w7 hown7 hgrow7 hat7 hlt7
       have hb7 : Below w2.heap.size w2 w7 := HB6.out.grown hgrow7 HB6.out.size (fun k hk => (own_block_ltR HOWN6.out hk).1)
       have HB7 := Lib.hid hb7
       have HOWN7 : Hid (w7.ownsRow w2.heap.size 27 6 (.slice (some ⟨g3, 0, none⟩) (X ++ [r]).length cap3) (X ++ [r]).length (rcA (X ++ [r]))) := by
         show World.ownsRow _ _ _ _ _ _ _
         rw [rcA_snoc, List.length_append, HL.out]; exact hown7
       obtain ⟨e0, e1, fe0, fe1⟩ := blk2 (HK22.out.below hb7 HK22.out.lt)
       clear hown7 hgrow7 hat7 hlt7 hb7))
  all_goals
    go_wp2
    refine bodyPost_ret (v := .agg #[.slice (some ⟨g3, 0, none⟩) (n + 1) cap3, .int .i64 0]) (by simp [results, Try.results15, go_sem, e0, e1]) rfl ?_
    rw [HF.out.1, HF.out.2]
    refine ⟨some ⟨g3, 0, none⟩, cap3, by simp [HL.out], ?_, ?_⟩
    · have := HB2.out.size
      refine own_monoR (lo := w2.heap.size) ?_ (by omega)
      repeat (with_reducible refine own_otherR ?_ ?_ _)
      all_goals first | exact HOWN7.out | (dsimp only; omega)
    · have := HB2.out.size
      have hbb := HB2.out.trans (HB7.out.mono this)
      repeat (with_reducible refine Below.setCell ?_ ?_ _)
      all_goals first | exact hbb | (dsimp only; omega)
end Go.Proofs.Ytgkkkldajangeaa
