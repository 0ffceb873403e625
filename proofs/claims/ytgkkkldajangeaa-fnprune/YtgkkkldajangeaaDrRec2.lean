/-
  A drawn record: some record whose text is short.
-/
import Derived.Test.YtgkkkldajangeaaDrPick
namespace Go.Proofs.Ytgkkkldajangeaa
open Go.RowKit
open Bt (Rc)

/-- while a record is drawn: the source, the answer's block, the record's block -/
structure DSt (w wx : World) (s : Nat) (r : Rc) : Prop where
  src : Src wx s
  btw : Btw s (s + 1) w wx
  out : IsBlk wx w.heap.size 27 (recC Rc.zero)
  blk : IsBlk wx (w.heap.size + 1) 27 (recC r)
  small : r.d.size ≤ 17
section
variable {w wx w' : World} {s : Nat} {r : Rc}
theorem DSt.draw (h : DSt w wx s r) (hs : s < w.heap.size) (hS : Src w' s) (hb : Btw s (s + 1) wx w') : DSt w w' s r :=
  ⟨hS, h.btw.trans hb, (hb.block _ h.out.lt (by omega)).trans h.out, (hb.block _ h.blk.lt (by omega)).trans h.blk, h.small⟩
theorem DSt.alloc (h : DSt w wx s r) (o : Obj) : DSt w (wx.alloc o) s r :=
  ⟨h.src.same fun k hk => Below.heap_alloc _ _ _ (by have := h.src.lt; omega), h.btw.alloc _, h.out.alloc _, h.blk.alloc _, h.small⟩
theorem DSt.set (h : DSt w wx s r) (hs : s < w.heap.size) (j : Nat) (v : Value) (r' : Rc) (he : (recC r).set j v = recC r') (hd : r'.d.size ≤ 17) : DSt w (wx.setCell ⟨w.heap.size + 1, j, none⟩ v) s r' :=
  ⟨h.src.same fun k hk => Below.heap_setCell _ _ _ _ (by dsimp only; omega), h.btw.setCell (.inr (by dsimp only; omega)) _, h.out.other (by dsimp only; omega) _, by rw [← he]; exact h.blk.set v, hd⟩
end
def RetRec (w : World) (s : Nat) (e : Ending) (w' : World) : Prop := ∃ r : Rc, e = .returned (recV r) ∧ r.d.size ≤ 17 ∧ Src w' s ∧ Btw s (s + 1) w w'

set_option maxHeartbeats 8000000 in
set_option maxRecDepth 100000 in
theorem draw_rec (s : Nat) (seq time : Int) (w : World) (ht : time ≤ 1048576) (ht0 : -1048576 ≤ time) (hS : Src w s) :
    Calls Try.prog 47 #[.pointer (some ⟨s, 0, none⟩), .int .i64 seq, .int .i64 time] w (RetRec w s) := by
  have hsl := hS.lt
  have hR0 : DSt w ((w.alloc (.cells (recC Rc.zero).toArray 27)).alloc (.cells (recC ⟨1, 0, seq, time, 0, ⟨#[]⟩⟩).toArray 27)) s ⟨1, 0, seq, time, 0, ⟨#[]⟩⟩ := by
    have k1 := isBlk_new (w.alloc (.cells (recC Rc.zero).toArray 27)) 27 (recC ⟨1, 0, seq, time, 0, ⟨#[]⟩⟩)
    rw [size_alloc] at k1
    exact ⟨hS.same fun k hk => by rw [Below.heap_alloc _ _ _ (by simp; omega), Below.heap_alloc _ _ _ (by omega)], ((Btw.refl _ _ _).alloc _).alloc _, (isBlk_new w 27 (recC Rc.zero)).alloc _, k1, Nat.zero_le 17⟩
  have HR0 := Lib.hid hR0
  clear hR0 hS
  have htw : IntKind.i64.wrap (time + 1) = time + 1 := IntWalk.i64_in _ (by omega)
  go_enter Try.func47, Try.ntmps47
  go_wp2_with fail
  change Calls _ _ _ ((w.alloc (.cells (recC Rc.zero).toArray 27)).alloc (.cells (recC ⟨1, 0, seq, time, 0, ⟨#[]⟩⟩).toArray 27)) _
  generalize (w.alloc (.cells (recC Rc.zero).toArray 27)).alloc (.cells (recC ⟨1, 0, seq, time, 0, ⟨#[]⟩⟩).toArray 27) = W at HR0 ⊢
  refine (draw_n s 8 W (by omega) HR0.out.src).mono ?_
  rintro e w1 ⟨q, rfl, hq, hS1, hb1⟩
  have hq := hq (by omega)
  have HR1 := Lib.hid (HR0.out.draw hsl hS1 hb1)
  clear hS1 hb1 HR0
  have htl : time + 1 ≤ 1048577 := by omega
  go_upto_block 0 with fail
  go_cut [] (fun wx => ∃ r, DSt w wx s r)
  case first =>
    obtain ⟨x0, x1, x2, x3, x4, x5⟩ := rcCells HR1.out.blk
    have f0 : w1.frozen? ⟨w.heap.size + 1, 0, none⟩ = false := HR1.out.blk.free
    have f5 : w1.frozen? ⟨w.heap.size + 1, 5, none⟩ = false := HR1.out.blk.free
    by_cases h0 : q = 0
    · subst h0
      go_wp2_with fail
      go_meet
      exact ⟨_, HR1.out.set hsl 0 (.int .i64 2) ⟨2, 0, seq, time, 0, ⟨#[]⟩⟩ rfl (Nat.zero_le 17)⟩
    by_cases h1 : q = 1
    · subst h1
      have HR2 := Lib.hid (HR1.out.set hsl 0 (.int .i64 3) ⟨3, 0, seq, time, 0, ⟨#[]⟩⟩ rfl (Nat.zero_le 17))
      go_wp2_with fail
      refine (draw_n s (time + 1) _ (by omega) HR2.out.src).mono ?_
      rintro e w2 ⟨z, rfl, -, hS2, hb2⟩
      have HR3 := Lib.hid (HR2.out.draw hsl hS2 hb2)
      clear hS2 hb2 x0 x1 x2 x3 x4 x5 f0 f5
      obtain ⟨x0, x1, x2, x3, x4, x5⟩ := rcCells HR3.out.blk
      have f4 : w2.frozen? ⟨w.heap.size + 1, 4, none⟩ = false := HR3.out.blk.free
      go_wp2_with fail
      go_meet
      exact ⟨_, HR3.out.set hsl 4 (.int .i64 (z : Int)) ⟨3, 0, seq, time, z, ⟨#[]⟩⟩ rfl (Nat.zero_le 17)⟩
    by_cases h2 : q = 2
    · subst h2
      have HR2 := Lib.hid (HR1.out.set hsl 0 (.int .i64 4) ⟨4, 0, seq, time, 0, ⟨#[]⟩⟩ rfl (Nat.zero_le 17))
      go_wp2_with fail
      refine (draw_n s (time + 1) _ (by omega) HR2.out.src).mono ?_
      rintro e w2 ⟨z, rfl, -, hS2, hb2⟩
      have HR3 := Lib.hid (HR2.out.draw hsl hS2 hb2)
      clear hS2 hb2 x0 x1 x2 x3 x4 x5 f0 f5
      obtain ⟨x0, x1, x2, x3, x4, x5⟩ := rcCells HR3.out.blk
      have f4 : w2.frozen? ⟨w.heap.size + 1, 4, none⟩ = false := HR3.out.blk.free
      go_wp2_with fail
      go_meet
      exact ⟨_, HR3.out.set hsl 4 (.int .i64 (z : Int)) ⟨4, 0, seq, time, z, ⟨#[]⟩⟩ rfl (Nat.zero_le 17)⟩
    have e0 : ((q : Int) == 0) = false := beq_eq_false_iff_ne.2 (by omega)
    have e1 : ((q : Int) == 1) = false := beq_eq_false_iff_ne.2 (by omega)
    have e2 : ((q : Int) == 2) = false := beq_eq_false_iff_ne.2 (by omega)
    have d0 : decide (q = 0) = false := decide_eq_false h0
    have d1 : decide (q = 1) = false := decide_eq_false h1
    have d2 : decide (q = 2) = false := decide_eq_false h2
    clear h0 h1 h2
    have HR2 := Lib.hid (HR1.out.alloc (.cells #[.string ⟨#[]⟩, .string ⟨#[97]⟩, .string ⟨#[98, 98]⟩, .string ⟨#[104, 101, 108, 108, 111]⟩] 9))
    have hsw : s ≠ w1.heap.size := by have := HR1.out.blk.lt; omega
    go_wp2_with fail
    refine (draw_pick s w1.heap.size ⟨#[]⟩ ⟨#[97]⟩ ⟨#[98, 98]⟩ ⟨#[104, 101, 108, 108, 111]⟩ _ HR2.out.src hsw (isBlk_new w1 9 [.string ⟨#[]⟩, .string ⟨#[97]⟩, .string ⟨#[98, 98]⟩, .string ⟨#[104, 101, 108, 108, 111]⟩]) (by decide) (by decide) (by decide) (by decide)).mono ?_
    rintro e w2 ⟨t, rfl, ht5, hS2, hb2⟩
    have HR3 := Lib.hid (HR2.out.draw hsl hS2 hb2)
    clear hS2 hb2 x0 x1 x2 x3 x4 x5 f0 f5
    obtain ⟨x0, x1, x2, x3, x4, x5⟩ := rcCells HR3.out.blk
    have f5 : w2.frozen? ⟨w.heap.size + 1, 5, none⟩ = false := HR3.out.blk.free
    go_wp2_with fail
    go_meet
    exact ⟨_, HR3.out.set hsl 5 (.string t) ⟨1, 0, seq, time, 0, t⟩ rfl (by dsimp only; omega)⟩
  case rest =>
    obtain ⟨r, hR⟩ := hcut
    have HR := Lib.hid hR
    clear hR HR1
    obtain ⟨x0, x1, x2, x3, x4, x5⟩ := rcCells HR.out.blk
    go_upto_if 38 with fail
    go_cut [] (fun wx => ∃ r, DSt w wx s r)
    case first =>
      by_cases hk : r.k ≤ 2
      · go_wp2_with fail
        refine (draw_n s 3 _ (by omega) HR.out.src).mono ?_
        rintro e w2 ⟨z, rfl, -, hS2, hb2⟩
        have HR3 := Lib.hid (HR.out.draw hsl hS2 hb2)
        clear hS2 hb2 x0 x1 x2 x3 x4 x5
        obtain ⟨x0, x1, x2, x3, x4, x5⟩ := rcCells HR3.out.blk
        have f1 : w2.frozen? ⟨w.heap.size + 1, 1, none⟩ = false := HR3.out.blk.free
        go_wp2_with fail
        go_meet
        exact ⟨_, HR3.out.set hsl 1 (.int .i64 (z : Int)) ⟨r.k, z, r.q, r.t, r.o, r.d⟩ rfl HR3.out.small⟩
      · have hk' : 2 < r.k := by omega
        go_wp2_with fail
        go_meet
        exact ⟨_, HR.out⟩
    case rest =>
      obtain ⟨r, hR⟩ := hcut
      clear HR x0 x1 x2 x3 x4 x5
      have HR := Lib.hid hR
      clear hR
      go_wp2_with fail
      refine (draw_one s 20 _ (by omega) HR.out.src).mono ?_
      rintro e w2 ⟨b, rfl, hS2, hb2⟩
      have HR2 := Lib.hid (HR.out.draw hsl hS2 hb2)
      clear hS2 hb2 HR
      go_upto_if 43 with fail
      go_cut [] (fun wx => ∃ r, DSt w wx s r)
      case first =>
        cases b
        · go_wp2_with fail
          go_meet
          exact ⟨_, HR2.out⟩
        · go_wp2_with fail
          refine (draw_n s 5 _ (by omega) HR2.out.src).mono ?_
          rintro e w3 ⟨p, rfl, hp, hS3, hb3⟩
          have hp := hp (by omega)
          have HR3 := Lib.hid (HR2.out.draw hsl hS3 hb3)
          clear hS3 hb3 HR2
          by_cases h0 : p = 0
          · subst h0
            go_wp2_with fail
            refine (draw_n s 6 _ (by omega) HR3.out.src).mono ?_
            rintro e w4 ⟨z, rfl, -, hS4, hb4⟩
            have HR4 := Lib.hid (HR3.out.draw hsl hS4 hb4)
            clear hS4 hb4
            obtain ⟨x0, x1, x2, x3, x4, x5⟩ := rcCells HR4.out.blk
            have f0 : w4.frozen? ⟨w.heap.size + 1, 0, none⟩ = false := HR4.out.blk.free
            go_wp2_with fail
            go_meet
            exact ⟨_, HR4.out.set hsl 0 (.int .i64 (z : Int)) ⟨z, r.s, r.q, r.t, r.o, r.d⟩ rfl HR4.out.small⟩
          by_cases h1 : p = 1
          · subst h1
            have HR3a := Lib.hid (HR3.out.alloc (.cells #[.int .i64 (-1), .int .i64 5, .int .i64 6] 2))
            have ka := isBlk_new w3 2 [.int .i64 (-1), .int .i64 5, .int .i64 6]
            have HKA := Lib.hid ka; clear ka
            have hsw : s < w3.heap.size := HR3.out.src.lt
            go_wp2_with fail
            refine (draw_n s 3 _ (by omega) HR3a.out.src).mono ?_
            rintro e w4 ⟨z, rfl, hz, hS4, hb4⟩
            have hz := hz (by omega)
            have HR4 := Lib.hid (HR3a.out.draw hsl hS4 hb4)
            have k4 : IsBlk w4 w3.heap.size 2 [.int .i64 (-1), .int .i64 5, .int .i64 6] := (hb4.block _ HKA.out.lt (by omega)).trans HKA.out
            obtain ⟨y, hy⟩ : ∃ y : Int, [Value.int .i64 (-1), .int .i64 5, .int .i64 6][z]? = some (.int .i64 y) := by
              have hz' : z = 0 ∨ z = 1 ∨ z = 2 := by omega
              rcases hz' with rfl | rfl | rfl
              · exact ⟨-1, rfl⟩
              · exact ⟨5, rfl⟩
              · exact ⟨6, rfl⟩
            have c4 : w4.cell? ⟨w3.heap.size, z, none⟩ = some (.int .i64 y) := k4.cell hy
            have hzI : (z : Int) < 3 := by omega
            have hzI0 : (0 : Int) ≤ (z : Int) := by omega
            clear hS4 hb4 k4 hy
            obtain ⟨x0, x1, x2, x3, x4, x5⟩ := rcCells HR4.out.blk
            have f1 : w4.frozen? ⟨w.heap.size + 1, 1, none⟩ = false := HR4.out.blk.free
            go_wp2_with fail
            go_meet
            exact ⟨_, HR4.out.set hsl 1 (.int .i64 y) ⟨r.k, y, r.q, r.t, r.o, r.d⟩ rfl HR4.out.small⟩
          by_cases h2 : p = 2
          · subst h2
            obtain ⟨x0, x1, x2, x3, x4, x5⟩ := rcCells HR3.out.blk
            have f4 : w3.frozen? ⟨w.heap.size + 1, 4, none⟩ = false := HR3.out.blk.free
            go_wp2_with fail
            go_meet
            exact ⟨_, HR3.out.set hsl 4 (.int .i64 (time + 1)) ⟨r.k, r.s, r.q, r.t, time + 1, r.d⟩ rfl HR3.out.small⟩
          by_cases h3 : p = 3
          · subst h3
            go_wp2_with fail
            refine (draw_n s 3 _ (by omega) HR3.out.src).mono ?_
            rintro e w4 ⟨z, rfl, hz, hS4, hb4⟩
            have hz := hz (by omega)
            have HR4 := Lib.hid (HR3.out.draw hsl hS4 hb4)
            clear hS4 hb4
            have hmk := make_zeros (15 + z) (15 + (z : Int)) (by omega) (by omega) w4
            have hcv := conv_zeros (15 + z) w4
            have HZ : Hid ((zerosT (15 + z)).size ≤ 17) := by show _ ≤ _; rw [show (zerosT (15 + z)).size = 15 + z by simp [zerosT, ByteArray.size]]; omega
            have HR5 := Lib.hid (HR4.out.alloc (.cells (madeCells #[.int .u8 0] (15 + z)) 5))
            generalize zerosT (15 + z) = zt at hcv HZ
            obtain ⟨x0, x1, x2, x3, x4, x5⟩ := rcCells HR5.out.blk
            have f5 : (w4.alloc (.cells (madeCells #[.int .u8 0] (15 + z)) 5)).frozen? ⟨w.heap.size + 1, 5, none⟩ = false := HR5.out.blk.free
            go_wp2_with fail
            go_meet
            exact ⟨_, HR5.out.set hsl 5 (.string zt) ⟨r.k, r.s, r.q, r.t, r.o, zt⟩ rfl HZ.out⟩
          have e0 : ((p : Int) == 0) = false := beq_eq_false_iff_ne.2 (by omega)
          have e1 : ((p : Int) == 1) = false := beq_eq_false_iff_ne.2 (by omega)
          have e2 : ((p : Int) == 2) = false := beq_eq_false_iff_ne.2 (by omega)
          have e3 : ((p : Int) == 3) = false := beq_eq_false_iff_ne.2 (by omega)
          have d0 : decide (p = 0) = false := decide_eq_false h0
          have d1 : decide (p = 1) = false := decide_eq_false h1
          have d2 : decide (p = 2) = false := decide_eq_false h2
          have d3 : decide (p = 3) = false := decide_eq_false h3
          clear h0 h1 h2 h3
          go_wp2_with fail
          refine (draw_edge s _ HR3.out.src).mono ?_
          rintro e w4 ⟨z, rfl, -, -, hS4, hb4⟩
          have HR4 := Lib.hid (HR3.out.draw hsl hS4 hb4)
          clear hS4 hb4
          obtain ⟨x0, x1, x2, x3, x4, x5⟩ := rcCells HR4.out.blk
          have f2 : w4.frozen? ⟨w.heap.size + 1, 2, none⟩ = false := HR4.out.blk.free
          go_wp2_with fail
          go_meet
          exact ⟨_, HR4.out.set hsl 2 (.int .i64 z) ⟨r.k, r.s, z, r.t, r.o, r.d⟩ rfl HR4.out.small⟩
      case rest =>
        obtain ⟨r', hR'⟩ := hcut
        have HRF := Lib.hid hR'
        clear hR' HR2
        obtain ⟨x0, x1, x2, x3, x4, x5⟩ := rcCells HRF.out.blk
        obtain ⟨y0, y1, y2, y3, y4, y5⟩ := rcCells HRF.out.out
        have f0 : wc.frozen? ⟨w.heap.size, 0, none⟩ = false := HRF.out.out.free
        have f1 : wc.frozen? ⟨w.heap.size, 1, none⟩ = false := HRF.out.out.free
        have f2 : wc.frozen? ⟨w.heap.size, 2, none⟩ = false := HRF.out.out.free
        have f3 : wc.frozen? ⟨w.heap.size, 3, none⟩ = false := HRF.out.out.free
        have f4 : wc.frozen? ⟨w.heap.size, 4, none⟩ = false := HRF.out.out.free
        have f5 : wc.frozen? ⟨w.heap.size, 5, none⟩ = false := HRF.out.out.free
        go_wp2
        refine bodyPost_ret (v := recV r') (by simp [results, Try.results47, go_sem, y0, y1, y2, y3, y4, y5]) rfl ?_
        refine ⟨r', rfl, HRF.out.small, HRF.out.src.same fun k hk => ?_, ?_⟩
        · rw [Below.heap_setCell _ _ _ _ (by dsimp only; omega), Below.heap_setCell _ _ _ _ (by dsimp only; omega), Below.heap_setCell _ _ _ _ (by dsimp only; omega), Below.heap_setCell _ _ _ _ (by dsimp only; omega), Below.heap_setCell _ _ _ _ (by dsimp only; omega), Below.heap_setCell _ _ _ _ (by dsimp only; omega)]
        · exact (((((HRF.out.btw.setCell (.inr (Nat.le_refl _)) _).setCell (.inr (Nat.le_refl _)) _).setCell (.inr (Nat.le_refl _)) _).setCell (.inr (Nat.le_refl _)) _).setCell (.inr (Nat.le_refl _)) _).setCell (.inr (Nat.le_refl _)) _
end Go.Proofs.Ytgkkkldajangeaa
