/-
  Trail, of the program.
-/
import Derived.Test.YtgkkkldajangeaaProg
import Derived.KernelRfl
import Derived.Test.YtgkkkldajangeaaHsIter
import Derived.Test.YtgkkkldajangeaaHsNum
import Derived.Maps.AppendAt
namespace Go.Proofs.Ytgkkkldajangeaa
open Go.RowKit Go.Shelf
open Bt (Rc)
attribute [local go_sem] Oper.semAt_some

theorem info_num : (Try.prog.info? 2).map (fun i => (i.zero, i.size, i.bytes)) = some (some (.int .i64 0), 1, 8) := by kernel_rfl
theorem IsBlk.kept {W W' : World} {row : Option Nat} {g : Nat} {e : TypeId} {cs : List Value} (h : IsBlk W g e cs) (hg : W.grownBy W' row) (hr : ∀ r, row = some r → ∃ o : Obj, W.heap[r]? = some o ∧ o.isCells = false) : IsBlk W' g e cs :=
  (hg.block g h.lt (fun e => by obtain ⟨o, ho, hc⟩ := hr g e.symm; unfold IsBlk at h; rw [h] at ho; cases ho; cases hc)).trans h
/-- a collected element, appended to the row whose slice lies in box B, and stored there -/
theorem coll_step {W w1 : World} {n₀ base B bs : Nat} {t e : TypeId} {v v' : Value} {k m : Nat} {xs ys : List Value} {tmp : Obj} (hv : Boxed W B t v) (hrow : W.ownsRow base e 1 v k xs) (hB : B < base) (hbs : bs < base) (hne : bs ≠ B) (hn₀ : n₀ ≤ B) (hbase : base ≤ W.heap.size)
    (hg : (W.alloc tmp).grownBy w1 v.ownBlock) (hown : w1.ownsRow base e 1 v' m ys) :
    Boxed w1 B t v ∧ Boxed (w1.setCell ⟨B, 0, none⟩ v') B t v' ∧ (w1.setCell ⟨B, 0, none⟩ v').ownsRow base e 1 v' m ys ∧ KeepsOthers W (w1.setCell ⟨B, 0, none⟩ v') ∧ KpB n₀ bs W (w1.setCell ⟨B, 0, none⟩ v') ∧ w1.heap.size ≤ (w1.setCell ⟨B, 0, none⟩ v').heap.size := by
  have hrow' := hrow.alloc tmp
  have hlt : ∀ q, v.ownBlock = some q → base ≤ q := fun q hq => (own_block_ltR hrow hq).1
  have hb1 : Below base W w1 := ((Below.refl _ W).alloc hbase tmp).grown hg (by simp; omega) hlt
  have b1 : Boxed w1 B t v := (hb1.block B hB).trans hv
  refine ⟨b1, b1.set v', own_otherR hown hB _, ?_, ⟨(hb1.mono (by omega)).setCell (p := ⟨B, 0, none⟩) hn₀ _, ?_⟩, by simp [World.setCell]⟩
  · refine ((KeepsOthers.alloc W tmp).trans (KeepsOthers.of_grownBy hg fun j o hj ho => ?_)).trans (KeepsOthers.setCell _ _ _)
    rcases hrow'.2 with ⟨rfl, -⟩ | ⟨g, cap, cur, rfl, -, hh, -⟩
    · cases hj
    · have : g = j := by simpa [Value.ownBlock] using hj
      subst this
      rw [hh] at ho; cases ho; rfl
  · rw [Below.heap_setCell _ _ _ _ (by dsimp only; omega)]
    exact hb1.block bs hbs

set_option maxRecDepth 100000 in
set_option maxHeartbeats 4000000 in
theorem impl_trail (A : Option Addr) (n ca : Nat) (X : List Rc) (s a : Int) (w : World) (hS : SmallR X) (hca : n ≤ ca) (hA : RdRc w w.heap.size A n X) :
    Calls Try.prog 17 #[.agg #[.slice A n ca], .int .i64 s, .int .i64 a] w (RetNs w (trailOf X s a)) := by
  have hn : n ≤ 1048576 := by rw [← hA.1]; exact hS.1
  have HL := Lib.hid hA.1
  have HA := Lib.hid hA; have HS := Lib.hid hS; clear hA hS
  obtain ⟨i0, hi, hz0, hz1, hz2⟩ := info_parts info_num
  have Hi := Lib.hid hi; have Z0 := Lib.hid hz0; have Z1 := Lib.hid hz1; have Z2 := Lib.hid hz2
  clear hi hz0 hz1 hz2
  refine (callsIn_wide (n := 3)).1 ?_
  refine callsIn_of_wp_marks Try.func17 rfl trivial ?_ rfl
  simp only [Try.ntmps17, List.size_toArray, List.length_cons, List.length_nil, Nat.reduceAdd, Nat.reduceSub, Array.replicate_succ, Array.replicate_zero, List.push_toArray, List.append_toArray, List.nil_append, List.cons_append]
  gi_wp2_with fail
  have hb0 : Below w.heap.size w (w.alloc (.cells #[.slice A n ca] 25)) := (Below.refl _ _).alloc (Nat.le_refl _) _
  have k0 := isBlk_new w 25 [.slice A n ca]
  change IsBlk (w.alloc (.cells #[.slice A n ca] 25)) _ _ _ at k0
  generalize w.alloc (.cells #[.slice A n ca] 25) = W at hb0 k0 ⊢
  refine ⟨trivial, ?_⟩
  refine (callsIn_wide.2 (impl_histRight_any A n ca X W HS.out (HA.out.next hb0))).mono ?_
  rintro e w1 ⟨rfl, hb1⟩
  have HB1 := Lib.hid (hb0.trans (hb1.mono hb0.size))
  have kx := k0.below hb1 k0.lt
  have hx : w1.cell? ⟨w.heap.size, 0, none⟩ = some (.slice A n ca) := kx.cell rfl
  have hlt0 : w.heap.size < w1.heap.size := kx.lt
  have HRD1 := Lib.hid (HA.out.next HB1.out)
  clear hb0 hb1 k0 kx
  by_cases hr : hRight X = true
  case neg =>
    have HT : Hid (trailOf X s a = []) := by show _ = _; unfold trailOf; rw [if_neg (fun h => hr h.1)]
    have hr : hRight X = false := by simpa using hr
    rw [hr]
    clear hr
    gi_wp2
    refine ⟨trivial, ?_⟩
    gi_wp2
    refine ⟨_, results_tmp rfl _ _ _, ?_⟩
    rw [HT.out]
    exact ⟨none, 0, rfl, owNs_nil _ _ _ _, HB1.out⟩
  rw [hr]
  gi_wp2_with fail
  refine ⟨trivial, ?_⟩
  refine (callsIn_wide.2 (isSector_any s w1)).mono ?_
  rintro e w2 ⟨rfl, rfl⟩
  by_cases hs : 0 ≤ s ∧ s ≤ 5
  case neg =>
    rw [rcIs_no hs]
    have HT : Hid (trailOf X s a = []) := by show _ = _; unfold trailOf; rw [if_neg (fun h => hs h.2)]
    clear hs hr
    gi_wp2
    refine ⟨_, results_tmp rfl _ _ _, ?_⟩
    rw [HT.out]
    exact ⟨none, 0, rfl, owNs_nil _ _ _ _, HB1.out⟩
  rw [rcIs_yes hs]
  have HT : Hid (trailOf X s a = (trlR X s n a).map (·.q)) := by show _ = _; unfold trailOf; rw [if_pos ⟨hr, hs⟩, HL.out]
  clear hr hs
  gi_wp2_with fail
  refine ⟨trivial, ?_⟩
  have bO := Boxed.new w1 40 (.slice none 0 0)
  have hbO : Below w1.heap.size w1 (w1.alloc (.cells #[.slice none 0 0] 40)) := (Below.refl _ _).alloc (Nat.le_refl _) _
  have hsO : (w1.alloc (.cells #[.slice none 0 0] 40)).heap.size = w1.heap.size + 1 := by simp
  generalize w1.alloc (.cells #[.slice none 0 0] 40) = wO at bO hbO hsO ⊢
  refine (callsIn_wide.2 (trailOf_any A n ca s a wO)).mono ?_
  rintro e w3 ⟨rfl, rfl⟩
  have b0 := ((Boxed.new wO 23 (.slice A n ca)).alloc (.cells #[.int .i64 s] 2)).alloc (.cells #[.int .i64 a] 2)
  have b1 := (Boxed.new (wO.alloc (.cells #[.slice A n ca] 23)) 2 (.int .i64 s)).alloc (.cells #[.int .i64 a] 2)
  have b2 := Boxed.new ((wO.alloc (.cells #[.slice A n ca] 23)).alloc (.cells #[.int .i64 s] 2)) 2 (.int .i64 a)
  have bO3 := ((bO.alloc (.cells #[.slice A n ca] 23)).alloc (.cells #[.int .i64 s] 2)).alloc (.cells #[.int .i64 a] 2)
  have hb3 : Below wO.heap.size wO (((wO.alloc (.cells #[.slice A n ca] 23)).alloc (.cells #[.int .i64 s] 2)).alloc (.cells #[.int .i64 a] 2)) := (((Below.refl _ _).alloc (Nat.le_refl _) _).alloc (by simp) _).alloc (by simp; omega) _
  have hs3 : (((wO.alloc (.cells #[.slice A n ca] 23)).alloc (.cells #[.int .i64 s] 2)).alloc (.cells #[.int .i64 a] 2)).heap.size = wO.heap.size + 3 := by simp
  simp only [World.size_alloc] at b1 b2
  generalize ((wO.alloc (.cells #[.slice A n ca] 23)).alloc (.cells #[.int .i64 s] 2)).alloc (.cells #[.int .i64 a] 2) = W0 at b0 b1 b2 bO3 hb3 hs3 ⊢
  have hB10 : Below w1.heap.size w1 W0 := hbO.trans (hb3.mono hbO.size)
  rw [hsO] at b0 b1 b2
  have hsz1 : w1.heap.size + 4 ≤ W0.heap.size := by omega
  clear hs3 hbO hb3 bO
  have hR0 := HRD1.out.below hB10
  gi_wp2
  clear hsO
  refine wpIn_rangeFunc_ownH rfl (by omega) (gf := 80) (lb := #[.pointer (some ⟨w1.heap.size + 1, 0, none⟩), .pointer (some ⟨w1.heap.size + 1 + 1 + 1, 0, none⟩), .pointer (some ⟨w1.heap.size + 1 + 1, 0, none⟩)]) rfl trivial (enters_of Try.func80 (by kernel_rfl) rfl)
    (trail_stops _ (by omega) (w1.heap.size + 1) (w1.heap.size + 1 + 1 + 1) (w1.heap.size + 1 + 1) w1.heap.size A n ca X s a W0 hn hca (by omega) (by omega) (by omega) b0.cell b2.cell b1 hR0) KpB.t (KpB.b (by omega) (by omega)) (Below.refl _ _) (fun _ => rfl)
    (fun pre W => (∃ v, Boxed W w1.heap.size 40 v ∧ W.ownsRow W0.heap.size 2 1 v pre.length ((pre.map (·.q)).map numV) ∧ True) ∧ (Below w1.heap.size w1 W ∧ W0.heap.size ≤ W.heap.size))
    (fun _ _ _ => False)
    (OwnFrom.and (Own.from (holdsRow_own W0.heap.size w1.heap.size 40 2 1 (fun pre : List Rc => pre.length) (fun pre => (pre.map (·.q)).map numV) (fun _ _ => True)) _) (OwnFrom.and (ownFrom_below (Nat.le_refl _) (by omega)) (fun _ _ _ _ hs hg _ => Nat.le_trans hs hg.size)))
    (fun _ _ _ _ _ hs _ _ => hs)
    ⟨⟨_, bO3, World.ownsRow_nil _ _ _ _, trivial⟩, hB10, Nat.le_refl _⟩
    (fun x a' W => ∃ Bx, W0.heap.size ≤ Bx ∧ IsBlk W Bx 27 (recC x) ∧ a' = { tmps := #[.agg #[.slice A n ca], .int .i64 s, .int .i64 a, .pointer (some ⟨w.heap.size, 0, none⟩), undef, undef, .slice none 0 0, .pointer (some ⟨w1.heap.size, 0, none⟩), .pointer (some ⟨Bx, 0, none⟩), .agg #[.slice A n ca], .bool true, .bool false, .bool false, .int .i64 s, .bool true, .bool false, .bool false, .pointer (some ⟨w.heap.size, 0, none⟩), .slice A n ca, .int .i64 s, .int .i64 a, .func (.func 80) #[] #[.pointer (some ⟨w1.heap.size + 1, 0, none⟩), .pointer (some ⟨w1.heap.size + 1 + 1 + 1, 0, none⟩), .pointer (some ⟨w1.heap.size + 1 + 1, 0, none⟩)], recV x, undef, undef, undef, undef, undef, undef], defers := [] })
    (fun x a' _ X' Y row hs hg hr => by obtain ⟨Bx, h1, h2, h3⟩ := hs; exact ⟨Bx, h1, h2.kept hg (fun r e => (hr r e).2), h3⟩)
    ?assign ?body ?done ?stop
  case assign =>
    rintro l pre x W K ⟨⟨v, hv, hrow, -⟩, hB, hz⟩ hK
    gi_wp2
    exact hK _ _ ((KeepsOthers.alloc _ _).from _) ⟨(Below.refl _ W).alloc hB.size _, Below.heap_alloc _ _ _ (by omega)⟩ ⟨⟨v, hv.alloc _, hrow.alloc _, trivial⟩, hB.alloc hB.size _, by simp; omega⟩ ⟨W.heap.size, hz, isBlk_new W 27 (recC x), rfl⟩
  case body =>
    rintro l pre x a' W hl ⟨r, hr⟩ ⟨⟨v, hv, hrow, -⟩, hB, -⟩ ⟨Bx, hBx, kX, rfl⟩ hlt
    have hc := hv.cell
    obtain ⟨x0, x1, x2, x3, x4, x5⟩ := rcCells kX
    have hzz : W0.heap.size ≤ W.heap.size := Nat.le_trans hBx (Nat.le_of_lt kX.lt)
    gi_wp2_with (gi_at_builtin; refine wpListIn_append_own _ rfl _ _ 40 rfl W0.heap.size 2 i0 (.int .i64 0) 1 8 Try.underlying40 Hi.out Z0.out Z1.out Z2.out rfl (by decide) _ _ _ rfl (hrow.alloc _) ⟨W.heap.size, 0, none⟩ 1 1 [.int .i64 x.q] rfl rfl (cell_one_new _ _ _) (by simp [Value.oneCell']) (by unfold maxLen; omega) (by omega) (by simp; omega) ?_; intro v' w1' hown' hgrow _; obtain ⟨g', cap', rfl⟩ := ownsRow_succ hown'; obtain ⟨c1, c2, c3, c4, c5, c6⟩ := coll_step (n₀ := w1.heap.size) (bs := w1.heap.size + 1 + 1) hv hrow (by omega) (by omega) (by omega) (Nat.le_refl _) hzz hgrow hown'; have hc1 := c1.cell; have hf1 := c1.frozen)
    exact ⟨c4.from _, c5, ⟨_, c2, by simpa using c3, trivial⟩, hB.trans c5.1, Nat.le_trans hzz c5.1.size⟩
  case done =>
    rintro D ys W hD rfl ⟨⟨v, hv, hrow, -⟩, hB, -⟩ hK
    obtain ⟨Av, cv, rfl⟩ := own_slice hrow
    have hc := hv.cell
    gi_wp2
    refine ⟨by simp, .inl ⟨_, _, rfl, run_takeDeferred hK, ?_⟩⟩
    refine ⟨_, results_tmp rfl _ _ _, ?_⟩
    rw [HT.out]
    have hrow' := ownsRow_putObj hrow (.deferred none) hK rfl
    have hl : ((trlR X s n a).map (·.q)).length = (trlR X s n a).length := List.length_map _
    rw [← hl] at hrow'
    refine ⟨Av, cv, by rw [hl]; rfl, (owNs_of_own hrow').mono (by have := HB1.out.size; omega) (Nat.le_refl _), ?_⟩
    exact HB1.out.trans ((hB.trans (belowK_b (w := w1) (Nat.le_refl _) W D _ _ (by omega) hK rfl rfl)).mono HB1.out.size)
  case stop =>
    rintro D c pre W _ _ h _
    exact h.elim
end Go.Proofs.Ytgkkkldajangeaa
