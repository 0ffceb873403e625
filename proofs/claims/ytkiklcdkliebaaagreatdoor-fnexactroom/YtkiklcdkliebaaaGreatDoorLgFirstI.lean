/-
  firstRecs, of the program, over what the sort does.
-/
import Derived.Test.YtkiklcdkliebaaaGreatDoorChecked
import Derived.Test.YtkiklcdkliebaaaGreatDoorLgFirst
import Derived.Test.YtkiklcdkliebaaaGreatDoorHsApp
import Derived.Maps.OwnSet
namespace Go.Proofs.YtkiklcdkliebaaaGreatDoor
open Go.RowKit Go.Shelf Go.ChangeShapes
open Bt (Rc)
attribute [local go_sem] Oper.semAt_some

/-- what slices.SortFunc does to a row of records that the call owns -/
def SortC : Prop := ∀ (base : Nat) (Y : List Rc) (v : Value) (W : World), Y.length ≤ 48 → W.ownsRow base 71 6 v Y.length (rcA Y) →
  Calls Tryz.prog 98 #[v, .func (.func 99) #[] #[]] W fun e W' => e = .returned (.tuple #[]) ∧
    ∃ Y' : List Rc, Y'.Perm Y ∧ Y'.Pairwise (fun a b => a.q ≤ b.q) ∧ W'.ownsRow base 71 6 v Y.length (rcA Y') ∧ W.grownBy W' v.ownBlock
/-- an answer with records, in memory of its own -/
def RetRs (w : World) (Y : List Rc) (e : Ending) (w' : World) : Prop :=
  ∃ (A : Option Addr) (ca : Nat), e = .returned (.slice A Y.length ca) ∧ Y.length ≤ ca ∧ OwRc w' w.heap.size w'.heap.size A Y.length Y ∧ Below w.heap.size w w'
theorem cap_of_own {w : World} {lo k n cap : Nat} {e : TypeId} {A : Option Addr} {xs : List Value} (h : w.ownsRow lo e k (.slice A n cap) n xs) : n ≤ cap := by
  rcases h.2 with ⟨h1, h2⟩ | ⟨g, c, cur, h1, -, -, h4, -⟩
  · simp at h1; omega
  · simp only [Value.slice.injEq] at h1; omega
theorem info_rec : (Tryz.prog.info? 71).map (fun i => (i.zero, i.size, i.bytes)) = some (some (recV Rc.zero), 6, 56) := by kernel_rfl

/-- a record, appended to the row whose slice lies in box B, and stored there -/
theorem coll6 {W w1 : World} {n₀ base B : Nat} {v v' : Value} {k m : Nat} {xs ys : List Value} {tmp : Obj} (hv : Boxed W B 26 v) (hrow : W.ownsRow base 71 6 v k xs) (hB : B < base) (hn₀ : n₀ ≤ B) (hbase : base ≤ W.heap.size)
    (hg : (W.alloc tmp).grownBy w1 v.ownBlock) (hown : w1.ownsRow base 71 6 v' m ys) :
    (∀ j, j < W.heap.size → v.ownBlock ≠ some j → w1.heap[j]? = W.heap[j]?) ∧ (∀ j, j < W.heap.size → v.ownBlock ≠ some j → j ≠ B → (w1.setCell ⟨B, 0, none⟩ v').heap[j]? = W.heap[j]?) ∧ Boxed w1 B 26 v ∧ Boxed (w1.setCell ⟨B, 0, none⟩ v') B 26 v' ∧
      (w1.setCell ⟨B, 0, none⟩ v').ownsRow base 71 6 v' m ys ∧ KeepsOthers W (w1.setCell ⟨B, 0, none⟩ v') ∧ Below n₀ W (w1.setCell ⟨B, 0, none⟩ v') ∧ W.heap.size ≤ (w1.setCell ⟨B, 0, none⟩ v').heap.size := by
  have hlt : ∀ q, v.ownBlock = some q → base ≤ q := fun q hq => (own_block_ltR hrow hq).1
  have hb1 : Below base W w1 := ((Below.refl _ W).alloc hbase tmp).grown hg (by simp; omega) hlt
  have b1 : Boxed w1 B 26 v := (hb1.block B hB).trans hv
  have h1 : ∀ j, j < W.heap.size → v.ownBlock ≠ some j → w1.heap[j]? = W.heap[j]? := fun j hj hne => (hg.block j (by simp; omega) (fun e => hne e.symm)).trans (Below.heap_alloc _ _ _ hj)
  refine ⟨h1, fun j hj hne hjB => (Below.heap_setCell _ _ _ _ (by dsimp only; exact hjB)).trans (h1 j hj hne), b1, b1.set v', own_otherR hown hB _, ?_, (hb1.mono (by omega)).setCell (p := ⟨B, 0, none⟩) hn₀ _, ?_⟩
  · refine ((KeepsOthers.alloc W tmp).trans (KeepsOthers.of_grownBy hg fun j o hj ho => ?_)).trans (KeepsOthers.setCell _ _ _)
    rcases (hrow.alloc tmp).2 with ⟨rfl, -⟩ | ⟨g, cap, cur, rfl, -, hh, -⟩
    · cases hj
    · have : g = j := by simpa [Value.ownBlock] using hj
      subst this
      rw [hh] at ho; cases ho; rfl
  · have h2 := hb1.size
    have h3 : w1.heap.size ≤ (w1.setCell ⟨B, 0, none⟩ v').heap.size := by simp [World.setCell]
    omega
theorem ownRow_cells {W : World} {base k j : Nat} {v : Value} {xs : List Value} {o : Obj} (h : W.ownsRow base 71 6 v k xs) (hj : W.heap[j]? = some o) (ho : ∀ c r, o ≠ .cells c 71 r) : v.ownBlock ≠ some j := by
  rcases h.2 with ⟨rfl, -⟩ | ⟨g, cap, cur, rfl, -, hgb, -⟩
  · simp [Value.ownBlock]
  · intro e
    have : g = j := by simpa [Value.ownBlock] using e
    subst this
    rw [hj] at hgb
    exact ho _ _ (Option.some.inj hgb)

theorem mapBlk {w w' : World} {P : Program} {k : TypeId} {R : Value → Option (DataW Unit × List MemPlace)} {b n : Nat} {D : DataW Unit} (h : w.ownsMap P k R b n D) (hb : w'.heap[b]? = w.heap[b]?) : w'.ownsMap P k R b n D := by
  obtain ⟨es, ck, h1, h2, h3, h4⟩ := h
  exact ⟨es, ck, hb.trans h1, h2, h3, h4⟩

set_option maxRecDepth 100000 in
set_option maxHeartbeats 4000000 in
theorem firstRecs_of (hsort : SortC) (A : Option Addr) (n ca : Nat) (X : List Bk) (w : World) (hok : NdOk X) (hG : ErrType w) (hA : RdBk w w.heap.size A n X) :
    Calls Tryz.prog 64 #[.agg #[.slice A n ca]] w (RetRs w (mnt (recsTo X n))) := by
  have hE : 3 < w.heap.size := World.block_lt_of_cell? w _ hG
  have HLEN : Hid ((recsTo X n).length ≤ 48) := by
    have h1 := recsTo_len hok n (by rw [hA.1]; exact Nat.le_refl _); have h2 := hok.1.2; have h3 := hA.1
    show _ ≤ _; omega
  have HGD := Lib.hid (map_nz (recsTo_good hok n (by rw [hA.1]; exact Nat.le_refl _)))
  have HA := Lib.hid hA; have HG := Lib.hid hG; have HOK := Lib.hid hok; have HSORT := Lib.hid hsort
  clear hA hG hok hsort
  obtain ⟨i0, hi, hz0, hz1, hz2⟩ := info_parts info_rec
  have Hi := Lib.hid hi; have Z0 := Lib.hid hz0; have Z1 := Lib.hid hz1; have Z2 := Lib.hid hz2
  clear hi hz0 hz1 hz2
  refine (callsIn_wide (n := 3)).1 ?_
  refine callsIn_of_wp_marks Tryz.func64 rfl trivial ?_ rfl
  simp only [Tryz.ntmps64, List.size_toArray, List.length_cons, List.length_nil, Nat.reduceAdd, Nat.reduceSub, Array.replicate_succ, Array.replicate_zero, List.push_toArray, List.append_toArray, List.nil_append, List.cons_append]
  gi_wp2_with fail
  have hb0 : Below w.heap.size w (w.alloc (.cells #[.slice A n ca] 34)) := (Below.refl _ _).alloc (Nat.le_refl _) _
  have k0 := isBlk_new w 34 [.slice A n ca]
  change IsBlk (w.alloc (.cells #[.slice A n ca] 34)) _ _ _ at k0
  have hs0 : (w.alloc (.cells #[.slice A n ca] 34)).heap.size = w.heap.size + 1 := by simp
  generalize w.alloc (.cells #[.slice A n ca] 34) = U0 at hb0 k0 hs0 ⊢
  refine ⟨trivial, ?_⟩
  refine (callsIn_wide.2 (placesBySeq_any A n ca X U0 HOK.out (HG.out.below hb0) ((HA.out.below hb0).mono hb0.size))).mono ?_
  rintro e w1 ⟨b, base, D, rfl, hown, hT, hbb, hb1⟩
  have hmap := map_of_groups hown
  have hbw : b < w1.heap.size := by obtain ⟨es, ck, h, -⟩ := hown; exact lt_of_block h
  have HTH : Hid (∀ x ∈ recsTo X n, Maps.has D (.int .i64 x.2.q) = true) := fun x hx => tells_has hT hx
  have hB1 : Below w.heap.size w w1 := hb0.trans (hb1.mono hb0.size)
  have k1 := k0.below hb1 k0.lt
  have hx1 : w1.cell? ⟨w.heap.size, 0, none⟩ = some (.slice A n ca) := k1.cell rfl
  have hlt0 : w.heap.size < w1.heap.size := k1.lt
  obtain ⟨Rd, hRd⟩ : ∃ Rd : Value → Option (DataW Unit × List MemPlace), Rd = rowElem w1 base 2 .i64 := ⟨_, rfl⟩
  have HRZ : Hid (Rd (.slice none 0 0) = some (.nil, [])) := by show _ = _; rw [hRd]; exact rowElem_mk (World.ownsInts_nil _ _ _ _)
  rw [← hRd] at hmap
  clear hown hT hb1 k0 k1 hb0 hRd
  gi_wp2_with fail
  refine ⟨trivial, ?_⟩
  refine (callsIn_wide.2 (recsOn_any A n ca _)).mono ?_
  rintro e w3 ⟨rfl, rfl⟩
  have bM := ((Boxed.new w1 112 (.map (some b))).alloc (.cells #[.slice none 0 0] 26)).alloc (.cells #[.slice A n ca] 34)
  have bR := (Boxed.new (w1.alloc (.cells #[.map (some b)] 112)) 26 (.slice none 0 0)).alloc (.cells #[.slice A n ca] 34)
  have bN := Boxed.new ((w1.alloc (.cells #[.map (some b)] 112)).alloc (.cells #[.slice none 0 0] 26)) 34 (.slice A n ca)
  have hm0 := ((hmap.alloc (.cells #[.map (some b)] 112)).alloc (.cells #[.slice none 0 0] 26)).alloc (.cells #[.slice A n ca] 34)
  have hBW : Below w1.heap.size w1 (((w1.alloc (.cells #[.map (some b)] 112)).alloc (.cells #[.slice none 0 0] 26)).alloc (.cells #[.slice A n ca] 34)) := (((Below.refl _ _).alloc (Nat.le_refl _) _).alloc (by simp) _).alloc (by simp; omega) _
  have hsW : (((w1.alloc (.cells #[.map (some b)] 112)).alloc (.cells #[.slice none 0 0] 26)).alloc (.cells #[.slice A n ca] 34)).heap.size = w1.heap.size + 3 := by simp
  simp only [World.size_alloc] at bR bN ⊢
  generalize ((w1.alloc (.cells #[.map (some b)] 112)).alloc (.cells #[.slice none 0 0] 26)).alloc (.cells #[.slice A n ca] 34) = W0 at bM bR bN hm0 hBW hsW ⊢
  have hB0 : Below w.heap.size w W0 := hB1.trans (hBW.mono hB1.size)
  have hR0 := HA.out.below hB0
  have hG0 := HG.out.below hB0
  obtain ⟨g, hg⟩ : ∃ g : Int → Bool, g = fun q => Maps.has D (.int .i64 q) := ⟨_, rfl⟩
  have hLs : Left D g [] := by rw [hg]; exact left_start D
  have HFL : Hid (flt g (recsTo X n) = fsts (recsTo X n)) := flt_fsts g _ (fun x hx => by rw [hg]; exact HTH.out x hx)
  clear hg hx1 hmap
  gi_wp2
  refine wpIn_rangeFunc_ownH rfl (by omega) (gf := 135) (lb := #[.pointer (some ⟨w1.heap.size + 1 + 1, 0, none⟩)]) rfl trivial (enters_of Tryz.func135 (by kernel_rfl) rfl)
    (recs_stops _ (by omega) (w1.heap.size + 1 + 1) w.heap.size A n ca X W0 HOK.out (by omega) hE hG0 bN hR0) KpR.t (KpR.b (by omega) (by omega)) (Below.refl _ _) (fun _ => rfl)
    (fun pre W => (∃ D' v, W.ownsMap Tryz.prog 2 Rd b (recsTo X n).length D' ∧ Left D' g (flt g (pre.map nz)) ∧ Boxed W w1.heap.size 112 (.map (some b)) ∧ Boxed W (w1.heap.size + 1) 26 v ∧ W.ownsRow W0.heap.size 71 6 v (flt g (pre.map nz)).length (rcA (flt g (pre.map nz))) ∧ Boxed W (w1.heap.size + 1 + 1) 34 (.slice A n ca)) ∧ (Below w.heap.size w W ∧ W0.heap.size ≤ W.heap.size))
    (fun _ _ _ => False)
    (OwnFrom.and (fun s A' B' row hs hg hr => by
      obtain ⟨D', v, h1, h2, h3, h4, h5, h6⟩ := hs
      refine ⟨D', v, h1.kept hg (fun e => ?_), h2, h3.kept hg (fun e => ?_), h4.kept hg (fun e => ?_), own_sameR h5 (fun q hq => hg.block q (own_block_ltR h5 hq).2 (fun e => ?_)), h6.kept hg (fun e => ?_)⟩
      · have := (hr _ e.symm).1; omega
      · have := (hr _ e.symm).1; omega
      · have := (hr _ e.symm).1; omega
      · obtain ⟨o, ho, hc⟩ := (hr q e.symm).2
        rcases h5.2 with ⟨rfl, -⟩ | ⟨g', cap, cur, rfl, -, hgb, -⟩
        · cases hq
        · have : g' = q := by simpa [Value.ownBlock] using hq
          subst this
          rw [hgb] at ho; cases ho; cases hc
      · have := (hr _ e.symm).1; omega) (OwnFrom.and (ownFrom_below (Nat.le_refl _) (by omega)) (fun _ _ _ _ hs hg _ => Nat.le_trans hs hg.size)))
    (fun _ _ _ _ _ hs _ _ => hs)
    ⟨⟨D, _, hm0, hLs, bM, bR, World.ownsRow_nil _ _ _ _, bN⟩, hB0, Nat.le_refl _⟩
    (fun x a' W => ∃ Bx, W0.heap.size ≤ Bx ∧ IsBlk W Bx 71 (recC (nz x).2) ∧ (∀ v, Boxed W (w1.heap.size + 1) 26 v → v.ownBlock ≠ some Bx) ∧ a' = { tmps := #[.agg #[.slice A n ca], .pointer (some ⟨w.heap.size, 0, none⟩), .slice none 0 0, .pointer (some ⟨w1.heap.size, 0, none⟩), .pointer (some ⟨w1.heap.size + 1, 0, none⟩), undef, .pointer (some ⟨Bx, 0, none⟩), undef, undef, .agg #[.slice A n ca], .map (some b), .agg #[.slice A n ca], .func (.func 135) #[] #[.pointer (some ⟨w1.heap.size + 1 + 1, 0, none⟩)], .int .i64 (nz x).1, recV (nz x).2, undef, undef, undef, undef, undef, undef, undef, undef, undef, undef, undef, undef, undef, undef, undef, undef, undef, undef, undef], defers := [] })
    (fun x a' _ X' Y row hs hg hr => by
      obtain ⟨Bx, h1, h2, h3, h4⟩ := hs
      have h2' : X'.heap[Bx]? = some (.cells (recC (nz x).2).toArray 71 (0, 0)) := h2
      refine ⟨Bx, h1, (hg.block Bx h2.lt (fun e => ?_)).trans h2, fun v hv => h3 v ?_, h4⟩
      · obtain ⟨o, ho, hc⟩ := (hr Bx e.symm).2
        rw [h2'] at ho; cases ho; cases hc
      · exact (hg.block (w1.heap.size + 1) (by have := h2.lt; omega) (fun e => by have := (hr _ e.symm).1; omega)).symm.trans hv)
    ?assign ?body ?done ?stop
  case assign =>
    rintro l pre x W K ⟨⟨D', v, h1, h2, h3, h4, h5, h6⟩, hB, hz⟩ hK
    gi_wp2
    refine hK _ _ ((KeepsOthers.alloc _ _).from _) (KpR.of_below ((Below.refl _ W).alloc (Nat.le_refl _) _) hB.size h6.lt) ⟨⟨D', v, h1.alloc _, h2, h3.alloc _, h4.alloc _, own_belowR h5 ((Below.refl _ W).alloc (Nat.le_refl _) _), h6.alloc _⟩, hB.alloc hB.size _, by simp; omega⟩ ⟨W.heap.size, hz, isBlk_new W 71 (recC (nz x).2), fun v' hv' e => ?_, rfl⟩
    have hvv : v' = v := by
      have h7 : Boxed (W.alloc (.cells (recC (nz x).2).toArray 71)) (w1.heap.size + 1) 26 v := h4.alloc _
      have h8 := h7.cell.symm.trans hv'.cell
      exact (Option.some.inj h8).symm
    subst hvv
    have := (own_block_ltR h5 e).2
    omega
  case body =>
    rintro l pre x a' W hl ⟨r, hr⟩ ⟨⟨D', v, hmp, hL, hbm, hbr, hrow, hbn⟩, hB, hz⟩ ⟨Bx, hBx, kX, hne, rfl⟩ hlt
    obtain ⟨⟨b1, b2⟩, b3, b4⟩ := nz_bounds x
    have HNE := Lib.hid (hne v hbr)
    have HLf : Hid (Left D' g (flt g (pre.map nz))) := hL
    have hkey := Maps.keyOf_int_mk Tryz.underlying2 (a := (nz x).2.q) (WalkArith.wf_i64 (by omega))
    have HSN : Hid (flt g ((pre ++ [x]).map nz) = fltStep g (flt g (pre.map nz)) (nz x)) := by show _ = _; rw [List.map_append, List.map_singleton, flt_snoc]
    have hFl : (flt g (pre.map nz)).length ≤ 48 := by have h1 := flt_len g (pre.map nz); rw [List.length_map] at h1; omega
    have hc := hbm.cell
    have hcr := hbr.cell
    have hfr := hbr.frozen
    obtain ⟨x0, x1, x2, x3, x4, x5⟩ := rcCells kX
    obtain ⟨Av, cv, rfl⟩ := own_slice hrow
    clear hL hne
    generalize hFL : (flt g (pre.map nz)) = F at *
    clear hFL
    cases hh : Maps.has D' (.int .i64 (nz x).2.q) with
    | false =>
      have HFN := Lib.hid (HLf.out.no (x := nz x) hh)
      gi_wp2_with (gi_at_lookup; refine wpListIn_lookup_own_ok _ rfl _ _ 112 rfl 2 41 (Maps.int_keyed Tryz.underlying2) Tryz.underlying112 Rd (zeroRow _) .nil [] HRZ.out b (recsTo X n).length D' rfl hmp _ _ rfl hkey ?_; intro v0 ps hv0; rw [hh])
      exact ⟨KeepsFrom.refl _ _, KpR.of_below (Below.refl _ _) hB.size hbn.lt, ⟨⟨D', _, hmp, by rw [HSN.out, HFN.out]; exact HLf.out, hbm, hbr, by rw [HSN.out, HFN.out]; exact hrow, hbn⟩, hB, hz⟩⟩
    | true =>
      obtain ⟨hfy, hly⟩ := HLf.out.yes (x := nz x) hh
      have HFY := Lib.hid hfy; have HLY := Lib.hid hly
      clear hfy hly
      have hbmh : W.heap[w1.heap.size]? = some (.cells #[.map (some b)] 112 (0, 0)) := hbm
      have hbnh : W.heap[w1.heap.size + 1 + 1]? = some (.cells #[.slice A n ca] 34 (0, 0)) := hbn
      have hmb := hmp.lt
      have HO1 := Lib.hid (ownRow_cells hrow hbmh (fun c r e => by cases e))
      have HO2 := Lib.hid (ownRow_cells hrow hbnh (fun c r e => by cases e))
      have HO3 : Hid ((Value.slice Av F.length cv).ownBlock ≠ some b) := by
        obtain ⟨es, ck, h, -⟩ := hmp
        exact ownRow_cells hrow h (fun c r e => by cases e)
      have HO4 : Hid (∀ (j : Nat) (c : Array Value) (r : Nat × Nat), W.heap[j]? = some (.cells c 88 r) → (Value.slice Av F.length cv).ownBlock ≠ some j) := fun j c r h => ownRow_cells hrow h (fun c r e => by cases e)
      have HCEL : ∀ j u, (recC (nz x).2)[j]? = some u → (W.alloc (.cells (recC (nz x).2).toArray 71)).cell? (Addr.add ⟨W.heap.size, 0, none⟩ j) = some u := fun j u hj => by rw [add_off, Nat.zero_add]; exact (isBlk_new W 71 (recC (nz x).2)).cell hj
      gi_wp2_with (first
        | (gi_at_lookup; refine wpListIn_lookup_own_ok _ rfl _ _ 112 rfl 2 41 (Maps.int_keyed Tryz.underlying2) Tryz.underlying112 Rd (zeroRow _) .nil [] HRZ.out b (recsTo X n).length D' rfl hmp _ _ rfl hkey ?_; intro v0 ps hv0; rw [hh])
        | (gi_at_delete; refine wpListIn_delete_own _ rfl _ _ 112 2 rfl 41 (Maps.int_keyed Tryz.underlying2) Tryz.underlying112 Rd b (recsTo X n).length D' rfl hm6 _ _ rfl hkey ?_; intro w7 hm7 ht7)
        | (gi_at_builtin; refine wpListIn_append_own _ rfl _ _ 26 rfl W0.heap.size 71 i0 (recV Rc.zero) 6 56 Tryz.underlying26 Hi.out Z0.out Z1.out Z2.out rfl (by decide) _ _ _ rfl (hrow.alloc _) ⟨W.heap.size, 0, none⟩ 1 1 (recC (nz x).2) rfl rfl HCEL (recC_one _) (by unfold maxLen; omega) (by omega) (by simp; omega) ?_; intro v' w5 hown' hgrow _; obtain ⟨g', cap', rfl⟩ := ownsRow_succ hown'; obtain ⟨c1, c2, c3, c4, c5, c6, c7, c8⟩ := coll6 (n₀ := w.heap.size) hbr hrow (by omega) (by omega) hz hgrow hown'; have hcr5 := c3.cell; have hfr5 := c3.frozen; have hm6 := mapBlk hmp (c2 b hmb HO3.out (by omega)); have bm6 : Boxed _ w1.heap.size 112 (.map (some b)) := (c2 _ (lt_of_block hbmh) HO1.out (by omega)).trans hbmh; have hcm6 := bm6.cell; have kX6 : IsBlk _ Bx 71 (recC (nz x).2) := (c2 Bx kX.lt HNE.out (by omega)).trans kX; obtain ⟨y0, y1, y2, y3, y4, y5⟩ := rcCells kX6))
      have hg7 := ht7.grown
      have hbrh : W.heap[w1.heap.size + 1]? = some (.cells #[.slice Av F.length cv] 26 (0, 0)) := hbr
      have hT : ∀ j, j < W.heap.size → j ≠ b → w7.heap[j]? = (w5.setCell ⟨w1.heap.size + 1, 0, none⟩ (.slice (some ⟨g', 0, none⟩) (F.length + 1) cap')).heap[j]? := fun j hj hnb => hg7.block j (Nat.lt_of_lt_of_le hj c8) (fun e => hnb (by simpa using e))
      have z1 : Boxed w7 w1.heap.size 112 (.map (some b)) := (hT _ (lt_of_block hbmh) (by omega)).trans bm6
      have z2 : Boxed w7 (w1.heap.size + 1) 26 (.slice (some ⟨g', 0, none⟩) (F.length + 1) cap') := (hT _ hbr.lt (by omega)).trans c4
      have z3 : Boxed w7 (w1.heap.size + 1 + 1) 34 (.slice A n ca) := (hT _ (lt_of_block hbnh) (by omega)).trans ((c2 _ (lt_of_block hbnh) HO2.out (by omega)).trans hbnh)
      have z4 : w7.ownsRow W0.heap.size 71 6 (.slice (some ⟨g', 0, none⟩) (F.length + 1) cap') (F.length + 1) (rcA F ++ recC (nz x).2) := own_sameR c5 (fun q hq => hg7.block q (own_block_ltR c5 hq).2 (fun e => by have h1 := (own_block_ltR c5 hq).1; have h2 : q = b := (by simpa using e); omega))
      have z5 : KpR w.heap.size (w1.heap.size + 1 + 1) W w7 := by
        refine ⟨c7.grown hg7 (Nat.le_trans hB.size c8) (fun k e => by cases e; omega), z3.trans hbnh.symm, fun j c r h => (hT j (lt_of_block h) (fun e => ?_)).trans (c2 j (lt_of_block h) (HO4.out j c r h) (fun e => ?_))⟩
        · subst e; obtain ⟨es, ck, hh, -⟩ := hmp; rw [hh] at h; cases h
        · subst e; rw [hbrh] at h; cases h
      exact ⟨(c6.from _).trans (KeepsFrom.of_grownBy hg7 (fun j e => by cases e; omega)), z5, ⟨⟨_, _, hm7, by rw [HSN.out, HFY.out]; exact HLY.out, z1, z2, by rw [HSN.out, HFY.out, rcA_snoc, List.length_append]; exact z4, z3⟩, hB.trans z5.1, Nat.le_trans hz z5.1.size⟩⟩
  case done =>
    rintro Dd ys W hD rfl ⟨⟨D', v, -, -, -, hbr, hrow, -⟩, hB, hz⟩ hK
    rw [HGD.out, HFL.out] at hrow
    have hcr := hbr.cell
    have hF48 : (fsts (recsTo X n)).length ≤ 48 := by
      have h1 := flt_len g (recsTo X n); rw [HFL.out] at h1; have := HLEN.out; omega
    obtain ⟨Av, cv, rfl⟩ := own_slice hrow
    gi_wp2_with fail
    refine ⟨trivial, ?_⟩
    refine (callsIn_wide.2 (HSORT.out W0.heap.size (fsts (recsTo X n)) _ W hF48 hrow)).mono ?_
    rintro e w4 ⟨rfl, Y', hp, hsrt, hown4, hg4⟩
    have hY := sorted_mnt hp hsrt
    subst hY
    have hbrh : W.heap[w1.heap.size + 1]? = some (.cells #[.slice Av (fsts (recsTo X n)).length cv] 26 (0, 0)) := hbr
    have hbr4 : Boxed w4 (w1.heap.size + 1) 26 (.slice Av (fsts (recsTo X n)).length cv) := (hg4.block _ hbr.lt (fun e => ownRow_cells hrow hbrh (fun c r e => by cases e) e.symm)).trans hbr
    have hK4 : w4.heap[Dd]? = some (.deferred (some [])) := (hg4.block _ (lt_of_block hK) (fun e => ownRow_cells hrow hK (fun c r e => by cases e) e.symm)).trans hK
    have hc4 := hbr4.cell
    have hB4 : Below w.heap.size w w4 := hB.grown hg4 hB.size (fun k e => by have := (own_block_ltR hrow e).1; omega)
    have hlen := hp.length_eq
    gi_wp2
    refine ⟨by simp, .inl ⟨_, _, rfl, run_takeDeferred hK4, ?_⟩⟩
    refine ⟨_, results_tmp rfl _ _ _, ?_⟩
    rw [← hlen] at hown4 ⊢
    have hrow' := ownsRow_putObj hown4 (.deferred none) hK4 rfl
    exact ⟨Av, cv, rfl, cap_of_own hrow', (ow_of_own hrow').mono (by omega) (Nat.le_refl _), hB4.trans (belowK_b (w := w) (Nat.le_refl _) w4 Dd _ _ (by omega) hK4 rfl rfl)⟩
  case stop =>
    rintro D c pre W _ _ h _
    exact h.elim
end Go.Proofs.YtkiklcdkliebaaaGreatDoor
