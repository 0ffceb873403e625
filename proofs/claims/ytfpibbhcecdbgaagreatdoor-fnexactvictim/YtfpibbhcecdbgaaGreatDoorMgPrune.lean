/-
  slices.Insert at a list of numbers, in the midst of it; a number added to a sorted list, wherever it belongs.
  Plain mathematics of Needed and Prune (chapter 5): which records are needed. No condition.
  Times, of the program.
  timesFrom, and the test that neededTest gives back.
  AsOf, of the program.
  neededTest of the program.
  Trail, of the document's model: the Seqs of the places.
  Needed, of the program and of the model.
  Prune, of the program and of the model.
-/
import Derived.Test.YtfpibbhcecdbgaaGreatDoorProg
import Derived.KernelRfl
import Derived.Test.YtfpibbhcecdbgaaGreatDoorHsAddN
import Derived.Deep.RegionLaw
import Derived.Lib.SliceRun
import Derived.Lib.Overlaps
import Derived.Lib.AppendZerosOnto
import Derived.Laws.Externs
import Derived.Laws.IdiomCopy
import Derived.Laws.NewBlocks
import Derived.Lib.LazyBuf
import Derived.Test.YtfpibbhcecdbgaaGreatDoorHsTimesP
import Derived.Test.YtfpibbhcecdbgaaGreatDoorHsTouch
import Derived.Test.YtfpibbhcecdbgaaGreatDoorHsFloor
import Derived.Test.YtfpibbhcecdbgaaGreatDoorHsLast
import Derived.Test.YtfpibbhcecdbgaaGreatDoorHsTrailI
import Derived.Test.YtfpibbhcecdbgaaGreatDoorHsTrailS
import Derived.Deep.AppendLies
import Derived.Test.YtfpibbhcecdbgaaGreatDoorHsApp
import Derived.Test.YtfpibbhcecdbgaaGreatDoorHsLaw
namespace Go.Proofs.YtfpibbhcecdbgaaGreatDoor
open Go.RowKit

/-- 'copy(d, s)' whose run is known -/
theorem wpList_copyN {P : Program} (w : World) {ops : Array Oper} {rest : List Oper} {o : Oper} {a : Act} {Q : Exit → Act → World → Prop} (hgd : o.guard = none) (d s : Operand) (t t' : TypeId)
    (ho : o.op = .call { callee := .builtin .copy, args := #[d, s], argTypes := #[t, t'] }) (v u : Value) (hd : a.eval d = v) (hs : a.eval s = u) {v' : Value} {w' : World}
    (hr : (Builtin.copy_ #[t, t'] o.type #[v, u]).run P w = .ok v' w') (h : wpList P ops Q rest (a.put o.dst v') w') : wpList P ops Q (o :: rest) a w :=
  wpList_plain hgd fun _ hK => by
    unfold Oper.wp execOp
    simp only [ho, resolve, invoke, builtin, Sem.run_bind, Sem.run_pure, Result.andThen_ok, List.map_toArray, List.map_cons, List.map_nil, hd, hs, hr]
    exact hK _ _ h
/-- .. in a region that draws -/
theorem step_copyN {P : Program} {ops : Array Oper} {o : Oper} {a : Act} {w : World} {K : Act → World → Prop} {Q : Exit → Act → World → Prop} {E : Prop}
    (hg : o.guard = none) (d x : Operand) (dT sT : TypeId) (hop : o.op = Op.call { callee := Callee.builtin Builtin.copy, args := #[d, x], argTypes := #[dT, sT] })
    (v u : Value) (hd : a.eval d = v) (hx : a.eval x = u) {v' : Value} {w' : World} (hr : (Builtin.copy_ #[dT, sT] o.type #[v, u]).run P w = .ok v' w') (hK : K (a.put o.dst v') w') :
    if Region.wanted o (yielded ops a.tmps) = true then Oper.wp P o a w K Q else E := by
  have hw : Region.wanted o (yielded ops a.tmps) = true := by simp [Region.wanted, hg]
  rw [if_pos hw]
  unfold Oper.wp
  simp [execOp, hop, resolve, invoke, builtin, hd, hx, hr, Result.andThen]
  exact hK

theorem rowIs_of_own {w : World} {base n g cap : Nat} {e : TypeId} {xs : List Value} (h : w.ownsRow base e 1 (.slice (some ⟨g, 0, none⟩) n cap) n xs) :
    ∃ f : Nat → Value, w.rowIs g e cap f ∧ n ≤ cap ∧ cap ≤ maxLen ∧ base ≤ g ∧ ∀ j u, xs[j]? = some u → f j = u := by
  rcases h.2 with ⟨h0, -⟩ | ⟨g', cap', cur, hv, hb, hh, h1, h2, h3, h4⟩
  · cases h0
  · simp only [Value.slice.injEq, Option.some.injEq, Addr.mk.injEq, true_and, and_true] at hv
    obtain ⟨rfl, rfl⟩ := hv
    refine ⟨fun j => (cur[j]?).getD undef, ⟨cur, hh, by omega, fun i hi => ?_⟩, h1, h2, hb, fun j u hj => ?_⟩
    · show cur[i]? = some ((cur[i]?).getD undef)
      rw [Array.getElem?_eq_getElem (by omega)]; rfl
    · rw [← h4, List.getElem?_take] at hj
      split at hj
      · rw [Array.getElem?_toList] at hj
        show (cur[j]?).getD undef = u
        rw [hj]; rfl
      · cases hj
theorem own_of_rowIs {w : World} {base n g cap : Nat} {e : TypeId} {f : Nat → Value} {xs : List Value} (h : w.rowIs g e cap f) (hl : xs.length = n) (hb : base ≤ g) (h1 : n ≤ cap) (h2 : cap ≤ maxLen) (hx : ∀ j u, xs[j]? = some u → f j = u) :
    w.ownsRow base e 1 (.slice (some ⟨g, 0, none⟩) n cap) n xs := by
  obtain ⟨c, hc, hs, hf⟩ := h
  refine ⟨by omega, .inr ⟨g, cap, c, rfl, hb, hc, h1, h2, by omega, ?_⟩⟩
  apply List.ext_getElem?
  intro j
  rw [List.getElem?_take]
  by_cases hj : j < n
  · rw [if_pos (by omega), Array.getElem?_toList, hf j (by omega), List.getElem?_eq_getElem (by omega)]
    congr 1
    exact hx j _ (List.getElem?_eq_getElem (by omega))
  · rw [if_neg (by omega), List.getElem?_eq_none (by omega)]
theorem rowIs_cell {w : World} {g cap : Nat} {e : TypeId} {f : Nat → Value} (h : w.rowIs g e cap f) {i : Nat} (hi : i < cap) : w.cell? ⟨g, i, none⟩ = some (f i) := by
  obtain ⟨c, hc, hs, hf⟩ := h
  rw [cell_of_row w g i _ _ _ hc]; exact hf i hi
theorem rowIs_free {w : World} {g cap : Nat} {e : TypeId} {f : Nat → Value} (h : w.rowIs g e cap f) (i : Nat) : w.frozen? ⟨g, i, none⟩ = false := by
  obtain ⟨c, hc, -⟩ := h; simp [World.frozen?, hc]
theorem rowIs_same {w w' : World} {g cap : Nat} {e : TypeId} {f : Nat → Value} (h : w.rowIs g e cap f) (hb : w'.heap[g]? = w.heap[g]?) : w'.rowIs g e cap f := by
  obtain ⟨c, hc, r⟩ := h; exact ⟨c, hb.trans hc, r⟩
theorem setCells_fr (g : Nat) : ∀ (vs : List Value) (o : Nat) (w : World), (w.setCells g o vs).os = w.os ∧ (w.setCells g o vs).tape = w.tape ∧ (w.setCells g o vs).output = w.output ∧ (w.setCells g o vs).heap.size = w.heap.size ∧ ∀ k, k ≠ g → (w.setCells g o vs).heap[k]? = w.heap[k]?
  | [], _, _ => ⟨rfl, rfl, rfl, rfl, fun _ _ => rfl⟩
  | v :: r, o, w => by
    obtain ⟨h1, h2, h3, h4, h5⟩ := setCells_fr g r (o + 1) (w.setCell ⟨g, o, none⟩ v)
    refine ⟨h1, h2, h3, h4.trans (by simp [World.setCell]), fun k hk => (h5 k hk).trans (Below.heap_setCell _ _ _ _ hk)⟩
theorem setCells_drew (g : Nat) : ∀ (vs : List Value) (o : Nat) (w : World), w.drew.setCells g o vs = (w.setCells g o vs).drew
  | [], _, _ => rfl
  | v :: r, o, w => setCells_drew g r (o + 1) (w.setCell ⟨g, o, none⟩ v)
/-- x put in place i -/
def insL (L : List Int) (i : Nat) (x : Int) : List Int := L.take i ++ x :: L.drop i
theorem insL_len {L : List Int} {i : Nat} (x : Int) (h : i ≤ L.length) : (insL L i x).length = L.length + 1 := by
  unfold insL; rw [List.length_append, List.length_cons, List.length_take, List.length_drop]; omega
theorem insL_get {L : List Int} {i : Nat} {x : Int} (h : i ≤ L.length) (j : Nat) (u : Value) (hj : ((insL L i x).map numV)[j]? = some u) :
    (j < i ∧ (L.map numV)[j]? = some u) ∨ (j = i ∧ u = numV x) ∨ (i < j ∧ (L.map numV)[j - 1]? = some u) := by
  rw [List.getElem?_map] at hj ⊢
  unfold insL at hj
  by_cases h1 : j < i
  · left
    rw [List.getElem?_append_left (by rw [List.length_take]; omega), List.getElem?_take_of_lt h1] at hj
    exact ⟨h1, hj⟩
  · right
    rw [List.getElem?_append_right (by rw [List.length_take]; omega), List.length_take, Nat.min_eq_left h] at hj
    by_cases h2 : j = i
    · left
      subst h2
      rw [Nat.sub_self, List.getElem?_cons_zero] at hj
      exact ⟨rfl, by simpa using hj.symm⟩
    · right
      obtain ⟨d, rfl⟩ : ∃ d, j = i + 1 + d := ⟨j - i - 1, by omega⟩
      rw [show i + 1 + d - i = d + 1 by omega, List.getElem?_cons_succ, List.getElem?_drop] at hj
      refine ⟨by omega, ?_⟩
      rw [List.getElem?_map, show i + 1 + d - 1 = i + d by omega]
      exact hj

set_option maxHeartbeats 4000000 in
set_option maxRecDepth 100000 in
/-- there is room: in place -/
theorem insert_room (g n c i base : Nat) (L : List Int) (x : Int) (w : World) (hn : n ≤ 1048576) (hi : i < n) (hroom : n + 1 ≤ c) (hL : L.length = n) (hown : w.ownsRow base 2 1 (.slice (some ⟨g, 0, none⟩) n c) n (L.map numV)) :
    Calls Tryz.prog 280 #[.slice (some ⟨g, 0, none⟩) n c, .int .i64 (i : Int), .slice (some ⟨w.heap.size, 0, none⟩) 1 1] (w.alloc (.cells #[.int .i64 x] 2)) fun e w' =>
      e = .returned (.slice (some ⟨g, 0, none⟩) (n + 1) c) ∧ w'.ownsRow base 2 1 (.slice (some ⟨g, 0, none⟩) (n + 1) c) (n + 1) ((insL L i x).map numV) ∧ Fr w.heap.size (.slice (some ⟨g, 0, none⟩) n c) w w' := by
  obtain ⟨f, hrow, hnc, hcm, hbg, hf⟩ := rowIs_of_own hown
  have hcm' : c ≤ 9223372036854775807 := by unfold maxLen at hcm; exact hcm
  have hgw : g < w.heap.size := (own_block_ltR hown rfl).2
  clear hown
  obtain ⟨W, hW⟩ : ∃ W, W = w.alloc (.cells #[.int .i64 x] 2) := ⟨_, rfl⟩
  have hrowW : W.rowIs g 2 c f := rowIs_same hrow (by rw [hW]; exact Below.heap_alloc _ _ _ hgw)
  have hnew : IsBlk W w.heap.size 2 [.int .i64 x] := by rw [hW]; exact isBlk_new w 2 [.int .i64 x]
  have hne : w.heap.size ≠ g := by omega
  have hsz : (Tryz.prog.info? 2).map (·.size) = some 1 := by
    obtain ⟨i0, hi0, h0, h1, h2⟩ := info_parts info_num
    rw [hi0]; simp [h1]
  have hsz' : ∀ w, (Go.sizeOf 2).run Tryz.prog w = .ok 1 w := fun w => by kernel_rfl
  have hml : (L.map numV).length = n := by rw [List.length_map, hL]
  have hdl : ((L.map numV).drop i).length = n - i := by rw [List.length_drop, hml]
  have hov : ∀ lb cb, (callFunc 293 #[.slice (some ⟨w.heap.size, 0, none⟩) 1 1, .slice (some ⟨g, i + 1, none⟩) lb cb]).run Tryz.prog W = .ok (.value (.bool false)) W := fun lb cb => by
    obtain ⟨cc, hcc, hcs, -⟩ := hrowW
    rw [run_callFunc_extern Tryz.func293 (by kernel_rfl) (by kernel_rfl) (by kernel_rfl) (e := Extern.SlicesOverlaps.overlaps #[79, 79] #[4]) (by kernel_rfl),
      Lib.run_overlaps_apart W 79 4 2 Tryz.underlying79 1 hsz' ⟨w.heap.size, 0, none⟩ ⟨g, i + 1, none⟩ 1 1 lb cb hne 2 2 1 c (by unfold IsBlk at hnew; simp [World.shape?, hnew]) (by simp [World.shape?, hcc, hcs]) (by omega) hnew.free hnew.free]
    rfl
  have hcp1 : ∀ ty dc sc, (Builtin.copy_ #[79, 79] ty #[.slice (some ⟨g, i + 1, none⟩) (n - i) dc, .slice (some ⟨g, i, none⟩) (n + 1 - i) sc]).run Tryz.prog W.drew = .ok (goInt ((L.map numV).drop i).length) (W.drew.setCells g (i + 1) ((L.map numV).drop i)) := fun ty dc sc =>
    run_copy_cells W.drew _ _ ty 2 g (i + 1) (n - i) dc ⟨g, i, none⟩ (n + 1 - i) sc ((L.map numV).drop i) Tryz.underlying79 hsz (by rw [hdl]; simp only [Nat.min_def]; split <;> omega)
      (fun j v hj => by
        rw [List.getElem?_drop] at hj
        have hjl : i + j < n := by
          rcases Nat.lt_or_ge (i + j) n with h | h
          · exact h
          · rw [List.getElem?_eq_none (by omega)] at hj; cases hj
        rw [Addr.add_lit]
        show W.cell? ⟨g, i + j, none⟩ = _
        rw [rowIs_cell hrowW (by omega), hf _ _ hj])
      (fun j hj => by show (W.cell? ⟨g, i + 1 + j, none⟩).isSome = true; rw [rowIs_cell hrowW (by omega)]; rfl) (fun j hj => rowIs_free hrowW _) (fun v hv => by
        obtain ⟨z, -, rfl⟩ := List.mem_map.1 (List.mem_of_mem_drop hv); rfl)
  obtain ⟨W1, hW1⟩ : ∃ W1, W1 = W.drew.setCells g (i + 1) ((L.map numV).drop i) := ⟨_, rfl⟩
  have hrow1 := rowIs_setCells ((L.map numV).drop i) (i + 1) W.drew f (rowIs_same hrowW rfl)
  rw [← hW1] at hrow1 hcp1
  have hnew1 : IsBlk W1 w.heap.size 2 [.int .i64 x] := by
    rw [hW1]; exact ((setCells_fr g _ _ _).2.2.2.2 _ hne).trans hnew
  have hcp2 : ∀ ty dc, (Builtin.copy_ #[79, 79] ty #[.slice (some ⟨g, i, none⟩) (n + 1 - i) dc, .slice (some ⟨w.heap.size, 0, none⟩) 1 1]).run Tryz.prog W1 = .ok (goInt [numV x].length) (W1.setCells g i [numV x]) := fun ty dc =>
    run_copy_cells W1 _ _ ty 2 g i (n + 1 - i) dc ⟨w.heap.size, 0, none⟩ 1 1 [numV x] Tryz.underlying79 hsz (by simp only [List.length_cons, List.length_nil, Nat.min_def]; split <;> omega)
      (fun j v hj => by
        match j, hj with
        | 0, hj => simp at hj; subst hj; exact hnew1.cell rfl)
      (fun j hj => by rw [rowIs_cell hrow1 (by simp at hj; omega)]; rfl) (fun j hj => rowIs_free hrow1 _) (fun v hv => by simp at hv; subst hv; rfl)
  have hrow2 := rowIs_setCells [numV x] i W1 _ hrow1
  have HFIN : Hid ((W1.setCells g i [numV x]).ownsRow base 2 1 (.slice (some ⟨g, 0, none⟩) (n + 1) c) (n + 1) ((insL L i x).map numV)) := by
    refine own_of_rowIs hrow2 (by rw [List.length_map, insL_len x (by omega), hL]) hbg hroom hcm fun j u hj => ?_
    rcases insL_get (by omega) j u hj with ⟨h1, h2⟩ | ⟨h1, h2⟩ | ⟨h1, h2⟩
    · rw [if_neg (by omega), if_neg (by omega)]; exact hf j u h2
    · rw [if_pos (by simp; omega), h1, Nat.sub_self, h2]; rfl
    · have hjl : j - 1 < n := by
        rcases Nat.lt_or_ge (j - 1) n with h | h
        · exact h
        · rw [List.getElem?_eq_none (by omega)] at h2; cases h2
      rw [if_neg (by simp; omega), if_pos (by rw [hdl]; omega), List.getElem?_drop, show i + (j - (i + 1)) = j - 1 by omega, h2]
      rfl
  have HFR : Hid (Fr w.heap.size (.slice (some ⟨g, 0, none⟩) n c) w (W1.setCells g i [numV x])) := by
    obtain ⟨f1, f2, f3, f4, f5⟩ := setCells_fr g [numV x] i W1
    obtain ⟨e1, e2, e3, e4, e5⟩ := setCells_fr g ((L.map numV).drop i) (i + 1) W.drew
    rw [← hW1] at e1 e2 e3 e4 e5
    refine ⟨f1.trans (e1.trans (by rw [hW]; rfl)), f2.trans (e2.trans (by rw [hW]; rfl)), f3.trans (e3.trans (by rw [hW]; rfl)), ?_, fun k h1 h2 h3 => ?_⟩
    · rw [f4, e4, hW]; show w.heap.size ≤ (w.alloc _).heap.size; simp
    · have hkg : k ≠ g := fun e => h3 (by rw [e]; rfl)
      rw [f5 k hkg, e5 k hkg, hW]
      exact Below.heap_alloc _ _ _ h1
  have hi1 : ¬ ((i : Int) = (n : Int)) := by omega
  have hi2 : ((i : Int) == (n : Int)) = false := by simp; omega
  have hw1 : IntKind.i64.wrap ((i : Int) + 1) = (i : Int) + 1 := by rw [IntKind.wrap_i64]; omega
  have hb1 : (0 : Int) ≤ (i : Int) + 1 := by omega
  have htn : ((i : Int) + 1).toNat = i + 1 := by omega
  have hb2 : ¬ (c = i + 1) := by omega
  have hb3 : (i : Int) ≤ (n : Int) + 1 := by omega
  have hb4 : ¬ (c = i) := by omega
  have hin : i ≤ n := by omega
  have hrm : (n : Int) + 1 ≤ (c : Int) := by omega
  have hu := Tryz.underlying79
  rw [← hW]
  clear hrow hrowW hrow1 hrow2 hnew hnew1 hW1 hW hsz hsz' hml hdl hf hL hcm hbg hu
  go_enter Tryz.func280, Tryz.ntmps280
  go_wp2_with (simp only [hov])
  go_region_law (refine step_copyN rfl _ _ 79 79 rfl _ _ (by simp [Act.eval, Act.put]) (by simp [Act.eval, Act.put]) (hcp1 _ _ _) ?_)
  go_wp2_with (at_builtin; refine wpList_copyN _ rfl _ _ 79 79 rfl _ _ rfl rfl (hcp2 _ _) ?_)
  go_ret
  exact ⟨rfl, HFIN.out, HFR.out⟩

set_option maxHeartbeats 4000000 in
set_option maxRecDepth 100000 in
/-- there is no room: a new row -/
theorem insert_grow (g n i base : Nat) (L : List Int) (x : Int) (w : World) (hn : n ≤ 1048576) (hi : i < n) (hL : L.length = n) (hbase : base ≤ w.heap.size) (hown : w.ownsRow base 2 1 (.slice (some ⟨g, 0, none⟩) n n) n (L.map numV)) :
    Calls Tryz.prog 280 #[.slice (some ⟨g, 0, none⟩) n n, .int .i64 (i : Int), .slice (some ⟨w.heap.size, 0, none⟩) 1 1] (w.alloc (.cells #[.int .i64 x] 2)) fun e w' =>
      ∃ cap, e = .returned (.slice (some ⟨w.heap.size + 1, 0, none⟩) (n + 1) cap) ∧ w'.ownsRow base 2 1 (.slice (some ⟨w.heap.size + 1, 0, none⟩) (n + 1) cap) (n + 1) ((insL L i x).map numV) ∧ Fr w.heap.size (.slice (some ⟨g, 0, none⟩) n n) w w' := by
  obtain ⟨f, hrow, -, -, hbg, hf⟩ := rowIs_of_own hown
  have hgw : g < w.heap.size := (own_block_ltR hown rfl).2
  clear hown
  obtain ⟨W, hW⟩ : ∃ W, W = w.alloc (.cells #[.int .i64 x] 2) := ⟨_, rfl⟩
  have hWs : W.heap.size = w.heap.size + 1 := by rw [hW]; simp
  have hrowW : W.rowIs g 2 n f := rowIs_same hrow (by rw [hW]; exact Below.heap_alloc _ _ _ hgw)
  have hnew : IsBlk W w.heap.size 2 [.int .i64 x] := by rw [hW]; exact isBlk_new w 2 [.int .i64 x]
  have hml : (L.map numV).length = n := by rw [List.length_map, hL]
  have hdl : ((L.map numV).drop i).length = n - i := by rw [List.length_drop, hml]
  have htl : ((L.map numV).take i).length = i := by rw [List.length_take, hml]; omega
  obtain ⟨i0, hi0, hz0, hzs, hzb⟩ := info_parts info_num
  have hsz : (Tryz.prog.info? 2).map (·.size) = some 1 := by rw [hi0]; simp [hzs]
  have hcell : ∀ j v, (L.map numV)[j]? = some v → W.cell? ⟨g, j, none⟩ = some v := fun j v hj => by
    have hjl : j < n := by
      rcases Nat.lt_or_ge j n with h | h
      · exact h
      · rw [List.getElem?_eq_none (by omega)] at hj; cases hj
    rw [rowIs_cell hrowW hjl, hf _ _ hj]
  have hold : (Builtin.firstCells i0.size i (.slice (some ⟨g, 0, none⟩) i n)).run Tryz.prog W.drew = .ok ((L.map numV).take i).toArray W.drew := by
    rw [hzs]
    exact run_firstCells_some W.drew 1 i ⟨g, 0, none⟩ i n ((L.map numV).take i) (by omega) (fun j v hj => by
      rw [Addr.add_lit, Nat.zero_add]
      rw [List.getElem?_take] at hj
      split at hj
      · exact hcell j v hj
      · cases hj)
  have hik : i + (n + 1 - i) = n + 1 := by omega
  have hkk : (n : Int) + 1 - (i : Int) = ((n + 1 - i : Nat) : Int) := by omega
  obtain ⟨G, hG⟩ : ∃ G, G = grownCap W (n + 1) n 2 := ⟨_, rfl⟩
  have hGn : n + 1 ≤ G := by rw [hG]; exact grownCap_ge W _ _ _
  have hGm : G ≤ maxLen := by rw [hG]; exact grownCap_le_maxLen W _ _ _ (by unfold maxLen; omega)
  have hG63 : G ≤ 9223372036854775807 := by unfold maxLen at hGm; exact hGm
  obtain ⟨ROW, hROW⟩ : ∃ ROW : Array Value, ROW = ((L.map numV).take i).toArray ++ Builtin.zeroCells (Value.int .i64 0).cells (n + 1 - i) ++ Builtin.zeroCells (Value.int .i64 0).cells (G - (n + 1)) := ⟨_, rfl⟩
  have hrz : ∀ ty, (Builtin.append_ #[79, 3] ty #[.slice (some ⟨g, 0, none⟩) i n, .int .i64 ((n : Int) + 1 - (i : Int))]).run Tryz.prog W = .ok (.slice (some ⟨w.heap.size + 1, 0, none⟩) (n + 1) G) (W.drew.alloc (.cells ROW 2)) := fun ty => by
    have h := Lib.run_append_grow_zeros W 79 3 ty 2 i0 _ .i64 .i64 Tryz.underlying79 Tryz.underlying3 hi0 hz0 (some ⟨g, 0, none⟩) i n ((L.map numV).take i) hold (n + 1 - i) (by omega) (by omega) (by omega) (by omega) (by rw [hzb]; omega) (by rw [hzb, hik]; exact growslice_fits (by omega) (by omega))
    rw [hik, ← hG, ← hROW, hWs] at h
    rw [hkk]
    exact h
  have hRs : ROW.size = G := by rw [hROW]; simp [Builtin.zeroCells, Value.cells, hml]; omega
  obtain ⟨W1, hW1⟩ : ∃ W1, W1 = W.drew.alloc (.cells ROW 2) := ⟨_, rfl⟩
  rw [← hW1] at hrz
  have hN : w.heap.size + 1 = W.drew.heap.size := hWs.symm
  have hrow1 : W1.rowIs (w.heap.size + 1) 2 G (fun j => (ROW[j]?).getD undef) := by
    refine ⟨ROW, by rw [hW1, hN]; exact heap_alloc_new W.drew _, hRs, fun j hj => ?_⟩
    show ROW[j]? = some ((ROW[j]?).getD undef)
    rw [Array.getElem?_eq_getElem (by omega)]; rfl
  have hR : ∀ j u, j < i → (L.map numV)[j]? = some u → (ROW[j]?).getD undef = u := fun j u hj hu => by
    have h1 : ROW[j]? = some u := by
      rw [hROW, Array.append_assoc, Array.getElem?_append_left (by simp [hml]; omega), List.getElem?_toArray, List.getElem?_take_of_lt hj]; exact hu
    rw [h1]; rfl
  have hnew1 : IsBlk W1 w.heap.size 2 [.int .i64 x] := by rw [hW1]; exact (Below.heap_alloc W.drew _ _ (show w.heap.size < W.drew.heap.size by omega)).trans hnew
  have hcell1 : ∀ j v, (L.map numV)[j]? = some v → W1.cell? ⟨g, j, none⟩ = some v := fun j v hj => by
    rw [hW1, World.cell?_alloc_lt _ _ ⟨g, j, none⟩ (show g < W.drew.heap.size by omega)]; exact hcell j v hj
  have hcpA : ∀ (V : World), V.heap = W1.heap → ∀ ty dc, (Builtin.copy_ #[79, 79] ty #[.slice (some ⟨w.heap.size + 1, i, none⟩) (n + 1 - i) dc, .slice (some ⟨w.heap.size, 0, none⟩) 1 1]).run Tryz.prog V = .ok (goInt [numV x].length) (V.setCells (w.heap.size + 1) i [numV x]) := fun V hV ty dc => by
    have c1 : ∀ a, V.cell? a = W1.cell? a := fun a => by simp only [World.cell?, hV]
    have c2 : ∀ a, V.frozen? a = W1.frozen? a := fun a => by simp only [World.frozen?, hV]
    exact run_copy_cells V _ _ ty 2 (w.heap.size + 1) i (n + 1 - i) dc ⟨w.heap.size, 0, none⟩ 1 1 [numV x] Tryz.underlying79 hsz (by simp only [List.length_cons, List.length_nil, Nat.min_def]; split <;> omega)
      (fun j v hj => by
        match j, hj with
        | 0, hj => simp at hj; subst hj; rw [c1]; exact hnew1.cell rfl)
      (fun j hj => by rw [c1, rowIs_cell hrow1 (by simp at hj; omega)]; rfl) (fun j hj => by rw [c2]; exact rowIs_free hrow1 _) (fun v hv => by simp at hv; subst hv; rfl)
  obtain ⟨W2, hW2⟩ : ∃ W2, W2 = W1.setCells (w.heap.size + 1) i [numV x] := ⟨_, rfl⟩
  have hrow2 := rowIs_setCells [numV x] i W1 _ hrow1
  rw [← hW2] at hrow2
  have hcell2 : ∀ j v, (L.map numV)[j]? = some v → W2.cell? ⟨g, j, none⟩ = some v := fun j v hj => by
    rw [hW2, World.cell?_setCells_out _ _ _ _ _ (fun h _ => absurd h (by dsimp only; omega))]; exact hcell1 j v hj
  have hcpB : ∀ (V : World), V.heap = W2.heap → ∀ ty dc sc, (Builtin.copy_ #[79, 79] ty #[.slice (some ⟨w.heap.size + 1, i + 1, none⟩) (n - i) dc, .slice (some ⟨g, i, none⟩) (n - i) sc]).run Tryz.prog V = .ok (goInt ((L.map numV).drop i).length) (V.setCells (w.heap.size + 1) (i + 1) ((L.map numV).drop i)) := fun V hV ty dc sc => by
    have c1 : ∀ a, V.cell? a = W2.cell? a := fun a => by simp only [World.cell?, hV]
    have c2 : ∀ a, V.frozen? a = W2.frozen? a := fun a => by simp only [World.frozen?, hV]
    exact run_copy_cells V _ _ ty 2 (w.heap.size + 1) (i + 1) (n - i) dc ⟨g, i, none⟩ (n - i) sc ((L.map numV).drop i) Tryz.underlying79 hsz (by rw [hdl]; simp only [Nat.min_def]; split <;> omega)
      (fun j v hj => by rw [List.getElem?_drop] at hj; rw [Addr.add_lit, c1]; exact hcell2 _ v hj)
      (fun j hj => by rw [c1, rowIs_cell hrow2 (by omega)]; rfl) (fun j hj => by rw [c2]; exact rowIs_free hrow2 _) (fun v hv => by
        obtain ⟨z, -, rfl⟩ := List.mem_map.1 (List.mem_of_mem_drop hv); rfl)
  have hrow3 := rowIs_setCells ((L.map numV).drop i) (i + 1) W2 _ hrow2
  have HFIN : Hid (∀ V : World, V.heap = (W2.setCells (w.heap.size + 1) (i + 1) ((L.map numV).drop i)).heap → V.ownsRow base 2 1 (.slice (some ⟨w.heap.size + 1, 0, none⟩) (n + 1) G) (n + 1) ((insL L i x).map numV)) := fun V hV => by
    refine own_of_rowIs (rowIs_same hrow3 (by rw [hV])) (by rw [List.length_map, insL_len x (by omega), hL]) (by omega) hGn hGm fun j u hj => ?_
    rcases insL_get (by omega) j u hj with ⟨h1, h2⟩ | ⟨h1, h2⟩ | ⟨h1, h2⟩
    · rw [if_neg (by omega), if_neg (by simp; omega)]; exact hR j u h1 h2
    · rw [if_neg (by omega), if_pos (by simp; omega), h1, Nat.sub_self, h2]; rfl
    · have hjl : j - 1 < n := by
        rcases Nat.lt_or_ge (j - 1) n with h | h
        · exact h
        · rw [List.getElem?_eq_none (by omega)] at h2; cases h2
      rw [if_pos (by rw [hdl]; omega), List.getElem?_drop, show i + (j - (i + 1)) = j - 1 by omega, h2]
      rfl
  have HFR : Hid (∀ V : World, V.heap = (W2.setCells (w.heap.size + 1) (i + 1) ((L.map numV).drop i)).heap → V.os = w.os → V.tape = w.tape → V.output = w.output → Fr w.heap.size (.slice (some ⟨g, 0, none⟩) n n) w V) := fun V hV ho ht hu => by
    obtain ⟨f1, f2, f3, f4, f5⟩ := setCells_fr (w.heap.size + 1) ((L.map numV).drop i) (i + 1) W2
    obtain ⟨e1, e2, e3, e4, e5⟩ := setCells_fr (w.heap.size + 1) [numV x] i W1
    rw [← hW2] at e1 e2 e3 e4 e5
    refine ⟨ho, ht, hu, ?_, fun k h1 h2 h3 => ?_⟩
    · rw [hV, f4, e4, hW1]; show w.heap.size ≤ (W.drew.alloc _).heap.size; rw [size_alloc]; show w.heap.size ≤ W.heap.size + 1; omega
    · rw [hV, f5 k (by omega), e5 k (by omega), hW1, Below.heap_alloc W.drew _ _ (show k < W.drew.heap.size by show k < W.heap.size; omega)]
      show W.heap[k]? = _
      rw [hW]; exact Below.heap_alloc _ _ _ h1
  have HS2 : Hid (W1.setCells (w.heap.size + 1) i [numV x] = W2) := Lib.hid hW2.symm
  have hA := hcpA W1 rfl
  have hB := hcpB (W1.setCells (w.heap.size + 1) i [numV x]).drew (by rw [hW2]; rfl)
  have HOS : Hid (W2.os = w.os ∧ W2.tape = w.tape ∧ W2.output = w.output) := by
    obtain ⟨e1, e2, e3, -, -⟩ := setCells_fr (w.heap.size + 1) [numV x] i W1
    rw [← hW2] at e1 e2 e3
    exact ⟨e1.trans (by rw [hW1, hW]; rfl), e2.trans (by rw [hW1, hW]; rfl), e3.trans (by rw [hW1, hW]; rfl)⟩
  have hi1 : ¬ ((i : Int) = (n : Int)) := by omega
  have hi2 : ((i : Int) == (n : Int)) = false := by simp; omega
  have hw1 : IntKind.i64.wrap ((i : Int) + 1) = (i : Int) + 1 := by rw [IntKind.wrap_i64]; omega
  have hb1 : (0 : Int) ≤ (i : Int) + 1 := by omega
  have htn : ((i : Int) + 1).toNat = i + 1 := by omega
  have hb2 : ¬ (G = i + 1) := by omega
  have hb3 : (i : Int) ≤ (n : Int) + 1 := by omega
  have hb4 : ¬ (G = i) := by omega
  have hb5 : ¬ (n = i) := by omega
  have hin : i ≤ n := by omega
  have hrm : (n : Int) < (n : Int) + 1 := by omega
  rw [← hW]
  clear hrow hrowW hrow1 hrow2 hrow3 hnew hnew1 hW1 hW2 hW hsz hml hdl htl hf hL hGm hbg hcell hcell1 hcell2 hcpA hcpB hold hik hkk hG hROW hRs hR hN hWs hi0 hz0 hzs hzb
  go_enter Tryz.func280, Tryz.ntmps280
  go_wp2_with (first
    | (at_builtin; refine Lib.wpList_append_run _ rfl _ _ _ _ rfl _ _ rfl rfl _ _ (hrz _) ?_)
    | (at_builtin; refine wpList_copyN _ rfl _ _ 79 79 rfl _ _ rfl rfl (hA _ _) ?_))
  go_region_law (refine step_copyN rfl _ _ 79 79 rfl _ _ (by simp [Act.eval, Act.put]) (by simp [Act.eval, Act.put]) (hB _ _ _) ?_)
  go_wp2
  go_ret
  have hV : ((W1.setCells (w.heap.size + 1) i [numV x]).drew.setCells (w.heap.size + 1) (i + 1) ((L.map numV).drop i)).heap = (W2.setCells (w.heap.size + 1) (i + 1) ((L.map numV).drop i)).heap := by rw [HS2.out, setCells_drew]; rfl
  obtain ⟨e1, e2, e3, -, -⟩ := setCells_fr (w.heap.size + 1) ((L.map numV).drop i) (i + 1) (W1.setCells (w.heap.size + 1) i [numV x]).drew
  refine ⟨G, rfl, HFIN.out _ hV, HFR.out _ hV (e1.trans ?_) (e2.trans ?_) (e3.trans ?_)⟩
  · rw [HS2.out]; exact HOS.out.1
  · rw [HS2.out]; exact HOS.out.2.1
  · rw [HS2.out]; exact HOS.out.2.2

theorem insL_getD {L : List Int} {i : Nat} {x : Int} (h : i ≤ L.length) (j : Nat) : (insL L i x).getD j 0 = if j < i then L.getD j 0 else if j = i then x else L.getD (j - 1) 0 := by
  unfold insL
  simp only [List.getD_eq_getElem?_getD]
  by_cases h1 : j < i
  · rw [if_pos h1, List.getElem?_append_left (by rw [List.length_take]; omega), List.getElem?_take_of_lt h1]
  · rw [if_neg h1, List.getElem?_append_right (by rw [List.length_take]; omega), List.length_take, Nat.min_eq_left h]
    by_cases h2 : j = i
    · subst h2; rw [if_pos rfl, Nat.sub_self]; rfl
    · rw [if_neg h2]
      obtain ⟨d, rfl⟩ : ∃ d, j = i + 1 + d := ⟨j - i - 1, by omega⟩
      rw [show i + 1 + d - i = d + 1 by omega, List.getElem?_cons_succ, List.getElem?_drop, show i + 1 + d - 1 = i + d by omega]
theorem insL_mem {L : List Int} {i : Nat} {x q : Int} : q ∈ insL L i x ↔ q = x ∨ q ∈ L := by
  unfold insL
  rw [List.mem_append, List.mem_cons]
  constructor
  · rintro (h | h | h)
    · exact .inr (List.mem_of_mem_take h)
    · exact .inl h
    · exact .inr (List.mem_of_mem_drop h)
  · rintro (h | h)
    · exact .inr (.inl h)
    · rw [← List.take_append_drop i L, List.mem_append] at h
      rcases h with h | h
      · exact .inl h
      · exact .inr (.inr h)
theorem insL_srt {L : List Int} {x : Int} {i : Nat} (hS : Srt L) (hc : Cut L x i) (hn : ¬ (i < L.length ∧ L.getD i 0 = x)) : Srt (insL L i x) := by
  intro a b hab hb
  have hil := hc.le
  rw [insL_len x hil] at hb
  rw [insL_getD hil, insL_getD hil]
  by_cases h1 : b < i
  · rw [if_pos h1, if_pos (by omega)]; exact hS a b hab (by omega)
  · rw [if_neg h1]
    by_cases h2 : b = i
    · rw [if_pos h2, if_pos (by omega)]; exact hc.lo a (by omega)
    · rw [if_neg h2]
      have hx := hc.hi (b - 1) (by omega) (by omega)
      by_cases h3 : a < i
      · rw [if_pos h3]; have := hc.lo a h3; omega
      · rw [if_neg h3]
        by_cases h4 : a = i
        · rw [if_pos h4]
          have hxi := hc.hi i (Nat.le_refl _) (by omega)
          by_cases h5 : b - 1 = i
          · rw [h5]
            have : L.getD i 0 ≠ x := fun e => hn ⟨by omega, e⟩
            omega
          · have := hS i (b - 1) (by omega) (by omega); omega
        · rw [if_neg h4]; exact hS (a - 1) (b - 1) (by omega) (by omega)
/-- what is added to an increasing list keeps it increasing; it has x besides -/
theorem added_srt {L L' : List Int} {x : Int} (hS : Srt L) (ha : Added L x L') : Srt L' ∧ ∀ q, q ∈ L' ↔ q = x ∨ q ∈ L := by
  obtain ⟨i, hc, rfl⟩ := ha
  by_cases h : i < L.length ∧ L.getD i 0 = x
  · rw [if_pos h]
    refine ⟨hS, fun q => ⟨.inr, ?_⟩⟩
    rintro (rfl | hq)
    · rw [← h.2]; exact getD_lt h.1
    · exact hq
  · rw [if_neg h]
    exact ⟨insL_srt hS hc h, fun q => insL_mem⟩
theorem added_len {L L' : List Int} {x : Int} (ha : Added L x L') : L'.length ≤ L.length + 1 := by
  obtain ⟨i, hc, rfl⟩ := ha
  split
  · omega
  · exact Nat.le_of_eq (insL_len x hc.le)

set_option maxHeartbeats 4000000 in
set_option maxRecDepth 100000 in
theorem add_any (B : Nat) (v : Value) (base : Nat) (L : List Int) (x : Int) (w : World) (hn : L.length ≤ 1048576) (hBb : B < base) (hbase : base ≤ w.heap.size) (hS : Srt L)
    (hB : IsBlk w B 291 [v]) (hown : w.ownsRow base 2 1 v L.length (L.map numV)) :
    Calls Tryz.prog 258 #[.pointer (some ⟨B, 0, none⟩), .int .i64 x] w (RetAdd B base v L x w) := by
  by_cases hmid : ∃ i, Cut L x i ∧ i < L.length ∧ L.getD i 0 ≠ x
  case neg =>
    exact add_end B v base L x w hn hBb hbase hS (fun i hc => by
      by_cases h1 : i < L.length
      · left
        refine ⟨h1, ?_⟩
        by_cases h2 : L.getD i 0 = x
        · exact h2
        · exact absurd ⟨i, hc, h1, h2⟩ hmid
      · right; have := hc.le; omega) hB hown
  obtain ⟨A, cap, rfl⟩ := own_slice hown
  have hc : w.cell? ⟨B, 0, none⟩ = some (.slice A L.length cap) := hB.cell rfl
  have hBlt := hB.lt
  have HOW := Lib.hid hown; have HBK := Lib.hid hB; have HS := Lib.hid hS; have HM := Lib.hid hmid
  clear hown hB hS hmid
  go_enter Tryz.func258, Tryz.ntmps258
  go_wp2_with fail
  refine (search_any A L.length cap L x w hn HS.out ((owNs_of_own HOW.out).rd (Nat.le_refl _))).mono ?_
  rintro e w1 ⟨i, hcut, rfl, rfl⟩
  obtain ⟨hil, hix⟩ : i < L.length ∧ L.getD i 0 ≠ x := by
    obtain ⟨j, hj, hjl, hjx⟩ := HM.out
    have e : i = j := by
      rcases Nat.lt_trichotomy i j with h | h | h
      · have h1 := hj.lo i h; have h2 := hcut.hi i (Nat.le_refl _) (by omega); omega
      · exact h
      · have h1 := hcut.lo j h; have h2 := hj.hi j (Nat.le_refl _) hjl; omega
    subst e; exact ⟨hjl, hjx⟩
  have HC := Lib.hid hcut
  have HF : Hid (¬ (i < L.length ∧ L.getD i 0 = x)) := fun h => hix h.2
  rw [decide_eq_false HF.out]
  obtain ⟨g, rfl⟩ : ∃ g, A = some ⟨g, 0, none⟩ := by
    rcases HOW.out.2 with ⟨h0, hl⟩ | ⟨g', cap', cur, hv, -⟩
    · omega
    · simp only [Value.slice.injEq] at hv; exact ⟨g', hv.1⟩
  have HADD : Hid (Added L x (insL L i x)) := ⟨i, HC.out, by rw [if_neg HF.out]; rfl⟩
  have hil' := insL_len x (show i ≤ L.length by omega)
  have HIL := Lib.hid hil'
  have hcap : L.length ≤ cap := by
    obtain ⟨f, -, h, -⟩ := rowIs_of_own HOW.out
    exact h
  have hinL : insL L i x = insL L i x := rfl
  clear hcut hix hil' hinL
  by_cases hroom : L.length + 1 ≤ cap
  · go_wp2_with fail
    refine (insert_room g L.length cap i base L x w hn hil hroom rfl HOW.out).mono ?_
    rintro e w2 ⟨rfl, ho2, hfr2⟩
    have HO2 := Lib.hid ho2; have HFR := Lib.hid hfr2
    have hb2 : IsBlk w2 B 291 [.slice (some ⟨g, 0, none⟩) L.length cap] := (hfr2.block B hBlt (by omega) (fun e => by have := (own_block_ltR HOW.out e).1; omega)).trans HBK.out
    have HB2 := Lib.hid hb2
    have hc2 : w2.cell? ⟨B, 0, none⟩ = some (.slice (some ⟨g, 0, none⟩) L.length cap) := hb2.cell rfl
    have hf2 : w2.frozen? ⟨B, 0, none⟩ = false := hb2.free
    clear ho2 hfr2 hb2 hc
    go_wp2
    refine bodyPost_ret (results_none rfl _ _ _) rfl ?_
    refine ⟨_, .slice (some ⟨g, 0, none⟩) (L.length + 1) cap, insL L i x, rfl, HADD.out, HB2.out.set _, by rw [HIL.out]; exact own_otherR HO2.out hBb _, ⟨HFR.out.os, HFR.out.tape, HFR.out.output, by simpa [World.setCell] using HFR.out.size, fun k h1 h2 h3 => (Below.heap_setCell _ _ _ _ (by dsimp only; omega)).trans (HFR.out.block k h1 (by omega) h3)⟩, fun q hq => .inl hq⟩
  · obtain rfl : cap = L.length := by omega
    go_wp2_with fail
    refine (insert_grow g L.length i base L x w hn hil rfl hbase HOW.out).mono ?_
    rintro e w2 ⟨cap2, rfl, ho2, hfr2⟩
    have HO2 := Lib.hid ho2; have HFR := Lib.hid hfr2
    have hb2 : IsBlk w2 B 291 [.slice (some ⟨g, 0, none⟩) L.length L.length] := (hfr2.block B hBlt (by omega) (fun e => by have := (own_block_ltR HOW.out e).1; omega)).trans HBK.out
    have HB2 := Lib.hid hb2
    have hc2 : w2.cell? ⟨B, 0, none⟩ = some (.slice (some ⟨g, 0, none⟩) L.length L.length) := hb2.cell rfl
    have hf2 : w2.frozen? ⟨B, 0, none⟩ = false := hb2.free
    clear ho2 hfr2 hb2 hc
    go_wp2
    refine bodyPost_ret (results_none rfl _ _ _) rfl ?_
    refine ⟨_, .slice (some ⟨w.heap.size + 1, 0, none⟩) (L.length + 1) cap2, insL L i x, rfl, HADD.out, HB2.out.set _, by rw [HIL.out]; exact own_otherR HO2.out hBb _, ⟨HFR.out.os, HFR.out.tape, HFR.out.output, by simpa [World.setCell] using HFR.out.size, fun k h1 h2 h3 => (Below.heap_setCell _ _ _ _ (by dsimp only; omega)).trans (HFR.out.block k h1 (by omega) h3)⟩, fun q hq => ?_⟩
    have hq' : w.heap.size + 1 = q := by simpa [Value.ownBlock] using hq
    right; omega
end Go.Proofs.YtfpibbhcecdbgaaGreatDoor

namespace Go.Proofs.YtfpibbhcecdbgaaGreatDoor
open Bt (Rc)

/-- the floor and the later Times of the first k records -/
def tmsTo (X : List Rc) (f : Int) : Nat → List Int
  | 0 => [f]
  | k + 1 => if f ≤ (X.getD k Rc.zero).t then pushT (tmsTo X f k) (X.getD k Rc.zero).t else tmsTo X f k
theorem tmsTo_yes {X : List Rc} {f : Int} {k : Nat} (h : f ≤ (X.getD k Rc.zero).t) : tmsTo X f (k + 1) = pushT (tmsTo X f k) (X.getD k Rc.zero).t := by simp only [tmsTo]; rw [if_pos h]
theorem tmsTo_no {X : List Rc} {f : Int} {k : Nat} (h : ¬ f ≤ (X.getD k Rc.zero).t) : tmsTo X f (k + 1) = tmsTo X f k := by simp only [tmsTo]; rw [if_neg h]
theorem tmsTo_len (X : List Rc) (f : Int) (k : Nat) : (tmsTo X f k).length ≤ k + 1 := by
  induction k with
  | zero => simp [tmsTo]
  | succ k ih =>
    simp only [tmsTo]
    split
    · have := pushT_len (tmsTo X f k) (X.getD k Rc.zero).t; omega
    · omega
theorem upw_one (f : Int) : Upw [f] f := ⟨fun a b h1 h2 => by simp at h2; omega, fun k hk => by simp at hk; subst hk; simp⟩
/-- at record k all times so far are at most its own, if that is from the floor on -/
theorem tms_upw {X : List Rc} (hX : hRight X = true) (f : Int) : ∀ k, k ≤ X.length → Upw (tmsTo X f k) (if f ≤ (prevR X k).t then (prevR X k).t else f) := by
  intro k
  induction k with
  | zero =>
    intro _
    split
    · rename_i h; exact (upw_one f).mono h
    · exact upw_one f
  | succ k ih =>
    intro hk
    have h := ih (by omega)
    have ht := (hRight_at hX (show k < X.length by omega)).2.2
    rw [prevR_succ]
    by_cases hf : f ≤ (X.getD k Rc.zero).t
    · rw [tmsTo_yes hf, if_pos hf]
      refine h.push ?_
      split <;> omega
    · rw [tmsTo_no hf, if_neg hf]
      rw [if_neg (by omega)] at h
      exact h
theorem tms_next {X : List Rc} (hX : hRight X = true) {f : Int} {k : Nat} (hk : k < X.length) (hf : f ≤ (X.getD k Rc.zero).t) : Upw (tmsTo X f k) (X.getD k Rc.zero).t := by
  have ht := (hRight_at hX hk).2.2
  refine (tms_upw hX f k (by omega)).mono ?_
  split <;> omega
theorem pushT_mem {T : List Int} {z q : Int} (h : Upw T z) : q ∈ pushT T z ↔ q = z ∨ q ∈ T := by
  unfold pushT
  split
  · rename_i hz
    constructor
    · exact .inr
    · rintro (rfl | h')
      · have h1 := h.le (T.length - 1) (by omega)
        have e : T.getD (T.length - 1) 0 = q := by omega
        rw [← e]; exact getD_lt (by omega)
      · exact h'
  · rw [List.mem_append, List.mem_singleton]
    exact ⟨fun h => h.symm, fun h => h.symm⟩
theorem tms_mem {X : List Rc} (hX : hRight X = true) (f q : Int) : ∀ k, k ≤ X.length → (q ∈ tmsTo X f k ↔ q = f ∨ ∃ j, j < k ∧ f ≤ (X.getD j Rc.zero).t ∧ (X.getD j Rc.zero).t = q) := by
  intro k
  induction k with
  | zero => intro _; simp [tmsTo]
  | succ k ih =>
    intro hk
    by_cases hf : f ≤ (X.getD k Rc.zero).t
    · rw [tmsTo_yes hf, pushT_mem (tms_next hX (by omega) hf), ih (by omega)]
      constructor
      · rintro (h | h | ⟨j, h1, h2⟩)
        · exact .inr ⟨k, by omega, hf, h.symm⟩
        · exact .inl h
        · exact .inr ⟨j, by omega, h2⟩
      · rintro (h | ⟨j, h1, h2, h3⟩)
        · exact .inr (.inl h)
        · by_cases e : j = k
          · subst e; exact .inl h3.symm
          · exact .inr (.inr ⟨j, by omega, h2, h3⟩)
    · rw [tmsTo_no hf, ih (by omega)]
      constructor
      · rintro (h | ⟨j, h1, h2⟩)
        · exact .inl h
        · exact .inr ⟨j, by omega, h2⟩
      · rintro (h | ⟨j, h1, h2, h3⟩)
        · exact .inl h
        · by_cases e : j = k
          · subst e; exact absurd h2 hf
          · exact .inr ⟨j, by omega, h2, h3⟩

/-- place i lies in the trail of one of the first m sectors at one of the times T -/
def Mk (X : List Rc) (T : List Int) (i : Nat) : Prop := ∃ t ∈ T, ∃ s : Nat, s < 6 ∧ i ∈ trl X (s : Int) X.length t
/-- Seq q does -/
def Seen (X : List Rc) (T : List Int) (q : Int) : Prop := ∃ t ∈ T, ∃ s : Nat, s < 6 ∧ ∃ r ∈ trlR X (s : Int) X.length t, r.q = q
theorem prev_lt {X : List Rc} (hX : hRight X = true) : ∀ {i j : Nat}, i < j → j < X.length → (X.getD i Rc.zero).q < (X.getD j Rc.zero).q := by
  intro i j
  induction j with
  | zero => intro h; omega
  | succ j ih =>
    intro h1 h2
    have h := (hRight_at hX h2).2.1
    rw [prevR_succ] at h
    by_cases e : i = j
    · subst e; exact h
    · have := ih (by omega) (by omega); omega
theorem seq_inj {X : List Rc} (hX : hRight X = true) {i j : Nat} (hi : i < X.length) (hj : j < X.length) (h : (X.getD i Rc.zero).q = (X.getD j Rc.zero).q) : i = j := by
  rcases Nat.lt_trichotomy i j with h1 | h1 | h1
  · have := prev_lt hX h1 hj; omega
  · exact h1
  · have := prev_lt hX h1 hi; omega
theorem seen_iff {X : List Rc} (hX : hRight X = true) (T : List Int) {i : Nat} (hi : i < X.length) : Seen X T (X.getD i Rc.zero).q ↔ Mk X T i := by
  constructor
  · rintro ⟨t, ht, s, hs, r, hr, hq⟩
    refine ⟨t, ht, s, hs, ?_⟩
    unfold trlR at hr
    obtain ⟨j, hj, rfl⟩ := List.mem_map.1 hr
    have := seq_inj hX (trl_lt X _ _ _ j hj) hi hq
    subst this; exact hj
  · rintro ⟨t, ht, s, hs, hi'⟩
    exact ⟨t, ht, s, hs, _, by unfold trlR; exact List.mem_map.2 ⟨i, hi', rfl⟩, rfl⟩
/-- the record that the floor is taken from, and its place -/
def flR (X : List Rc) : Rc := floorRecTo X X.length
def flP (X : List Rc) : Nat → Int
  | 0 => -1
  | k + 1 => if (X.getD k Rc.zero).k = 4 ∧ (X.getD k Rc.zero).o = floorR X then (k : Int) else flP X k
theorem floorTo_mono (X : List Rc) {j k : Nat} (h : j ≤ k) : floorTo X j ≤ floorTo X k := by
  induction k with
  | zero => obtain rfl : j = 0 := by omega
            exact Int.le_refl _
  | succ k ih =>
    by_cases e : j = k + 1
    · subst e; exact Int.le_refl _
    · have := ih (by omega)
      rw [floorTo_succ]; split <;> omega
theorem floorTo_ge (X : List Rc) {i k : Nat} (h : i < k) (h4 : (X.getD i Rc.zero).k = 4) : (X.getD i Rc.zero).o ≤ floorTo X k := by
  refine Int.le_trans ?_ (floorTo_mono X (show i + 1 ≤ k from h))
  rw [floorTo_succ]
  split
  · exact Int.le_refl _
  · rename_i hn
    have : ¬ floorTo X i ≤ (X.getD i Rc.zero).o := fun h' => hn ⟨h4, h'⟩
    omega
/-- a place of a valid history holds the floor's record just where the last floor of that height lies -/
theorem fl_iff {X : List Rc} (hX : hRight X = true) : ∀ k, k ≤ X.length → ∀ i, i < k → (floorTo X k = floorR X → (X.getD i Rc.zero = floorRecTo X k ↔ flP X k = (i : Int))) := by
  intro k
  induction k with
  | zero => intro _ i hi; omega
  | succ k ih =>
    intro hk i hi hfl
    by_cases h4 : (X.getD k Rc.zero).k = 4 ∧ (X.getD k Rc.zero).o = floorR X
    · have e1 : floorRecTo X (k + 1) = X.getD k Rc.zero := by
        simp only [floorRecTo]
        rw [if_pos]
        refine ⟨h4.1, ?_⟩
        rw [floorRecTo_o, h4.2, ← hfl]; exact floorTo_mono X (by omega)
      have e2 : flP X (k + 1) = (k : Int) := by simp only [flP]; rw [if_pos h4]
      rw [e1, e2]
      constructor
      · intro h
        have := seq_inj hX (show i < X.length by omega) (show k < X.length by omega) (by rw [h])
        omega
      · intro h
        obtain rfl : k = i := by omega
        rfl
    · have e1 : floorRecTo X (k + 1) = floorRecTo X k ∧ floorTo X k = floorR X := by
        rw [floorTo_succ] at hfl
        simp only [floorRecTo]
        by_cases hc : (X.getD k Rc.zero).k = 4 ∧ floorTo X k ≤ (X.getD k Rc.zero).o
        · rw [if_pos hc] at hfl; exact absurd ⟨hc.1, hfl⟩ h4
        · rw [if_neg hc] at hfl
          rw [floorRecTo_o, if_neg hc]
          exact ⟨rfl, hfl⟩
      have e2 : flP X (k + 1) = flP X k := by simp only [flP]; rw [if_neg h4]
      rw [e1.1, e2]
      by_cases e : i = k
      · subst e
        constructor
        · intro h
          exfalso
          -- the floor's record lies ahead of i, or is the zero one
          have hz : ∀ m, m ≤ i → floorRecTo X m = Rc.zero ∨ ∃ j, j < m ∧ floorRecTo X m = X.getD j Rc.zero := by
            intro m
            induction m with
            | zero => intro _; exact .inl rfl
            | succ m ihm =>
              intro hm
              simp only [floorRecTo]
              split
              · exact .inr ⟨m, by omega, rfl⟩
              · rcases ihm (by omega) with h' | ⟨j, h1, h2⟩
                · exact .inl h'
                · exact .inr ⟨j, by omega, h2⟩
          rcases hz i (Nat.le_refl _) with h' | ⟨j, h1, h2⟩
          · have hok := (hRight_at hX (show i < X.length by omega)).1
            rw [h, h'] at hok
            exact absurd hok.1 (by decide)
          · have := seq_inj hX (show i < X.length by omega) (show j < X.length by omega) (by rw [h, h2])
            omega
        · intro h
          exfalso
          have hp : ∀ m, flP X m < (m : Int) := by
            intro m
            induction m with
            | zero => simp [flP]
            | succ m ihm => simp only [flP]; split <;> omega
          have := hp i
          omega
      · exact ih (by omega) i (by omega) e1.2
open Classical in
/-- place i is needed -/
noncomputable def nd (X : List Rc) (i : Nat) : Bool := decide (Mk X (tmsTo X (floorR X) X.length) i ∨ flP X X.length = (i : Int))
open Classical in
theorem nd_iff {X : List Rc} (hX : hRight X = true) {i : Nat} (hi : i < X.length) : nd X i = true ↔ (X.getD i Rc.zero = flR X ∨ Seen X (tmsTo X (floorR X) X.length) (X.getD i Rc.zero).q) := by
  unfold nd
  rw [decide_eq_true_eq, seen_iff hX _ hi, ← fl_iff hX X.length (Nat.le_refl _) i hi rfl]
  exact Or.comm
noncomputable def ndTo (X : List Rc) : Nat → List Int
  | 0 => []
  | k + 1 => if nd X k = true then ndTo X k ++ [(X.getD k Rc.zero).q] else ndTo X k
noncomputable def prTo (X : List Rc) : Nat → List Rc
  | 0 => []
  | k + 1 => if (nd X k || decide (k + 1 = X.length)) = true then prTo X k ++ [X.getD k Rc.zero] else prTo X k
noncomputable def neededOf (X : List Rc) : List Int := if hRight X = true then ndTo X X.length else []
noncomputable def pruneOf (X : List Rc) : List Rc := if hRight X = true then prTo X X.length else []
theorem ndTo_yes {X : List Rc} {k : Nat} (h : nd X k = true) : ndTo X (k + 1) = ndTo X k ++ [(X.getD k Rc.zero).q] := by simp only [ndTo]; rw [if_pos h]
theorem ndTo_no {X : List Rc} {k : Nat} (h : nd X k = false) : ndTo X (k + 1) = ndTo X k := by simp only [ndTo]; rw [if_neg (by rw [h]; simp)]
theorem prTo_yes {X : List Rc} {k : Nat} (h : (nd X k || decide (k + 1 = X.length)) = true) : prTo X (k + 1) = prTo X k ++ [X.getD k Rc.zero] := by simp only [prTo]; rw [if_pos h]
theorem prTo_no {X : List Rc} {k : Nat} (h : (nd X k || decide (k + 1 = X.length)) = false) : prTo X (k + 1) = prTo X k := by simp only [prTo]; rw [if_neg (by rw [h]; simp)]
theorem ndTo_len (X : List Rc) (k : Nat) : (ndTo X k).length ≤ k := by
  induction k with
  | zero => simp [ndTo]
  | succ k ih => simp only [ndTo]; split
                 · rw [List.length_append]; simp; omega
                 · omega
theorem prTo_len (X : List Rc) (k : Nat) : (prTo X k).length ≤ k := by
  induction k with
  | zero => simp [prTo]
  | succ k ih => simp only [prTo]; split
                 · rw [List.length_append]; simp; omega
                 · omega
theorem neededOf_len (X : List Rc) : (neededOf X).length ≤ X.length := by
  unfold neededOf
  split
  · exact ndTo_len _ _
  · simp
theorem pruneOf_len (X : List Rc) : (pruneOf X).length ≤ X.length := by
  unfold pruneOf
  split
  · exact prTo_len _ _
  · simp
theorem neededOf_no {X : List Rc} (h : ¬ hRight X = true) : neededOf X = [] := by unfold neededOf; rw [if_neg h]
theorem neededOf_yes {X : List Rc} (h : hRight X = true) : neededOf X = ndTo X X.length := by unfold neededOf; rw [if_pos h]
theorem pruneOf_no {X : List Rc} (h : ¬ hRight X = true) : pruneOf X = [] := by unfold pruneOf; rw [if_neg h]
theorem pruneOf_yes {X : List Rc} (h : hRight X = true) : pruneOf X = prTo X X.length := by unfold pruneOf; rw [if_pos h]
end Go.Proofs.YtfpibbhcecdbgaaGreatDoor

namespace Go.Proofs.YtfpibbhcecdbgaaGreatDoor
open Go.RowKit
open Bt (Rc)

theorem times_nil {X : List Rc} {s : Int} (h : ¬ (hRight X = true ∧ 0 ≤ s ∧ s ≤ 5)) : timesOf X s = [] := by unfold timesOf; rw [if_neg h]
theorem times_yes {X : List Rc} {s : Int} (h : hRight X = true ∧ 0 ≤ s ∧ s ≤ 5) : timesOf X s = timesTo X s (floorR X) X.length := by unfold timesOf; rw [if_pos h]
theorem Fr.below {B base : Nat} {v : Value} {w w' : World} {n size : Nat} {e : TypeId} {xs : List Value} (h : Fr B v w w') (ho : w.ownsRow base e size v n xs) (hb : B ≤ base) (hs : B ≤ w.heap.size) : Below B w w' :=
  ⟨h.os, h.tape, h.output, h.size, fun k hk => h.block k (by omega) (by omega) (fun e => by have := (own_block_ltR ho e).1; omega)⟩

end Go.Proofs.YtfpibbhcecdbgaaGreatDoor

namespace Go.Proofs.YtfpibbhcecdbgaaGreatDoor
open Go.RowKit
open Bt (Rc)

theorem rcEq_iff {a b : Rc} : rcEq a b = true ↔ a = b := by
  obtain ⟨k, s, q, t, o, d⟩ := a
  obtain ⟨k', s', q', t', o', d'⟩ := b
  simp only [rcEq, Bool.and_eq_true, beq_iff_eq, Rc.mk.injEq]
  constructor
  · rintro ⟨h1, h2, h3, h4, h5, h6⟩
    rw [ByteArray.toList_eq, ByteArray.toList_eq] at h6
    refine ⟨h1, h2, h3, h4, h5, ?_⟩
    rw [← bstr_of d, ← bstr_of d', h6]
  · rintro ⟨h1, h2, h3, h4, h5, h6⟩
    exact ⟨h1, h2, h3, h4, h5, by rw [h6]⟩

set_option maxHeartbeats 4000000 in
set_option maxRecDepth 100000 in
theorem timesFrom_any (A : Option Addr) (n ca : Nat) (X : List Rc) (f : Int) (w : World) (hr : hRight X = true) (hA : RdRc w w.heap.size A n X) :
    Calls Tryz.prog 256 #[.slice A n ca, .int .i64 f] w (RetNs w (tmsTo X f n)) := by
  have hn : n ≤ 48 := by rw [← hA.1]; exact hRight_len hr
  have HL := Lib.hid hA.1
  have HA := Lib.hid hA; have HR := Lib.hid hr; clear hA hr
  go_enter Tryz.func256, Tryz.ntmps256
  go_wp2_with fail
  have hb4 : Below w.heap.size w (w.alloc (.cells #[.slice none 0 0] 291)) := (Below.refl _ _).alloc (Nat.le_refl _) _
  have k4 := isBlk_new w 291 [.slice none 0 0]
  have hs4 : w.heap.size + 1 ≤ (w.alloc (.cells #[.slice none 0 0] 291)).heap.size := by simp
  change IsBlk (w.alloc (.cells #[.slice none 0 0] 291)) _ _ _ at k4
  generalize w.alloc (.cells #[.slice none 0 0] 291) = W4 at hb4 k4 hs4 ⊢
  have HB4 := Lib.hid hb4
  refine (add_end w.heap.size (.slice none 0 0) (w.heap.size + 1) [] f W4 (by simp) (by omega) hs4 (fun a b _ h => absurd h (by simp)) (fun i hc => .inr (by have := hc.le; simp at this; simp; omega)) k4 (World.ownsRow_nil _ _ _ _)).mono ?_
  rintro e w5 ⟨rv, v5, T5, rfl, had, hbl5, how5, hfr5, -⟩
  have hT5 : T5 = [f] := (upw_nil f).added had
  subst hT5
  have HBL5 := Lib.hid hbl5; have HOW5 := Lib.hid how5
  have HW5 : Hid (Below w.heap.size w w5) := hb4.trans (hfr5.below (World.ownsRow_nil W4 (w.heap.size + 1) 2 1) (by omega) (by omega))
  clear hbl5 how5 hfr5 had hb4 k4
  go_wp2
  go_loopw [12] (fun i wr => ∃ (k : Nat) (v : Value), k ≤ n ∧ i = .int .i64 (k : Nat) ∧ IsBlk wr w.heap.size 291 [v] ∧ wr.ownsRow (w.heap.size + 1) 2 1 v (tmsTo X f k).length ((tmsTo X f k).map numV) ∧ Below w.heap.size w wr) (fun i _ => n - (intOf i).toNat)
  case atStart => exact ⟨0, v5, by omega, rfl, HBL5.out, HOW5.out, HW5.out⟩
  case round =>
    obtain ⟨k, v, hk, rfl, hblk, hown, hbel⟩ := hrel
    have HBL := Lib.hid hblk; have HOW := Lib.hid hown; have HW := Lib.hid hbel
    have hzr : w.heap.size < wr.heap.size := hblk.lt
    clear hblk hown
    by_cases hlt : k < n
    · obtain ⟨g, off, rfl, hg, hc0, hc1, hc2, hc3, hc4, hc5⟩ := ((HA.out.below hbel)).at hlt
      have HYE := Lib.hid (fun h => tmsTo_yes (X := X) (f := f) (k := k) h)
      have HNO := Lib.hid (fun h => tmsTo_no (X := X) (f := f) (k := k) h)
      have HU : Hid (f ≤ (X.getD k Rc.zero).t → Upw (tmsTo X f k) (X.getD k Rc.zero).t) := Lib.hid (fun h => tms_next HR.out (by rw [HL.out]; exact hlt) h)
      have hTl := tmsTo_len X f k
      generalize X.getD k Rc.zero = r at *
      generalize tmsTo X f k = T at *
      clear hbel
      have hb5 : ∀ o, Below wr.heap.size wr (wr.alloc o) := fun o => (Below.refl _ _).alloc (Nat.le_refl _) _
      have HB5 := Lib.hid hb5
      clear hb5
      by_cases ht : f ≤ r.t
      · have HU' := Lib.hid (HU.out ht)
        have HYE' := Lib.hid (HYE.out ht)
        clear HYE HNO HU
        go_wp2_with fail
        have hb6 := HB5.out (.cells #[.int .i64 r.k, .int .i64 r.s, .int .i64 r.q, .int .i64 r.t, .int .i64 r.o, .string r.d] 68)
        generalize wr.alloc (.cells #[.int .i64 r.k, .int .i64 r.s, .int .i64 r.q, .int .i64 r.t, .int .i64 r.o, .string r.d] 68) = w6 at hb6 ⊢
        have HBL6 := Lib.hid (HBL.out.below hb6 HBL.out.lt)
        have HOW6 := Lib.hid (own_belowR HOW.out hb6)
        have HW6 := Lib.hid (HW.out.trans (hb6.mono (by omega)))
        have hz6 : w.heap.size < w6.heap.size := HBL6.out.lt
        clear hb6
        refine (add_end w.heap.size v (w.heap.size + 1) T r.t w6 (by omega) (by omega) (by omega) HU'.out.srt HU'.out.ends HBL6.out HOW6.out).mono ?_
        rintro e w7 ⟨rv, v', T', rfl, had, hbl7, how7, hfr7, -⟩
        have hT' := HU'.out.added had
        subst hT'
        have HBL7 := Lib.hid hbl7; have HOW7 := Lib.hid how7
        have HW7 := Lib.hid (HW6.out.trans (hfr7.below HOW6.out (by omega) (by omega)))
        clear hbl7 how7 hfr7 had
        go_wp2
        go_roundw
        case rel => exact ⟨k + 1, v', by omega, by go_num, HBL7.out, by rw [HYE'.out]; exact HOW7.out, HW7.out⟩
        case measure => simp [intOf]; omega
      · have HNO' := Lib.hid (HNO.out ht)
        have ht' : r.t < f := by omega
        clear ht HYE HNO HU
        go_wp2
        go_roundw
        case rel => exact ⟨k + 1, v, by omega, by go_num, HBL.out.alloc _, by rw [HNO'.out]; exact own_belowR HOW.out (HB5.out _), HW.out.trans ((HB5.out _).mono (by omega))⟩
        case measure => simp [intOf]; omega
    · obtain rfl : k = n := by omega
      obtain ⟨Av, cv, rfl⟩ := own_slice HOW.out
      have hv : wr.cell? ⟨w.heap.size, 0, none⟩ = some (.slice Av (tmsTo X f k).length cv) := HBL.out.cell rfl
      clear hbel
      go_wp2
      go_ret
      exact ⟨Av, cv, rfl, (owNs_of_own HOW.out).mono (by omega) (Nat.le_refl _), HW.out⟩

theorem cut_mem {L : List Int} {x : Int} {i : Nat} (hS : Srt L) (hc : Cut L x i) : (i < L.length ∧ L.getD i 0 = x) ↔ x ∈ L := by
  constructor
  · rintro ⟨h1, h2⟩; rw [← h2]; exact getD_lt h1
  · intro h
    obtain ⟨j, hj, hjx⟩ := mem_getD h 0
    have e : i = j := by
      rcases Nat.lt_trichotomy i j with h | h | h
      · have h1 := hc.hi i (Nat.le_refl _) (by omega); have h2 := hS i j h hj; omega
      · exact h
      · have h1 := hc.lo j h; omega
    subst e; exact ⟨hj, hjx⟩
set_option maxHeartbeats 1000000 in
theorem has_any (B : Nat) (A : Option Addr) (cap : Nat) (L : List Int) (x : Int) (w : World) (hn : L.length ≤ 1048576) (hS : Srt L) (hB : w.cell? ⟨B, 0, none⟩ = some (.slice A L.length cap)) (hA : RdNs w w.heap.size A L.length L) :
    Calls Tryz.prog 260 #[.pointer (some ⟨B, 0, none⟩), .int .i64 x] w fun e w' => e = .returned (.bool (decide (x ∈ L))) ∧ w = w' := by
  have HA := Lib.hid hA; have HS := Lib.hid hS
  clear hA hS
  go_enter Tryz.func260, Tryz.ntmps260
  go_wp2_with fail
  refine (search_any A L.length cap L x w hn HS.out HA.out).mono ?_
  rintro e w1 ⟨i, hcut, rfl, rfl⟩
  have HC : Hid (decide (i < L.length ∧ L.getD i 0 = x) = decide (x ∈ L)) := by show _ = _; exact decide_eq_decide.2 (cut_mem HS.out hcut)
  rw [HC.out]
  clear hcut
  go_wp2
  go_ret
  exact ⟨rfl, rfl⟩

/-- what the test that neededTest gives back holds on to -/
structure Held (w : World) (B3 B4 : Nat) (fl : Rc) (L : List Int) : Prop where
  b3 : IsBlk w B3 68 (recC fl)
  srt : Srt L
  len : L.length ≤ 1048576
  b4 : ∃ A cap, IsBlk w B4 291 [.slice A L.length cap] ∧ RdNs w w.heap.size A L.length L
theorem Held.below {w w' : World} {B3 B4 : Nat} {fl : Rc} {L : List Int} (h : Held w B3 B4 fl L) (hb : Below w.heap.size w w') : Held w' B3 B4 fl L := by
  obtain ⟨A, cap, h1, h2⟩ := h.b4
  refine ⟨h.b3.below hb h.b3.lt, h.srt, h.len, A, cap, h1.below hb h1.lt, ?_⟩
  have := h2.below hb
  exact ⟨this.1, fun hn => by obtain ⟨g, h3, h4, h5⟩ := this.2 hn; exact ⟨g, h3, Nat.lt_of_lt_of_le h4 hb.size, h5⟩⟩
def tstB (fl : Rc) (L : List Int) (r : Rc) : Bool := rcEq r fl || decide (r.q ∈ L)
set_option maxHeartbeats 1000000 in
set_option maxRecDepth 100000 in
theorem test_any (B3 B4 : Nat) (fl r : Rc) (L : List Int) (w : World) (hH : Held w B3 B4 fl L) :
    Calls Tryz.prog 259 #[recV r, .pointer (some ⟨B3, 0, none⟩), .pointer (some ⟨B4, 0, none⟩)] w fun e w' => e = .returned (.bool (tstB fl L r)) ∧ Below w.heap.size w w' := by
  have hne := equalIn_rec r fl
  have hgu := rec_guard
  have HH := Lib.hid (hH.below ((Below.refl _ w).alloc (Nat.le_refl _) (.cells #[.int .i64 r.k, .int .i64 r.s, .int .i64 r.q, .int .i64 r.t, .int .i64 r.o, .string r.d] 68)))
  have hlt3 := hH.b3.lt
  clear hH
  obtain ⟨y0, y1, y2, y3, y4, y5⟩ := rcCells HH.out.b3
  have HB : Hid (∀ o, Below w.heap.size w (w.alloc o)) := fun o => (Below.refl _ _).alloc (Nat.le_refl _) _
  have HT : Hid (tstB fl L r = (rcEq r fl || decide (r.q ∈ L))) := Lib.hid rfl
  obtain ⟨O, hO⟩ : ∃ O, O = tstB fl L r := ⟨_, rfl⟩
  rw [← hO] at HT ⊢
  clear hO
  cases he : rcEq r fl with
  | true =>
    have HO : Hid (O = true) := by show _ = _; rw [HT.out, he]; rfl
    rw [he] at hne
    clear he HT
    go_enter Tryz.func259, Tryz.ntmps259
    go_wp2
    go_ret
    exact ⟨ret_b HO.out.symm, HB.out _⟩
  | false =>
    have HO : Hid (O = decide (r.q ∈ L)) := by show _ = _; rw [HT.out, he]; rfl
    rw [he] at hne
    clear he HT
    obtain ⟨A, cap, k4, hL⟩ := HH.out.b4
    have c4 := k4.cell (j := 0) rfl
    have HL := Lib.hid hL
    clear k4 hL
    go_enter Tryz.func259, Tryz.ntmps259
    go_wp2_with fail
    refine (has_any B4 A cap L r.q _ HH.out.len HH.out.srt c4 HL.out).mono ?_
    rintro e w2 ⟨rfl, rfl⟩
    generalize decide (r.q ∈ L) = bb at HO
    go_wp2
    go_ret
    exact ⟨ret_b HO.out.symm, HB.out _⟩
end Go.Proofs.YtfpibbhcecdbgaaGreatDoor

namespace Go.Proofs.YtfpibbhcecdbgaaGreatDoor
open Go.RowKit Go.Shelf
open Bt (Rc)
attribute [local go_sem] Oper.semAt_some

/-- what a record leaves in its sector -/
structure Vo where
  there : Bool
  data : ByteArray
  code : Int
def valR (r : Rc) : Vo := if r.k = 1 then ⟨true, r.d, 0⟩ else ⟨false, ⟨#[]⟩, 0⟩
abbrev voV (v : Vo) : Value := .agg #[.bool v.there, .string v.data, .int .i64 v.code]
/-- the last record of a trail, the zero one without -/
def endR (L : List Rc) : Rc := L.getLastD Rc.zero
theorem endR_snoc (L : List Rc) (r : Rc) : endR (L ++ [r]) = r := by simp [endR, List.getLastD_eq_getLast?]
def valX (X : List Rc) (s : Int) (n : Nat) (a : Int) : Vo := valR (endR (trlR X s n a))
def asOf (X : List Rc) (s a : Int) : Vo :=
  if hRight X = true ∧ (0 ≤ s ∧ s ≤ 5) ∧ (0 ≤ a ∧ a ≤ 1000000) then (if a < floorR X then ⟨false, ⟨#[]⟩, 12⟩ else valX X s X.length a) else ⟨false, ⟨#[]⟩, 1⟩
theorem isBlk_own {β : Type} (g : Nat) (e : TypeId) (cs : β → List Value) : Own (fun s W => IsBlk W g e (cs s)) := fun _ _ _ _ hs hg hr => hs.kept hg hr
theorem endR_small {X : List Rc} (hS : SmallR X) (s a : Int) (n : Nat) : (endR (trlR X s n a)).d.size ≤ 1048576 := by
  unfold endR
  rw [List.getLastD_eq_getLast?]
  cases h : (trlR X s n a).getLast? with
  | none => show (0 : Nat) ≤ _; omega
  | some r =>
    have hm := List.mem_of_getLast? h
    unfold trlR at hm
    obtain ⟨i, -, rfl⟩ := List.mem_map.1 hm
    exact hS.at i

set_option maxRecDepth 100000 in
set_option maxHeartbeats 4000000 in
theorem valueAt_any (A : Option Addr) (n ca : Nat) (X : List Rc) (s a : Int) (w : World) (hS : SmallR X) (hca : n ≤ ca) (hA : RdRc w w.heap.size A n X) :
    Calls Tryz.prog 241 #[.slice A n ca, .int .i64 s, .int .i64 a] w fun e w' => e = .returned (voV (valX X s n a)) ∧ Below w.heap.size w w' := by
  have hn : n ≤ 1048576 := by rw [← hA.1]; exact hS.1
  have HA := Lib.hid hA; have HS := Lib.hid hS; clear hA hS
  refine (callsIn_wide (n := 3)).1 ?_
  refine callsIn_of_wp_marks Tryz.func241 rfl trivial ?_ rfl
  simp only [Tryz.ntmps241, List.size_toArray, List.length_cons, List.length_nil, Nat.reduceAdd, Nat.reduceSub, Array.replicate_succ, Array.replicate_zero, List.push_toArray, List.append_toArray, List.nil_append, List.cons_append]
  gi_wp2_with fail
  refine ⟨trivial, ?_⟩
  have kR := (isBlk_new w 54 [.bool false, .string ⟨#[]⟩, .int .i64 0]).alloc (.cells (recC Rc.zero).toArray 68)
  have kL := isBlk_new (w.alloc (.cells #[.bool false, .string ⟨#[]⟩, .int .i64 0] 54)) 68 (recC Rc.zero)
  rw [size_alloc] at kL
  have hbO : Below w.heap.size w ((w.alloc (.cells #[.bool false, .string ⟨#[]⟩, .int .i64 0] 54)).alloc (.cells (recC Rc.zero).toArray 68)) := ((Below.refl _ _).alloc (Nat.le_refl _) _).alloc (by simp) _
  have hsO : ((w.alloc (.cells #[.bool false, .string ⟨#[]⟩, .int .i64 0] 54)).alloc (.cells (recC Rc.zero).toArray 68)).heap.size = w.heap.size + 2 := by simp
  change IsBlk ((w.alloc (.cells #[.bool false, .string ⟨#[]⟩, .int .i64 0] 54)).alloc (.cells (recC Rc.zero).toArray 68)) _ _ _ at kR
  change IsBlk ((w.alloc (.cells #[.bool false, .string ⟨#[]⟩, .int .i64 0] 54)).alloc (.cells (recC Rc.zero).toArray 68)) _ _ _ at kL
  change CallsIn _ _ _ _ _ ((w.alloc (.cells #[.bool false, .string ⟨#[]⟩, .int .i64 0] 54)).alloc (.cells (recC Rc.zero).toArray 68)) _
  generalize (w.alloc (.cells #[.bool false, .string ⟨#[]⟩, .int .i64 0] 54)).alloc (.cells (recC Rc.zero).toArray 68) = wO at kR kL hbO hsO ⊢
  refine (callsIn_wide.2 (trailOf_any A n ca s a wO)).mono ?_
  rintro e w3 ⟨rfl, rfl⟩
  have b0 := ((Boxed.new wO 58 (.slice A n ca)).alloc (.cells #[.int .i64 s] 2)).alloc (.cells #[.int .i64 a] 2)
  have b1 := (Boxed.new (wO.alloc (.cells #[.slice A n ca] 58)) 2 (.int .i64 s)).alloc (.cells #[.int .i64 a] 2)
  have b2 := Boxed.new ((wO.alloc (.cells #[.slice A n ca] 58)).alloc (.cells #[.int .i64 s] 2)) 2 (.int .i64 a)
  have hb3 : Below wO.heap.size wO (((wO.alloc (.cells #[.slice A n ca] 58)).alloc (.cells #[.int .i64 s] 2)).alloc (.cells #[.int .i64 a] 2)) := (((Below.refl _ _).alloc (Nat.le_refl _) _).alloc (by simp) _).alloc (by simp; omega) _
  have hs3 : (((wO.alloc (.cells #[.slice A n ca] 58)).alloc (.cells #[.int .i64 s] 2)).alloc (.cells #[.int .i64 a] 2)).heap.size = wO.heap.size + 3 := by simp
  simp only [World.size_alloc] at b1 b2
  generalize ((wO.alloc (.cells #[.slice A n ca] 58)).alloc (.cells #[.int .i64 s] 2)).alloc (.cells #[.int .i64 a] 2) = W0 at b0 b1 b2 hb3 hs3 ⊢
  have hB0 : Below w.heap.size w W0 := hbO.trans (hb3.mono hbO.size)
  have kR0 := kR.below hb3 kR.lt
  have kL0 := kL.below hb3 kL.lt
  rw [hsO] at b0 b1 b2
  have hsz1 : w.heap.size + 5 ≤ W0.heap.size := by omega
  have hR0 := HA.out.below hB0
  clear hs3 hbO hb3 kR kL
  gi_wp2
  clear hsO
  refine wpIn_rangeFunc_ownH rfl (by omega) (gf := 277) (lb := #[.pointer (some ⟨w.heap.size + 2, 0, none⟩), .pointer (some ⟨w.heap.size + 2 + 1 + 1, 0, none⟩), .pointer (some ⟨w.heap.size + 2 + 1, 0, none⟩)]) rfl trivial (enters_of Tryz.func277 (by kernel_rfl) rfl)
    (trail_stops _ (by omega) (w.heap.size + 2) (w.heap.size + 2 + 1 + 1) (w.heap.size + 2 + 1) w.heap.size A n ca X s a W0 hn hca (by omega) (by omega) (by omega) b0.cell b2.cell b1 hR0) KpB.t (KpB.b (by omega) (by omega)) (Below.refl _ _) (fun _ => rfl)
    (fun pre W => (IsBlk W (w.heap.size + 1) 68 (recC (endR pre)) ∧ IsBlk W w.heap.size 54 [.bool false, .string ⟨#[]⟩, .int .i64 0]) ∧ (Below w.heap.size w W ∧ W0.heap.size ≤ W.heap.size))
    (fun _ _ _ => False)
    (OwnFrom.and (OwnFrom.and (Own.from (isBlk_own _ _ _) _) (Own.from (isBlk_own _ _ _) _)) (OwnFrom.and (ownFrom_below (Nat.le_refl _) (by omega)) (fun _ _ _ _ hs hg _ => Nat.le_trans hs hg.size)))
    (fun _ _ _ _ _ hs _ _ => hs)
    ⟨⟨kL0, kR0⟩, hB0, Nat.le_refl _⟩
    (fun x a' W => ∃ Bx, W0.heap.size ≤ Bx ∧ IsBlk W Bx 68 (recC x) ∧ a' = { tmps := #[.slice A n ca, .int .i64 s, .int .i64 a, undef, undef, undef, .pointer (some ⟨w.heap.size, 0, none⟩), .pointer (some ⟨w.heap.size + 1, 0, none⟩), .pointer (some ⟨Bx, 0, none⟩), .slice A n ca, .int .i64 s, .int .i64 a, .func (.func 277) #[] #[.pointer (some ⟨w.heap.size + 2, 0, none⟩), .pointer (some ⟨w.heap.size + 2 + 1 + 1, 0, none⟩), .pointer (some ⟨w.heap.size + 2 + 1, 0, none⟩)], recV x, undef, undef, undef, undef, undef, undef, undef, undef, undef, undef], defers := [] })
    (fun x a' _ X' Y row hs hg hr => by obtain ⟨Bx, h1, h2, h3⟩ := hs; exact ⟨Bx, h1, h2.kept hg (fun r e => (hr r e).2), h3⟩)
    ?assign ?body ?done ?stop
  case assign =>
    rintro l pre x W K ⟨⟨hL, hV⟩, hB, hz⟩ hK
    gi_wp2
    exact hK _ _ ((KeepsOthers.alloc _ _).from _) ⟨(Below.refl _ W).alloc hB.size _, Below.heap_alloc _ _ _ (by omega)⟩ ⟨⟨hL.alloc _, hV.alloc _⟩, hB.alloc hB.size _, by simp; omega⟩ ⟨W.heap.size, hz, isBlk_new W 68 (recC x), rfl⟩
  case body =>
    rintro l pre x a' W hl ⟨r, hr⟩ ⟨⟨hL, hV⟩, hB, hzz⟩ ⟨Bx, hBx, kX, rfl⟩ hlt
    obtain ⟨x0, x1, x2, x3, x4, x5⟩ := rcCells kX
    obtain ⟨y0, y1, y2, y3, y4, y5⟩ := rcCells hL
    have f0 : W.frozen? ⟨w.heap.size + 1, 0, none⟩ = false := hL.free
    have f1 : W.frozen? ⟨w.heap.size + 1, 1, none⟩ = false := hL.free
    have f2 : W.frozen? ⟨w.heap.size + 1, 2, none⟩ = false := hL.free
    have f3 : W.frozen? ⟨w.heap.size + 1, 3, none⟩ = false := hL.free
    have f4 : W.frozen? ⟨w.heap.size + 1, 4, none⟩ = false := hL.free
    have f5 : W.frozen? ⟨w.heap.size + 1, 5, none⟩ = false := hL.free
    gi_wp2
    have hk1 := (((((KeepsOthers.setCell W ⟨w.heap.size + 1, 0, none⟩ (.int .i64 x.k)).trans (KeepsOthers.setCell _ ⟨w.heap.size + 1, 1, none⟩ (.int .i64 x.s))).trans (KeepsOthers.setCell _ ⟨w.heap.size + 1, 2, none⟩ (.int .i64 x.q))).trans (KeepsOthers.setCell _ ⟨w.heap.size + 1, 3, none⟩ (.int .i64 x.t))).trans (KeepsOthers.setCell _ ⟨w.heap.size + 1, 4, none⟩ (.int .i64 x.o))).trans (KeepsOthers.setCell _ ⟨w.heap.size + 1, 5, none⟩ (.string x.d))
    have hk2 := ((((((Below.refl w.heap.size W).setCell (p := ⟨w.heap.size + 1, 0, none⟩) (by simp) (.int .i64 x.k)).setCell (p := ⟨w.heap.size + 1, 1, none⟩) (by simp) (.int .i64 x.s)).setCell (p := ⟨w.heap.size + 1, 2, none⟩) (by simp) (.int .i64 x.q)).setCell (p := ⟨w.heap.size + 1, 3, none⟩) (by simp) (.int .i64 x.t)).setCell (p := ⟨w.heap.size + 1, 4, none⟩) (by simp) (.int .i64 x.o)).setCell (p := ⟨w.heap.size + 1, 5, none⟩) (by simp) (.string x.d)
    refine ⟨hk1.from _, ⟨hk2, ?_⟩, ⟨?_, ?_⟩, hB.trans hk2, Nat.le_trans hzz hk2.size⟩
    · rw [Below.heap_setCell _ _ _ _ (by dsimp only; omega), Below.heap_setCell _ _ _ _ (by dsimp only; omega), Below.heap_setCell _ _ _ _ (by dsimp only; omega), Below.heap_setCell _ _ _ _ (by dsimp only; omega), Below.heap_setCell _ _ _ _ (by dsimp only; omega), Below.heap_setCell _ _ _ _ (by dsimp only; omega)]
    · rw [endR_snoc]
      exact (((((hL.set _).set _).set _).set _).set _).set _
    · repeat (with_reducible refine IsBlk.other ?_ ?_ _)
      all_goals first | exact hV | (dsimp only; omega)
  case done =>
    rintro D ys W hD rfl ⟨⟨hL, hV⟩, hB, hzz⟩ hK
    obtain ⟨y0, y1, y2, y3, y4, y5⟩ := rcCells hL
    obtain ⟨v0, v1, v2, fv0, fv1, fv2⟩ := blk3 hV
    have hds := endR_small HS.out s a n
    have HVX : Hid (valX X s n a = valR (endR (trlR X s n a))) := Lib.hid rfl
    generalize endR (trlR X s n a) = r at *
    by_cases h1 : r.k = 1
    · have h1' : (r.k == 1) = true := by simpa using h1
      have h1'' : (r.k != 1) = false := by simpa using h1
      have HVR : Hid (valR r = ⟨true, r.d, 0⟩) := by show _ = _; unfold valR; rw [if_pos h1]
      clear h1
      gi_wp2_with fail
      refine ⟨trivial, ?_⟩
      refine (callsIn_wide.2 (assemble_oneR r.d W.heap.size 1 _ (by simp) (by omega))).mono ?_
      rintro e w5 ⟨rfl, hb5⟩
      have hb5' : Below W.heap.size W w5 := ((Below.refl _ W).alloc (Nat.le_refl _) _).trans (hb5.mono (by simp))
      have hV5 := hV.below hb5' hV.lt
      have hK5 : w5.heap[D]? = some (.deferred (some [])) := (hb5'.block D (Array.getElem?_eq_some_iff.1 hK).1).trans hK
      have hB5 := hB.trans (hb5'.mono hB.size)
      clear v0 v1 v2 fv0 fv1 fv2
      obtain ⟨v0, v1, v2, fv0, fv1, fv2⟩ := blk3 hV5
      clear hb5 hb5'
      gi_wp2
      have hV6 := ((hV5.set (j := 0) (.bool true)).set (j := 1) (.string r.d)).set (j := 2) (.int .i64 0)
      have hB6 := ((hB5.setCell (p := ⟨w.heap.size, 0, none⟩) (Nat.le_refl _) (.bool true)).setCell (p := ⟨w.heap.size, 1, none⟩) (Nat.le_refl _) (.string r.d)).setCell (p := ⟨w.heap.size, 2, none⟩) (Nat.le_refl _) (.int .i64 0)
      have hK6 := ((KeepsOthers.setCell w5 ⟨w.heap.size, 0, none⟩ (.bool true)).trans ((KeepsOthers.setCell _ ⟨w.heap.size, 1, none⟩ (.string r.d)).trans (KeepsOthers.setCell _ ⟨w.heap.size, 2, none⟩ (.int .i64 0)))).same D _ hK5 rfl
      generalize ((w5.setCell ⟨w.heap.size, 0, none⟩ (.bool true)).setCell ⟨w.heap.size, 1, none⟩ (.string r.d)).setCell ⟨w.heap.size, 2, none⟩ (.int .i64 0) = w6 at hV6 hB6 hK6 ⊢
      refine ⟨by simp, .inl ⟨_, _, rfl, run_takeDeferred hK6, ?_⟩⟩
      have hV7 := hV6.kept (grownBy_putObj' w6 D (.deferred none)) (fun r e => by cases e; exact ⟨_, hK6, rfl⟩)
      obtain ⟨c0, c1, c2, -, -, -⟩ := blk3 hV7
      refine ⟨voV ⟨true, r.d, 0⟩, ?_, ?_, ?_⟩
      · simp [results, Tryz.results241, go_sem, c0, c1, c2]
      · rw [HVX.out, HVR.out]
      · exact hB6.trans (belowK_b (w := w) (Nat.le_refl _) w6 D _ _ (by omega) hK6 rfl rfl)
    · have h1' : (r.k == 1) = false := by simpa using h1
      have h1'' : (r.k != 1) = true := by simpa using h1
      have HVR : Hid (valR r = ⟨false, ⟨#[]⟩, 0⟩) := by show _ = _; unfold valR; rw [if_neg h1]
      clear h1
      gi_wp2
      have hV6 := ((hV.set (j := 0) (.bool false)).set (j := 1) (.string ⟨#[]⟩)).set (j := 2) (.int .i64 0)
      have hB6 := ((hB.setCell (p := ⟨w.heap.size, 0, none⟩) (Nat.le_refl _) (.bool false)).setCell (p := ⟨w.heap.size, 1, none⟩) (Nat.le_refl _) (.string ⟨#[]⟩)).setCell (p := ⟨w.heap.size, 2, none⟩) (Nat.le_refl _) (.int .i64 0)
      have hK6 := ((KeepsOthers.setCell W ⟨w.heap.size, 0, none⟩ (.bool false)).trans ((KeepsOthers.setCell _ ⟨w.heap.size, 1, none⟩ (.string ⟨#[]⟩)).trans (KeepsOthers.setCell _ ⟨w.heap.size, 2, none⟩ (.int .i64 0)))).same D _ hK rfl
      generalize ((W.setCell ⟨w.heap.size, 0, none⟩ (.bool false)).setCell ⟨w.heap.size, 1, none⟩ (.string ⟨#[]⟩)).setCell ⟨w.heap.size, 2, none⟩ (.int .i64 0) = w6 at hV6 hB6 hK6 ⊢
      refine ⟨by simp, .inl ⟨_, _, rfl, run_takeDeferred hK6, ?_⟩⟩
      have hV7 := hV6.kept (grownBy_putObj' w6 D (.deferred none)) (fun r e => by cases e; exact ⟨_, hK6, rfl⟩)
      obtain ⟨c0, c1, c2, -, -, -⟩ := blk3 hV7
      refine ⟨voV ⟨false, ⟨#[]⟩, 0⟩, ?_, ?_, ?_⟩
      · simp [results, Tryz.results241, go_sem, c0, c1, c2]
      · rw [HVX.out, HVR.out]
      · exact hB6.trans (belowK_b (w := w) (Nat.le_refl _) w6 D _ _ (by omega) hK6 rfl rfl)
  case stop =>
    rintro D c pre W _ _ h _
    exact h.elim
end Go.Proofs.YtfpibbhcecdbgaaGreatDoor

namespace Go.Proofs.YtfpibbhcecdbgaaGreatDoor
open Go.RowKit Go.Shelf
open Bt (Rc)
attribute [local go_sem] Oper.semAt_some

/-- the marks that ranges over a function leave among a function's deferred calls -/
def mkD (D : Nat) : Deferred := { target := .collected D, args := #[] }
structure MarkD (wr : World) (Ds : List Nat) : Prop where
  down : Ds.Pairwise (· > ·)
  held : ∀ D ∈ Ds, wr.heap[D]? = some (.deferred (some []))
theorem MarkD.lt {wr : World} {Ds : List Nat} (h : MarkD wr Ds) : ∀ D ∈ Ds, D < wr.heap.size := fun D hD => (Array.getElem?_eq_some_iff.1 (h.held D hD)).1
theorem leaves_marks {F : Fence} {n : Nat} {P : Program} {fn : Func} {tmps : Array Value} {R : Ending → World → Prop} : ∀ (Ds : List Nat) (w : World), MarkD w Ds →
    (∀ w' : World, w'.os = w.os → w'.tape = w.tape → w'.output = w.output → w'.heap.size = w.heap.size → (∀ k, k ∉ Ds → w'.heap[k]? = w.heap[k]?) → LeavesInM F n P fn tmps R [] .returning w') →
    LeavesInM F n P fn tmps R (Ds.map mkD) .returning w := by
  intro Ds
  induction Ds with
  | nil => intro w _ h; exact h w rfl rfl rfl rfl (fun _ _ => rfl)
  | cons D Ds ih =>
    intro w hM h
    have hD := hM.held D (List.mem_cons_self ..)
    refine ⟨by simp, .inl ⟨D, _, rfl, run_takeDeferred hD, ?_⟩⟩
    have hp := List.pairwise_cons.1 hM.down
    refine ih _ ⟨hp.2, fun D' hD' => ?_⟩ fun w' h1 h2 h3 h4 h5 => h w' h1 h2 h3 (by rw [h4]; simp) fun k hk => ?_
    · rw [World.putObj_heap_other (fun e => by have := hp.1 D' hD'; omega)]; exact hM.held D' (List.mem_cons_of_mem _ hD')
    · rw [h5 k (fun e => hk (List.mem_cons_of_mem _ e)), World.putObj_heap_other (fun e => hk (by rw [e]; exact List.mem_cons_self ..))]

theorem Fr.trans {B : Nat} {v v0 : Value} {w0 w w' : World} (h : Fr B v0 w0 w) (k : Fr B v w w') (hv : ∀ q, v.ownBlock = some q → v0.ownBlock = some q ∨ w0.heap.size ≤ q) : Fr B v0 w0 w' :=
  ⟨k.os.trans h.os, k.tape.trans h.tape, k.output.trans h.output, Nat.le_trans h.size k.size, fun j h1 h2 h3 => (k.block j (Nat.lt_of_lt_of_le h1 h.size) h2 (fun e => by rcases hv j e with h' | h'; exact h3 h'; omega)).trans (h.block j h1 h2 h3)⟩
theorem Fr.of_below {B : Nat} {v : Value} {w w' : World} (h : Below w.heap.size w w') : Fr B v w w' := ⟨h.os, h.tape, h.output, h.size, fun k hk _ _ => h.block k hk⟩

/-- what neededTest's loops keep: the list L in its box B4, the marks Ds; nothing else of wT has turned -/
structure NInv (B4 : Nat) (wT : World) (v : Value) (L : List Int) (Ds : List Nat) (wr : World) : Prop where
  box : IsBlk wr B4 291 [v]
  own : wr.ownsRow wT.heap.size 2 1 v L.length (L.map numV)
  fr : Fr B4 (.slice none 0 0) wT wr
  marks : MarkD wr Ds
  above : ∀ D ∈ Ds, wT.heap.size ≤ D
theorem NInv.row {B4 : Nat} {wT wr : World} {v : Value} {L : List Int} {Ds : List Nat} (h : NInv B4 wT v L Ds wr) : ∀ q, v.ownBlock = some q → wT.heap.size ≤ q ∧ q < wr.heap.size ∧ ∃ c t, wr.heap[q]? = some (.cells c t (0, 0)) := fun q hq => by
  have h1 := own_block_ltR h.own hq
  refine ⟨h1.1, h1.2, ?_⟩
  rcases h.own.2 with ⟨h0, -⟩ | ⟨g, cap, cur, hv, hb, hh, -⟩
  · rw [h0] at hq; cases hq
  · rw [hv] at hq; simp [Value.ownBlock] at hq; subst hq; exact ⟨cur, _, hh⟩
theorem NInv.below {B4 : Nat} {wT wr wr' : World} {v : Value} {L : List Int} {Ds : List Nat} (h : NInv B4 wT v L Ds wr) (hb : Below wr.heap.size wr wr') : NInv B4 wT v L Ds wr' :=
  ⟨h.box.below hb h.box.lt, own_belowR h.own hb, h.fr.trans (Fr.of_below (v := .slice none 0 0) hb) (fun q e => by cases e), ⟨h.marks.down, fun D hD => (hb.block D (h.marks.lt D hD)).trans (h.marks.held D hD)⟩, h.above⟩
theorem NInv.add {B4 : Nat} {wT wr wr' : World} {v v' : Value} {L L' : List Int} {Ds : List Nat} (h : NInv B4 wT v L Ds wr) (hk : IsBlk wr' B4 291 [v']) (ho : wr'.ownsRow wT.heap.size 2 1 v' L'.length (L'.map numV)) (hf : Fr B4 v wr wr') : NInv B4 wT v' L' Ds wr' := by
  refine ⟨hk, ho, h.fr.trans hf (fun q e => .inr (h.row q e).1), ⟨h.marks.down, fun D hD => ?_⟩, h.above⟩
  have hD' := h.marks.held D hD
  rw [hf.block D (h.marks.lt D hD) (fun e => ?_) (fun e => ?_)]
  · exact hD'
  · subst e; have hx := h.box; unfold IsBlk at hx; rw [hx] at hD'; cases hD'
  · obtain ⟨-, -, c, t, hc⟩ := h.row D e; rw [hc] at hD'; cases hD'
theorem own_keep {w w' : World} {base n size : Nat} {e : TypeId} {v : Value} {xs : List Value} (h : w.ownsRow base e size v n xs) (hb : ∀ g, v.ownBlock = some g → w'.heap[g]? = w.heap[g]?) : w'.ownsRow base e size v n xs := by
  rcases h.2 with ⟨rfl, rfl⟩ | ⟨g, cap, cur, rfl, hb', hh, r⟩
  · exact ⟨h.1, .inl ⟨rfl, rfl⟩⟩
  · exact ⟨h.1, .inr ⟨g, cap, cur, rfl, hb', (hb g rfl).trans hh, r⟩⟩
theorem NInv.grown {B4 B : Nat} {wT wr wr' : World} {v : Value} {L : List Int} {Ds : List Nat} {row : Option Nat} (h : NInv B4 wT v L Ds wr) (hg : wr.grownBy wr' row) (hr : ∀ r, row = some r → B ≤ r ∧ ∃ o : Obj, wr.heap[r]? = some o ∧ o.isCells = false) (hB : wT.heap.size ≤ B) (hD : ∀ D ∈ Ds, D < B) : NInv B4 wT v L Ds wr' := by
  refine ⟨h.box.kept hg (fun r e => (hr r e).2), own_keep h.own fun g hg' => ?_, ⟨hg.os.trans h.fr.os, hg.tape.trans h.fr.tape, hg.output.trans h.fr.output, Nat.le_trans h.fr.size hg.size, fun k h1 h2 h3 => ?_⟩, ⟨h.marks.down, fun D hD' => ?_⟩, h.above⟩
  · obtain ⟨-, hlt, c, t, hc⟩ := h.row g hg'
    refine hg.block g hlt fun e => ?_
    obtain ⟨-, o, ho, hc'⟩ := hr g e.symm
    rw [hc] at ho; cases ho; cases hc'
  · have hs := h.fr.size
    refine (hg.block k (by omega) fun e => ?_).trans (h.fr.block k h1 h2 h3)
    have := (hr k e.symm).1; omega
  · refine (hg.block D (h.marks.lt D hD') fun e => ?_).trans (h.marks.held D hD')
    have := (hr D e.symm).1; have := hD D hD'; omega
theorem NInv.keeps {B4 : Nat} {wT wr wr' : World} {v : Value} {L : List Int} {Ds : List Nat} (h : NInv B4 wT v L Ds wr) (hf : Fr B4 v wr wr') : KeepsOthers wr wr' := by
  refine ⟨hf.size, fun k o hk ho => ?_⟩
  rw [hf.block k (Array.getElem?_eq_some_iff.1 hk).1 (fun e => ?_) (fun e => ?_)]
  · exact hk
  · subst e; have hx := h.box; unfold IsBlk at hx; rw [hx] at hk; cases hk; cases ho
  · obtain ⟨-, -, c, t, hc⟩ := h.row k e; rw [hc] at hk; cases hk; cases ho
/-- Seqs in the trails of the first s sectors at time t -/
def SeenAt (X : List Rc) (t : Int) (s : Nat) (q : Int) : Prop := ∃ s', s' < s ∧ ∃ r ∈ trlR X (s' : Int) X.length t, r.q = q

set_option maxRecDepth 100000 in
set_option maxHeartbeats 8000000 in
theorem neededTest_any (A : Option Addr) (n ca : Nat) (X : List Rc) (w : World) (hr : hRight X = true) (hca : n ≤ ca) (hA : RdRc w w.heap.size A n X) :
    Calls Tryz.prog 220 #[.slice A n ca] w fun e w' => ∃ B3 B4 L, e = .returned (.func (.func 259) #[] #[.pointer (some ⟨B3, 0, none⟩), .pointer (some ⟨B4, 0, none⟩)]) ∧ Held w' B3 B4 (flR X) L ∧ (∀ q, q ∈ L ↔ Seen X (tmsTo X (floorR X) X.length) q) ∧ Below w.heap.size w w' := by
  have hn : n ≤ 48 := by rw [← hA.1]; exact hRight_len hr
  have HL := Lib.hid hA.1
  have HA := Lib.hid hA; have HR := Lib.hid hr; clear hA hr
  refine (callsIn_wide (n := 3)).1 ?_
  refine callsIn_of_wp_marks Tryz.func220 rfl trivial ?_ rfl
  simp only [Tryz.ntmps220, List.size_toArray, List.length_cons, List.length_nil, Nat.reduceAdd, Nat.reduceSub, Array.replicate_succ, Array.replicate_zero, List.push_toArray, List.append_toArray, List.nil_append, List.cons_append]
  gi_wp2_with fail
  refine ⟨trivial, ?_⟩
  refine (callsIn_wide.2 (floorRec_any A n ca X w (by omega) HA.out)).mono ?_
  rintro e w1 ⟨rfl, hb1⟩
  have HFL : Hid (flR X = floorRecTo X n) := by show floorRecTo X X.length = _; rw [HL.out]
  have HFO : Hid ((floorRecTo X n).o = floorR X) := by show _ = floorTo X X.length; rw [floorRecTo_o, HL.out]
  obtain ⟨fl, hfl⟩ : ∃ fl, fl = floorRecTo X n := ⟨_, rfl⟩
  rw [← hfl] at HFL HFO ⊢
  clear hfl
  have k3 := (isBlk_new w1 68 (recC fl)).alloc (.cells #[.slice none 0 0] 291)
  have k4 := isBlk_new (w1.alloc (.cells #[.int .i64 fl.k, .int .i64 fl.s, .int .i64 fl.q, .int .i64 fl.t, .int .i64 fl.o, .string fl.d] 68)) 291 [.slice none 0 0]
  have hb2 : Below w1.heap.size w1 ((w1.alloc (.cells #[.int .i64 fl.k, .int .i64 fl.s, .int .i64 fl.q, .int .i64 fl.t, .int .i64 fl.o, .string fl.d] 68)).alloc (.cells #[.slice none 0 0] 291)) := ((Below.refl _ _).alloc (Nat.le_refl _) _).alloc (by simp) _
  change IsBlk ((w1.alloc (.cells #[.int .i64 fl.k, .int .i64 fl.s, .int .i64 fl.q, .int .i64 fl.t, .int .i64 fl.o, .string fl.d] 68)).alloc (.cells #[.slice none 0 0] 291)) _ _ _ at k3 k4
  rw [size_alloc] at k4
  gi_wp2_with fail
  generalize (w1.alloc (.cells #[.int .i64 fl.k, .int .i64 fl.s, .int .i64 fl.q, .int .i64 fl.t, .int .i64 fl.o, .string fl.d] 68)).alloc (.cells #[.slice none 0 0] 291) = w2 at k3 k4 hb2 ⊢
  have HB2 := Lib.hid (hb1.trans (hb2.mono hb1.size))
  have h12 := hb1.size
  refine ⟨trivial, ?_⟩
  refine (callsIn_wide.2 (timesFrom_any A n ca X fl.o w2 HR.out (HA.out.next HB2.out))).mono ?_
  rintro e wT ⟨At, ct, rfl, hoT, hbT⟩
  obtain ⟨T, hT⟩ : ∃ T, T = tmsTo X fl.o n := ⟨_, rfl⟩
  have HT : Hid (T = tmsTo X (floorR X) X.length) := by show _ = _; rw [hT, HFO.out, HL.out]
  have hTl : T.length ≤ 49 := by rw [hT]; have := tmsTo_len X fl.o n; omega
  rw [← hT] at hoT ⊢
  clear hT
  obtain ⟨nt, hnt⟩ : ∃ nt, nt = T.length := ⟨_, rfl⟩
  rw [← hnt] at hoT hTl ⊢
  have HNT := Lib.hid hnt
  have HKT := Lib.hid (k3.below hbT k3.lt)
  have HK4 := Lib.hid (k4.below hbT k4.lt)
  have HBT := Lib.hid (HB2.out.trans (hbT.mono HB2.out.size))
  have HTN := Lib.hid hoT
  have h24 : w1.heap.size + 1 < w2.heap.size := k4.lt
  have h4T : w1.heap.size + 1 < wT.heap.size := HK4.out.lt
  have HLE := Lib.hid h12
  clear hnt k3 k4 hb1 hb2 hbT hoT
  gi_wp2
  have HN0 : Hid (NInv (w1.heap.size + 1) wT (.slice none 0 0) [] [] wT) := ⟨HK4.out, World.ownsRow_nil _ _ _ _, ⟨rfl, rfl, rfl, Nat.le_refl _, fun _ _ _ _ => rfl⟩, ⟨List.Pairwise.nil, fun D h => by cases h⟩, fun D h => by cases h⟩
  refine wpIn_loop (fun a' wr => ∃ (u6 u7 u17 u18 u19 u20 u21 u22 u23 u24 u25 u26 u31 u32 : Value) (j : Nat) (v : Value) (L : List Int) (Ds : List Nat), (j ≤ nt ∧ Srt L ∧ L.length ≤ 288 * j ∧ (∀ q, q ∈ L ↔ Seen X (T.take j) q) ∧ NInv (w1.heap.size + 1) wT v L Ds wr) ∧
      a' = { tmps := #[.slice A n ca, undef, .nilFunc, .pointer (some ⟨w1.heap.size, 0, none⟩), .pointer (some ⟨w1.heap.size + 1, 0, none⟩), undef, u6, u7, undef, .slice A n ca, recV fl, .slice A n ca, .pointer (some ⟨w1.heap.size, 4, none⟩), .int .i64 fl.o, .slice At nt ct, .int .i64 (nt : Int), .int .i64 (j : Int), u17, u18, u19, u20, u21, u22, u23, u24, u25, u26, undef, undef, undef, undef, u31, u32, undef], defers := Ds.map mkD }) (fun a' _ => nt - (intOf (a'.tmps.getD 16 undef)).toNat) ?_ ?_
  · exact ⟨_, _, _, _, _, _, _, _, _, _, _, _, _, _, 0, _, [], [], ⟨by omega, fun a b _ h => absurd h (by simp), by simp, fun q => ⟨fun h => absurd h (by simp), fun ⟨t, ht, _⟩ => by simp at ht⟩, HN0.out⟩, rfl⟩
  rintro a' wr ⟨u6, u7, u17, u18, u19, u20, u21, u22, u23, u24, u25, u26, u31, u32, j, v, L, Ds, ⟨hj, hS, hLl, hLm, hI⟩, rfl⟩
  have HS := Lib.hid hS; have HLM := Lib.hid hLm; have HI := Lib.hid hI
  clear hS hLm hI
  by_cases hjt : j < nt
  case neg =>
    obtain rfl : j = nt := by omega
    gi_wp2
    refine leaves_marks Ds wr HI.out.marks fun w' g1 g2 g3 g4 g5 => ?_
    refine ⟨_, results_tmp rfl _ _ _, ?_⟩
    have hfr := HI.out.fr
    have hno : ∀ (k : Nat) (c : Array Value) (t : TypeId), wr.heap[k]? = some (Obj.cells c t (0, 0)) → w'.heap[k]? = wr.heap[k]? := fun k c t hk => g5 k fun hk' => by
      have := HI.out.marks.held k hk'; rw [hk] at this; cases this
    have k3 : IsBlk wr w1.heap.size 68 (recC fl) := (hfr.block w1.heap.size (by omega) (by omega) (fun e => by cases e)).trans HKT.out
    obtain ⟨Av, cv, rfl⟩ := own_slice HI.out.own
    have ho' : w'.ownsRow wT.heap.size 2 1 (.slice Av L.length cv) L.length (L.map numV) := own_keep HI.out.own fun g hg => by
      obtain ⟨-, -, c, t, hc⟩ := HI.out.row g hg; exact hno g c t hc
    refine ⟨w1.heap.size, w1.heap.size + 1, L, rfl, ⟨?_, HS.out, by omega, Av, cv, (hno _ _ _ HI.out.box).trans HI.out.box, (owNs_of_own ho').rd (Nat.le_refl _)⟩, fun q => ?_, ?_⟩
    · rw [HFL.out]; exact (hno _ _ _ k3).trans k3
    · rw [HLM.out q, ← HT.out, HNT.out, List.take_length]
    · refine ⟨g1.trans (hfr.os.trans HBT.out.os), g2.trans (hfr.tape.trans HBT.out.tape), g3.trans (hfr.output.trans HBT.out.output), by have h1 := HBT.out.size; have h2 := hfr.size; omega, fun k hk => ?_⟩
      have hkT : k < wT.heap.size := by have := HBT.out.size; omega
      rw [g5 k (fun e => by have := HI.out.above k e; omega), hfr.block k hkT (by omega) (fun e => by cases e)]
      exact HBT.out.block k hk
  obtain ⟨gT, rfl, hgl, hgT, hrT⟩ := HTN.out.2 (by omega)
  have HCT : Hid (∀ wr' : World, Fr (w1.heap.size + 1) (.slice none 0 0) wT wr' → wr'.cell? ⟨gT, j, none⟩ = some (.int .i64 (T.getD j 0))) := fun wr' hf => by
    have h := hrT.cell hjt
    rw [World.cell?_of_block (a := ⟨gT, j, none⟩) (hf.block gT hgT (by omega) (fun e => by cases e))]
    exact h
  have hcT := HCT.out wr HI.out.fr
  obtain ⟨t, ht⟩ : ∃ t, t = T.getD j 0 := ⟨_, rfl⟩
  rw [← ht] at hcT
  have HTJ : Hid (∀ q, Seen X (T.take (j + 1)) q ↔ Seen X (T.take j) q ∨ SeenAt X t 6 q) := fun q => by
    rw [take_snoc' 0 (by rw [← HNT.out]; exact hjt), ← ht]
    constructor
    · rintro ⟨t', ht', s, hs, hx⟩
      rcases List.mem_append.1 ht' with h | h
      · exact .inl ⟨t', h, s, hs, hx⟩
      · rw [List.mem_singleton.1 h] at hx; exact .inr ⟨s, hs, hx⟩
    · rintro (⟨t', ht', s, hs, hx⟩ | ⟨s, hs, hx⟩)
      · exact ⟨t', List.mem_append.2 (.inl ht'), s, hs, hx⟩
      · exact ⟨t, List.mem_append.2 (.inr (List.mem_singleton.2 rfl)), s, hs, hx⟩
  clear hrT ht
  gi_wp2
  clear hcT
  refine wpIn_loop (fun a' wx => ∃ (u7 u21 u22 u23 u24 u25 u26 u31 : Value) (s : Nat) (v : Value) (L : List Int) (Ds : List Nat), (s ≤ 6 ∧ Srt L ∧ L.length ≤ 288 * j + 48 * s ∧ (∀ q, q ∈ L ↔ Seen X (T.take j) q ∨ SeenAt X t s q) ∧ NInv (w1.heap.size + 1) wT v L Ds wx) ∧
      a' = { tmps := #[.slice A n ca, undef, .nilFunc, .pointer (some ⟨w1.heap.size, 0, none⟩), .pointer (some ⟨w1.heap.size + 1, 0, none⟩), undef, .int .i64 t, u7, undef, .slice A n ca, recV fl, .slice A n ca, .pointer (some ⟨w1.heap.size, 4, none⟩), .int .i64 fl.o, .slice (some ⟨gT, 0, none⟩) nt ct, .int .i64 (nt : Int), .int .i64 (j : Int), .bool true, .pointer (some ⟨gT, j, none⟩), .int .i64 t, .int .i64 (s : Int), u21, u22, u23, u24, u25, u26, undef, undef, undef, undef, u31, u32, undef], defers := Ds.map mkD }) (fun a' _ => 6 - (intOf (a'.tmps.getD 20 undef)).toNat) ?_ ?_
  · exact ⟨_, _, _, _, _, _, _, _, 0, v, L, Ds, ⟨by omega, HS.out, by omega, fun q => ⟨fun h => .inl ((HLM.out q).1 h), fun h => by
      rcases h with h | ⟨s', h, -⟩
      · exact (HLM.out q).2 h
      · omega⟩, HI.out⟩, rfl⟩
  clear HS HLM HI hLl
  obtain ⟨wz, hwz⟩ : ∃ wz, wz = wr := ⟨_, rfl⟩
  clear hwz
  rintro a' wr ⟨u7, u21, u22, u23, u24, u25, u26, u31, s, v, L, Ds, ⟨hs, hS, hLl, hLm, hI⟩, rfl⟩
  have HS := Lib.hid hS; have HLM := Lib.hid hLm; have HI := Lib.hid hI
  clear hS hLm hI
  by_cases hs6 : s < 6
  case neg =>
    obtain rfl : s = 6 := by omega
    gi_wp2
    refine ⟨⟨_, _, _, _, _, _, _, _, _, _, _, _, _, _, j + 1, v, L, Ds, ⟨by omega, HS.out, by omega, fun q => (HLM.out q).trans (HTJ.out q).symm, HI.out⟩, rfl⟩, ?_⟩
    simp [intOf]; omega
  have hs0 : (s : Int) < 6 := by omega
  gi_wp2_with fail
  refine ⟨trivial, ?_⟩
  refine (callsIn_wide.2 (trailOf_any A n ca (s : Int) t wr)).mono ?_
  rintro e w3 ⟨rfl, rfl⟩
  have b0 := ((Boxed.new wr 58 (.slice A n ca)).alloc (.cells #[.int .i64 (s : Int)] 2)).alloc (.cells #[.int .i64 t] 2)
  have b1 := (Boxed.new (wr.alloc (.cells #[.slice A n ca] 58)) 2 (.int .i64 (s : Int))).alloc (.cells #[.int .i64 t] 2)
  have b2 := Boxed.new ((wr.alloc (.cells #[.slice A n ca] 58)).alloc (.cells #[.int .i64 (s : Int)] 2)) 2 (.int .i64 t)
  have hb3 : Below wr.heap.size wr (((wr.alloc (.cells #[.slice A n ca] 58)).alloc (.cells #[.int .i64 (s : Int)] 2)).alloc (.cells #[.int .i64 t] 2)) := (((Below.refl _ _).alloc (Nat.le_refl _) _).alloc (by simp) _).alloc (by simp; omega) _
  have hs3 : (((wr.alloc (.cells #[.slice A n ca] 58)).alloc (.cells #[.int .i64 (s : Int)] 2)).alloc (.cells #[.int .i64 t] 2)).heap.size = wr.heap.size + 3 := by simp
  simp only [World.size_alloc] at b1 b2
  generalize ((wr.alloc (.cells #[.slice A n ca] 58)).alloc (.cells #[.int .i64 (s : Int)] 2)).alloc (.cells #[.int .i64 t] 2) = W0 at b0 b1 b2 hb3 hs3 ⊢
  have hI0 := HI.out.below hb3
  have hrow0 : ∀ q, v.ownBlock = some q → q < wr.heap.size := fun q hq => (HI.out.row q hq).2.1
  have hDs : ∀ D ∈ Ds, D < wr.heap.size := HI.out.marks.lt
  have hTr : wT.heap.size ≤ wr.heap.size := HI.out.fr.size
  have hnw : w.heap.size ≤ wT.heap.size := HBT.out.size
  have hR0 : RdRc W0 w.heap.size A n X := by
    have h1 := HA.out.below HBT.out
    refine (h1.below ⟨HI.out.fr.os, HI.out.fr.tape, HI.out.fr.output, HI.out.fr.size, fun k hk => HI.out.fr.block k (by omega) (by omega) (fun e => by cases e)⟩).below (hb3.mono (by omega))
  have h3 : wr.heap.size + 3 ≤ W0.heap.size := by omega
  clear hs3 hb3
  gi_wp2
  refine wpIn_rangeFunc_ownH rfl (by omega) (gf := 277) (lb := #[.pointer (some ⟨wr.heap.size, 0, none⟩), .pointer (some ⟨wr.heap.size + 1 + 1, 0, none⟩), .pointer (some ⟨wr.heap.size + 1, 0, none⟩)]) rfl trivial (enters_of Tryz.func277 (by kernel_rfl) rfl)
    (trail_stops _ (by omega) wr.heap.size (wr.heap.size + 1 + 1) (wr.heap.size + 1) w.heap.size A n ca X (s : Int) t W0 (by omega) hca (by omega) (by omega) (by omega) b0.cell b2.cell b1 hR0) KpB.t (KpB.b (by omega) (by omega)) (Below.refl _ _) (fun _ => rfl)
    (fun pre W => ∃ v' L', ((Srt L' ∧ L'.length ≤ L.length + pre.length ∧ (∀ q, q ∈ L' ↔ q ∈ L ∨ ∃ r ∈ pre, r.q = q)) ∧ NInv (w1.heap.size + 1) wT v' L' Ds W) ∧ ((∀ q, v'.ownBlock = some q → q < wr.heap.size ∨ W0.heap.size ≤ q) ∧ W0.heap.size ≤ W.heap.size))
    (fun _ _ _ => False)
    (fun pre W W' row hx hg hr => by obtain ⟨v', L', ⟨g1, g2⟩, g3, g4⟩ := hx; exact ⟨v', L', ⟨g1, g2.grown hg hr (by omega) (fun D hD => by have := hDs D hD; omega)⟩, g3, Nat.le_trans g4 hg.size⟩)
    (fun _ _ _ _ _ hs _ _ => hs)
    ⟨v, L, ⟨⟨HS.out, by simp, fun q => ⟨.inl, fun h => by rcases h with h | ⟨r, hr, -⟩; exact h; cases hr⟩⟩, hI0⟩, fun q hq => .inl (hrow0 q hq), Nat.le_refl _⟩
    (fun x a' W => ∃ Bx, W0.heap.size ≤ Bx ∧ IsBlk W Bx 68 (recC x) ∧ a' = { tmps := #[.slice A n ca, undef, .nilFunc, .pointer (some ⟨w1.heap.size, 0, none⟩), .pointer (some ⟨w1.heap.size + 1, 0, none⟩), undef, .int .i64 t, .int .i64 (s : Int), .pointer (some ⟨Bx, 0, none⟩), .slice A n ca, recV fl, .slice A n ca, .pointer (some ⟨w1.heap.size, 4, none⟩), .int .i64 fl.o, .slice (some ⟨gT, 0, none⟩) nt ct, .int .i64 (nt : Int), .int .i64 (j : Int), .bool true, .pointer (some ⟨gT, j, none⟩), .int .i64 t, .int .i64 (s : Int), .bool true, .int .i64 (s : Int), .slice A n ca, .int .i64 (s : Int), .int .i64 t, .func (.func 277) #[] #[.pointer (some ⟨wr.heap.size, 0, none⟩), .pointer (some ⟨wr.heap.size + 1 + 1, 0, none⟩), .pointer (some ⟨wr.heap.size + 1, 0, none⟩)], recV x, undef, undef, undef, u31, u32, undef], defers := [] })
    (fun x a' _ X' Y row hs hg hr => by obtain ⟨Bx, h1, h2, h3⟩ := hs; exact ⟨Bx, h1, h2.kept hg (fun r e => (hr r e).2), h3⟩)
    ?assign ?body ?done ?stop
  case assign =>
    rintro l pre x W K ⟨v', L', ⟨g1, g2⟩, g3, g4⟩ hK
    gi_wp2
    exact hK _ _ ((KeepsOthers.alloc _ _).from _) ⟨(Below.refl _ W).alloc (by omega) _, Below.heap_alloc _ _ _ (by omega)⟩ ⟨v', L', ⟨g1, g2.below ((Below.refl _ _).alloc (Nat.le_refl _) _)⟩, g3, by simp; omega⟩ ⟨W.heap.size, g4, isBlk_new W 68 (recC x), rfl⟩
  case body =>
    rintro l pre x a' W hl ⟨r, hr⟩ ⟨v', L', ⟨⟨g1, g1', g1''⟩, g2⟩, g3, g4⟩ ⟨Bx, hBx, kX, rfl⟩ hlt
    obtain ⟨x0, x1, x2, x3, x4, x5⟩ := rcCells kX
    have G1 := Lib.hid g1; have G1'' := Lib.hid g1''; have G2 := Lib.hid g2; have G3 := Lib.hid g3
    have hpl : pre.length ≤ 48 := by omega
    clear g1 g1'' g2 g3
    gi_wp2_with fail
    refine ⟨trivial, ?_⟩
    refine (CallsIn.inRound l (callsIn_wide.2 (add_any (w1.heap.size + 1) v' wT.heap.size L' x.q W (by omega) (by omega) (by omega) G1.out G2.out.box G2.out.own))).mono ?_
    rintro e W' ⟨rv, v2, L2, rfl, had, hbl, how, hfr, hmv⟩
    obtain ⟨hs2, hm2⟩ := added_srt G1.out had
    have hl2 := added_len had
    have hn2 := G2.out.add hbl how hfr
    have hkp := G2.out.keeps hfr
    gi_wp2
    refine ⟨hkp.from _, ⟨⟨hfr.os, hfr.tape, hfr.output, hfr.size, fun k hk => hfr.block k (by omega) (by omega) (fun e => by have := (G2.out.row k e).1; omega)⟩, hfr.block (wr.heap.size + 1) (by omega) (by omega) (fun e => by rcases G3.out _ e with h | h <;> omega)⟩, v2, L2, ⟨⟨hs2, by rw [List.length_append]; simp; omega, fun q => ?_⟩, hn2⟩, fun q hq => ?_, Nat.le_trans g4 hfr.size⟩
    · rw [hm2 q, G1''.out q]
      constructor
      · rintro (h | h | ⟨r', h, h'⟩)
        · exact .inr ⟨x, by simp, h.symm⟩
        · exact .inl h
        · exact .inr ⟨r', by simp [h], h'⟩
      · rintro (h | ⟨r', h, h'⟩)
        · exact .inr (.inl h)
        · rcases List.mem_append.1 h with h | h
          · exact .inr (.inr ⟨r', h, h'⟩)
          · rw [List.mem_singleton.1 h] at h'; exact .inl h'.symm
    · rcases hmv q hq with h | h
      · exact G3.out q h
      · right; omega
  case done =>
    rintro D ys W hD rfl ⟨v', L', ⟨⟨g1, g1', g1''⟩, g2⟩, g3, g4⟩ hK
    have hyl := trlR_len X (s : Int) n t
    have G1 := Lib.hid g1; have G1'' := Lib.hid g1''
    have G5 : Hid (NInv (w1.heap.size + 1) wT v' L' (D :: Ds) W) := ⟨g2.box, g2.own, g2.fr, ⟨List.pairwise_cons.2 ⟨fun D' hD' => by have := hDs D' hD'; show D > D'; omega, g2.marks.down⟩, fun D' hD' => by
      rcases List.mem_cons.1 hD' with rfl | h
      · exact hK
      · exact g2.marks.held D' h⟩, fun D' hD' => by
      rcases List.mem_cons.1 hD' with rfl | h
      · omega
      · exact g2.above D' h⟩
    clear g1 g1'' g2 g3 hK
    gi_wp2
    refine ⟨⟨_, _, _, _, _, _, _, _, s + 1, v', L', D :: Ds, ⟨by omega, G1.out, by omega, fun q => ?_, G5.out⟩, rfl⟩, ?_⟩
    · rw [G1''.out q, HLM.out q]
      constructor
      · rintro ((h | ⟨s', h1, h2⟩) | ⟨r', h1, h2⟩)
        · exact .inl h
        · exact .inr ⟨s', by omega, h2⟩
        · exact .inr ⟨s, by omega, r', by rw [HL.out]; exact h1, h2⟩
      · rintro (h | ⟨s', h1, r', h2, h3⟩)
        · exact .inl (.inl h)
        · by_cases e : s' = s
          · subst e; rw [HL.out] at h2; exact .inr ⟨r', h2, h3⟩
          · exact .inl (.inr ⟨s', by omega, r', h2, h3⟩)
    · simp [intOf]; omega
  case stop =>
    rintro D c pre W _ _ h _
    exact h.elim
end Go.Proofs.YtfpibbhcecdbgaaGreatDoor

namespace Go.Proofs.YtfpibbhcecdbgaaGreatDoor
open Go.RowKit
open Bt (Rc)

theorem trail_nil {X : List Rc} {s a : Int} (h : ¬ (hRight X = true ∧ 0 ≤ s ∧ s ≤ 5)) : trailOf X s a = [] := by unfold trailOf; rw [if_neg h]
def seqAt (X : List Rc) (i : Nat) : Int := (X.getD i Rc.zero).q
theorem trail_seqs {X : List Rc} {s a : Int} (h : hRight X = true ∧ 0 ≤ s ∧ s ≤ 5) : trailOf X s a = (trl X s X.length a).map (seqAt X) := by
  unfold trailOf trlR; rw [if_pos h, List.map_map]; rfl
theorem nmF_plcs {P : List Nat} {k : Nat} (h : k < P.length) : nmF (plcs P) k = .int .i64 ((P.getD k 0 : Nat) : Int) := by
  unfold nmF plcs
  simp [List.getD_eq_getElem?_getD, List.getElem?_eq_getElem h]

end Go.Proofs.YtfpibbhcecdbgaaGreatDoor

namespace Go.Proofs.YtfpibbhcecdbgaaGreatDoor
open Go.RowKit
open Bt (Rc)

theorem tst_nd {X : List Rc} (hX : hRight X = true) {L : List Int} (hL : ∀ q, q ∈ L ↔ Seen X (tmsTo X (floorR X) X.length) q) {k : Nat} (hk : k < X.length) : tstB (flR X) L (X.getD k Rc.zero) = nd X k := by
  rw [Bool.eq_iff_iff, nd_iff hX hk]
  unfold tstB
  rw [Bool.or_eq_true, rcEq_iff, decide_eq_true_eq, hL]

/-! the model -/
/-- a row of marks -/
def BRow (w : World) (g n : Nat) (f : Nat → Bool) : Prop := Row w g n (fun j => .bool (f j))
theorem kinds_ok {X : List Rc} (hX : hRight X = true) : ∀ i, i < X.length → 1 ≤ (X.getD i Rc.zero).k := fun _ hi => (hRight_at hX hi).1.1
def RetU (w w' : World) (g n : Nat) (P : Nat → Prop) : Prop := ∃ f, BRow w' g n f ∧ (∀ j, j < n → (f j = true ↔ P j)) ∧ Btw g (g + 1) w w'

set_option maxHeartbeats 4000000 in
set_option maxRecDepth 100000 in
theorem l04Mark_any (A : Option Addr) (n ca gm cm : Nat) (X : List Rc) (t : Int) (m : Nat → Bool) (w : World) (hr : hRight X = true) (hA : RdRc w gm A n X) (hM : BRow w gm n m) :
    Calls Tryz.prog 212 #[.agg #[.slice A n ca], .slice (some ⟨gm, 0, none⟩) n cm, .int .i64 t] w fun e w' => (∃ rv, e = .returned rv) ∧ RetU w w' gm n (fun j => m j = true ∨ ∃ s : Nat, s < 6 ∧ j ∈ trl X (s : Int) n t) := by
  have hn : n ≤ 48 := by rw [← hA.1]; exact hRight_len hr
  have HL := Lib.hid hA.1
  have HA := Lib.hid hA; have HR := Lib.hid hr; have HM := Lib.hid hM
  have hgm := Row.lt hM
  clear hA hr hM
  go_enter Tryz.func212, Tryz.ntmps212
  go_wp2
  have k0 := isBlk_new w 60 [.slice A n ca]
  change IsBlk (w.alloc (.cells #[.slice A n ca] 60)) _ _ _ at k0
  have hb0 : Btw gm (gm + 1) w (w.alloc (.cells #[.slice A n ca] 60)) := (Btw.refl _ _ _).alloc _
  have hM0 : BRow (w.alloc (.cells #[.slice A n ca] 60)) gm n m := Row.alloc HM.out _
  generalize w.alloc (.cells #[.slice A n ca] 60) = W at k0 hb0 hM0 ⊢
  have HK0 := Lib.hid k0; have HB0 := Lib.hid hb0; have HM0 := Lib.hid hM0
  clear k0 hb0 hM0
  go_loopw [6] (fun a wr => ∃ (s : Nat) (f : Nat → Bool), s ≤ 6 ∧ a = .int .i64 (s : Nat) ∧ BRow wr gm n f ∧ (∀ j, j < n → (f j = true ↔ (m j = true ∨ ∃ s' : Nat, s' < s ∧ j ∈ trl X (s' : Int) n t))) ∧ Btw gm (gm + 1) w wr ∧ IsBlk wr w.heap.size 60 [.slice A n ca]) (fun a _ => 6 - (intOf a).toNat)
  case atStart => exact ⟨0, m, by omega, rfl, HM0.out, fun j hj => ⟨.inl, fun h => by rcases h with h | ⟨s', h, -⟩; exact h; omega⟩, HB0.out, HK0.out⟩
  case round =>
    obtain ⟨s, f, hs, rfl, hrow, hf, hbw, hblk⟩ := hrel
    have HRO := Lib.hid hrow; have HF := Lib.hid hf; have HBW := Lib.hid hbw; have HBK := Lib.hid hblk
    have hx : wr.cell? ⟨w.heap.size, 0, none⟩ = some (.slice A n ca) := hblk.cell rfl
    have hzr := hbw.size
    have hA2 : RdRc wr wr.heap.size A n X := (HA.out.below (hbw.below (by omega))).mono (by omega)
    have HA2 := Lib.hid hA2
    clear hrow hf hbw hblk hA2
    by_cases hs6 : s < 6
    · go_wp2_with fail
      refine (l04Trail_any A n ca X (s : Int) t wr (by omega) (fun i hi => kinds_ok HR.out i (by rw [HL.out]; exact hi)) HA2.out).mono ?_
      rintro e w2 ⟨A2, c2, rfl, ho2, hb2⟩
      obtain ⟨P, hP⟩ : ∃ P, P = trl X (s : Int) n t := ⟨_, rfl⟩
      have HPL : Hid (∀ i ∈ P, i < n) := fun i hi => by rw [hP] at hi; exact trl_lt X _ _ _ i hi
      have HPE := Lib.hid hP
      have hPl : P.length ≤ 48 := by rw [hP]; have := trl_len X (s : Int) n t; omega
      rw [← hP] at ho2 ⊢
      obtain ⟨np, hnp⟩ : ∃ np, np = (plcs P).length := ⟨_, rfl⟩
      rw [← hnp] at ho2 ⊢
      have hnpl : np = P.length := by rw [hnp, plcs_len]
      have hnp48 : np ≤ 48 := by omega
      have HO2 := Lib.hid ho2
      have HR2 := Lib.hid (Row.below HRO.out hb2 (by have := Row.lt HRO.out; omega))
      have HB2 : Hid (Btw gm (gm + 1) w w2) := HBW.out.trans (Btw.of_below hb2)
      have HK2 := Lib.hid (HBK.out.below hb2 HBK.out.lt)
      have h2 := hb2.size
      have HNP := Lib.hid hnpl
      clear hb2 ho2 hP hnp hnpl hx
      go_wp2
      obtain ⟨wz, hwz⟩ : ∃ wz, wr = wz := ⟨_, rfl⟩
      subst hwz
      go_loopw [8] (fun i wq => ∃ (k : Nat) (f' : Nat → Bool), k ≤ np ∧ i = .int .i64 (k : Nat) ∧ BRow wq gm n f' ∧ (∀ j, j < n → (f' j = true ↔ (f j = true ∨ j ∈ P.take k))) ∧ Btw gm (gm + 1) w2 wq) (fun i _ => np - (intOf i).toNat)
      case atStart => exact ⟨0, f, by omega, rfl, HR2.out, fun j hj => ⟨.inl, fun h => by rcases h with h | h; exact h; simp at h⟩, Btw.refl _ _ _⟩
      case round =>
        obtain ⟨k, f', hk, rfl, hrow, hf, hbw⟩ := hrel
        have HRO' := Lib.hid hrow; have HF' := Lib.hid hf; have HBW' := Lib.hid hbw
        clear hrow hf
        by_cases hlt : k < np
        · obtain ⟨g3, rfl, hl3, hh3, hr3⟩ := HO2.out.2 (by omega)
          have hkP : k < P.length := by have := HNP.out; omega
          obtain ⟨p, hp⟩ : ∃ p, p = P.getD k 0 := ⟨_, rfl⟩
          have hpn : p < n := by rw [hp]; exact HPL.out _ (getD_lt hkP)
          have hc : wr.cell? ⟨g3, k, none⟩ = some (.int .i64 (p : Int)) := by
            have h := Row.cell (Row.same hr3 (hbw.block g3 (by omega) (by have := Row.lt HRO.out; omega))) hlt
            rw [h]
            simp only [nmF]
            congr 2
            rw [hp]
            unfold plcs
            rw [List.getD_eq_getElem?_getD, List.getElem?_map, List.getD_eq_getElem?_getD, List.getElem?_eq_getElem hkP]
            rfl
          have hm := Row.cell HRO'.out hpn
          have hfm := Row.free HRO'.out p
          have HTK : Hid (P.take (k + 1) = P.take k ++ [p]) := by show _ = _; rw [take_snoc' 0 hkP, hp]
          have hp0 : (0 : Int) ≤ (p : Int) := by omega
          have hpn' : (p : Int) < (n : Int) := by omega
          clear hp hbw hr3
          go_wp2
          go_roundw
          case rel =>
            refine ⟨k + 1, fun j => if j = p then true else f' j, by omega, by go_num, (Row.set HRO'.out p (.bool true)).congr fun j hj => by by_cases e : j = p <;> simp [e], fun j hj => ?_, HBW'.out.setCell (.inl (by dsimp only; omega)) _⟩
            rw [HTK.out, List.mem_append, List.mem_singleton]
            by_cases e : j = p
            · subst e; simp
            · show (if j = p then true else f' j) = true ↔ _
              rw [if_neg e, HF'.out j hj]
              exact ⟨fun h => by rcases h with h | h; exact .inl h; exact .inr (.inl h), fun h => by rcases h with h | h | h; exact .inl h; exact .inr h; exact absurd h e⟩
          case measure => simp [intOf]; omega
        · obtain rfl : k = np := by omega
          clear hbw
          go_wp2
          go_roundw
          case rel =>
            refine ⟨s + 1, f', by omega, by go_num, HRO'.out, fun j hj => ?_, HB2.out.trans HBW'.out, (HBW'.out.block w.heap.size HK2.out.lt (by omega)).trans HK2.out⟩
            rw [HF'.out j hj, HF.out j hj, HNP.out, List.take_length, HPE.out]
            constructor
            · rintro ((h | ⟨s', h1, h2⟩) | h)
              · exact .inl h
              · exact .inr ⟨s', by omega, h2⟩
              · exact .inr ⟨s, by omega, h⟩
            · rintro (h | ⟨s', h1, h2⟩)
              · exact .inl (.inl h)
              · by_cases e : s' = s
                · subst e; exact .inr h2
                · exact .inl (.inr ⟨s', by omega, h2⟩)
          case measure => simp [intOf]; omega
    · obtain rfl : s = 6 := by omega
      go_wp2
      first | refine bodyPost_end (results_none rfl _ _ _) rfl ?_ | refine bodyPost_ret (results_none rfl _ _ _) rfl ?_
      exact ⟨⟨_, rfl⟩, f, HRO.out, HF.out, HBW.out⟩

theorem info_bool : (Tryz.prog.info? 4).map (fun i => (i.zero, i.size, i.bytes)) = some (some (.bool false), 1, 1) := by kernel_rfl
/-- the first k records' times, and the floor -/
def tmsK (X : List Rc) (f : Int) (k : Nat) (t : Int) : Prop := t = f ∨ ∃ j, j < k ∧ f ≤ (X.getD j Rc.zero).t ∧ (X.getD j Rc.zero).t = t
def MkK (X : List Rc) (f : Int) (k i : Nat) : Prop := ∃ t, tmsK X f k t ∧ ∃ s : Nat, s < 6 ∧ i ∈ trl X (s : Int) X.length t
theorem mkK_all {X : List Rc} (hX : hRight X = true) (i : Nat) : MkK X (floorR X) X.length i ↔ Mk X (tmsTo X (floorR X) X.length) i := by
  constructor
  · rintro ⟨t, ht, h⟩; exact ⟨t, (tms_mem hX _ t X.length (Nat.le_refl _)).2 ht, h⟩
  · rintro ⟨t, ht, h⟩; exact ⟨t, (tms_mem hX _ t X.length (Nat.le_refl _)).1 ht, h⟩
theorem mkK_zero (X : List Rc) (f : Int) (i : Nat) : MkK X f 0 i ↔ ∃ s : Nat, s < 6 ∧ i ∈ trl X (s : Int) X.length f := by
  constructor
  · rintro ⟨t, (rfl | ⟨j, h, -⟩), h'⟩
    · exact h'
    · omega
  · intro h; exact ⟨f, .inl rfl, h⟩
theorem mkK_yes {X : List Rc} {f : Int} {k : Nat} (h : f ≤ (X.getD k Rc.zero).t) (i : Nat) : MkK X f (k + 1) i ↔ MkK X f k i ∨ ∃ s : Nat, s < 6 ∧ i ∈ trl X (s : Int) X.length (X.getD k Rc.zero).t := by
  constructor
  · rintro ⟨t, (rfl | ⟨j, h1, h2, h3⟩), h'⟩
    · exact .inl ⟨_, .inl rfl, h'⟩
    · by_cases e : j = k
      · subst e; rw [← h3] at h'; exact .inr h'
      · exact .inl ⟨t, .inr ⟨j, by omega, h2, h3⟩, h'⟩
  · rintro (⟨t, (rfl | ⟨j, h1, h2⟩), h'⟩ | h')
    · exact ⟨_, .inl rfl, h'⟩
    · exact ⟨t, .inr ⟨j, by omega, h2⟩, h'⟩
    · exact ⟨_, .inr ⟨k, by omega, h, rfl⟩, h'⟩
theorem mkK_no {X : List Rc} {f : Int} {k : Nat} (h : ¬ f ≤ (X.getD k Rc.zero).t) (i : Nat) : MkK X f (k + 1) i ↔ MkK X f k i := by
  constructor
  · rintro ⟨t, (rfl | ⟨j, h1, h2, h3⟩), h'⟩
    · exact ⟨_, .inl rfl, h'⟩
    · by_cases e : j = k
      · subst e; exact absurd h2 h
      · exact ⟨t, .inr ⟨j, by omega, h2, h3⟩, h'⟩
  · rintro ⟨t, (rfl | ⟨j, h1, h2⟩), h'⟩
    · exact ⟨_, .inl rfl, h'⟩
    · exact ⟨t, .inr ⟨j, by omega, h2⟩, h'⟩
theorem flP_yes {X : List Rc} {k : Nat} (h : (X.getD k Rc.zero).k = 4 ∧ (X.getD k Rc.zero).o = floorR X) : flP X (k + 1) = (k : Int) := by simp only [flP]; rw [if_pos h]
theorem flP_no {X : List Rc} {k : Nat} (h : ¬ ((X.getD k Rc.zero).k = 4 ∧ (X.getD k Rc.zero).o = floorR X)) : flP X (k + 1) = flP X k := by simp only [flP]; rw [if_neg h]
theorem flP_range (X : List Rc) (k : Nat) : flP X k = -1 ∨ (0 ≤ flP X k ∧ flP X k < k) := by
  induction k with
  | zero => exact .inl rfl
  | succ k ih =>
    simp only [flP]
    split
    · right; omega
    · rcases ih with h | h
      · exact .inl h
      · right; omega
/-- a function that gives a row of marks back -/
def RetBs (w : World) (n : Nat) (f : Nat → Bool) (e : Ending) (w' : World) : Prop := ∃ g, e = .returned (.slice (some ⟨g, 0, none⟩) n n) ∧ w.heap.size ≤ g ∧ BRow w' g n f ∧ Below w.heap.size w w'
open Classical in
theorem nd_of {X : List Rc} (hX : hRight X = true) (i : Nat) : nd X i = true ↔ MkK X (floorR X) X.length i ∨ flP X X.length = (i : Int) := by
  unfold nd; rw [decide_eq_true_eq, mkK_all hX]

set_option maxHeartbeats 4000000 in
set_option maxRecDepth 100000 in
theorem l04Needed_any (A : Option Addr) (n ca : Nat) (X : List Rc) (w : World) (hr : hRight X = true) (hA : RdRc w w.heap.size A n X) :
    Calls Tryz.prog 148 #[.agg #[.slice A n ca]] w (RetBs w n (nd X)) := by
  have hn : n ≤ 48 := by rw [← hA.1]; exact hRight_len hr
  have HL := Lib.hid hA.1
  have HA := Lib.hid hA; have HR := Lib.hid hr
  clear hA hr
  have hmk := fun W => run_makeN (P := Tryz.prog) 188 4 (.bool false) 1 1 Tryz.underlying188 info_bool n (by omega) (by omega) W
  go_enter Tryz.func148, Tryz.ntmps148
  go_wp2_with fail
  have k0 := (isBlk_new w 60 [.slice A n ca]).alloc (.cells (madeCells #[.bool false] n) 4)
  have hM0 : BRow ((w.alloc (.cells #[.slice A n ca] 60)).alloc (.cells (madeCells #[.bool false] n) 4)) (w.heap.size + 1) n (fun _ => false) := by
    have h := row_made (w.alloc (.cells #[.slice A n ca] 60)) 4 #[.bool false] n (fun _ => .bool false) (fun i hi => by simp [Nat.mod_one])
    rw [size_alloc] at h
    exact h
  have hb0 : Below w.heap.size w ((w.alloc (.cells #[.slice A n ca] 60)).alloc (.cells (madeCells #[.bool false] n) 4)) := ((Below.refl _ _).alloc (Nat.le_refl _) _).alloc (by simp) _
  change IsBlk ((w.alloc (.cells #[.slice A n ca] 60)).alloc (.cells (madeCells #[.bool false] n) 4)) _ _ _ at k0
  generalize (w.alloc (.cells #[.slice A n ca] 60)).alloc (.cells (madeCells #[.bool false] n) 4) = W at k0 hM0 hb0 ⊢
  clear hmk
  refine (l04Floor_any A n ca X W (by omega) (HA.out.next hb0)).mono ?_
  rintro e w1 ⟨rfl, hb1⟩
  have HF : Hid (floorTo X n = floorR X) := by show _ = floorTo X X.length; rw [HL.out]
  obtain ⟨fl, hfl⟩ : ∃ fl, fl = floorTo X n := ⟨_, rfl⟩
  rw [← hfl] at HF ⊢
  clear hfl
  have HB1 := Lib.hid (hb0.trans (hb1.mono hb0.size))
  have HK1 := Lib.hid (k0.below hb1 k0.lt)
  have HM1 := Lib.hid (Row.below hM0 hb1 (Row.lt hM0))
  have hx1 : w1.cell? ⟨w.heap.size, 0, none⟩ = some (.slice A n ca) := HK1.out.cell rfl
  clear hb0 hb1 k0 hM0
  go_wp2_with fail
  refine (l04Mark_any A n ca (w.heap.size + 1) n X fl (fun _ => false) w1 HR.out ((HA.out.below HB1.out).mono (by omega)) HM1.out).mono ?_
  rintro e w2 ⟨⟨rv, rfl⟩, f2, hrow2, hf2, hbw2⟩
  have hlt1 : w.heap.size + 1 < w1.heap.size := Row.lt HM1.out
  have HB2 : Hid (Below w.heap.size w w2) := HB1.out.trans ((hbw2.below (by omega)).mono (by omega))
  have HK2 : Hid (IsBlk w2 w.heap.size 60 [.slice A n ca]) := (hbw2.block w.heap.size (by omega) (.inl (by omega))).trans HK1.out
  have HM2 := Lib.hid hrow2
  have HF2 : Hid (∀ j, j < n → (f2 j = true ↔ MkK X fl 0 j)) := fun j hj => by
    rw [hf2 j hj, mkK_zero, HL.out]
    exact ⟨fun h => by rcases h with h | h; cases h; exact h, .inr⟩
  clear hrow2 hf2 hbw2 hx1
  go_wp2
  go_loopw [5, 6] (fun last i wr => ∃ (k : Nat) (f : Nat → Bool), k ≤ n ∧ i = .int .i64 (k : Nat) ∧ last = .int .i64 (flP X k) ∧ BRow wr (w.heap.size + 1) n f ∧ (∀ j, j < n → (f j = true ↔ MkK X fl k j)) ∧ Below w.heap.size w wr ∧ IsBlk wr w.heap.size 60 [.slice A n ca]) (fun _ i _ => n - (intOf i).toNat)
  case atStart => exact ⟨0, f2, by omega, rfl, rfl, HM2.out, HF2.out, HB2.out, HK2.out⟩
  case round =>
    obtain ⟨k, f, hk, rfl, rfl, hrow, hf, hbel, hblk⟩ := hrel
    have HRO := Lib.hid hrow; have HF' := Lib.hid hf; have HW := Lib.hid hbel; have HBK := Lib.hid hblk
    have hx : wr.cell? ⟨w.heap.size, 0, none⟩ = some (.slice A n ca) := hblk.cell rfl
    have hltr : w.heap.size + 1 < wr.heap.size := Row.lt hrow
    have hltw : w.heap.size < wr.heap.size := by omega
    clear hrow hf hblk
    by_cases hlt : k < n
    · obtain ⟨g, off, rfl, hg, hc0, hc1, hc2, hc3, hc4, hc5⟩ := (HA.out.below hbel).at hlt
      have HMY : Hid (fl ≤ (X.getD k Rc.zero).t → ∀ i, MkK X fl (k + 1) i ↔ MkK X fl k i ∨ ∃ s : Nat, s < 6 ∧ i ∈ trl X (s : Int) X.length (X.getD k Rc.zero).t) := Lib.hid (fun h i => mkK_yes h i)
      have HMN : Hid (¬ fl ≤ (X.getD k Rc.zero).t → ∀ i, MkK X fl (k + 1) i ↔ MkK X fl k i) := Lib.hid (fun h i => mkK_no h i)
      have HPY : Hid ((X.getD k Rc.zero).k = 4 ∧ (X.getD k Rc.zero).o = fl → flP X (k + 1) = (k : Int)) := fun h => flP_yes (by rw [← HF.out]; exact h)
      have HPN : Hid (¬ ((X.getD k Rc.zero).k = 4 ∧ (X.getD k Rc.zero).o = fl) → flP X (k + 1) = flP X k) := fun h => flP_no (by rw [← HF.out]; exact h)
      generalize X.getD k Rc.zero = r at *
      have hkn : (k : Int) < (n : Int) := by omega
      have hb5 : Below wr.heap.size wr (wr.alloc (.cells #[.int .i64 r.k, .int .i64 r.s, .int .i64 r.q, .int .i64 r.t, .int .i64 r.o, .string r.d] 68)) := (Below.refl _ _).alloc (Nat.le_refl _) _
      have k5 := isBlk_new wr 68 (recC r)
      change IsBlk (wr.alloc (.cells #[.int .i64 r.k, .int .i64 r.s, .int .i64 r.q, .int .i64 r.t, .int .i64 r.o, .string r.d] 68)) _ _ _ at k5
      have HK5 := Lib.hid k5; have HB5 := Lib.hid hb5
      clear k5 hb5 hbel
      -- behind the marks: the last floor
      have HREST : Hid (∀ (w6 : World) (f6 : Nat → Bool), BRow w6 (w.heap.size + 1) n f6 → (∀ j, j < n → (f6 j = true ↔ MkK X fl (k + 1) j)) → Below w.heap.size w w6 → IsBlk w6 w.heap.size 60 [.slice (some ⟨g, off, none⟩) n ca] →
          ∀ z, flP X (k + 1) = z → ∃ (k' : Nat) (f' : Nat → Bool), k' ≤ n ∧ Value.int .i64 ((k : Int) + 1) = .int .i64 (k' : Nat) ∧ Value.int .i64 z = .int .i64 (flP X k') ∧ BRow w6 (w.heap.size + 1) n f' ∧ (∀ j, j < n → (f' j = true ↔ MkK X fl k' j)) ∧ Below w.heap.size w w6 ∧ IsBlk w6 w.heap.size 60 [.slice (some ⟨g, off, none⟩) n ca]) :=
        fun w6 f6 h1 h2 h3 h4 z hz => ⟨k + 1, f6, by omega, by go_num, by rw [hz], h1, h2, h3, h4⟩
      by_cases ht : fl ≤ r.t
      · have HMY' := Lib.hid (HMY.out ht)
        clear HMY HMN
        go_wp2_with fail
        generalize wr.alloc (.cells #[.int .i64 r.k, .int .i64 r.s, .int .i64 r.q, .int .i64 r.t, .int .i64 r.o, .string r.d] 68) = w5 at HK5 HB5 ⊢
        have h5 : wr.heap.size < w5.heap.size := HK5.out.lt
        refine (l04Mark_any (some ⟨g, off, none⟩) n ca (w.heap.size + 1) n X r.t f w5 HR.out ((HA.out.below (HW.out.trans (HB5.out.mono HW.out.size))).mono (by omega)) (Row.below HRO.out HB5.out (by omega))).mono ?_
        rintro e w6 ⟨⟨rv, rfl⟩, f6, hrow6, hf6, hbw6⟩
        have HM6 := Lib.hid hrow6
        have HF6 : Hid (∀ j, j < n → (f6 j = true ↔ MkK X fl (k + 1) j)) := fun j hj => (hf6 j hj).trans (by show (f j = true ∨ ∃ s : Nat, s < 6 ∧ j ∈ trl X (s : Int) n r.t) ↔ _; rw [HMY'.out j, HF'.out j hj, HL.out])
        have HB6 : Hid (Below w.heap.size w w6) := HW.out.trans ((HB5.out.mono HW.out.size).trans ((hbw6.below (by omega)).mono (by omega)))
        have HK6 : Hid (IsBlk w6 w.heap.size 60 [.slice (some ⟨g, off, none⟩) n ca]) := (hbw6.block w.heap.size (by omega) (.inl (by omega))).trans (HBK.out.below HB5.out HBK.out.lt)
        obtain ⟨x0, x1, x2, x3, x4, x5⟩ := rcCells ((hbw6.block wr.heap.size h5 (.inr (by omega))).trans HK5.out)
        clear hrow6 hf6 hbw6 hc0 hc1 hc2 hc3 hc4 hc5
        by_cases h4 : r.k = 4
        · have h4' : (r.k == 4) = true := by simpa using h4
          by_cases ho : r.o = fl
          · have ho' : (r.o == fl) = true := by simpa using ho
            have HP := Lib.hid (HPY.out ⟨h4, ho⟩)
            clear HPY HPN h4 ho
            go_wp2
            go_roundw
            case rel => exact HREST.out w6 f6 HM6.out HF6.out HB6.out HK6.out _ HP.out
            case measure => simp [intOf]; omega
          · have ho' : (r.o == fl) = false := by simpa using ho
            have HP := Lib.hid (HPN.out (fun h => ho h.2))
            clear HPY HPN h4 ho
            go_wp2
            go_roundw
            case rel => exact HREST.out w6 f6 HM6.out HF6.out HB6.out HK6.out _ HP.out
            case measure => simp [intOf]; omega
        · have h4' : (r.k == 4) = false := by simpa using h4
          have HP := Lib.hid (HPN.out (fun h => h4 h.1))
          clear HPY HPN h4
          go_wp2
          go_roundw
          case rel => exact HREST.out w6 f6 HM6.out HF6.out HB6.out HK6.out _ HP.out
          case measure => simp [intOf]; omega
      · have HMN' := Lib.hid (HMN.out ht)
        have ht' : r.t < fl := by omega
        have HF6 : Hid (∀ j, j < n → (f j = true ↔ MkK X fl (k + 1) j)) := fun j hj => by rw [HF'.out j hj, HMN'.out j]
        have HM6 : Hid (BRow (wr.alloc (.cells #[.int .i64 r.k, .int .i64 r.s, .int .i64 r.q, .int .i64 r.t, .int .i64 r.o, .string r.d] 68)) (w.heap.size + 1) n f) := Row.below HRO.out HB5.out (by omega)
        have HB6 := Lib.hid (HW.out.trans (HB5.out.mono HW.out.size))
        have HK6 := Lib.hid (HBK.out.below HB5.out HBK.out.lt)
        clear HMY HMN ht
        by_cases h4 : r.k = 4
        · have h4' : (r.k == 4) = true := by simpa using h4
          by_cases ho : r.o = fl
          · have ho' : (r.o == fl) = true := by simpa using ho
            have HP := Lib.hid (HPY.out ⟨h4, ho⟩)
            clear HPY HPN h4 ho
            go_wp2
            go_roundw
            case rel => exact HREST.out _ f HM6.out HF6.out HB6.out HK6.out _ HP.out
            case measure => simp [intOf]; omega
          · have ho' : (r.o == fl) = false := by simpa using ho
            have HP := Lib.hid (HPN.out (fun h => ho h.2))
            clear HPY HPN h4 ho
            go_wp2
            go_roundw
            case rel => exact HREST.out _ f HM6.out HF6.out HB6.out HK6.out _ HP.out
            case measure => simp [intOf]; omega
        · have h4' : (r.k == 4) = false := by simpa using h4
          have HP := Lib.hid (HPN.out (fun h => h4 h.1))
          clear HPY HPN h4
          go_wp2
          go_roundw
          case rel => exact HREST.out _ f HM6.out HF6.out HB6.out HK6.out _ HP.out
          case measure => simp [intOf]; omega
    · obtain rfl : k = n := by omega
      clear hbel
      have hpr := flP_range X k
      have HND : Hid (∀ i, nd X i = true ↔ MkK X fl k i ∨ flP X k = (i : Int)) := fun i => by rw [nd_of HR.out, ← HF.out, HL.out]
      obtain ⟨z, hz⟩ : ∃ z, z = flP X k := ⟨_, rfl⟩
      rw [← hz] at hpr HND ⊢
      clear hz
      rcases hpr with rfl | ⟨h0, h1⟩
      · go_wp2
        go_ret
        refine ⟨w.heap.size + 1, rfl, by omega, Row.congr HRO.out fun j hj => ?_, HW.out⟩
        congr 1
        rw [Bool.eq_iff_iff, HF'.out j hj, HND.out j]
        exact ⟨.inl, fun h => by rcases h with h | h; exact h; omega⟩
      · obtain ⟨p, rfl⟩ : ∃ p : Nat, z = (p : Int) := ⟨z.toNat, by omega⟩
        have hpn : p < k := by omega
        have hm := Row.cell HRO.out hpn
        have hfm := Row.free HRO.out p
        have hp0 : (0 : Int) ≤ (p : Int) := by omega
        go_wp2
        go_ret
        refine ⟨w.heap.size + 1, rfl, by omega, (Row.set HRO.out p (.bool true)).congr fun j hj => ?_, HW.out.setCell (by dsimp only; omega) _⟩
        by_cases e : j = p
        · subst e; rw [if_pos rfl]; congr 1; exact ((HND.out j).2 (.inr rfl)).symm
        · rw [if_neg e]
          congr 1
          rw [Bool.eq_iff_iff, HF'.out j hj, HND.out j]
          exact ⟨.inl, fun h => by rcases h with h | h; exact h; omega⟩

theorem own_ne_brow {w : World} {base g2 gm cap n m : Nat} {T : List Int} {x : Int} {f : Nat → Bool} (ho : w.ownsRow base 2 1 (.slice (some ⟨g2, 0, none⟩) m cap) m ((T ++ [x]).map numV)) (hb : BRow w gm n f) (hn : 0 < n) : g2 ≠ gm := by
  rintro rfl
  have hl := ho.1
  rw [List.length_map, List.length_append] at hl
  simp at hl
  obtain ⟨f', hrow, h1, -, -, hf⟩ := rowIs_of_own ho
  have c1 := rowIs_cell hrow (show 0 < cap by omega)
  have c2 := Row.cell hb hn
  rw [c1] at c2
  have hx : ((T ++ [x]).map numV)[0]? = some (numV ((T ++ [x]).getD 0 0)) := by
    rw [List.getElem?_map, List.getD_eq_getElem?_getD, List.getElem?_eq_getElem (by simp)]; rfl
  rw [hf 0 _ hx] at c2
  simp [numV] at c2

end Go.Proofs.YtfpibbhcecdbgaaGreatDoor

namespace Go.Proofs.YtfpibbhcecdbgaaGreatDoor
open Go.RowKit
open Bt (Rc)

/-- a history, in memory of its own -/
def RetHs (w : World) (Y : List Rc) (e : Ending) (w' : World) : Prop :=
  ∃ (A : Option Addr) (ca : Nat), e = .returned (.agg #[.slice A Y.length ca]) ∧ OwRc w' w.heap.size w'.heap.size A Y.length Y ∧ Below w.heap.size w w'
theorem last_eq {X : List Rc} (hX : hRight X = true) {k : Nat} (hk : k < X.length) : rcEq (X.getD k Rc.zero) (lastOf X) = decide (k + 1 = X.length) := by
  have e : lastOf X = X.getD (X.length - 1) Rc.zero := by unfold lastOf; rw [if_pos hX]; rfl
  rw [Bool.eq_iff_iff, rcEq_iff, decide_eq_true_eq, e]
  constructor
  · intro h
    have := seq_inj hX hk (show X.length - 1 < X.length by omega) (by rw [h])
    omega
  · intro h
    rw [show X.length - 1 = k by omega]
theorem bel_stepR {w a b : World} (h : Below w.heap.size w a) (k : Below a.heap.size a b) : Below w.heap.size w b := h.trans (k.mono h.size)
theorem bel_allocR (w : World) (o : Obj) : Below w.heap.size w (w.alloc o) := (Below.refl _ _).alloc (Nat.le_refl _) _
theorem size_setP (w : World) (a : Addr) (u : Value) : (w.setCell a u).heap.size = w.heap.size := by simp [World.setCell]

set_option maxHeartbeats 8000000 in
set_option maxRecDepth 100000 in
theorem impl_prune (A : Option Addr) (n ca : Nat) (X : List Rc) (w : World) (hS : SmallR X) (hca : n ≤ ca) (hA : RdRc w w.heap.size A n X) :
    Calls Tryz.prog 156 #[.agg #[.slice A n ca]] w (RetHs w (pruneOf X)) := by
  have HL := Lib.hid hA.1
  have HA := Lib.hid hA; have HS := Lib.hid hS; clear hA hS
  go_enter Tryz.func156, Tryz.ntmps156
  go_wp2_with fail
  have hb0 : Below w.heap.size w ((w.alloc (.cells #[.slice A n ca] 60)).alloc (.cells #[.slice none 0 0] 60)) := ((Below.refl _ _).alloc (Nat.le_refl _) _).alloc (by simp) _
  have k0 := (isBlk_new w 60 [.slice A n ca]).alloc (.cells #[.slice none 0 0] 60)
  have k1 := isBlk_new (w.alloc (.cells #[.slice A n ca] 60)) 60 [.slice none 0 0]
  change IsBlk ((w.alloc (.cells #[.slice A n ca] 60)).alloc (.cells #[.slice none 0 0] 60)) _ _ _ at k0 k1
  rw [size_alloc] at k1
  generalize (w.alloc (.cells #[.slice A n ca] 60)).alloc (.cells #[.slice none 0 0] 60) = W at hb0 k0 k1 ⊢
  refine (impl_histRight_any A n ca X W HS.out (HA.out.next hb0)).mono ?_
  rintro e w1 ⟨rfl, hb1⟩
  have HB1 := Lib.hid (hb0.trans (hb1.mono hb0.size))
  have HK1 := Lib.hid (k0.below hb1 k0.lt)
  have HR1 := Lib.hid (k1.below hb1 k1.lt)
  have hx : w1.cell? ⟨w.heap.size, 0, none⟩ = some (.slice A n ca) := HK1.out.cell rfl
  clear hb0 hb1 k0 k1
  by_cases hr : hRight X = true
  case neg =>
    have HT := Lib.hid (pruneOf_no hr)
    have hr : hRight X = false := by simpa using hr
    have d0 : w1.cell? ⟨w.heap.size + 1, 0, none⟩ = some (.slice none 0 0) := HR1.out.cell rfl
    have fd0 : w1.frozen? ⟨w.heap.size + 1, 0, none⟩ = false := HR1.out.free
    rw [hr]
    clear hr
    go_wp2
    refine bodyPost_ret (v := .agg #[.slice none 0 0]) (by simp [results, Tryz.results156, go_sem, d0]) rfl ?_
    rw [HT.out]
    exact ⟨none, 0, rfl, ow_nilR _ _ _ _, HB1.out.setCell (by dsimp only; omega) _⟩
  have hn : n ≤ 48 := by rw [← HL.out]; exact hRight_len hr
  have HT : Hid (pruneOf X = prTo X n) := by show _ = _; rw [pruneOf_yes hr, HL.out]
  have HR := Lib.hid hr
  rw [hr]
  clear hr
  go_wp2_with fail
  refine (neededTest_any A n ca X w1 HR.out hca (HA.out.next HB1.out)).mono ?_
  rintro e wN ⟨B3, B4, L, rfl, hH, hLm, hbN⟩
  have HND : Hid (∀ k, k < n → tstB (flR X) L (X.getD k Rc.zero) = nd X k) := fun k hk => tst_nd HR.out hLm (by rw [HL.out]; exact hk)
  have HLA : Hid (∀ k, k < n → rcEq (X.getD k Rc.zero) (lastOf X) = decide (k + 1 = X.length)) := fun k hk => last_eq HR.out (by rw [HL.out]; exact hk)
  have HH := Lib.hid hH
  have HBN := Lib.hid (HB1.out.trans (hbN.mono HB1.out.size))
  have HKN := Lib.hid (HK1.out.below hbN HK1.out.lt)
  have HRN := Lib.hid (HR1.out.below hbN HR1.out.lt)
  have hxN : wN.cell? ⟨w.heap.size, 0, none⟩ = some (.slice A n ca) := HKN.out.cell rfl
  generalize flR X = fl at HH HND
  clear hbN hx hH hLm
  go_wp2_with fail
  refine (lastRec_any A n ca X wN HS.out (HA.out.next HBN.out)).mono ?_
  rintro e w4 ⟨rfl, hb4⟩
  generalize lastOf X = la at HLA ⊢
  have HB4 := Lib.hid (HBN.out.trans (hb4.mono HBN.out.size))
  have HH4 := Lib.hid (HH.out.below hb4)
  have HK4 := Lib.hid (HKN.out.below hb4 HKN.out.lt)
  have HR4 := Lib.hid (HRN.out.below hb4 HRN.out.lt)
  have hx4 : w4.cell? ⟨w.heap.size, 0, none⟩ = some (.slice A n ca) := HK4.out.cell rfl
  have hlt4 : w.heap.size + 1 < w4.heap.size := HR4.out.lt
  have hlt4' : w.heap.size < w4.heap.size := by omega
  clear hb4 hxN
  go_wp2
  have kl := (isBlk_new w4 68 (recC la)).alloc (.cells #[.slice none 0 0] 60)
  have kk := isBlk_new (w4.alloc (.cells #[.int .i64 la.k, .int .i64 la.s, .int .i64 la.q, .int .i64 la.t, .int .i64 la.o, .string la.d] 68)) 60 [.slice none 0 0]
  have hb5 : Below w4.heap.size w4 ((w4.alloc (.cells #[.int .i64 la.k, .int .i64 la.s, .int .i64 la.q, .int .i64 la.t, .int .i64 la.o, .string la.d] 68)).alloc (.cells #[.slice none 0 0] 60)) := ((Below.refl _ _).alloc (Nat.le_refl _) _).alloc (by simp) _
  have hs5 : ((w4.alloc (.cells #[.int .i64 la.k, .int .i64 la.s, .int .i64 la.q, .int .i64 la.t, .int .i64 la.o, .string la.d] 68)).alloc (.cells #[.slice none 0 0] 60)).heap.size = w4.heap.size + 2 := by simp
  change IsBlk ((w4.alloc (.cells #[.int .i64 la.k, .int .i64 la.s, .int .i64 la.q, .int .i64 la.t, .int .i64 la.o, .string la.d] 68)).alloc (.cells #[.slice none 0 0] 60)) _ _ _ at kl kk
  rw [size_alloc] at kk
  generalize (w4.alloc (.cells #[.int .i64 la.k, .int .i64 la.s, .int .i64 la.q, .int .i64 la.t, .int .i64 la.o, .string la.d] 68)).alloc (.cells #[.slice none 0 0] 60) = w5 at kl kk hb5 hs5 ⊢
  have HKL := Lib.hid kl; have HKK := Lib.hid kk
  have HB5 := Lib.hid (HB4.out.trans (hb5.mono HB4.out.size))
  have HB45 := Lib.hid hb5
  have HK5 := Lib.hid (HK4.out.below hb5 HK4.out.lt)
  have HR5 := Lib.hid (HR4.out.below hb5 HR4.out.lt)
  have HS5 := Lib.hid hs5
  clear kl kk hb5 hs5 hx4
  obtain ⟨ir, hir, zr0, zr1, zr2⟩ := info_parts info_recL
  have Hir := Lib.hid hir; have Zr0 := Lib.hid zr0; have Zr1 := Lib.hid zr1; have Zr2 := Lib.hid zr2
  clear hir zr0 zr1 zr2
  -- the box of what is kept lies behind all that the loop reads: B = w4.heap.size + 1
  obtain ⟨B, hB⟩ : ∃ B, B = w4.heap.size + 1 := ⟨_, rfl⟩
  rw [← hB] at HKK ⊢
  have hB5 : B + 1 ≤ w5.heap.size := by rw [HS5.out, hB]; exact Nat.le_refl _
  have hBl : w4.heap.size < B := by omega
  have hB1 : w.heap.size + 1 < B := by omega
  clear hB HS5
  go_loopw [20] (fun i wr => ∃ (k : Nat) (v : Value), k ≤ n ∧ i = .int .i64 (k : Nat) ∧ wr.ownsRow (B + 1) 68 6 v (prTo X k).length (rcA (prTo X k)) ∧ Below B w5 wr ∧ IsBlk wr B 60 [v]) (fun i _ => n - (intOf i).toNat)
  case atStart => exact ⟨0, _, by omega, rfl, ⟨by simp [rcA, prTo], .inl ⟨rfl, rfl⟩⟩, Below.refl _ _, HKK.out⟩
  case round =>
    obtain ⟨k, v, hk, rfl, hown, hbw, hkv⟩ := hrel
    have HOWN := Lib.hid hown; have HBW := Lib.hid hbw; have HKV := Lib.hid hkv
    have HHR := Lib.hid (HH4.out.below (HB45.out.trans (hbw.mono (by omega))))
    have hzw : w5.heap.size ≤ wr.heap.size := hbw.size
    by_cases hlt : k < n
    · obtain ⟨g, off, rfl, hg, hc0, hc1, hc2, hc3, hc4, hc5⟩ := ((HA.out.below HB5.out).below (hbw.mono (by omega))).at hlt
      have hds := HS.out.at k
      have HPY := Lib.hid (fun h => prTo_yes (X := X) (k := k) h)
      have HPN := Lib.hid (fun h => prTo_no (X := X) (k := k) h)
      have HTS := Lib.hid (HND.out k hlt)
      have HLS := Lib.hid (HLA.out k hlt)
      have hTl := prTo_len X k
      generalize X.getD k Rc.zero = p at *
      generalize prTo X k = Y at *
      generalize nd X k = b at *
      generalize decide (k + 1 = X.length) = lb at *
      have hv0 : wr.cell? ⟨B, 0, none⟩ = some v := hkv.cell rfl
      have hz2 : B < wr.heap.size := hkv.lt
      have kla := HKL.out.below (B := B) hbw (by omega)
      have HKLA := Lib.hid kla
      clear hown hbw hkv kla
      go_wp2_with fail
      have hb4 : Below wr.heap.size wr (wr.alloc (.cells #[.int .i64 p.k, .int .i64 p.s, .int .i64 p.q, .int .i64 p.t, .int .i64 p.o, .string p.d] 68)) := (Below.refl _ _).alloc (Nat.le_refl _) _
      have k4 := isBlk_new wr 68 (recC p)
      change IsBlk (wr.alloc (.cells #[.int .i64 p.k, .int .i64 p.s, .int .i64 p.q, .int .i64 p.t, .int .i64 p.o, .string p.d] 68)) _ _ _ at k4
      generalize wr.alloc (.cells #[.int .i64 p.k, .int .i64 p.s, .int .i64 p.q, .int .i64 p.t, .int .i64 p.o, .string p.d] 68) = w6 at hb4 k4 ⊢
      refine (test_any B3 B4 fl p L w6 (HHR.out.below hb4)).mono ?_
      rintro e w7 ⟨rfl, hb7⟩
      rw [HTS.out]
      have hb47 : Below wr.heap.size wr w7 := hb4.trans (hb7.mono hb4.size)
      have HB47 := Lib.hid hb47
      obtain ⟨p0, p1, p2, p3, p4, p5⟩ := rcCells (k4.below hb7 k4.lt)
      obtain ⟨y0, y1, y2, y3, y4, y5⟩ := rcCells (HKLA.out.below hb47 HKLA.out.lt)
      have hv7 : w7.cell? ⟨B, 0, none⟩ = some v := (HKV.out.below hb47 hz2).cell rfl
      have hz7 : wr.heap.size ≤ w7.heap.size := hb47.size
      have hz27 : B < w7.heap.size := by omega
      have hne := equalIn_rec p la
      rw [HLS.out] at hne
      have hgu := rec_guard
      clear hb4 hb7 k4 hb47 hc0 hc1 hc2 hc3 hc4 hc5 hv0 HTS HLS HND HLA
      by_cases hyes : (b || lb) = true
      · have HPY' := Lib.hid (HPY.out hyes)
        have hbl : (b = true) ∨ (b = false ∧ lb = true) := by cases b <;> cases lb <;> simp_all
        clear HPY HPN hyes
        have HSTEP : True := trivial
        rcases hbl with rfl | ⟨rfl, rfl⟩
        all_goals
          go_wp2
          go_region_law (first
            | (go_simp
               go_at_call 222
               refine (copyRec_any p _ (by omega)).mono ?_
               rintro e w8 ⟨rfl, hb8⟩
               have hb48 : Below wr.heap.size wr w8 := HB47.out.trans (((Below.refl _ _).drew.trans hb8).mono HB47.out.size)
               have hv8 : w8.cell? ⟨B, 0, none⟩ = some v := (HKV.out.below hb48 hz2).cell rfl
               have hb89 : Below w8.heap.size w8 (w8.alloc (.cells (recC p).toArray 68)) := (Below.refl _ _).alloc (Nat.le_refl _) _
               have HOWN8 := Lib.hid (own_belowR (own_belowR HOWN.out hb48) hb89)
               have HNEWS8 := Lib.hid (fun j u (hj : (recC p)[j]? = some u) => (show (w8.alloc (.cells (recC p).toArray 68)).cell? ((⟨w8.heap.size, 0, none⟩ : Addr).add j) = some u by rw [add_plain]; exact (isBlk_new w8 68 (recC p)).cell hj))
               have HB8 := Lib.hid (hb48.trans (hb89.mono hb48.size))
               have hz8 : wr.heap.size ≤ w8.heap.size := hb48.size
               have hz28 : B < w8.heap.size := by omega
               clear hb8 hb48 hb89)
            | (refine step_append_lies _ rfl (.tmp 33) (.tmp 36) 58 rfl (B + 1) 68 ir _ 6 56 Tryz.underlying58 Hir.out Zr0.out Zr1.out Zr2.out rfl (by omega) v Y.length (rcA Y) (by rfl) HOWN8.out ⟨w8.heap.size, 0, none⟩ 1 1 (recC p) (by rfl) (by rfl) HNEWS8.out (recC_one p) (by omega) (by unfold maxLen; omega) (by omega) (by simp; omega) (w8.heap.size + 1) (by simp) ?_
               intro g2 cap2 w9 hown9 hgrow9 hat9 hlt9
               have hvb : ∀ q, v.ownBlock = some q → B + 1 ≤ q := fun q hq => (own_block_ltR HOWN.out hq).1
               have hb9 : Below (B + 1) (w8.alloc (.cells (recC p).toArray 68)) w9 := (Below.refl _ _).grown hgrow9 (by simp; omega) hvb
               have HB9 := Lib.hid ((HBW.out.trans (HB8.out.mono (by omega))).trans (hb9.mono (by omega)))
               have k9 := (HKV.out.below HB8.out hz2).below hb9 (by omega)
               have HK9 := Lib.hid k9
               have hv9 : w9.cell? ⟨B, 0, none⟩ = some v := k9.cell rfl
               have fv9 : w9.frozen? ⟨B, 0, none⟩ = false := k9.free
               have HOWN9 : Hid (w9.ownsRow (B + 1) 68 6 (.slice (some ⟨g2, 0, none⟩) (Y.length + 1) cap2) (Y.length + 1) (rcA (Y ++ [p]))) := by
                 show World.ownsRow _ _ _ _ _ _ _
                 rw [rcA_snoc]; exact hown9
               clear hvb hb9 k9 hown9 hgrow9 hat9 hlt9))
          all_goals
            go_wp2
            go_roundw
            case rel => exact ⟨k + 1, .slice (some ⟨g2, 0, none⟩) (Y.length + 1) cap2, by omega, by go_num, by rw [HPY'.out, List.length_append]; exact own_otherR HOWN9.out (by dsimp only; omega) _, HB9.out.setCell (by dsimp only; omega) _, HK9.out.set _⟩
            case measure => simp [intOf]; omega
      · have hno : (b || lb) = false := by simpa using hyes
        have HPN' := Lib.hid (HPN.out hno)
        obtain ⟨rfl, rfl⟩ : b = false ∧ lb = false := by cases b <;> cases lb <;> simp_all
        clear HPY HPN hyes hno
        have HOWN7 := Lib.hid (own_belowR HOWN.out HB47.out)
        have HB7' := Lib.hid (HBW.out.trans (HB47.out.mono (by omega)))
        have HK7 := Lib.hid (HKV.out.below HB47.out hz2)
        go_wp2
        go_roundw
        case rel => exact ⟨k + 1, v, by omega, by go_num, by rw [HPN'.out]; exact HOWN7.out, HB7'.out, HK7.out⟩
        case measure => simp [intOf]; omega
    · obtain rfl : k = n := by omega
      obtain ⟨Av, cv, rfl⟩ := own_slice HOWN.out
      have hv0 : wr.cell? ⟨B, 0, none⟩ = some (.slice Av (prTo X k).length cv) := hkv.cell rfl
      have kr := HR5.out.below (B := B) hbw (by omega)
      have d0 : wr.cell? ⟨w.heap.size + 1, 0, none⟩ = some (.slice none 0 0) := kr.cell rfl
      have fd0 : wr.frozen? ⟨w.heap.size + 1, 0, none⟩ = false := kr.free
      clear hown hbw hkv kr
      go_wp2
      refine bodyPost_ret (v := .agg #[.slice Av (prTo X k).length cv]) (by simp [results, Tryz.results156, go_sem, d0]) rfl ?_
      rw [HT.out]
      refine ⟨Av, cv, rfl, ?_, (HB5.out.trans (HBW.out.mono (by omega))).setCell (by dsimp only; omega) _⟩
      refine ((ow_of_own HOWN.out).same fun j h1 h2 => Below.heap_setCell _ _ _ _ (by dsimp only; omega)).mono (by omega) (by rw [size_setP]; exact Nat.le_refl _)

end Go.Proofs.YtfpibbhcecdbgaaGreatDoor
