/-
  slices.Insert at a list of numbers, in the midst of it; a number added to a sorted list, wherever it belongs.
-/
import Derived.Test.YtloaeglmngcenaaGreatDoorProg
import Derived.KernelRfl
import Derived.Test.YtloaeglmngcenaaGreatDoorHsAddN
import Derived.Deep.RegionLaw
import Derived.Lib.SliceRun
import Derived.Lib.Overlaps
import Derived.Lib.AppendZerosOnto
import Derived.Laws.Externs
import Derived.Laws.IdiomCopy
import Derived.Laws.NewBlocks
import Derived.Lib.LazyBuf
namespace Go.Proofs.YtloaeglmngcenaaGreatDoor
open Go.RowKit

/-- 'copy(d, s)' whose run is known -/
theorem wpList_copyN {P : Program} (w : World) {ops : Array Oper} {rest : List Oper} {o : Oper} {a : Act} {Q : Exit → Act → World → Prop} (hgd : o.guard = none) (d s : Operand) (t t' : TypeId)
    (ho : o.op = .call { callee := .builtin .copy, args := #[d, s], argTypes := #[t, t'] }) (v u : Value) (hd : a.eval d = v) (hs : a.eval s = u) {v' : Value} {w' : World}
    (hr : (Builtin.copy_ #[t, t'] o.type #[v, u]).run P w = .ok v' w') (h : wpList P ops Q rest (a.put o.dst v') w') : wpList P ops Q (o :: rest) a w :=
  wpList_plain hgd fun _ hK => by
    unfold Oper.wp execOp
    simp only [ho, resolve, invoke, builtin, Sem.run_bind, Sem.run_pure, Result.andThen_ok, List.map_toArray, List.map_cons, List.map_nil, hd, hs, hr]
    exact hK _ _ h
/-- .. in a region that draws -/
theorem step_copyN {P : Program} {ops : Array Oper} {o : Oper} {a : Act} {w : World} {K : Act → World → Prop} {Q : Exit → Act → World → Prop} {E : Prop}
    (hg : o.guard = none) (d x : Operand) (dT sT : TypeId) (hop : o.op = Op.call { callee := Callee.builtin Builtin.copy, args := #[d, x], argTypes := #[dT, sT] })
    (v u : Value) (hd : a.eval d = v) (hx : a.eval x = u) {v' : Value} {w' : World} (hr : (Builtin.copy_ #[dT, sT] o.type #[v, u]).run P w = .ok v' w') (hK : K (a.put o.dst v') w') :
    if Region.wanted o (yielded ops a.tmps) = true then Oper.wp P o a w K Q else E := by
  have hw : Region.wanted o (yielded ops a.tmps) = true := by simp [Region.wanted, hg]
  rw [if_pos hw]
  unfold Oper.wp
  simp [execOp, hop, resolve, invoke, builtin, hd, hx, hr, Result.andThen]
  exact hK

theorem rowIs_of_own {w : World} {base n g cap : Nat} {e : TypeId} {xs : List Value} (h : w.ownsRow base e 1 (.slice (some ⟨g, 0, none⟩) n cap) n xs) :
    ∃ f : Nat → Value, w.rowIs g e cap f ∧ n ≤ cap ∧ cap ≤ maxLen ∧ base ≤ g ∧ ∀ j u, xs[j]? = some u → f j = u := by
  rcases h.2 with ⟨h0, -⟩ | ⟨g', cap', cur, hv, hb, hh, h1, h2, h3, h4⟩
  · cases h0
  · simp only [Value.slice.injEq, Option.some.injEq, Addr.mk.injEq, true_and, and_true] at hv
    obtain ⟨rfl, rfl⟩ := hv
    refine ⟨fun j => (cur[j]?).getD undef, ⟨cur, hh, by omega, fun i hi => ?_⟩, h1, h2, hb, fun j u hj => ?_⟩
    · show cur[i]? = some ((cur[i]?).getD undef)
      rw [Array.getElem?_eq_getElem (by omega)]; rfl
    · rw [← h4, List.getElem?_take] at hj
      split at hj
      · rw [Array.getElem?_toList] at hj
        show (cur[j]?).getD undef = u
        rw [hj]; rfl
      · cases hj
theorem own_of_rowIs {w : World} {base n g cap : Nat} {e : TypeId} {f : Nat → Value} {xs : List Value} (h : w.rowIs g e cap f) (hl : xs.length = n) (hb : base ≤ g) (h1 : n ≤ cap) (h2 : cap ≤ maxLen) (hx : ∀ j u, xs[j]? = some u → f j = u) :
    w.ownsRow base e 1 (.slice (some ⟨g, 0, none⟩) n cap) n xs := by
  obtain ⟨c, hc, hs, hf⟩ := h
  refine ⟨by omega, .inr ⟨g, cap, c, rfl, hb, hc, h1, h2, by omega, ?_⟩⟩
  apply List.ext_getElem?
  intro j
  rw [List.getElem?_take]
  by_cases hj : j < n
  · rw [if_pos (by omega), Array.getElem?_toList, hf j (by omega), List.getElem?_eq_getElem (by omega)]
    congr 1
    exact hx j _ (List.getElem?_eq_getElem (by omega))
  · rw [if_neg (by omega), List.getElem?_eq_none (by omega)]
theorem rowIs_cell {w : World} {g cap : Nat} {e : TypeId} {f : Nat → Value} (h : w.rowIs g e cap f) {i : Nat} (hi : i < cap) : w.cell? ⟨g, i, none⟩ = some (f i) := by
  obtain ⟨c, hc, hs, hf⟩ := h
  rw [cell_of_row w g i _ _ _ hc]; exact hf i hi
theorem rowIs_free {w : World} {g cap : Nat} {e : TypeId} {f : Nat → Value} (h : w.rowIs g e cap f) (i : Nat) : w.frozen? ⟨g, i, none⟩ = false := by
  obtain ⟨c, hc, -⟩ := h; simp [World.frozen?, hc]
theorem rowIs_same {w w' : World} {g cap : Nat} {e : TypeId} {f : Nat → Value} (h : w.rowIs g e cap f) (hb : w'.heap[g]? = w.heap[g]?) : w'.rowIs g e cap f := by
  obtain ⟨c, hc, r⟩ := h; exact ⟨c, hb.trans hc, r⟩
theorem setCells_fr (g : Nat) : ∀ (vs : List Value) (o : Nat) (w : World), (w.setCells g o vs).os = w.os ∧ (w.setCells g o vs).tape = w.tape ∧ (w.setCells g o vs).output = w.output ∧ (w.setCells g o vs).heap.size = w.heap.size ∧ ∀ k, k ≠ g → (w.setCells g o vs).heap[k]? = w.heap[k]?
  | [], _, _ => ⟨rfl, rfl, rfl, rfl, fun _ _ => rfl⟩
  | v :: r, o, w => by
    obtain ⟨h1, h2, h3, h4, h5⟩ := setCells_fr g r (o + 1) (w.setCell ⟨g, o, none⟩ v)
    refine ⟨h1, h2, h3, h4.trans (by simp [World.setCell]), fun k hk => (h5 k hk).trans (Below.heap_setCell _ _ _ _ hk)⟩
theorem setCells_drew (g : Nat) : ∀ (vs : List Value) (o : Nat) (w : World), w.drew.setCells g o vs = (w.setCells g o vs).drew
  | [], _, _ => rfl
  | v :: r, o, w => setCells_drew g r (o + 1) (w.setCell ⟨g, o, none⟩ v)
/-- x put in place i -/
def insL (L : List Int) (i : Nat) (x : Int) : List Int := L.take i ++ x :: L.drop i
theorem insL_len {L : List Int} {i : Nat} (x : Int) (h : i ≤ L.length) : (insL L i x).length = L.length + 1 := by
  unfold insL; rw [List.length_append, List.length_cons, List.length_take, List.length_drop]; omega
theorem insL_get {L : List Int} {i : Nat} {x : Int} (h : i ≤ L.length) (j : Nat) (u : Value) (hj : ((insL L i x).map numV)[j]? = some u) :
    (j < i ∧ (L.map numV)[j]? = some u) ∨ (j = i ∧ u = numV x) ∨ (i < j ∧ (L.map numV)[j - 1]? = some u) := by
  rw [List.getElem?_map] at hj ⊢
  unfold insL at hj
  by_cases h1 : j < i
  · left
    rw [List.getElem?_append_left (by rw [List.length_take]; omega), List.getElem?_take_of_lt h1] at hj
    exact ⟨h1, hj⟩
  · right
    rw [List.getElem?_append_right (by rw [List.length_take]; omega), List.length_take, Nat.min_eq_left h] at hj
    by_cases h2 : j = i
    · left
      subst h2
      rw [Nat.sub_self, List.getElem?_cons_zero] at hj
      exact ⟨rfl, by simpa using hj.symm⟩
    · right
      obtain ⟨d, rfl⟩ : ∃ d, j = i + 1 + d := ⟨j - i - 1, by omega⟩
      rw [show i + 1 + d - i = d + 1 by omega, List.getElem?_cons_succ, List.getElem?_drop] at hj
      refine ⟨by omega, ?_⟩
      rw [List.getElem?_map, show i + 1 + d - 1 = i + d by omega]
      exact hj

set_option maxHeartbeats 4000000 in
set_option maxRecDepth 100000 in
/-- there is room: in place -/
theorem insert_room (g n c i base : Nat) (L : List Int) (x : Int) (w : World) (hn : n ≤ 1048576) (hi : i < n) (hroom : n + 1 ≤ c) (hL : L.length = n) (hown : w.ownsRow base 2 1 (.slice (some ⟨g, 0, none⟩) n c) n (L.map numV)) :
    Calls Tryz.prog 273 #[.slice (some ⟨g, 0, none⟩) n c, .int .i64 (i : Int), .slice (some ⟨w.heap.size, 0, none⟩) 1 1] (w.alloc (.cells #[.int .i64 x] 2)) fun e w' =>
      e = .returned (.slice (some ⟨g, 0, none⟩) (n + 1) c) ∧ w'.ownsRow base 2 1 (.slice (some ⟨g, 0, none⟩) (n + 1) c) (n + 1) ((insL L i x).map numV) ∧ Fr w.heap.size (.slice (some ⟨g, 0, none⟩) n c) w w' := by
  obtain ⟨f, hrow, hnc, hcm, hbg, hf⟩ := rowIs_of_own hown
  have hcm' : c ≤ 9223372036854775807 := by unfold maxLen at hcm; exact hcm
  have hgw : g < w.heap.size := (own_block_ltR hown rfl).2
  clear hown
  obtain ⟨W, hW⟩ : ∃ W, W = w.alloc (.cells #[.int .i64 x] 2) := ⟨_, rfl⟩
  have hrowW : W.rowIs g 2 c f := rowIs_same hrow (by rw [hW]; exact Below.heap_alloc _ _ _ hgw)
  have hnew : IsBlk W w.heap.size 2 [.int .i64 x] := by rw [hW]; exact isBlk_new w 2 [.int .i64 x]
  have hne : w.heap.size ≠ g := by omega
  have hsz : (Tryz.prog.info? 2).map (·.size) = some 1 := by
    obtain ⟨i0, hi0, h0, h1, h2⟩ := info_parts info_num
    rw [hi0]; simp [h1]
  have hsz' : ∀ w, (Go.sizeOf 2).run Tryz.prog w = .ok 1 w := fun w => by kernel_rfl
  have hml : (L.map numV).length = n := by rw [List.length_map, hL]
  have hdl : ((L.map numV).drop i).length = n - i := by rw [List.length_drop, hml]
  have hov : ∀ lb cb, (callFunc 300 #[.slice (some ⟨w.heap.size, 0, none⟩) 1 1, .slice (some ⟨g, i + 1, none⟩) lb cb]).run Tryz.prog W = .ok (.value (.bool false)) W := fun lb cb => by
    obtain ⟨cc, hcc, hcs, -⟩ := hrowW
    rw [run_callFunc_extern Tryz.func300 (by kernel_rfl) (by kernel_rfl) (by kernel_rfl) (e := Extern.SlicesOverlaps.overlaps #[48, 48] #[4]) (by kernel_rfl),
      Lib.run_overlaps_apart W 48 4 2 Tryz.underlying48 1 hsz' ⟨w.heap.size, 0, none⟩ ⟨g, i + 1, none⟩ 1 1 lb cb hne 2 2 1 c (by unfold IsBlk at hnew; simp [World.shape?, hnew]) (by simp [World.shape?, hcc, hcs]) (by omega) hnew.free hnew.free]
    rfl
  have hcp1 : ∀ ty dc sc, (Builtin.copy_ #[48, 48] ty #[.slice (some ⟨g, i + 1, none⟩) (n - i) dc, .slice (some ⟨g, i, none⟩) (n + 1 - i) sc]).run Tryz.prog W.drew = .ok (goInt ((L.map numV).drop i).length) (W.drew.setCells g (i + 1) ((L.map numV).drop i)) := fun ty dc sc =>
    run_copy_cells W.drew _ _ ty 2 g (i + 1) (n - i) dc ⟨g, i, none⟩ (n + 1 - i) sc ((L.map numV).drop i) Tryz.underlying48 hsz (by rw [hdl]; simp only [Nat.min_def]; split <;> omega)
      (fun j v hj => by
        rw [List.getElem?_drop] at hj
        have hjl : i + j < n := by
          rcases Nat.lt_or_ge (i + j) n with h | h
          · exact h
          · rw [List.getElem?_eq_none (by omega)] at hj; cases hj
        rw [Addr.add_lit]
        show W.cell? ⟨g, i + j, none⟩ = _
        rw [rowIs_cell hrowW (by omega), hf _ _ hj])
      (fun j hj => by show (W.cell? ⟨g, i + 1 + j, none⟩).isSome = true; rw [rowIs_cell hrowW (by omega)]; rfl) (fun j hj => rowIs_free hrowW _) (fun v hv => by
        obtain ⟨z, -, rfl⟩ := List.mem_map.1 (List.mem_of_mem_drop hv); rfl)
  obtain ⟨W1, hW1⟩ : ∃ W1, W1 = W.drew.setCells g (i + 1) ((L.map numV).drop i) := ⟨_, rfl⟩
  have hrow1 := rowIs_setCells ((L.map numV).drop i) (i + 1) W.drew f (rowIs_same hrowW rfl)
  rw [← hW1] at hrow1 hcp1
  have hnew1 : IsBlk W1 w.heap.size 2 [.int .i64 x] := by
    rw [hW1]; exact ((setCells_fr g _ _ _).2.2.2.2 _ hne).trans hnew
  have hcp2 : ∀ ty dc, (Builtin.copy_ #[48, 48] ty #[.slice (some ⟨g, i, none⟩) (n + 1 - i) dc, .slice (some ⟨w.heap.size, 0, none⟩) 1 1]).run Tryz.prog W1 = .ok (goInt [numV x].length) (W1.setCells g i [numV x]) := fun ty dc =>
    run_copy_cells W1 _ _ ty 2 g i (n + 1 - i) dc ⟨w.heap.size, 0, none⟩ 1 1 [numV x] Tryz.underlying48 hsz (by simp only [List.length_cons, List.length_nil, Nat.min_def]; split <;> omega)
      (fun j v hj => by
        match j, hj with
        | 0, hj => simp at hj; subst hj; exact hnew1.cell rfl)
      (fun j hj => by rw [rowIs_cell hrow1 (by simp at hj; omega)]; rfl) (fun j hj => rowIs_free hrow1 _) (fun v hv => by simp at hv; subst hv; rfl)
  have hrow2 := rowIs_setCells [numV x] i W1 _ hrow1
  have HFIN : Hid ((W1.setCells g i [numV x]).ownsRow base 2 1 (.slice (some ⟨g, 0, none⟩) (n + 1) c) (n + 1) ((insL L i x).map numV)) := by
    refine own_of_rowIs hrow2 (by rw [List.length_map, insL_len x (by omega), hL]) hbg hroom hcm fun j u hj => ?_
    rcases insL_get (by omega) j u hj with ⟨h1, h2⟩ | ⟨h1, h2⟩ | ⟨h1, h2⟩
    · rw [if_neg (by omega), if_neg (by omega)]; exact hf j u h2
    · rw [if_pos (by simp; omega), h1, Nat.sub_self, h2]; rfl
    · have hjl : j - 1 < n := by
        rcases Nat.lt_or_ge (j - 1) n with h | h
        · exact h
        · rw [List.getElem?_eq_none (by omega)] at h2; cases h2
      rw [if_neg (by simp; omega), if_pos (by rw [hdl]; omega), List.getElem?_drop, show i + (j - (i + 1)) = j - 1 by omega, h2]
      rfl
  have HFR : Hid (Fr w.heap.size (.slice (some ⟨g, 0, none⟩) n c) w (W1.setCells g i [numV x])) := by
    obtain ⟨f1, f2, f3, f4, f5⟩ := setCells_fr g [numV x] i W1
    obtain ⟨e1, e2, e3, e4, e5⟩ := setCells_fr g ((L.map numV).drop i) (i + 1) W.drew
    rw [← hW1] at e1 e2 e3 e4 e5
    refine ⟨f1.trans (e1.trans (by rw [hW]; rfl)), f2.trans (e2.trans (by rw [hW]; rfl)), f3.trans (e3.trans (by rw [hW]; rfl)), ?_, fun k h1 h2 h3 => ?_⟩
    · rw [f4, e4, hW]; show w.heap.size ≤ (w.alloc _).heap.size; simp
    · have hkg : k ≠ g := fun e => h3 (by rw [e]; rfl)
      rw [f5 k hkg, e5 k hkg, hW]
      exact Below.heap_alloc _ _ _ h1
  have hi1 : ¬ ((i : Int) = (n : Int)) := by omega
  have hi2 : ((i : Int) == (n : Int)) = false := by simp; omega
  have hw1 : IntKind.i64.wrap ((i : Int) + 1) = (i : Int) + 1 := by rw [IntKind.wrap_i64]; omega
  have hb1 : (0 : Int) ≤ (i : Int) + 1 := by omega
  have htn : ((i : Int) + 1).toNat = i + 1 := by omega
  have hb2 : ¬ (c = i + 1) := by omega
  have hb3 : (i : Int) ≤ (n : Int) + 1 := by omega
  have hb4 : ¬ (c = i) := by omega
  have hin : i ≤ n := by omega
  have hrm : (n : Int) + 1 ≤ (c : Int) := by omega
  have hu := Tryz.underlying48
  rw [← hW]
  clear hrow hrowW hrow1 hrow2 hnew hnew1 hW1 hW hsz hsz' hml hdl hf hL hcm hbg hu
  go_enter Tryz.func273, Tryz.ntmps273
  go_wp2_with (simp only [hov])
  go_region_law (refine step_copyN rfl _ _ 48 48 rfl _ _ (by simp [Act.eval, Act.put]) (by simp [Act.eval, Act.put]) (hcp1 _ _ _) ?_)
  go_wp2_with (at_builtin; refine wpList_copyN _ rfl _ _ 48 48 rfl _ _ rfl rfl (hcp2 _ _) ?_)
  go_ret
  exact ⟨rfl, HFIN.out, HFR.out⟩

set_option maxHeartbeats 4000000 in
set_option maxRecDepth 100000 in
/-- there is no room: a new row -/
theorem insert_grow (g n i base : Nat) (L : List Int) (x : Int) (w : World) (hn : n ≤ 1048576) (hi : i < n) (hL : L.length = n) (hbase : base ≤ w.heap.size) (hown : w.ownsRow base 2 1 (.slice (some ⟨g, 0, none⟩) n n) n (L.map numV)) :
    Calls Tryz.prog 273 #[.slice (some ⟨g, 0, none⟩) n n, .int .i64 (i : Int), .slice (some ⟨w.heap.size, 0, none⟩) 1 1] (w.alloc (.cells #[.int .i64 x] 2)) fun e w' =>
      ∃ cap, e = .returned (.slice (some ⟨w.heap.size + 1, 0, none⟩) (n + 1) cap) ∧ w'.ownsRow base 2 1 (.slice (some ⟨w.heap.size + 1, 0, none⟩) (n + 1) cap) (n + 1) ((insL L i x).map numV) ∧ Fr w.heap.size (.slice (some ⟨g, 0, none⟩) n n) w w' := by
  obtain ⟨f, hrow, -, -, hbg, hf⟩ := rowIs_of_own hown
  have hgw : g < w.heap.size := (own_block_ltR hown rfl).2
  clear hown
  obtain ⟨W, hW⟩ : ∃ W, W = w.alloc (.cells #[.int .i64 x] 2) := ⟨_, rfl⟩
  have hWs : W.heap.size = w.heap.size + 1 := by rw [hW]; simp
  have hrowW : W.rowIs g 2 n f := rowIs_same hrow (by rw [hW]; exact Below.heap_alloc _ _ _ hgw)
  have hnew : IsBlk W w.heap.size 2 [.int .i64 x] := by rw [hW]; exact isBlk_new w 2 [.int .i64 x]
  have hml : (L.map numV).length = n := by rw [List.length_map, hL]
  have hdl : ((L.map numV).drop i).length = n - i := by rw [List.length_drop, hml]
  have htl : ((L.map numV).take i).length = i := by rw [List.length_take, hml]; omega
  obtain ⟨i0, hi0, hz0, hzs, hzb⟩ := info_parts info_num
  have hsz : (Tryz.prog.info? 2).map (·.size) = some 1 := by rw [hi0]; simp [hzs]
  have hcell : ∀ j v, (L.map numV)[j]? = some v → W.cell? ⟨g, j, none⟩ = some v := fun j v hj => by
    have hjl : j < n := by
      rcases Nat.lt_or_ge j n with h | h
      · exact h
      · rw [List.getElem?_eq_none (by omega)] at hj; cases hj
    rw [rowIs_cell hrowW hjl, hf _ _ hj]
  have hold : (Builtin.firstCells i0.size i (.slice (some ⟨g, 0, none⟩) i n)).run Tryz.prog W.drew = .ok ((L.map numV).take i).toArray W.drew := by
    rw [hzs]
    exact run_firstCells_some W.drew 1 i ⟨g, 0, none⟩ i n ((L.map numV).take i) (by omega) (fun j v hj => by
      rw [Addr.add_lit, Nat.zero_add]
      rw [List.getElem?_take] at hj
      split at hj
      · exact hcell j v hj
      · cases hj)
  have hik : i + (n + 1 - i) = n + 1 := by omega
  have hkk : (n : Int) + 1 - (i : Int) = ((n + 1 - i : Nat) : Int) := by omega
  obtain ⟨G, hG⟩ : ∃ G, G = grownCap W (n + 1) n 2 := ⟨_, rfl⟩
  have hGn : n + 1 ≤ G := by rw [hG]; exact grownCap_ge W _ _ _
  have hGm : G ≤ maxLen := by rw [hG]; exact grownCap_le_maxLen W _ _ _ (by unfold maxLen; omega)
  have hG63 : G ≤ 9223372036854775807 := by unfold maxLen at hGm; exact hGm
  obtain ⟨ROW, hROW⟩ : ∃ ROW : Array Value, ROW = ((L.map numV).take i).toArray ++ Builtin.zeroCells (Value.int .i64 0).cells (n + 1 - i) ++ Builtin.zeroCells (Value.int .i64 0).cells (G - (n + 1)) := ⟨_, rfl⟩
  have hrz : ∀ ty, (Builtin.append_ #[48, 3] ty #[.slice (some ⟨g, 0, none⟩) i n, .int .i64 ((n : Int) + 1 - (i : Int))]).run Tryz.prog W = .ok (.slice (some ⟨w.heap.size + 1, 0, none⟩) (n + 1) G) (W.drew.alloc (.cells ROW 2)) := fun ty => by
    have h := Lib.run_append_grow_zeros W 48 3 ty 2 i0 _ .i64 .i64 Tryz.underlying48 Tryz.underlying3 hi0 hz0 (some ⟨g, 0, none⟩) i n ((L.map numV).take i) hold (n + 1 - i) (by omega) (by omega) (by omega) (by omega) (by rw [hzb]; omega) (by rw [hzb, hik]; exact growslice_fits (by omega) (by omega))
    rw [hik, ← hG, ← hROW, hWs] at h
    rw [hkk]
    exact h
  have hRs : ROW.size = G := by rw [hROW]; simp [Builtin.zeroCells, Value.cells, hml]; omega
  obtain ⟨W1, hW1⟩ : ∃ W1, W1 = W.drew.alloc (.cells ROW 2) := ⟨_, rfl⟩
  rw [← hW1] at hrz
  have hN : w.heap.size + 1 = W.drew.heap.size := hWs.symm
  have hrow1 : W1.rowIs (w.heap.size + 1) 2 G (fun j => (ROW[j]?).getD undef) := by
    refine ⟨ROW, by rw [hW1, hN]; exact heap_alloc_new W.drew _, hRs, fun j hj => ?_⟩
    show ROW[j]? = some ((ROW[j]?).getD undef)
    rw [Array.getElem?_eq_getElem (by omega)]; rfl
  have hR : ∀ j u, j < i → (L.map numV)[j]? = some u → (ROW[j]?).getD undef = u := fun j u hj hu => by
    have h1 : ROW[j]? = some u := by
      rw [hROW, Array.append_assoc, Array.getElem?_append_left (by simp [hml]; omega), List.getElem?_toArray, List.getElem?_take_of_lt hj]; exact hu
    rw [h1]; rfl
  have hnew1 : IsBlk W1 w.heap.size 2 [.int .i64 x] := by rw [hW1]; exact (Below.heap_alloc W.drew _ _ (show w.heap.size < W.drew.heap.size by omega)).trans hnew
  have hcell1 : ∀ j v, (L.map numV)[j]? = some v → W1.cell? ⟨g, j, none⟩ = some v := fun j v hj => by
    rw [hW1, World.cell?_alloc_lt _ _ ⟨g, j, none⟩ (show g < W.drew.heap.size by omega)]; exact hcell j v hj
  have hcpA : ∀ (V : World), V.heap = W1.heap → ∀ ty dc, (Builtin.copy_ #[48, 48] ty #[.slice (some ⟨w.heap.size + 1, i, none⟩) (n + 1 - i) dc, .slice (some ⟨w.heap.size, 0, none⟩) 1 1]).run Tryz.prog V = .ok (goInt [numV x].length) (V.setCells (w.heap.size + 1) i [numV x]) := fun V hV ty dc => by
    have c1 : ∀ a, V.cell? a = W1.cell? a := fun a => by simp only [World.cell?, hV]
    have c2 : ∀ a, V.frozen? a = W1.frozen? a := fun a => by simp only [World.frozen?, hV]
    exact run_copy_cells V _ _ ty 2 (w.heap.size + 1) i (n + 1 - i) dc ⟨w.heap.size, 0, none⟩ 1 1 [numV x] Tryz.underlying48 hsz (by simp only [List.length_cons, List.length_nil, Nat.min_def]; split <;> omega)
      (fun j v hj => by
        match j, hj with
        | 0, hj => simp at hj; subst hj; rw [c1]; exact hnew1.cell rfl)
      (fun j hj => by rw [c1, rowIs_cell hrow1 (by simp at hj; omega)]; rfl) (fun j hj => by rw [c2]; exact rowIs_free hrow1 _) (fun v hv => by simp at hv; subst hv; rfl)
  obtain ⟨W2, hW2⟩ : ∃ W2, W2 = W1.setCells (w.heap.size + 1) i [numV x] := ⟨_, rfl⟩
  have hrow2 := rowIs_setCells [numV x] i W1 _ hrow1
  rw [← hW2] at hrow2
  have hcell2 : ∀ j v, (L.map numV)[j]? = some v → W2.cell? ⟨g, j, none⟩ = some v := fun j v hj => by
    rw [hW2, World.cell?_setCells_out _ _ _ _ _ (fun h _ => absurd h (by dsimp only; omega))]; exact hcell1 j v hj
  have hcpB : ∀ (V : World), V.heap = W2.heap → ∀ ty dc sc, (Builtin.copy_ #[48, 48] ty #[.slice (some ⟨w.heap.size + 1, i + 1, none⟩) (n - i) dc, .slice (some ⟨g, i, none⟩) (n - i) sc]).run Tryz.prog V = .ok (goInt ((L.map numV).drop i).length) (V.setCells (w.heap.size + 1) (i + 1) ((L.map numV).drop i)) := fun V hV ty dc sc => by
    have c1 : ∀ a, V.cell? a = W2.cell? a := fun a => by simp only [World.cell?, hV]
    have c2 : ∀ a, V.frozen? a = W2.frozen? a := fun a => by simp only [World.frozen?, hV]
    exact run_copy_cells V _ _ ty 2 (w.heap.size + 1) (i + 1) (n - i) dc ⟨g, i, none⟩ (n - i) sc ((L.map numV).drop i) Tryz.underlying48 hsz (by rw [hdl]; simp only [Nat.min_def]; split <;> omega)
      (fun j v hj => by rw [List.getElem?_drop] at hj; rw [Addr.add_lit, c1]; exact hcell2 _ v hj)
      (fun j hj => by rw [c1, rowIs_cell hrow2 (by omega)]; rfl) (fun j hj => by rw [c2]; exact rowIs_free hrow2 _) (fun v hv => by
        obtain ⟨z, -, rfl⟩ := List.mem_map.1 (List.mem_of_mem_drop hv); rfl)
  have hrow3 := rowIs_setCells ((L.map numV).drop i) (i + 1) W2 _ hrow2
  have HFIN : Hid (∀ V : World, V.heap = (W2.setCells (w.heap.size + 1) (i + 1) ((L.map numV).drop i)).heap → V.ownsRow base 2 1 (.slice (some ⟨w.heap.size + 1, 0, none⟩) (n + 1) G) (n + 1) ((insL L i x).map numV)) := fun V hV => by
    refine own_of_rowIs (rowIs_same hrow3 (by rw [hV])) (by rw [List.length_map, insL_len x (by omega), hL]) (by omega) hGn hGm fun j u hj => ?_
    rcases insL_get (by omega) j u hj with ⟨h1, h2⟩ | ⟨h1, h2⟩ | ⟨h1, h2⟩
    · rw [if_neg (by omega), if_neg (by simp; omega)]; exact hR j u h1 h2
    · rw [if_neg (by omega), if_pos (by simp; omega), h1, Nat.sub_self, h2]; rfl
    · have hjl : j - 1 < n := by
        rcases Nat.lt_or_ge (j - 1) n with h | h
        · exact h
        · rw [List.getElem?_eq_none (by omega)] at h2; cases h2
      rw [if_pos (by rw [hdl]; omega), List.getElem?_drop, show i + (j - (i + 1)) = j - 1 by omega, h2]
      rfl
  have HFR : Hid (∀ V : World, V.heap = (W2.setCells (w.heap.size + 1) (i + 1) ((L.map numV).drop i)).heap → V.os = w.os → V.tape = w.tape → V.output = w.output → Fr w.heap.size (.slice (some ⟨g, 0, none⟩) n n) w V) := fun V hV ho ht hu => by
    obtain ⟨f1, f2, f3, f4, f5⟩ := setCells_fr (w.heap.size + 1) ((L.map numV).drop i) (i + 1) W2
    obtain ⟨e1, e2, e3, e4, e5⟩ := setCells_fr (w.heap.size + 1) [numV x] i W1
    rw [← hW2] at e1 e2 e3 e4 e5
    refine ⟨ho, ht, hu, ?_, fun k h1 h2 h3 => ?_⟩
    · rw [hV, f4, e4, hW1]; show w.heap.size ≤ (W.drew.alloc _).heap.size; rw [size_alloc]; show w.heap.size ≤ W.heap.size + 1; omega
    · rw [hV, f5 k (by omega), e5 k (by omega), hW1, Below.heap_alloc W.drew _ _ (show k < W.drew.heap.size by show k < W.heap.size; omega)]
      show W.heap[k]? = _
      rw [hW]; exact Below.heap_alloc _ _ _ h1
  have HS2 : Hid (W1.setCells (w.heap.size + 1) i [numV x] = W2) := Lib.hid hW2.symm
  have hA := hcpA W1 rfl
  have hB := hcpB (W1.setCells (w.heap.size + 1) i [numV x]).drew (by rw [hW2]; rfl)
  have HOS : Hid (W2.os = w.os ∧ W2.tape = w.tape ∧ W2.output = w.output) := by
    obtain ⟨e1, e2, e3, -, -⟩ := setCells_fr (w.heap.size + 1) [numV x] i W1
    rw [← hW2] at e1 e2 e3
    exact ⟨e1.trans (by rw [hW1, hW]; rfl), e2.trans (by rw [hW1, hW]; rfl), e3.trans (by rw [hW1, hW]; rfl)⟩
  have hi1 : ¬ ((i : Int) = (n : Int)) := by omega
  have hi2 : ((i : Int) == (n : Int)) = false := by simp; omega
  have hw1 : IntKind.i64.wrap ((i : Int) + 1) = (i : Int) + 1 := by rw [IntKind.wrap_i64]; omega
  have hb1 : (0 : Int) ≤ (i : Int) + 1 := by omega
  have htn : ((i : Int) + 1).toNat = i + 1 := by omega
  have hb2 : ¬ (G = i + 1) := by omega
  have hb3 : (i : Int) ≤ (n : Int) + 1 := by omega
  have hb4 : ¬ (G = i) := by omega
  have hb5 : ¬ (n = i) := by omega
  have hin : i ≤ n := by omega
  have hrm : (n : Int) < (n : Int) + 1 := by omega
  rw [← hW]
  clear hrow hrowW hrow1 hrow2 hrow3 hnew hnew1 hW1 hW2 hW hsz hml hdl htl hf hL hGm hbg hcell hcell1 hcell2 hcpA hcpB hold hik hkk hG hROW hRs hR hN hWs hi0 hz0 hzs hzb
  go_enter Tryz.func273, Tryz.ntmps273
  go_wp2_with (first
    | (at_builtin; refine Lib.wpList_append_run _ rfl _ _ _ _ rfl _ _ rfl rfl _ _ (hrz _) ?_)
    | (at_builtin; refine wpList_copyN _ rfl _ _ 48 48 rfl _ _ rfl rfl (hA _ _) ?_))
  go_region_law (refine step_copyN rfl _ _ 48 48 rfl _ _ (by simp [Act.eval, Act.put]) (by simp [Act.eval, Act.put]) (hB _ _ _) ?_)
  go_wp2
  go_ret
  have hV : ((W1.setCells (w.heap.size + 1) i [numV x]).drew.setCells (w.heap.size + 1) (i + 1) ((L.map numV).drop i)).heap = (W2.setCells (w.heap.size + 1) (i + 1) ((L.map numV).drop i)).heap := by rw [HS2.out, setCells_drew]; rfl
  obtain ⟨e1, e2, e3, -, -⟩ := setCells_fr (w.heap.size + 1) ((L.map numV).drop i) (i + 1) (W1.setCells (w.heap.size + 1) i [numV x]).drew
  refine ⟨G, rfl, HFIN.out _ hV, HFR.out _ hV (e1.trans ?_) (e2.trans ?_) (e3.trans ?_)⟩
  · rw [HS2.out]; exact HOS.out.1
  · rw [HS2.out]; exact HOS.out.2.1
  · rw [HS2.out]; exact HOS.out.2.2

theorem insL_getD {L : List Int} {i : Nat} {x : Int} (h : i ≤ L.length) (j : Nat) : (insL L i x).getD j 0 = if j < i then L.getD j 0 else if j = i then x else L.getD (j - 1) 0 := by
  unfold insL
  simp only [List.getD_eq_getElem?_getD]
  by_cases h1 : j < i
  · rw [if_pos h1, List.getElem?_append_left (by rw [List.length_take]; omega), List.getElem?_take_of_lt h1]
  · rw [if_neg h1, List.getElem?_append_right (by rw [List.length_take]; omega), List.length_take, Nat.min_eq_left h]
    by_cases h2 : j = i
    · subst h2; rw [if_pos rfl, Nat.sub_self]; rfl
    · rw [if_neg h2]
      obtain ⟨d, rfl⟩ : ∃ d, j = i + 1 + d := ⟨j - i - 1, by omega⟩
      rw [show i + 1 + d - i = d + 1 by omega, List.getElem?_cons_succ, List.getElem?_drop, show i + 1 + d - 1 = i + d by omega]
theorem insL_mem {L : List Int} {i : Nat} {x q : Int} : q ∈ insL L i x ↔ q = x ∨ q ∈ L := by
  unfold insL
  rw [List.mem_append, List.mem_cons]
  constructor
  · rintro (h | h | h)
    · exact .inr (List.mem_of_mem_take h)
    · exact .inl h
    · exact .inr (List.mem_of_mem_drop h)
  · rintro (h | h)
    · exact .inr (.inl h)
    · rw [← List.take_append_drop i L, List.mem_append] at h
      rcases h with h | h
      · exact .inl h
      · exact .inr (.inr h)
theorem insL_srt {L : List Int} {x : Int} {i : Nat} (hS : Srt L) (hc : Cut L x i) (hn : ¬ (i < L.length ∧ L.getD i 0 = x)) : Srt (insL L i x) := by
  intro a b hab hb
  have hil := hc.le
  rw [insL_len x hil] at hb
  rw [insL_getD hil, insL_getD hil]
  by_cases h1 : b < i
  · rw [if_pos h1, if_pos (by omega)]; exact hS a b hab (by omega)
  · rw [if_neg h1]
    by_cases h2 : b = i
    · rw [if_pos h2, if_pos (by omega)]; exact hc.lo a (by omega)
    · rw [if_neg h2]
      have hx := hc.hi (b - 1) (by omega) (by omega)
      by_cases h3 : a < i
      · rw [if_pos h3]; have := hc.lo a h3; omega
      · rw [if_neg h3]
        by_cases h4 : a = i
        · rw [if_pos h4]
          have hxi := hc.hi i (Nat.le_refl _) (by omega)
          by_cases h5 : b - 1 = i
          · rw [h5]
            have : L.getD i 0 ≠ x := fun e => hn ⟨by omega, e⟩
            omega
          · have := hS i (b - 1) (by omega) (by omega); omega
        · rw [if_neg h4]; exact hS (a - 1) (b - 1) (by omega) (by omega)
/-- what is added to an increasing list keeps it increasing; it has x besides -/
theorem added_srt {L L' : List Int} {x : Int} (hS : Srt L) (ha : Added L x L') : Srt L' ∧ ∀ q, q ∈ L' ↔ q = x ∨ q ∈ L := by
  obtain ⟨i, hc, rfl⟩ := ha
  by_cases h : i < L.length ∧ L.getD i 0 = x
  · rw [if_pos h]
    refine ⟨hS, fun q => ⟨.inr, ?_⟩⟩
    rintro (rfl | hq)
    · rw [← h.2]; exact getD_lt h.1
    · exact hq
  · rw [if_neg h]
    exact ⟨insL_srt hS hc h, fun q => insL_mem⟩
theorem added_len {L L' : List Int} {x : Int} (ha : Added L x L') : L'.length ≤ L.length + 1 := by
  obtain ⟨i, hc, rfl⟩ := ha
  split
  · omega
  · exact Nat.le_of_eq (insL_len x hc.le)

set_option maxHeartbeats 4000000 in
set_option maxRecDepth 100000 in
theorem add_any (B : Nat) (v : Value) (base : Nat) (L : List Int) (x : Int) (w : World) (hn : L.length ≤ 1048576) (hBb : B < base) (hbase : base ≤ w.heap.size) (hS : Srt L)
    (hB : IsBlk w B 276 [v]) (hown : w.ownsRow base 2 1 v L.length (L.map numV)) :
    Calls Tryz.prog 248 #[.pointer (some ⟨B, 0, none⟩), .int .i64 x] w (RetAdd B base v L x w) := by
  by_cases hmid : ∃ i, Cut L x i ∧ i < L.length ∧ L.getD i 0 ≠ x
  case neg =>
    exact add_end B v base L x w hn hBb hbase hS (fun i hc => by
      by_cases h1 : i < L.length
      · left
        refine ⟨h1, ?_⟩
        by_cases h2 : L.getD i 0 = x
        · exact h2
        · exact absurd ⟨i, hc, h1, h2⟩ hmid
      · right; have := hc.le; omega) hB hown
  obtain ⟨A, cap, rfl⟩ := own_slice hown
  have hc : w.cell? ⟨B, 0, none⟩ = some (.slice A L.length cap) := hB.cell rfl
  have hBlt := hB.lt
  have HOW := Lib.hid hown; have HBK := Lib.hid hB; have HS := Lib.hid hS; have HM := Lib.hid hmid
  clear hown hB hS hmid
  go_enter Tryz.func248, Tryz.ntmps248
  go_wp2_with fail
  refine (search_any A L.length cap L x w hn HS.out ((owNs_of_own HOW.out).rd (Nat.le_refl _))).mono ?_
  rintro e w1 ⟨i, hcut, rfl, rfl⟩
  obtain ⟨hil, hix⟩ : i < L.length ∧ L.getD i 0 ≠ x := by
    obtain ⟨j, hj, hjl, hjx⟩ := HM.out
    have e : i = j := by
      rcases Nat.lt_trichotomy i j with h | h | h
      · have h1 := hj.lo i h; have h2 := hcut.hi i (Nat.le_refl _) (by omega); omega
      · exact h
      · have h1 := hcut.lo j h; have h2 := hj.hi j (Nat.le_refl _) hjl; omega
    subst e; exact ⟨hjl, hjx⟩
  have HC := Lib.hid hcut
  have HF : Hid (¬ (i < L.length ∧ L.getD i 0 = x)) := fun h => hix h.2
  rw [decide_eq_false HF.out]
  obtain ⟨g, rfl⟩ : ∃ g, A = some ⟨g, 0, none⟩ := by
    rcases HOW.out.2 with ⟨h0, hl⟩ | ⟨g', cap', cur, hv, -⟩
    · omega
    · simp only [Value.slice.injEq] at hv; exact ⟨g', hv.1⟩
  have HADD : Hid (Added L x (insL L i x)) := ⟨i, HC.out, by rw [if_neg HF.out]; rfl⟩
  have hil' := insL_len x (show i ≤ L.length by omega)
  have HIL := Lib.hid hil'
  have hcap : L.length ≤ cap := by
    obtain ⟨f, -, h, -⟩ := rowIs_of_own HOW.out
    exact h
  have hinL : insL L i x = insL L i x := rfl
  clear hcut hix hil' hinL
  by_cases hroom : L.length + 1 ≤ cap
  · go_wp2_with fail
    refine (insert_room g L.length cap i base L x w hn hil hroom rfl HOW.out).mono ?_
    rintro e w2 ⟨rfl, ho2, hfr2⟩
    have HO2 := Lib.hid ho2; have HFR := Lib.hid hfr2
    have hb2 : IsBlk w2 B 276 [.slice (some ⟨g, 0, none⟩) L.length cap] := (hfr2.block B hBlt (by omega) (fun e => by have := (own_block_ltR HOW.out e).1; omega)).trans HBK.out
    have HB2 := Lib.hid hb2
    have hc2 : w2.cell? ⟨B, 0, none⟩ = some (.slice (some ⟨g, 0, none⟩) L.length cap) := hb2.cell rfl
    have hf2 : w2.frozen? ⟨B, 0, none⟩ = false := hb2.free
    clear ho2 hfr2 hb2 hc
    go_wp2
    refine bodyPost_ret (results_none rfl _ _ _) rfl ?_
    refine ⟨_, .slice (some ⟨g, 0, none⟩) (L.length + 1) cap, insL L i x, rfl, HADD.out, HB2.out.set _, by rw [HIL.out]; exact own_otherR HO2.out hBb _, ⟨HFR.out.os, HFR.out.tape, HFR.out.output, by simpa [World.setCell] using HFR.out.size, fun k h1 h2 h3 => (Below.heap_setCell _ _ _ _ (by dsimp only; omega)).trans (HFR.out.block k h1 (by omega) h3)⟩, fun q hq => .inl hq⟩
  · obtain rfl : cap = L.length := by omega
    go_wp2_with fail
    refine (insert_grow g L.length i base L x w hn hil rfl hbase HOW.out).mono ?_
    rintro e w2 ⟨cap2, rfl, ho2, hfr2⟩
    have HO2 := Lib.hid ho2; have HFR := Lib.hid hfr2
    have hb2 : IsBlk w2 B 276 [.slice (some ⟨g, 0, none⟩) L.length L.length] := (hfr2.block B hBlt (by omega) (fun e => by have := (own_block_ltR HOW.out e).1; omega)).trans HBK.out
    have HB2 := Lib.hid hb2
    have hc2 : w2.cell? ⟨B, 0, none⟩ = some (.slice (some ⟨g, 0, none⟩) L.length L.length) := hb2.cell rfl
    have hf2 : w2.frozen? ⟨B, 0, none⟩ = false := hb2.free
    clear ho2 hfr2 hb2 hc
    go_wp2
    refine bodyPost_ret (results_none rfl _ _ _) rfl ?_
    refine ⟨_, .slice (some ⟨w.heap.size + 1, 0, none⟩) (L.length + 1) cap2, insL L i x, rfl, HADD.out, HB2.out.set _, by rw [HIL.out]; exact own_otherR HO2.out hBb _, ⟨HFR.out.os, HFR.out.tape, HFR.out.output, by simpa [World.setCell] using HFR.out.size, fun k h1 h2 h3 => (Below.heap_setCell _ _ _ _ (by dsimp only; omega)).trans (HFR.out.block k h1 (by omega) h3)⟩, fun q hq => ?_⟩
    have hq' : w.heap.size + 1 = q := by simpa [Value.ownBlock] using hq
    right; omega
end Go.Proofs.YtloaeglmngcenaaGreatDoor
