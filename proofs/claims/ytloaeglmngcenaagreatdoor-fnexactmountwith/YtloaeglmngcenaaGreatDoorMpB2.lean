/-
  slices.Insert at a list of numbers, in the midst of it; a number added to a sorted list, wherever it belongs.
  Plain mathematics of Needed and Prune (chapter 5): which records are needed. No condition.
  Mount, the plain mathematics: records put in order of their Seqs, the first of each.
  l05Put, of the document's model: a record put in its place.
  The records of a chip with their places: what the program's iterator hands to the body of a loop.
  What Mount answers, in plain words: the code, and the records.
  Mount, of the document's model.
  MountWith, the plain mathematics: records of a chip put behind those of a checkpoint. No condition.
  MountWith, in plain words: its code and its records.
  The comparison by which firstRecs sorts: cmp.Compare at int64, and the closure.
  placesBySeq and Places, of the program.
  firstRecs, the part without memory: which records are taken while their Seqs are struck off the map.
  firstRecs, of the program, over what the sort does.
-/
import Derived.Test.YtloaeglmngcenaaGreatDoorProg
import Derived.KernelRfl
import Derived.Test.YtloaeglmngcenaaGreatDoorMpB1
import Derived.Deep.RegionLaw
import Derived.Lib.SliceRun
import Derived.Lib.Overlaps
import Derived.Lib.AppendZerosOnto
import Derived.Laws.Externs
import Derived.Laws.IdiomCopy
import Derived.Laws.NewBlocks
import Derived.Lib.LazyBuf
import Derived.Test.YtloaeglmngcenaaGreatDoorRcPure
import Derived.BigQuiet
import Derived.Maps.AppendAt
import Derived.Laws.AppendOwnNone
import Derived.Test.YtloaeglmngcenaaGreatDoorHsApp
import Derived.RangeFuncNested
import Derived.RangeFuncBound
import Derived.RangeFuncCalls
import Derived.RangeFuncLeaves
import Derived.Shelf.Abstract
import Derived.Shelf.RegionOpen
import Derived.WalkKit
import Derived.OwnWalkIn
import Derived.TacticsInMore
import Derived.LoopNIn
import Derived.LoopIn
import Derived.Test.YtloaeglmngcenaaGreatDoorRcRead2
import Derived.Test.YtloaeglmngcenaaGreatDoorHsPure
import Derived.Test.YtloaeglmngcenaaGreatDoorHsMem
import Derived.Test.YtloaeglmngcenaaGreatDoorHsRight
import Derived.Test.YtloaeglmngcenaaGreatDoorCkPure
import Derived.Test.YtloaeglmngcenaaGreatDoorRcRight
import Derived.Lib.Small
import Derived.Sort.Grow
import Derived.Lib.Hide
import Derived.Test.YtloaeglmngcenaaGreatDoorLgRegion
import Derived.RangeFuncBox
import Derived.Maps.OwnIn
import Derived.Maps.GroupsBeside
import Derived.Maps.Views
import Derived.Maps.OwnSet
namespace Go.Proofs.YtloaeglmngcenaaGreatDoor
open Go.RowKit

/-- 'copy(d, s)' whose run is known -/
theorem wpList_copyN {P : Program} (w : World) {ops : Array Oper} {rest : List Oper} {o : Oper} {a : Act} {Q : Exit → Act → World → Prop} (hgd : o.guard = none) (d s : Operand) (t t' : TypeId)
    (ho : o.op = .call { callee := .builtin .copy, args := #[d, s], argTypes := #[t, t'] }) (v u : Value) (hd : a.eval d = v) (hs : a.eval s = u) {v' : Value} {w' : World}
    (hr : (Builtin.copy_ #[t, t'] o.type #[v, u]).run P w = .ok v' w') (h : wpList P ops Q rest (a.put o.dst v') w') : wpList P ops Q (o :: rest) a w :=
  wpList_plain hgd fun _ hK => by
    unfold Oper.wp execOp
    simp only [ho, resolve, invoke, builtin, Sem.run_bind, Sem.run_pure, Result.andThen_ok, List.map_toArray, List.map_cons, List.map_nil, hd, hs, hr]
    exact hK _ _ h
/-- .. in a region that draws -/
theorem step_copyN {P : Program} {ops : Array Oper} {o : Oper} {a : Act} {w : World} {K : Act → World → Prop} {Q : Exit → Act → World → Prop} {E : Prop}
    (hg : o.guard = none) (d x : Operand) (dT sT : TypeId) (hop : o.op = Op.call { callee := Callee.builtin Builtin.copy, args := #[d, x], argTypes := #[dT, sT] })
    (v u : Value) (hd : a.eval d = v) (hx : a.eval x = u) {v' : Value} {w' : World} (hr : (Builtin.copy_ #[dT, sT] o.type #[v, u]).run P w = .ok v' w') (hK : K (a.put o.dst v') w') :
    if Region.wanted o (yielded ops a.tmps) = true then Oper.wp P o a w K Q else E := by
  have hw : Region.wanted o (yielded ops a.tmps) = true := by simp [Region.wanted, hg]
  rw [if_pos hw]
  unfold Oper.wp
  simp [execOp, hop, resolve, invoke, builtin, hd, hx, hr, Result.andThen]
  exact hK

theorem rowIs_of_own {w : World} {base n g cap : Nat} {e : TypeId} {xs : List Value} (h : w.ownsRow base e 1 (.slice (some ⟨g, 0, none⟩) n cap) n xs) :
    ∃ f : Nat → Value, w.rowIs g e cap f ∧ n ≤ cap ∧ cap ≤ maxLen ∧ base ≤ g ∧ ∀ j u, xs[j]? = some u → f j = u := by
  rcases h.2 with ⟨h0, -⟩ | ⟨g', cap', cur, hv, hb, hh, h1, h2, h3, h4⟩
  · cases h0
  · simp only [Value.slice.injEq, Option.some.injEq, Addr.mk.injEq, true_and, and_true] at hv
    obtain ⟨rfl, rfl⟩ := hv
    refine ⟨fun j => (cur[j]?).getD undef, ⟨cur, hh, by omega, fun i hi => ?_⟩, h1, h2, hb, fun j u hj => ?_⟩
    · show cur[i]? = some ((cur[i]?).getD undef)
      rw [Array.getElem?_eq_getElem (by omega)]; rfl
    · rw [← h4, List.getElem?_take] at hj
      split at hj
      · rw [Array.getElem?_toList] at hj
        show (cur[j]?).getD undef = u
        rw [hj]; rfl
      · cases hj
theorem own_of_rowIs {w : World} {base n g cap : Nat} {e : TypeId} {f : Nat → Value} {xs : List Value} (h : w.rowIs g e cap f) (hl : xs.length = n) (hb : base ≤ g) (h1 : n ≤ cap) (h2 : cap ≤ maxLen) (hx : ∀ j u, xs[j]? = some u → f j = u) :
    w.ownsRow base e 1 (.slice (some ⟨g, 0, none⟩) n cap) n xs := by
  obtain ⟨c, hc, hs, hf⟩ := h
  refine ⟨by omega, .inr ⟨g, cap, c, rfl, hb, hc, h1, h2, by omega, ?_⟩⟩
  apply List.ext_getElem?
  intro j
  rw [List.getElem?_take]
  by_cases hj : j < n
  · rw [if_pos (by omega), Array.getElem?_toList, hf j (by omega), List.getElem?_eq_getElem (by omega)]
    congr 1
    exact hx j _ (List.getElem?_eq_getElem (by omega))
  · rw [if_neg (by omega), List.getElem?_eq_none (by omega)]
theorem rowIs_cell {w : World} {g cap : Nat} {e : TypeId} {f : Nat → Value} (h : w.rowIs g e cap f) {i : Nat} (hi : i < cap) : w.cell? ⟨g, i, none⟩ = some (f i) := by
  obtain ⟨c, hc, hs, hf⟩ := h
  rw [cell_of_row w g i _ _ _ hc]; exact hf i hi
theorem rowIs_free {w : World} {g cap : Nat} {e : TypeId} {f : Nat → Value} (h : w.rowIs g e cap f) (i : Nat) : w.frozen? ⟨g, i, none⟩ = false := by
  obtain ⟨c, hc, -⟩ := h; simp [World.frozen?, hc]
theorem rowIs_same {w w' : World} {g cap : Nat} {e : TypeId} {f : Nat → Value} (h : w.rowIs g e cap f) (hb : w'.heap[g]? = w.heap[g]?) : w'.rowIs g e cap f := by
  obtain ⟨c, hc, r⟩ := h; exact ⟨c, hb.trans hc, r⟩
theorem setCells_fr (g : Nat) : ∀ (vs : List Value) (o : Nat) (w : World), (w.setCells g o vs).os = w.os ∧ (w.setCells g o vs).tape = w.tape ∧ (w.setCells g o vs).output = w.output ∧ (w.setCells g o vs).heap.size = w.heap.size ∧ ∀ k, k ≠ g → (w.setCells g o vs).heap[k]? = w.heap[k]?
  | [], _, _ => ⟨rfl, rfl, rfl, rfl, fun _ _ => rfl⟩
  | v :: r, o, w => by
    obtain ⟨h1, h2, h3, h4, h5⟩ := setCells_fr g r (o + 1) (w.setCell ⟨g, o, none⟩ v)
    refine ⟨h1, h2, h3, h4.trans (by simp [World.setCell]), fun k hk => (h5 k hk).trans (Below.heap_setCell _ _ _ _ hk)⟩
theorem setCells_drew (g : Nat) : ∀ (vs : List Value) (o : Nat) (w : World), w.drew.setCells g o vs = (w.setCells g o vs).drew
  | [], _, _ => rfl
  | v :: r, o, w => setCells_drew g r (o + 1) (w.setCell ⟨g, o, none⟩ v)
/-- x put in place i -/
def insL (L : List Int) (i : Nat) (x : Int) : List Int := L.take i ++ x :: L.drop i
theorem insL_len {L : List Int} {i : Nat} (x : Int) (h : i ≤ L.length) : (insL L i x).length = L.length + 1 := by
  unfold insL; rw [List.length_append, List.length_cons, List.length_take, List.length_drop]; omega
theorem insL_get {L : List Int} {i : Nat} {x : Int} (h : i ≤ L.length) (j : Nat) (u : Value) (hj : ((insL L i x).map numV)[j]? = some u) :
    (j < i ∧ (L.map numV)[j]? = some u) ∨ (j = i ∧ u = numV x) ∨ (i < j ∧ (L.map numV)[j - 1]? = some u) := by
  rw [List.getElem?_map] at hj ⊢
  unfold insL at hj
  by_cases h1 : j < i
  · left
    rw [List.getElem?_append_left (by rw [List.length_take]; omega), List.getElem?_take_of_lt h1] at hj
    exact ⟨h1, hj⟩
  · right
    rw [List.getElem?_append_right (by rw [List.length_take]; omega), List.length_take, Nat.min_eq_left h] at hj
    by_cases h2 : j = i
    · left
      subst h2
      rw [Nat.sub_self, List.getElem?_cons_zero] at hj
      exact ⟨rfl, by simpa using hj.symm⟩
    · right
      obtain ⟨d, rfl⟩ : ∃ d, j = i + 1 + d := ⟨j - i - 1, by omega⟩
      rw [show i + 1 + d - i = d + 1 by omega, List.getElem?_cons_succ, List.getElem?_drop] at hj
      refine ⟨by omega, ?_⟩
      rw [List.getElem?_map, show i + 1 + d - 1 = i + d by omega]
      exact hj

set_option maxHeartbeats 4000000 in
set_option maxRecDepth 100000 in
/-- there is room: in place -/
theorem insert_room (g n c i base : Nat) (L : List Int) (x : Int) (w : World) (hn : n ≤ 1048576) (hi : i < n) (hroom : n + 1 ≤ c) (hL : L.length = n) (hown : w.ownsRow base 2 1 (.slice (some ⟨g, 0, none⟩) n c) n (L.map numV)) :
    Calls Tryz.prog 273 #[.slice (some ⟨g, 0, none⟩) n c, .int .i64 (i : Int), .slice (some ⟨w.heap.size, 0, none⟩) 1 1] (w.alloc (.cells #[.int .i64 x] 2)) fun e w' =>
      e = .returned (.slice (some ⟨g, 0, none⟩) (n + 1) c) ∧ w'.ownsRow base 2 1 (.slice (some ⟨g, 0, none⟩) (n + 1) c) (n + 1) ((insL L i x).map numV) ∧ Fr w.heap.size (.slice (some ⟨g, 0, none⟩) n c) w w' := by
  obtain ⟨f, hrow, hnc, hcm, hbg, hf⟩ := rowIs_of_own hown
  have hcm' : c ≤ 9223372036854775807 := by unfold maxLen at hcm; exact hcm
  have hgw : g < w.heap.size := (own_block_ltR hown rfl).2
  clear hown
  obtain ⟨W, hW⟩ : ∃ W, W = w.alloc (.cells #[.int .i64 x] 2) := ⟨_, rfl⟩
  have hrowW : W.rowIs g 2 c f := rowIs_same hrow (by rw [hW]; exact Below.heap_alloc _ _ _ hgw)
  have hnew : IsBlk W w.heap.size 2 [.int .i64 x] := by rw [hW]; exact isBlk_new w 2 [.int .i64 x]
  have hne : w.heap.size ≠ g := by omega
  have hsz : (Tryz.prog.info? 2).map (·.size) = some 1 := by
    obtain ⟨i0, hi0, h0, h1, h2⟩ := info_parts info_num
    rw [hi0]; simp [h1]
  have hsz' : ∀ w, (Go.sizeOf 2).run Tryz.prog w = .ok 1 w := fun w => by kernel_rfl
  have hml : (L.map numV).length = n := by rw [List.length_map, hL]
  have hdl : ((L.map numV).drop i).length = n - i := by rw [List.length_drop, hml]
  have hov : ∀ lb cb, (callFunc 300 #[.slice (some ⟨w.heap.size, 0, none⟩) 1 1, .slice (some ⟨g, i + 1, none⟩) lb cb]).run Tryz.prog W = .ok (.value (.bool false)) W := fun lb cb => by
    obtain ⟨cc, hcc, hcs, -⟩ := hrowW
    rw [run_callFunc_extern Tryz.func300 (by kernel_rfl) (by kernel_rfl) (by kernel_rfl) (e := Extern.SlicesOverlaps.overlaps #[48, 48] #[4]) (by kernel_rfl),
      Lib.run_overlaps_apart W 48 4 2 Tryz.underlying48 1 hsz' ⟨w.heap.size, 0, none⟩ ⟨g, i + 1, none⟩ 1 1 lb cb hne 2 2 1 c (by unfold IsBlk at hnew; simp [World.shape?, hnew]) (by simp [World.shape?, hcc, hcs]) (by omega) hnew.free hnew.free]
    rfl
  have hcp1 : ∀ ty dc sc, (Builtin.copy_ #[48, 48] ty #[.slice (some ⟨g, i + 1, none⟩) (n - i) dc, .slice (some ⟨g, i, none⟩) (n + 1 - i) sc]).run Tryz.prog W.drew = .ok (goInt ((L.map numV).drop i).length) (W.drew.setCells g (i + 1) ((L.map numV).drop i)) := fun ty dc sc =>
    run_copy_cells W.drew _ _ ty 2 g (i + 1) (n - i) dc ⟨g, i, none⟩ (n + 1 - i) sc ((L.map numV).drop i) Tryz.underlying48 hsz (by rw [hdl]; simp only [Nat.min_def]; split <;> omega)
      (fun j v hj => by
        rw [List.getElem?_drop] at hj
        have hjl : i + j < n := by
          rcases Nat.lt_or_ge (i + j) n with h | h
          · exact h
          · rw [List.getElem?_eq_none (by omega)] at hj; cases hj
        rw [Addr.add_lit]
        show W.cell? ⟨g, i + j, none⟩ = _
        rw [rowIs_cell hrowW (by omega), hf _ _ hj])
      (fun j hj => by show (W.cell? ⟨g, i + 1 + j, none⟩).isSome = true; rw [rowIs_cell hrowW (by omega)]; rfl) (fun j hj => rowIs_free hrowW _) (fun v hv => by
        obtain ⟨z, -, rfl⟩ := List.mem_map.1 (List.mem_of_mem_drop hv); rfl)
  obtain ⟨W1, hW1⟩ : ∃ W1, W1 = W.drew.setCells g (i + 1) ((L.map numV).drop i) := ⟨_, rfl⟩
  have hrow1 := rowIs_setCells ((L.map numV).drop i) (i + 1) W.drew f (rowIs_same hrowW rfl)
  rw [← hW1] at hrow1 hcp1
  have hnew1 : IsBlk W1 w.heap.size 2 [.int .i64 x] := by
    rw [hW1]; exact ((setCells_fr g _ _ _).2.2.2.2 _ hne).trans hnew
  have hcp2 : ∀ ty dc, (Builtin.copy_ #[48, 48] ty #[.slice (some ⟨g, i, none⟩) (n + 1 - i) dc, .slice (some ⟨w.heap.size, 0, none⟩) 1 1]).run Tryz.prog W1 = .ok (goInt [numV x].length) (W1.setCells g i [numV x]) := fun ty dc =>
    run_copy_cells W1 _ _ ty 2 g i (n + 1 - i) dc ⟨w.heap.size, 0, none⟩ 1 1 [numV x] Tryz.underlying48 hsz (by simp only [List.length_cons, List.length_nil, Nat.min_def]; split <;> omega)
      (fun j v hj => by
        match j, hj with
        | 0, hj => simp at hj; subst hj; exact hnew1.cell rfl)
      (fun j hj => by rw [rowIs_cell hrow1 (by simp at hj; omega)]; rfl) (fun j hj => rowIs_free hrow1 _) (fun v hv => by simp at hv; subst hv; rfl)
  have hrow2 := rowIs_setCells [numV x] i W1 _ hrow1
  have HFIN : Hid ((W1.setCells g i [numV x]).ownsRow base 2 1 (.slice (some ⟨g, 0, none⟩) (n + 1) c) (n + 1) ((insL L i x).map numV)) := by
    refine own_of_rowIs hrow2 (by rw [List.length_map, insL_len x (by omega), hL]) hbg hroom hcm fun j u hj => ?_
    rcases insL_get (by omega) j u hj with ⟨h1, h2⟩ | ⟨h1, h2⟩ | ⟨h1, h2⟩
    · rw [if_neg (by omega), if_neg (by omega)]; exact hf j u h2
    · rw [if_pos (by simp; omega), h1, Nat.sub_self, h2]; rfl
    · have hjl : j - 1 < n := by
        rcases Nat.lt_or_ge (j - 1) n with h | h
        · exact h
        · rw [List.getElem?_eq_none (by omega)] at h2; cases h2
      rw [if_neg (by simp; omega), if_pos (by rw [hdl]; omega), List.getElem?_drop, show i + (j - (i + 1)) = j - 1 by omega, h2]
      rfl
  have HFR : Hid (Fr w.heap.size (.slice (some ⟨g, 0, none⟩) n c) w (W1.setCells g i [numV x])) := by
    obtain ⟨f1, f2, f3, f4, f5⟩ := setCells_fr g [numV x] i W1
    obtain ⟨e1, e2, e3, e4, e5⟩ := setCells_fr g ((L.map numV).drop i) (i + 1) W.drew
    rw [← hW1] at e1 e2 e3 e4 e5
    refine ⟨f1.trans (e1.trans (by rw [hW]; rfl)), f2.trans (e2.trans (by rw [hW]; rfl)), f3.trans (e3.trans (by rw [hW]; rfl)), ?_, fun k h1 h2 h3 => ?_⟩
    · rw [f4, e4, hW]; show w.heap.size ≤ (w.alloc _).heap.size; simp
    · have hkg : k ≠ g := fun e => h3 (by rw [e]; rfl)
      rw [f5 k hkg, e5 k hkg, hW]
      exact Below.heap_alloc _ _ _ h1
  have hi1 : ¬ ((i : Int) = (n : Int)) := by omega
  have hi2 : ((i : Int) == (n : Int)) = false := by simp; omega
  have hw1 : IntKind.i64.wrap ((i : Int) + 1) = (i : Int) + 1 := by rw [IntKind.wrap_i64]; omega
  have hb1 : (0 : Int) ≤ (i : Int) + 1 := by omega
  have htn : ((i : Int) + 1).toNat = i + 1 := by omega
  have hb2 : ¬ (c = i + 1) := by omega
  have hb3 : (i : Int) ≤ (n : Int) + 1 := by omega
  have hb4 : ¬ (c = i) := by omega
  have hin : i ≤ n := by omega
  have hrm : (n : Int) + 1 ≤ (c : Int) := by omega
  have hu := Tryz.underlying48
  rw [← hW]
  clear hrow hrowW hrow1 hrow2 hnew hnew1 hW1 hW hsz hsz' hml hdl hf hL hcm hbg hu
  go_enter Tryz.func273, Tryz.ntmps273
  go_wp2_with (simp only [hov])
  go_region_law (refine step_copyN rfl _ _ 48 48 rfl _ _ (by simp [Act.eval, Act.put]) (by simp [Act.eval, Act.put]) (hcp1 _ _ _) ?_)
  go_wp2_with (at_builtin; refine wpList_copyN _ rfl _ _ 48 48 rfl _ _ rfl rfl (hcp2 _ _) ?_)
  go_ret
  exact ⟨rfl, HFIN.out, HFR.out⟩

set_option maxHeartbeats 4000000 in
set_option maxRecDepth 100000 in
/-- there is no room: a new row -/
theorem insert_grow (g n i base : Nat) (L : List Int) (x : Int) (w : World) (hn : n ≤ 1048576) (hi : i < n) (hL : L.length = n) (hbase : base ≤ w.heap.size) (hown : w.ownsRow base 2 1 (.slice (some ⟨g, 0, none⟩) n n) n (L.map numV)) :
    Calls Tryz.prog 273 #[.slice (some ⟨g, 0, none⟩) n n, .int .i64 (i : Int), .slice (some ⟨w.heap.size, 0, none⟩) 1 1] (w.alloc (.cells #[.int .i64 x] 2)) fun e w' =>
      ∃ cap, e = .returned (.slice (some ⟨w.heap.size + 1, 0, none⟩) (n + 1) cap) ∧ w'.ownsRow base 2 1 (.slice (some ⟨w.heap.size + 1, 0, none⟩) (n + 1) cap) (n + 1) ((insL L i x).map numV) ∧ Fr w.heap.size (.slice (some ⟨g, 0, none⟩) n n) w w' := by
  obtain ⟨f, hrow, -, -, hbg, hf⟩ := rowIs_of_own hown
  have hgw : g < w.heap.size := (own_block_ltR hown rfl).2
  clear hown
  obtain ⟨W, hW⟩ : ∃ W, W = w.alloc (.cells #[.int .i64 x] 2) := ⟨_, rfl⟩
  have hWs : W.heap.size = w.heap.size + 1 := by rw [hW]; simp
  have hrowW : W.rowIs g 2 n f := rowIs_same hrow (by rw [hW]; exact Below.heap_alloc _ _ _ hgw)
  have hnew : IsBlk W w.heap.size 2 [.int .i64 x] := by rw [hW]; exact isBlk_new w 2 [.int .i64 x]
  have hml : (L.map numV).length = n := by rw [List.length_map, hL]
  have hdl : ((L.map numV).drop i).length = n - i := by rw [List.length_drop, hml]
  have htl : ((L.map numV).take i).length = i := by rw [List.length_take, hml]; omega
  obtain ⟨i0, hi0, hz0, hzs, hzb⟩ := info_parts info_num
  have hsz : (Tryz.prog.info? 2).map (·.size) = some 1 := by rw [hi0]; simp [hzs]
  have hcell : ∀ j v, (L.map numV)[j]? = some v → W.cell? ⟨g, j, none⟩ = some v := fun j v hj => by
    have hjl : j < n := by
      rcases Nat.lt_or_ge j n with h | h
      · exact h
      · rw [List.getElem?_eq_none (by omega)] at hj; cases hj
    rw [rowIs_cell hrowW hjl, hf _ _ hj]
  have hold : (Builtin.firstCells i0.size i (.slice (some ⟨g, 0, none⟩) i n)).run Tryz.prog W.drew = .ok ((L.map numV).take i).toArray W.drew := by
    rw [hzs]
    exact run_firstCells_some W.drew 1 i ⟨g, 0, none⟩ i n ((L.map numV).take i) (by omega) (fun j v hj => by
      rw [Addr.add_lit, Nat.zero_add]
      rw [List.getElem?_take] at hj
      split at hj
      · exact hcell j v hj
      · cases hj)
  have hik : i + (n + 1 - i) = n + 1 := by omega
  have hkk : (n : Int) + 1 - (i : Int) = ((n + 1 - i : Nat) : Int) := by omega
  obtain ⟨G, hG⟩ : ∃ G, G = grownCap W (n + 1) n 2 := ⟨_, rfl⟩
  have hGn : n + 1 ≤ G := by rw [hG]; exact grownCap_ge W _ _ _
  have hGm : G ≤ maxLen := by rw [hG]; exact grownCap_le_maxLen W _ _ _ (by unfold maxLen; omega)
  have hG63 : G ≤ 9223372036854775807 := by unfold maxLen at hGm; exact hGm
  obtain ⟨ROW, hROW⟩ : ∃ ROW : Array Value, ROW = ((L.map numV).take i).toArray ++ Builtin.zeroCells (Value.int .i64 0).cells (n + 1 - i) ++ Builtin.zeroCells (Value.int .i64 0).cells (G - (n + 1)) := ⟨_, rfl⟩
  have hrz : ∀ ty, (Builtin.append_ #[48, 3] ty #[.slice (some ⟨g, 0, none⟩) i n, .int .i64 ((n : Int) + 1 - (i : Int))]).run Tryz.prog W = .ok (.slice (some ⟨w.heap.size + 1, 0, none⟩) (n + 1) G) (W.drew.alloc (.cells ROW 2)) := fun ty => by
    have h := Lib.run_append_grow_zeros W 48 3 ty 2 i0 _ .i64 .i64 Tryz.underlying48 Tryz.underlying3 hi0 hz0 (some ⟨g, 0, none⟩) i n ((L.map numV).take i) hold (n + 1 - i) (by omega) (by omega) (by omega) (by omega) (by rw [hzb]; omega) (by rw [hzb, hik]; exact growslice_fits (by omega) (by omega))
    rw [hik, ← hG, ← hROW, hWs] at h
    rw [hkk]
    exact h
  have hRs : ROW.size = G := by rw [hROW]; simp [Builtin.zeroCells, Value.cells, hml]; omega
  obtain ⟨W1, hW1⟩ : ∃ W1, W1 = W.drew.alloc (.cells ROW 2) := ⟨_, rfl⟩
  rw [← hW1] at hrz
  have hN : w.heap.size + 1 = W.drew.heap.size := hWs.symm
  have hrow1 : W1.rowIs (w.heap.size + 1) 2 G (fun j => (ROW[j]?).getD undef) := by
    refine ⟨ROW, by rw [hW1, hN]; exact heap_alloc_new W.drew _, hRs, fun j hj => ?_⟩
    show ROW[j]? = some ((ROW[j]?).getD undef)
    rw [Array.getElem?_eq_getElem (by omega)]; rfl
  have hR : ∀ j u, j < i → (L.map numV)[j]? = some u → (ROW[j]?).getD undef = u := fun j u hj hu => by
    have h1 : ROW[j]? = some u := by
      rw [hROW, Array.append_assoc, Array.getElem?_append_left (by simp [hml]; omega), List.getElem?_toArray, List.getElem?_take_of_lt hj]; exact hu
    rw [h1]; rfl
  have hnew1 : IsBlk W1 w.heap.size 2 [.int .i64 x] := by rw [hW1]; exact (Below.heap_alloc W.drew _ _ (show w.heap.size < W.drew.heap.size by omega)).trans hnew
  have hcell1 : ∀ j v, (L.map numV)[j]? = some v → W1.cell? ⟨g, j, none⟩ = some v := fun j v hj => by
    rw [hW1, World.cell?_alloc_lt _ _ ⟨g, j, none⟩ (show g < W.drew.heap.size by omega)]; exact hcell j v hj
  have hcpA : ∀ (V : World), V.heap = W1.heap → ∀ ty dc, (Builtin.copy_ #[48, 48] ty #[.slice (some ⟨w.heap.size + 1, i, none⟩) (n + 1 - i) dc, .slice (some ⟨w.heap.size, 0, none⟩) 1 1]).run Tryz.prog V = .ok (goInt [numV x].length) (V.setCells (w.heap.size + 1) i [numV x]) := fun V hV ty dc => by
    have c1 : ∀ a, V.cell? a = W1.cell? a := fun a => by simp only [World.cell?, hV]
    have c2 : ∀ a, V.frozen? a = W1.frozen? a := fun a => by simp only [World.frozen?, hV]
    exact run_copy_cells V _ _ ty 2 (w.heap.size + 1) i (n + 1 - i) dc ⟨w.heap.size, 0, none⟩ 1 1 [numV x] Tryz.underlying48 hsz (by simp only [List.length_cons, List.length_nil, Nat.min_def]; split <;> omega)
      (fun j v hj => by
        match j, hj with
        | 0, hj => simp at hj; subst hj; rw [c1]; exact hnew1.cell rfl)
      (fun j hj => by rw [c1, rowIs_cell hrow1 (by simp at hj; omega)]; rfl) (fun j hj => by rw [c2]; exact rowIs_free hrow1 _) (fun v hv => by simp at hv; subst hv; rfl)
  obtain ⟨W2, hW2⟩ : ∃ W2, W2 = W1.setCells (w.heap.size + 1) i [numV x] := ⟨_, rfl⟩
  have hrow2 := rowIs_setCells [numV x] i W1 _ hrow1
  rw [← hW2] at hrow2
  have hcell2 : ∀ j v, (L.map numV)[j]? = some v → W2.cell? ⟨g, j, none⟩ = some v := fun j v hj => by
    rw [hW2, World.cell?_setCells_out _ _ _ _ _ (fun h _ => absurd h (by dsimp only; omega))]; exact hcell1 j v hj
  have hcpB : ∀ (V : World), V.heap = W2.heap → ∀ ty dc sc, (Builtin.copy_ #[48, 48] ty #[.slice (some ⟨w.heap.size + 1, i + 1, none⟩) (n - i) dc, .slice (some ⟨g, i, none⟩) (n - i) sc]).run Tryz.prog V = .ok (goInt ((L.map numV).drop i).length) (V.setCells (w.heap.size + 1) (i + 1) ((L.map numV).drop i)) := fun V hV ty dc sc => by
    have c1 : ∀ a, V.cell? a = W2.cell? a := fun a => by simp only [World.cell?, hV]
    have c2 : ∀ a, V.frozen? a = W2.frozen? a := fun a => by simp only [World.frozen?, hV]
    exact run_copy_cells V _ _ ty 2 (w.heap.size + 1) (i + 1) (n - i) dc ⟨g, i, none⟩ (n - i) sc ((L.map numV).drop i) Tryz.underlying48 hsz (by rw [hdl]; simp only [Nat.min_def]; split <;> omega)
      (fun j v hj => by rw [List.getElem?_drop] at hj; rw [Addr.add_lit, c1]; exact hcell2 _ v hj)
      (fun j hj => by rw [c1, rowIs_cell hrow2 (by omega)]; rfl) (fun j hj => by rw [c2]; exact rowIs_free hrow2 _) (fun v hv => by
        obtain ⟨z, -, rfl⟩ := List.mem_map.1 (List.mem_of_mem_drop hv); rfl)
  have hrow3 := rowIs_setCells ((L.map numV).drop i) (i + 1) W2 _ hrow2
  have HFIN : Hid (∀ V : World, V.heap = (W2.setCells (w.heap.size + 1) (i + 1) ((L.map numV).drop i)).heap → V.ownsRow base 2 1 (.slice (some ⟨w.heap.size + 1, 0, none⟩) (n + 1) G) (n + 1) ((insL L i x).map numV)) := fun V hV => by
    refine own_of_rowIs (rowIs_same hrow3 (by rw [hV])) (by rw [List.length_map, insL_len x (by omega), hL]) (by omega) hGn hGm fun j u hj => ?_
    rcases insL_get (by omega) j u hj with ⟨h1, h2⟩ | ⟨h1, h2⟩ | ⟨h1, h2⟩
    · rw [if_neg (by omega), if_neg (by simp; omega)]; exact hR j u h1 h2
    · rw [if_neg (by omega), if_pos (by simp; omega), h1, Nat.sub_self, h2]; rfl
    · have hjl : j - 1 < n := by
        rcases Nat.lt_or_ge (j - 1) n with h | h
        · exact h
        · rw [List.getElem?_eq_none (by omega)] at h2; cases h2
      rw [if_pos (by rw [hdl]; omega), List.getElem?_drop, show i + (j - (i + 1)) = j - 1 by omega, h2]
      rfl
  have HFR : Hid (∀ V : World, V.heap = (W2.setCells (w.heap.size + 1) (i + 1) ((L.map numV).drop i)).heap → V.os = w.os → V.tape = w.tape → V.output = w.output → Fr w.heap.size (.slice (some ⟨g, 0, none⟩) n n) w V) := fun V hV ho ht hu => by
    obtain ⟨f1, f2, f3, f4, f5⟩ := setCells_fr (w.heap.size + 1) ((L.map numV).drop i) (i + 1) W2
    obtain ⟨e1, e2, e3, e4, e5⟩ := setCells_fr (w.heap.size + 1) [numV x] i W1
    rw [← hW2] at e1 e2 e3 e4 e5
    refine ⟨ho, ht, hu, ?_, fun k h1 h2 h3 => ?_⟩
    · rw [hV, f4, e4, hW1]; show w.heap.size ≤ (W.drew.alloc _).heap.size; rw [size_alloc]; show w.heap.size ≤ W.heap.size + 1; omega
    · rw [hV, f5 k (by omega), e5 k (by omega), hW1, Below.heap_alloc W.drew _ _ (show k < W.drew.heap.size by show k < W.heap.size; omega)]
      show W.heap[k]? = _
      rw [hW]; exact Below.heap_alloc _ _ _ h1
  have HS2 : Hid (W1.setCells (w.heap.size + 1) i [numV x] = W2) := Lib.hid hW2.symm
  have hA := hcpA W1 rfl
  have hB := hcpB (W1.setCells (w.heap.size + 1) i [numV x]).drew (by rw [hW2]; rfl)
  have HOS : Hid (W2.os = w.os ∧ W2.tape = w.tape ∧ W2.output = w.output) := by
    obtain ⟨e1, e2, e3, -, -⟩ := setCells_fr (w.heap.size + 1) [numV x] i W1
    rw [← hW2] at e1 e2 e3
    exact ⟨e1.trans (by rw [hW1, hW]; rfl), e2.trans (by rw [hW1, hW]; rfl), e3.trans (by rw [hW1, hW]; rfl)⟩
  have hi1 : ¬ ((i : Int) = (n : Int)) := by omega
  have hi2 : ((i : Int) == (n : Int)) = false := by simp; omega
  have hw1 : IntKind.i64.wrap ((i : Int) + 1) = (i : Int) + 1 := by rw [IntKind.wrap_i64]; omega
  have hb1 : (0 : Int) ≤ (i : Int) + 1 := by omega
  have htn : ((i : Int) + 1).toNat = i + 1 := by omega
  have hb2 : ¬ (G = i + 1) := by omega
  have hb3 : (i : Int) ≤ (n : Int) + 1 := by omega
  have hb4 : ¬ (G = i) := by omega
  have hb5 : ¬ (n = i) := by omega
  have hin : i ≤ n := by omega
  have hrm : (n : Int) < (n : Int) + 1 := by omega
  rw [← hW]
  clear hrow hrowW hrow1 hrow2 hrow3 hnew hnew1 hW1 hW2 hW hsz hml hdl htl hf hL hGm hbg hcell hcell1 hcell2 hcpA hcpB hold hik hkk hG hROW hRs hR hN hWs hi0 hz0 hzs hzb
  go_enter Tryz.func273, Tryz.ntmps273
  go_wp2_with (first
    | (at_builtin; refine Lib.wpList_append_run _ rfl _ _ _ _ rfl _ _ rfl rfl _ _ (hrz _) ?_)
    | (at_builtin; refine wpList_copyN _ rfl _ _ 48 48 rfl _ _ rfl rfl (hA _ _) ?_))
  go_region_law (refine step_copyN rfl _ _ 48 48 rfl _ _ (by simp [Act.eval, Act.put]) (by simp [Act.eval, Act.put]) (hB _ _ _) ?_)
  go_wp2
  go_ret
  have hV : ((W1.setCells (w.heap.size + 1) i [numV x]).drew.setCells (w.heap.size + 1) (i + 1) ((L.map numV).drop i)).heap = (W2.setCells (w.heap.size + 1) (i + 1) ((L.map numV).drop i)).heap := by rw [HS2.out, setCells_drew]; rfl
  obtain ⟨e1, e2, e3, -, -⟩ := setCells_fr (w.heap.size + 1) ((L.map numV).drop i) (i + 1) (W1.setCells (w.heap.size + 1) i [numV x]).drew
  refine ⟨G, rfl, HFIN.out _ hV, HFR.out _ hV (e1.trans ?_) (e2.trans ?_) (e3.trans ?_)⟩
  · rw [HS2.out]; exact HOS.out.1
  · rw [HS2.out]; exact HOS.out.2.1
  · rw [HS2.out]; exact HOS.out.2.2

theorem insL_getD {L : List Int} {i : Nat} {x : Int} (h : i ≤ L.length) (j : Nat) : (insL L i x).getD j 0 = if j < i then L.getD j 0 else if j = i then x else L.getD (j - 1) 0 := by
  unfold insL
  simp only [List.getD_eq_getElem?_getD]
  by_cases h1 : j < i
  · rw [if_pos h1, List.getElem?_append_left (by rw [List.length_take]; omega), List.getElem?_take_of_lt h1]
  · rw [if_neg h1, List.getElem?_append_right (by rw [List.length_take]; omega), List.length_take, Nat.min_eq_left h]
    by_cases h2 : j = i
    · subst h2; rw [if_pos rfl, Nat.sub_self]; rfl
    · rw [if_neg h2]
      obtain ⟨d, rfl⟩ : ∃ d, j = i + 1 + d := ⟨j - i - 1, by omega⟩
      rw [show i + 1 + d - i = d + 1 by omega, List.getElem?_cons_succ, List.getElem?_drop, show i + 1 + d - 1 = i + d by omega]
theorem insL_mem {L : List Int} {i : Nat} {x q : Int} : q ∈ insL L i x ↔ q = x ∨ q ∈ L := by
  unfold insL
  rw [List.mem_append, List.mem_cons]
  constructor
  · rintro (h | h | h)
    · exact .inr (List.mem_of_mem_take h)
    · exact .inl h
    · exact .inr (List.mem_of_mem_drop h)
  · rintro (h | h)
    · exact .inr (.inl h)
    · rw [← List.take_append_drop i L, List.mem_append] at h
      rcases h with h | h
      · exact .inl h
      · exact .inr (.inr h)
theorem insL_srt {L : List Int} {x : Int} {i : Nat} (hS : Srt L) (hc : Cut L x i) (hn : ¬ (i < L.length ∧ L.getD i 0 = x)) : Srt (insL L i x) := by
  intro a b hab hb
  have hil := hc.le
  rw [insL_len x hil] at hb
  rw [insL_getD hil, insL_getD hil]
  by_cases h1 : b < i
  · rw [if_pos h1, if_pos (by omega)]; exact hS a b hab (by omega)
  · rw [if_neg h1]
    by_cases h2 : b = i
    · rw [if_pos h2, if_pos (by omega)]; exact hc.lo a (by omega)
    · rw [if_neg h2]
      have hx := hc.hi (b - 1) (by omega) (by omega)
      by_cases h3 : a < i
      · rw [if_pos h3]; have := hc.lo a h3; omega
      · rw [if_neg h3]
        by_cases h4 : a = i
        · rw [if_pos h4]
          have hxi := hc.hi i (Nat.le_refl _) (by omega)
          by_cases h5 : b - 1 = i
          · rw [h5]
            have : L.getD i 0 ≠ x := fun e => hn ⟨by omega, e⟩
            omega
          · have := hS i (b - 1) (by omega) (by omega); omega
        · rw [if_neg h4]; exact hS (a - 1) (b - 1) (by omega) (by omega)
/-- what is added to an increasing list keeps it increasing; it has x besides -/
theorem added_srt {L L' : List Int} {x : Int} (hS : Srt L) (ha : Added L x L') : Srt L' ∧ ∀ q, q ∈ L' ↔ q = x ∨ q ∈ L := by
  obtain ⟨i, hc, rfl⟩ := ha
  by_cases h : i < L.length ∧ L.getD i 0 = x
  · rw [if_pos h]
    refine ⟨hS, fun q => ⟨.inr, ?_⟩⟩
    rintro (rfl | hq)
    · rw [← h.2]; exact getD_lt h.1
    · exact hq
  · rw [if_neg h]
    exact ⟨insL_srt hS hc h, fun q => insL_mem⟩
theorem added_len {L L' : List Int} {x : Int} (ha : Added L x L') : L'.length ≤ L.length + 1 := by
  obtain ⟨i, hc, rfl⟩ := ha
  split
  · omega
  · exact Nat.le_of_eq (insL_len x hc.le)

set_option maxHeartbeats 4000000 in
set_option maxRecDepth 100000 in
theorem add_any (B : Nat) (v : Value) (base : Nat) (L : List Int) (x : Int) (w : World) (hn : L.length ≤ 1048576) (hBb : B < base) (hbase : base ≤ w.heap.size) (hS : Srt L)
    (hB : IsBlk w B 276 [v]) (hown : w.ownsRow base 2 1 v L.length (L.map numV)) :
    Calls Tryz.prog 248 #[.pointer (some ⟨B, 0, none⟩), .int .i64 x] w (RetAdd B base v L x w) := by
  by_cases hmid : ∃ i, Cut L x i ∧ i < L.length ∧ L.getD i 0 ≠ x
  case neg =>
    exact add_end B v base L x w hn hBb hbase hS (fun i hc => by
      by_cases h1 : i < L.length
      · left
        refine ⟨h1, ?_⟩
        by_cases h2 : L.getD i 0 = x
        · exact h2
        · exact absurd ⟨i, hc, h1, h2⟩ hmid
      · right; have := hc.le; omega) hB hown
  obtain ⟨A, cap, rfl⟩ := own_slice hown
  have hc : w.cell? ⟨B, 0, none⟩ = some (.slice A L.length cap) := hB.cell rfl
  have hBlt := hB.lt
  have HOW := Lib.hid hown; have HBK := Lib.hid hB; have HS := Lib.hid hS; have HM := Lib.hid hmid
  clear hown hB hS hmid
  go_enter Tryz.func248, Tryz.ntmps248
  go_wp2_with fail
  refine (search_any A L.length cap L x w hn HS.out ((owNs_of_own HOW.out).rd (Nat.le_refl _))).mono ?_
  rintro e w1 ⟨i, hcut, rfl, rfl⟩
  obtain ⟨hil, hix⟩ : i < L.length ∧ L.getD i 0 ≠ x := by
    obtain ⟨j, hj, hjl, hjx⟩ := HM.out
    have e : i = j := by
      rcases Nat.lt_trichotomy i j with h | h | h
      · have h1 := hj.lo i h; have h2 := hcut.hi i (Nat.le_refl _) (by omega); omega
      · exact h
      · have h1 := hcut.lo j h; have h2 := hj.hi j (Nat.le_refl _) hjl; omega
    subst e; exact ⟨hjl, hjx⟩
  have HC := Lib.hid hcut
  have HF : Hid (¬ (i < L.length ∧ L.getD i 0 = x)) := fun h => hix h.2
  rw [decide_eq_false HF.out]
  obtain ⟨g, rfl⟩ : ∃ g, A = some ⟨g, 0, none⟩ := by
    rcases HOW.out.2 with ⟨h0, hl⟩ | ⟨g', cap', cur, hv, -⟩
    · omega
    · simp only [Value.slice.injEq] at hv; exact ⟨g', hv.1⟩
  have HADD : Hid (Added L x (insL L i x)) := ⟨i, HC.out, by rw [if_neg HF.out]; rfl⟩
  have hil' := insL_len x (show i ≤ L.length by omega)
  have HIL := Lib.hid hil'
  have hcap : L.length ≤ cap := by
    obtain ⟨f, -, h, -⟩ := rowIs_of_own HOW.out
    exact h
  have hinL : insL L i x = insL L i x := rfl
  clear hcut hix hil' hinL
  by_cases hroom : L.length + 1 ≤ cap
  · go_wp2_with fail
    refine (insert_room g L.length cap i base L x w hn hil hroom rfl HOW.out).mono ?_
    rintro e w2 ⟨rfl, ho2, hfr2⟩
    have HO2 := Lib.hid ho2; have HFR := Lib.hid hfr2
    have hb2 : IsBlk w2 B 276 [.slice (some ⟨g, 0, none⟩) L.length cap] := (hfr2.block B hBlt (by omega) (fun e => by have := (own_block_ltR HOW.out e).1; omega)).trans HBK.out
    have HB2 := Lib.hid hb2
    have hc2 : w2.cell? ⟨B, 0, none⟩ = some (.slice (some ⟨g, 0, none⟩) L.length cap) := hb2.cell rfl
    have hf2 : w2.frozen? ⟨B, 0, none⟩ = false := hb2.free
    clear ho2 hfr2 hb2 hc
    go_wp2
    refine bodyPost_ret (results_none rfl _ _ _) rfl ?_
    refine ⟨_, .slice (some ⟨g, 0, none⟩) (L.length + 1) cap, insL L i x, rfl, HADD.out, HB2.out.set _, by rw [HIL.out]; exact own_otherR HO2.out hBb _, ⟨HFR.out.os, HFR.out.tape, HFR.out.output, by simpa [World.setCell] using HFR.out.size, fun k h1 h2 h3 => (Below.heap_setCell _ _ _ _ (by dsimp only; omega)).trans (HFR.out.block k h1 (by omega) h3)⟩, fun q hq => .inl hq⟩
  · obtain rfl : cap = L.length := by omega
    go_wp2_with fail
    refine (insert_grow g L.length i base L x w hn hil rfl hbase HOW.out).mono ?_
    rintro e w2 ⟨cap2, rfl, ho2, hfr2⟩
    have HO2 := Lib.hid ho2; have HFR := Lib.hid hfr2
    have hb2 : IsBlk w2 B 276 [.slice (some ⟨g, 0, none⟩) L.length L.length] := (hfr2.block B hBlt (by omega) (fun e => by have := (own_block_ltR HOW.out e).1; omega)).trans HBK.out
    have HB2 := Lib.hid hb2
    have hc2 : w2.cell? ⟨B, 0, none⟩ = some (.slice (some ⟨g, 0, none⟩) L.length L.length) := hb2.cell rfl
    have hf2 : w2.frozen? ⟨B, 0, none⟩ = false := hb2.free
    clear ho2 hfr2 hb2 hc
    go_wp2
    refine bodyPost_ret (results_none rfl _ _ _) rfl ?_
    refine ⟨_, .slice (some ⟨w.heap.size + 1, 0, none⟩) (L.length + 1) cap2, insL L i x, rfl, HADD.out, HB2.out.set _, by rw [HIL.out]; exact own_otherR HO2.out hBb _, ⟨HFR.out.os, HFR.out.tape, HFR.out.output, by simpa [World.setCell] using HFR.out.size, fun k h1 h2 h3 => (Below.heap_setCell _ _ _ _ (by dsimp only; omega)).trans (HFR.out.block k h1 (by omega) h3)⟩, fun q hq => ?_⟩
    have hq' : w.heap.size + 1 = q := by simpa [Value.ownBlock] using hq
    right; omega
end Go.Proofs.YtloaeglmngcenaaGreatDoor

namespace Go.Proofs.YtloaeglmngcenaaGreatDoor
open Bt (Rc)

/-- the floor and the later Times of the first k records -/
def tmsTo (X : List Rc) (f : Int) : Nat → List Int
  | 0 => [f]
  | k + 1 => if f ≤ (X.getD k Rc.zero).t then pushT (tmsTo X f k) (X.getD k Rc.zero).t else tmsTo X f k
theorem tmsTo_yes {X : List Rc} {f : Int} {k : Nat} (h : f ≤ (X.getD k Rc.zero).t) : tmsTo X f (k + 1) = pushT (tmsTo X f k) (X.getD k Rc.zero).t := by simp only [tmsTo]; rw [if_pos h]
theorem tmsTo_no {X : List Rc} {f : Int} {k : Nat} (h : ¬ f ≤ (X.getD k Rc.zero).t) : tmsTo X f (k + 1) = tmsTo X f k := by simp only [tmsTo]; rw [if_neg h]
theorem tmsTo_len (X : List Rc) (f : Int) (k : Nat) : (tmsTo X f k).length ≤ k + 1 := by
  induction k with
  | zero => simp [tmsTo]
  | succ k ih =>
    simp only [tmsTo]
    split
    · have := pushT_len (tmsTo X f k) (X.getD k Rc.zero).t; omega
    · omega
theorem upw_one (f : Int) : Upw [f] f := ⟨fun a b h1 h2 => by simp at h2; omega, fun k hk => by simp at hk; subst hk; simp⟩
/-- at record k all times so far are at most its own, if that is from the floor on -/
theorem tms_upw {X : List Rc} (hX : hRight X = true) (f : Int) : ∀ k, k ≤ X.length → Upw (tmsTo X f k) (if f ≤ (prevR X k).t then (prevR X k).t else f) := by
  intro k
  induction k with
  | zero =>
    intro _
    split
    · rename_i h; exact (upw_one f).mono h
    · exact upw_one f
  | succ k ih =>
    intro hk
    have h := ih (by omega)
    have ht := (hRight_at hX (show k < X.length by omega)).2.2
    rw [prevR_succ]
    by_cases hf : f ≤ (X.getD k Rc.zero).t
    · rw [tmsTo_yes hf, if_pos hf]
      refine h.push ?_
      split <;> omega
    · rw [tmsTo_no hf, if_neg hf]
      rw [if_neg (by omega)] at h
      exact h
theorem tms_next {X : List Rc} (hX : hRight X = true) {f : Int} {k : Nat} (hk : k < X.length) (hf : f ≤ (X.getD k Rc.zero).t) : Upw (tmsTo X f k) (X.getD k Rc.zero).t := by
  have ht := (hRight_at hX hk).2.2
  refine (tms_upw hX f k (by omega)).mono ?_
  split <;> omega
theorem pushT_mem {T : List Int} {z q : Int} (h : Upw T z) : q ∈ pushT T z ↔ q = z ∨ q ∈ T := by
  unfold pushT
  split
  · rename_i hz
    constructor
    · exact .inr
    · rintro (rfl | h')
      · have h1 := h.le (T.length - 1) (by omega)
        have e : T.getD (T.length - 1) 0 = q := by omega
        rw [← e]; exact getD_lt (by omega)
      · exact h'
  · rw [List.mem_append, List.mem_singleton]
    exact ⟨fun h => h.symm, fun h => h.symm⟩
theorem tms_mem {X : List Rc} (hX : hRight X = true) (f q : Int) : ∀ k, k ≤ X.length → (q ∈ tmsTo X f k ↔ q = f ∨ ∃ j, j < k ∧ f ≤ (X.getD j Rc.zero).t ∧ (X.getD j Rc.zero).t = q) := by
  intro k
  induction k with
  | zero => intro _; simp [tmsTo]
  | succ k ih =>
    intro hk
    by_cases hf : f ≤ (X.getD k Rc.zero).t
    · rw [tmsTo_yes hf, pushT_mem (tms_next hX (by omega) hf), ih (by omega)]
      constructor
      · rintro (h | h | ⟨j, h1, h2⟩)
        · exact .inr ⟨k, by omega, hf, h.symm⟩
        · exact .inl h
        · exact .inr ⟨j, by omega, h2⟩
      · rintro (h | ⟨j, h1, h2, h3⟩)
        · exact .inr (.inl h)
        · by_cases e : j = k
          · subst e; exact .inl h3.symm
          · exact .inr (.inr ⟨j, by omega, h2, h3⟩)
    · rw [tmsTo_no hf, ih (by omega)]
      constructor
      · rintro (h | ⟨j, h1, h2⟩)
        · exact .inl h
        · exact .inr ⟨j, by omega, h2⟩
      · rintro (h | ⟨j, h1, h2, h3⟩)
        · exact .inl h
        · by_cases e : j = k
          · subst e; exact absurd h2 hf
          · exact .inr ⟨j, by omega, h2, h3⟩

/-- place i lies in the trail of one of the first m sectors at one of the times T -/
def Mk (X : List Rc) (T : List Int) (i : Nat) : Prop := ∃ t ∈ T, ∃ s : Nat, s < 6 ∧ i ∈ trl X (s : Int) X.length t
/-- Seq q does -/
def Seen (X : List Rc) (T : List Int) (q : Int) : Prop := ∃ t ∈ T, ∃ s : Nat, s < 6 ∧ ∃ r ∈ trlR X (s : Int) X.length t, r.q = q
theorem prev_lt {X : List Rc} (hX : hRight X = true) : ∀ {i j : Nat}, i < j → j < X.length → (X.getD i Rc.zero).q < (X.getD j Rc.zero).q := by
  intro i j
  induction j with
  | zero => intro h; omega
  | succ j ih =>
    intro h1 h2
    have h := (hRight_at hX h2).2.1
    rw [prevR_succ] at h
    by_cases e : i = j
    · subst e; exact h
    · have := ih (by omega) (by omega); omega
theorem seq_inj {X : List Rc} (hX : hRight X = true) {i j : Nat} (hi : i < X.length) (hj : j < X.length) (h : (X.getD i Rc.zero).q = (X.getD j Rc.zero).q) : i = j := by
  rcases Nat.lt_trichotomy i j with h1 | h1 | h1
  · have := prev_lt hX h1 hj; omega
  · exact h1
  · have := prev_lt hX h1 hi; omega
theorem seen_iff {X : List Rc} (hX : hRight X = true) (T : List Int) {i : Nat} (hi : i < X.length) : Seen X T (X.getD i Rc.zero).q ↔ Mk X T i := by
  constructor
  · rintro ⟨t, ht, s, hs, r, hr, hq⟩
    refine ⟨t, ht, s, hs, ?_⟩
    unfold trlR at hr
    obtain ⟨j, hj, rfl⟩ := List.mem_map.1 hr
    have := seq_inj hX (trl_lt X _ _ _ j hj) hi hq
    subst this; exact hj
  · rintro ⟨t, ht, s, hs, hi'⟩
    exact ⟨t, ht, s, hs, _, by unfold trlR; exact List.mem_map.2 ⟨i, hi', rfl⟩, rfl⟩
/-- the record that the floor is taken from, and its place -/
def flR (X : List Rc) : Rc := floorRecTo X X.length
def flP (X : List Rc) : Nat → Int
  | 0 => -1
  | k + 1 => if (X.getD k Rc.zero).k = 4 ∧ (X.getD k Rc.zero).o = floorR X then (k : Int) else flP X k
theorem floorTo_mono (X : List Rc) {j k : Nat} (h : j ≤ k) : floorTo X j ≤ floorTo X k := by
  induction k with
  | zero => obtain rfl : j = 0 := by omega
            exact Int.le_refl _
  | succ k ih =>
    by_cases e : j = k + 1
    · subst e; exact Int.le_refl _
    · have := ih (by omega)
      rw [floorTo_succ]; split <;> omega
theorem floorTo_ge (X : List Rc) {i k : Nat} (h : i < k) (h4 : (X.getD i Rc.zero).k = 4) : (X.getD i Rc.zero).o ≤ floorTo X k := by
  refine Int.le_trans ?_ (floorTo_mono X (show i + 1 ≤ k from h))
  rw [floorTo_succ]
  split
  · exact Int.le_refl _
  · rename_i hn
    have : ¬ floorTo X i ≤ (X.getD i Rc.zero).o := fun h' => hn ⟨h4, h'⟩
    omega
/-- a place of a valid history holds the floor's record just where the last floor of that height lies -/
theorem fl_iff {X : List Rc} (hX : hRight X = true) : ∀ k, k ≤ X.length → ∀ i, i < k → (floorTo X k = floorR X → (X.getD i Rc.zero = floorRecTo X k ↔ flP X k = (i : Int))) := by
  intro k
  induction k with
  | zero => intro _ i hi; omega
  | succ k ih =>
    intro hk i hi hfl
    by_cases h4 : (X.getD k Rc.zero).k = 4 ∧ (X.getD k Rc.zero).o = floorR X
    · have e1 : floorRecTo X (k + 1) = X.getD k Rc.zero := by
        simp only [floorRecTo]
        rw [if_pos]
        refine ⟨h4.1, ?_⟩
        rw [floorRecTo_o, h4.2, ← hfl]; exact floorTo_mono X (by omega)
      have e2 : flP X (k + 1) = (k : Int) := by simp only [flP]; rw [if_pos h4]
      rw [e1, e2]
      constructor
      · intro h
        have := seq_inj hX (show i < X.length by omega) (show k < X.length by omega) (by rw [h])
        omega
      · intro h
        obtain rfl : k = i := by omega
        rfl
    · have e1 : floorRecTo X (k + 1) = floorRecTo X k ∧ floorTo X k = floorR X := by
        rw [floorTo_succ] at hfl
        simp only [floorRecTo]
        by_cases hc : (X.getD k Rc.zero).k = 4 ∧ floorTo X k ≤ (X.getD k Rc.zero).o
        · rw [if_pos hc] at hfl; exact absurd ⟨hc.1, hfl⟩ h4
        · rw [if_neg hc] at hfl
          rw [floorRecTo_o, if_neg hc]
          exact ⟨rfl, hfl⟩
      have e2 : flP X (k + 1) = flP X k := by simp only [flP]; rw [if_neg h4]
      rw [e1.1, e2]
      by_cases e : i = k
      · subst e
        constructor
        · intro h
          exfalso
          -- the floor's record lies ahead of i, or is the zero one
          have hz : ∀ m, m ≤ i → floorRecTo X m = Rc.zero ∨ ∃ j, j < m ∧ floorRecTo X m = X.getD j Rc.zero := by
            intro m
            induction m with
            | zero => intro _; exact .inl rfl
            | succ m ihm =>
              intro hm
              simp only [floorRecTo]
              split
              · exact .inr ⟨m, by omega, rfl⟩
              · rcases ihm (by omega) with h' | ⟨j, h1, h2⟩
                · exact .inl h'
                · exact .inr ⟨j, by omega, h2⟩
          rcases hz i (Nat.le_refl _) with h' | ⟨j, h1, h2⟩
          · have hok := (hRight_at hX (show i < X.length by omega)).1
            rw [h, h'] at hok
            exact absurd hok.1 (by decide)
          · have := seq_inj hX (show i < X.length by omega) (show j < X.length by omega) (by rw [h, h2])
            omega
        · intro h
          exfalso
          have hp : ∀ m, flP X m < (m : Int) := by
            intro m
            induction m with
            | zero => simp [flP]
            | succ m ihm => simp only [flP]; split <;> omega
          have := hp i
          omega
      · exact ih (by omega) i (by omega) e1.2
open Classical in
/-- place i is needed -/
noncomputable def nd (X : List Rc) (i : Nat) : Bool := decide (Mk X (tmsTo X (floorR X) X.length) i ∨ flP X X.length = (i : Int))
open Classical in
theorem nd_iff {X : List Rc} (hX : hRight X = true) {i : Nat} (hi : i < X.length) : nd X i = true ↔ (X.getD i Rc.zero = flR X ∨ Seen X (tmsTo X (floorR X) X.length) (X.getD i Rc.zero).q) := by
  unfold nd
  rw [decide_eq_true_eq, seen_iff hX _ hi, ← fl_iff hX X.length (Nat.le_refl _) i hi rfl]
  exact Or.comm
noncomputable def ndTo (X : List Rc) : Nat → List Int
  | 0 => []
  | k + 1 => if nd X k = true then ndTo X k ++ [(X.getD k Rc.zero).q] else ndTo X k
noncomputable def prTo (X : List Rc) : Nat → List Rc
  | 0 => []
  | k + 1 => if (nd X k || decide (k + 1 = X.length)) = true then prTo X k ++ [X.getD k Rc.zero] else prTo X k
noncomputable def neededOf (X : List Rc) : List Int := if hRight X = true then ndTo X X.length else []
noncomputable def pruneOf (X : List Rc) : List Rc := if hRight X = true then prTo X X.length else []
theorem ndTo_yes {X : List Rc} {k : Nat} (h : nd X k = true) : ndTo X (k + 1) = ndTo X k ++ [(X.getD k Rc.zero).q] := by simp only [ndTo]; rw [if_pos h]
theorem ndTo_no {X : List Rc} {k : Nat} (h : nd X k = false) : ndTo X (k + 1) = ndTo X k := by simp only [ndTo]; rw [if_neg (by rw [h]; simp)]
theorem prTo_yes {X : List Rc} {k : Nat} (h : (nd X k || decide (k + 1 = X.length)) = true) : prTo X (k + 1) = prTo X k ++ [X.getD k Rc.zero] := by simp only [prTo]; rw [if_pos h]
theorem prTo_no {X : List Rc} {k : Nat} (h : (nd X k || decide (k + 1 = X.length)) = false) : prTo X (k + 1) = prTo X k := by simp only [prTo]; rw [if_neg (by rw [h]; simp)]
theorem ndTo_len (X : List Rc) (k : Nat) : (ndTo X k).length ≤ k := by
  induction k with
  | zero => simp [ndTo]
  | succ k ih => simp only [ndTo]; split
                 · rw [List.length_append]; simp; omega
                 · omega
theorem prTo_len (X : List Rc) (k : Nat) : (prTo X k).length ≤ k := by
  induction k with
  | zero => simp [prTo]
  | succ k ih => simp only [prTo]; split
                 · rw [List.length_append]; simp; omega
                 · omega
theorem neededOf_len (X : List Rc) : (neededOf X).length ≤ X.length := by
  unfold neededOf
  split
  · exact ndTo_len _ _
  · simp
theorem pruneOf_len (X : List Rc) : (pruneOf X).length ≤ X.length := by
  unfold pruneOf
  split
  · exact prTo_len _ _
  · simp
theorem neededOf_no {X : List Rc} (h : ¬ hRight X = true) : neededOf X = [] := by unfold neededOf; rw [if_neg h]
theorem neededOf_yes {X : List Rc} (h : hRight X = true) : neededOf X = ndTo X X.length := by unfold neededOf; rw [if_pos h]
theorem pruneOf_no {X : List Rc} (h : ¬ hRight X = true) : pruneOf X = [] := by unfold pruneOf; rw [if_neg h]
theorem pruneOf_yes {X : List Rc} (h : hRight X = true) : pruneOf X = prTo X X.length := by unfold pruneOf; rw [if_pos h]
end Go.Proofs.YtloaeglmngcenaaGreatDoor

namespace Go.Proofs.YtloaeglmngcenaaGreatDoor
open Bt (Rc)

/-- a record in its place, if its Seq is not there: the model's -/
def put : List Rc → Rc → List Rc
  | [], r => [r]
  | a :: l, r => if a.q < r.q then a :: put l r else if a.q = r.q then a :: l else r :: a :: l
def mnt (R : List (Int × Rc)) : List Rc := R.foldl (fun l x => put l x.2) []
theorem mnt_snoc (R : List (Int × Rc)) (x : Int × Rc) : mnt (R ++ [x]) = put (mnt R) x.2 := by simp [mnt]
/-- the first record of each Seq, in the order in which they come: the program's -/
def fstStep (l : List Rc) (x : Int × Rc) : List Rc := if ∀ a ∈ l, a.q ≠ x.2.q then l ++ [x.2] else l
def fsts (R : List (Int × Rc)) : List Rc := R.foldl fstStep []
theorem fsts_snoc (R : List (Int × Rc)) (x : Int × Rc) : fsts (R ++ [x]) = fstStep (fsts R) x := by simp [fsts]

abbrev Inc (l : List Rc) : Prop := l.Pairwise (fun a b => a.q < b.q)
theorem mem_put {l : List Rc} {r : Rc} (h : Inc l) (x : Rc) : x ∈ put l r ↔ x ∈ l ∨ (x = r ∧ ∀ a ∈ l, a.q ≠ r.q) := by
  induction l with
  | nil => simp [put]
  | cons a l ih =>
    have hp := List.pairwise_cons.1 h
    unfold put
    split
    · rename_i h1
      rw [List.mem_cons, ih hp.2, List.mem_cons]
      constructor
      · rintro (rfl | h2 | ⟨rfl, h2⟩)
        · exact .inl (.inl rfl)
        · exact .inl (.inr h2)
        · exact .inr ⟨rfl, fun b hb => (List.mem_cons.1 hb).elim (fun e => by rw [e]; omega) (h2 b)⟩
      · rintro ((rfl | h2) | ⟨rfl, h2⟩)
        · exact .inl rfl
        · exact .inr (.inl h2)
        · exact .inr (.inr ⟨rfl, fun b hb => h2 b (List.mem_cons_of_mem _ hb)⟩)
    · split
      · rename_i h1 h2
        constructor
        · exact fun h3 => .inl h3
        · rintro (h3 | ⟨-, h3⟩)
          · exact h3
          · exact absurd h2 (h3 a (by simp))
      · rename_i h1 h2
        rw [List.mem_cons]
        constructor
        · rintro (rfl | h3)
          · refine .inr ⟨rfl, fun b hb => ?_⟩
            rcases List.mem_cons.1 hb with rfl | hb
            · exact h2
            · have := hp.1 b hb; omega
          · exact .inl h3
        · rintro (h3 | ⟨h3, -⟩)
          · exact .inr h3
          · exact .inl h3
theorem put_inc {l : List Rc} {r : Rc} (h : Inc l) : Inc (put l r) := by
  induction l with
  | nil => simp [put, Inc]
  | cons a l ih =>
    have hp := List.pairwise_cons.1 h
    unfold put
    split
    · rename_i h1
      refine List.pairwise_cons.2 ⟨fun b hb => ?_, ih hp.2⟩
      rcases (mem_put hp.2 b).1 hb with hb | ⟨rfl, -⟩
      · exact hp.1 b hb
      · exact h1
    · split
      · exact h
      · rename_i h1 h2
        refine List.pairwise_cons.2 ⟨fun b hb => ?_, h⟩
        rcases List.mem_cons.1 hb with rfl | hb
        · omega
        · have := hp.1 b hb; omega
/-- induction from the end -/
theorem snoc_ind {α : Type} {P : List α → Prop} (h0 : P []) (h1 : ∀ l x, P l → P (l ++ [x])) (l : List α) : P l := by
  rw [← List.reverse_reverse l]
  induction l.reverse with
  | nil => exact h0
  | cons x l ih => rw [List.reverse_cons]; exact h1 _ _ ih
theorem mnt_inc (R : List (Int × Rc)) : Inc (mnt R) := by
  induction R using snoc_ind with
  | h0 => simp [mnt, Inc]
  | h1 R x ih => rw [mnt_snoc]; exact put_inc ih
theorem mem_fstStep (l : List Rc) (x : Int × Rc) (y : Rc) : y ∈ fstStep l x ↔ y ∈ l ∨ (y = x.2 ∧ ∀ a ∈ l, a.q ≠ x.2.q) := by
  unfold fstStep
  split
  · rename_i h; rw [List.mem_append, List.mem_singleton]; exact ⟨fun h1 => h1.imp id (fun e => ⟨e, h⟩), fun h1 => h1.imp id (·.1)⟩
  · rename_i h; exact ⟨.inl, fun h1 => h1.elim id (fun h2 => absurd h2.2 h)⟩
theorem mem_mnt (R : List (Int × Rc)) : ∀ y, y ∈ mnt R ↔ y ∈ fsts R := by
  induction R using snoc_ind with
  | h0 => simp [mnt, fsts]
  | h1 R x ih =>
    intro y
    rw [mnt_snoc, fsts_snoc, mem_put (mnt_inc R), mem_fstStep, ih y]
    exact ⟨fun h => h.imp id (fun h => ⟨h.1, fun a ha => h.2 a ((ih a).2 ha)⟩), fun h => h.imp id (fun h => ⟨h.1, fun a ha => h.2 a ((ih a).1 ha)⟩)⟩
theorem fsts_apart (R : List (Int × Rc)) : (fsts R).Pairwise (fun a b => a.q ≠ b.q) := by
  induction R using snoc_ind with
  | h0 => simp [fsts]
  | h1 R x ih =>
    rw [fsts_snoc]
    unfold fstStep
    split
    · rename_i h
      refine List.pairwise_append.2 ⟨ih, by simp, fun a ha b hb => ?_⟩
      rw [List.mem_singleton] at hb; subst hb
      exact h a ha
    · exact ih
theorem inc_ext : ∀ {l m : List Rc}, Inc l → Inc m → (∀ x, x ∈ l ↔ x ∈ m) → l = m
  | [], [], _, _, _ => rfl
  | [], b :: m, _, _, h => by have := (h b).2 (by simp); cases this
  | a :: l, [], _, _, h => by have := (h a).1 (by simp); cases this
  | a :: l, b :: m, hl, hm, h => by
    have pl := List.pairwise_cons.1 hl; have pm := List.pairwise_cons.1 hm
    have hab : a = b := by
      rcases List.mem_cons.1 ((h a).1 (by simp)) with e | h1
      · exact e
      · rcases List.mem_cons.1 ((h b).2 (by simp)) with e | h2
        · exact e.symm
        · have := pm.1 a h1; have := pl.1 b h2; omega
    subst hab
    refine congrArg _ (inc_ext pl.2 pm.2 (fun x => ?_))
    constructor
    · intro hx
      rcases List.mem_cons.1 ((h x).1 (List.mem_cons_of_mem _ hx)) with e | h1
      · subst e; have := pl.1 x hx; omega
      · exact h1
    · intro hx
      rcases List.mem_cons.1 ((h x).2 (List.mem_cons_of_mem _ hx)) with e | h1
      · subst e; have := pm.1 x hx; omega
      · exact h1
/-- **What the program sorts is what the model has put in order.** -/
theorem sorted_mnt {R : List (Int × Rc)} {l : List Rc} (hp : l.Perm (fsts R)) (hs : l.Pairwise (fun a b => a.q ≤ b.q)) : l = mnt R := by
  have ha : l.Pairwise (fun a b => a.q ≠ b.q) := (hp.pairwise_iff (fun {_ _} h => Ne.symm h)).2 (fsts_apart R)
  refine inc_ext ?_ (mnt_inc R) (fun x => (hp.mem_iff).trans (mem_mnt R x).symm)
  exact (hs.and ha).imp (fun h => by have := h.1; have := h.2; omega)
/-- how long it is -/
theorem put_len (l : List Rc) (r : Rc) : (put l r).length ≤ l.length + 1 := by
  induction l with
  | nil => simp [put]
  | cons a l ih => unfold put; split <;> (try split) <;> simp <;> omega
theorem mnt_len (R : List (Int × Rc)) : (mnt R).length ≤ R.length := by
  induction R using snoc_ind with
  | h0 => simp [mnt]
  | h1 R x ih => rw [mnt_snoc, List.length_append]; have := put_len (mnt R) x.2; simp; omega
theorem mnt_mem {R : List (Int × Rc)} {y : Rc} (h : y ∈ mnt R) : ∃ x ∈ R, x.2 = y := by
  rw [mem_mnt] at h
  induction R using snoc_ind with
  | h0 => simp [fsts] at h
  | h1 R x ih =>
    rw [fsts_snoc, mem_fstStep] at h
    rcases h with h | ⟨rfl, -⟩
    · obtain ⟨z, hz, e⟩ := ih h; exact ⟨z, List.mem_append_left _ hz, e⟩
    · exact ⟨x, by simp, rfl⟩
end Go.Proofs.YtloaeglmngcenaaGreatDoor

namespace Go.Proofs.YtloaeglmngcenaaGreatDoor
open Go.RowKit
open Bt (Rc)

/-- a record's place: behind those that are less -/
theorem put_at (r : Rc) : ∀ (Y : List Rc) (k : Nat), k ≤ Y.length → (∀ j, j < k → (Y.getD j Rc.zero).q < r.q) → (k < Y.length → r.q ≤ (Y.getD k Rc.zero).q) →
    put Y r = if k < Y.length ∧ (Y.getD k Rc.zero).q = r.q then Y else Y.take k ++ r :: Y.drop k
  | [], k, hk, _, _ => by
    obtain rfl : k = 0 := by simpa using hk
    rfl
  | a :: l, 0, _, _, hge => by
    have h := hge (by simp)
    simp only [List.getD_cons_zero] at h
    unfold put
    rw [if_neg (by omega)]
    by_cases e : a.q = r.q
    · rw [if_pos e, if_pos ⟨by simp, by simpa using e⟩]
    · rw [if_neg e, if_neg (fun h => e (by simpa using h.2))]; rfl
  | a :: l, k + 1, hk, hlt, hge => by
    have h0 : a.q < r.q := by simpa using hlt 0 (by omega)
    have ih := put_at r l k (by simpa using hk) (fun j hj => by simpa using hlt (j + 1) (by omega)) (fun h => by simpa using hge (by simpa using h))
    unfold put
    rw [if_pos h0, ih]
    by_cases e : k < l.length ∧ (l.getD k Rc.zero).q = r.q
    · rw [if_pos e, if_pos ⟨by simpa using e.1, by simpa using e.2⟩]
    · rw [if_neg e, if_neg (fun h => e ⟨by simpa using h.1, by simpa using h.2⟩)]; rfl
theorem rcA_take (Y : List Rc) (k : Nat) : rcA (Y.take k) = (rcA Y).take (k * 6) := by
  induction Y generalizing k with
  | nil => simp [rcA]
  | cons a l ih =>
    cases k with
    | zero => simp [rcA]
    | succ k =>
      have h6 : (recC a).length = 6 := rfl
      rw [List.take_succ_cons]
      show recC a ++ rcA (l.take k) = List.take _ (recC a ++ rcA l)
      rw [ih, List.take_append, h6, show (k + 1) * 6 - 6 = k * 6 by omega, List.take_of_length_le (l := recC a) (by omega)]
theorem rcA_drop (Y : List Rc) (k : Nat) : rcA (Y.drop k) = (rcA Y).drop (k * 6) := by
  induction Y generalizing k with
  | nil => simp [rcA]
  | cons a l ih =>
    cases k with
    | zero => simp
    | succ k =>
      have h6 : (recC a).length = 6 := rfl
      rw [List.drop_succ_cons]
      show rcA (l.drop k) = List.drop _ (recC a ++ rcA l)
      rw [ih, List.drop_append, h6, show (k + 1) * 6 - 6 = k * 6 by omega, List.drop_of_length_le (l := recC a) (by omega)]; rfl
theorem rcA_one (Y : List Rc) : ∀ u ∈ rcA Y, u.oneCell' = true := fun u hu => by
  obtain ⟨p, -, hp⟩ := List.mem_flatMap.1 hu
  exact recC_one p u hp
theorem info_recP : (Tryz.prog.info? 34).map (fun i => (i.zero, i.size, i.bytes)) = some (some (recV Rc.zero), 6, 56) := by kernel_rfl

theorem bel_dN {B : Nat} {w a : World} (h : Below B w a) (n : Nat) : Below B w (a.drewN n) := ⟨h.os, h.tape, h.output, h.size, h.block⟩
theorem blk_dN {w : World} {g : Nat} {e : TypeId} {cs : List Value} (h : IsBlk w g e cs) (n : Nat) : IsBlk (w.drewN n) g e cs := h
theorem own_empty {w : World} {base : Nat} {e : TypeId} {k : Nat} (hb : base ≤ w.heap.size) : (w.alloc (.cells #[] e)).ownsRow base e k (.slice (some ⟨w.heap.size, 0, none⟩) 0 0) 0 [] :=
  ⟨by simp, .inr ⟨w.heap.size, 0, #[], rfl, hb, isBlk_new w e [], Nat.le_refl _, by simp [maxLen], by simp, by simp⟩⟩
theorem rcA_put (Y : List Rc) (r : Rc) (k : Nat) : rcA (Y.take k ++ r :: Y.drop k) = [] ++ rcA (Y.take k) ++ recC r ++ rcA (Y.drop k) := by simp [rcA]
theorem own_monoR {w : World} {lo lo' n k : Nat} {e : TypeId} {v : Value} {xs : List Value} (h : w.ownsRow lo e k v n xs) (hl : lo' ≤ lo) : w.ownsRow lo' e k v n xs := by
  refine ⟨h.1, ?_⟩
  rcases h.2 with h1 | ⟨g, cap, cur, h1, h2, h3⟩
  · exact .inl h1
  · exact .inr ⟨g, cap, cur, h1, by omega, h3⟩

set_option maxHeartbeats 4000000 in
set_option maxRecDepth 100000 in
/-- at no record: the record alone -/
theorem l05Put_nil (base : Nat) (r : Rc) (w : World) (hb : base ≤ w.heap.size) :
    Calls Tryz.prog 159 #[.slice none 0 0, recV r] w fun e w' => ∃ v', e = .returned v' ∧ w'.ownsRow base 34 6 v' 1 (rcA [r]) ∧ Below w.heap.size w w' := by
  obtain ⟨i0, hi0, hiv⟩ := Option.map_eq_some_iff.1 info_recP
  have Hi := Lib.hid hi0; have Z0 := Lib.hid (congrArg (·.1) hiv); have Z1 := Lib.hid (congrArg (·.2.1) hiv); have Z2 := Lib.hid (congrArg (·.2.2) hiv)
  clear hi0 hiv
  go_enter Tryz.func159, Tryz.ntmps159
  go_wp2
  have hb0 : Below w.heap.size w (w.alloc (.cells (recC r).toArray 34)) := (Below.refl _ _).alloc (Nat.le_refl _) _
  have k0 := isBlk_new w 34 (recC r)
  change Code.wp _ _ _ _ (w.alloc (.cells (recC r).toArray 34))
  generalize w.alloc (.cells (recC r).toArray 34) = W at hb0 k0 ⊢
  have HB0 := Lib.hid hb0; have HK0 := Lib.hid k0
  obtain ⟨r0, r1, r2, r3, r4, r5⟩ := rcCells k0
  clear hb0 k0
  refine wp_loop_rounds 1 ?_
  rw [rounds_succ]
  go_wp2
  go_quiet (fail)
  go_wp2
  go_quiet (fail)
  generalize hWd : (W.drewN _).drewN _ = Wd
  have HBd : Hid (Below w.heap.size w Wd) := by show Below _ _ _; rw [← hWd]; exact bel_dN (bel_dN HB0.out _) _
  have HKd : Hid (IsBlk Wd w.heap.size 34 (recC r)) := by show IsBlk _ _ _ _; rw [← hWd]; exact HK0.out
  have hsd : base ≤ Wd.heap.size := Nat.le_trans hb HBd.out.size
  clear hWd r0 r1 r2 r3 r4 r5 HK0
  obtain ⟨r0, r1, r2, r3, r4, r5⟩ := rcCells HKd.out
  have HE := Lib.hid (own_empty (w := Wd) (base := Wd.heap.size) (e := 34) (k := 6) (Nat.le_refl _))
  have hwd : w.heap.size < Wd.heap.size := HKd.out.lt
  have HBe := Lib.hid (HBd.out.alloc HBd.out.size (.cells #[] 34))
  have hse : Wd.heap.size < (Wd.alloc (.cells #[] 34)).heap.size := by simp
  have HRe : Hid (IsBlk ((Wd.alloc (.cells #[] 34)).alloc (.cells (recC r).toArray 34)) (Wd.heap.size + 1) 34 (recC r)) := by
    have h := isBlk_new (Wd.alloc (.cells #[] 34)) 34 (recC r)
    rw [size_alloc] at h; exact h
  have HBf := Lib.hid (HBe.out.alloc HBe.out.size (.cells (recC r).toArray 34))
  have HEf := Lib.hid (HE.out.alloc (.cells (recC r).toArray 34))
  go_wp2_with (first
    | (at_builtin; refine wpList_append_own_none rfl _ _ 27 rfl Wd.heap.size 34 i0 6 Tryz.underlying27 Hi.out _ 0 [] rfl HE.out rfl ?_)
    | (at_builtin; refine wpList_append_own_at _ rfl _ _ 27 rfl Wd.heap.size 34 i0 (recV Rc.zero) 6 56 Tryz.underlying27 Hi.out Z0.out Z1.out Z2.out rfl (by decide) _ 0 [] rfl HEf.out ⟨Wd.heap.size + 1, 0, none⟩ 1 1 (recC r) rfl rfl (fun j u hj => by rw [add_off, Nat.zero_add]; exact HRe.out.cell hj) (recC_one r) (by unfold maxLen; omega) (by omega) (by simp; omega) ?_; intro v5 w5 ho5 hg5 _ _; have HO5 := Lib.hid ho5; have HB5 := Lib.hid (HBf.out.grown hg5 HBf.out.size (fun k hk => Nat.le_trans HBd.out.size (own_block_ltR HEf.out hk).1)); clear ho5 hg5)
    | (at_builtin; refine wpList_append_own_none rfl _ _ 27 rfl Wd.heap.size 34 i0 6 Tryz.underlying27 Hi.out _ _ _ rfl HO5.out rfl ?_))
  go_ret
  exact ⟨v5, rfl, own_monoR (by simpa [rcA] using HO5.out) hsd, HB5.out⟩

set_option maxHeartbeats 8000000 in
set_option maxRecDepth 100000 in
/-- at some records: they lie in a block of the call's -/
theorem l05Put_some (base g cap : Nat) (Y : List Rc) (r : Rc) (w : World) (hb : base ≤ w.heap.size) (hY : Y.length ≤ 96) (hrow : w.ownsRow base 34 6 (.slice (some ⟨g, 0, none⟩) Y.length cap) Y.length (rcA Y)) :
    Calls Tryz.prog 159 #[.slice (some ⟨g, 0, none⟩) Y.length cap, recV r] w fun e w' => ∃ v', e = .returned v' ∧ w'.ownsRow base 34 6 v' (put Y r).length (rcA (put Y r)) ∧ Below w.heap.size w w' := by
  obtain ⟨i0, hi0, hiv⟩ := Option.map_eq_some_iff.1 info_recP
  have Hi := Lib.hid hi0; have Z0 := Lib.hid (congrArg (·.1) hiv); have Z1 := Lib.hid (congrArg (·.2.1) hiv); have Z2 := Lib.hid (congrArg (·.2.2) hiv)
  clear hi0 hiv
  have hR : ∀ j, j < Y.length * 6 → w.cell? ⟨g, j, none⟩ = some (rcF Y j) := fun j hj => (row_of_ownR hrow (rcA_at Y)).cell hj
  have hgl : g < w.heap.size := (row_of_ownR hrow (rcA_at Y)).lt
  have hcap : Y.length ≤ cap := by
    rcases hrow.2 with ⟨h1, -⟩ | ⟨_, _, _, h1, -, -, h4, -⟩
    · cases h1
    · simp only [Value.slice.injEq] at h1; omega
  have HROW := Lib.hid hrow; have HR := Lib.hid hR
  clear hrow hR
  go_enter Tryz.func159, Tryz.ntmps159
  go_wp2
  have hb0 : Below w.heap.size w (w.alloc (.cells (recC r).toArray 34)) := (Below.refl _ _).alloc (Nat.le_refl _) _
  have k0 := isBlk_new w 34 (recC r)
  change Code.wp _ _ _ _ (w.alloc (.cells (recC r).toArray 34))
  generalize w.alloc (.cells (recC r).toArray 34) = W at hb0 k0 ⊢
  have HB0 := Lib.hid hb0; have HK0 := Lib.hid k0
  obtain ⟨m, hm⟩ : ∃ m, m = Y.length := ⟨_, rfl⟩
  have HM := Lib.hid hm
  rw [← hm] at hcap ⊢
  have hm48 : m ≤ 96 := by omega
  clear hb0 k0 hm
  go_loopw [5] (fun kv wr => ∃ k : Nat, k ≤ m ∧ kv = .int .i64 (k : Nat) ∧ (∀ j, j < k → (Y.getD j Rc.zero).q < r.q) ∧ Below W.heap.size W wr) (fun kv _ => m - (intOf kv).toNat)
  case atStart => exact ⟨0, by omega, rfl, fun j h => absurd h (by omega), Below.refl _ _⟩
  case round =>
    obtain ⟨k, hk, rfl, hlt, hbel⟩ := hrel
    have HLT := Lib.hid hlt
    have HBw := Lib.hid (HB0.out.trans (hbel.mono HB0.out.size))
    have HKw := Lib.hid (HK0.out.below hbel HK0.out.lt)
    have hq : wr.cell? ⟨w.heap.size, 2, none⟩ = some (.int .i64 r.q) := HKw.out.cell rfl
    have HBel := Lib.hid hbel
    clear hlt hbel
    by_cases hkm : k < m
    · have hc : wr.cell? ⟨g, k * 6 + 2, none⟩ = some (.int .i64 (Y.getD k Rc.zero).q) := by
        rw [HBw.out.cell (p := ⟨g, k * 6 + 2, none⟩) hgl, HR.out (k * 6 + 2) (by have := HM.out; omega), rcF_2]
      have hk0 : (0 : Int) ≤ (k : Int) := by omega
      have hkn : (k : Int) < (m : Int) := by omega
      have HLT' : Hid ((Y.getD k Rc.zero).q < r.q → ∀ j, j < k + 1 → (Y.getD j Rc.zero).q < r.q) := fun h j hj => by
        rcases Nat.lt_or_ge j k with h1 | h1
        · exact HLT.out j h1
        · obtain rfl : j = k := by omega
          exact h
      have HPUT : Hid (r.q ≤ (Y.getD k Rc.zero).q → put Y r = if (Y.getD k Rc.zero).q = r.q then Y else Y.take k ++ r :: Y.drop k) := fun h => by
        have h1 := put_at r Y k (by have := HM.out; omega) HLT.out (fun _ => h)
        rw [h1]
        by_cases e : (Y.getD k Rc.zero).q = r.q
        · rw [if_pos ⟨by have := HM.out; omega, e⟩, if_pos e]
        · rw [if_neg (fun x => e x.2), if_neg e]
      generalize (Y.getD k Rc.zero).q = yq at hc HLT' HPUT
      by_cases hyq : yq < r.q
      · have HL' := Lib.hid (HLT'.out hyq)
        clear HLT' HPUT
        go_wp2
        go_quiet (fail)
        go_wp2
        go_roundw
        case rel => exact ⟨k + 1, by omega, by go_num, HL'.out, bel_dN HBel.out _⟩
        case measure => simp [intOf]; omega
      · have hyq' : r.q ≤ yq := by omega
        have HP' := Lib.hid (HPUT.out hyq')
        clear HLT' HPUT
        go_wp2
        go_quiet (fail)
        go_wp2
        by_cases heq : yq = r.q
        · have HP2 : Hid (put Y r = Y) := by show _ = _; rw [HP'.out, if_pos heq]
          have hbe : (yq == r.q) = true := by simpa using heq
          go_quiet (fail)
          go_wp2
          go_ret
          rw [HP2.out]
          refine ⟨_, rfl, by rw [HM.out]; exact own_belowR HROW.out (bel_dN (bel_dN HBw.out _) _), bel_dN (bel_dN HBw.out _) _⟩
        · have HP2 : Hid (put Y r = Y.take k ++ r :: Y.drop k) := by show _ = _; rw [HP'.out, if_neg heq]
          have hbe : (yq == r.q) = false := by simpa using heq
          go_quiet (fail)
          generalize hWd : (wr.drewN _).drewN _ = U
          have HBd : Hid (Below w.heap.size w U) := by show Below _ _ _; rw [← hWd]; exact bel_dN (bel_dN HBw.out _) _
          have HKd : Hid (IsBlk U w.heap.size 34 (recC r)) := by show IsBlk _ _ _ _; rw [← hWd]; exact HKw.out
          have hsd : base ≤ U.heap.size := Nat.le_trans hb HBd.out.size
          have hwd : w.heap.size < U.heap.size := HKd.out.lt
          clear hWd hc hq
          obtain ⟨r0, r1, r2, r3, r4, r5⟩ := rcCells HKd.out
          have HE := Lib.hid (own_empty (w := U) (base := U.heap.size) (e := 34) (k := 6) (Nat.le_refl _))
          have HBe := Lib.hid (HBd.out.alloc HBd.out.size (.cells #[] 34))
          have HNT : Hid (∀ W', Below w.heap.size w W' → ∀ j u, (rcA (Y.take k))[j]? = some u → W'.cell? ((⟨g, 0, none⟩ : Addr).add j) = some u) := fun W' hb' j u hj => by
            rw [rcA_take, List.getElem?_take] at hj
            split at hj
            · rename_i h1
              have h2 : j < Y.length * 6 := by have := HM.out; omega
              rw [rcA_at Y j h2] at hj
              rw [add_off, Nat.zero_add, hb'.cell (p := ⟨g, j, none⟩) hgl, HR.out j h2]
              exact hj
            · cases hj
          have HNDr : Hid (∀ W', Below w.heap.size w W' → ∀ j u, (rcA (Y.drop k))[j]? = some u → W'.cell? ((⟨g, k * 6, none⟩ : Addr).add j) = some u) := fun W' hb' j u hj => by
            rw [rcA_drop, List.getElem?_drop] at hj
            have h2 : k * 6 + j < Y.length * 6 := by rw [← rcA_len]; exact (List.getElem?_eq_some_iff.1 hj).1
            rw [rcA_at Y _ h2] at hj
            rw [add_off, hb'.cell (p := ⟨g, k * 6 + j, none⟩) hgl, HR.out _ h2]
            exact hj
          have HLT2 : Hid ((rcA (Y.take k)).length = k * 6) := by show _ = _; rw [rcA_len, List.length_take, Nat.min_eq_left (by have := HM.out; omega)]
          have HLD : Hid ((rcA (Y.drop k)).length = (m - k) * 6) := by show _ = _; rw [rcA_len, List.length_drop, HM.out]
          have hk1 : (0 : Int) ≤ (k : Int) := by omega
          have hk2 : (k : Int) ≤ (cap : Int) := by omega
          have hk3 : (k : Int) ≤ (m : Int) := by omega
          have hk4 : k ≤ cap := by omega
          go_wp2_with (first
            | (at_builtin; refine wpList_append_own_at _ rfl _ _ 27 rfl U.heap.size 34 i0 (recV Rc.zero) 6 56 Tryz.underlying27 Hi.out Z0.out Z1.out Z2.out rfl (by decide) _ 0 [] rfl HE.out ⟨g, 0, none⟩ k cap (rcA (Y.take k)) rfl HLT2.out (HNT.out _ HBe.out) (rcA_one _) (by unfold maxLen; omega) (by omega) (by simp) ?_; intro v5 w5 ho5 hg5 _ _; have hb5 := HBe.out.grown hg5 HBe.out.size (fun k hk => Nat.le_trans HBd.out.size (own_block_ltR HE.out hk).1); have HO5 := Lib.hid ho5; have HB5 := Lib.hid hb5; have k5 := (hg5.block w.heap.size (by simp; omega) (fun e => by have := (own_block_ltR HE.out e.symm).1; omega)).trans ((HKd.out.alloc (.cells #[] 34))); have hw5 : w.heap.size < w5.heap.size := IsBlk.lt k5; obtain ⟨s0, s1, s2, s3, s4, s5⟩ := rcCells k5; have HR5 := Lib.hid (isBlk_new w5 34 (recC r)); have HB6 := Lib.hid (hb5.alloc hb5.size (.cells (recC r).toArray 34)); have HO6 := Lib.hid (ho5.alloc (.cells (recC r).toArray 34)); have hs5 : U.heap.size ≤ w5.heap.size := Nat.le_trans (by simp) hg5.size; clear ho5 hg5 hb5 k5)
            | (at_builtin; refine wpList_append_own_at _ rfl _ _ 27 rfl U.heap.size 34 i0 (recV Rc.zero) 6 56 Tryz.underlying27 Hi.out Z0.out Z1.out Z2.out rfl (by decide) _ (0 + k) _ rfl HO6.out ⟨w5.heap.size, 0, none⟩ 1 1 (recC r) rfl rfl (fun j u hj => by rw [add_off, Nat.zero_add]; exact HR5.out.cell hj) (recC_one r) (by unfold maxLen; omega) (by omega) (Nat.le_trans hs5 (by simp)) ?_; intro v7 w7 ho7 hg7 _ _; have hb7 := HB6.out.grown hg7 HB6.out.size (fun k hk => Nat.le_trans HBd.out.size (own_block_ltR HO6.out hk).1); have hs7 : U.heap.size ≤ w7.heap.size := Nat.le_trans hs5 (Nat.le_trans (by simp) hg7.size); have HO7 := Lib.hid ho7; have HB7 := Lib.hid hb7; clear ho7 hg7 hb7)
            | (at_builtin; refine wpList_append_own_at _ rfl _ _ 27 rfl U.heap.size 34 i0 (recV Rc.zero) 6 56 Tryz.underlying27 Hi.out Z0.out Z1.out Z2.out rfl (by decide) _ (0 + k + 1) _ rfl HO7.out ⟨g, k * 6, none⟩ (m - k) (cap - k) (rcA (Y.drop k)) rfl HLD.out (HNDr.out _ HB7.out) (rcA_one _) (by unfold maxLen; omega) (by omega) hs7 ?_; intro v9 w9 ho9 hg9 _ _; have HO9 := Lib.hid ho9; have HB9 := Lib.hid (HB7.out.grown hg9 HB7.out.size (fun k hk => Nat.le_trans HBd.out.size (own_block_ltR HO7.out hk).1)); clear ho9 hg9))
          go_ret
          rw [HP2.out, rcA_put]
          exact ⟨v9, rfl, own_monoR (by rw [show (Y.take k ++ r :: Y.drop k).length = 0 + k + 1 + (m - k) by simp [← HM.out]; omega]; exact HO9.out) hsd, HB9.out⟩
    · obtain rfl : k = m := by omega
      have HP2 : Hid (put Y r = Y.take k ++ r :: Y.drop k) := by
        have h1 := put_at r Y k (by have := HM.out; omega) HLT.out (fun h => absurd h (by have := HM.out; omega))
        show _ = _
        rw [h1, if_neg (fun x => by have := HM.out; omega)]
      go_wp2
      go_quiet (fail)
      go_wp2
      go_quiet (fail)
      generalize hWd : (wr.drewN _).drewN _ = U
      have HBd : Hid (Below w.heap.size w U) := by show Below _ _ _; rw [← hWd]; exact bel_dN (bel_dN HBw.out _) _
      have HKd : Hid (IsBlk U w.heap.size 34 (recC r)) := by show IsBlk _ _ _ _; rw [← hWd]; exact HKw.out
      have hsd : base ≤ U.heap.size := Nat.le_trans hb HBd.out.size
      have hwd : w.heap.size < U.heap.size := HKd.out.lt
      clear hWd hq
      obtain ⟨r0, r1, r2, r3, r4, r5⟩ := rcCells HKd.out
      have HE := Lib.hid (own_empty (w := U) (base := U.heap.size) (e := 34) (k := 6) (Nat.le_refl _))
      have HBe := Lib.hid (HBd.out.alloc HBd.out.size (.cells #[] 34))
      have HNT : Hid (∀ W', Below w.heap.size w W' → ∀ j u, (rcA (Y.take k))[j]? = some u → W'.cell? ((⟨g, 0, none⟩ : Addr).add j) = some u) := fun W' hb' j u hj => by
        rw [rcA_take, List.getElem?_take] at hj
        split at hj
        · rename_i h1
          have h2 : j < Y.length * 6 := by have := HM.out; omega
          rw [rcA_at Y j h2] at hj
          rw [add_off, Nat.zero_add, hb'.cell (p := ⟨g, j, none⟩) hgl, HR.out j h2]
          exact hj
        · cases hj
      have HLT2 : Hid ((rcA (Y.take k)).length = k * 6) := by show _ = _; rw [rcA_len, List.length_take, Nat.min_eq_left (by have := HM.out; omega)]
      have HIF : Hid ((if cap = k then some (⟨g, 0, none⟩ : Addr) else some ⟨g, k * 6, none⟩) = some (if cap = k then (⟨g, 0, none⟩ : Addr) else ⟨g, k * 6, none⟩)) := by show _ = _; split <;> rfl
      have HDR : Hid (Y.drop k = []) := List.drop_of_length_le (by have := HM.out; omega)
      have hk1 : (0 : Int) ≤ (k : Int) := by omega
      have hk2 : (k : Int) ≤ (cap : Int) := by omega
      have hk3 : (k : Int) ≤ (k : Int) := by omega
      have hk4 : k ≤ cap := by omega
      go_wp2_with (first
        | (at_builtin; refine wpList_append_own_at _ rfl _ _ 27 rfl U.heap.size 34 i0 (recV Rc.zero) 6 56 Tryz.underlying27 Hi.out Z0.out Z1.out Z2.out rfl (by decide) _ 0 [] rfl HE.out ⟨g, 0, none⟩ k cap (rcA (Y.take k)) rfl HLT2.out (HNT.out _ HBe.out) (rcA_one _) (by unfold maxLen; omega) (by omega) (by simp) ?_; intro v5 w5 ho5 hg5 _ _; have hb5 := HBe.out.grown hg5 HBe.out.size (fun k hk => Nat.le_trans HBd.out.size (own_block_ltR HE.out hk).1); have HO5 := Lib.hid ho5; have HB5 := Lib.hid hb5; have k5 := (hg5.block w.heap.size (by simp; omega) (fun e => by have := (own_block_ltR HE.out e.symm).1; omega)).trans ((HKd.out.alloc (.cells #[] 34))); have hw5 : w.heap.size < w5.heap.size := IsBlk.lt k5; obtain ⟨s0, s1, s2, s3, s4, s5⟩ := rcCells k5; have HR5 := Lib.hid (isBlk_new w5 34 (recC r)); have HB6 := Lib.hid (hb5.alloc hb5.size (.cells (recC r).toArray 34)); have HO6 := Lib.hid (ho5.alloc (.cells (recC r).toArray 34)); have hs5 : U.heap.size ≤ w5.heap.size := Nat.le_trans (by simp) hg5.size; clear ho5 hg5 hb5 k5)
        | (at_builtin; refine wpList_append_own_at _ rfl _ _ 27 rfl U.heap.size 34 i0 (recV Rc.zero) 6 56 Tryz.underlying27 Hi.out Z0.out Z1.out Z2.out rfl (by decide) _ (0 + k) _ rfl HO6.out ⟨w5.heap.size, 0, none⟩ 1 1 (recC r) rfl rfl (fun j u hj => by rw [add_off, Nat.zero_add]; exact HR5.out.cell hj) (recC_one r) (by unfold maxLen; omega) (by omega) (Nat.le_trans hs5 (by simp)) ?_; intro v7 w7 ho7 hg7 _ _; have hb7 := HB6.out.grown hg7 HB6.out.size (fun k hk => Nat.le_trans HBd.out.size (own_block_ltR HO6.out hk).1); have hs7 : U.heap.size ≤ w7.heap.size := Nat.le_trans hs5 (Nat.le_trans (by simp) hg7.size); have HO7 := Lib.hid ho7; have HB7 := Lib.hid hb7; clear ho7 hg7 hb7)
        | (at_builtin; refine wpList_append_own_at _ rfl _ _ 27 rfl U.heap.size 34 i0 (recV Rc.zero) 6 56 Tryz.underlying27 Hi.out Z0.out Z1.out Z2.out rfl (by decide) _ (0 + k + 1) _ rfl HO7.out (if cap = k then ⟨g, 0, none⟩ else ⟨g, k * 6, none⟩) 0 (cap - k) [] (congrArg (fun p => Value.slice p 0 (cap - k)) HIF.out) rfl (fun j u hj => by simp at hj) (fun u hu => by cases hu) (by unfold maxLen; omega) (by omega) hs7 ?_; intro v9 w9 ho9 hg9 _ _; have HO9 := Lib.hid ho9; have HB9 := Lib.hid (HB7.out.grown hg9 HB7.out.size (fun k hk => Nat.le_trans HBd.out.size (own_block_ltR HO7.out hk).1)); clear ho9 hg9))
      all_goals
        go_ret
        rw [HP2.out, rcA_put, HDR.out]
        exact ⟨v9, rfl, own_monoR (by rw [show (Y.take k ++ [r]).length = 0 + k + 1 + 0 by simp [← HM.out]]; simpa [rcA] using HO9.out) hsd, HB9.out⟩
end Go.Proofs.YtloaeglmngcenaaGreatDoor

namespace Go.Proofs.YtloaeglmngcenaaGreatDoor
open Go.RowKit Go.Shelf
open Bt (Rc)
attribute [local go_sem] Oper.semAt_some

/-- the record of a page, if it is one -/
def pgRec (i k : Nat) (p : Pg) : List (Int × Rc) := if (Bt.recRead p.data).2 = 0 then [(4 * (i : Int) + (k : Int), (Bt.recRead p.data).1)] else []
def pgsRecs (i : Nat) (X : List Pg) : Nat → List (Int × Rc)
  | 0 => []
  | k + 1 => pgsRecs i X k ++ pgRec i k (X.getD k zeroPg)
/-- the records of the first blocks, in order of block and page -/
def recsTo (X : List Bk) : Nat → List (Int × Rc)
  | 0 => []
  | i + 1 => recsTo X i ++ pgsRecs i (X.getD i zeroBk).pages (uPre (X.getD i zeroBk).pages)
theorem pgRec_len (i k : Nat) (p : Pg) : (pgRec i k p).length ≤ 1 := by unfold pgRec; split <;> simp
theorem pgRec_yes {i k : Nat} {p : Pg} (h : (Bt.recRead p.data).2 = 0) : pgRec i k p = [(4 * (i : Int) + (k : Int), (Bt.recRead p.data).1)] := by unfold pgRec; rw [if_pos h]
theorem pgRec_no {i k : Nat} {p : Pg} (h : (Bt.recRead p.data).2 ≠ 0) : pgRec i k p = [] := by unfold pgRec; rw [if_neg h]
theorem pgsRecs_len (i : Nat) (X : List Pg) : ∀ k, (pgsRecs i X k).length ≤ k
  | 0 => by simp [pgsRecs]
  | k + 1 => by have := pgsRecs_len i X k; have := pgRec_len i k (X.getD k zeroPg); simp only [pgsRecs, List.length_append]; omega
theorem recsTo_len {X : List Bk} (h : NdOk X) : ∀ i, i ≤ X.length → (recsTo X i).length ≤ 4 * i
  | 0, _ => by simp [recsTo]
  | i + 1, hi => by
    have h1 := recsTo_len h i (by omega)
    have h2 := pgsRecs_len i (X.getD i zeroBk).pages (uPre (X.getD i zeroBk).pages)
    have h3 := uPre_le (X.getD i zeroBk).pages
    have h4 := (h.2 i (by omega)).1
    simp only [recsTo, List.length_append]
    omega

theorem recRead_ok' {t : ByteArray} (h : (Bt.recRead t).2 = 0) : (Bt.recRead t).1.Ok := by
  unfold Bt.recRead at h ⊢
  split
  · rename_i h1; rw [if_pos h1] at h; exact absurd h h1
  · rename_i h1
    rw [if_neg h1] at h
    split
    · rename_i h2; exact h2.2.2
    · rename_i h2; rw [if_neg h2] at h; simp at h
/-- a place and a record that can be -/
def Good (x : Int × Rc) : Prop := (0 ≤ x.1 ∧ x.1 < 48) ∧ x.2.Ok
instance (x : Int × Rc) : Decidable (Good x) := by unfold Good; infer_instance
def nz (x : Int × Rc) : Int × Rc := if Good x then x else (0, Rc.zero)
theorem nz_good {x : Int × Rc} (h : Good x) : nz x = x := by unfold nz; rw [if_pos h]
theorem nz_bounds (x : Int × Rc) : (0 ≤ (nz x).1 ∧ (nz x).1 < 48) ∧ 0 ≤ (nz x).2.q ∧ (nz x).2.q ≤ 1000000 := by
  unfold nz
  split
  · rename_i h; exact ⟨h.1, by have := h.2.2.2.2.2.1; omega, h.2.2.2.2.2.2.1⟩
  · simp [Rc.zero]
theorem pgsRecs_good {i : Nat} (hi : i < 12) (X : List Pg) : ∀ k, k ≤ 4 → ∀ x ∈ pgsRecs i X k, Good x
  | 0, _ => by simp [pgsRecs]
  | k + 1, hk => by
    intro x hx
    rw [pgsRecs, List.mem_append] at hx
    rcases hx with hx | hx
    · exact pgsRecs_good hi X k (by omega) x hx
    · by_cases h : (Bt.recRead (X.getD k zeroPg).data).2 = 0
      · rw [pgRec_yes h, List.mem_singleton] at hx
        subst hx
        exact ⟨⟨by simp only; omega, by simp only; omega⟩, recRead_ok' h⟩
      · rw [pgRec_no h] at hx; cases hx
theorem recsTo_good {X : List Bk} (h : NdOk X) : ∀ i, i ≤ X.length → ∀ x ∈ recsTo X i, Good x
  | 0, _ => by simp [recsTo]
  | i + 1, hi => by
    intro x hx
    rw [recsTo, List.mem_append] at hx
    rcases hx with hx | hx
    · exact recsTo_good h i (by omega) x hx
    · exact pgsRecs_good (by have := h.1.2; omega) _ _ (Nat.le_trans (uPre_le _) (by rw [(h.2 i (by omega)).1]; omega)) x hx
theorem map_nz {R : List (Int × Rc)} (h : ∀ x ∈ R, Good x) : R.map nz = R := by
  induction R with
  | nil => rfl
  | cons x R ih => rw [List.map_cons, nz_good (h x (by simp)), ih (fun y hy => h y (by simp [hy]))]

/-- what a round of the body keeps: old memory below n₀, the block b, and arrays of pages -/
def KpR (n₀ b : Nat) (W W' : World) : Prop := Below n₀ W W' ∧ W'.heap[b]? = W.heap[b]? ∧ ∀ (j : Nat) (c : Array Value) (r : Nat × Nat), W.heap[j]? = some (.cells c 212 r) → W'.heap[j]? = W.heap[j]?
theorem KpR.t {n₀ b : Nat} {A B C : World} (h : KpR n₀ b A B) (k : KpR n₀ b B C) : KpR n₀ b A C :=
  ⟨h.1.trans k.1, k.2.1.trans h.2.1, fun j c r hj => (k.2.2 j c r ((h.2.2 j c r hj).trans hj)).trans (h.2.2 j c r hj)⟩
theorem KpR.b {n₀ b : Nat} {w : World} (hn : n₀ ≤ w.heap.size) (hb : b < w.heap.size) (W : World) (l : Nat) (o o' : Obj) (hl : w.heap.size ≤ l) (h : W.heap[l]? = some o) (h1 : o.isCells = false) (h2 : o.isWalk = false) : KpR n₀ b W (W.putObj l o') :=
  ⟨belowK_b hn W l o o' hl h h1 h2, World.putObj_heap_other (fun e => by omega), fun j c r hj => World.putObj_heap_other (fun e => by subst e; rw [h] at hj; cases hj; cases h1)⟩
theorem KpR.of_below {n₀ b : Nat} {W W' : World} (h : Below W.heap.size W W') (hn : n₀ ≤ W.heap.size) (hb : b < W.heap.size) : KpR n₀ b W W' :=
  ⟨h.mono hn, h.block b hb, fun j _ _ hj => h.block j (lt_of_block hj)⟩
theorem gby_below {W W' : World} (h : Below W.heap.size W W') : W.grownBy W' none := ⟨h.os, h.tape, h.output, h.size, fun k hk _ => h.block k hk⟩
theorem ErrType.past {n₀ : Nat} {w w' : World} (h : ErrType w) (hb : Below n₀ w w') (hn : 3 < n₀) : ErrType w' := by
  unfold ErrType at h ⊢
  rw [hb.cell (p := ⟨3, 0, none⟩) hn]; exact h

theorem recsOn_any (A : Option Addr) (n ca : Nat) (w : World) :
    Calls Tryz.prog 165 #[.agg #[.slice A n ca]] w fun e w' =>
      e = .returned (.func (.func 226) #[] #[.pointer (some ⟨w.heap.size, 0, none⟩)]) ∧ w' = w.alloc (.cells #[.slice A n ca] 25) := by
  go_enter Tryz.func165, Tryz.ntmps165
  go_wp2
  go_ret
  exact ⟨rfl, rfl⟩

set_option maxRecDepth 100000 in
set_option maxHeartbeats 4000000 in
theorem recsOn1_in (n : Nat) (l bs n₀ : Nat) (A : Option Addr) (N ca : Nat) (X : List Bk) (J Jx : List (Int × Rc) → World → Prop) (W : World) (hn : 1 ≤ n) (hok : NdOk X) (hJ : AbidesFrom W.heap.size J)
    (hY : ∀ pre x W1, Good x → J pre W1 → pre.length < 48 → YieldAt Fence.wide (n - 1) Tryz.prog l #[.int .i64 x.1, recV x.2] W1 fun e W' =>
      (e = .returned (.bool true) ∧ J (pre ++ [x]) W' ∧ KpR n₀ bs W1 W') ∨ (e = .returned (.bool false) ∧ Jx (pre ++ [x]) W'))
    (hbs : Boxed W bs 25 (.slice A N ca)) (hn₀ : n₀ ≤ W.heap.size) (hE : 3 < n₀) (hG : ErrType W) (hR : RdBk W n₀ A N X) (h0 : J [] W) :
    CallsIn Fence.wide n Tryz.prog 226 #[.func (.yield l) #[] #[], .pointer (some ⟨bs, 0, none⟩)] W fun e W' => (∃ v, e = .returned v) ∧
      ((∃ ys, ys = recsTo X N ∧ J ys W') ∨ (∃ pre, True ∧ Jx pre W')) := by
  have hNL : N = X.length := hR.1.symm
  have hN12 : N ≤ 12 := by rw [hNL]; exact hok.1.2
  have HNL := Lib.hid hNL
  have HOK := Lib.hid hok; have HR := Lib.hid hR; have HBS := Lib.hid hbs; have HG := Lib.hid hG
  have hcb := hbs.cell
  clear hR hbs hG hok hNL
  refine callsIn_of_wp Tryz.func226 rfl trivial ?_ rfl
  simp only [Tryz.ntmps226, List.size_toArray, List.length_cons, List.length_nil, Nat.reduceAdd, Nat.reduceSub, Array.replicate_succ, Array.replicate_zero, List.push_toArray, List.append_toArray, List.nil_append, List.cons_append]
  gi_wp2
  clear hcb
  gi_loopw [10] (fun iv wr => ∃ k : Nat, iv = .int .i64 (k : Nat) ∧ k ≤ N ∧ RdBk wr n₀ A N X ∧ Boxed wr bs 25 (.slice A N ca) ∧ ErrType wr ∧ W.heap.size ≤ wr.heap.size ∧ J (recsTo X k) wr) (fun iv _ => N - (intOf iv).toNat)
  case atStart => exact ⟨0, rfl, Nat.zero_le _, HR.out, HBS.out, HG.out, Nat.le_refl _, h0⟩
  case round =>
    obtain ⟨k, rfl, hk, hrd, hbx, hge, hsz, hJp⟩ := hrel
    have HRD := Lib.hid hrd; have HBX := Lib.hid hbx; have HGE := Lib.hid hge; have HJ := Lib.hid hJp
    have hcs := hbx.cell
    clear hrd hbx hge hJp
    by_cases hlt : k < N
    · obtain ⟨g, off, pA, pc, rfl, hg, hc0, hc1, hc2, hpg⟩ := HRD.out.at hlt
      have hkl : k < X.length := by rw [← HNL.out]; exact hlt
      have HPG := Lib.hid (hpg.mono (Nat.le_trans hn₀ hsz))
      have HBO := Lib.hid (HOK.out.2 k hkl)
      obtain ⟨b, hb⟩ : ∃ b, b = X.getD k zeroBk := ⟨_, rfl⟩
      have HST : Hid (recsTo X (k + 1) = recsTo X k ++ pgsRecs k b.pages (uPre b.pages)) := by show _ = _; rw [hb]; rfl
      rw [← hb] at hc0 hc1 hc2 HPG HBO
      clear hb hpg
      obtain ⟨ps, er, bd⟩ := b
      simp only at hc0 hc1 hc2 HPG HST
      obtain ⟨pa, pb, pc', pd, rfl⟩ := four_of_length HBO.out.1
      gi_wp2_with fail
      refine ⟨trivial, ?_⟩
      refine (callsIn_wide.2 (pagesOf_any pA pc pa pb pc' pd er bd wr HPG.out)).mono ?_
      rintro e w3 ⟨rfl, hb3⟩
      have HB3 := Lib.hid hb3
      clear hb3 hcs hc0 hc1 hc2
      gi_wp2_with fail
      have k4 := isBlk_new w3 212 (pcells pa pb pc' pd)
      have hb4 : Below wr.heap.size wr (w3.alloc (.cells (pcells pa pb pc' pd).toArray 212)) := HB3.out.alloc HB3.out.size _
      change _ ∧ CallsIn _ _ _ _ _ (w3.alloc (.cells (pcells pa pb pc' pd).toArray 212)) _
      generalize w3.alloc (.cells (pcells pa pb pc' pd).toArray 212) = w4 at k4 hb4 ⊢
      generalize w3.heap.size = B4 at k4 ⊢
      clear HB3
      refine ⟨trivial, ?_⟩
      refine (callsIn_wide.2 (used_any pa pb pc' pd w4)).mono ?_
      rintro e w5 ⟨rfl, hb5⟩
      have hB5 : Below wr.heap.size wr w5 := hb4.trans (hb5.mono hb4.size)
      have HK5 := Lib.hid (k4.below hb5 k4.lt)
      have HRD5 := Lib.hid (HRD.out.below (hB5.mono (Nat.le_trans hn₀ hsz)))
      have HBX5 : Hid (Boxed w5 bs 25 (.slice (some ⟨g, off, none⟩) N ca)) := (hB5.block bs HBX.out.lt).trans HBX.out
      have HGE5 := Lib.hid (HGE.out.below hB5)
      have HJ5 : Hid (J (recsTo X k) w5) := hJ _ wr w5 none HJ.out (gby_below hB5) (fun r e => by cases e)
      have hsz5 : W.heap.size ≤ w5.heap.size := Nat.le_trans hsz hB5.size
      have HSM : Hid (∀ j, j < 4 → (([pa, pb, pc', pd] : List Pg).getD j zeroPg).data.size ≤ 60) := fun j hj => ((pgsOk_iff HBO.out.1).2 HBO.out.2.2 j hj).2
      have hu4 : uPre [pa, pb, pc', pd] ≤ 4 := uPre_le _
      have HLP := Lib.hid (recsTo_len HOK.out k (by omega))
      clear hb4 hb5 k4 hB5
      generalize uPre [pa, pb, pc', pd] = u at HST hu4 ⊢
      gi_wp2
      gi_loopw [21] (fun jv wq => ∃ j : Nat, jv = .int .i64 (j : Nat) ∧ j ≤ u ∧ RdBk wq n₀ (some ⟨g, off, none⟩) N X ∧ Boxed wq bs 25 (.slice (some ⟨g, off, none⟩) N ca) ∧ ErrType wq ∧ W.heap.size ≤ wq.heap.size ∧ IsBlk wq B4 212 (pcells pa pb pc' pd) ∧ J (recsTo X k ++ pgsRecs k [pa, pb, pc', pd] j) wq) (fun jv _ => u - (intOf jv).toNat)
      case atStart => exact ⟨0, rfl, Nat.zero_le _, HRD5.out, HBX5.out, HGE5.out, hsz5, HK5.out, by simpa [pgsRecs] using HJ5.out⟩
      case round =>
        obtain ⟨j, rfl, hj, hrd, hbx, hge, hszq, hkq, hJp⟩ := hrel
        have HRDq := Lib.hid hrd; have HBXq := Lib.hid hbx; have HGEq := Lib.hid hge; have HKq := Lib.hid hkq; have HJq := Lib.hid hJp
        clear hrd hbx hge hJp hkq
        by_cases hju : j < u
        · have hj4 : j < 4 := by omega
          obtain ⟨-, c1⟩ := parr_cells HKq.out hj4
          have HS := Lib.hid (HSM.out j hj4)
          have HPS : Hid (pgsRecs k [pa, pb, pc', pd] (j + 1) = pgsRecs k [pa, pb, pc', pd] j ++ pgRec k j (([pa, pb, pc', pd] : List Pg).getD j zeroPg)) := by show _ = _; rfl
          have HPL := Lib.hid (pgsRecs_len k [pa, pb, pc', pd] j)
          generalize ([pa, pb, pc', pd] : List Pg).getD j zeroPg = pg at c1 HS HPS
          obtain ⟨us, sd⟩ := pg
          simp only at c1 HS
          gi_wp2_with fail
          refine ⟨trivial, ?_⟩
          refine (callsIn_wide.2 (impl_recRead_any sd _ (by have := HS.out; unfold maxLen; omega) HGEq.out)).mono ?_
          rintro e w6 ⟨rfl, hb6⟩
          have HB6 := Lib.hid hb6
          clear hb6 c1
          have hlen : (recsTo X k ++ pgsRecs k [pa, pb, pc', pd] j).length < 48 := by
            have h1 := HLP.out; have h2 := HPL.out
            rw [List.length_append]; omega
          have HPN : Hid ((Bt.recRead sd).2 ≠ 0 → pgsRecs k [pa, pb, pc', pd] (j + 1) = pgsRecs k [pa, pb, pc', pd] j) := fun h => by rw [HPS.out, pgRec_no h, List.append_nil]
          have HGD : Hid ((Bt.recRead sd).2 = 0 → (Bt.recRead sd).1.Ok) := fun h => recRead_ok' h
          have HPY : Hid ((Bt.recRead sd).2 = 0 → pgsRecs k [pa, pb, pc', pd] (j + 1) = pgsRecs k [pa, pb, pc', pd] j ++ [(4 * (k : Int) + (j : Int), (Bt.recRead sd).1)]) := fun h => by rw [HPS.out, pgRec_yes h]
          clear HPS HPL HS
          generalize Bt.recRead sd = RR at HPN HPY HGD ⊢
          obtain ⟨⟨rk, rs, rq, rt, ro, rd⟩, c⟩ := RR
          simp only at HPN HPY HGD
          have hbV : Below wr.heap.size wr (w6.alloc (.cells #[.int .i64 rk, .int .i64 rs, .int .i64 rq, .int .i64 rt, .int .i64 ro, .string rd, .int .i64 c] 53)) := HB6.out.alloc HB6.out.size _
          have HRDv := Lib.hid (HRDq.out.below (hbV.mono (Nat.le_trans hn₀ hszq)))
          have HBXv : Hid (Boxed (w6.alloc (.cells #[.int .i64 rk, .int .i64 rs, .int .i64 rq, .int .i64 rt, .int .i64 ro, .string rd, .int .i64 c] 53)) bs 25 (.slice (some ⟨g, off, none⟩) N ca)) := (hbV.block bs HBXq.out.lt).trans HBXq.out
          have HGEv := Lib.hid (HGEq.out.below hbV)
          have HKv := Lib.hid (HKq.out.below hbV HKq.out.lt)
          have HJv : Hid (J (recsTo X k ++ pgsRecs k [pa, pb, pc', pd] j) (w6.alloc (.cells #[.int .i64 rk, .int .i64 rs, .int .i64 rq, .int .i64 rt, .int .i64 ro, .string rd, .int .i64 c] 53))) := hJ _ wr _ none HJq.out (gby_below hbV) (fun r e => by cases e)
          have hszv : W.heap.size ≤ (w6.alloc (.cells #[.int .i64 rk, .int .i64 rs, .int .i64 rq, .int .i64 rt, .int .i64 ro, .string rd, .int .i64 c] 53)).heap.size := Nat.le_trans hszq hbV.size
          have HSZV := Lib.hid hszv
          clear hbV hszv HB6
          by_cases h0c : c = 0
          · subst h0c
            have HP := Lib.hid (HPY.out rfl)
            obtain ⟨fn, tmps, assign, body, hy, hRo⟩ := hY _ (4 * (k : Int) + (j : Int), ⟨rk, rs, rq, rt, ro, rd⟩) _ ⟨⟨by simp only; omega, by simp only; omega⟩, HGD.out rfl⟩ HJv.out hlen
            clear HPY HPN HGD
            gi_wp2
            refine hRo.mono ?_
            rintro e w7 (⟨rfl, hJ7, hk7⟩ | ⟨rfl, hJx7⟩)
            · have HRD7 := Lib.hid (HRDv.out.below hk7.1)
              have HBX7 : Hid (Boxed w7 bs 25 (.slice (some ⟨g, off, none⟩) N ca)) := hk7.2.1.trans HBXv.out
              have HGE7 := Lib.hid (HGEv.out.past hk7.1 hE)
              have HK7 : Hid (IsBlk w7 B4 212 (pcells pa pb pc' pd)) := (hk7.2.2 B4 _ _ HKv.out).trans HKv.out
              have HJ7 : Hid (J (recsTo X k ++ pgsRecs k [pa, pb, pc', pd] (j + 1)) w7) := by show J _ _; rw [HP.out, ← List.append_assoc]; exact hJ7
              have hsz7 : W.heap.size ≤ w7.heap.size := Nat.le_trans HSZV.out hk7.1.size
              clear hJ7 hk7
              gi_wp2
              go_roundw
              case rel => exact ⟨j + 1, by go_num, by omega, HRD7.out, HBX7.out, HGE7.out, hsz7, HK7.out, HJ7.out⟩
              case measure => simp [intOf]; omega
            · gi_wp2
              refine bodyPost_ret (results_none rfl _ _ _) rfl ?_
              exact ⟨⟨_, rfl⟩, .inr ⟨_, trivial, hJx7⟩⟩
          · have hc0' : (c == 0) = false := by simpa using h0c
            have HJ7 := HJv
            rw [← HPN.out h0c] at HJ7
            clear h0c HPY HPN HGD
            gi_wp2
            refine ⟨fun _ h => (by cases h), ?_⟩
            gi_wp2
            go_roundw
            case rel => exact ⟨j + 1, by go_num, by omega, HRDv.out, HBXv.out, HGEv.out, HSZV.out, HKv.out, HJ7.out⟩
            case measure => simp [intOf]; omega
        · obtain rfl : j = u := by omega
          have HJ8 : Hid (J (recsTo X (k + 1)) wr) := by show J _ _; rw [HST.out]; exact HJq.out
          gi_wp2
          go_roundw
          case rel => exact ⟨k + 1, by go_num, by omega, HRDq.out, HBXq.out, HGEq.out, hszq, HJ8.out⟩
          case measure => simp [intOf]; omega
    · obtain rfl : k = N := by omega
      gi_wp2
      refine bodyPost_end (results_none rfl _ _ _) rfl ?_
      exact ⟨⟨_, rfl⟩, .inl ⟨_, rfl, HJ.out⟩⟩

/-- **The iterator hands on the records of a valid chip with their places, in order of block and page; or the first of them, where a round has said 'no more'.** -/
theorem recs_stops (n : Nat) (hn : 1 ≤ n) (bs n₀ : Nat) (A : Option Addr) (N ca : Nat) (X : List Bk) (w : World) (hok : NdOk X) (hn₀ : n₀ ≤ w.heap.size) (hE : 3 < n₀) (hG : ErrType w)
    (hbs : Boxed w bs 25 (.slice A N ca)) (hR : RdBk w n₀ A N X) :
    SeqStopsK Fence.wide n Tryz.prog 226 #[.pointer (some ⟨bs, 0, none⟩)] (fun r : Int × Rc => #[.int .i64 (nz r).1, recV (nz r).2]) (KpR n₀ bs) (fun ys => ys = recsTo X N) (fun _ => True) 48 w :=
  fun l J Jx W hW hJ _ hY h0 => recsOn1_in n l bs n₀ A N ca X J Jx W hn hok hJ (fun pre x W1 hg h1 h2 => by have h := hY pre x W1 h1 h2; dsimp only at h; rw [nz_good hg] at h; exact h) ((hW.block bs hbs.lt).trans hbs) (Nat.le_trans hn₀ hW.size) hE (hG.below hW) (hR.below (hW.mono hn₀)) h0
end Go.Proofs.YtloaeglmngcenaaGreatDoor

namespace Go.Proofs.YtloaeglmngcenaaGreatDoor
open Bt (Rc)

/-- the code of Mount, and its records -/
noncomputable def mntCode (X : List Bk) : Int := if ndB X = true then (if hRight (mnt (recsTo X X.length)) = true then 0 else 10) else 1
noncomputable def mntList (X : List Bk) : List Rc := if mntCode X = 0 then mnt (recsTo X X.length) else []
theorem mnt_no {X : List Bk} (h : ¬ NdOk X) : mntCode X = 1 ∧ mntList X = [] := by
  have e : mntCode X = 1 := by unfold mntCode; rw [ndB_no h]; rfl
  exact ⟨e, by unfold mntList; rw [e]; rfl⟩
theorem mnt_bad {X : List Bk} (h : NdOk X) (hr : hRight (mnt (recsTo X X.length)) = false) : mntCode X = 10 ∧ mntList X = [] := by
  have e : mntCode X = 10 := by unfold mntCode; rw [ndB_yes h, hr]; rfl
  exact ⟨e, by unfold mntList; rw [e]; rfl⟩
theorem mnt_ok {X : List Bk} (h : NdOk X) (hr : hRight (mnt (recsTo X X.length)) = true) : mntCode X = 0 ∧ mntList X = mnt (recsTo X X.length) := by
  have e : mntCode X = 0 := by unfold mntCode; rw [ndB_yes h, hr]; rfl
  exact ⟨e, by unfold mntList; rw [e]; rfl⟩
theorem mnt_codes (X : List Bk) : mntCode X = 0 ∨ mntCode X = 1 ∨ mntCode X = 10 := by
  unfold mntCode
  split
  · split
    · exact .inl rfl
    · exact .inr (.inr rfl)
  · exact .inr (.inl rfl)
theorem mnt_upto {X : List Bk} (h : NdOk X) (i : Nat) (hi : i ≤ X.length) : (mnt (recsTo X i)).length ≤ 48 ∧ ∀ r ∈ mnt (recsTo X i), r.Ok := by
  constructor
  · have h1 := mnt_len (recsTo X i); have h2 := recsTo_len h i hi; have h3 := h.1.2; omega
  · intro r hr
    obtain ⟨x, hx, rfl⟩ := mnt_mem hr
    exact (recsTo_good h i hi x hx).2
theorem mnt_smallR {X : List Bk} (h : NdOk X) : SmallR (mnt (recsTo X X.length)) := by
  obtain ⟨h1, h2⟩ := mnt_upto h X.length (Nat.le_refl _)
  refine ⟨by omega, fun r hr => ?_⟩
  have := (h2 r hr).2.2.2.2.2.2.2.2.2.2.1
  omega
theorem mntList_len (X : List Bk) : (mntList X).length ≤ 48 := by
  by_cases h : NdOk X
  · cases hr : hRight (mnt (recsTo X X.length)) with
    | true => rw [(mnt_ok h hr).2]; exact (mnt_upto h X.length (Nat.le_refl _)).1
    | false => rw [(mnt_bad h hr).2]; simp
  · rw [(mnt_no h).2]; simp
theorem mnt_right {X : List Bk} (h : mntCode X = 0) : NdOk X := by
  by_cases ho : NdOk X
  · exact ho
  · rw [(mnt_no ho).1] at h; cases h
theorem mnt_zero {X : List Bk} (h : mntCode X = 0) : NdOk X ∧ mntList X = mnt (recsTo X X.length) ∧ hRight (mntList X) = true := by
  have ho := mnt_right h
  cases hr : hRight (mnt (recsTo X X.length)) with
  | true => exact ⟨ho, (mnt_ok ho hr).2, by rw [(mnt_ok ho hr).2]; exact hr⟩
  | false => rw [(mnt_bad ho hr).1] at h; cases h
end Go.Proofs.YtloaeglmngcenaaGreatDoor

namespace Go.Proofs.YtloaeglmngcenaaGreatDoor
open Go.RowKit
open Bt (Rc)

theorem mnt_append (R S : List (Int × Rc)) : mnt (R ++ S) = S.foldl (fun l x => put l x.2) (mnt R) := by simp [mnt, List.foldl_append]
/-- the records of the first blocks and of the first pages of the next, put in order -/
def mtk (X : List Bk) (i : Nat) (ps : List Pg) (k : Nat) : List Rc := mnt (recsTo X i ++ pgsRecs i ps (min k (uPre ps)))
theorem mtk_zero (X : List Bk) (i : Nat) (ps : List Pg) : mtk X i ps 0 = mnt (recsTo X i) := by simp [mtk, pgsRecs]
theorem mtk_end {X : List Bk} {i : Nat} (h : (X.getD i zeroBk).pages.length = 4) : mtk X i (X.getD i zeroBk).pages 4 = mnt (recsTo X (i + 1)) := by
  unfold mtk
  rw [Nat.min_eq_right (by have := uPre_le (X.getD i zeroBk).pages; omega)]
  rfl
theorem mtk_unused {X : List Bk} {i : Nat} {ps : List Pg} {k : Nat} (h : (ps.getD k zeroPg).used = false) : mtk X i ps (k + 1) = mtk X i ps k := by
  have hu : uPre ps ≤ k := by
    rcases Nat.lt_or_ge k (uPre ps) with h' | h'
    · rw [uPre_lt h'] at h; cases h
    · exact h'
  unfold mtk
  rw [Nat.min_eq_right (by omega), Nat.min_eq_right hu]
theorem mtk_used {X : List Bk} {i : Nat} {ps : List Pg} {k : Nat} (hk : k < 4) (hok : PgsOk ps) (h : (ps.getD k zeroPg).used = true) : mtk X i ps (k + 1) = (pgRec i k (ps.getD k zeroPg)).foldl (fun l x => put l x.2) (mtk X i ps k) := by
  have hu : k < uPre ps := by
    rcases Nat.lt_or_ge k (uPre ps) with h' | h'
    · exact h'
    · rw [((hok k hk).1 h').1] at h; cases h
  unfold mtk
  rw [Nat.min_eq_left (by omega), Nat.min_eq_left (by omega), ← mnt_append, pgsRecs, ← List.append_assoc]
theorem mtk_yes {X : List Bk} {i : Nat} {ps : List Pg} {k : Nat} (hk : k < 4) (hok : PgsOk ps) (h : (ps.getD k zeroPg).used = true) (hr : (Bt.recRead (ps.getD k zeroPg).data).2 = 0) : mtk X i ps (k + 1) = put (mtk X i ps k) (Bt.recRead (ps.getD k zeroPg).data).1 := by
  rw [mtk_used hk hok h, pgRec_yes hr]; rfl
theorem mtk_no {X : List Bk} {i : Nat} {ps : List Pg} {k : Nat} (hk : k < 4) (hok : PgsOk ps) (h : (ps.getD k zeroPg).used = true) (hr : (Bt.recRead (ps.getD k zeroPg).data).2 ≠ 0) : mtk X i ps (k + 1) = mtk X i ps k := by
  rw [mtk_used hk hok h, pgRec_no hr]; rfl
theorem mtk_len {X : List Bk} (hok : NdOk X) {i : Nat} (hi : i < X.length) {ps : List Pg} (hp : ps.length = 4) (k : Nat) : (mtk X i ps k).length ≤ 48 := by
  unfold mtk
  have h1 := mnt_len (recsTo X i ++ pgsRecs i ps (min k (uPre ps)))
  rw [List.length_append] at h1
  have h2 := recsTo_len hok i (by omega)
  have h3 := pgsRecs_len i ps (min k (uPre ps))
  have h4 := uPre_le ps
  have h5 := hok.1.2
  omega
theorem own_sl {w : World} {base n k : Nat} {e : TypeId} {v : Value} {xs : List Value} (h : w.ownsRow base e k v n xs) : ∃ A c, v = .slice A n c := by
  rcases h.2 with ⟨rfl, rfl⟩ | ⟨g, cap, cur, rfl, -⟩
  · exact ⟨none, 0, rfl⟩
  · exact ⟨_, cap, rfl⟩
theorem l05Put_any (base : Nat) (v : Value) (Y : List Rc) (r : Rc) (w : World) (hb : base ≤ w.heap.size) (hY : Y.length ≤ 96) (hrow : w.ownsRow base 34 6 v Y.length (rcA Y)) :
    Calls Tryz.prog 159 #[v, recV r] w fun e w' => ∃ v', e = .returned v' ∧ w'.ownsRow base 34 6 v' (put Y r).length (rcA (put Y r)) ∧ Below w.heap.size w w' := by
  rcases hrow.2 with ⟨hv, hn⟩ | ⟨g, cap, cur, hv, -⟩
  · have hY0 : Y = [] := List.length_eq_zero_iff.1 hn
    subst hv hY0
    exact l05Put_nil base r w hb
  · subst hv
    exact l05Put_some base g cap Y r w hb hY hrow

set_option maxHeartbeats 4000000 in
set_option maxRecDepth 100000 in
theorem l05Mount_any (A : Option Addr) (n ca : Nat) (X : List Bk) (w : World) (hok : NdOk X) (hA : RdBk w w.heap.size A n X) :
    Calls Tryz.prog 82 #[.agg #[.slice A n ca]] w (RetHO w (mntList X) (mntCode X)) := by
  have hNL : n = X.length := hA.1.symm
  have hn : n ≤ 12 := by rw [hNL]; exact hok.1.2
  have HNL := Lib.hid hNL
  have HSMR := Lib.hid (mnt_smallR hok)
  have HN1 := Lib.hid (fun h => mnt_bad (X := X) hok h); have HN2 := Lib.hid (fun h => mnt_ok (X := X) hok h)
  have HA := Lib.hid hA; have HOK := Lib.hid hok; clear hA hok hNL
  go_enter Tryz.func82, Tryz.ntmps82
  go_wp2
  have hb0 : Below w.heap.size w (((w.alloc (.cells #[.slice A n ca] 25)).alloc (.cells #[.slice none 0 0, .int .i64 0] 31)).alloc (.cells #[.slice none 0 0] 29)) := (((Below.refl _ _).alloc (Nat.le_refl _) _).alloc (by simp) _).alloc (by simp; omega) _
  have k0 := ((isBlk_new w 25 [.slice A n ca]).alloc (.cells #[.slice none 0 0, .int .i64 0] 31)).alloc (.cells #[.slice none 0 0] 29)
  have k1 := (isBlk_new (w.alloc (.cells #[.slice A n ca] 25)) 31 [.slice none 0 0, .int .i64 0]).alloc (.cells #[.slice none 0 0] 29)
  have k2 := isBlk_new ((w.alloc (.cells #[.slice A n ca] 25)).alloc (.cells #[.slice none 0 0, .int .i64 0] 31)) 29 [.slice none 0 0]
  simp only [size_alloc] at k1 k2
  change IsBlk (((w.alloc (.cells #[.slice A n ca] 25)).alloc (.cells #[.slice none 0 0, .int .i64 0] 31)).alloc (.cells #[.slice none 0 0] 29)) _ _ _ at k0 k1 k2
  have hs0 : (((w.alloc (.cells #[.slice A n ca] 25)).alloc (.cells #[.slice none 0 0, .int .i64 0] 31)).alloc (.cells #[.slice none 0 0] 29)).heap.size = w.heap.size + 3 := by simp
  generalize ((w.alloc (.cells #[.slice A n ca] 25)).alloc (.cells #[.slice none 0 0, .int .i64 0] 31)).alloc (.cells #[.slice none 0 0] 29) = W at hb0 k0 k1 k2 hs0 ⊢
  have HB0 := Lib.hid hb0; have HK0 := Lib.hid k0; have HK1 := Lib.hid k1; have HK2 := Lib.hid k2
  clear hb0 k0 k1 k2
  go_loopw [4] (fun iv wr => ∃ (i : Nat) (v : Value), i ≤ n ∧ iv = .int .i64 (i : Nat) ∧ IsBlk wr (w.heap.size + 1 + 1) 29 [v] ∧ wr.ownsRow (w.heap.size + 3) 34 6 v (mnt (recsTo X i)).length (rcA (mnt (recsTo X i))) ∧ Below (w.heap.size + 2) W wr ∧ w.heap.size + 3 ≤ wr.heap.size) (fun iv _ => n - (intOf iv).toNat)
  case atStart => exact ⟨0, _, by omega, rfl, HK2.out, ⟨rfl, .inl ⟨rfl, rfl⟩⟩, Below.refl _ _, by omega⟩
  case round =>
    obtain ⟨i, v, hi, rfl, hbox, hown, hbel, hzr⟩ := hrel
    have HOW := Lib.hid hown; have HW := Lib.hid hbel; have HBX := Lib.hid hbox
    have hx : wr.cell? ⟨w.heap.size, 0, none⟩ = some (.slice A n ca) := (HK0.out.below hbel (by omega)).cell rfl
    clear hown hbox
    by_cases hlt : i < n
    · have hil : i < X.length := by rw [← HNL.out]; exact hlt
      have HBO := Lib.hid (HOK.out.2 i hil)
      have HEND := Lib.hid (mtk_end (X := X) (i := i) HBO.out.1)
      have HPO : Hid (PgsOk (X.getD i zeroBk).pages) := (pgsOk_iff HBO.out.1).2 HBO.out.2.2
      have HPL : Hid (∀ k, (mtk X i (X.getD i zeroBk).pages k).length ≤ 48) := fun k => mtk_len HOK.out hil HBO.out.1 k
      have HOW0 : Hid (wr.ownsRow (w.heap.size + 3) 34 6 v (mtk X i (X.getD i zeroBk).pages 0).length (rcA (mtk X i (X.getD i zeroBk).pages 0))) := by show World.ownsRow _ _ _ _ _ _ _; rw [mtk_zero]; exact HOW.out
      clear hbel
      go_wp2
      clear hx
      go_loopw [5] (fun jv wq => ∃ (j : Nat) (v : Value), j ≤ 4 ∧ jv = .int .i64 (j : Nat) ∧ IsBlk wq (w.heap.size + 1 + 1) 29 [v] ∧ wq.ownsRow (w.heap.size + 3) 34 6 v (mtk X i (X.getD i zeroBk).pages j).length (rcA (mtk X i (X.getD i zeroBk).pages j)) ∧ Below (w.heap.size + 2) W wq ∧ w.heap.size + 3 ≤ wq.heap.size) (fun jv _ => 4 - (intOf jv).toNat)
      case atStart => exact ⟨0, v, by omega, rfl, HBX.out, HOW0.out, HW.out, hzr⟩
      case round =>
        clear HOW0 HOW HW HBX hzr v
        obtain ⟨j, v, hj, rfl, hbox, hown, hbel, hzq⟩ := hrel
        have HOWq := Lib.hid hown; have HWq := Lib.hid hbel; have HBXq := Lib.hid hbox
        have hx : wr.cell? ⟨w.heap.size, 0, none⟩ = some (.slice A n ca) := (HK0.out.below hbel (by omega)).cell rfl
        obtain ⟨g, off, pA, pc, rfl, hg, hc0, -, -, hpg⟩ := (HA.out.below (HB0.out.trans (hbel.mono (by omega)))).at hlt
        rw [HBO.out.1] at hc0 hpg
        clear hown hbox
        by_cases hj4 : j < 4
        · obtain ⟨g2, off2, rfl, hg2, d0, d1⟩ := hpg.at hj4
          have HSM := Lib.hid ((HPO.out j hj4).2)
          have HUN := Lib.hid (fun h => mtk_unused (X := X) (i := i) (ps := (X.getD i zeroBk).pages) (k := j) h)
          have HYE := Lib.hid (fun h h1 => mtk_yes (X := X) (i := i) hj4 HPO.out h h1)
          have HNO := Lib.hid (fun h h1 => mtk_no (X := X) (i := i) hj4 HPO.out h h1)
          have HTl := Lib.hid (HPL.out j)
          clear hbel hpg
          generalize (X.getD i zeroBk).pages.getD j zeroPg = pg at *
          generalize mtk X i (X.getD i zeroBk).pages j = T at *
          obtain ⟨us, sd⟩ := pg
          simp only at d0 d1 HSM HUN HYE HNO
          go_wp2_with fail
          have hb5 := box_below wr (.cells #[.bool us, .string sd] 206)
          have k5 := isBlk_new wr 206 [.bool us, .string sd]
          change Calls _ _ _ (wr.alloc (.cells #[.bool us, .string sd] 206)) _
          change IsBlk (wr.alloc (.cells #[.bool us, .string sd] 206)) _ _ _ at k5
          generalize wr.alloc (.cells #[.bool us, .string sd] 206) = w5 at hb5 k5 ⊢
          refine (spec_recRead_any sd w5 (by have := HSM.out; unfold maxLen; omega)).mono ?_
          rintro e w6 ⟨rfl, hb6⟩
          generalize Bt.recRead sd = RR at *
          obtain ⟨⟨rk, rs, rq, rt, ro, rd⟩, c⟩ := RR
          simp only at HYE HNO
          have hb7 : Below wr.heap.size wr (w6.alloc (.cells #[.int .i64 rk, .int .i64 rs, .int .i64 rq, .int .i64 rt, .int .i64 ro, .string rd, .int .i64 c] 53)) := (hb5.trans (hb6.mono hb5.size)).alloc (Nat.le_trans hb5.size hb6.size) _
          have k7 := (k5.below hb6 k5.lt).alloc (.cells #[.int .i64 rk, .int .i64 rs, .int .i64 rq, .int .i64 rt, .int .i64 ro, .string rd, .int .i64 c] 53)
          have kx := isBlk_new w6 53 [.int .i64 rk, .int .i64 rs, .int .i64 rq, .int .i64 rt, .int .i64 ro, .string rd, .int .i64 c]
          have hz6 : wr.heap.size < w6.heap.size := Nat.lt_of_lt_of_le k5.lt hb6.size
          change IsBlk (w6.alloc (.cells #[.int .i64 rk, .int .i64 rs, .int .i64 rq, .int .i64 rt, .int .i64 ro, .string rd, .int .i64 c] 53)) _ _ _ at k7 kx
          clear hb5 k5 hb6 hx hc0 d0 d1
          have hu6 : (w6.alloc (.cells #[.int .i64 rk, .int .i64 rs, .int .i64 rq, .int .i64 rt, .int .i64 ro, .string rd, .int .i64 c] 53)).cell? ⟨wr.heap.size, 0, none⟩ = some (.bool us) := k7.cell rfl
          have HOW7 := Lib.hid (own_belowR HOWq.out hb7)
          have HW7 := Lib.hid (HWq.out.trans (hb7.mono (by omega)))
          have HBX7 := Lib.hid (HBXq.out.below hb7 HBXq.out.lt)
          have hz7 : w.heap.size + 3 ≤ (w6.alloc (.cells #[.int .i64 rk, .int .i64 rs, .int .i64 rq, .int .i64 rt, .int .i64 ro, .string rd, .int .i64 c] 53)).heap.size := Nat.le_trans hzq hb7.size
          cases us with
          | false =>
            have HT := Lib.hid (HUN.out rfl)
            clear HUN HYE HNO
            go_wp2
            go_roundw
            case rel => exact ⟨j + 1, v, by omega, by go_num, HBX7.out, by rw [HT.out]; exact HOW7.out, HW7.out, hz7⟩
            case measure => simp [intOf]; omega
          | true =>
            have hc6 : (w6.alloc (.cells #[.int .i64 rk, .int .i64 rs, .int .i64 rq, .int .i64 rt, .int .i64 ro, .string rd, .int .i64 c] 53)).cell? ⟨w6.heap.size, 6, none⟩ = some (.int .i64 c) := kx.cell rfl
            by_cases h0c : c = 0
            case neg =>
              have hc' : (c == 0) = false := by simpa using h0c
              have HT := Lib.hid (HNO.out rfl h0c)
              clear HUN HYE HNO h0c
              go_wp2
              go_roundw
              case rel => exact ⟨j + 1, v, by omega, by go_num, HBX7.out, by rw [HT.out]; exact HOW7.out, HW7.out, hz7⟩
              case measure => simp [intOf]; omega
            subst h0c
            have HT := Lib.hid (HYE.out rfl rfl)
            have hbx : (w6.alloc (.cells #[.int .i64 rk, .int .i64 rs, .int .i64 rq, .int .i64 rt, .int .i64 ro, .string rd, .int .i64 0] 53)).cell? ⟨w.heap.size + 1 + 1, 0, none⟩ = some v := HBX7.out.cell rfl
            clear HUN HYE HNO
            have c0 : (w6.alloc (.cells #[.int .i64 rk, .int .i64 rs, .int .i64 rq, .int .i64 rt, .int .i64 ro, .string rd, .int .i64 0] 53)).cell? ⟨w6.heap.size, 0, none⟩ = some (.int .i64 rk) := kx.cell rfl
            have c1 : (w6.alloc (.cells #[.int .i64 rk, .int .i64 rs, .int .i64 rq, .int .i64 rt, .int .i64 ro, .string rd, .int .i64 0] 53)).cell? ⟨w6.heap.size, 1, none⟩ = some (.int .i64 rs) := kx.cell rfl
            have c2 : (w6.alloc (.cells #[.int .i64 rk, .int .i64 rs, .int .i64 rq, .int .i64 rt, .int .i64 ro, .string rd, .int .i64 0] 53)).cell? ⟨w6.heap.size, 2, none⟩ = some (.int .i64 rq) := kx.cell rfl
            have c3 : (w6.alloc (.cells #[.int .i64 rk, .int .i64 rs, .int .i64 rq, .int .i64 rt, .int .i64 ro, .string rd, .int .i64 0] 53)).cell? ⟨w6.heap.size, 3, none⟩ = some (.int .i64 rt) := kx.cell rfl
            have c4 : (w6.alloc (.cells #[.int .i64 rk, .int .i64 rs, .int .i64 rq, .int .i64 rt, .int .i64 ro, .string rd, .int .i64 0] 53)).cell? ⟨w6.heap.size, 4, none⟩ = some (.int .i64 ro) := kx.cell rfl
            have c5 : (w6.alloc (.cells #[.int .i64 rk, .int .i64 rs, .int .i64 rq, .int .i64 rt, .int .i64 ro, .string rd, .int .i64 0] 53)).cell? ⟨w6.heap.size, 5, none⟩ = some (.string rd) := kx.cell rfl
            clear hb7 k7 kx
            go_wp2_with fail
            change Calls _ _ _ (w6.alloc (.cells #[.int .i64 rk, .int .i64 rs, .int .i64 rq, .int .i64 rt, .int .i64 ro, .string rd, .int .i64 0] 53)) _
            generalize w6.alloc (.cells #[.int .i64 rk, .int .i64 rs, .int .i64 rq, .int .i64 rt, .int .i64 ro, .string rd, .int .i64 0] 53) = w7 at HOW7 HW7 HBX7 hz7 ⊢
            clear c0 c1 c2 c3 c4 c5 hc6 hbx hu6
            refine (l05Put_any (w.heap.size + 3) v T ⟨rk, rs, rq, rt, ro, rd⟩ w7 hz7 (by have := HTl.out; omega) HOW7.out).mono ?_
            rintro e w8 ⟨v8, rfl, ho8, hb8⟩
            obtain ⟨A8, c8, rfl⟩ := own_sl ho8
            have HO8 := Lib.hid ho8; have HB8 := Lib.hid hb8
            have HBX8 := Lib.hid (HBX7.out.below hb8 HBX7.out.lt)
            have h78 := hb8.size
            have fx8 : w8.frozen? ⟨w.heap.size + 1 + 1, 0, none⟩ = false := HBX8.out.free
            have hx8 : w8.cell? ⟨w.heap.size + 1 + 1, 0, none⟩ = some v := HBX8.out.cell rfl
            clear ho8 hb8
            go_wp2
            go_roundw
            case rel => exact ⟨j + 1, _, by omega, by go_num, HBX8.out.set (j := 0) _, by rw [HT.out]; exact own_otherR HO8.out (by dsimp only; omega) _, (HW7.out.trans (HB8.out.mono (by omega))).setCell (by dsimp only; omega) _, by simp [World.setCell]; omega⟩
            case measure => simp [intOf]; omega
        · obtain rfl : j = 4 := by omega
          clear hbel hpg
          go_wp2
          go_roundw
          case rel => exact ⟨i + 1, v, by omega, by go_num, HBXq.out, by rw [← HEND.out]; exact HOWq.out, HWq.out, hzq⟩
          case measure => simp [intOf]; omega
    · obtain rfl : i = n := by omega
      clear hbel
      rw [HNL.out] at HOW
      obtain ⟨Av, cv, rfl⟩ := own_sl HOW.out
      have hbx : wr.cell? ⟨w.heap.size + 1 + 1, 0, none⟩ = some (.slice Av (mnt (recsTo X X.length)).length cv) := HBX.out.cell rfl
      have HO := Lib.hid (ow_of_own HOW.out)
      generalize mnt (recsTo X X.length) = Y at *
      go_wp2_with fail
      refine (spec_histRight_any Av Y.length cv Y wr HSMR.out (HO.out.rd (Nat.le_refl _))).mono ?_
      rintro e w9 ⟨rfl, hb9⟩
      have HB9 := Lib.hid (HB0.out.trans ((HW.out.trans (hb9.mono (by omega))).mono (by omega)))
      have k1 := HK1.out.below (HW.out.trans (hb9.mono (by omega))) (by omega)
      obtain ⟨d0, d1, fd0, fd1⟩ := blk2 k1
      have hbx9 : w9.cell? ⟨w.heap.size + 1 + 1, 0, none⟩ = some (.slice Av Y.length cv) := (HBX.out.below hb9 HBX.out.lt).cell rfl
      have HO9 := Lib.hid (HO.out.below hb9 (Nat.le_refl _))
      have h9 := hb9.size
      clear hbx hb9 k1
      cases hr : hRight Y with
      | false =>
        have HC := Lib.hid (HN1.out hr)
        go_wp2
        refine bodyPost_ret (v := .agg #[.slice none 0 0, .int .i64 10]) (by simp [results, Tryz.results82, go_sem, d0, d1]) rfl ?_
        rw [HC.out.1, HC.out.2]
        exact ⟨none, 0, rfl, ow_nilR _ _ _ _, (HB9.out.setCell (by dsimp only; omega) _).setCell (by dsimp only; omega) _⟩
      | true =>
        have HC := Lib.hid (HN2.out hr)
        go_wp2
        refine bodyPost_ret (v := .agg #[.slice Av Y.length cv, .int .i64 0]) (by simp [results, Tryz.results82, go_sem, d0, d1]) rfl ?_
        rw [HC.out.1, HC.out.2]
        refine ⟨Av, cv, rfl, ?_, (HB9.out.setCell (by dsimp only; omega) _).setCell (by dsimp only; omega) _⟩
        refine (HO9.out.same fun k hk _ => (Below.heap_setCell _ _ _ _ (by dsimp only; omega)).trans (Below.heap_setCell _ _ _ _ (by dsimp only; omega))).mono (by omega) ?_
        simp [World.setCell]; omega

set_option maxHeartbeats 1000000 in
set_option maxRecDepth 100000 in
theorem spec_mount (A : Option Addr) (n ca : Nat) (X : List Bk) (w : World) (hX : Small X) (hA : RdBk w w.heap.size A n X) :
    Calls Tryz.prog 18 #[.agg #[.slice A n ca]] w (RetHO w (mntList X) (mntCode X)) := by
  have HA := Lib.hid hA; have HX := Lib.hid hX; clear hA hX
  go_enter Tryz.func18, Tryz.ntmps18
  go_wp2_with fail
  have hb0 : Below w.heap.size w ((w.alloc (.cells #[.slice A n ca] 25)).alloc (.cells #[.slice none 0 0, .int .i64 0] 31)) := ((Below.refl _ _).alloc (Nat.le_refl _) _).alloc (by simp) _
  have k0 := (isBlk_new w 25 [.slice A n ca]).alloc (.cells #[.slice none 0 0, .int .i64 0] 31)
  have k1 := isBlk_new (w.alloc (.cells #[.slice A n ca] 25)) 31 [.slice none 0 0, .int .i64 0]
  change IsBlk ((w.alloc (.cells #[.slice A n ca] 25)).alloc (.cells #[.slice none 0 0, .int .i64 0] 31)) _ _ _ at k0 k1
  rw [size_alloc] at k1
  generalize (w.alloc (.cells #[.slice A n ca] 25)).alloc (.cells #[.slice none 0 0, .int .i64 0] 31) = W at hb0 k0 k1 ⊢
  refine (spec_nandRight A n ca X W HX.out (rd_step HA.out hb0)).mono ?_
  rintro e w2 ⟨rfl, hb2⟩
  have HB2 := Lib.hid (bel_step hb0 hb2)
  have HR2 := Lib.hid (k1.below hb2 k1.lt)
  have y0 : w2.cell? ⟨w.heap.size, 0, none⟩ = some (.slice A n ca) := (k0.below hb2 k0.lt).cell rfl
  have h2s : w.heap.size + 1 < w2.heap.size := HR2.out.lt
  clear hb0 k0 k1 hb2
  by_cases hok : NdOk X
  · rw [ndB_yes hok]
    have HOK := Lib.hid hok
    clear hok
    go_wp2_with fail
    refine (l05Mount_any A n ca X w2 HOK.out (rd_step HA.out HB2.out)).mono ?_
    rintro e w3 ⟨Av, cv, rfl, ho3, hb3⟩
    have HB3 := Lib.hid (bel_step HB2.out hb3)
    have HO3 := Lib.hid ho3
    have h23 := hb3.size
    obtain ⟨d0, d1, fd0, fd1⟩ := blk2 (HR2.out.below hb3 HR2.out.lt)
    clear hb3 ho3
    go_wp2
    refine bodyPost_ret (v := .agg #[.slice Av (mntList X).length cv, .int .i64 (mntCode X)]) (by simp [results, Tryz.results18, go_sem, d0, d1]) rfl ?_
    refine ⟨Av, cv, rfl, ?_, (HB3.out.setCell (by dsimp only; omega) _).setCell (by dsimp only; omega) _⟩
    refine (HO3.out.same fun k hk _ => (Below.heap_setCell _ _ _ _ (by dsimp only; omega)).trans (Below.heap_setCell _ _ _ _ (by dsimp only; omega))).mono (by omega) ?_
    simp [World.setCell]
  · rw [ndB_no hok]
    have HC := Lib.hid (mnt_no hok)
    obtain ⟨d0, d1, fd0, fd1⟩ := blk2 HR2.out
    go_wp2
    refine bodyPost_ret (v := .agg #[.slice none 0 0, .int .i64 1]) (by simp [results, Tryz.results18, go_sem, d0, d1]) rfl ?_
    rw [HC.out.1, HC.out.2]
    exact ⟨none, 0, rfl, ow_nilR _ _ _ _, (HB2.out.setCell (by dsimp only; omega) _).setCell (by dsimp only; omega) _⟩
end Go.Proofs.YtloaeglmngcenaaGreatDoor

namespace Go.Proofs.YtloaeglmngcenaaGreatDoor
open Bt (Rc)

theorem filter_put_in {q : Int} {r : Rc} (h : q < r.q) : ∀ l : List Rc, (put l r).filter (fun a => decide (q < a.q)) = put (l.filter fun a => decide (q < a.q)) r
  | [] => by simp [put, h]
  | a :: l => by
    have ih := filter_put_in h l
    by_cases h1 : a.q < r.q
    · rw [put, if_pos h1]
      by_cases hp : q < a.q
      · rw [List.filter_cons_of_pos (by simpa using hp), List.filter_cons_of_pos (by simpa using hp), ih, put, if_pos h1]
      · rw [List.filter_cons_of_neg (by simpa using hp), List.filter_cons_of_neg (by simpa using hp), ih]
    · have hp : q < a.q := by omega
      rw [List.filter_cons_of_pos (l := l) (by simpa using hp)]
      by_cases h2 : a.q = r.q
      · rw [put, if_neg h1, if_pos h2, put, if_neg h1, if_pos h2, List.filter_cons_of_pos (by simpa using hp)]
      · rw [put, if_neg h1, if_neg h2, put, if_neg h1, if_neg h2, List.filter_cons_of_pos (by simpa using h), List.filter_cons_of_pos (by simpa using hp)]
theorem filter_put_out {q : Int} {r : Rc} (h : ¬ q < r.q) : ∀ l : List Rc, (put l r).filter (fun a => decide (q < a.q)) = l.filter fun a => decide (q < a.q)
  | [] => by simp [put, h]
  | a :: l => by
    have ih := filter_put_out h l
    by_cases h1 : a.q < r.q
    · have hp : ¬ q < a.q := by omega
      rw [put, if_pos h1, List.filter_cons_of_neg (by simpa using hp), List.filter_cons_of_neg (by simpa using hp), ih]
    · by_cases h2 : a.q = r.q
      · rw [put, if_neg h1, if_pos h2]
      · rw [put, if_neg h1, if_neg h2, List.filter_cons_of_neg (by simpa using h)]
theorem put_behindL {r : Rc} : ∀ (H L : List Rc), (∀ a ∈ H, a.q < r.q) → put (H ++ L) r = H ++ put L r
  | [], L, _ => rfl
  | a :: H, L, h => by
    rw [List.cons_append, put, if_pos (h a (by simp)), put_behindL H L (fun b hb => h b (by simp [hb]))]; rfl
/-- what the records of a chip add to a checkpoint's: the later ones -/
def laterOf (q : Int) (l : List Rc) : List Rc := l.filter fun a => decide (q < a.q)
theorem laterOf_len (q : Int) (l : List Rc) : (laterOf q l).length ≤ l.length := List.length_filter_le _ _
theorem laterOf_nil (q : Int) : laterOf q [] = [] := rfl
theorem laterOf_yes {q : Int} {l : List Rc} {k : Nat} (hk : k < l.length) (h : q < (l.getD k Rc.zero).q) : laterOf q (l.take (k + 1)) = laterOf q (l.take k) ++ [l.getD k Rc.zero] := by
  unfold laterOf
  rw [List.take_succ_eq_append_getElem hk, List.filter_append]
  have e : l.getD k Rc.zero = l[k] := by rw [List.getD_eq_getElem?_getD, List.getElem?_eq_getElem hk]; rfl
  rw [e] at h ⊢
  rw [List.filter_cons_of_pos (by simpa using h)]; rfl
theorem laterOf_no {q : Int} {l : List Rc} {k : Nat} (hk : k < l.length) (h : ¬ q < (l.getD k Rc.zero).q) : laterOf q (l.take (k + 1)) = laterOf q (l.take k) := by
  unfold laterOf
  rw [List.take_succ_eq_append_getElem hk, List.filter_append]
  have e : l.getD k Rc.zero = l[k] := by rw [List.getD_eq_getElem?_getD, List.getElem?_eq_getElem hk]; rfl
  rw [e] at h
  rw [List.filter_cons_of_neg (by simpa using h)]; simp
/-- the records of a checkpoint come no later than its last -/
theorem le_last {H : List Rc} (hH : hRight H = true) : ∀ a ∈ H, a.q ≤ (lastR H).q := by
  intro a ha
  obtain ⟨i, hi, rfl⟩ := List.getElem_of_mem ha
  have e : H[i] = H.getD i Rc.zero := by rw [List.getD_eq_getElem?_getD, List.getElem?_eq_getElem hi]; rfl
  rw [e]
  unfold lastR
  by_cases h : i = H.length - 1
  · subst h; exact Int.le_refl _
  · exact Int.le_of_lt (prev_lt hH (show i < H.length - 1 by omega) (by omega))
/-- what MountWith makes of a checkpoint's records and a chip's, so far -/
def cwk (H : List Rc) (X : List Bk) (i : Nat) (ps : List Pg) (k : Nat) : List Rc := H ++ laterOf (lastR H).q (mtk X i ps k)
def cwn (H : List Rc) (X : List Bk) (i : Nat) : List Rc := H ++ laterOf (lastR H).q (mnt (recsTo X i))
theorem cwk_zero (H : List Rc) (X : List Bk) (i : Nat) (ps : List Pg) : cwk H X i ps 0 = cwn H X i := by unfold cwk cwn; rw [mtk_zero]
theorem cwk_end {H : List Rc} {X : List Bk} {i : Nat} (h : (X.getD i zeroBk).pages.length = 4) : cwk H X i (X.getD i zeroBk).pages 4 = cwn H X (i + 1) := by unfold cwk cwn; rw [mtk_end h]
theorem cwn_zero (H : List Rc) (X : List Bk) : cwn H X 0 = H := by unfold cwn; simp [recsTo, mnt, laterOf]
theorem cwk_unused {H : List Rc} {X : List Bk} {i : Nat} {ps : List Pg} {k : Nat} (h : (ps.getD k zeroPg).used = false) : cwk H X i ps (k + 1) = cwk H X i ps k := by unfold cwk; rw [mtk_unused h]
theorem cwk_no {H : List Rc} {X : List Bk} {i : Nat} {ps : List Pg} {k : Nat} (hk : k < 4) (hok : PgsOk ps) (h : (ps.getD k zeroPg).used = true) (hr : (Bt.recRead (ps.getD k zeroPg).data).2 ≠ 0) : cwk H X i ps (k + 1) = cwk H X i ps k := by unfold cwk; rw [mtk_no hk hok h hr]
theorem cwk_old {H : List Rc} {X : List Bk} {i : Nat} {ps : List Pg} {k : Nat} (hk : k < 4) (hok : PgsOk ps) (h : (ps.getD k zeroPg).used = true) (hr : (Bt.recRead (ps.getD k zeroPg).data).2 = 0) (hq : ¬ (lastR H).q < (Bt.recRead (ps.getD k zeroPg).data).1.q) : cwk H X i ps (k + 1) = cwk H X i ps k := by
  unfold cwk laterOf; rw [mtk_yes hk hok h hr, filter_put_out hq]
theorem cwk_late {H : List Rc} (hH : hRight H = true) {X : List Bk} {i : Nat} {ps : List Pg} {k : Nat} (hk : k < 4) (hok : PgsOk ps) (h : (ps.getD k zeroPg).used = true) (hr : (Bt.recRead (ps.getD k zeroPg).data).2 = 0) (hq : (lastR H).q < (Bt.recRead (ps.getD k zeroPg).data).1.q) : cwk H X i ps (k + 1) = put (cwk H X i ps k) (Bt.recRead (ps.getD k zeroPg).data).1 := by
  unfold cwk laterOf
  rw [mtk_yes hk hok h hr, filter_put_in hq, put_behindL H _ fun a ha => by have := le_last hH a ha; omega]
theorem cwk_len {H : List Rc} (hH : hRight H = true) {X : List Bk} (hok : NdOk X) {i : Nat} (hi : i < X.length) {ps : List Pg} (hp : ps.length = 4) (k : Nat) : (cwk H X i ps k).length ≤ 96 := by
  unfold cwk
  have h1 := mtk_len hok hi hp k
  have h2 := hRight_len hH
  have h3 := laterOf_len (lastR H).q (mtk X i ps k)
  rw [List.length_append]; omega
/-- the records that MountWith takes -/
def cwOf (H : List Rc) (X : List Bk) : List Rc := cwn H X X.length
theorem cwOf_small {H : List Rc} (hH : hRight H = true) {X : List Bk} (hok : NdOk X) : (cwOf H X).length ≤ 96 ∧ ∀ r ∈ cwOf H X, r.Ok := by
  have h1 := mnt_upto hok X.length (Nat.le_refl _)
  have h2 := hRight_len hH
  have h3 := laterOf_len (lastR H).q (mnt (recsTo X X.length))
  refine ⟨by unfold cwOf cwn; rw [List.length_append]; omega, fun r hr => ?_⟩
  unfold cwOf cwn laterOf at hr
  rcases List.mem_append.1 hr with hr | hr
  · obtain ⟨i, hi, rfl⟩ := List.getElem_of_mem hr
    have := (hRight_at hH hi).1
    rwa [List.getD_eq_getElem?_getD, List.getElem?_eq_getElem hi] at this
  · exact h1.2 r (List.mem_filter.1 hr).1
theorem cwOf_smallR {H : List Rc} (hH : hRight H = true) {X : List Bk} (hok : NdOk X) : SmallR (cwOf H X) := by
  obtain ⟨h1, h2⟩ := cwOf_small hH hok
  refine ⟨by omega, fun r hr => ?_⟩
  have := (h2 r hr).2.2.2.2.2.2.2.2.2.2.1
  omega
end Go.Proofs.YtloaeglmngcenaaGreatDoor

namespace Go.Proofs.YtloaeglmngcenaaGreatDoor
open Bt (Rc)

/-- both arguments are valid -/
noncomputable def mwGo (X : List Bk) (a b : ByteArray) : Bool := ndB X && slotB a b
/-- the checkpoint serves -/
noncomputable def mwCk (X : List Bk) (a b : ByteArray) : Bool := decide (cbCode a b = 0) && hRight (cwOf (cbList a b) X)
/-- the code of MountWith, and its records -/
noncomputable def mwCode (X : List Bk) (a b : ByteArray) : Int := if mwGo X a b = true then (if mwCk X a b = true then 0 else mntCode X) else 1
noncomputable def mwList (X : List Bk) (a b : ByteArray) : List Rc := if mwGo X a b = true then (if mwCk X a b = true then cwOf (cbList a b) X else mntList X) else []
theorem mwGo_yes {X : List Bk} {a b : ByteArray} (h : NdOk X) (hs : slotB a b = true) : mwGo X a b = true := by unfold mwGo; rw [ndB_yes h, hs]; rfl
theorem mw_noNand {X : List Bk} {a b : ByteArray} (h : ¬ NdOk X) : mwCode X a b = 1 ∧ mwList X a b = [] := by
  have e : mwGo X a b = false := by unfold mwGo; rw [ndB_no h]; rfl
  unfold mwCode mwList; rw [e]; exact ⟨rfl, rfl⟩
theorem mw_noSlots {X : List Bk} {a b : ByteArray} (h : slotB a b = false) : mwCode X a b = 1 ∧ mwList X a b = [] := by
  have e : mwGo X a b = false := by unfold mwGo; rw [h, Bool.and_false]
  unfold mwCode mwList; rw [e]; exact ⟨rfl, rfl⟩
theorem mw_noCk {X : List Bk} {a b : ByteArray} (h : NdOk X) (hs : slotB a b = true) (hc : cbCode a b ≠ 0) : mwCode X a b = mntCode X ∧ mwList X a b = mntList X := by
  have e : mwCk X a b = false := by unfold mwCk; rw [decide_eq_false hc]; rfl
  unfold mwCode mwList; rw [mwGo_yes h hs, e]; exact ⟨rfl, rfl⟩
theorem mw_bad {X : List Bk} {a b : ByteArray} (h : NdOk X) (hs : slotB a b = true) (hr : hRight (cwOf (cbList a b) X) = false) : mwCode X a b = mntCode X ∧ mwList X a b = mntList X := by
  have e : mwCk X a b = false := by unfold mwCk; rw [hr, Bool.and_false]
  unfold mwCode mwList; rw [mwGo_yes h hs, e]; exact ⟨rfl, rfl⟩
theorem mw_ck {X : List Bk} {a b : ByteArray} (h : NdOk X) (hs : slotB a b = true) (hc : cbCode a b = 0) (hr : hRight (cwOf (cbList a b) X) = true) : mwCode X a b = 0 ∧ mwList X a b = cwOf (cbList a b) X := by
  have e : mwCk X a b = true := by unfold mwCk; rw [hr, decide_eq_true hc]; rfl
  unfold mwCode mwList; rw [mwGo_yes h hs, e]; exact ⟨rfl, rfl⟩
theorem mwList_len (X : List Bk) (a b : ByteArray) : (mwList X a b).length ≤ 48 := by
  unfold mwList
  split
  · split
    · rename_i h
      unfold mwCk at h
      exact hRight_len (by simp only [Bool.and_eq_true] at h; exact h.2)
    · exact mntList_len X
  · simp
theorem cb_right {a b : ByteArray} (hs : slotB a b = true) (h : cbCode a b = 0) : hRight (cbList a b) = true := by
  by_cases hc : ckCode (ckTxt a b) = 0
  · rw [(cb_ok hs hc).2.2]; exact ((ck_facts _).1 hc).2.2
  · rw [(cb_none hs hc).1] at h; cases h
end Go.Proofs.YtloaeglmngcenaaGreatDoor

namespace Go.Proofs.YtloaeglmngcenaaGreatDoor
open Go.RowKit
open Bt (Rc)

set_option maxHeartbeats 1000000 in
theorem isNaN64_any (x : Int) (w : World) : Calls Tryz.prog 258 #[.int .i64 x] w fun e w' => e = .returned (.bool false) ∧ w' = w := by
  go_enter Tryz.func258, Tryz.ntmps258
  go_wp2
  go_ret
  exact ⟨by simp, rfl⟩

set_option maxHeartbeats 1000000 in
theorem compare64_any (x y : Int) (w : World) : Calls Tryz.prog 217 #[.int .i64 x, .int .i64 y] w fun e w' => e = .returned (.int .i64 (Lib.compareInt x y)) ∧ w' = w := by
  have HC : Hid (Lib.compareInt x y = if x < y then -1 else if x > y then 1 else 0) := Lib.hid rfl
  generalize Lib.compareInt x y = r at HC ⊢
  go_enter Tryz.func217, Tryz.ntmps217
  go_wp2_with fail
  refine (isNaN64_any x w).mono ?_
  rintro e w1 ⟨rfl, rfl⟩
  go_wp2_with fail
  refine (isNaN64_any y w1).mono ?_
  rintro e w2 ⟨rfl, rfl⟩
  by_cases h1 : x < y
  · have h1' : decide (x < y) = true := decide_eq_true h1
    have HR : Hid (r = -1) := by show _ = _; rw [HC.out, if_pos h1]
    clear HC
    go_wp2
    go_ret
    exact ⟨by rw [HR.out]; rfl, rfl⟩
  · have h1' : decide (x < y) = false := decide_eq_false h1
    by_cases h2 : x > y
    · have h2' : decide (y < x) = true := decide_eq_true h2
      have HR : Hid (r = 1) := by show _ = _; rw [HC.out, if_neg h1, if_pos h2]
      clear HC
      go_wp2
      go_ret
      exact ⟨by rw [HR.out]; rfl, rfl⟩
    · have h2' : decide (y < x) = false := decide_eq_false h2
      have HR : Hid (r = 0) := by show _ = _; rw [HC.out, if_neg h1, if_neg h2]
      clear HC
      go_wp2
      go_ret
      exact ⟨by rw [HR.out]; rfl, rfl⟩

set_option maxHeartbeats 1000000 in
theorem firstRecs1_any (a b : Rc) (w : World) : Calls Tryz.prog 216 #[recV a, recV b] w fun e w' => e = .returned (.int .i64 (Lib.compareInt a.q b.q)) ∧ w' = (w.alloc (.cells (recC a).toArray 34)).alloc (.cells (recC b).toArray 34) := by
  obtain ⟨r, hr⟩ : ∃ r, r = Lib.compareInt a.q b.q := ⟨_, rfl⟩
  have HC : Hid (∀ W, Calls Tryz.prog 217 #[.int .i64 a.q, .int .i64 b.q] W fun e w' => e = .returned (.int .i64 r) ∧ w' = W) := fun W => by rw [hr]; exact compare64_any a.q b.q W
  rw [← hr]
  clear hr
  go_enter Tryz.func216, Tryz.ntmps216
  go_wp2_with fail
  refine (HC.out _).mono ?_
  rintro e w1 ⟨rfl, rfl⟩
  go_wp2
  go_ret
  exact ⟨rfl, rfl⟩
end Go.Proofs.YtloaeglmngcenaaGreatDoor

namespace Go.Proofs.YtloaeglmngcenaaGreatDoor
open Go.RowKit Go.Shelf Go.ChangeShapes
open Bt (Rc)
attribute [local go_sem] Oper.semAt_some

/-- the places of a Seq -/
def plc (R : List (Int × Rc)) (q : Int) : List Int := (R.filter (fun x => x.2.q == q)).map (·.1)
theorem plc_same {R : List (Int × Rc)} {x : Int × Rc} : plc (R ++ [x]) x.2.q = plc R x.2.q ++ [x.1] := by simp [plc]
theorem plc_other {R : List (Int × Rc)} {x : Int × Rc} {q : Int} (h : q ≠ x.2.q) : plc (R ++ [x]) q = plc R q := by
  simp [plc, Ne.symm h]
theorem plc_len (R : List (Int × Rc)) (q : Int) : (plc R q).length ≤ R.length := by
  unfold plc; rw [List.length_map]; exact List.length_filter_le _ _
/-- a row of numbers as a datum: nil where there are none -/
def rowOf : List Int → DataW Unit
  | [] => .nil
  | l => .slice (lits .i64 l) []
theorem rowOf_snoc (l : List Int) (x : Int) : rowOf (l ++ [x]) = .slice (lits .i64 (l ++ [x])) [] := by cases l <;> rfl
theorem lits_inj {q : IntKind} {a b : List Int} (h : (lits q a : List (DataW Unit)) = lits q b) : a = b := by
  unfold lits at h
  exact (List.map_inj_right (fun x y hxy => by cases hxy; rfl)).1 h
/-- what a slice of the map owns is the row that the datum tells -/
theorem row_is {w : World} {base : Nat} {e : TypeId} {v : Value} {zs l : List Int} (ho : w.ownsInts base e .i64 v zs) (h : rowOf l = rowDatum .i64 v zs) : zs = l := by
  rcases ho.datum (H := Unit) with ⟨h1, h2⟩ | h1
  · rw [h1] at h
    cases l with
    | nil => exact h2
    | cons a l => cases h
  · rw [h1] at h
    cases l with
    | nil => cases h
    | cons a l => simp only [rowOf, DataW.slice.injEq] at h; exact (lits_inj h.1).symm
theorem zeroRow (w : World) : (zeroValue 48).run Tryz.prog w = .ok (.slice none 0 0) w := by kernel_rfl
theorem info_i64 : (Tryz.prog.info? 2).map (fun i => (i.zero, i.size, i.bytes)) = some (some (.int .i64 0), 1, 8) := by kernel_rfl
/-- the map holds the places of each Seq -/
def Tells (D : DataW Unit) (R : List (Int × Rc)) : Prop := Maps.IsMap D ∧ ∀ q, D.atKey (.int .i64 q) .nil = rowOf (plc R q)
theorem tells_none : Tells (.map []) [] := ⟨Maps.isMap_empty, fun _ => rfl⟩
theorem Tells.put {D : DataW Unit} {R : List (Int × Rc)} (h : Tells D R) (x : Int × Rc) : Tells (D.put (.int .i64 x.2.q) (.slice (lits .i64 (plc R x.2.q ++ [x.1])) [])) (R ++ [x]) := by
  refine ⟨h.1.put _ _, fun q => ?_⟩
  by_cases e : q = x.2.q
  · subst e
    rw [Maps.atKey_put_same h.1 (show WideAt.IsKeyLit (.int .i64 x.2.q) from trivial), plc_same, rowOf_snoc]
  · rw [Maps.atKey_put_other (by simpa using e), h.2 q, plc_other e]
/-- a map of rows through what others do -/
theorem groups_kept {w w' : World} {row : Option Nat} {P : Program} {k e : TypeId} {base b n : Nat} {D : DataW Unit} (h : w.ownsGroups P k base e .i64 b n D) (hg : w.grownBy w' row) (hb : some b ≠ row) (hr : ∀ r, row = some r → ∃ o : Obj, w.heap[r]? = some o ∧ o.isCells = false) : w'.ownsGroups P k base e .i64 b n D := by
  have h' := h
  refine h.kept hg hb (fun es clock hbb x hx => ?_)
  obtain ⟨es', clock', hb', F, -⟩ := h'
  obtain ⟨rfl, rfl⟩ : es' = es ∧ clock' = clock := by rw [hb'] at hbb; simpa using hbb
  obtain ⟨y, hy⟩ := F.reads x hx
  obtain ⟨z, hz, _⟩ := WideElems.rd_val hy
  obtain ⟨zs, hoi, _⟩ := rowElem_inv hz
  rcases hoi.1.2 with ⟨hv, -⟩ | ⟨g, cap, cur, hv, -, hgb, -⟩
  · rw [hv]; exact .inl rfl
  · refine .inr fun e' => ?_
    obtain ⟨o, ho, hc⟩ := hr g (by rw [hv] at e'; simpa [Value.ownBlock] using e'.symm)
    rw [hgb] at ho; cases ho; cases hc

theorem groups_alloc {w : World} {P : Program} {k e : TypeId} {base b n : Nat} {D : DataW Unit} (h : w.ownsGroups P k base e .i64 b n D) (o : Obj) : (w.alloc o).ownsGroups P k base e .i64 b n D :=
  groups_kept h (World.grownBy_alloc _ _ none) (by simp) (fun r e => by cases e)
theorem groups_drew {w : World} {P : Program} {k e : TypeId} {base b n : Nat} {D : DataW Unit} (h : w.ownsGroups P k base e .i64 b n D) : w.drew.ownsGroups P k base e .i64 b n D :=
  groups_kept h (gby_below ((Below.refl _ _).drew)) (by simp) (fun r e => by cases e)
/-- what a round of the map leaves as it was -/
theorem groups_others {W U w1 w2 : World} {base b : Nat} {v : Value} {zs : List Int} (hU : Below W.heap.size W U) (hoi : U.ownsInts base 2 .i64 v zs) (hg1 : U.grownBy w1 v.ownBlock) (hg2 : w1.grownBy w2 (some b)) (j : Nat) (o : Obj) (hj : W.heap[j]? = some o) (ho : ∀ c r, o ≠ .cells c 2 r) (hb : j ≠ b) : w2.heap[j]? = some o := by
  have hlt := lt_of_block hj
  have h1 : U.heap[j]? = some o := (hU.block j hlt).trans hj
  have h2 : w1.heap[j]? = some o := by
    refine (hg1.block j (lt_of_block h1) (fun e => ?_)).trans h1
    rcases hoi.1.2 with ⟨hv, -⟩ | ⟨g, cap, cur, hv, -, hgb, -⟩
    · rw [hv] at e; cases e
    · rw [hv] at e
      have e' : j = g := by simpa [Value.ownBlock] using e
      subst e'
      rw [h1] at hgb
      exact ho _ _ (Option.some.inj hgb)
  exact (hg2.block j (lt_of_block h2) (fun e => hb (by simpa using e))).trans h2
theorem groups_step {W U w1 w2 : World} {n₀ bs B S base b : Nat} {v vb vn : Value} {zs : List Int} (hU : Below W.heap.size W U) (hoi : U.ownsInts base 2 .i64 v zs) (hg1 : U.grownBy w1 v.ownBlock) (hg2 : w1.grownBy w2 (some b))
    (hn : n₀ ≤ W.heap.size) (hnb : n₀ ≤ base) (hn0 : n₀ ≤ b) (hbS : b < S) (hm : ∃ es ck, W.heap[b]? = some (.map es ck)) (hbs : Boxed W bs 25 vn) (hbx : Boxed W B 123 vb) :
    KpR n₀ bs W w2 ∧ KeepsFrom S W w2 ∧ Boxed w2 B 123 vb := by
  obtain ⟨es, ck, hm⟩ := hm
  have hne : ∀ (j : Nat) (c : Array Value) (t : TypeId) (r : Nat × Nat), W.heap[j]? = some (.cells c t r) → j ≠ b := fun j c t r h e => by subst e; rw [hm] at h; cases h
  refine ⟨⟨?_, ?_, ?_⟩, ⟨?_, ?_⟩, ?_⟩
  · exact ((hU.mono hn).grown hg1 (Nat.le_trans hn hU.size) (fun k e => Nat.le_trans hnb (hoi.1.lt k e).1)).grown hg2 (Nat.le_trans hn (Nat.le_trans hU.size hg1.size)) (fun k e => by cases e; exact hn0)
  · have h : W.heap[bs]? = some (.cells #[vn] 25 (0, 0)) := hbs
    rw [h]
    exact groups_others hU hoi hg1 hg2 bs _ h (fun c r e => by cases e) (hne _ _ _ _ h)
  · intro j c r h
    rw [h]
    exact groups_others hU hoi hg1 hg2 j _ h (fun c r e => by cases e) (hne _ _ _ _ h)
  · exact Nat.le_trans hU.size (Nat.le_trans hg1.size hg2.size)
  · intro k o hB hk ho
    exact groups_others hU hoi hg1 hg2 k _ hk (fun c r e => by subst e; cases ho) (by omega)
  · have h : W.heap[B]? = some (.cells #[vb] 123 (0, 0)) := hbx
    exact groups_others hU hoi hg1 hg2 B _ h (fun c r e => by cases e) (hne _ _ _ _ h)

/-- what a round has done of 'places[r.Seq] = append(places[r.Seq], place)' -/
def PlDone (W : World) (base b m : Nat) (D : DataW Unit) (q p : Int) (t : Obj) (L : Array Bool) (s17 s20 : Value) (w : World) : Prop :=
  (¬ Dn L 6 ∧ ¬ Dn L 9 ∧ ¬ Dn L 10 ∧ ((¬ Dn L 8 ∧ w = W.drew) ∨ (Dn L 8 ∧ w = W.drew.alloc t))) ∨
  (Dn L 6 ∧ ¬ Dn L 9 ∧ ¬ Dn L 10 ∧ ((¬ Dn L 8 ∧ w = W.drew) ∨ (Dn L 8 ∧ w = W.drew.alloc t)) ∧
    ∃ V zs, Below W.heap.size W V ∧ V.grownBy w s17.ownBlock ∧ V.ownsInts base 2 .i64 s17 zs ∧ w.ownsInts base 2 .i64 s17 zs ∧ D.atKey (.int .i64 q) .nil = rowDatum .i64 s17 zs ∧ zs.length ≤ m ∧ V.groupBack Tryz.prog 123 2 base 2 .i64 b m D (.int .i64 q) (.int .i64 q) s17) ∨
  (Dn L 9 ∧ ¬ Dn L 10 ∧ ∃ V v zs, Below W.heap.size W V ∧ V.grownBy w v.ownBlock ∧ V.ownsInts base 2 .i64 v zs ∧ w.ownsInts base 2 .i64 s20 (zs ++ [p]) ∧ D.atKey (.int .i64 q) .nil = rowDatum .i64 v zs ∧ zs.length ≤ m ∧ V.groupBack Tryz.prog 123 2 base 2 .i64 b m D (.int .i64 q) (.int .i64 q) v ∧
    (s20.ownBlock = v.ownBlock ∨ ∃ g, s20.ownBlock = some g ∧ V.heap.size ≤ g)) ∨
  (Dn L 10 ∧ ∃ V v zs w1, Below W.heap.size W V ∧ V.grownBy w1 v.ownBlock ∧ V.ownsInts base 2 .i64 v zs ∧ w1.grownBy w (some b) ∧ D.atKey (.int .i64 q) .nil = rowDatum .i64 v zs ∧ w.ownsGroups Tryz.prog 2 base 2 .i64 b (m + 1) (D.put (.int .i64 q) (.slice (lits .i64 (zs ++ [p])) [])))
def PlInv (Fr : Value → Value → Value → Value → Value → Value → Value → Value → Value → Value → Act) (W : World) (Bx base b m : Nat) (D : DataW Unit) (q p : Int) (t : Obj) (L : Array Bool) (a : Act) (w : World) : Prop :=
  L.size = 11 ∧ (Dn L 10 → ∀ j, j < 10 → Dn L j) ∧ (Dn L 9 → Dn L 6 ∧ Dn L 8) ∧ ∃ s11 s12 s13 s14 s15 s16 s17 s18 s19 s20, a = Fr s11 s12 s13 s14 s15 s16 s17 s18 s19 s20 ∧
    (Dn L 0 → s11 = .map (some b)) ∧ (Dn L 1 → s12 = .pointer (some ⟨Bx, 2, none⟩)) ∧ (Dn L 2 → s13 = .int .i64 q) ∧ (Dn L 3 → s14 = .map (some b)) ∧ (Dn L 4 → s15 = .pointer (some ⟨Bx, 2, none⟩)) ∧ (Dn L 5 → s16 = .int .i64 q) ∧
    (Dn L 7 → s18 = .int .i64 p) ∧ (Dn L 8 → s19 = .slice (some ⟨W.heap.size, 0, none⟩) 1 1) ∧ PlDone W base b m D q p t L s17 s20 w
/-- a block of another kind through all but the last step -/
theorem PlDone.old {W w : World} {base b m : Nat} {D : DataW Unit} {q p : Int} {t : Obj} {L : Array Bool} {s17 s20 : Value} (h : PlDone W base b m D q p t L s17 s20 w) (hn : ¬ Dn L 10) (j : Nat) (o : Obj) (hj : W.heap[j]? = some o) (ho : ∀ c r, o ≠ .cells c 2 r) : w.heap[j]? = some o := by
  have hlt := lt_of_block hj
  have hA : W.drew.heap[j]? = some o := hj
  have hB : (W.drew.alloc t).heap[j]? = some o := (Below.heap_alloc _ _ _ hlt).trans hj
  rcases h with ⟨-, -, -, h⟩ | ⟨-, -, -, h, -⟩ | ⟨-, -, V, v, zs, hV, hg, hoi, -⟩ | ⟨h, -⟩
  · rcases h with ⟨-, rfl⟩ | ⟨-, rfl⟩
    · exact hA
    · exact hB
  · rcases h with ⟨-, rfl⟩ | ⟨-, rfl⟩
    · exact hA
    · exact hB
  · have h1 : V.heap[j]? = some o := (hV.block j hlt).trans hj
    refine (hg.block j (lt_of_block h1) (fun e => ?_)).trans h1
    rcases hoi.1.2 with ⟨hv, -⟩ | ⟨g, cap, cur, hv, -, hgb, -⟩
    · rw [hv] at e; cases e
    · rw [hv] at e
      have e' : j = g := by simpa [Value.ownBlock] using e
      subst e'
      rw [h1] at hgb
      exact ho _ _ (Option.some.inj hgb)
  · exact absurd h hn
/-- steps that only read -/
theorem PlDone.still {W w : World} {base b m : Nat} {D : DataW Unit} {q p : Int} {t : Obj} {L : Array Bool} {s17 s20 : Value} (h : PlDone W base b m D q p t L s17 s20 w) {i : Nat} (h6 : i ≠ 6) (h8 : i ≠ 8) (h9 : i ≠ 9) (h10 : i ≠ 10) : PlDone W base b m D q p t (L.setIfInBounds i true) s17 s20 w := by
  have k8 : ((¬ Dn L 8 ∧ w = W.drew) ∨ (Dn L 8 ∧ w = W.drew.alloc t)) → ((¬ Dn (L.setIfInBounds i true) 8 ∧ w = W.drew) ∨ (Dn (L.setIfInBounds i true) 8 ∧ w = W.drew.alloc t)) :=
    fun h => h.imp (fun ⟨a, b⟩ => ⟨Dn.other (Ne.symm h8) a, b⟩) (fun ⟨a, b⟩ => ⟨a.stay, b⟩)
  rcases h with ⟨a6, a9, a10, h⟩ | ⟨a6, a9, a10, h, r⟩ | ⟨a9, a10, r⟩ | ⟨a10, r⟩
  · exact .inl ⟨Dn.other (Ne.symm h6) a6, Dn.other (Ne.symm h9) a9, Dn.other (Ne.symm h10) a10, k8 h⟩
  · exact .inr (.inl ⟨a6.stay, Dn.other (Ne.symm h9) a9, Dn.other (Ne.symm h10) a10, k8 h, r⟩)
  · exact .inr (.inr (.inl ⟨a9.stay, Dn.other (Ne.symm h10) a10, r⟩))
  · exact .inr (.inr (.inr ⟨a10.stay, r⟩))

set_option maxRecDepth 100000 in
set_option maxHeartbeats 4000000 in
theorem placesBySeq_any (A : Option Addr) (n ca : Nat) (X : List Bk) (w : World) (hok : NdOk X) (hG : ErrType w) (hA : RdBk w w.heap.size A n X) :
    Calls Tryz.prog 90 #[.agg #[.slice A n ca]] w fun e w' => ∃ (b base : Nat) (D : DataW Unit), e = .returned (.map (some b)) ∧ w'.ownsGroups Tryz.prog 2 base 2 .i64 b (recsTo X n).length D ∧ Tells D (recsTo X n) ∧ w.heap.size ≤ b ∧ Below w.heap.size w w' := by
  have hE : 3 < w.heap.size := World.block_lt_of_cell? w _ hG
  have HLEN : Hid ((recsTo X n).length ≤ 48) := by
    have h1 := recsTo_len hok n (by rw [hA.1]; exact Nat.le_refl _); have h2 := hok.1.2; have h3 := hA.1
    show _ ≤ _; omega
  have HGD := Lib.hid (map_nz (recsTo_good hok n (by rw [hA.1]; exact Nat.le_refl _)))
  have HA := Lib.hid hA; have HG := Lib.hid hG; have HOK := Lib.hid hok
  clear hA hG hok
  obtain ⟨i0, hi, hz0, hz1, hz2⟩ := info_parts info_i64
  have Hi := Lib.hid hi; have Z0 := Lib.hid hz0; have Z1 := Lib.hid hz1; have Z2 := Lib.hid hz2
  clear hi hz0 hz1 hz2
  have hmm := @run_makeMap Tryz.prog
  refine (callsIn_wide (n := 3)).1 ?_
  refine callsIn_of_wp_marks Tryz.func90 rfl trivial ?_ rfl
  simp only [Tryz.ntmps90, List.size_toArray, List.length_cons, List.length_nil, Nat.reduceAdd, Nat.reduceSub, Array.replicate_succ, Array.replicate_zero, List.push_toArray, List.append_toArray, List.nil_append, List.cons_append]
  gi_wp2_with fail
  refine ⟨trivial, ?_⟩
  refine (callsIn_wide.2 (recsOn_any A n ca _)).mono ?_
  rintro e w3 ⟨rfl, rfl⟩
  have hm0 := groups_alloc (groups_alloc (World.ownsGroups_made (H := Unit) (w.alloc (.cells #[.slice A n ca] 25)) Tryz.prog 2 2 .i64) (.cells #[.map (some (w.heap.size + 1))] 123)) (.cells #[.slice A n ca] 25)
  have bS := (Boxed.new ((w.alloc (.cells #[.slice A n ca] 25)).alloc (.map #[] 0)) 123 (.map (some (w.heap.size + 1)))).alloc (.cells #[.slice A n ca] 25)
  have bN := Boxed.new (((w.alloc (.cells #[.slice A n ca] 25)).alloc (.map #[] 0)).alloc (.cells #[.map (some (w.heap.size + 1))] 123)) 25 (.slice A n ca)
  have hB0 : Below w.heap.size w ((((w.alloc (.cells #[.slice A n ca] 25)).alloc (.map #[] 0)).alloc (.cells #[.map (some (w.heap.size + 1))] 123)).alloc (.cells #[.slice A n ca] 25)) := ((((Below.refl _ w).alloc (Nat.le_refl _) _).alloc (by simp) _).alloc (by simp; omega) _).alloc (by simp; omega) _
  have hs0 : ((((w.alloc (.cells #[.slice A n ca] 25)).alloc (.map #[] 0)).alloc (.cells #[.map (some (w.heap.size + 1))] 123)).alloc (.cells #[.slice A n ca] 25)).heap.size = w.heap.size + 4 := by simp
  simp only [World.size_alloc] at bS bN hm0 ⊢
  generalize (((w.alloc (.cells #[.slice A n ca] 25)).alloc (.map #[] 0)).alloc (.cells #[.map (some (w.heap.size + 1))] 123)).alloc (.cells #[.slice A n ca] 25) = W0 at bS bN hB0 hs0 hm0 ⊢
  have hR0 := HA.out.below hB0
  have hG0 := HG.out.below hB0
  gi_wp2
  refine wpIn_rangeFunc_ownH rfl (by omega) (gf := 226) (lb := #[.pointer (some ⟨w.heap.size + 1 + 1 + 1, 0, none⟩)]) rfl trivial (enters_of Tryz.func226 (by kernel_rfl) rfl)
    (recs_stops _ (by omega) (w.heap.size + 1 + 1 + 1) w.heap.size A n ca X W0 HOK.out (by omega) hE hG0 bN hR0) KpR.t (KpR.b (by omega) (by omega)) (Below.refl _ _) (fun _ => rfl)
    (fun pre W => (∃ D, W.ownsGroups Tryz.prog 2 (w.heap.size + 1 + 1) 2 .i64 (w.heap.size + 1) pre.length D ∧ Tells D (pre.map nz) ∧ Boxed W (w.heap.size + 1 + 1) 123 (.map (some (w.heap.size + 1))) ∧ Boxed W (w.heap.size + 1 + 1 + 1) 25 (.slice A n ca)) ∧ (Below w.heap.size w W ∧ W0.heap.size ≤ W.heap.size))
    (fun _ _ _ => False)
    (OwnFrom.and (fun s A' B' row hs hg hr => by
      obtain ⟨D, h1, h2, h3, h4⟩ := hs
      refine ⟨D, groups_kept h1 hg (fun e => ?_) (fun r e => (hr r e).2), h2, h3.kept hg (fun e => ?_), h4.kept hg (fun e => ?_)⟩
      · have := (hr _ e.symm).1; omega
      · have := (hr _ e.symm).1; omega
      · have := (hr _ e.symm).1; omega) (OwnFrom.and (ownFrom_below (Nat.le_refl _) (by omega)) (fun _ _ _ _ hs hg _ => Nat.le_trans hs hg.size)))
    (fun _ _ _ _ _ hs _ _ => hs)
    ⟨⟨_, hm0, tells_none, bS, bN⟩, hB0, Nat.le_refl _⟩
    (fun x a' W => ∃ Bx, W0.heap.size ≤ Bx ∧ IsBlk W Bx 34 (recC (nz x).2) ∧ a' = { tmps := #[.agg #[.slice A n ca], .pointer (some ⟨w.heap.size, 0, none⟩), .map none, .pointer (some ⟨w.heap.size + 1 + 1, 0, none⟩), .int .i64 (nz x).1, .pointer (some ⟨Bx, 0, none⟩), .map (some (w.heap.size + 1)), .agg #[.slice A n ca], .func (.func 226) #[] #[.pointer (some ⟨w.heap.size + 1 + 1 + 1, 0, none⟩)], .int .i64 (nz x).1, recV (nz x).2, undef, undef, undef, undef, undef, undef, undef, undef, undef, undef, undef], defers := [] })
    (fun x a' _ X' Y row hs hg hr => by
      obtain ⟨Bx, h1, h2, h3⟩ := hs
      refine ⟨Bx, h1, (hg.block Bx h2.lt (fun e => ?_)).trans h2, h3⟩
      obtain ⟨o, ho, hc⟩ := (hr Bx e.symm).2
      have h2' : X'.heap[Bx]? = some (.cells (recC (nz x).2).toArray 34 (0, 0)) := h2
      rw [h2'] at ho; cases ho; cases hc)
    ?assign ?body ?done ?stop
  case assign =>
    rintro l pre x W K ⟨⟨D, h1, h2, h3, h4⟩, hB, hz⟩ hK
    gi_wp2
    exact hK _ _ ((KeepsOthers.alloc _ _).from _) (KpR.of_below ((Below.refl _ W).alloc (Nat.le_refl _) _) hB.size h4.lt) ⟨⟨D, groups_alloc h1 _, h2, h3.alloc _, h4.alloc _⟩, hB.alloc hB.size _, by simp; omega⟩ ⟨W.heap.size, hz, isBlk_new W 34 (recC (nz x).2), rfl⟩
  case body =>
    rintro l pre x a' W hl ⟨r, hr⟩ ⟨⟨D, hown, hT, hbx, hbn⟩, hB, hz⟩ ⟨Bx, hBx, kX, rfl⟩ hlt
    have hc := hbx.cell
    obtain ⟨x0, x1, x2, x3, x4, x5⟩ := rcCells kX
    obtain ⟨⟨b1, b2⟩, b3, b4⟩ := nz_bounds x
    have HNX : Hid (Tells D (pre.map nz)) := hT
    have hkey := Maps.keyOf_int_mk Tryz.underlying2 (a := (nz x).2.q) (WalkArith.wf_i64 (by omega))
    have hmx : Tryz.prog.follows .mixedOrders = true := by kernel_rfl
    gi_wp2_with fail
    generalize hQ : (nz x).2 = rec at *
    refine wpIn_region_any hmx (wpAnyIn_inv (PlInv (fun s11 s12 s13 s14 s15 s16 s17 s18 s19 s20 => { tmps := #[.agg #[.slice A n ca], .pointer (some ⟨w.heap.size, 0, none⟩), .map none, .pointer (some ⟨w.heap.size + 1 + 1, 0, none⟩), .int .i64 (nz x).1, .pointer (some ⟨Bx, 0, none⟩), .map (some (w.heap.size + 1)), .agg #[.slice A n ca], .func (.func 226) #[] #[.pointer (some ⟨w.heap.size + 1 + 1 + 1, 0, none⟩)], .int .i64 (nz x).1, recV rec, s11, s12, s13, s14, s15, s16, s17, s18, s19, s20, undef], defers := [] }) W Bx (w.heap.size + 1 + 1) (w.heap.size + 1) pre.length D rec.q (nz x).1 (.cells #[.int .i64 (nz x).1] 2)) ?sz ?step ?rend _ _ _ _ (by decide) ?start)
    case sz => intro L a w h; exact h.1
    case start =>
      refine ⟨rfl, ?_⟩
      simp [Dn]
      refine ⟨_, _, _, _, _, _, _, _, _, _, ⟨rfl, rfl, rfl, rfl, rfl, rfl, rfl, rfl, rfl, rfl⟩, ?_⟩
      exact .inl ⟨by simp [Dn], by simp [Dn], by simp [Dn], .inl ⟨by simp [Dn], rfl⟩⟩
    case step =>
      intro L a' w' hI i o ho hi hL hd
      obtain ⟨hsz, k10, k9, s11, s12, s13, s14, s15, s16, s17, s18, s19, s20, rfl, e0, e1, e2, e3, e4, e5, e7, e8, hS⟩ := hI
      have hcase : i = 0 ∨ i = 1 ∨ i = 2 ∨ i = 3 ∨ i = 4 ∨ i = 5 ∨ i = 6 ∨ i = 7 ∨ i = 8 ∨ i = 9 ∨ i = 10 := by omega
      rcases hcase with rfl | rfl | rfl | rfl | rfl | rfl | rfl | rfl | rfl | rfl | rfl
      · -- operation 0
        refine wpOpIn_of_list ho (by cases ho; rfl) ?_
        cases ho
        have n10 : ¬ Dn L 10 := fun h => Dn.not hi hL (k10 h _ (by decide))
        have hcb : w'.cell? ⟨w.heap.size + 1 + 1, 0, none⟩ = some (.map (some (w.heap.size + 1))) := Boxed.cell (hS.old n10 _ _ hbx (fun c r e => by cases e))
        gi_wp2
        exact ⟨by simp [hsz], fun h j hj => ((k10 ((h.set).resolve_left (by decide))) j hj).stay, fun h => (k9 ((h.set).resolve_left (by decide))).imp Dn.stay Dn.stay, _, _, _, _, _, _, _, _, _, _, rfl, fun _ => rfl, fun h => e1 ((h.set).resolve_left (by decide)), fun h => e2 ((h.set).resolve_left (by decide)), fun h => e3 ((h.set).resolve_left (by decide)), fun h => e4 ((h.set).resolve_left (by decide)), fun h => e5 ((h.set).resolve_left (by decide)), fun h => e7 ((h.set).resolve_left (by decide)), fun h => e8 ((h.set).resolve_left (by decide)), hS.still (by decide) (by decide) (by decide) (by decide)⟩
      · -- operation 1
        refine wpOpIn_of_list ho (by cases ho; rfl) ?_
        cases ho
        gi_wp2
        exact ⟨by simp [hsz], fun h j hj => ((k10 ((h.set).resolve_left (by decide))) j hj).stay, fun h => (k9 ((h.set).resolve_left (by decide))).imp Dn.stay Dn.stay, _, _, _, _, _, _, _, _, _, _, rfl, fun h => e0 ((h.set).resolve_left (by decide)), fun _ => rfl, fun h => e2 ((h.set).resolve_left (by decide)), fun h => e3 ((h.set).resolve_left (by decide)), fun h => e4 ((h.set).resolve_left (by decide)), fun h => e5 ((h.set).resolve_left (by decide)), fun h => e7 ((h.set).resolve_left (by decide)), fun h => e8 ((h.set).resolve_left (by decide)), hS.still (by decide) (by decide) (by decide) (by decide)⟩
      · -- operation 2
        refine wpOpIn_of_list ho (by cases ho; rfl) ?_
        cases ho
        obtain rfl := e1 (hd ⟨1, .data⟩ (by simp) rfl)
        have n10 : ¬ Dn L 10 := fun h => Dn.not hi hL (k10 h _ (by decide))
        have kXw : IsBlk w' Bx 34 (recC rec) := hS.old n10 _ _ kX (fun c r e => by cases e)
        have hcq : w'.cell? ⟨Bx, 2, none⟩ = some (.int .i64 rec.q) := kXw.cell rfl
        gi_wp2
        exact ⟨by simp [hsz], fun h j hj => ((k10 ((h.set).resolve_left (by decide))) j hj).stay, fun h => (k9 ((h.set).resolve_left (by decide))).imp Dn.stay Dn.stay, _, _, _, _, _, _, _, _, _, _, rfl, fun h => e0 ((h.set).resolve_left (by decide)), fun _ => rfl, fun _ => rfl, fun h => e3 ((h.set).resolve_left (by decide)), fun h => e4 ((h.set).resolve_left (by decide)), fun h => e5 ((h.set).resolve_left (by decide)), fun h => e7 ((h.set).resolve_left (by decide)), fun h => e8 ((h.set).resolve_left (by decide)), hS.still (by decide) (by decide) (by decide) (by decide)⟩
      · -- operation 3
        refine wpOpIn_of_list ho (by cases ho; rfl) ?_
        cases ho
        have n10 : ¬ Dn L 10 := fun h => Dn.not hi hL (k10 h _ (by decide))
        have hcb : w'.cell? ⟨w.heap.size + 1 + 1, 0, none⟩ = some (.map (some (w.heap.size + 1))) := Boxed.cell (hS.old n10 _ _ hbx (fun c r e => by cases e))
        gi_wp2
        exact ⟨by simp [hsz], fun h j hj => ((k10 ((h.set).resolve_left (by decide))) j hj).stay, fun h => (k9 ((h.set).resolve_left (by decide))).imp Dn.stay Dn.stay, _, _, _, _, _, _, _, _, _, _, rfl, fun h => e0 ((h.set).resolve_left (by decide)), fun h => e1 ((h.set).resolve_left (by decide)), fun h => e2 ((h.set).resolve_left (by decide)), fun _ => rfl, fun h => e4 ((h.set).resolve_left (by decide)), fun h => e5 ((h.set).resolve_left (by decide)), fun h => e7 ((h.set).resolve_left (by decide)), fun h => e8 ((h.set).resolve_left (by decide)), hS.still (by decide) (by decide) (by decide) (by decide)⟩
      · -- operation 4
        refine wpOpIn_of_list ho (by cases ho; rfl) ?_
        cases ho
        gi_wp2
        exact ⟨by simp [hsz], fun h j hj => ((k10 ((h.set).resolve_left (by decide))) j hj).stay, fun h => (k9 ((h.set).resolve_left (by decide))).imp Dn.stay Dn.stay, _, _, _, _, _, _, _, _, _, _, rfl, fun h => e0 ((h.set).resolve_left (by decide)), fun h => e1 ((h.set).resolve_left (by decide)), fun h => e2 ((h.set).resolve_left (by decide)), fun h => e3 ((h.set).resolve_left (by decide)), fun _ => rfl, fun h => e5 ((h.set).resolve_left (by decide)), fun h => e7 ((h.set).resolve_left (by decide)), fun h => e8 ((h.set).resolve_left (by decide)), hS.still (by decide) (by decide) (by decide) (by decide)⟩
      · -- operation 5
        refine wpOpIn_of_list ho (by cases ho; rfl) ?_
        cases ho
        obtain rfl := e4 (hd ⟨4, .data⟩ (by simp) rfl)
        have n10 : ¬ Dn L 10 := fun h => Dn.not hi hL (k10 h _ (by decide))
        have kXw : IsBlk w' Bx 34 (recC rec) := hS.old n10 _ _ kX (fun c r e => by cases e)
        have hcq : w'.cell? ⟨Bx, 2, none⟩ = some (.int .i64 rec.q) := kXw.cell rfl
        gi_wp2
        exact ⟨by simp [hsz], fun h j hj => ((k10 ((h.set).resolve_left (by decide))) j hj).stay, fun h => (k9 ((h.set).resolve_left (by decide))).imp Dn.stay Dn.stay, _, _, _, _, _, _, _, _, _, _, rfl, fun h => e0 ((h.set).resolve_left (by decide)), fun h => e1 ((h.set).resolve_left (by decide)), fun h => e2 ((h.set).resolve_left (by decide)), fun h => e3 ((h.set).resolve_left (by decide)), fun _ => rfl, fun _ => rfl, fun h => e7 ((h.set).resolve_left (by decide)), fun h => e8 ((h.set).resolve_left (by decide)), hS.still (by decide) (by decide) (by decide) (by decide)⟩
      · -- operation 6
        refine wpOpIn_of_list ho (by cases ho; rfl) ?_
        cases ho
        obtain rfl := e3 (hd ⟨3, .data⟩ (by simp) rfl)
        obtain rfl := e5 (hd ⟨5, .data⟩ (by simp) rfl)
        have n10 : ¬ Dn L 10 := fun h => Dn.not hi hL (k10 h _ (by decide))
        have n9 : ¬ Dn L 9 := fun h => Dn.not hi hL (k9 h).1
        rcases hS with ⟨-, -, -, hw⟩ | ⟨h6, -⟩ | ⟨h9, -⟩ | ⟨h10, -⟩
        rotate_left
        · exact absurd h6 (Dn.not hi hL)
        · exact absurd h9 n9
        · exact absurd h10 n10
        have hwo : w'.ownsGroups Tryz.prog 2 (w.heap.size + 1 + 1) 2 .i64 (w.heap.size + 1) pre.length D := by
          rcases hw with ⟨-, rfl⟩ | ⟨-, rfl⟩
          · exact groups_drew hown
          · exact groups_alloc (groups_drew hown) _
        have hbV : Below W.heap.size W w' := by
          rcases hw with ⟨-, rfl⟩ | ⟨-, rfl⟩
          · exact (Below.refl _ _).drew
          · exact (Below.refl _ _).drew.alloc (Nat.le_refl _) _
        refine wpListIn_lookup_groups _ rfl _ _ 123 rfl 2 48 2 .i64 (Maps.int_keyed Tryz.underlying2) Tryz.underlying123 (zeroRow _) (w.heap.size + 1 + 1) (w.heap.size + 1) pre.length D rfl hwo (by unfold maxLen; omega) _ _ rfl hkey ?_
        intro v zs hat hoi hzl hback
        exact ⟨by simp [hsz], fun h j hj => ((k10 ((h.set).resolve_left (by decide))) j hj).stay, fun h => (k9 ((h.set).resolve_left (by decide))).imp Dn.stay Dn.stay, _, _, _, _, _, _, _, _, _, _, rfl, fun h => e0 ((h.set).resolve_left (by decide)), fun h => e1 ((h.set).resolve_left (by decide)), fun h => e2 ((h.set).resolve_left (by decide)), fun _ => rfl, fun h => e4 ((h.set).resolve_left (by decide)), fun _ => rfl, fun h => e7 ((h.set).resolve_left (by decide)), fun h => e8 ((h.set).resolve_left (by decide)), .inr (.inl ⟨Dn.new hi, Dn.other (by decide) n9, Dn.other (by decide) n10, hw.imp (fun h => ⟨Dn.other (by decide) h.1, h.2⟩) (fun h => ⟨h.1.stay, h.2⟩), w', zs, hbV, ⟨rfl, rfl, rfl, Nat.le_refl _, fun _ _ _ => rfl⟩, hoi, hoi, hat, hzl, hback⟩)⟩
      · -- operation 7
        refine wpOpIn_of_list ho (by cases ho; rfl) ?_
        cases ho
        gi_wp2
        exact ⟨by simp [hsz], fun h j hj => ((k10 ((h.set).resolve_left (by decide))) j hj).stay, fun h => (k9 ((h.set).resolve_left (by decide))).imp Dn.stay Dn.stay, _, _, _, _, _, _, _, _, _, _, rfl, fun h => e0 ((h.set).resolve_left (by decide)), fun h => e1 ((h.set).resolve_left (by decide)), fun h => e2 ((h.set).resolve_left (by decide)), fun h => e3 ((h.set).resolve_left (by decide)), fun h => e4 ((h.set).resolve_left (by decide)), fun h => e5 ((h.set).resolve_left (by decide)), fun _ => rfl, fun h => e8 ((h.set).resolve_left (by decide)), hS.still (by decide) (by decide) (by decide) (by decide)⟩
      · -- operation 8
        refine wpOpIn_of_list ho (by cases ho; rfl) ?_
        cases ho
        obtain rfl := e7 (hd ⟨7, .data⟩ (by simp) rfl)
        have n10 : ¬ Dn L 10 := fun h => Dn.not hi hL (k10 h _ (by decide))
        have n9 : ¬ Dn L 9 := fun h => Dn.not hi hL (k9 h).2
        have n8 : ¬ Dn L 8 := Dn.not hi hL
        obtain rfl : w' = W.drew := by
          rcases hS with ⟨-, -, -, hw⟩ | ⟨-, -, -, hw, -⟩ | ⟨h9, -⟩ | ⟨h10, -⟩
          · exact hw.elim (·.2) (fun h => absurd h.1 n8)
          · exact hw.elim (·.2) (fun h => absurd h.1 n8)
          · exact absurd h9 n9
          · exact absurd h10 n10
        have hS' : PlDone W (w.heap.size + 1 + 1) (w.heap.size + 1) pre.length D rec.q (nz x).1 (.cells #[.int .i64 (nz x).1] 2) (L.setIfInBounds 8 true) s17 s20 (W.drew.alloc (.cells #[.int .i64 (nz x).1] 2)) := by
          rcases hS with ⟨h6, -, -, -⟩ | ⟨h6, -, -, -, V, zs, hV, hg, hoi, hoi', hat, hzl, hback⟩ | ⟨h9, -⟩ | ⟨h10, -⟩
          · exact .inl ⟨Dn.other (by decide) h6, Dn.other (by decide) n9, Dn.other (by decide) n10, .inr ⟨Dn.new hi, rfl⟩⟩
          · exact .inr (.inl ⟨h6.stay, Dn.other (by decide) n9, Dn.other (by decide) n10, .inr ⟨Dn.new hi, rfl⟩, V, zs, hV, hg.trans (World.grownBy_alloc _ _ _), hoi, hoi'.alloc _, hat, hzl, hback⟩)
          · exact absurd h9 n9
          · exact absurd h10 n10
        gi_wp2
        exact ⟨by simp [hsz], fun h j hj => ((k10 ((h.set).resolve_left (by decide))) j hj).stay, fun h => (k9 ((h.set).resolve_left (by decide))).imp Dn.stay Dn.stay, _, _, _, _, _, _, _, _, _, _, rfl, fun h => e0 ((h.set).resolve_left (by decide)), fun h => e1 ((h.set).resolve_left (by decide)), fun h => e2 ((h.set).resolve_left (by decide)), fun h => e3 ((h.set).resolve_left (by decide)), fun h => e4 ((h.set).resolve_left (by decide)), fun h => e5 ((h.set).resolve_left (by decide)), fun _ => rfl, fun _ => rfl, hS'⟩
      · -- operation 9
        refine wpOpIn_of_list ho (by cases ho; rfl) ?_
        cases ho
        have n10 : ¬ Dn L 10 := fun h => Dn.not hi hL (k10 h _ (by decide))
        have d6 : Dn L 6 := hd ⟨6, .data⟩ (by simp) rfl
        have d8 : Dn L 8 := hd ⟨8, .data⟩ (by simp) rfl
        obtain rfl := e8 d8
        rcases hS with ⟨h6, -⟩ | ⟨-, -, -, hw, V, zs, hV, hg, hoi, hoi', hat, hzl, hback⟩ | ⟨h9, -⟩ | ⟨h10, -⟩
        · exact absurd d6 h6
        rotate_left
        · exact absurd h9 (Dn.not hi hL)
        · exact absurd h10 n10
        obtain rfl : w' = W.drew.alloc (.cells #[.int .i64 (nz x).1] 2) := hw.elim (fun h => absurd d8 h.1) (·.2)
        have hbase : w.heap.size + 1 + 1 ≤ (W.drew.alloc (.cells #[.int .i64 (nz x).1] 2)).heap.size := by
          have h1 : (W.drew.alloc (.cells #[.int .i64 (nz x).1] 2)).heap.size = W.heap.size + 1 := by simp
          omega
        refine wpListIn_append_own_at (w := _) rfl _ _ 48 rfl (w.heap.size + 1 + 1) 2 i0 (.int .i64 0) 1 8 Tryz.underlying48 Hi.out Z0.out Z1.out Z2.out rfl (by decide) _ _ _ rfl hoi'.1 ⟨W.heap.size, 0, none⟩ 1 1 [.int .i64 (nz x).1] rfl rfl (cell_one_new _ _ _) (by simp [Value.oneCell']) (by unfold maxLen; omega) (by omega) hbase ?_
        intro v' w1 hown' hgrow _ hloc
        have hsv := hg.size
        exact ⟨by simp [hsz], fun h j hj => ((k10 ((h.set).resolve_left (by decide))) j hj).stay, fun _ => ⟨d6.stay, d8.stay⟩, _, _, _, _, _, _, _, _, _, _, rfl, fun h => e0 ((h.set).resolve_left (by decide)), fun h => e1 ((h.set).resolve_left (by decide)), fun h => e2 ((h.set).resolve_left (by decide)), fun h => e3 ((h.set).resolve_left (by decide)), fun h => e4 ((h.set).resolve_left (by decide)), fun h => e5 ((h.set).resolve_left (by decide)), fun h => e7 ((h.set).resolve_left (by decide)), fun _ => rfl, .inr (.inr (.inl ⟨Dn.new hi, Dn.other (by decide) n10, V, s17, zs, hV, hg.trans hgrow, hoi, hoi'.appended hown' (WalkArith.wf_i64 (by omega)), hat, hzl, hback, hloc.imp id (fun h => ⟨_, h, hsv⟩)⟩))⟩
      · -- operation 10
        refine wpOpIn_of_list ho (by cases ho; rfl) ?_
        cases ho
        have d9 : Dn L 9 := hd ⟨9, .data⟩ (by simp) rfl
        have dall : ∀ j, j < 10 → Dn L j := by
          intro j hj
          have hjc : j = 0 ∨ j = 1 ∨ j = 2 ∨ j = 3 ∨ j = 4 ∨ j = 5 ∨ j = 6 ∨ j = 7 ∨ j = 8 ∨ j = 9 := by omega
          rcases hjc with rfl | rfl | rfl | rfl | rfl | rfl | rfl | rfl | rfl | rfl
          all_goals first | exact hd ⟨_, .phase⟩ (by simp) rfl
        obtain rfl := e0 (dall 0 (by decide))
        obtain rfl := e2 (dall 2 (by decide))
        rcases hS with ⟨-, h9, -⟩ | ⟨-, h9, -⟩ | ⟨-, -, V, v, zs, hV, hg, hoi, hoi', hat, hzl, hback, hloc⟩ | ⟨h10, -⟩
        · exact absurd d9 h9
        · exact absurd d9 h9
        rotate_left
        · exact absurd h10 (Dn.not hi hL)
        refine wpListIn_mapUpdate_back _ rfl _ _ _ 123 rfl hback rfl rfl rfl hg hoi' (by simp; omega) hloc ?_
        intro w2 hown2 hgrow2
        exact ⟨by simp [hsz], fun _ j hj => (dall j hj).stay, fun _ => ⟨(dall 6 (by decide)).stay, (dall 8 (by decide)).stay⟩, _, _, _, _, _, _, _, _, _, _, rfl, fun _ => rfl, fun h => e1 ((h.set).resolve_left (by decide)), fun _ => rfl, fun h => e3 ((h.set).resolve_left (by decide)), fun h => e4 ((h.set).resolve_left (by decide)), fun h => e5 ((h.set).resolve_left (by decide)), fun h => e7 ((h.set).resolve_left (by decide)), fun h => e8 ((h.set).resolve_left (by decide)), .inr (.inr (.inr ⟨Dn.new hi, V, v, zs, w', hV, hg, hoi, hgrow2, hat, by rw [← hoi'.datum_pos (by simp)]; exact hown2⟩))⟩
    case rend =>
      intro L a' w' hI hrdy
      obtain ⟨hsz, k10, k9, s11, s12, s13, s14, s15, s16, s17, s18, s19, s20, rfl, e0, e1, e2, e3, e4, e5, e7, e8, hS⟩ := hI
      have d0 := ready_nil hrdy hsz (i := 0) rfl (by simp)
      have d1 := ready_nil hrdy hsz (i := 1) rfl (by simp)
      have d2 := ready_nil hrdy hsz (i := 2) rfl (by simpa using d1)
      have d3 := ready_nil hrdy hsz (i := 3) rfl (by simp)
      have d4 := ready_nil hrdy hsz (i := 4) rfl (by simp)
      have d5 := ready_nil hrdy hsz (i := 5) rfl (by simpa using d4)
      have d6 := ready_nil hrdy hsz (i := 6) rfl (by simpa using ⟨d3, d5⟩)
      have d7 := ready_nil hrdy hsz (i := 7) rfl (by simp)
      have d8 := ready_nil hrdy hsz (i := 8) rfl (by simpa using d7)
      have d9 := ready_nil hrdy hsz (i := 9) rfl (by simpa using ⟨d6, d8⟩)
      have d10 := ready_nil hrdy hsz (i := 10) rfl (by simp [d0, d1, d2, d3, d4, d5, d6, d7, d8, d9])
      rcases hS with ⟨-, h9, -⟩ | ⟨-, h9, -⟩ | ⟨-, h10, -⟩ | ⟨-, V, v, zs, w1, hV, hg1, hoi, hg2, hat, hown2⟩
      · exact absurd d9 h9
      · exact absurd d9 h9
      · exact absurd d10 h10
      have hzs := row_is hoi ((HNX.out.2 rec.q).symm.trans hat)
      have hmb : ∃ es ck, W.heap[w.heap.size + 1]? = some (.map es ck) := by obtain ⟨es, ck, h, -⟩ := hown; exact ⟨es, ck, h⟩
      obtain ⟨g1, g2, g3⟩ := groups_step (S := W0.heap.size) hV hoi hg1 hg2 hB.size (by omega) (by omega) (by omega) hmb hbn hbx
      have HTT : Hid (Tells (D.put (.int .i64 rec.q) (.slice (lits .i64 (zs ++ [(nz x).1])) [])) ((pre ++ [x]).map nz)) := by
        have h := HNX.out.put (nz x)
        rw [hQ, ← hzs] at h
        show Tells _ _
        rw [List.map_append, List.map_singleton]
        exact h
      have g4 : Boxed w' (w.heap.size + 1 + 1 + 1) 25 (.slice A n ca) := g1.2.1.trans hbn
      have g5 : W0.heap.size ≤ w'.heap.size := Nat.le_trans hz g2.size
      gi_wp2
      exact ⟨g2, g1, ⟨⟨_, by simpa using hown2, HTT.out, g3, g4⟩, hB.trans g1.1, g5⟩⟩
  case done =>
    rintro Dd ys W hD rfl ⟨⟨Dm, hown, hT, hbx, -⟩, hB, -⟩ hK
    have hc := hbx.cell
    rw [HGD.out] at hT
    gi_wp2
    refine ⟨by simp, .inl ⟨_, _, rfl, run_takeDeferred hK, ?_⟩⟩
    refine ⟨_, results_tmp rfl _ _ _, ?_⟩
    exact ⟨w.heap.size + 1, w.heap.size + 1 + 1, Dm, rfl, groups_kept hown (grownBy_putObj' _ Dd _) (fun e => by cases e; omega) (fun r e => by cases e; exact ⟨_, hK, rfl⟩), hT, by omega, hB.trans (belowK_b (w := w) (Nat.le_refl _) W Dd _ _ (by omega) hK rfl rfl)⟩
  case stop =>
    rintro D c pre W _ _ h _
    exact h.elim

/-- what Places answers -/
noncomputable def placesAns (X : List Bk) (q : Int) : List Int := if ndB X = true then plc (recsTo X X.length) q else []
theorem placesAns_yes {X : List Bk} (h : NdOk X) (q : Int) : placesAns X q = plc (recsTo X X.length) q := by unfold placesAns; rw [if_pos (ndB_yes h)]
theorem placesAns_no {X : List Bk} (h : ¬ NdOk X) (q : Int) : placesAns X q = [] := by unfold placesAns; rw [ndB_no h]; rfl

set_option maxRecDepth 100000 in
set_option maxHeartbeats 2000000 in
theorem impl_places (A : Option Addr) (n ca : Nat) (X : List Bk) (q : Int) (w : World) (hX : Small X) (hq : (Lit.int .i64 q).wf = true) (hG : ErrType w) (hA : RdBk w w.heap.size A n X) :
    Calls Tryz.prog 23 #[.agg #[.slice A n ca], .int .i64 q] w (RetNs w (placesAns X q)) := by
  have HL := Lib.hid hA.1
  have HA := Lib.hid hA; have HX := Lib.hid hX; have HG := Lib.hid hG; clear hA hX hG
  go_enter Tryz.func23, Tryz.ntmps23
  go_wp2_with fail
  refine (impl_nandRight A n ca X _ HX.out (box_rd HA.out _)).mono ?_
  rintro e w2 ⟨rfl, hb2⟩
  have k2 := (isBlk_new w 25 [.slice A n ca]).below hb2 (by show w.heap.size < (w.alloc _).heap.size; simp)
  have hx2 : w2.cell? ⟨w.heap.size, 0, none⟩ = some (.slice A n ca) := k2.cell rfl
  have HB2 := Lib.hid (bel_step (box_below w _) hb2)
  clear hb2 k2
  by_cases hok : NdOk X
  · rw [ndB_yes hok]
    have HC := Lib.hid (placesAns_yes hok q)
    have HOK := Lib.hid hok
    clear hok
    go_wp2_with fail
    refine (placesBySeq_any A n ca X w2 HOK.out (HG.out.below HB2.out) (rd_step HA.out HB2.out)).mono ?_
    rintro e w3 ⟨b, base, D, rfl, hown, hT, hbb, hb3⟩
    have HB3 := Lib.hid (bel_step HB2.out hb3)
    have hlen : (recsTo X n).length < maxLen := by
      have h1 := recsTo_len HOK.out n (by rw [HL.out]; exact Nat.le_refl _); have h2 := HOK.out.1.2; have h3 := HL.out
      unfold maxLen; omega
    obtain ⟨v, zs, hrun, hat, hoi, -, -⟩ := hown.at (Maps.int_keyed Tryz.underlying2) Tryz.underlying123 (zeroRow _) hlen (Maps.keyOf_int_mk Tryz.underlying2 hq)
    have hzs := row_is hoi ((hT.2 q).symm.trans hat)
    have HZ : Hid (placesAns X q = zs) := by show _ = _; rw [HC.out, HL.out, hzs]
    clear hzs
    have hbase : w.heap.size ≤ base := by
      obtain ⟨-, -, -, -, -, -, h, -⟩ := hown
      have := HB2.out.size
      omega
    obtain ⟨Av, cv, rfl⟩ := own_slice hoi.1
    have HO := Lib.hid (owNs_of_own hoi.1)
    clear hown hT hat hoi hb3 hbb
    go_wp2
    go_ret
    rw [HZ.out]
    exact ⟨Av, cv, rfl, HO.out.mono hbase (Nat.le_refl _), HB3.out⟩
  · rw [ndB_no hok]
    have HC := Lib.hid (placesAns_no hok q)
    go_wp2
    go_ret
    rw [HC.out]
    exact ⟨none, 0, rfl, owNs_nil _ _ _ _, HB2.out⟩
end Go.Proofs.YtloaeglmngcenaaGreatDoor

namespace Go.Proofs.YtloaeglmngcenaaGreatDoor
open Go.RowKit
open Bt (Rc)

def fltStep (g : Int → Bool) (l : List Rc) (x : Int × Rc) : List Rc := if g x.2.q = true ∧ ∀ a ∈ l, a.q ≠ x.2.q then l ++ [x.2] else l
/-- the first record of each Seq that g lets by -/
def flt (g : Int → Bool) (R : List (Int × Rc)) : List Rc := R.foldl (fltStep g) []
theorem flt_snoc (g : Int → Bool) (R : List (Int × Rc)) (x : Int × Rc) : flt g (R ++ [x]) = fltStep g (flt g R) x := by simp [flt]
theorem flt_fsts (g : Int → Bool) (R : List (Int × Rc)) (h : ∀ x ∈ R, g x.2.q = true) : flt g R = fsts R := by
  induction R using snoc_ind with
  | h0 => rfl
  | h1 R x ih =>
    rw [flt_snoc, fsts_snoc, ih (fun y hy => h y (List.mem_append_left _ hy))]
    unfold fltStep fstStep
    have hx := h x (by simp)
    simp [hx]
theorem flt_len (g : Int → Bool) (R : List (Int × Rc)) : (flt g R).length ≤ R.length := by
  induction R using snoc_ind with
  | h0 => simp [flt]
  | h1 R x ih => rw [flt_snoc, List.length_append]; unfold fltStep; split <;> simp <;> omega
/-- the map still holds the Seqs that g lets by and that are not taken -/
def Left (D : DataW Unit) (g : Int → Bool) (l : List Rc) : Prop := ∀ q, Maps.has D (.int .i64 q) = true ↔ (g q = true ∧ ∀ a ∈ l, a.q ≠ q)
theorem left_start (D : DataW Unit) : Left D (fun q => Maps.has D (.int .i64 q)) [] := fun q => by simp
theorem Left.yes {D : DataW Unit} {g : Int → Bool} {l : List Rc} (h : Left D g l) {x : Int × Rc} (hx : Maps.has D (.int .i64 x.2.q) = true) : fltStep g l x = l ++ [x.2] ∧ Left (D.del (.int .i64 x.2.q)) g (l ++ [x.2]) := by
  refine ⟨by unfold fltStep; rw [if_pos ((h x.2.q).1 hx)], fun q => ?_⟩
  by_cases e : q = x.2.q
  · subst e
    rw [Maps.has_del_same]
    constructor
    · intro h1; cases h1
    · intro h1; exact absurd rfl (h1.2 x.2 (by simp))
  · rw [Maps.has_del_other (by simpa using e), h q]
    constructor
    · rintro ⟨h1, h2⟩
      refine ⟨h1, fun a ha => ?_⟩
      rcases List.mem_append.1 ha with ha | ha
      · exact h2 a ha
      · rw [List.mem_singleton] at ha; subst ha; exact fun e' => e e'.symm
    · rintro ⟨h1, h2⟩
      exact ⟨h1, fun a ha => h2 a (List.mem_append_left _ ha)⟩
theorem Left.no {D : DataW Unit} {g : Int → Bool} {l : List Rc} (h : Left D g l) {x : Int × Rc} (hx : Maps.has D (.int .i64 x.2.q) = false) : fltStep g l x = l := by
  unfold fltStep
  rw [if_neg (fun h' => by rw [(h x.2.q).2 h'] at hx; cases hx)]
theorem tells_has {D : DataW Unit} {R : List (Int × Rc)} (h : Tells D R) {x : Int × Rc} (hx : x ∈ R) : Maps.has D (.int .i64 x.2.q) = true := by
  cases hh : Maps.has D (.int .i64 x.2.q) with
  | true => rfl
  | false =>
    have h1 := (Maps.atKey_of_not_has hh .nil).symm.trans (h.2 x.2.q)
    have h2 : x.1 ∈ plc R x.2.q := by
      unfold plc
      rw [List.mem_map]
      exact ⟨x, List.mem_filter.2 ⟨hx, by simp⟩, rfl⟩
    cases hp : plc R x.2.q with
    | nil => rw [hp] at h2; cases h2
    | cons a l => rw [hp] at h1; cases h1
/-- the map of rows, as a map alone: its reader is fixed at the world in which it was made -/
theorem map_of_groups {w : World} {P : Program} {k e : TypeId} {base b n : Nat} {D : DataW Unit} (h : w.ownsGroups P k base e .i64 b n D) : w.ownsMap P k (rowElem w base e .i64) b n D := by
  obtain ⟨es, clock, h1, h2, h3, h4, -⟩ := h
  exact ⟨es, clock, h1, h2, h3, h4⟩
end Go.Proofs.YtloaeglmngcenaaGreatDoor

namespace Go.Proofs.YtloaeglmngcenaaGreatDoor
open Go.RowKit Go.Shelf Go.ChangeShapes
open Bt (Rc)
attribute [local go_sem] Oper.semAt_some

/-- what slices.SortFunc does to a row of records that the call owns -/
def SortC : Prop := ∀ (base : Nat) (Y : List Rc) (v : Value) (W : World), Y.length ≤ 48 → W.ownsRow base 34 6 v Y.length (rcA Y) →
  Calls Tryz.prog 215 #[v, .func (.func 216) #[] #[]] W fun e W' => e = .returned (.tuple #[]) ∧
    ∃ Y' : List Rc, Y'.Perm Y ∧ Y'.Pairwise (fun a b => a.q ≤ b.q) ∧ W'.ownsRow base 34 6 v Y.length (rcA Y') ∧ W.grownBy W' v.ownBlock
/-- an answer with records, in memory of its own -/
def RetRs (w : World) (Y : List Rc) (e : Ending) (w' : World) : Prop :=
  ∃ (A : Option Addr) (ca : Nat), e = .returned (.slice A Y.length ca) ∧ Y.length ≤ ca ∧ OwRc w' w.heap.size w'.heap.size A Y.length Y ∧ Below w.heap.size w w'
theorem cap_of_own {w : World} {lo k n cap : Nat} {e : TypeId} {A : Option Addr} {xs : List Value} (h : w.ownsRow lo e k (.slice A n cap) n xs) : n ≤ cap := by
  rcases h.2 with ⟨h1, h2⟩ | ⟨g, c, cur, h1, -, -, h4, -⟩
  · simp at h1; omega
  · simp only [Value.slice.injEq] at h1; omega
theorem info_rec : (Tryz.prog.info? 34).map (fun i => (i.zero, i.size, i.bytes)) = some (some (recV Rc.zero), 6, 56) := by kernel_rfl

/-- a record, appended to the row whose slice lies in box B, and stored there -/
theorem coll6 {W w1 : World} {n₀ base B : Nat} {v v' : Value} {k m : Nat} {xs ys : List Value} {tmp : Obj} (hv : Boxed W B 27 v) (hrow : W.ownsRow base 34 6 v k xs) (hB : B < base) (hn₀ : n₀ ≤ B) (hbase : base ≤ W.heap.size)
    (hg : (W.alloc tmp).grownBy w1 v.ownBlock) (hown : w1.ownsRow base 34 6 v' m ys) :
    (∀ j, j < W.heap.size → v.ownBlock ≠ some j → w1.heap[j]? = W.heap[j]?) ∧ (∀ j, j < W.heap.size → v.ownBlock ≠ some j → j ≠ B → (w1.setCell ⟨B, 0, none⟩ v').heap[j]? = W.heap[j]?) ∧ Boxed w1 B 27 v ∧ Boxed (w1.setCell ⟨B, 0, none⟩ v') B 27 v' ∧
      (w1.setCell ⟨B, 0, none⟩ v').ownsRow base 34 6 v' m ys ∧ KeepsOthers W (w1.setCell ⟨B, 0, none⟩ v') ∧ Below n₀ W (w1.setCell ⟨B, 0, none⟩ v') ∧ W.heap.size ≤ (w1.setCell ⟨B, 0, none⟩ v').heap.size := by
  have hlt : ∀ q, v.ownBlock = some q → base ≤ q := fun q hq => (own_block_ltR hrow hq).1
  have hb1 : Below base W w1 := ((Below.refl _ W).alloc hbase tmp).grown hg (by simp; omega) hlt
  have b1 : Boxed w1 B 27 v := (hb1.block B hB).trans hv
  have h1 : ∀ j, j < W.heap.size → v.ownBlock ≠ some j → w1.heap[j]? = W.heap[j]? := fun j hj hne => (hg.block j (by simp; omega) (fun e => hne e.symm)).trans (Below.heap_alloc _ _ _ hj)
  refine ⟨h1, fun j hj hne hjB => (Below.heap_setCell _ _ _ _ (by dsimp only; exact hjB)).trans (h1 j hj hne), b1, b1.set v', own_otherR hown hB _, ?_, (hb1.mono (by omega)).setCell (p := ⟨B, 0, none⟩) hn₀ _, ?_⟩
  · refine ((KeepsOthers.alloc W tmp).trans (KeepsOthers.of_grownBy hg fun j o hj ho => ?_)).trans (KeepsOthers.setCell _ _ _)
    rcases (hrow.alloc tmp).2 with ⟨rfl, -⟩ | ⟨g, cap, cur, rfl, -, hh, -⟩
    · cases hj
    · have : g = j := by simpa [Value.ownBlock] using hj
      subst this
      rw [hh] at ho; cases ho; rfl
  · have h2 := hb1.size
    have h3 : w1.heap.size ≤ (w1.setCell ⟨B, 0, none⟩ v').heap.size := by simp [World.setCell]
    omega
theorem ownRow_cells {W : World} {base k j : Nat} {v : Value} {xs : List Value} {o : Obj} (h : W.ownsRow base 34 6 v k xs) (hj : W.heap[j]? = some o) (ho : ∀ c r, o ≠ .cells c 34 r) : v.ownBlock ≠ some j := by
  rcases h.2 with ⟨rfl, -⟩ | ⟨g, cap, cur, rfl, -, hgb, -⟩
  · simp [Value.ownBlock]
  · intro e
    have : g = j := by simpa [Value.ownBlock] using e
    subst this
    rw [hj] at hgb
    exact ho _ _ (Option.some.inj hgb)

theorem mapBlk {w w' : World} {P : Program} {k : TypeId} {R : Value → Option (DataW Unit × List MemPlace)} {b n : Nat} {D : DataW Unit} (h : w.ownsMap P k R b n D) (hb : w'.heap[b]? = w.heap[b]?) : w'.ownsMap P k R b n D := by
  obtain ⟨es, ck, h1, h2, h3, h4⟩ := h
  exact ⟨es, ck, hb.trans h1, h2, h3, h4⟩

set_option maxRecDepth 100000 in
set_option maxHeartbeats 4000000 in
theorem firstRecs_of (hsort : SortC) (A : Option Addr) (n ca : Nat) (X : List Bk) (w : World) (hok : NdOk X) (hG : ErrType w) (hA : RdBk w w.heap.size A n X) :
    Calls Tryz.prog 147 #[.agg #[.slice A n ca]] w (RetRs w (mnt (recsTo X n))) := by
  have hE : 3 < w.heap.size := World.block_lt_of_cell? w _ hG
  have HLEN : Hid ((recsTo X n).length ≤ 48) := by
    have h1 := recsTo_len hok n (by rw [hA.1]; exact Nat.le_refl _); have h2 := hok.1.2; have h3 := hA.1
    show _ ≤ _; omega
  have HGD := Lib.hid (map_nz (recsTo_good hok n (by rw [hA.1]; exact Nat.le_refl _)))
  have HA := Lib.hid hA; have HG := Lib.hid hG; have HOK := Lib.hid hok; have HSORT := Lib.hid hsort
  clear hA hG hok hsort
  obtain ⟨i0, hi, hz0, hz1, hz2⟩ := info_parts info_rec
  have Hi := Lib.hid hi; have Z0 := Lib.hid hz0; have Z1 := Lib.hid hz1; have Z2 := Lib.hid hz2
  clear hi hz0 hz1 hz2
  refine (callsIn_wide (n := 3)).1 ?_
  refine callsIn_of_wp_marks Tryz.func147 rfl trivial ?_ rfl
  simp only [Tryz.ntmps147, List.size_toArray, List.length_cons, List.length_nil, Nat.reduceAdd, Nat.reduceSub, Array.replicate_succ, Array.replicate_zero, List.push_toArray, List.append_toArray, List.nil_append, List.cons_append]
  gi_wp2_with fail
  have hb0 : Below w.heap.size w (w.alloc (.cells #[.slice A n ca] 25)) := (Below.refl _ _).alloc (Nat.le_refl _) _
  have k0 := isBlk_new w 25 [.slice A n ca]
  change IsBlk (w.alloc (.cells #[.slice A n ca] 25)) _ _ _ at k0
  have hs0 : (w.alloc (.cells #[.slice A n ca] 25)).heap.size = w.heap.size + 1 := by simp
  generalize w.alloc (.cells #[.slice A n ca] 25) = U0 at hb0 k0 hs0 ⊢
  refine ⟨trivial, ?_⟩
  refine (callsIn_wide.2 (placesBySeq_any A n ca X U0 HOK.out (HG.out.below hb0) ((HA.out.below hb0).mono hb0.size))).mono ?_
  rintro e w1 ⟨b, base, D, rfl, hown, hT, hbb, hb1⟩
  have hmap := map_of_groups hown
  have hbw : b < w1.heap.size := by obtain ⟨es, ck, h, -⟩ := hown; exact lt_of_block h
  have HTH : Hid (∀ x ∈ recsTo X n, Maps.has D (.int .i64 x.2.q) = true) := fun x hx => tells_has hT hx
  have hB1 : Below w.heap.size w w1 := hb0.trans (hb1.mono hb0.size)
  have k1 := k0.below hb1 k0.lt
  have hx1 : w1.cell? ⟨w.heap.size, 0, none⟩ = some (.slice A n ca) := k1.cell rfl
  have hlt0 : w.heap.size < w1.heap.size := k1.lt
  obtain ⟨Rd, hRd⟩ : ∃ Rd : Value → Option (DataW Unit × List MemPlace), Rd = rowElem w1 base 2 .i64 := ⟨_, rfl⟩
  have HRZ : Hid (Rd (.slice none 0 0) = some (.nil, [])) := by show _ = _; rw [hRd]; exact rowElem_mk (World.ownsInts_nil _ _ _ _)
  rw [← hRd] at hmap
  clear hown hT hb1 k0 k1 hb0 hRd
  gi_wp2_with fail
  refine ⟨trivial, ?_⟩
  refine (callsIn_wide.2 (recsOn_any A n ca _)).mono ?_
  rintro e w3 ⟨rfl, rfl⟩
  have bM := ((Boxed.new w1 123 (.map (some b))).alloc (.cells #[.slice none 0 0] 27)).alloc (.cells #[.slice A n ca] 25)
  have bR := (Boxed.new (w1.alloc (.cells #[.map (some b)] 123)) 27 (.slice none 0 0)).alloc (.cells #[.slice A n ca] 25)
  have bN := Boxed.new ((w1.alloc (.cells #[.map (some b)] 123)).alloc (.cells #[.slice none 0 0] 27)) 25 (.slice A n ca)
  have hm0 := ((hmap.alloc (.cells #[.map (some b)] 123)).alloc (.cells #[.slice none 0 0] 27)).alloc (.cells #[.slice A n ca] 25)
  have hBW : Below w1.heap.size w1 (((w1.alloc (.cells #[.map (some b)] 123)).alloc (.cells #[.slice none 0 0] 27)).alloc (.cells #[.slice A n ca] 25)) := (((Below.refl _ _).alloc (Nat.le_refl _) _).alloc (by simp) _).alloc (by simp; omega) _
  have hsW : (((w1.alloc (.cells #[.map (some b)] 123)).alloc (.cells #[.slice none 0 0] 27)).alloc (.cells #[.slice A n ca] 25)).heap.size = w1.heap.size + 3 := by simp
  simp only [World.size_alloc] at bR bN ⊢
  generalize ((w1.alloc (.cells #[.map (some b)] 123)).alloc (.cells #[.slice none 0 0] 27)).alloc (.cells #[.slice A n ca] 25) = W0 at bM bR bN hm0 hBW hsW ⊢
  have hB0 : Below w.heap.size w W0 := hB1.trans (hBW.mono hB1.size)
  have hR0 := HA.out.below hB0
  have hG0 := HG.out.below hB0
  obtain ⟨g, hg⟩ : ∃ g : Int → Bool, g = fun q => Maps.has D (.int .i64 q) := ⟨_, rfl⟩
  have hLs : Left D g [] := by rw [hg]; exact left_start D
  have HFL : Hid (flt g (recsTo X n) = fsts (recsTo X n)) := flt_fsts g _ (fun x hx => by rw [hg]; exact HTH.out x hx)
  clear hg hx1 hmap
  gi_wp2
  refine wpIn_rangeFunc_ownH rfl (by omega) (gf := 226) (lb := #[.pointer (some ⟨w1.heap.size + 1 + 1, 0, none⟩)]) rfl trivial (enters_of Tryz.func226 (by kernel_rfl) rfl)
    (recs_stops _ (by omega) (w1.heap.size + 1 + 1) w.heap.size A n ca X W0 HOK.out (by omega) hE hG0 bN hR0) KpR.t (KpR.b (by omega) (by omega)) (Below.refl _ _) (fun _ => rfl)
    (fun pre W => (∃ D' v, W.ownsMap Tryz.prog 2 Rd b (recsTo X n).length D' ∧ Left D' g (flt g (pre.map nz)) ∧ Boxed W w1.heap.size 123 (.map (some b)) ∧ Boxed W (w1.heap.size + 1) 27 v ∧ W.ownsRow W0.heap.size 34 6 v (flt g (pre.map nz)).length (rcA (flt g (pre.map nz))) ∧ Boxed W (w1.heap.size + 1 + 1) 25 (.slice A n ca)) ∧ (Below w.heap.size w W ∧ W0.heap.size ≤ W.heap.size))
    (fun _ _ _ => False)
    (OwnFrom.and (fun s A' B' row hs hg hr => by
      obtain ⟨D', v, h1, h2, h3, h4, h5, h6⟩ := hs
      refine ⟨D', v, h1.kept hg (fun e => ?_), h2, h3.kept hg (fun e => ?_), h4.kept hg (fun e => ?_), own_sameR h5 (fun q hq => hg.block q (own_block_ltR h5 hq).2 (fun e => ?_)), h6.kept hg (fun e => ?_)⟩
      · have := (hr _ e.symm).1; omega
      · have := (hr _ e.symm).1; omega
      · have := (hr _ e.symm).1; omega
      · obtain ⟨o, ho, hc⟩ := (hr q e.symm).2
        rcases h5.2 with ⟨rfl, -⟩ | ⟨g', cap, cur, rfl, -, hgb, -⟩
        · cases hq
        · have : g' = q := by simpa [Value.ownBlock] using hq
          subst this
          rw [hgb] at ho; cases ho; cases hc
      · have := (hr _ e.symm).1; omega) (OwnFrom.and (ownFrom_below (Nat.le_refl _) (by omega)) (fun _ _ _ _ hs hg _ => Nat.le_trans hs hg.size)))
    (fun _ _ _ _ _ hs _ _ => hs)
    ⟨⟨D, _, hm0, hLs, bM, bR, World.ownsRow_nil _ _ _ _, bN⟩, hB0, Nat.le_refl _⟩
    (fun x a' W => ∃ Bx, W0.heap.size ≤ Bx ∧ IsBlk W Bx 34 (recC (nz x).2) ∧ (∀ v, Boxed W (w1.heap.size + 1) 27 v → v.ownBlock ≠ some Bx) ∧ a' = { tmps := #[.agg #[.slice A n ca], .pointer (some ⟨w.heap.size, 0, none⟩), .slice none 0 0, .pointer (some ⟨w1.heap.size, 0, none⟩), .pointer (some ⟨w1.heap.size + 1, 0, none⟩), undef, .pointer (some ⟨Bx, 0, none⟩), undef, undef, .agg #[.slice A n ca], .map (some b), .agg #[.slice A n ca], .func (.func 226) #[] #[.pointer (some ⟨w1.heap.size + 1 + 1, 0, none⟩)], .int .i64 (nz x).1, recV (nz x).2, undef, undef, undef, undef, undef, undef, undef, undef, undef, undef, undef, undef, undef, undef, undef, undef, undef, undef, undef], defers := [] })
    (fun x a' _ X' Y row hs hg hr => by
      obtain ⟨Bx, h1, h2, h3, h4⟩ := hs
      have h2' : X'.heap[Bx]? = some (.cells (recC (nz x).2).toArray 34 (0, 0)) := h2
      refine ⟨Bx, h1, (hg.block Bx h2.lt (fun e => ?_)).trans h2, fun v hv => h3 v ?_, h4⟩
      · obtain ⟨o, ho, hc⟩ := (hr Bx e.symm).2
        rw [h2'] at ho; cases ho; cases hc
      · exact (hg.block (w1.heap.size + 1) (by have := h2.lt; omega) (fun e => by have := (hr _ e.symm).1; omega)).symm.trans hv)
    ?assign ?body ?done ?stop
  case assign =>
    rintro l pre x W K ⟨⟨D', v, h1, h2, h3, h4, h5, h6⟩, hB, hz⟩ hK
    gi_wp2
    refine hK _ _ ((KeepsOthers.alloc _ _).from _) (KpR.of_below ((Below.refl _ W).alloc (Nat.le_refl _) _) hB.size h6.lt) ⟨⟨D', v, h1.alloc _, h2, h3.alloc _, h4.alloc _, own_belowR h5 ((Below.refl _ W).alloc (Nat.le_refl _) _), h6.alloc _⟩, hB.alloc hB.size _, by simp; omega⟩ ⟨W.heap.size, hz, isBlk_new W 34 (recC (nz x).2), fun v' hv' e => ?_, rfl⟩
    have hvv : v' = v := by
      have h7 : Boxed (W.alloc (.cells (recC (nz x).2).toArray 34)) (w1.heap.size + 1) 27 v := h4.alloc _
      have h8 := h7.cell.symm.trans hv'.cell
      exact (Option.some.inj h8).symm
    subst hvv
    have := (own_block_ltR h5 e).2
    omega
  case body =>
    rintro l pre x a' W hl ⟨r, hr⟩ ⟨⟨D', v, hmp, hL, hbm, hbr, hrow, hbn⟩, hB, hz⟩ ⟨Bx, hBx, kX, hne, rfl⟩ hlt
    obtain ⟨⟨b1, b2⟩, b3, b4⟩ := nz_bounds x
    have HNE := Lib.hid (hne v hbr)
    have HLf : Hid (Left D' g (flt g (pre.map nz))) := hL
    have hkey := Maps.keyOf_int_mk Tryz.underlying2 (a := (nz x).2.q) (WalkArith.wf_i64 (by omega))
    have HSN : Hid (flt g ((pre ++ [x]).map nz) = fltStep g (flt g (pre.map nz)) (nz x)) := by show _ = _; rw [List.map_append, List.map_singleton, flt_snoc]
    have hFl : (flt g (pre.map nz)).length ≤ 48 := by have h1 := flt_len g (pre.map nz); rw [List.length_map] at h1; omega
    have hc := hbm.cell
    have hcr := hbr.cell
    have hfr := hbr.frozen
    obtain ⟨x0, x1, x2, x3, x4, x5⟩ := rcCells kX
    obtain ⟨Av, cv, rfl⟩ := own_slice hrow
    clear hL hne
    generalize hFL : (flt g (pre.map nz)) = F at *
    clear hFL
    cases hh : Maps.has D' (.int .i64 (nz x).2.q) with
    | false =>
      have HFN := Lib.hid (HLf.out.no (x := nz x) hh)
      gi_wp2_with (gi_at_lookup; refine wpListIn_lookup_own_ok _ rfl _ _ 123 rfl 2 48 (Maps.int_keyed Tryz.underlying2) Tryz.underlying123 Rd (zeroRow _) .nil [] HRZ.out b (recsTo X n).length D' rfl hmp _ _ rfl hkey ?_; intro v0 ps hv0; rw [hh])
      exact ⟨KeepsFrom.refl _ _, KpR.of_below (Below.refl _ _) hB.size hbn.lt, ⟨⟨D', _, hmp, by rw [HSN.out, HFN.out]; exact HLf.out, hbm, hbr, by rw [HSN.out, HFN.out]; exact hrow, hbn⟩, hB, hz⟩⟩
    | true =>
      obtain ⟨hfy, hly⟩ := HLf.out.yes (x := nz x) hh
      have HFY := Lib.hid hfy; have HLY := Lib.hid hly
      clear hfy hly
      have hbmh : W.heap[w1.heap.size]? = some (.cells #[.map (some b)] 123 (0, 0)) := hbm
      have hbnh : W.heap[w1.heap.size + 1 + 1]? = some (.cells #[.slice A n ca] 25 (0, 0)) := hbn
      have hmb := hmp.lt
      have HO1 := Lib.hid (ownRow_cells hrow hbmh (fun c r e => by cases e))
      have HO2 := Lib.hid (ownRow_cells hrow hbnh (fun c r e => by cases e))
      have HO3 : Hid ((Value.slice Av F.length cv).ownBlock ≠ some b) := by
        obtain ⟨es, ck, h, -⟩ := hmp
        exact ownRow_cells hrow h (fun c r e => by cases e)
      have HO4 : Hid (∀ (j : Nat) (c : Array Value) (r : Nat × Nat), W.heap[j]? = some (.cells c 212 r) → (Value.slice Av F.length cv).ownBlock ≠ some j) := fun j c r h => ownRow_cells hrow h (fun c r e => by cases e)
      have HCEL : ∀ j u, (recC (nz x).2)[j]? = some u → (W.alloc (.cells (recC (nz x).2).toArray 34)).cell? (Addr.add ⟨W.heap.size, 0, none⟩ j) = some u := fun j u hj => by rw [add_off, Nat.zero_add]; exact (isBlk_new W 34 (recC (nz x).2)).cell hj
      gi_wp2_with (first
        | (gi_at_lookup; refine wpListIn_lookup_own_ok _ rfl _ _ 123 rfl 2 48 (Maps.int_keyed Tryz.underlying2) Tryz.underlying123 Rd (zeroRow _) .nil [] HRZ.out b (recsTo X n).length D' rfl hmp _ _ rfl hkey ?_; intro v0 ps hv0; rw [hh])
        | (gi_at_delete; refine wpListIn_delete_own _ rfl _ _ 123 2 rfl 48 (Maps.int_keyed Tryz.underlying2) Tryz.underlying123 Rd b (recsTo X n).length D' rfl hm6 _ _ rfl hkey ?_; intro w7 hm7 ht7)
        | (gi_at_builtin; refine wpListIn_append_own _ rfl _ _ 27 rfl W0.heap.size 34 i0 (recV Rc.zero) 6 56 Tryz.underlying27 Hi.out Z0.out Z1.out Z2.out rfl (by decide) _ _ _ rfl (hrow.alloc _) ⟨W.heap.size, 0, none⟩ 1 1 (recC (nz x).2) rfl rfl HCEL (recC_one _) (by unfold maxLen; omega) (by omega) (by simp; omega) ?_; intro v' w5 hown' hgrow _; obtain ⟨g', cap', rfl⟩ := ownsRow_succ hown'; obtain ⟨c1, c2, c3, c4, c5, c6, c7, c8⟩ := coll6 (n₀ := w.heap.size) hbr hrow (by omega) (by omega) hz hgrow hown'; have hcr5 := c3.cell; have hfr5 := c3.frozen; have hm6 := mapBlk hmp (c2 b hmb HO3.out (by omega)); have bm6 : Boxed _ w1.heap.size 123 (.map (some b)) := (c2 _ (lt_of_block hbmh) HO1.out (by omega)).trans hbmh; have hcm6 := bm6.cell; have kX6 : IsBlk _ Bx 34 (recC (nz x).2) := (c2 Bx kX.lt HNE.out (by omega)).trans kX; obtain ⟨y0, y1, y2, y3, y4, y5⟩ := rcCells kX6))
      have hg7 := ht7.grown
      have hbrh : W.heap[w1.heap.size + 1]? = some (.cells #[.slice Av F.length cv] 27 (0, 0)) := hbr
      have hT : ∀ j, j < W.heap.size → j ≠ b → w7.heap[j]? = (w5.setCell ⟨w1.heap.size + 1, 0, none⟩ (.slice (some ⟨g', 0, none⟩) (F.length + 1) cap')).heap[j]? := fun j hj hnb => hg7.block j (Nat.lt_of_lt_of_le hj c8) (fun e => hnb (by simpa using e))
      have z1 : Boxed w7 w1.heap.size 123 (.map (some b)) := (hT _ (lt_of_block hbmh) (by omega)).trans bm6
      have z2 : Boxed w7 (w1.heap.size + 1) 27 (.slice (some ⟨g', 0, none⟩) (F.length + 1) cap') := (hT _ hbr.lt (by omega)).trans c4
      have z3 : Boxed w7 (w1.heap.size + 1 + 1) 25 (.slice A n ca) := (hT _ (lt_of_block hbnh) (by omega)).trans ((c2 _ (lt_of_block hbnh) HO2.out (by omega)).trans hbnh)
      have z4 : w7.ownsRow W0.heap.size 34 6 (.slice (some ⟨g', 0, none⟩) (F.length + 1) cap') (F.length + 1) (rcA F ++ recC (nz x).2) := own_sameR c5 (fun q hq => hg7.block q (own_block_ltR c5 hq).2 (fun e => by have h1 := (own_block_ltR c5 hq).1; have h2 : q = b := (by simpa using e); omega))
      have z5 : KpR w.heap.size (w1.heap.size + 1 + 1) W w7 := by
        refine ⟨c7.grown hg7 (Nat.le_trans hB.size c8) (fun k e => by cases e; omega), z3.trans hbnh.symm, fun j c r h => (hT j (lt_of_block h) (fun e => ?_)).trans (c2 j (lt_of_block h) (HO4.out j c r h) (fun e => ?_))⟩
        · subst e; obtain ⟨es, ck, hh, -⟩ := hmp; rw [hh] at h; cases h
        · subst e; rw [hbrh] at h; cases h
      exact ⟨(c6.from _).trans (KeepsFrom.of_grownBy hg7 (fun j e => by cases e; omega)), z5, ⟨⟨_, _, hm7, by rw [HSN.out, HFY.out]; exact HLY.out, z1, z2, by rw [HSN.out, HFY.out, rcA_snoc, List.length_append]; exact z4, z3⟩, hB.trans z5.1, Nat.le_trans hz z5.1.size⟩⟩
  case done =>
    rintro Dd ys W hD rfl ⟨⟨D', v, -, -, -, hbr, hrow, -⟩, hB, hz⟩ hK
    rw [HGD.out, HFL.out] at hrow
    have hcr := hbr.cell
    have hF48 : (fsts (recsTo X n)).length ≤ 48 := by
      have h1 := flt_len g (recsTo X n); rw [HFL.out] at h1; have := HLEN.out; omega
    obtain ⟨Av, cv, rfl⟩ := own_slice hrow
    gi_wp2_with fail
    refine ⟨trivial, ?_⟩
    refine (callsIn_wide.2 (HSORT.out W0.heap.size (fsts (recsTo X n)) _ W hF48 hrow)).mono ?_
    rintro e w4 ⟨rfl, Y', hp, hsrt, hown4, hg4⟩
    have hY := sorted_mnt hp hsrt
    subst hY
    have hbrh : W.heap[w1.heap.size + 1]? = some (.cells #[.slice Av (fsts (recsTo X n)).length cv] 27 (0, 0)) := hbr
    have hbr4 : Boxed w4 (w1.heap.size + 1) 27 (.slice Av (fsts (recsTo X n)).length cv) := (hg4.block _ hbr.lt (fun e => ownRow_cells hrow hbrh (fun c r e => by cases e) e.symm)).trans hbr
    have hK4 : w4.heap[Dd]? = some (.deferred (some [])) := (hg4.block _ (lt_of_block hK) (fun e => ownRow_cells hrow hK (fun c r e => by cases e) e.symm)).trans hK
    have hc4 := hbr4.cell
    have hB4 : Below w.heap.size w w4 := hB.grown hg4 hB.size (fun k e => by have := (own_block_ltR hrow e).1; omega)
    have hlen := hp.length_eq
    gi_wp2
    refine ⟨by simp, .inl ⟨_, _, rfl, run_takeDeferred hK4, ?_⟩⟩
    refine ⟨_, results_tmp rfl _ _ _, ?_⟩
    rw [← hlen] at hown4 ⊢
    have hrow' := ownsRow_putObj hown4 (.deferred none) hK4 rfl
    exact ⟨Av, cv, rfl, cap_of_own hrow', (ow_of_own hrow').mono (by omega) (Nat.le_refl _), hB4.trans (belowK_b (w := w) (Nat.le_refl _) w4 Dd _ _ (by omega) hK4 rfl rfl)⟩
  case stop =>
    rintro D c pre W _ _ h _
    exact h.elim
end Go.Proofs.YtloaeglmngcenaaGreatDoor
