/-
  What the row's list of package variables gives a walk: the three sentinels of chapter 6, as they lie in memory; and that they read the same in every later world.
  What the row's list of package variables gives a walk: the handle errors.errorType and the sentinels of chapter 6 together.
  The full blocks of a chip, with a size for each; comparing numbers.
  Victim, of the program: the iterator over the full blocks, the least of them.
  Victim, of the program.
  Victim, of the document's model.
  Gc, the plain mathematics: the load appended record by record, then the block erased; the chip stays valid.
  Plain mathematics of chapter 8 (drives): which are valid, and what each operation answers. No condition.
  A move, of the program: a block that is emptied step by step.
  Gc, of the program: a load moved out of its block, step by step.
  Gc, of the document's model.
-/
import Derived.Test.YtfpibbhcecdbgaaGreatDoorProg
import Derived.KernelRfl
import Derived.Test.YtfpibbhcecdbgaaGreatDoorLgErr
import Derived.Stop.LaidErr
import Derived.LaidLaws
import Derived.LaidHandle
import Derived.Test.YtfpibbhcecdbgaaGreatDoorBtGet
import Derived.RangeFuncNested
import Derived.RangeFuncBound
import Derived.RangeFuncCalls
import Derived.RangeFuncLeaves
import Derived.Shelf.Abstract
import Derived.Shelf.RegionOpen
import Derived.WalkKit
import Derived.OwnWalkIn
import Derived.TacticsInMore
import Derived.LoopNIn
import Derived.LoopIn
import Derived.Deep.RegionHeld3
import Derived.Scope
import Derived.RangeFuncBox
import Derived.Test.YtfpibbhcecdbgaaGreatDoorNdUse
import Derived.Test.YtfpibbhcecdbgaaGreatDoorMgLoad
import Derived.Test.YtfpibbhcecdbgaaGreatDoorMgChip
import Derived.Test.YtfpibbhcecdbgaaGreatDoorLgMountA
import Derived.Deep.DeepCutAuto
import Derived.Deep.CutBlock
namespace Go.Proofs.YtfpibbhcecdbgaaGreatDoor
open Go.RowKit

abbrev nInv : String := "loop.example/g00637/impl.errInvalid"
abbrev nRoom : String := "loop.example/g00637/impl.errNoRoom"
abbrev nHist : String := "loop.example/g00637/impl.errNoHistory"
theorem gInv : Tryz.prog.globalNamed nInv = some 0 := by kernel_rfl
theorem gRoom : Tryz.prog.globalNamed nRoom = some 2 := by kernel_rfl
theorem gHist : Tryz.prog.globalNamed nHist = some 1 := by kernel_rfl
theorem gtInv : (Tryz.prog.globals[0]?).map (·.type) = some 103 := by kernel_rfl
theorem gtRoom : (Tryz.prog.globals[2]?).map (·.type) = some 103 := by kernel_rfl
theorem gtHist : (Tryz.prog.globals[1]?).map (·.type) = some 103 := by kernel_rfl
theorem cellsES : Tryz.prog.cellsOf 369 = 1 := by kernel_rfl
theorem cellsStr : Tryz.prog.cellsOf 9 = 1 := by kernel_rfl
theorem starES : "*" ++ "errors.errorString" = "*errors.errorString" := by decide
theorem rowES (u : TypeId) (h : Tryz.prog.typeName? 3 u = some "*errors.errorString") : u = 350 :=
  typeName_ptr_named (nm := "errors.errorString") (by rw [starES]; kernel_rfl) (by kernel_rfl) (by decide) u (by rw [starES]; exact h)

/-- three sentinels of one list, over any program: three places, none met twice -/
theorem three_of_laid {P : Program} {n0 n1 n2 nm : String} {x0 x1 x2 : List UInt8} {r : List (String × DataW Unit)} {W : World} {g0 g1 g2 : Nat} {ti tp te ts : TypeId} {ms : Array (String × TypeId)} {f : Field}
    (h : laidMet P ((n0, .iface nm (.ptr (.agg [.lit (.string x0)]))) :: (n1, .iface nm (.ptr (.agg [.lit (.string x1)]))) :: (n2, .iface nm (.ptr (.agg [.lit (.string x2)]))) :: r) W)
    (hg0 : P.globalNamed n0 = some g0) (ht0 : (P.globals[g0]?).map (·.type) = some ti) (hg1 : P.globalNamed n1 = some g1) (ht1 : (P.globals[g1]?).map (·.type) = some ti) (hg2 : P.globalNamed n2 = some g2) (ht2 : (P.globals[g2]?).map (·.type) = some ti)
    (hi : P.underlying ti = some (.interface ms)) (hrow : ∀ u, P.typeName? 3 u = some nm → u = tp)
    (hp : P.underlying tp = some (.pointer te)) (he : P.underlying te = some (.struct #[f])) (hft : f.type = ts) (hfo : f.offset = 0) (hs : P.underlying ts = some .string) (hc : P.cellsOf te = 1) (hcs : P.cellsOf ts = 1) :
    ∃ a0 a1 a2 : Addr, (W.var? P n0 = some #[.iface tp (.pointer (some a0))] ∧ W.var? P n1 = some #[.iface tp (.pointer (some a1))] ∧ W.var? P n2 = some #[.iface tp (.pointer (some a2))]) ∧
      ((∃ c t, W.heap[a0.block]? = some (.cells c t (0, 0))) ∧ (∃ c t, W.heap[a1.block]? = some (.cells c t (0, 0))) ∧ (∃ c t, W.heap[a2.block]? = some (.cells c t (0, 0)))) ∧ a0 ≠ a1 ∧ a0 ≠ a2 ∧ a1 ≠ a2 := by
  obtain ⟨ps, ⟨g0', t0, ⟨l0⟩, f0, p0, q0, hg0', ht0', hv0, hd0, ⟨g1', t1, ⟨l1⟩, f1, p1, q1, hg1', ht1', hv1, hd1, ⟨g2', t2, ⟨l2⟩, f2, p2, q2, hg2', ht2', hv2, hd2, -, e2⟩, e1⟩, e0⟩, hnd, hrows⟩ := h
  obtain rfl := Option.some.inj (hg0.symm.trans hg0')
  obtain rfl := Option.some.inj (hg1.symm.trans hg1')
  obtain rfl := Option.some.inj (hg2.symm.trans hg2')
  obtain rfl := Option.some.inj (ht0.symm.trans ht0')
  obtain rfl := Option.some.inj (ht1.symm.trans ht1')
  obtain rfl := Option.some.inj (ht2.symm.trans ht2')
  subst e2
  subst e1
  subst e0
  have ok0 : ∀ u v, l0 = [.iface u v] → Value.okWide P W .any 0 u v := fun u v e => by
    subst e; exact (hrows g0 0 (by simp [MemPlace.row])).2 u v (by simpa using World.var?_cell hg0' hv0 0)
  have ok1 : ∀ u v, l1 = [.iface u v] → Value.okWide P W .any 0 u v := fun u v e => by
    subst e; exact (hrows g1 0 (by simp [MemPlace.row])).2 u v (by simpa using World.var?_cell hg1' hv1 0)
  have ok2 : ∀ u v, l2 = [.iface u v] → Value.okWide P W .any 0 u v := fun u v e => by
    subst e; exact (hrows g2 0 (by simp [MemPlace.row])).2 u v (by simpa using World.var?_cell hg2' hv2 0)
  obtain ⟨a0, s0, rfl, hc0, hs0, hz0, rfl⟩ := errorString_of_trod hi hrow hp he hft hfo hs hc hcs hd0 ok0
  obtain ⟨a1, s1, rfl, hc1, hs1, hz1, rfl⟩ := errorString_of_trod hi hrow hp he hft hfo hs hc hcs hd1 ok1
  obtain ⟨a2, s2, rfl, hc2, hs2, hz2, rfl⟩ := errorString_of_trod hi hrow hp he hft hfo hs hc hcs hd2 ok2
  refine ⟨a0, a1, a2, ⟨hv0, hv1, hv2⟩, ⟨(hrows a0.block a0.off (by simp [MemPlace.row])).1, (hrows a1.block a1.off (by simp [MemPlace.row])).1, (hrows a2.block a2.off (by simp [MemPlace.row])).1⟩, ?_, ?_, ?_⟩
  · rintro rfl; simp [MemPlace.row] at hnd
  · rintro rfl; simp [MemPlace.row] at hnd
  · rintro rfl; simp [MemPlace.row] at hnd
theorem var_first {P : Program} {W : World} {n : String} {g : Nat} {v : Value} (hg : P.globalNamed n = some g) (h : W.var? P n = some #[v]) : W.cell? ⟨g, 0, none⟩ = some v := by simpa using World.var?_cell hg h 0
theorem sents_of_laid {W : World} {x0 x1 x2 : List UInt8} {r : List (String × DataW Unit)}
    (h : laidMet Tryz.prog ((nInv, .iface "*errors.errorString" (.ptr (.agg [.lit (.string x0)]))) :: (nRoom, .iface "*errors.errorString" (.ptr (.agg [.lit (.string x1)]))) :: (nHist, .iface "*errors.errorString" (.ptr (.agg [.lit (.string x2)]))) :: r) W) :
    ∃ a0 a1 a2 : Addr, Sents W a0 a1 a2 ∧ W.var? Tryz.prog nInv = some #[.iface 350 (.pointer (some a0))] ∧ W.var? Tryz.prog nRoom = some #[.iface 350 (.pointer (some a1))] ∧ W.var? Tryz.prog nHist = some #[.iface 350 (.pointer (some a2))] := by
  obtain ⟨a0, a1, a2, ⟨h0, h1, h2⟩, ⟨b0, b1, b2⟩, n1, n2, n3⟩ := three_of_laid h gInv gtInv gRoom gtRoom gHist gtHist Tryz.underlying103 rowES Tryz.underlying350 Tryz.underlying369 rfl rfl Tryz.underlying9 cellsES cellsStr
  exact ⟨a0, a1, a2, ⟨var_first gInv h0, var_first gRoom h1, var_first gHist h2, b0, b1, b2, n1, n2, n3⟩, h0, h1, h2⟩

theorem var_below {P : Program} {W W' : World} {n : String} {cs : Array Value} (h : W.var? P n = some cs) (hb : Below W.heap.size W W') : W'.var? P n = some cs := by
  unfold World.var? at h ⊢
  cases hg : P.globalNamed n with
  | none => simp [hg] at h
  | some g =>
    simp only [hg, Option.bind_some] at h ⊢
    have hlt : g < W.heap.size := by
      rcases Nat.lt_or_ge g W.heap.size with h' | h'
      · exact h'
      · simp [Array.getElem?_eq_none h'] at h
    rw [hb.block g hlt]
    exact h
/-- the three sentinels, read as tokens -/
theorem vars_read3 {H : Type} (enc : TypeId × Value → H) {W : World} {v0 v1 v2 : Value} (h0 : W.var? Tryz.prog nInv = some #[v0]) (i0 : IsIface v0) (h1 : W.var? Tryz.prog nRoom = some #[v1]) (i1 : IsIface v1) (h2 : W.var? Tryz.prog nHist = some #[v2]) (i2 : IsIface v2) (sp : Nat → Bool) :
    DataW.TrodVars enc Tryz.prog W sp [nInv, nRoom, nHist] [tok enc v0, tok enc v1, tok enc v2] [.cell 0 0, .cell 2 0, .cell 1 0] :=
  ⟨_, _, #[v0], 1, [], _, gInv, gtInv, h0, trod_held Tryz.underlying103 i0 0, vars_read2 enc gRoom gtRoom Tryz.underlying103 h1 i1 gHist gtHist Tryz.underlying103 h2 i2 sp, rfl⟩

/-- a world in which they lie so: there is one -/
noncomputable def lowW : Nat := (World.holding Tryz.prog default ⟨#[], #[], []⟩).heap.size
noncomputable def sentWorld (os : Os) (s0 s1 s2 : ByteArray) : World :=
  let w0 := World.holding Tryz.prog os ⟨#[.cells #[.string s0] 369, .cells #[.string s1] 369, .cells #[.string s2] 369], #[], []⟩
  { w0 with heap := ((w0.heap.modify 0 fun
      | .cells _ t frozen => .cells #[.iface 350 (.pointer (some ⟨lowW, 0, none⟩))] t frozen
      | o => o).modify 2 fun
      | .cells _ t frozen => .cells #[.iface 350 (.pointer (some ⟨lowW + 1, 0, none⟩))] t frozen
      | o => o).modify 1 fun
      | .cells _ t frozen => .cells #[.iface 350 (.pointer (some ⟨lowW + 2, 0, none⟩))] t frozen
      | o => o }
end Go.Proofs.YtfpibbhcecdbgaaGreatDoor

namespace Go.Proofs.YtfpibbhcecdbgaaGreatDoor
open Go.RowKit

theorem hEt : Tryz.prog.globalNamed "errors.errorType" = some 3 := by kernel_rfl
theorem hRt : (Tryz.prog.cutTypes.find? (·.1 == "internal/reflectlite.rtype")).map (·.2) = some 279 := by kernel_rfl
theorem hOneRow : ((List.range 381).filter fun t => Tryz.prog.rowNamed t [101, 114, 114, 111, 114]) = [103] := by kernel_rfl
theorem hTypes : Tryz.prog.types.size = 381 := by kernel_rfl
theorem hHandle : typeHandle Tryz.prog 103 = .pointer (some ⟨4, 103, none⟩) := by kernel_rfl
/-- the handle, out of the list's part -/
theorem errType_of_handle {W : World} {d : DataW Unit} (hd : d = .iface "internal/reflectlite.rtype" (.agg [.ptr (.lit (.string [101, 114, 114, 111, 114]))])) (h : handlesMet Tryz.prog [("errors.errorType", d)] W) : ErrType W := by
  subst hd
  obtain ⟨name, u, ty, e1, e2, e3, e4, e5⟩ := h _ (List.mem_singleton.2 rfl)
  have en : name = [101, 114, 114, 111, 114] := (Option.some.inj e1).symm
  subst en
  obtain rfl := Option.some.inj (hRt.symm.trans e2)
  have hm : ty ∈ (List.range 381).filter fun t => Tryz.prog.rowNamed t [101, 114, 114, 111, 114] := List.mem_filter.2 ⟨List.mem_range.2 (by rw [← hTypes]; exact e3), e4⟩
  rw [hOneRow] at hm
  obtain rfl := List.mem_singleton.1 hm
  rw [hHandle] at e5
  exact (by simpa using World.var?_cell hEt e5 0 : W.cell? ⟨3, 0, none⟩ = some (.iface 279 (.agg #[.pointer (some ⟨4, 103, none⟩)])))

/-- two sentinels of one list, over any program -/
theorem two_of_list {P : Program} {n0 n1 nm : String} {x0 x1 : List UInt8} {r : List (String × DataW Unit)} {W : World} {g0 g1 : Nat} {ti tp te ts : TypeId} {ms : Array (String × TypeId)} {f : Field}
    (h : laidMet P ((n0, .iface nm (.ptr (.agg [.lit (.string x0)]))) :: (n1, .iface nm (.ptr (.agg [.lit (.string x1)]))) :: r) W)
    (hg0 : P.globalNamed n0 = some g0) (ht0 : (P.globals[g0]?).map (·.type) = some ti) (hg1 : P.globalNamed n1 = some g1) (ht1 : (P.globals[g1]?).map (·.type) = some ti)
    (hi : P.underlying ti = some (.interface ms)) (hrow : ∀ u, P.typeName? 3 u = some nm → u = tp)
    (hp : P.underlying tp = some (.pointer te)) (he : P.underlying te = some (.struct #[f])) (hft : f.type = ts) (hfo : f.offset = 0) (hs : P.underlying ts = some .string) (hc : P.cellsOf te = 1) (hcs : P.cellsOf ts = 1) :
    ∃ a0 a1 : Addr, W.var? P n0 = some #[.iface tp (.pointer (some a0))] ∧ W.var? P n1 = some #[.iface tp (.pointer (some a1))] := by
  obtain ⟨ps, ⟨g0', t0, ⟨l0⟩, f0, p0, q0, hg0', ht0', hv0, hd0, ⟨g1', t1, ⟨l1⟩, f1, p1, q1, hg1', ht1', hv1, hd1, -, e1⟩, e0⟩, hnd, hrows⟩ := h
  obtain rfl := Option.some.inj (hg0.symm.trans hg0')
  obtain rfl := Option.some.inj (hg1.symm.trans hg1')
  obtain rfl := Option.some.inj (ht0.symm.trans ht0')
  obtain rfl := Option.some.inj (ht1.symm.trans ht1')
  subst e1
  subst e0
  have ok0 : ∀ u v, l0 = [.iface u v] → Value.okWide P W .any 0 u v := fun u v e => by
    subst e; exact (hrows g0 0 (by simp [MemPlace.row])).2 u v (by simpa using World.var?_cell hg0' hv0 0)
  have ok1 : ∀ u v, l1 = [.iface u v] → Value.okWide P W .any 0 u v := fun u v e => by
    subst e; exact (hrows g1 0 (by simp [MemPlace.row])).2 u v (by simpa using World.var?_cell hg1' hv1 0)
  obtain ⟨a0, s0, rfl, hc0, hs0, hz0, rfl⟩ := errorString_of_trod hi hrow hp he hft hfo hs hc hcs hd0 ok0
  obtain ⟨a1, s1, rfl, hc1, hs1, hz1, rfl⟩ := errorString_of_trod hi hrow hp he hft hfo hs hc hcs hd1 ok1
  exact ⟨a0, a1, hv0, hv1⟩
theorem two_of_laid {W : World} {x0 x2 : List UInt8} {r : List (String × DataW Unit)}
    (h : laidMet Tryz.prog ((nInv, .iface "*errors.errorString" (.ptr (.agg [.lit (.string x0)]))) :: (nHist, .iface "*errors.errorString" (.ptr (.agg [.lit (.string x2)]))) :: r) W) :
    ∃ a0 a2 : Addr, Two W a0 a2 ∧ W.var? Tryz.prog nInv = some #[.iface 350 (.pointer (some a0))] ∧ W.var? Tryz.prog nHist = some #[.iface 350 (.pointer (some a2))] := by
  obtain ⟨a0, a2, h0, h2⟩ := two_of_list h gInv gtInv gHist gtHist Tryz.underlying103 rowES Tryz.underlying350 Tryz.underlying369 rfl rfl Tryz.underlying9 cellsES cellsStr
  exact ⟨a0, a2, ⟨var_first gInv h0, var_first gHist h2⟩, h0, h2⟩

/-- the sentinels, read as tokens, in the order in which the statements list them -/
theorem vars_readIH {H : Type} (enc : TypeId × Value → H) {W : World} {v0 v2 : Value} (h0 : W.var? Tryz.prog nInv = some #[v0]) (i0 : IsIface v0) (h2 : W.var? Tryz.prog nHist = some #[v2]) (i2 : IsIface v2) (sp : Nat → Bool) :
    DataW.TrodVars enc Tryz.prog W sp [nInv, nHist] [tok enc v0, tok enc v2] [.cell 0 0, .cell 1 0] :=
  vars_read2 enc gInv gtInv Tryz.underlying103 h0 i0 gHist gtHist Tryz.underlying103 h2 i2 sp
theorem vars_readIHR {H : Type} (enc : TypeId × Value → H) {W : World} {v0 v1 v2 : Value} (h0 : W.var? Tryz.prog nInv = some #[v0]) (i0 : IsIface v0) (h1 : W.var? Tryz.prog nRoom = some #[v1]) (i1 : IsIface v1) (h2 : W.var? Tryz.prog nHist = some #[v2]) (i2 : IsIface v2) (sp : Nat → Bool) :
    DataW.TrodVars enc Tryz.prog W sp [nInv, nHist, nRoom] [tok enc v0, tok enc v2, tok enc v1] [.cell 0 0, .cell 1 0, .cell 2 0] :=
  ⟨_, _, #[v0], 1, [], _, gInv, gtInv, h0, trod_held Tryz.underlying103 i0 0, vars_read2 enc gHist gtHist Tryz.underlying103 h2 i2 gRoom gtRoom Tryz.underlying103 h1 i1 sp, rfl⟩

/-- a world in which all of them lie so: there is one -/
noncomputable def bothWorld (os : Os) (s0 s1 s2 : ByteArray) : World :=
  let w0 := sentWorld os s0 s1 s2
  { w0 with heap := w0.heap.modify 3 fun
      | .cells _ t frozen => .cells #[.iface 279 (.agg #[.pointer (some ⟨4, 103, none⟩)])] t frozen
      | o => o }
end Go.Proofs.YtfpibbhcecdbgaaGreatDoor

namespace Go.Proofs.YtfpibbhcecdbgaaGreatDoor
open Go.RowKit Go.Shelf Go.ChangeShapes
attribute [local go_sem] Oper.semAt_some

/-- a block that may be erased -/
noncomputable def fulB (b : Bk) : Bool := decide (b.bad = false ∧ uPre b.pages = 4)
/-- the full blocks, with the sizes of their loads -/
noncomputable def fulls (X : List Bk) (L : Nat → Nat) : Nat → List (Int × Int)
  | 0 => []
  | k + 1 => if fulB (X.getD k zeroBk) = true then fulls X L k ++ [((k : Int), (L k : Int))] else fulls X L k
theorem fulls_yes {X : List Bk} {L : Nat → Nat} {k : Nat} (h : fulB (X.getD k zeroBk) = true) : fulls X L (k + 1) = fulls X L k ++ [((k : Int), (L k : Int))] := by rw [fulls, if_pos h]
theorem fulls_no {X : List Bk} {L : Nat → Nat} {k : Nat} (h : fulB (X.getD k zeroBk) = false) : fulls X L (k + 1) = fulls X L k := by rw [fulls, if_neg (by rw [h]; simp)]
theorem fulls_len (X : List Bk) (L : Nat → Nat) (k : Nat) : (fulls X L k).length ≤ k := by
  induction k with
  | zero => simp [fulls]
  | succ k ih => rw [fulls]; split <;> (try rw [List.length_append, List.length_singleton]) <;> omega
theorem fulls_pre (X : List Bk) (L : Nat → Nat) {k N : Nat} (h : k ≤ N) : ∃ rest, fulls X L k ++ rest = fulls X L N := by
  induction N with
  | zero => exact ⟨[], by rw [show k = 0 by omega]; simp⟩
  | succ N ih =>
    rcases Nat.lt_or_ge k (N + 1) with h1 | h1
    · obtain ⟨r, hr⟩ := ih (by omega)
      rw [fulls]
      split
      · exact ⟨r ++ [_], by rw [← List.append_assoc, hr]⟩
      · exact ⟨r, hr⟩
    · obtain rfl : k = N + 1 := by omega
      exact ⟨[], by simp⟩
theorem fulls_nonneg (X : List Bk) (L : Nat → Nat) (k : Nat) : ∀ x ∈ fulls X L k, 0 ≤ x.2 := by
  induction k with
  | zero => intro x h; simp [fulls] at h
  | succ k ih =>
    intro x h
    rw [fulls] at h
    split at h
    · rcases List.mem_append.1 h with h | h
      · exact ih x h
      · rw [List.mem_singleton.1 h]; simp
    · exact ih x h
/-- the first block with the least size, below 4 -/
def vstep (s : Int × Int) (x : Int × Int) : Int × Int := if x.2 < s.2 then x else s
def vic (l : List (Int × Int)) : Int × Int := l.foldl vstep (-1, 4)
theorem vic_snoc (l : List (Int × Int)) (x : Int × Int) : vic (l ++ [x]) = vstep (vic l) x := by simp [vic]
theorem vic_stays {l rest : List (Int × Int)} (h : (vic l).2 = 0) (hr : ∀ x ∈ rest, 0 ≤ x.2) : vic (l ++ rest) = vic l := by
  have : ∀ (rest : List (Int × Int)) (s : Int × Int), s.2 = 0 → (∀ x ∈ rest, 0 ≤ x.2) → rest.foldl vstep s = s := by
    intro rest
    induction rest with
    | nil => intro s _ _; rfl
    | cons a l ih =>
      intro s hs ha
      have e : vstep s a = s := by unfold vstep; rw [if_neg (by have := ha a (by simp); omega)]
      rw [List.foldl_cons, e]
      exact ih s hs (fun x hx => ha x (by simp [hx]))
  unfold vic at *
  rw [List.foldl_append]
  exact this rest _ h hr

set_option maxHeartbeats 1000000 in
theorem isNaNI_any (x : Int) (w : World) : Calls Tryz.prog 262 #[.int .i64 x] w fun e w' => e = .returned (.bool false) ∧ w' = w := by
  go_enter Tryz.func262, Tryz.ntmps262
  go_wp2
  go_ret
  exact ⟨by simp, rfl⟩
def cmpI (x y : Int) : Int := if x < y then -1 else if x > y then 1 else 0
set_option maxHeartbeats 1000000 in
theorem compareI_any (x y : Int) (w : World) : Calls Tryz.prog 229 #[.int .i64 x, .int .i64 y] w fun e w' => e = .returned (.int .i64 (cmpI x y)) ∧ w' = w := by
  have HC : Hid (cmpI x y = if x < y then -1 else if x > y then 1 else 0) := Lib.hid rfl
  generalize cmpI x y = r at HC ⊢
  go_enter Tryz.func229, Tryz.ntmps229
  go_wp2_with fail
  refine (isNaNI_any x w).mono ?_
  rintro e w1 ⟨rfl, rfl⟩
  go_wp2_with fail
  refine (isNaNI_any y w1).mono ?_
  rintro e w2 ⟨rfl, rfl⟩
  by_cases h1 : x < y
  · have h1' : decide (x < y) = true := decide_eq_true h1
    have HR : Hid (r = -1) := by show _ = _; rw [HC.out, if_pos h1]
    clear HC
    go_wp2
    go_ret
    exact ⟨by rw [HR.out]; rfl, rfl⟩
  · have h1' : decide (x < y) = false := decide_eq_false h1
    by_cases h2 : x > y
    · have h2' : decide (y < x) = true := decide_eq_true h2
      have HR : Hid (r = 1) := by show _ = _; rw [HC.out, if_neg h1, if_pos h2]
      clear HC
      go_wp2
      go_ret
      exact ⟨by rw [HR.out]; rfl, rfl⟩
    · have h2' : decide (y < x) = false := decide_eq_false h2
      have HR : Hid (r = 0) := by show _ = _; rw [HC.out, if_neg h1, if_neg h2]
      clear HC
      go_wp2
      go_ret
      exact ⟨by rw [HR.out]; rfl, rfl⟩
set_option maxHeartbeats 1000000 in
theorem isFull_any (A : Option Addr) (ca : Nat) (a b c d : Pg) (er : Int) (bad : Bool) (w : World) (hA : RdPg w w.heap.size A 4 [a, b, c, d]) :
    Calls Tryz.prog 155 #[.agg #[.slice A 4 ca, .int .i64 er, .bool bad]] w fun e w' => e = .returned (.bool (decide (bad = false ∧ uPre [a, b, c, d] = 4))) ∧ Below w.heap.size w w' := by
  have HA := Lib.hid hA; clear hA
  cases bad with
  | true =>
    have HC : Hid (decide (true = false ∧ uPre [a, b, c, d] = 4) = false) := by show _ = _; simp
    go_enter Tryz.func155, Tryz.ntmps155
    go_wp2
    go_ret
    exact ⟨ret_b HC.out.symm, box_below _ _⟩
  | false =>
    go_enter Tryz.func155, Tryz.ntmps155
    go_wp2_with fail
    refine (pagesOf_any A ca a b c d er false _ ((HA.out.below (box_below _ _)).mono (box_below _ _).size)).mono ?_
    rintro e w3 ⟨rfl, hb3⟩
    have HB3 := Lib.hid (bel_step (box_below w _) hb3)
    clear hb3
    go_wp2_with fail
    refine (used_any a b c d w3).mono ?_
    rintro e w4 ⟨rfl, hb4⟩
    have HB4 := Lib.hid (bel_step HB3.out hb4)
    clear hb4
    obtain ⟨u, hu⟩ : ∃ u, u = uPre [a, b, c, d] := ⟨_, rfl⟩
    rw [← hu]
    have HU := Lib.hid hu; clear hu
    by_cases h0 : u = 4
    · subst h0
      have HC : Hid (decide (false = false ∧ uPre [a, b, c, d] = 4) = true) := by show _ = _; simp [← HU.out]
      go_wp2
      go_ret
      exact ⟨ret_b HC.out.symm, HB4.out⟩
    · have HC : Hid (decide (false = false ∧ uPre [a, b, c, d] = 4) = false) := by show _ = _; simp [← HU.out, h0]
      have h0' : ((u : Int) == 4) = false := by simp; omega
      go_wp2
      go_ret
      exact ⟨ret_b HC.out.symm, HB4.out⟩

end Go.Proofs.YtfpibbhcecdbgaaGreatDoor

namespace Go.Proofs.YtfpibbhcecdbgaaGreatDoor
open Go.RowKit Go.Shelf Go.ChangeShapes
open Bt (Rc)
attribute [local go_sem] Oper.semAt_some

/-- what the iterator reads: all of it below block n₀ -/
structure FB (w : World) (n₀ b1 b2 b3 : Nat) (A : Option Addr) (N ca g : Nat) (X : List Bk) (f : Nat → Value) (L : Nat → Nat) : Prop where
  c1 : w.cell? ⟨b1, 0, none⟩ = some (.slice A N ca)
  l1 : b1 < n₀
  c2 : w.cell? ⟨b2, 0, none⟩ = some (.func (.func 167) #[] #[.pointer (some ⟨b3, 0, none⟩)])
  l2 : b2 < n₀
  c3 : w.cell? ⟨b3, 0, none⟩ = some (.slice (some ⟨g, 0, none⟩) N N)
  l3 : b3 < n₀
  rd : RdBk w n₀ A N X
  row : Row w g N f
  lg : g < n₀
  len : ∀ j, j < N → ∃ A' c', f j = .slice A' (L j) c'
theorem FB.below {w w' : World} {n₀ b1 b2 b3 : Nat} {A : Option Addr} {N ca g : Nat} {X : List Bk} {f : Nat → Value} {L : Nat → Nat} (h : FB w n₀ b1 b2 b3 A N ca g X f L) (hb : Below n₀ w w') : FB w' n₀ b1 b2 b3 A N ca g X f L :=
  ⟨(hb.cell (p := ⟨b1, 0, none⟩) h.l1).trans h.c1, h.l1, (hb.cell (p := ⟨b2, 0, none⟩) h.l2).trans h.c2, h.l2, (hb.cell (p := ⟨b3, 0, none⟩) h.l3).trans h.c3, h.l3, h.rd.below hb, h.row.below hb h.lg, h.lg, h.len⟩
/-- the size of a block: that of its load -/
theorem sizeOf_any (b3 g N j n : Nat) (A' : Option Addr) (c' : Nat) (f : Nat → Value) (W : World) (hc : W.cell? ⟨b3, 0, none⟩ = some (.slice (some ⟨g, 0, none⟩) N N)) (hr : Row W g N f) (hj : j < N) (hf : f j = .slice A' n c') :
    Calls Tryz.prog 167 #[.int .i64 (j : Nat), .pointer (some ⟨b3, 0, none⟩)] W fun e w' => e = .returned (.int .i64 (n : Nat)) ∧ w' = W := by
  have x3 : W.cell? ⟨g, j, none⟩ = some (f j) := hr.cell hj
  rw [hf] at x3
  have hjN : (j : Int) < (N : Int) := by omega
  go_enter Tryz.func167, Tryz.ntmps167
  go_wp2
  go_ret
  exact ⟨rfl, rfl⟩

set_option maxRecDepth 100000 in
set_option maxHeartbeats 4000000 in
theorem full1_in (n : Nat) (l b1 b2 b3 n₀ : Nat) (A : Option Addr) (N ca g : Nat) (X : List Bk) (f : Nat → Value) (L : Nat → Nat) (J Jx : List (Int × Int) → World → Prop) (W : World) (hn : 1 ≤ n) (hok : NdOk X) (hL : ∀ j, L j ≤ 1048576) (hJ : AbidesFrom W.heap.size J)
    (hY : ∀ pre x W1, J pre W1 → pre.length < 48 → YieldAt Fence.wide (n - 1) Tryz.prog l #[.int .i64 x.1, .int .i64 x.2] W1 fun e W' =>
      (e = .returned (.bool true) ∧ J (pre ++ [x]) W' ∧ Below n₀ W1 W') ∨ (e = .returned (.bool false) ∧ Jx (pre ++ [x]) W'))
    (hn₀ : n₀ ≤ W.heap.size) (hF : FB W n₀ b1 b2 b3 A N ca g X f L) (h0 : J [] W) :
    CallsIn Fence.wide n Tryz.prog 230 #[.func (.yield l) #[] #[], .pointer (some ⟨b1, 0, none⟩), .pointer (some ⟨b2, 0, none⟩)] W fun e W' => (∃ v, e = .returned v) ∧
      ((∃ ys, ys = fulls X L N ∧ J ys W') ∨ (∃ pre, (∃ rest, pre ++ rest = fulls X L N) ∧ Jx pre W')) := by
  have hNL : N = X.length := hF.rd.1.symm
  have hN12 : N ≤ 12 := by rw [hNL]; exact hok.1.2
  have HNL := Lib.hid hNL
  have HOK := Lib.hid hok; have HF := Lib.hid hF; have HLL := Lib.hid hL
  have hcb := hF.c1
  clear hF hok hNL hL
  refine callsIn_of_wp Tryz.func230 rfl trivial ?_ rfl
  simp only [Tryz.ntmps230, List.size_toArray, List.length_cons, List.length_nil, Nat.reduceAdd, Nat.reduceSub, Array.replicate_succ, Array.replicate_zero, List.push_toArray, List.append_toArray, List.nil_append, List.cons_append]
  gi_wp2
  clear hcb
  gi_loopw [8] (fun iv wr => ∃ k : Nat, iv = .int .i64 (k : Nat) ∧ k ≤ N ∧ FB wr n₀ b1 b2 b3 A N ca g X f L ∧ W.heap.size ≤ wr.heap.size ∧ J (fulls X L k) wr) (fun iv _ => N - (intOf iv).toNat)
  case atStart => exact ⟨0, rfl, Nat.zero_le _, HF.out, Nat.le_refl _, h0⟩
  case round =>
    obtain ⟨k, rfl, hk, hfb, hsz, hJp⟩ := hrel
    have HFB := Lib.hid hfb; have HJ := Lib.hid hJp
    have hcs := hfb.c1
    clear hfb hJp
    by_cases hlt : k < N
    · obtain ⟨g', off, pA, pc, rfl, hg, hc0, hc1, hc2, hpg⟩ := HFB.out.rd.at hlt
      have hkl : k < X.length := by rw [← HNL.out]; exact hlt
      have HPG := Lib.hid (hpg.mono (Nat.le_trans hn₀ hsz))
      have HBO := Lib.hid (HOK.out.2 k hkl)
      have HYES := Lib.hid (fun h => fulls_yes (X := X) (L := L) (k := k) h); have HNO := Lib.hid (fun h => fulls_no (X := X) (L := L) (k := k) h)
      have HPRE := Lib.hid (fulls_pre X L (k := k + 1) (N := N) (by omega))
      have hlen : (fulls X L k).length < 48 := by have := fulls_len X L k; omega
      have hFBd : fulB (X.getD k zeroBk) = decide ((X.getD k zeroBk).bad = false ∧ uPre (X.getD k zeroBk).pages = 4) := rfl
      rw [hFBd] at HYES HNO
      clear hFBd hpg
      generalize X.getD k zeroBk = b at hc0 hc1 hc2 HPG HBO HYES HNO
      obtain ⟨ps, er, bd⟩ := b
      simp only at hc0 hc1 hc2 HPG HYES HNO
      obtain ⟨pa, pb, pc', pd, rfl⟩ := four_of_length HBO.out.1
      obtain ⟨A', c', hfk⟩ := HFB.out.len k hlt
      have HFK := Lib.hid hfk
      clear hfk
      gi_wp2_with fail
      refine ⟨trivial, ?_⟩
      refine (callsIn_wide.2 (isFull_any pA pc pa pb pc' pd er bd wr HPG.out)).mono ?_
      rintro e w3 ⟨rfl, hb3⟩
      have HFB3 := Lib.hid (HFB.out.below (hb3.mono (Nat.le_trans hn₀ hsz)))
      have HJ3 : Hid (J (fulls X L k) w3) := hJ _ wr w3 none HJ.out (gby_below hb3) (fun r e => by cases e)
      have hsz3 : W.heap.size ≤ w3.heap.size := Nat.le_trans hsz hb3.size
      have x2 := HFB3.out.c2
      clear hb3 hcs hc0 hc1 hc2
      generalize decide (bd = false ∧ uPre [pa, pb, pc', pd] = 4) = full at *
      cases full with
      | false =>
        have HT := Lib.hid (HNO.out rfl)
        clear HYES HNO
        gi_wp2
        refine ⟨fun _ h => (by cases h), ?_⟩
        gi_wp2
        refine ⟨fun _ h => (by cases h), ?_⟩
        gi_wp2
        go_roundw
        case rel => exact ⟨k + 1, by go_num, by omega, HFB3.out, hsz3, by rw [HT.out]; exact HJ3.out⟩
        case measure => simp [intOf]; omega
      | true =>
        have HT := Lib.hid (HYES.out rfl)
        obtain ⟨fn, tmps, assign, body, hy, hRo⟩ := hY _ ((k : Int), (L k : Int)) _ HJ3.out hlen
        clear HYES HNO
        gi_wp2_with fail
        refine ⟨trivial, ?_⟩
        refine (callsIn_wide.2 (sizeOf_any b3 g N k (L k) A' c' f w3 HFB3.out.c3 HFB3.out.row hlt HFK.out)).mono ?_
        rintro e w4 ⟨rfl, rfl⟩
        gi_wp2
        refine hRo.mono ?_
        rintro e w7 (⟨rfl, hJ7, hk7⟩ | ⟨rfl, hJx7⟩)
        · have HFB7 := Lib.hid (HFB3.out.below hk7)
          have hsz7 : W.heap.size ≤ w7.heap.size := Nat.le_trans hsz3 hk7.size
          have HJ7 := Lib.hid hJ7
          clear hJ7 hk7
          gi_wp2
          go_roundw
          case rel => exact ⟨k + 1, by go_num, by omega, HFB7.out, hsz7, by rw [HT.out]; exact HJ7.out⟩
          case measure => simp [intOf]; omega
        · gi_wp2
          refine bodyPost_ret (results_none rfl _ _ _) rfl ?_
          exact ⟨⟨_, rfl⟩, .inr ⟨_, by rw [← HT.out]; exact HPRE.out, hJx7⟩⟩
    · obtain rfl : k = N := by omega
      gi_wp2
      refine bodyPost_end (results_none rfl _ _ _) rfl ?_
      exact ⟨⟨_, rfl⟩, .inl ⟨_, rfl, HJ.out⟩⟩
theorem full_stops (n : Nat) (hn : 1 ≤ n) (b1 b2 b3 n₀ : Nat) (A : Option Addr) (N ca g : Nat) (X : List Bk) (f : Nat → Value) (L : Nat → Nat) (w : World) (hok : NdOk X) (hL : ∀ j, L j ≤ 1048576) (hn₀ : n₀ ≤ w.heap.size) (hF : FB w n₀ b1 b2 b3 A N ca g X f L) :
    SeqStopsK Fence.wide n Tryz.prog 230 #[.pointer (some ⟨b1, 0, none⟩), .pointer (some ⟨b2, 0, none⟩)] (fun r : Int × Int => #[.int .i64 r.1, .int .i64 r.2]) (Below n₀) (fun ys => ys = fulls X L N) (fun pre => ∃ rest, pre ++ rest = fulls X L N) 48 w :=
  fun l J Jx W hW hJ _ hY h0 => full1_in n l b1 b2 b3 n₀ A N ca g X f L J Jx W hn hok hL hJ (fun pre x W1 h1 h2 => hY pre x W1 h1 h2) (Nat.le_trans hn₀ hW.size) (hF.below (hW.mono hn₀)) h0

theorem fullBlocks_any (A : Option Addr) (n ca b3 : Nat) (w : World) :
    Calls Tryz.prog 169 #[.agg #[.slice A n ca], .func (.func 167) #[] #[.pointer (some ⟨b3, 0, none⟩)]] w fun e w' =>
      e = .returned (.func (.func 230) #[] #[.pointer (some ⟨w.heap.size, 0, none⟩), .pointer (some ⟨w.heap.size + 1, 0, none⟩)]) ∧ w' = (w.alloc (.cells #[.slice A n ca] 28)).alloc (.cells #[.func (.func 167) #[] #[.pointer (some ⟨b3, 0, none⟩)]] 204) := by
  go_enter Tryz.func169, Tryz.ntmps169
  go_wp2
  go_ret
  exact ⟨rfl, rfl⟩

set_option maxRecDepth 100000 in
set_option maxHeartbeats 4000000 in
theorem leastBlock_any (b1 b2 b3 : Nat) (A : Option Addr) (N ca g : Nat) (X : List Bk) (f : Nat → Value) (L : Nat → Nat) (w : World) (hok : NdOk X) (hL : ∀ j, L j ≤ 1048576) (hF : FB w w.heap.size b1 b2 b3 A N ca g X f L) :
    Calls Tryz.prog 168 #[.func (.func 230) #[] #[.pointer (some ⟨b1, 0, none⟩), .pointer (some ⟨b2, 0, none⟩)], .int .i64 4, .int .i64 0] w fun e w' => e = .returned (.int .i64 (vic (fulls X L N)).1) ∧ Below w.heap.size w w' := by
  have HF := Lib.hid hF; have HOK := Lib.hid hok; have HLL := Lib.hid hL
  clear hF hok hL
  refine (callsIn_wide (n := 3)).1 ?_
  refine callsIn_of_wp_marks Tryz.func168 rfl trivial ?_ rfl
  simp only [Tryz.ntmps168, List.size_toArray, List.length_cons, List.length_nil, Nat.reduceAdd, Nat.reduceSub, Array.replicate_succ, Array.replicate_zero, List.push_toArray, List.append_toArray, List.nil_append, List.cons_append]
  gi_wp2
  refine wpIn_wide.2 (wp_scope_straight ((wpIn_wide (n := 3)).1 ?_))
  gi_wp2
  have bM := ((Boxed.new w 3 (.int .i64 0)).alloc (.cells #[.int .i64 (-1)] 2)).alloc (.cells #[.int .i64 4] 3)
  have bL := (Boxed.new (w.alloc (.cells #[.int .i64 0] 3)) 2 (.int .i64 (-1))).alloc (.cells #[.int .i64 4] 3)
  have bS := Boxed.new ((w.alloc (.cells #[.int .i64 0] 3)).alloc (.cells #[.int .i64 (-1)] 2)) 3 (.int .i64 4)
  have hB0 : Below w.heap.size w (((w.alloc (.cells #[.int .i64 0] 3)).alloc (.cells #[.int .i64 (-1)] 2)).alloc (.cells #[.int .i64 4] 3)) := (((Below.refl _ _).alloc (Nat.le_refl _) _).alloc (by simp) _).alloc (by simp; omega) _
  have hsW : (((w.alloc (.cells #[.int .i64 0] 3)).alloc (.cells #[.int .i64 (-1)] 2)).alloc (.cells #[.int .i64 4] 3)).heap.size = w.heap.size + 3 := by simp
  simp only [World.size_alloc] at bL bS
  change Code.wpIn _ _ _ _ _ _ (((w.alloc (.cells #[.int .i64 0] 3)).alloc (.cells #[.int .i64 (-1)] 2)).alloc (.cells #[.int .i64 4] 3))
  generalize ((w.alloc (.cells #[.int .i64 0] 3)).alloc (.cells #[.int .i64 (-1)] 2)).alloc (.cells #[.int .i64 4] 3) = W0 at bM bL bS hB0 hsW ⊢
  refine wpIn_label ?_
  gi_wp2
  have hF0 := HF.out.below hB0
  refine wpIn_rangeFunc_ownH rfl (by omega) (gf := 230) (lb := #[.pointer (some ⟨b1, 0, none⟩), .pointer (some ⟨b2, 0, none⟩)]) rfl trivial (enters_of Tryz.func230 (by kernel_rfl) rfl)
    (full_stops _ (by omega) b1 b2 b3 w.heap.size A N ca g X f L W0 HOK.out HLL.out (by omega) hF0) (fun h k => Below.trans h k) (fun W l o o' hl h h1 h2 => belowK_b (by omega) W l o o' hl h h1 h2) (Below.refl _ _) (fun _ => rfl)
    (fun pre W => (Boxed W w.heap.size 3 (.int .i64 0) ∧ Boxed W (w.heap.size + 1) 2 (.int .i64 (vic pre).1) ∧ Boxed W (w.heap.size + 1 + 1) 3 (.int .i64 (vic pre).2)) ∧ (Below w.heap.size w W ∧ W0.heap.size ≤ W.heap.size))
    (fun c pre W => c = .exit 0 ∧ (vic pre).2 = 0 ∧ (Boxed W (w.heap.size + 1) 2 (.int .i64 (vic pre).1)) ∧ (Below w.heap.size w W ∧ W0.heap.size ≤ W.heap.size))
    (OwnFrom.and (fun s A' B' row hs hg hr => by
      obtain ⟨h1, h2, h3⟩ := hs
      refine ⟨h1.kept hg (fun e => ?_), h2.kept hg (fun e => ?_), h3.kept hg (fun e => ?_)⟩ <;> (have := (hr _ e.symm).1; omega)) (OwnFrom.and (ownFrom_below (Nat.le_refl _) (by omega)) (fun _ _ _ _ hs hg _ => Nat.le_trans hs hg.size)))
    (fun c => ?ix)
    ⟨⟨bM, bL, bS⟩, hB0, Nat.le_refl _⟩
    (fun x a' W => a' = { tmps := #[.func (.func 230) #[] #[.pointer (some ⟨b1, 0, none⟩), .pointer (some ⟨b2, 0, none⟩)], .int .i64 4, .int .i64 0, undef, undef, .pointer (some ⟨w.heap.size, 0, none⟩), .int .i64 0, .pointer (some ⟨w.heap.size + 1, 0, none⟩), .pointer (some ⟨w.heap.size + 1 + 1, 0, none⟩), .int .i64 x.1, .int .i64 x.2, .int .i64 4, .func (.func 230) #[] #[.pointer (some ⟨b1, 0, none⟩), .pointer (some ⟨b2, 0, none⟩)], .int .i64 x.1, .int .i64 x.2, undef, undef, undef, undef, undef, undef, undef, undef, undef, undef, undef, undef, undef], defers := [] })
    (fun x a' _ X' Y row hs hg hr => hs)
    ?assign ?body ?done ?stop
  case ix =>
    intro s A' B' row hs hg hr
    obtain ⟨h0, h1, h2, h3, h4⟩ := hs
    exact ⟨h0, h1, h2.kept hg (fun e => by have := (hr _ e.symm).1; omega), (ownFrom_below (β := Unit) (w₀ := w) (Nat.le_refl _) (B := W0.heap.size) (by omega)) () A' B' row h3 hg hr, Nat.le_trans h4 hg.size⟩
  case assign =>
    rintro l pre x W K ⟨⟨h1, h2, h3⟩, hB, hz⟩ hK
    gi_wp2
    exact hK _ _ (KeepsFrom.refl _ _) (Below.refl _ _) ⟨⟨h1, h2, h3⟩, hB, hz⟩ rfl
  case body =>
    rintro l pre x a' W hl ⟨r, hr⟩ ⟨⟨h1, h2, h3⟩, hB, hz⟩ rfl hlt
    have c1 := h1.cell; have c2 := h2.cell; have c3 := h3.cell
    have f2 := h2.frozen; have f3 := h3.frozen
    have HV := Lib.hid (vic_snoc pre x)
    have HI := Lib.hid (And.intro h1 (And.intro h2 h3)); have HB := Lib.hid hB
    have hW3 : w.heap.size + 1 + 1 < W.heap.size := h3.lt
    gi_wp2_with fail
    refine ⟨trivial, ?_⟩
    refine (CallsIn.inRound l (callsIn_wide.2 (compareI_any x.2 (vic pre).2 W))).mono ?_
    rintro e w3 ⟨rfl, rfl⟩
    have HST : Hid (vstep (vic pre) x = if x.2 < (vic pre).2 then x else vic pre) := Lib.hid rfl
    have HCM : Hid (cmpI x.2 (vic pre).2 = if x.2 < (vic pre).2 then -1 else if x.2 > (vic pre).2 then 1 else 0) := Lib.hid rfl
    clear h1 h2 h3 hB
    obtain ⟨x1, x2⟩ := x
    simp only at *
    by_cases hc : x2 < (vic pre).2
    · have HT : Hid (vic (pre ++ [(x1, x2)]) = (x1, x2)) := by show _ = _; rw [HV.out, HST.out, if_pos hc]
      rw [HCM.out, if_pos hc]
      have HB2 := Lib.hid ((HB.out.setCell (p := ⟨w.heap.size + 1, 0, none⟩) (by dsimp only; omega) (.int .i64 x1)).setCell (p := ⟨w.heap.size + 1 + 1, 0, none⟩) (by dsimp only; omega) (.int .i64 x2))
      have HM2 : Hid (Boxed ((w3.setCell ⟨w.heap.size + 1, 0, none⟩ (.int .i64 x1)).setCell ⟨w.heap.size + 1 + 1, 0, none⟩ (.int .i64 x2)) w.heap.size 3 (.int .i64 0)) := ((Below.heap_setCell _ _ _ _ (by dsimp only; omega)).trans (Below.heap_setCell _ _ _ _ (by dsimp only; omega))).trans HI.out.1
      have HL2 : Hid (Boxed ((w3.setCell ⟨w.heap.size + 1, 0, none⟩ (.int .i64 x1)).setCell ⟨w.heap.size + 1 + 1, 0, none⟩ (.int .i64 x2)) (w.heap.size + 1) 2 (.int .i64 x1)) := (Below.heap_setCell _ _ _ _ (by dsimp only; omega)).trans (HI.out.2.1.set _)
      have hS1 : Boxed (w3.setCell ⟨w.heap.size + 1, 0, none⟩ (.int .i64 x1)) (w.heap.size + 1 + 1) 3 (.int .i64 (vic pre).2) := (Below.heap_setCell _ ⟨w.heap.size + 1, 0, none⟩ _ _ (by dsimp only; omega)).trans HI.out.2.2
      have HS2 : Hid (Boxed ((w3.setCell ⟨w.heap.size + 1, 0, none⟩ (.int .i64 x1)).setCell ⟨w.heap.size + 1 + 1, 0, none⟩ (.int .i64 x2)) (w.heap.size + 1 + 1) 3 (.int .i64 x2)) := hS1.set _
      have hz2 : W0.heap.size ≤ ((w3.setCell ⟨w.heap.size + 1, 0, none⟩ (.int .i64 x1)).setCell ⟨w.heap.size + 1 + 1, 0, none⟩ (.int .i64 x2)).heap.size := by simp [World.setCell]; omega
      have HK2 := Lib.hid (((KeepsOthers.setCell w3 ⟨w.heap.size + 1, 0, none⟩ (.int .i64 x1)).trans (KeepsOthers.setCell _ ⟨w.heap.size + 1 + 1, 0, none⟩ (.int .i64 x2))).from W0.heap.size)
      have HP2 : Hid (Below w.heap.size w3 ((w3.setCell ⟨w.heap.size + 1, 0, none⟩ (.int .i64 x1)).setCell ⟨w.heap.size + 1 + 1, 0, none⟩ (.int .i64 x2))) := ((Below.refl _ _).setCell (p := ⟨w.heap.size + 1, 0, none⟩) (by dsimp only; omega) _).setCell (p := ⟨w.heap.size + 1 + 1, 0, none⟩) (by dsimp only; omega) _
      clear HV HST HCM HI HB hS1
      by_cases h0 : x2 = 0
      · subst h0
        gi_wp2
        refine ⟨HK2.out, rfl, ?_, ?_, HB2.out, hz2⟩
        · rw [HT.out]
        · rw [HT.out]; exact HL2.out
      · have h0' : (x2 == 0) = false := by simpa using h0
        gi_wp2
        refine ⟨HK2.out, HP2.out, ⟨HM2.out, ?_, ?_⟩, HB2.out, hz2⟩
        · rw [HT.out]; exact HL2.out
        · rw [HT.out]; exact HS2.out
    · have HT : Hid (vic (pre ++ [(x1, x2)]) = vic pre) := by show _ = _; rw [HV.out, HST.out, if_neg hc]
      rw [HCM.out, if_neg hc]
      by_cases hd : x2 > (vic pre).2
      · rw [if_pos hd]
        clear HV HST HCM hc hd
        gi_wp2
        exact ⟨KeepsFrom.refl _ _, Below.refl _ _, by dsimp only; rw [HT.out]; exact ⟨HI.out, HB.out, hz⟩⟩
      · rw [if_neg hd]
        clear HV HST HCM hc hd
        gi_wp2
        exact ⟨KeepsFrom.refl _ _, Below.refl _ _, by dsimp only; rw [HT.out]; exact ⟨HI.out, HB.out, hz⟩⟩
  case done =>
    rintro Dd xs W hD rfl ⟨⟨h1, h2, h3⟩, hB, hz⟩ hK
    have c2 := h2.cell
    have hlD : Dd < W.heap.size := lt_of_block hK
    gi_wp2
    refine ⟨by simp, .inl ⟨_, _, rfl, run_takeDeferred hK, ?_⟩⟩
    refine ⟨_, results_tmp rfl _ _ _, ?_⟩
    exact ⟨rfl, hB.trans (belowK_b (w := w) (Nat.le_refl _) W Dd _ _ (by omega) hK rfl rfl)⟩
  case stop =>
    rintro Dd c pre W hD ⟨rest, hrest⟩ ⟨rfl, h0, h2, hB, hz⟩ hK
    have HV : Hid (vic (fulls X L N) = vic pre) := by
      show _ = _
      rw [← hrest]
      exact vic_stays h0 (fun x hx => fulls_nonneg X L N x (by rw [← hrest]; exact List.mem_append.2 (.inr hx)))
    have c2 := h2.cell
    gi_wp2
    refine ⟨by simp, .inl ⟨_, _, rfl, run_takeDeferred hK, ?_⟩⟩
    refine ⟨_, results_tmp rfl _ _ _, ?_⟩
    rw [HV.out]
    exact ⟨rfl, hB.trans (belowK_b (w := w) (Nat.le_refl _) W Dd _ _ (by omega) hK rfl rfl)⟩
end Go.Proofs.YtfpibbhcecdbgaaGreatDoor

namespace Go.Proofs.YtfpibbhcecdbgaaGreatDoor
open Go.RowKit
open Bt (Rc)

/-- the sizes of the loads -/
noncomputable def ldSz (X : List Bk) (Y : List Rc) (j : Nat) : Nat := (ldOf X (j : Int) (pruneOf Y)).length
/-- what Victim answers -/
noncomputable def vicAns (X : List Bk) : Int := if mntCode X = 0 then (vic (fulls X (ldSz X (mntList X)) X.length)).1 else -1
theorem ldSz_le {X : List Bk} {Y : List Rc} (h : Y.length ≤ 48) (j : Nat) : ldSz X Y j ≤ 1048576 := by
  have h1 := ldOf_len X (j : Int) (pruneOf Y); have h2 := pruneOf_len Y; unfold ldSz; omega

set_option maxHeartbeats 2000000 in
set_option maxRecDepth 100000 in
theorem victimOf_any (A : Option Addr) (n ca g : Nat) (X : List Bk) (f : Nat → Value) (L : Nat → Nat) (w : World) (hok : NdOk X) (hL : ∀ j, L j ≤ 1048576) (hA : RdBk w w.heap.size A n X) (hrow : Row w g n f) (hlen : ∀ j, j < n → ∃ A' c', f j = .slice A' (L j) c') :
    Calls Tryz.prog 93 #[.agg #[.slice A n ca], .slice (some ⟨g, 0, none⟩) n n] w fun e w' => e = .returned (.int .i64 (vic (fulls X L n)).1) ∧ Below w.heap.size w w' := by
  have HA := Lib.hid hA; have HOK := Lib.hid hok; have HLL := Lib.hid hL; have HRW := Lib.hid hrow; have HLN := Lib.hid hlen
  clear hA hok hL hrow hlen
  go_enter Tryz.func93, Tryz.ntmps93
  go_wp2_with fail
  have hb0 : Below w.heap.size w ((w.alloc (.cells #[.slice A n ca] 28)).alloc (.cells #[.slice (some ⟨g, 0, none⟩) n n] 109)) := ((Below.refl _ _).alloc (Nat.le_refl _) _).alloc (by simp) _
  have k0 := isBlk_new (w.alloc (.cells #[.slice A n ca] 28)) 109 [.slice (some ⟨g, 0, none⟩) n n]
  rw [size_alloc] at k0
  change Calls _ _ _ ((w.alloc (.cells #[.slice A n ca] 28)).alloc (.cells #[.slice (some ⟨g, 0, none⟩) n n] 109)) _
  change IsBlk ((w.alloc (.cells #[.slice A n ca] 28)).alloc (.cells #[.slice (some ⟨g, 0, none⟩) n n] 109)) _ _ _ at k0
  generalize (w.alloc (.cells #[.slice A n ca] 28)).alloc (.cells #[.slice (some ⟨g, 0, none⟩) n n] 109) = W at hb0 k0 ⊢
  refine (fullBlocks_any A n ca (w.heap.size + 1) W).mono ?_
  rintro e w2 ⟨rfl, hw2⟩
  have hb2 : Below W.heap.size W w2 := by rw [hw2]; exact ((Below.refl _ _).alloc (Nat.le_refl _) _).alloc (by simp) _
  have k1 := (isBlk_new W 28 [.slice A n ca]).alloc (.cells #[.func (.func 167) #[] #[.pointer (some ⟨w.heap.size + 1, 0, none⟩)]] 204)
  have k2 := isBlk_new (W.alloc (.cells #[.slice A n ca] 28)) 204 [.func (.func 167) #[] #[.pointer (some ⟨w.heap.size + 1, 0, none⟩)]]
  rw [size_alloc] at k2
  have k1 : IsBlk w2 W.heap.size 28 [.slice A n ca] := by rw [hw2]; exact k1
  have k2 : IsBlk w2 (W.heap.size + 1) 204 [.func (.func 167) #[] #[.pointer (some ⟨w.heap.size + 1, 0, none⟩)]] := by rw [hw2]; exact k2
  have k3 := k0.below hb2 k0.lt
  have hB2 := bel_step hb0 hb2
  have hFB : FB w2 w2.heap.size W.heap.size (W.heap.size + 1) (w.heap.size + 1) A n ca g X f L := ⟨k1.cell rfl, k1.lt, k2.cell rfl, k2.lt, k3.cell rfl, k3.lt, rd_step HA.out hB2, HRW.out.below hB2 HRW.out.lt, Nat.lt_of_lt_of_le HRW.out.lt hB2.size, HLN.out⟩
  have HFB := Lib.hid hFB; have HB2 := Lib.hid hB2
  clear hFB hB2 hb0 hb2 k0 k1 k2 k3 hw2
  go_wp2_with fail
  refine (leastBlock_any W.heap.size (W.heap.size + 1) (w.heap.size + 1) A n ca g X f L w2 HOK.out HLL.out HFB.out).mono ?_
  rintro e w3 ⟨rfl, hb3⟩
  have HB3 := Lib.hid (bel_step HB2.out hb3)
  clear hb3
  go_wp2
  go_ret
  exact ⟨rfl, HB3.out⟩

theorem one_keep {u w' : World} {b0 b1 : Nat} {e0 e1 : TypeId} {A B : Option Addr} {n c m d : Nat} (h0 : IsBlk u b0 e0 [.slice A n c]) (h1 : IsBlk u b1 e1 [.slice B m d]) (hb : Below u.heap.size u w') :
    w'.cell? ⟨b0, 0, none⟩ = some (.slice A n c) ∧ w'.cell? ⟨b1, 0, none⟩ = some (.slice B m d) ∧ Hid (Below u.heap.size u w') := ⟨(h0.below hb h0.lt).cell rfl, (h1.below hb h1.lt).cell rfl, hb⟩

set_option maxHeartbeats 4000000 in
set_option maxRecDepth 100000 in
theorem impl_victim (A : Option Addr) (n ca : Nat) (X : List Bk) (a0 a2 : Addr) (w : World) (hG : ErrType w) (hS : Two w a0 a2) (hX : Small X) (hA : RdBk w w.heap.size A n X) :
    Calls Tryz.prog 24 #[.agg #[.slice A n ca]] w fun e w' => e = .returned (.int .i64 (vicAns X)) ∧ Below w.heap.size w w' := by
  have HL := Lib.hid hA.1
  have HA := Lib.hid hA; have HX := Lib.hid hX; have HS := Lib.hid hS; have HG := Lib.hid hG; clear hA hX hS hG
  go_enter Tryz.func24, Tryz.ntmps24
  go_wp2_with fail
  have hb0 := box_below w (.cells #[.slice A n ca] 28)
  have k0 := isBlk_new w 28 [.slice A n ca]
  change Calls _ _ _ (w.alloc (.cells #[.slice A n ca] 28)) _
  generalize w.alloc (.cells #[.slice A n ca] 28) = W at hb0 k0 ⊢
  refine (mounted_any A n ca X a0 a2 W (HG.out.below hb0) (HS.out.below hb0) HX.out (rd_step HA.out hb0)).mono ?_
  rintro e w2 ⟨Ar, cr, rfl, hcr, ho2, hb2⟩
  have hI := error_iface
  have HB3 := Lib.hid ((bel_step hb0 hb2).alloc (bel_step hb0 hb2).size (.cells #[.slice Ar (mntList X).length cr] 60))
  have HK3 := Lib.hid ((k0.below hb2 k0.lt).alloc (.cells #[.slice Ar (mntList X).length cr] 60))
  have HH3 := Lib.hid (isBlk_new w2 60 [.slice Ar (mntList X).length cr])
  have HO3 := Lib.hid (ho2.below (box_below w2 (.cells #[.slice Ar (mntList X).length cr] 60)) (Nat.le_refl _))
  have hs3 := size_alloc w2 (.cells #[.slice Ar (mntList X).length cr] 60)
  have HCR := Lib.hid hcr
  have hW2 := hb2.size
  have hwW := hb0.size
  clear hb0 k0 hb2 ho2 hcr
  have HNO : Hid (∀ c : Int, mntCode X = c → c ≠ 0 → vicAns X = -1) := fun c h h0 => by unfold vicAns; rw [h, if_neg h0]
  rcases mnt_codes X with h | h | h
  · have HZ := Lib.hid h
    have HC : Hid (vicAns X = (vic (fulls X (ldSz X (mntList X)) n)).1) := by show _ = _; unfold vicAns; rw [h, if_pos rfl, HL.out]
    rw [h, errOf_0]
    clear h HNO
    have HOK := Lib.hid (mnt_zero HZ.out).1
    have HSQ := Lib.hid (mnt_seqs HZ.out); have HSM := Lib.hid (mnt_smallL HZ.out)
    have HLS := Lib.hid (fun j => ldSz_le (X := X) (mntList_len X) j)
    clear HZ
    generalize mntList X = Y at *
    go_wp2
    change Code.wp _ _ _ _ (w2.alloc (.cells #[.slice Ar Y.length cr] 60))
    change Hid (IsBlk (w2.alloc (.cells #[.slice Ar Y.length cr] 60)) _ _ _) at HH3
    generalize w2.alloc (.cells #[.slice Ar Y.length cr] 60) = w3 at HB3 HK3 HH3 HO3 hs3 ⊢
    have hlt0 : w.heap.size < w3.heap.size := HK3.out.lt
    have hlt1 : w2.heap.size < w3.heap.size := HH3.out.lt
    clear hI
    go_region_held3 (fun w' => w'.cell? ⟨w.heap.size, 0, none⟩ = some (.slice A n ca) ∧ w'.cell? ⟨w2.heap.size, 0, none⟩ = some (.slice Ar Y.length cr) ∧ Hid (Below w3.heap.size w3 w'))
      (first | exact hsL | exact hsV | exact one_keep HK3.out HH3.out (Below.refl _ _).drew | exact one_keep HK3.out HH3.out (Below.refl _ _))
      (first
        | (go_at_call 81
           refine (loadsOf_any A Ar n ca Y.length cr X Y _ HOK.out (HG.out.below (bel_step HB3.out (two_of (by assumption)))) HSM.out HCR.out (fun r hr => (HSQ.out r hr).2) (rd_step HA.out (bel_step HB3.out (two_of (by assumption)))) ((HO3.out.below (two_of (by assumption)) (by omega)).rd (by have := (two_of (by assumption)).size; omega))).mono ?_
           rintro e wL ⟨g, f, rfl, hg, hrow, hown, hbL⟩
           have hsL := one_keep HK3.out HH3.out ((two_of (by assumption)).trans (hbL.mono (two_of (by assumption)).size))
           have HRW := Lib.hid hrow
           have HLN : Hid (∀ j, j < n → ∃ A' c', f j = .slice A' (ldSz X Y j) c') := fun j hj => own_slice (hown j hj)
           clear hg hrow hown hbL)
        | (go_at_call 93
           refine (victimOf_any A n ca g X f (ldSz X Y) _ HOK.out HLS.out (rd_step HA.out (bel_step HB3.out (two_of (by assumption)))) HRW.out HLN.out).mono ?_
           rintro e wV ⟨rfl, hbV⟩
           have hsV := one_keep HK3.out HH3.out ((two_of (by assumption)).trans (hbV.mono (two_of (by assumption)).size))
           clear hbV))
    all_goals
      go_wp2
      go_ret
      exact ⟨ret_i HC.out.symm, bel_step HB3.out (two_of hsV)⟩
  · have HC := Lib.hid (HNO.out 1 h (by decide))
    rw [h, errOf_1]
    clear h HNO
    go_wp2
    go_ret
    exact ⟨ret_i HC.out.symm, HB3.out⟩
  · have HC := Lib.hid (HNO.out 10 h (by decide))
    rw [h, errOf_10]
    clear h HNO
    go_wp2
    go_ret
    exact ⟨ret_i HC.out.symm, HB3.out⟩
end Go.Proofs.YtfpibbhcecdbgaaGreatDoor

namespace Go.Proofs.YtfpibbhcecdbgaaGreatDoor
open Go.RowKit
open Bt (Rc)

/-- what l06Victim answers: the block, and its load -/
def RetVi (w : World) (V : Int × Int) (T : Int → List Nat) (e : Ending) (w' : World) : Prop :=
  ∃ (Al : Option Addr) (cl : Nat) (l : List Int), e = .returned (.tuple #[.int .i64 V.1, .slice Al l.length cl]) ∧ RdNs w' w'.heap.size Al l.length l ∧ (l.length : Int) = V.2 ∧ (0 ≤ V.1 → l = natI (T V.1)) ∧ Below w.heap.size w w'
theorem vic_fst (X : List Bk) (L : Nat → Nat) (k : Nat) : -1 ≤ (vic (fulls X L k)).1 ∧ (vic (fulls X L k)).1 < (k : Int) := by
  induction k with
  | zero => simp [fulls, vic]
  | succ k ih =>
    rw [fulls]
    split
    · rw [vic_snoc]; unfold vstep; split
      · simp; omega
      · omega
    · omega
theorem rd_four (w : World) (e : TypeId) : RdNs (w.alloc (.cells #[.int .i64 0, .int .i64 0, .int .i64 0, .int .i64 0] e)) (w.alloc (.cells #[.int .i64 0, .int .i64 0, .int .i64 0, .int .i64 0] e)).heap.size (some ⟨w.heap.size, 0, none⟩) 4 [0, 0, 0, 0] := by
  refine ⟨rfl, fun _ => ⟨w.heap.size, rfl, by simp, ?_⟩⟩
  refine ⟨e, #[.int .i64 0, .int .i64 0, .int .i64 0, .int .i64 0], isBlk_new w e [.int .i64 0, .int .i64 0, .int .i64 0, .int .i64 0], Nat.le_refl _, fun i hi => ?_⟩
  match i, hi with
  | 0, _ => rfl
  | 1, _ => rfl
  | 2, _ => rfl
  | 3, _ => rfl

set_option maxHeartbeats 8000000 in
set_option maxRecDepth 100000 in
theorem l06Victim_any (A B : Option Addr) (n ca m cb : Nat) (X : List Bk) (Y : List Rc) (w : World) (hok : NdOk X) (hr : hRight Y = true) (hA : RdBk w w.heap.size A n X) (hB : RdRc w w.heap.size B m Y) :
    Calls Tryz.prog 94 #[.agg #[.slice A n ca], .agg #[.slice B m cb]] w (RetVi w (vic (fulls X (fun j => (ldTo Y (sqs X n) (j : Int) m).length) n)) (fun b => ldTo Y (sqs X n) b m)) := by
  have hm48 : m ≤ 48 := by rw [← hB.1]; exact hRight_len hr
  have hNL : n = X.length := hA.1.symm
  have hn : n ≤ 12 := by rw [hNL]; exact hok.1.2
  have HNL := Lib.hid hNL
  have HA := Lib.hid hA; have HB := Lib.hid hB; have HOK := Lib.hid hok; have HR := Lib.hid hr
  have HLS : Hid ((sqs X n).length = 4 * n) := sqs_len X n
  clear hA hB hok hr hNL
  obtain ⟨L, hL⟩ : ∃ L : Nat → Nat, L = fun j : Nat => (ldTo Y (sqs X n) (j : Int) m).length := ⟨_, rfl⟩
  have HL := Lib.hid hL
  rw [← hL]
  clear hL
  go_enter Tryz.func94, Tryz.ntmps94
  go_wp2_with fail
  have hb0 : Below w.heap.size w ((w.alloc (.cells #[.slice A n ca] 28)).alloc (.cells #[.slice B m cb] 60)) := ((Below.refl _ _).alloc (Nat.le_refl _) _).alloc (by simp) _
  have k0 := (isBlk_new w 28 [.slice A n ca]).alloc (.cells #[.slice B m cb] 60)
  have k1 := isBlk_new (w.alloc (.cells #[.slice A n ca] 28)) 60 [.slice B m cb]
  rw [size_alloc] at k1
  change IsBlk ((w.alloc (.cells #[.slice A n ca] 28)).alloc (.cells #[.slice B m cb] 60)) _ _ _ at k0 k1
  generalize (w.alloc (.cells #[.slice A n ca] 28)).alloc (.cells #[.slice B m cb] 60) = W at hb0 k0 k1 ⊢
  have HB0 := Lib.hid hb0; have HK0 := Lib.hid k0; have HK1 := Lib.hid k1
  clear hb0 k0 k1
  refine (l06Seqs_any A n ca X W HOK.out (rd_step HA.out HB0.out)).mono ?_
  rintro e w2 ⟨As, cs, rfl, ho2, hb2⟩
  have HRS := Lib.hid (ho2.rd (Nat.le_refl _)); have HB2 := Lib.hid (bel_step HB0.out hb2)
  have HK02 := Lib.hid (HK0.out.below hb2 HK0.out.lt); have HK12 := Lib.hid (HK1.out.below hb2 HK1.out.lt)
  have x1 : w2.cell? ⟨w.heap.size + 1, 0, none⟩ = some (.slice B m cb) := HK12.out.cell rfl
  clear ho2 hb2 HK0 HK1
  go_wp2_with fail
  refine (l04Needed_any B m cb Y w2 HR.out (HB.out.next HB2.out)).mono ?_
  rintro e w3 ⟨gN, rfl, hgN, hrN, hb3⟩
  have HRN := Lib.hid hrN; have HB3 := Lib.hid (bel_step HB2.out hb3)
  have HRS3 := Lib.hid (rdNs_next HRS.out hb3)
  have HK03 := Lib.hid (HK02.out.below hb3 HK02.out.lt); have HK13 := Lib.hid (HK12.out.below hb3 HK12.out.lt)
  clear hgN hrN hb3 x1 HRS HK02 HK12
  go_wp2
  have hb4 := box_below w3 (.cells #[.int .i64 0, .int .i64 0, .int .i64 0, .int .i64 0] 3)
  have r4 := rd_four w3 3
  change Code.wp _ _ _ _ (w3.alloc (.cells #[.int .i64 0, .int .i64 0, .int .i64 0, .int .i64 0] 3))
  generalize w3.alloc (.cells #[.int .i64 0, .int .i64 0, .int .i64 0, .int .i64 0] 3) = w4 at hb4 r4 ⊢
  have HB4 := Lib.hid (bel_step HB3.out hb4)
  have HRS4 := Lib.hid (rdNs_next HRS3.out hb4); have HRN4 := Lib.hid (brow_next HRN.out hb4)
  have HK04 := Lib.hid (HK03.out.below hb4 HK03.out.lt); have HK14 := Lib.hid (HK13.out.below hb4 HK13.out.lt)
  have HR4 := Lib.hid r4
  clear hb4 r4 HRS3 HRN HK03 HK13
  go_loopw [8, 9, 10] (fun kv lv iv wr => ∃ (i : Nat) (Al : Option Addr) (cl : Nat) (l : List Int), i ≤ n ∧ iv = .int .i64 (i : Nat) ∧ kv = .int .i64 (vic (fulls X L i)).1 ∧ lv = .slice Al l.length cl ∧ RdNs wr wr.heap.size Al l.length l ∧ (l.length : Int) = (vic (fulls X L i)).2 ∧ (0 ≤ (vic (fulls X L i)).1 → l = natI (ldTo Y (sqs X n) (vic (fulls X L i)).1 m)) ∧ Below w4.heap.size w4 wr) (fun _ _ iv _ => n - (intOf iv).toNat)
  case atStart => exact ⟨0, _, 4, [0, 0, 0, 0], by omega, rfl, rfl, rfl, HR4.out, rfl, fun h => absurd h (by simp [fulls, vic]), Below.refl _ _⟩
  case round =>
    obtain ⟨i, Al, cl, l, hi, rfl, rfl, rfl, hrl, hll, htl, hbel⟩ := hrel
    have HRL := Lib.hid hrl; have HTL := Lib.hid htl; have HW := Lib.hid hbel
    have HBW := Lib.hid (bel_step HB4.out hbel)
    have hx : wr.cell? ⟨w.heap.size, 0, none⟩ = some (.slice A n ca) := (HK04.out.below hbel HK04.out.lt).cell rfl
    have hy : wr.cell? ⟨w.heap.size + 1, 0, none⟩ = some (.slice B m cb) := (HK14.out.below hbel HK14.out.lt).cell rfl
    clear hrl htl
    by_cases hlt : i < n
    · obtain ⟨g, off, pA, pc, rfl, hg, hc0, hc1, hc2, hpg⟩ := (HA.out.below HBW.out).at hlt
      have hil : i < X.length := by rw [← HNL.out]; exact hlt
      have HPG := Lib.hid (hpg.mono HBW.out.size)
      have h4 := (HOK.out.2 i hil).1
      have HNU := Lib.hid (nUsed_ok (HOK.out.2 i hil))
      have HYES := Lib.hid (fun h => fulls_yes (X := X) (L := L) (k := i) h); have HNO := Lib.hid (fun h => fulls_no (X := X) (L := L) (k := i) h)
      have hFBd : fulB (X.getD i zeroBk) = decide ((X.getD i zeroBk).bad = false ∧ uPre (X.getD i zeroBk).pages = 4) := rfl
      rw [hFBd] at HYES HNO
      clear hFBd hpg hbel
      generalize X.getD i zeroBk = b at hc0 hc1 hc2 HPG h4 HYES HNO HNU
      obtain ⟨ps, er, bd⟩ := b
      simp only at hc0 hc1 hc2 HPG h4 HYES HNO HNU
      rw [h4] at hc0 HPG
      have hu4 : uPre ps ≤ 4 := by rw [← h4]; exact uPre_le ps
      clear h4
      cases bd with
      | true =>
        have HT := Lib.hid (HNO.out (by simp))
        clear HYES HNO
        go_wp2
        go_roundw
        case rel => exact ⟨i + 1, Al, cl, l, by omega, by go_num, by rw [HT.out], rfl, HRL.out, by rw [HT.out]; exact hll, by rw [HT.out]; exact HTL.out, HW.out⟩
        case measure => simp [intOf]; omega
      | false =>
        go_wp2_with fail
        refine (l02Used_any pA 4 pc ps er false wr (by omega) HPG.out).mono ?_
        rintro e w5 ⟨rfl, hb5⟩
        rw [HNU.out]
        have HW5 := Lib.hid (bel_step HW.out hb5)
        have HRL5 := Lib.hid (rdNs_next HRL.out hb5)
        have hy5 : w5.cell? ⟨w.heap.size + 1, 0, none⟩ = some (.slice B m cb) := (HK14.out.below HW5.out HK14.out.lt).cell rfl
        clear hb5 HNU hx hy hc0 hc1 hc2
        by_cases hu : uPre ps = 4
        case neg =>
          have HT := Lib.hid (HNO.out (by simp [hu]))
          have hd : decide ((uPre ps : Int) < 4) = true := decide_eq_true (by omega)
          have hlt4 : (uPre ps : Int) < 4 := by omega
          clear HYES HNO hu
          generalize uPre ps = u at *
          go_wp2
          go_roundw
          case rel => exact ⟨i + 1, Al, cl, l, by omega, by go_num, by rw [HT.out], rfl, HRL5.out, by rw [HT.out]; exact hll, by rw [HT.out]; exact HTL.out, HW5.out⟩
          case measure => simp [intOf]; omega
        have HT := Lib.hid (HYES.out (by simp [hu]))
        rw [hu]
        clear HYES HNO hu hu4
        go_wp2_with fail
        refine (l06Load_any As B (sqs X n).length cs m cb gN (sqs X n) Y (i : Int) w5 (by have := HLS.out; omega) hm48 (rdNs_next HRS4.out HW5.out) ((HB.out.next HB4.out).next HW5.out) (brow_next HRN4.out HW5.out)).mono ?_
        rintro e w6 ⟨Ad, cd, rfl, ho6, hb6⟩
        have HW6 := Lib.hid (bel_step HW5.out hb6)
        have HRL6 := Lib.hid (rdNs_next HRL5.out hb6)
        have HRD6 := Lib.hid (ho6.rd (Nat.le_refl _))
        have hdl : (natI (ldTo Y (sqs X n) (i : Int) m)).length = L i := by rw [natI_len, HL.out]
        have hdl48 : L i ≤ 48 := by rw [HL.out]; have := ldTo_len Y (sqs X n) (i : Int) m; simp only; omega
        have HVS : Hid (vic (fulls X L (i + 1)) = if (L i : Int) < (vic (fulls X L i)).2 then ((i : Int), (L i : Int)) else vic (fulls X L i)) := by show _ = _; rw [HT.out, vic_snoc]; rfl
        clear ho6 hb6 hy5
        obtain ⟨D, hD⟩ : ∃ D, D = natI (ldTo Y (sqs X n) (i : Int) m) := ⟨_, rfl⟩
        have HD := Lib.hid hD
        rw [← hD] at hdl HRD6 ⊢
        clear hD HT
        by_cases hlt2 : (L i : Int) < (vic (fulls X L i)).2
        · have HV : Hid (vic (fulls X L (i + 1)) = ((i : Int), (L i : Int))) := by show _ = _; rw [HVS.out, if_pos hlt2]
          have hc : (D.length : Int) < (l.length : Int) := by rw [hdl, hll]; exact hlt2
          clear HVS
          generalize (vic (fulls X L i)).1 = v1 at *
          go_wp2
          go_roundw
          case rel => exact ⟨i + 1, Ad, cd, D, by omega, by go_num, by rw [HV.out], by rw [hdl], HRD6.out, by rw [HV.out, hdl], fun _ => by rw [HV.out]; exact HD.out, HW6.out⟩
          case measure => simp [intOf]; omega
        · have HV : Hid (vic (fulls X L (i + 1)) = vic (fulls X L i)) := by show _ = _; rw [HVS.out, if_neg hlt2]
          have hc : ¬ (D.length : Int) < (l.length : Int) := by rw [hdl, hll]; exact hlt2
          have hc' : (l.length : Int) ≤ (D.length : Int) := by omega
          clear HVS
          go_wp2
          go_roundw
          case rel => exact ⟨i + 1, Al, cl, l, by omega, by go_num, by rw [HV.out], rfl, HRL6.out, by rw [HV.out]; exact hll, by rw [HV.out]; exact HTL.out, HW6.out⟩
          case measure => simp [intOf]; omega
    · obtain rfl : i = n := by omega
      go_wp2
      refine bodyPost_ret (v := .tuple #[.int .i64 (vic (fulls X L i)).1, .slice Al l.length cl]) (by simp [results, Tryz.results94, go_sem]) rfl ?_
      exact ⟨Al, cl, l, rfl, HRL.out, hll, HTL.out, HBW.out⟩

set_option maxHeartbeats 2000000 in
set_option maxRecDepth 100000 in
theorem spec_victim (A : Option Addr) (n ca : Nat) (X : List Bk) (w : World) (hX : Small X) (hA : RdBk w w.heap.size A n X) :
    Calls Tryz.prog 23 #[.agg #[.slice A n ca]] w fun e w' => e = .returned (.int .i64 (vicAns X)) ∧ Below w.heap.size w w' := by
  have HL := Lib.hid hA.1
  have HA := Lib.hid hA; have HX := Lib.hid hX; clear hA hX
  go_enter Tryz.func23, Tryz.ntmps23
  go_wp2_with fail
  have hb0 := box_below w (.cells #[.slice A n ca] 28)
  have k0 := isBlk_new w 28 [.slice A n ca]
  change Calls _ _ _ (w.alloc (.cells #[.slice A n ca] 28)) _
  generalize w.alloc (.cells #[.slice A n ca] 28) = W at hb0 k0 ⊢
  refine (spec_mount A n ca X W HX.out (rd_step HA.out hb0)).mono ?_
  rintro e w2 ⟨Ar, cr, rfl, ho2, hb2⟩
  have HB3 := Lib.hid ((bel_step hb0 hb2).alloc (bel_step hb0 hb2).size (.cells #[.slice Ar (mntList X).length cr, .int .i64 (mntCode X)] 62))
  have HK3 := Lib.hid ((k0.below hb2 k0.lt).alloc (.cells #[.slice Ar (mntList X).length cr, .int .i64 (mntCode X)] 62))
  have HH3 := Lib.hid (isBlk_new w2 62 [.slice Ar (mntList X).length cr, .int .i64 (mntCode X)])
  have HO3 := Lib.hid (ho2.below (box_below w2 (.cells #[.slice Ar (mntList X).length cr, .int .i64 (mntCode X)] 62)) (Nat.le_refl _))
  have hs3 := size_alloc w2 (.cells #[.slice Ar (mntList X).length cr, .int .i64 (mntCode X)] 62)
  have hW2 := hb2.size
  clear hb0 k0 hb2 ho2
  by_cases hz : mntCode X = 0
  case neg =>
    have HC : Hid (vicAns X = -1) := by show _ = _; unfold vicAns; rw [if_neg hz]
    have hb : (mntCode X == 0) = false := by simpa using hz
    generalize mntCode X = C at *
    go_wp2
    go_ret
    exact ⟨ret_i HC.out.symm, HB3.out⟩
  have HOK := Lib.hid (mnt_zero hz).1
  have hrt := (mnt_zero hz).2.2
  have HC : Hid (vicAns X = (vic (fulls X (fun j => (ldTo (mntList X) (sqs X n) (j : Int) (mntList X).length).length) n)).1) := by
    show _ = _
    unfold vicAns
    rw [if_pos hz, HL.out]
    congr 3
    funext j
    have hagr := loads_agree HOK.out (Y := mntList X) (fun r hr => ⟨(mnt_seqs hz r hr).1, (mnt_seqs hz r hr).2.1⟩) (j : Int) (mntList X).length (Nat.le_refl _)
    rw [← pruneOf_yes hrt, HL.out] at hagr
    unfold ldSz
    rw [← hagr, List.length_map]
  have HRT := Lib.hid hrt
  rw [hz] at HB3 HK3 HH3 HO3 hs3 ⊢
  clear hz hrt
  generalize mntList X = Y at *
  have hx3 : (w2.alloc (.cells #[.slice Ar Y.length cr, .int .i64 0] 62)).cell? ⟨w.heap.size, 0, none⟩ = some (.slice A n ca) := HK3.out.cell rfl
  go_wp2_with fail
  change Calls _ _ _ (w2.alloc (.cells #[.slice Ar Y.length cr, .int .i64 0] 62)) _
  generalize w2.alloc (.cells #[.slice Ar Y.length cr, .int .i64 0] 62) = w3 at HB3 HK3 HH3 HO3 hs3 ⊢
  refine (l06Victim_any A Ar n ca Y.length cr X Y w3 HOK.out HRT.out (rd_step HA.out HB3.out) (HO3.out.rd (by omega))).mono ?_
  rintro e w4 ⟨Al, cl, l, rfl, -, -, -, hb4⟩
  have HB4 := Lib.hid (bel_step HB3.out hb4)
  clear hb4 hx3
  go_wp2
  go_ret
  exact ⟨ret_i HC.out.symm, HB4.out⟩
end Go.Proofs.YtfpibbhcecdbgaaGreatDoor

namespace Go.Proofs.YtfpibbhcecdbgaaGreatDoor
open Bt (Rc)

/-- a valid chip is small -/
theorem small_ok {X : List Bk} (h : NdOk X) : Small X := by
  refine ⟨by have := h.1.2; omega, fun b hb => ?_⟩
  obtain ⟨i, hi, rfl⟩ := mem_getD hb zeroBk
  have hb := h.2 i hi
  refine ⟨by rw [hb.1]; omega, fun p hp => ?_⟩
  obtain ⟨k, hk, rfl⟩ := mem_getD hp zeroPg
  have h1 := hb.2.2 k (by rw [← hb.1]; exact hk)
  have : ¬ 60 < ((X.getD i zeroBk).pages.getD k zeroPg).data.size := fun h2 => h1 (.inl h2)
  omega
theorem getD_set {α : Type} (X : List α) (k i : Nat) (b z : α) (hk : k < X.length) : (X.set k b).getD i z = if i = k then b else X.getD i z := by
  rw [List.getD_eq_getElem?_getD, List.getD_eq_getElem?_getD, List.getElem?_set]
  by_cases e : k = i
  · subst e; simp [hk]
  · rw [if_neg e, if_neg (fun h => e h.symm)]
/-- a page more: the chip stays valid -/
theorem late_right {X : List Bk} (h : NdOk X) {k : Nat} (hk : k < X.length) (hb : (X.getD k zeroBk).bad = false) (hu : uPre (X.getD k zeroBk).pages < 4) {d : ByteArray} (hd : d.size ≤ 60) : NdOk (progLate X k d).nd := by
  unfold progLate
  rw [if_neg (by rw [hb]; simp), if_neg (by omega)]
  have hbk := h.2 k hk
  have hpo := (pgsOk_iff hbk.1).2 hbk.2.2
  refine ⟨by simpa using h.1, fun i hi => ?_⟩
  have hi' : i < X.length := by simpa using hi
  show BkOk ((X.set k _).getD i zeroBk)
  rw [getD_set _ _ _ _ _ hk]
  by_cases e : i = k
  · rw [if_pos e]
    refine ⟨by simpa using hbk.1, hbk.2.1, fun j hj hbad => ?_⟩
    have hul : uPre (X.getD k zeroBk).pages < (X.getD k zeroBk).pages.length := by rw [hbk.1]; exact hu
    have hused : ∀ i, i < uPre (X.getD k zeroBk).pages → ((X.getD k zeroBk).pages.getD i zeroPg).used = true := fun i hi => uPre_lt hi
    generalize uPre (X.getD k zeroBk).pages = u at *
    have hg : ∀ j, ((X.getD k zeroBk).pages.set u ⟨true, d⟩).getD j zeroPg = if j = u then ⟨true, d⟩ else (X.getD k zeroBk).pages.getD j zeroPg := fun j => getD_set _ _ _ _ _ hul
    unfold PgBad at hbad
    rw [hg j, hg (j - 1)] at hbad
    have hold := hbk.2.2 j hj
    unfold PgBad at hold
    by_cases ej : j = u
    · rw [if_pos ej] at hbad
      rcases hbad with h1 | h1 | h1
      · simp only at h1; omega
      · simp at h1
      · have hlt : j - 1 < u := by omega
        rw [if_neg (by omega)] at h1
        have : ((X.getD k zeroBk).pages.getD (j - 1) zeroPg).used = true := by
          rcases Nat.lt_or_ge (j - 1) u with h2 | h2
          · exact hused (j - 1) h2
          · omega
        rw [this] at h1; simp at h1
    · rw [if_neg ej] at hbad
      by_cases ej1 : j - 1 = u
      · rw [if_pos ej1] at hbad
        rcases hbad with h1 | h1 | h1
        · exact hold (.inl h1)
        · exact hold (.inr (.inl h1))
        · simp at h1
      · rw [if_neg ej1] at hbad
        exact hold hbad
  · rw [if_neg e]; exact h.2 i hi'
theorem put_right {X : List Bk} (h : NdOk X) {d : ByteArray} (hd : d.size ≤ 60) (hc : (putAns X 0 d).code = 0) : NdOk (putAns X 0 d).nd := by
  by_cases hn : nextR X 0 = -1
  · rw [putAns_full hn] at hc; cases hc
  · obtain ⟨k, hk, hkl, hb, hu⟩ := next_ready hn
    rw [putAns_at hk]
    exact late_right h hkl hb hu hd
theorem put_data (X : List Bk) (d : ByteArray) : (putAns X 0 d).data = ⟨#[]⟩ ∧ ((putAns X 0 d).code ≠ 0 → putAns X 0 d = ill (putAns X 0 d).code) := by
  by_cases hn : nextR X 0 = -1
  · rw [putAns_full hn]; exact ⟨rfl, fun _ => rfl⟩
  · obtain ⟨k, hk, hkl, hb, hu⟩ := next_ready hn
    rw [putAns_at hk]
    have := late_ok (d := d) hb hu
    exact ⟨this.2, fun h => absurd this.1 h⟩
theorem erase_data (X : List Bk) (b : Int) : (eraseAns X b).data = ⟨#[]⟩ ∧ ((eraseAns X b).code ≠ 0 → eraseAns X b = ill (eraseAns X b).code) := by
  unfold eraseAns
  split
  · exact ⟨rfl, fun _ => rfl⟩
  · split
    · exact ⟨rfl, fun _ => rfl⟩
    · split
      · exact ⟨rfl, fun _ => rfl⟩
      · exact ⟨rfl, fun h => absurd rfl h⟩
/-- the chip after the first k records of a load; a code as soon as there is one -/
noncomputable def gcTo (X : List Bk) (R : List Rc) : Nat → NdAns
  | 0 => ⟨X, ⟨#[]⟩, 0⟩
  | k + 1 => if (gcTo X R k).code = 0 then putAns (gcTo X R k).nd 0 (bstr (R.getD k Rc.zero).bytes) else gcTo X R k
theorem gcTo_next {X : List Bk} {R : List Rc} {k : Nat} (h : (gcTo X R k).code = 0) : gcTo X R (k + 1) = putAns (gcTo X R k).nd 0 (bstr (R.getD k Rc.zero).bytes) := by rw [gcTo, if_pos h]
theorem gcTo_stays {X : List Bk} {R : List Rc} {k m : Nat} (h : (gcTo X R k).code ≠ 0) (hm : k ≤ m) : gcTo X R m = gcTo X R k := by
  induction m with
  | zero => rw [show k = 0 by omega]
  | succ m ih =>
    rcases Nat.lt_or_ge k (m + 1) with h1 | h1
    · have e := ih (by omega)
      rw [gcTo, if_neg (by rw [e]; exact h), e]
    · rw [show k = m + 1 by omega]
theorem gcTo_data (X : List Bk) (R : List Rc) (k : Nat) : (gcTo X R k).data = ⟨#[]⟩ := by
  cases k with
  | zero => rfl
  | succ k =>
    rw [gcTo]
    split
    · exact (put_data _ _).1
    · exact gcTo_data X R k
theorem gcTo_right {X : List Bk} (h : NdOk X) {R : List Rc} (hR : ∀ r ∈ R, r.Ok) : ∀ k, k ≤ R.length → (gcTo X R k).code = 0 → NdOk (gcTo X R k).nd
  | 0, _, _ => h
  | k + 1, hk, hc => by
    by_cases h0 : (gcTo X R k).code = 0
    · rw [gcTo_next h0] at hc ⊢
      refine put_right (gcTo_right h hR k (by omega) h0) ?_ hc
      have := Rc.bytes_short (hR _ (getD_lt (z := Rc.zero) (show k < R.length by omega)))
      have h2 : (bstr (R.getD k Rc.zero).bytes).size = (R.getD k Rc.zero).bytes.length := by simp [bstr, ByteArray.size]
      omega
    · rw [gcTo, if_neg h0] at hc; exact absurd hc h0
/-- Gc of a load: the first steps -/
noncomputable def gcRun (X : List Bk) (R : List Rc) (steps b : Int) : NdAns :=
  if (gcTo X R (min R.length steps.toNat)).code ≠ 0 then gcTo X R (min R.length steps.toNat) else if steps ≤ (R.length : Int) then gcTo X R (min R.length steps.toNat) else eraseAns (gcTo X R (min R.length steps.toNat)).nd b
/-- the steps end with record k -/
theorem gcRun_steps {X : List Bk} {R : List Rc} {steps b : Int} {k : Nat} (hk : k ≤ R.length) (hs : steps ≤ (k : Int)) (hj : (k : Int) ≤ steps ∨ k = 0) (hc : (gcTo X R k).code = 0) : gcRun X R steps b = gcTo X R k := by
  have e : min R.length steps.toNat = k := by omega
  unfold gcRun
  rw [e, if_neg (by rw [hc]; simp), if_pos (by omega)]
theorem gcRun_fails {X : List Bk} {R : List Rc} {steps b : Int} {k : Nat} (hk : k + 1 ≤ R.length) (hs : (k : Int) < steps) (hc : (gcTo X R (k + 1)).code ≠ 0) : gcRun X R steps b = gcTo X R (k + 1) := by
  have e : k + 1 ≤ min R.length steps.toNat := by omega
  have e2 := gcTo_stays hc e
  unfold gcRun
  rw [e2, if_pos hc]
theorem gcRun_all {X : List Bk} {R : List Rc} {steps b : Int} (hs : (R.length : Int) < steps) (hc : (gcTo X R R.length).code = 0) : gcRun X R steps b = eraseAns (gcTo X R R.length).nd b := by
  have e : min R.length steps.toNat = R.length := by omega
  unfold gcRun
  rw [e, if_neg (by rw [hc]; simp), if_neg (by omega)]
end Go.Proofs.YtfpibbhcecdbgaaGreatDoor

namespace Go.Proofs.YtfpibbhcecdbgaaGreatDoor
open Go.RowKit
open Bt (Rc)

/-- a drive and a code: what an operation answers -/
structure Dv where
  nd : List Bk
  now : Int
  ret : Int
  code : Int
def dvIll (c : Int) : Dv := ⟨[], 0, 0, c⟩
/-- a valid drive -/
noncomputable def dvB (X : List Bk) (now ret : Int) : Bool := (rcIs 0 1000000 now && rcIs 0 1000000 ret) && (decide (mntCode X = 0) && decide ((lastR (mntList X)).t ≤ now))
/-- a drive with another chip -/
def dvWith (now ret : Int) (a : NdAns) : Dv := if a.code = 0 then ⟨a.nd, now, ret, 0⟩ else dvIll a.code
/-- a record as it is logged -/
def dvRec (Y : List Rc) (now : Int) (r : Rc) : Rc := ⟨r.k, r.s, (lastR Y).q + 1, now, r.o, r.d⟩
noncomputable def dvPut (X : List Bk) (now ret : Int) (r : Rc) : Dv :=
  if 1000000 ≤ (lastR (mntList X)).q ∨ 48 ≤ (mntList X).length then dvIll 9 else dvWith now ret (putAns X 1 (bstr (dvRec (mntList X) now r).bytes))
/-- what is asked of a valid drive alone -/
noncomputable def dvOn (X : List Bk) (now ret : Int) (R : Dv) : Dv := if dvB X now ret = true then R else dvIll 1
def tickIn (X : List Bk) (now ret bye : Int) : Dv := if 0 ≤ bye ∧ bye ≤ 1000000 - now then ⟨X, now + bye, ret, 0⟩ else dvIll 1
noncomputable def trimIn (X : List Bk) (now ret s : Int) : Dv := if rcIs 0 5 s = true then dvPut X now ret ⟨2, s, 0, 0, 0, ⟨#[]⟩⟩ else dvIll 1
noncomputable def writeIn (X : List Bk) (now ret s : Int) (d : ByteArray) : Dv := if rcIs 0 5 s = true ∧ d.size ≤ 16 then dvPut X now ret ⟨1, s, 0, 0, 0, d⟩ else dvIll 1
noncomputable def rollIn (X : List Bk) (now ret a : Int) : Dv :=
  if 0 ≤ a ∧ a ≤ now then (if a < floorR (mntList X) then dvIll 12 else dvPut X now ret ⟨3, 0, 0, 0, a, ⟨#[]⟩⟩) else dvIll 1
noncomputable def raiseIn (X : List Bk) (now ret : Int) : Dv := if now - ret ≤ floorR (mntList X) then dvIll 10 else dvPut X now ret ⟨4, 0, 0, 0, now - ret, ⟨#[]⟩⟩
noncomputable def dvTick (X : List Bk) (now ret bye : Int) : Dv := dvOn X now ret (tickIn X now ret bye)
noncomputable def dvTrim (X : List Bk) (now ret s : Int) : Dv := dvOn X now ret (trimIn X now ret s)
noncomputable def dvWrite (X : List Bk) (now ret s : Int) (d : ByteArray) : Dv := if 8000 < d.size then dvIll 2 else dvOn X now ret (writeIn X now ret s d)
noncomputable def dvRoll (X : List Bk) (now ret a : Int) : Dv := dvOn X now ret (rollIn X now ret a)
noncomputable def dvRaise (X : List Bk) (now ret : Int) : Dv := dvOn X now ret (raiseIn X now ret)
noncomputable def dvRestart (X : List Bk) (now ret : Int) : Dv := dvOn X now ret ⟨X, now, ret, 0⟩
theorem dvB_code {X : List Bk} {now ret : Int} (h : mntCode X ≠ 0) : dvB X now ret = false := by
  unfold dvB; rw [decide_eq_false h]; simp
theorem dvB_ok {X : List Bk} {now ret : Int} (h : mntCode X = 0) : dvB X now ret = (rcIs 0 1000000 now && rcIs 0 1000000 ret && decide ((lastR (mntList X)).t ≤ now)) := by
  unfold dvB; rw [decide_eq_true h]; simp
theorem dvB_yes {X : List Bk} {now ret : Int} (h : dvB X now ret = true) : mntCode X = 0 ∧ rcIs 0 1000000 now = true ∧ rcIs 0 1000000 ret = true ∧ (lastR (mntList X)).t ≤ now := by
  unfold dvB at h; simp only [Bool.and_eq_true, decide_eq_true_eq] at h; exact ⟨h.2.1, h.1.1, h.1.2, h.2.2⟩

theorem blk4 {w : World} {b : Nat} {e : TypeId} {v0 v1 v2 v3 : Value} (h : IsBlk w b e [v0, v1, v2, v3]) :
    w.cell? ⟨b, 0, none⟩ = some v0 ∧ w.cell? ⟨b, 1, none⟩ = some v1 ∧ w.cell? ⟨b, 2, none⟩ = some v2 ∧ w.cell? ⟨b, 3, none⟩ = some v3 ∧
    w.frozen? ⟨b, 0, none⟩ = false ∧ w.frozen? ⟨b, 1, none⟩ = false ∧ w.frozen? ⟨b, 2, none⟩ = false ∧ w.frozen? ⟨b, 3, none⟩ = false :=
  ⟨h.cell rfl, h.cell rfl, h.cell rfl, h.cell rfl, h.free, h.free, h.free, h.free⟩
/-- what a function that answers with a drive and a code gives back -/
def RetDv (w : World) (R : Dv) (e : Ending) (w' : World) : Prop :=
  ∃ (A : Option Addr) (c : Nat), e = .returned (.agg #[.slice A R.nd.length c, .int .i64 R.now, .int .i64 R.ret, .int .i64 R.code]) ∧ OwNd w' w.heap.size w'.heap.size A R.nd.length R.nd ∧ Below w.heap.size w w'
end Go.Proofs.YtfpibbhcecdbgaaGreatDoor

namespace Go.Proofs.YtfpibbhcecdbgaaGreatDoor
open Go.RowKit
open Bt (Rc)

theorem app_put {Z : List Bk} (h : NdOk Z) {r : Rc} (hr : r.Ok) : appAns Z (decide r.Ok) (bstr r.bytes) 0 = putAns Z 0 (bstr r.bytes) := by
  unfold appAns; rw [if_pos ⟨h, decide_eq_true hr, by omega, by omega⟩]
theorem ans_eta (a : NdAns) (h : a.data = ⟨#[]⟩) : a = ⟨a.nd, ⟨#[]⟩, a.code⟩ := by cases a; simp only at h; subst h; rfl
theorem set3 {w : World} {b : Nat} {e : TypeId} {a0 a1 a2 : Value} (h : IsBlk w b e [a0, a1, a2]) (x y z : Value) : IsBlk (((w.setCell ⟨b, 0, none⟩ x).setCell ⟨b, 1, none⟩ y).setCell ⟨b, 2, none⟩ z) b e [x, y, z] := by
  have := ((h.set (j := 0) x).set (j := 1) y).set (j := 2) z
  simpa using this
theorem off3 {w : World} {b j : Nat} (h : j ≠ b) (x y z : Value) : (((w.setCell ⟨b, 0, none⟩ x).setCell ⟨b, 1, none⟩ y).setCell ⟨b, 2, none⟩ z).heap[j]? = w.heap[j]? := by
  rw [Below.heap_setCell _ _ _ _ (by dsimp only; exact h), Below.heap_setCell _ _ _ _ (by dsimp only; exact h), Below.heap_setCell _ _ _ _ (by dsimp only; exact h)]
theorem size3 (w : World) (b : Nat) (x y z : Value) : (((w.setCell ⟨b, 0, none⟩ x).setCell ⟨b, 1, none⟩ y).setCell ⟨b, 2, none⟩ z).heap.size = w.heap.size := by simp [World.setCell]
/-- the records behind the first one -/
theorem RdRc.tail {w : World} {B m g off : Nat} {r : Rc} {R : List Rc} (h : RdRc w B (some ⟨g, off, none⟩) (m + 1) (r :: R)) : RdRc w B (some ⟨g, off + 6, none⟩) m R := by
  refine ⟨by have := h.1; simpa using this, fun hm => ?_⟩
  obtain ⟨g', off', hA, hg, hc⟩ := h.2 (by omega)
  cases hA
  refine ⟨g, off + 6, rfl, hg, fun c hc' => ?_⟩
  have h1 := hc (c + 6) (by omega)
  rw [show off + 6 + c = off + (c + 6) by omega, h1]
  have e1 : (c + 6) / 6 = c / 6 + 1 := by omega
  have e2 : (c + 6) % 6 = c % 6 := by omega
  simp only [rcF, e1, e2, List.getD_cons_succ]
/-- a move: its block, its chip in memory of the call's own -/
structure MvSt (v w : World) (b : Nat) (A : Option Addr) (c lo hi : Nat) (Y : List Bk) (bi : Int) (Ar : Option Addr) (m cr : Nat) (dn : Bool) : Prop where
  bel : Below v.heap.size v w
  blk : IsBlk w b 194 [.slice A Y.length c, .int .i64 bi, .slice Ar m cr, .bool dn]
  b0 : v.heap.size ≤ b
  own : OwNd w lo hi A Y.length Y
  ap : b < lo ∨ hi ≤ b
  lo0 : v.heap.size ≤ lo
  hi1 : hi ≤ w.heap.size

set_option maxHeartbeats 4000000 in
set_option maxRecDepth 100000 in
theorem startMove_any (A Ab : Option Addr) (n ca lb cb : Nat) (X : List Bk) (bi : Int) (w : World) (hok : NdOk X) (hA : RdBk w w.heap.size A n X) :
    Calls Tryz.prog 80 #[.agg #[.slice A n ca], .int .i64 bi, .slice Ab lb cb] w fun e w' => ∃ (Az : Option Addr) (cz lo b : Nat), e = .returned (.pointer (some ⟨b, 0, none⟩)) ∧ MvSt w w' b Az cz lo b X bi Ab lb cb false ∧ b < w'.heap.size := by
  have HA := Lib.hid hA; have HOK := Lib.hid hok; clear hA hok
  go_enter Tryz.func80, Tryz.ntmps80
  go_wp2_with fail
  have hb0 := box_below w (.cells #[.slice A n ca] 28)
  change Calls _ _ _ (w.alloc (.cells #[.slice A n ca] 28)) _
  generalize w.alloc (.cells #[.slice A n ca] 28) = W at hb0 ⊢
  refine (impl_copyNand A n ca X W (small_ok HOK.out) HOK.out (rd_step HA.out hb0)).mono ?_
  rintro e w2 ⟨Az, cz, rfl, ho2, hb2⟩
  have hb3 := box_below w2 (.cells #[.slice Az X.length cz, .int .i64 bi, .slice Ab lb cb, .bool false] 194)
  have k3 := isBlk_new w2 194 [.slice Az X.length cz, .int .i64 bi, .slice Ab lb cb, .bool false]
  have H3 : Hid (MvSt w (w2.alloc (.cells #[.slice Az X.length cz, .int .i64 bi, .slice Ab lb cb, .bool false] 194)) w2.heap.size Az cz W.heap.size w2.heap.size X bi Ab lb cb false ∧ w2.heap.size < (w2.alloc (.cells #[.slice Az X.length cz, .int .i64 bi, .slice Ab lb cb, .bool false] 194)).heap.size) :=
    ⟨⟨bel_step (bel_step hb0 hb2) hb3, k3, by have := hb0.size; have := hb2.size; omega, ho2.below hb3 (Nat.le_refl _), .inr (Nat.le_refl _), hb0.size, hb3.size⟩, k3.lt⟩
  clear hb2 hb3 k3 ho2 hb0
  go_wp2
  go_ret
  exact ⟨Az, cz, _, _, rfl, H3.out⟩

/-- what a step reads, while it stands -/
def MvK (W w' : World) (x b gp op : Nat) (v0 v2 : Value) (r : Rc) : Prop :=
  w'.cell? ⟨b, 0, none⟩ = some v0 ∧ w'.cell? ⟨b, 2, none⟩ = some v2 ∧ w'.cell? ⟨gp, op, none⟩ = some (.int .i64 r.k) ∧ w'.cell? ⟨gp, op + 1, none⟩ = some (.int .i64 r.s) ∧ w'.cell? ⟨gp, op + 2, none⟩ = some (.int .i64 r.q) ∧ w'.cell? ⟨gp, op + 3, none⟩ = some (.int .i64 r.t) ∧ w'.cell? ⟨gp, op + 4, none⟩ = some (.int .i64 r.o) ∧ w'.cell? ⟨gp, op + 5, none⟩ = some (.string r.d) ∧ Hid (Btw x (x + 1) W w')
theorem mv_keep {W w1 w' : World} {x b gp op : Nat} {v0 v2 : Value} {r : Rc} (h : MvK W w1 x b gp op v0 v2 r) (hb : b < W.heap.size ∧ b ≠ x) (hg : gp < W.heap.size ∧ gp ≠ x) (k : Btw x (x + 1) w1 w') : MvK W w' x b gp op v0 v2 r := by
  obtain ⟨h0, h2, p0, p1, p2, p3, p4, p5, hb1⟩ := h
  have hz := hb1.out.size
  have e : ∀ (g o : Nat), g < W.heap.size → g ≠ x → w'.cell? ⟨g, o, none⟩ = w1.cell? ⟨g, o, none⟩ := fun g o h1 h2 => World.cell?_of_block (k.block g (by omega) (by omega))
  exact ⟨by rw [e b 0 hb.1 hb.2]; exact h0, by rw [e b 2 hb.1 hb.2]; exact h2, by rw [e gp op hg.1 hg.2]; exact p0, by rw [e gp _ hg.1 hg.2]; exact p1, by rw [e gp _ hg.1 hg.2]; exact p2, by rw [e gp _ hg.1 hg.2]; exact p3, by rw [e gp _ hg.1 hg.2]; exact p4, by rw [e gp _ hg.1 hg.2]; exact p5, hb1.out.trans k⟩
theorem mv_set3 {W w1 : World} {x b gp op : Nat} {v0 v2 : Value} {r : Rc} (h : MvK W w1 x b gp op v0 v2 r) (hb : b < W.heap.size ∧ b ≠ x) (hg : gp < W.heap.size ∧ gp ≠ x) (p q s : Value) : MvK W (((w1.setCell ⟨x, 0, none⟩ p).setCell ⟨x, 1, none⟩ q).setCell ⟨x, 2, none⟩ s) x b gp op v0 v2 r :=
  mv_keep h hb hg ((((Btw.refl x (x + 1) w1).setCell (p := ⟨x, 0, none⟩) (.inl ⟨Nat.le_refl _, Nat.lt_succ_self _⟩) p).setCell (p := ⟨x, 1, none⟩) (.inl ⟨Nat.le_refl _, Nat.lt_succ_self _⟩) q).setCell (p := ⟨x, 2, none⟩) (.inl ⟨Nat.le_refl _, Nat.lt_succ_self _⟩) s)
theorem er_set3 {w1 : World} {x b : Nat} {v0 v1 : Value} (h : w1.cell? ⟨b, 0, none⟩ = some v0 ∧ w1.cell? ⟨b, 1, none⟩ = some v1) (hb : b ≠ x) (p q s : Value) : (((w1.setCell ⟨x, 0, none⟩ p).setCell ⟨x, 1, none⟩ q).setCell ⟨x, 2, none⟩ s).cell? ⟨b, 0, none⟩ = some v0 ∧ (((w1.setCell ⟨x, 0, none⟩ p).setCell ⟨x, 1, none⟩ q).setCell ⟨x, 2, none⟩ s).cell? ⟨b, 1, none⟩ = some v1 :=
  ⟨(World.cell?_of_block (off3 hb p q s)).trans h.1, (World.cell?_of_block (off3 hb p q s)).trans h.2⟩
theorem mv_drew {W : World} {x b gp op : Nat} {v0 v2 : Value} {r : Rc} (h : MvK W W x b gp op v0 v2 r) (hb : b < W.heap.size ∧ b ≠ x) (hg : gp < W.heap.size ∧ gp ≠ x) : MvK W W.drew x b gp op v0 v2 r := mv_keep h hb hg (Btw.of_below (Below.refl _ _).drew)

set_option maxHeartbeats 8000000 in
set_option maxRecDepth 100000 in
/-- a step that writes a record again -/
theorem step_put (v w : World) (b : Nat) (A Ar : Option Addr) (c lo hi m cr : Nat) (Y : List Bk) (bi : Int) (r : Rc) (R : List Rc) (a0 a1 a2 : Addr) (hS : Sents v a0 a1 a2) (h : MvSt v w b A c lo hi Y bi Ar (m + 1) cr false) (hok : NdOk Y) (hm : m ≤ 48) (hcr : m + 1 ≤ cr) (hr : r.Ok) (hR : RdRc v v.heap.size Ar (m + 1) (r :: R)) :
    Calls Tryz.prog 158 #[.pointer (some ⟨b, 0, none⟩)] w fun e w' => e = .returned (.int .i64 (putAns Y 0 (bstr r.bytes)).code) ∧ ∃ (A' Ar' : Option Addr) (c' lo' hi' cr' : Nat), MvSt v w' b A' c' lo' hi' (putAns Y 0 (bstr r.bytes)).nd bi Ar' m cr' false ∧ m ≤ cr' ∧ RdRc v v.heap.size Ar' m R ∧ w.heap.size ≤ lo' ∧ Btw b (b + 1) w w' := by
  obtain ⟨gp, op, hAr, hgp, p0, p1, p2, p3, p4, p5⟩ := (hR.below h.bel).at (k := 0) (by omega)
  subst hAr
  simp only [Nat.zero_mul, Nat.add_zero, List.getD_cons_zero] at p0 p1 p2 p3 p4 p5
  have HT := Lib.hid hR.tail
  obtain ⟨c0, c1, c2, c3, f0, f1, f2, f3⟩ := blk4 h.blk
  have hbl := h.blk.lt
  have HH := Lib.hid h; have HOK := Lib.hid hok; have HRO := Lib.hid hr; have HS := Lib.hid (hS.below h.bel)
  have hpd : r.d.size ≤ maxLen := by have := hr.2.2.2.2.2.2.2.2.2.2.1; unfold maxLen; omega
  have hm0 : (0 : Int) < ((m + 1 : Nat) : Int) := by omega
  clear h hok hr hR hS
  go_enter Tryz.func158, Tryz.ntmps158
  obtain ⟨yn, yc, hyd, HAP⟩ : ∃ (yn : List Bk) (yc : Int), putAns Y 0 (bstr r.bytes) = ⟨yn, ⟨#[]⟩, yc⟩ ∧ Hid (∀ W, Below w.heap.size w W → Calls Tryz.prog 40 #[.agg #[.slice A Y.length c], recV r, .int .i64 0] W (fun e w' => ∃ (A5 : Option Addr) (c5 : Nat), e = .returned (.agg #[.slice A5 yn.length c5, .string ⟨#[]⟩, .int .i64 yc]) ∧ OwNd w' W.heap.size w'.heap.size A5 yn.length yn ∧ Below W.heap.size W w')) := by
    refine ⟨_, _, ans_eta _ (put_data Y (bstr r.bytes)).1, fun W hW => ?_⟩
    have h := impl_append A Y.length c Y r 0 a0 a1 a2 W hpd (small_ok HOK.out) (HS.out.below hW) ((HH.out.own.below hW HH.out.hi1).rd (Nat.le_trans HH.out.hi1 hW.size))
    rw [app_put HOK.out HRO.out] at h
    have hd := (put_data Y (bstr r.bytes)).1
    generalize putAns Y 0 (bstr r.bytes) = y at *
    obtain ⟨yn, yd, yc⟩ := y
    simp only at hd
    subst hd
    exact h
  rw [hyd]
  clear hyd
  go_wp2_with fail
  have hb1 := box_below w (.cells #[.slice none 0 0, .string ⟨#[]⟩, .int .i64 0] 30)
  have kx := isBlk_new w 30 [.slice none 0 0, .string ⟨#[]⟩, .int .i64 0]
  change IsBlk (w.alloc (.cells #[.slice none 0 0, .string ⟨#[]⟩, .int .i64 0] 30)) _ _ _ at kx
  change Code.wp _ _ _ _ (w.alloc (.cells #[.slice none 0 0, .string ⟨#[]⟩, .int .i64 0] 30))
  have hgw : gp < w.heap.size := Nat.lt_of_lt_of_le hgp HH.out.bel.size
  have hK0 : MvK (w.alloc (.cells #[.slice none 0 0, .string ⟨#[]⟩, .int .i64 0] 30)) (w.alloc (.cells #[.slice none 0 0, .string ⟨#[]⟩, .int .i64 0] 30)) w.heap.size b gp op (.slice A Y.length c) (.slice (some ⟨gp, op, none⟩) (m + 1) cr) r :=
    ⟨(hb1.cell (p := ⟨b, 0, none⟩) hbl).trans c0, (hb1.cell (p := ⟨b, 2, none⟩) hbl).trans c2, (hb1.cell (p := ⟨gp, op, none⟩) hgw).trans p0, (hb1.cell (p := ⟨gp, op + 1, none⟩) hgw).trans p1, (hb1.cell (p := ⟨gp, op + 2, none⟩) hgw).trans p2, (hb1.cell (p := ⟨gp, op + 3, none⟩) hgw).trans p3, (hb1.cell (p := ⟨gp, op + 4, none⟩) hgw).trans p4, (hb1.cell (p := ⟨gp, op + 5, none⟩) hgw).trans p5, Btw.refl _ _ _⟩
  have KB := Lib.hid (HH.out.blk.below hb1 hbl)
  have HB1 := Lib.hid hb1; have KX := Lib.hid kx
  have hbW : b < (w.alloc (.cells #[.slice none 0 0, .string ⟨#[]⟩, .int .i64 0] 30)).heap.size ∧ b ≠ w.heap.size := ⟨by simp; omega, by omega⟩
  have hgW : gp < (w.alloc (.cells #[.slice none 0 0, .string ⟨#[]⟩, .int .i64 0] 30)).heap.size ∧ gp ≠ w.heap.size := ⟨by simp; omega, by omega⟩
  clear hb1 kx c0 c1 c2 c3 f0 f1 f2 f3 p0 p1 p2 p3 p4 p5
  generalize w.alloc (.cells #[.slice none 0 0, .string ⟨#[]⟩, .int .i64 0] 30) = W at *
  go_region_held3 (fun w' => w'.cell? ⟨b, 0, none⟩ = some (.slice A Y.length c) ∧ w'.cell? ⟨b, 2, none⟩ = some (.slice (some ⟨gp, op, none⟩) (m + 1) cr) ∧ w'.cell? ⟨gp, op, none⟩ = some (.int .i64 r.k) ∧ w'.cell? ⟨gp, op + 1, none⟩ = some (.int .i64 r.s) ∧ w'.cell? ⟨gp, op + 2, none⟩ = some (.int .i64 r.q) ∧ w'.cell? ⟨gp, op + 3, none⟩ = some (.int .i64 r.t) ∧ w'.cell? ⟨gp, op + 4, none⟩ = some (.int .i64 r.o) ∧ w'.cell? ⟨gp, op + 5, none⟩ = some (.string r.d) ∧ Hid (Btw w.heap.size (w.heap.size + 1) W w'))
    (first | exact hK0 | exact mv_drew hK0 hbW hgW | exact hK5 | exact mv_set3 hK5 hbW hgW _ _ _)
    (first
      | (go_at_call 40
         refine (HAP.out _ (bel_step HB1.out (Below.refl _ _).drew)).mono ?_
         rintro e w5 ⟨A5, c5, rfl, ho5, hb5⟩
         have hK5 : MvK W w5 w.heap.size b gp op (.slice A Y.length c) (.slice (some ⟨gp, op, none⟩) (m + 1) cr) r := mv_keep (mv_drew hK0 hbW hgW) hbW hgW (Btw.of_below hb5)
         have HO5 := Lib.hid ho5
         have HB5 : Hid (Below W.heap.size W w5) := (Below.refl _ _).drew.trans hb5
         have KX5 := Lib.hid (KX.out.below HB5.out KX.out.lt)
         obtain ⟨x0, x1, x2, fx0, fx1, fx2⟩ := blk3 KX5.out
         clear ho5 hb5))
  all_goals
    have h5 := HB5.out.size
    have KXU := Lib.hid (set3 KX5.out (.slice A5 yn.length c5) (.string ⟨#[]⟩) (.int .i64 yc))
    have KBU : Hid (IsBlk (((w5.setCell ⟨w.heap.size, 0, none⟩ (.slice A5 yn.length c5)).setCell ⟨w.heap.size, 1, none⟩ (.string ⟨#[]⟩)).setCell ⟨w.heap.size, 2, none⟩ (.int .i64 yc)) b 194 [.slice A Y.length c, .int .i64 bi, .slice (some ⟨gp, op, none⟩) (m + 1) cr, .bool false]) := (off3 hbW.2 _ _ _).trans (KB.out.below HB5.out hbW.1)
    have HOU : Hid (OwNd (((w5.setCell ⟨w.heap.size, 0, none⟩ (.slice A5 yn.length c5)).setCell ⟨w.heap.size, 1, none⟩ (.string ⟨#[]⟩)).setCell ⟨w.heap.size, 2, none⟩ (.int .i64 yc)) W.heap.size w5.heap.size A5 yn.length yn) := HO5.out.same fun j h1 h2 => off3 (by have h1' : W.heap.size ≤ j := h1; have := HB1.out.size; have := KX.out.lt; omega) _ _ _
    have HBU : Hid (Below v.heap.size v (((w5.setCell ⟨w.heap.size, 0, none⟩ (.slice A5 yn.length c5)).setCell ⟨w.heap.size, 1, none⟩ (.string ⟨#[]⟩)).setCell ⟨w.heap.size, 2, none⟩ (.int .i64 yc))) :=
      (((bel_step HH.out.bel ((bel_step HB1.out HB5.out))).setCell (p := ⟨w.heap.size, 0, none⟩) HH.out.bel.size _).setCell (p := ⟨w.heap.size, 1, none⟩) HH.out.bel.size _).setCell (p := ⟨w.heap.size, 2, none⟩) HH.out.bel.size _
    have hzU := size3 w5 w.heap.size (.slice A5 yn.length c5) (.string ⟨#[]⟩) (.int .i64 yc)
    have HTU : Hid (Btw b (b + 1) w (((w5.setCell ⟨w.heap.size, 0, none⟩ (.slice A5 yn.length c5)).setCell ⟨w.heap.size, 1, none⟩ (.string ⟨#[]⟩)).setCell ⟨w.heap.size, 2, none⟩ (.int .i64 yc))) :=
      ((((Btw.of_below HB1.out).trans (Btw.of_below HB5.out)).setCell (p := ⟨w.heap.size, 0, none⟩) (.inr (Nat.le_refl _)) _).setCell (p := ⟨w.heap.size, 1, none⟩) (.inr (Nat.le_refl _)) _).setCell (p := ⟨w.heap.size, 2, none⟩) (.inr (Nat.le_refl _)) _
    have hwW := HB1.out.size
    have hxW := KX.out.lt
    obtain ⟨d0, d1, d2, d3, e0, e1, e2, e3⟩ := blk4 KBU.out
    clear hK0 hK5 HO5 KX5 x0 x1 x2 fx0 fx1 fx2 KB KX HAP HS HOK HRO
    generalize ((w5.setCell ⟨w.heap.size, 0, none⟩ (.slice A5 yn.length c5)).setCell ⟨w.heap.size, 1, none⟩ (.string ⟨#[]⟩)).setCell ⟨w.heap.size, 2, none⟩ (.int .i64 yc) = U at *
    by_cases hc1 : cr = 1
    · subst hc1
      obtain rfl : m = 0 := by omega
      have KXV : IsBlk (U.setCell ⟨b, 2, none⟩ (.slice (some ⟨gp, op, none⟩) 0 0)) w.heap.size 30 [.slice A5 yn.length c5, .string ⟨#[]⟩, .int .i64 yc] := KXU.out.other (by dsimp only; omega) _
      have KBV : IsBlk (U.setCell ⟨b, 2, none⟩ (.slice (some ⟨gp, op, none⟩) 0 0)) b 194 [.slice A Y.length c, .int .i64 bi, (.slice (some ⟨gp, op, none⟩) 0 0), .bool false] := KBU.out.set (j := 2) _
      have KXV2 : IsBlk ((U.setCell ⟨b, 2, none⟩ (.slice (some ⟨gp, op, none⟩) 0 0)).setCell ⟨b, 0, none⟩ (.slice A5 yn.length c5)) w.heap.size 30 [.slice A5 yn.length c5, .string ⟨#[]⟩, .int .i64 yc] := KXV.other (by dsimp only; omega) _
      have KBV2 := Lib.hid (KBV.set (j := 0) (.slice A5 yn.length c5))
      have HOV : Hid (OwNd ((U.setCell ⟨b, 2, none⟩ (.slice (some ⟨gp, op, none⟩) 0 0)).setCell ⟨b, 0, none⟩ (.slice A5 yn.length c5)) W.heap.size w5.heap.size A5 yn.length yn) := HOU.out.same fun j h1 h2 => by rw [Below.heap_setCell _ _ _ _ (by dsimp only; omega), Below.heap_setCell _ _ _ _ (by dsimp only; omega)]
      have HBV : Hid (Below v.heap.size v ((U.setCell ⟨b, 2, none⟩ (.slice (some ⟨gp, op, none⟩) 0 0)).setCell ⟨b, 0, none⟩ (.slice A5 yn.length c5))) := (HBU.out.setCell (p := ⟨b, 2, none⟩) HH.out.b0 _).setCell (p := ⟨b, 0, none⟩) HH.out.b0 _
      have HTV := Lib.hid ((HTU.out.setCell (p := ⟨b, 2, none⟩) (.inl ⟨Nat.le_refl _, Nat.lt_succ_self _⟩) (.slice (some ⟨gp, op, none⟩) 0 0)).setCell (p := ⟨b, 0, none⟩) (.inl ⟨Nat.le_refl _, Nat.lt_succ_self _⟩) (.slice A5 yn.length c5))
      have hzV : ((U.setCell ⟨b, 2, none⟩ (.slice (some ⟨gp, op, none⟩) 0 0)).setCell ⟨b, 0, none⟩ (.slice A5 yn.length c5)).heap.size = U.heap.size := by simp [World.setCell]
      obtain ⟨x0, -, -, -, -, -⟩ := blk3 KXV
      obtain ⟨-, -, x2, -, -, -⟩ := blk3 KXV2
      obtain ⟨g0, -, -, -, j0, -, -, -⟩ := blk4 KBV
      clear KXV KXV2 KBV KBU KXU HOU HBU
      go_wp2
      go_ret
      exact ⟨rfl, A5, _, c5, W.heap.size, ⟨w5.heap.size, _, ⟨HBV.out, KBV2.out, HH.out.b0, HOV.out, .inl (by omega), by have := HH.out.bel.size; have := HB1.out.size; omega, by omega⟩⟩, ⟨HT.out.1, fun h => absurd h (by omega)⟩, hwW, HTV.out⟩
    · have hc2 : (cr == 1) = false := by simpa using hc1
      have KXV : IsBlk (U.setCell ⟨b, 2, none⟩ (.slice (some ⟨gp, op + 6, none⟩) m (cr - 1))) w.heap.size 30 [.slice A5 yn.length c5, .string ⟨#[]⟩, .int .i64 yc] := KXU.out.other (by dsimp only; omega) _
      have KBV : IsBlk (U.setCell ⟨b, 2, none⟩ (.slice (some ⟨gp, op + 6, none⟩) m (cr - 1))) b 194 [.slice A Y.length c, .int .i64 bi, (.slice (some ⟨gp, op + 6, none⟩) m (cr - 1)), .bool false] := KBU.out.set (j := 2) _
      have KXV2 : IsBlk ((U.setCell ⟨b, 2, none⟩ (.slice (some ⟨gp, op + 6, none⟩) m (cr - 1))).setCell ⟨b, 0, none⟩ (.slice A5 yn.length c5)) w.heap.size 30 [.slice A5 yn.length c5, .string ⟨#[]⟩, .int .i64 yc] := KXV.other (by dsimp only; omega) _
      have KBV2 := Lib.hid (KBV.set (j := 0) (.slice A5 yn.length c5))
      have HOV : Hid (OwNd ((U.setCell ⟨b, 2, none⟩ (.slice (some ⟨gp, op + 6, none⟩) m (cr - 1))).setCell ⟨b, 0, none⟩ (.slice A5 yn.length c5)) W.heap.size w5.heap.size A5 yn.length yn) := HOU.out.same fun j h1 h2 => by rw [Below.heap_setCell _ _ _ _ (by dsimp only; omega), Below.heap_setCell _ _ _ _ (by dsimp only; omega)]
      have HBV : Hid (Below v.heap.size v ((U.setCell ⟨b, 2, none⟩ (.slice (some ⟨gp, op + 6, none⟩) m (cr - 1))).setCell ⟨b, 0, none⟩ (.slice A5 yn.length c5))) := (HBU.out.setCell (p := ⟨b, 2, none⟩) HH.out.b0 _).setCell (p := ⟨b, 0, none⟩) HH.out.b0 _
      have HTV := Lib.hid ((HTU.out.setCell (p := ⟨b, 2, none⟩) (.inl ⟨Nat.le_refl _, Nat.lt_succ_self _⟩) (.slice (some ⟨gp, op + 6, none⟩) m (cr - 1))).setCell (p := ⟨b, 0, none⟩) (.inl ⟨Nat.le_refl _, Nat.lt_succ_self _⟩) (.slice A5 yn.length c5))
      have hzV : ((U.setCell ⟨b, 2, none⟩ (.slice (some ⟨gp, op + 6, none⟩) m (cr - 1))).setCell ⟨b, 0, none⟩ (.slice A5 yn.length c5)).heap.size = U.heap.size := by simp [World.setCell]
      obtain ⟨x0, -, -, -, -, -⟩ := blk3 KXV
      obtain ⟨-, -, x2, -, -, -⟩ := blk3 KXV2
      obtain ⟨g0, -, -, -, j0, -, -, -⟩ := blk4 KBV
      clear KXV KXV2 KBV KBU KXU HOU HBU
      go_wp2
      go_ret
      exact ⟨rfl, A5, _, c5, W.heap.size, w5.heap.size, _, ⟨HBV.out, KBV2.out, HH.out.b0, HOV.out, .inl (by omega), by have := HH.out.bel.size; have := HB1.out.size; omega, by omega⟩, by omega, HT.out, hwW, HTV.out⟩

set_option maxHeartbeats 8000000 in
set_option maxRecDepth 100000 in
/-- the step that erases -/
theorem step_last (v w : World) (b : Nat) (A Ar : Option Addr) (c lo hi cr : Nat) (Y : List Bk) (bi : Int) (h : MvSt v w b A c lo hi Y bi Ar 0 cr false) (hok : NdOk Y) :
    Calls Tryz.prog 158 #[.pointer (some ⟨b, 0, none⟩)] w fun e w' => e = .returned (.int .i64 (eraseAns Y bi).code) ∧ ∃ (A' : Option Addr) (c' lo' hi' : Nat), MvSt v w' b A' c' lo' hi' (eraseAns Y bi).nd bi Ar 0 cr true ∧ w.heap.size ≤ lo' ∧ Btw b (b + 1) w w' := by
  obtain ⟨c0, c1, c2, c3, f0, f1, f2, f3⟩ := blk4 h.blk
  have hbl := h.blk.lt
  have HH := Lib.hid h; have HOK := Lib.hid hok
  clear h hok
  obtain ⟨yn, yc, hyd, HAP⟩ : ∃ (yn : List Bk) (yc : Int), eraseAns Y bi = ⟨yn, ⟨#[]⟩, yc⟩ ∧ Hid (∀ W, Below w.heap.size w W → Calls Tryz.prog 223 #[.agg #[.slice A Y.length c], .int .i64 bi] W (fun e w' => ∃ (A5 : Option Addr) (c5 : Nat), e = .returned (.agg #[.slice A5 yn.length c5, .string ⟨#[]⟩, .int .i64 yc]) ∧ OwNd w' W.heap.size w'.heap.size A5 yn.length yn ∧ Below W.heap.size W w')) := by
    refine ⟨_, _, ans_eta _ (erase_data Y bi).1, fun W hW => ?_⟩
    have h := impl_erase A Y.length c Y bi W (small_ok HOK.out) ((HH.out.own.below hW HH.out.hi1).rd (Nat.le_trans HH.out.hi1 hW.size))
    have hd := (erase_data Y bi).1
    generalize eraseAns Y bi = y at *
    obtain ⟨yn, yd, yc⟩ := y
    simp only at hd
    subst hd
    exact h
  rw [hyd]
  clear hyd
  go_enter Tryz.func158, Tryz.ntmps158
  go_wp2_with fail
  have hb1 := box_below w (.cells #[.slice none 0 0, .string ⟨#[]⟩, .int .i64 0] 30)
  have kx := isBlk_new w 30 [.slice none 0 0, .string ⟨#[]⟩, .int .i64 0]
  change IsBlk (w.alloc (.cells #[.slice none 0 0, .string ⟨#[]⟩, .int .i64 0] 30)) _ _ _ at kx
  change Code.wp _ _ _ _ (w.alloc (.cells #[.slice none 0 0, .string ⟨#[]⟩, .int .i64 0] 30))
  have hK0 : (w.alloc (.cells #[.slice none 0 0, .string ⟨#[]⟩, .int .i64 0] 30)).cell? ⟨b, 0, none⟩ = some (.slice A Y.length c) ∧ (w.alloc (.cells #[.slice none 0 0, .string ⟨#[]⟩, .int .i64 0] 30)).cell? ⟨b, 1, none⟩ = some (.int .i64 bi) :=
    ⟨(hb1.cell (p := ⟨b, 0, none⟩) hbl).trans c0, (hb1.cell (p := ⟨b, 1, none⟩) hbl).trans c1⟩
  have KB := Lib.hid (HH.out.blk.below hb1 hbl)
  have HB1 := Lib.hid hb1; have KX := Lib.hid kx
  have hbW : b < (w.alloc (.cells #[.slice none 0 0, .string ⟨#[]⟩, .int .i64 0] 30)).heap.size ∧ b ≠ w.heap.size := ⟨by simp; omega, by omega⟩
  clear hb1 kx c0 c1 c2 c3 f0 f1 f2 f3
  generalize w.alloc (.cells #[.slice none 0 0, .string ⟨#[]⟩, .int .i64 0] 30) = W at *
  go_region_held3 (fun w' => w'.cell? ⟨b, 0, none⟩ = some (.slice A Y.length c) ∧ w'.cell? ⟨b, 1, none⟩ = some (.int .i64 bi))
    (first | exact hK0 | exact hK5 | exact er_set3 hK5 hbW.2 _ _ _)
    (first
      | (go_at_call 223
         refine (HAP.out _ (bel_step HB1.out (Below.refl _ _).drew)).mono ?_
         rintro e w5 ⟨A5, c5, rfl, ho5, hb5⟩
         have HO5 := Lib.hid ho5
         have HB5 : Hid (Below W.heap.size W w5) := (Below.refl _ _).drew.trans hb5
         have hK5 : w5.cell? ⟨b, 0, none⟩ = some (.slice A Y.length c) ∧ w5.cell? ⟨b, 1, none⟩ = some (.int .i64 bi) := ⟨(HB5.out.cell (p := ⟨b, 0, none⟩) hbW.1).trans hK0.1, (HB5.out.cell (p := ⟨b, 1, none⟩) hbW.1).trans hK0.2⟩
         have KX5 := Lib.hid (KX.out.below HB5.out KX.out.lt)
         obtain ⟨x0, x1, x2, fx0, fx1, fx2⟩ := blk3 KX5.out
         clear ho5 hb5))
  all_goals
    have h5 := HB5.out.size
    have KXU := Lib.hid (set3 KX5.out (.slice A5 yn.length c5) (.string ⟨#[]⟩) (.int .i64 yc))
    have KBU : Hid (IsBlk (((w5.setCell ⟨w.heap.size, 0, none⟩ (.slice A5 yn.length c5)).setCell ⟨w.heap.size, 1, none⟩ (.string ⟨#[]⟩)).setCell ⟨w.heap.size, 2, none⟩ (.int .i64 yc)) b 194 [.slice A Y.length c, .int .i64 bi, .slice Ar 0 cr, .bool false]) := (off3 hbW.2 _ _ _).trans (KB.out.below HB5.out hbW.1)
    have HOU : Hid (OwNd (((w5.setCell ⟨w.heap.size, 0, none⟩ (.slice A5 yn.length c5)).setCell ⟨w.heap.size, 1, none⟩ (.string ⟨#[]⟩)).setCell ⟨w.heap.size, 2, none⟩ (.int .i64 yc)) W.heap.size w5.heap.size A5 yn.length yn) := HO5.out.same fun j h1 h2 => off3 (by have h1' : W.heap.size ≤ j := h1; have := HB1.out.size; have := KX.out.lt; omega) _ _ _
    have HBU : Hid (Below v.heap.size v (((w5.setCell ⟨w.heap.size, 0, none⟩ (.slice A5 yn.length c5)).setCell ⟨w.heap.size, 1, none⟩ (.string ⟨#[]⟩)).setCell ⟨w.heap.size, 2, none⟩ (.int .i64 yc))) :=
      (((bel_step HH.out.bel ((bel_step HB1.out HB5.out))).setCell (p := ⟨w.heap.size, 0, none⟩) HH.out.bel.size _).setCell (p := ⟨w.heap.size, 1, none⟩) HH.out.bel.size _).setCell (p := ⟨w.heap.size, 2, none⟩) HH.out.bel.size _
    have hzU := size3 w5 w.heap.size (.slice A5 yn.length c5) (.string ⟨#[]⟩) (.int .i64 yc)
    have HTU : Hid (Btw b (b + 1) w (((w5.setCell ⟨w.heap.size, 0, none⟩ (.slice A5 yn.length c5)).setCell ⟨w.heap.size, 1, none⟩ (.string ⟨#[]⟩)).setCell ⟨w.heap.size, 2, none⟩ (.int .i64 yc))) :=
      ((((Btw.of_below HB1.out).trans (Btw.of_below HB5.out)).setCell (p := ⟨w.heap.size, 0, none⟩) (.inr (Nat.le_refl _)) _).setCell (p := ⟨w.heap.size, 1, none⟩) (.inr (Nat.le_refl _)) _).setCell (p := ⟨w.heap.size, 2, none⟩) (.inr (Nat.le_refl _)) _
    have hwW := HB1.out.size
    have hxW := KX.out.lt
    obtain ⟨d0, d1, d2, d3, e0, e1, e2, e3⟩ := blk4 KBU.out
    clear hK0 hK5 HO5 KX5 x0 x1 x2 fx0 fx1 fx2 KB KX HAP HOK
    generalize ((w5.setCell ⟨w.heap.size, 0, none⟩ (.slice A5 yn.length c5)).setCell ⟨w.heap.size, 1, none⟩ (.string ⟨#[]⟩)).setCell ⟨w.heap.size, 2, none⟩ (.int .i64 yc) = U at *
    have KXV : IsBlk (U.setCell ⟨b, 3, none⟩ (.bool true)) w.heap.size 30 [.slice A5 yn.length c5, .string ⟨#[]⟩, .int .i64 yc] := KXU.out.other (by dsimp only; omega) _
    have KBV : IsBlk (U.setCell ⟨b, 3, none⟩ (.bool true)) b 194 [.slice A Y.length c, .int .i64 bi, .slice Ar 0 cr, .bool true] := KBU.out.set (j := 3) _
    have KXV2 : IsBlk ((U.setCell ⟨b, 3, none⟩ (.bool true)).setCell ⟨b, 0, none⟩ (.slice A5 yn.length c5)) w.heap.size 30 [.slice A5 yn.length c5, .string ⟨#[]⟩, .int .i64 yc] := KXV.other (by dsimp only; omega) _
    have KBV2 := Lib.hid (KBV.set (j := 0) (.slice A5 yn.length c5))
    have HOV : Hid (OwNd ((U.setCell ⟨b, 3, none⟩ (.bool true)).setCell ⟨b, 0, none⟩ (.slice A5 yn.length c5)) W.heap.size w5.heap.size A5 yn.length yn) := HOU.out.same fun j h1 h2 => by rw [Below.heap_setCell _ _ _ _ (by dsimp only; omega), Below.heap_setCell _ _ _ _ (by dsimp only; omega)]
    have HBV : Hid (Below v.heap.size v ((U.setCell ⟨b, 3, none⟩ (.bool true)).setCell ⟨b, 0, none⟩ (.slice A5 yn.length c5))) := (HBU.out.setCell (p := ⟨b, 3, none⟩) HH.out.b0 _).setCell (p := ⟨b, 0, none⟩) HH.out.b0 _
    have HTV := Lib.hid ((HTU.out.setCell (p := ⟨b, 3, none⟩) (.inl ⟨Nat.le_refl _, Nat.lt_succ_self _⟩) (.bool true)).setCell (p := ⟨b, 0, none⟩) (.inl ⟨Nat.le_refl _, Nat.lt_succ_self _⟩) (.slice A5 yn.length c5))
    have hzV : ((U.setCell ⟨b, 3, none⟩ (.bool true)).setCell ⟨b, 0, none⟩ (.slice A5 yn.length c5)).heap.size = U.heap.size := by simp [World.setCell]
    obtain ⟨x0, -, -, -, -, -⟩ := blk3 KXV
    obtain ⟨-, -, x2, -, -, -⟩ := blk3 KXV2
    obtain ⟨g0, -, -, -, j0, -, -, -⟩ := blk4 KBV
    clear KXV KXV2 KBV KBU KXU HOU HBU
    go_wp2
    go_ret
    exact ⟨rfl, A5, c5, W.heap.size, w5.heap.size, ⟨HBV.out, KBV2.out, HH.out.b0, HOV.out, .inl (by omega), by have := HH.out.bel.size; have := HB1.out.size; omega, by omega⟩, hwW, HTV.out⟩

/-- a move's answer, stored in its box -/
theorem mv_ends {v u : World} {x lo hi : Nat} {A : Option Addr} {c : Nat} {Y : List Bk} {C : Int} (hO : OwNd u lo hi A Y.length Y) (hlo : v.heap.size ≤ lo) (hhi : hi ≤ u.heap.size) (hx : v.heap.size ≤ x) (hap : x < lo ∨ hi ≤ x) (hB : Below v.heap.size v u) (p q s : Value) {R : NdAns} (hR : R = ⟨Y, ⟨#[]⟩, C⟩) :
    RetAns v R (.returned (.agg #[.slice A Y.length c, .string ⟨#[]⟩, .int .i64 C])) (((u.setCell ⟨x, 0, none⟩ p).setCell ⟨x, 1, none⟩ q).setCell ⟨x, 2, none⟩ s) := by
  subst hR
  refine ⟨A, c, rfl, ?_, ((hB.setCell (p := ⟨x, 0, none⟩) hx _).setCell (p := ⟨x, 1, none⟩) hx _).setCell (p := ⟨x, 2, none⟩) hx _⟩
  refine (hO.same fun j h1 h2 => off3 (by omega) _ _ _).mono hlo (by rw [size3]; exact hhi)

set_option maxHeartbeats 8000000 in
set_option maxRecDepth 100000 in
/-- a move's first steps -/
theorem advance_any (v w : World) (b : Nat) (A Ab : Option Addr) (c lo hi lb cb : Nat) (X : List Bk) (R : List Rc) (bi steps : Int) (a0 a1 a2 : Addr) (hS : Sents v a0 a1 a2) (h : MvSt v w b A c lo hi X bi Ab lb cb false) (hok : NdOk X) (hRO : ∀ r ∈ R, r.Ok) (hlb : lb ≤ 48) (hcb : lb ≤ cb) (hR : RdRc v v.heap.size Ab lb R) (hst : steps ≤ 9223372036854775807) :
    Calls Tryz.prog 82 #[.pointer (some ⟨b, 0, none⟩), .int .i64 steps] w (RetAns v (gcRun X R steps bi)) := by
  have HRL := Lib.hid hR.1
  have HH := Lib.hid h; have HOK := Lib.hid hok; have HRO := Lib.hid hRO; have HS := Lib.hid hS; have HR := Lib.hid hR
  clear h hok hRO hS hR
  go_enter Tryz.func82, Tryz.ntmps82
  go_wp2_with fail
  have hb1 := box_below w (.cells #[.slice none 0 0, .string ⟨#[]⟩, .int .i64 0] 30)
  have kx := isBlk_new w 30 [.slice none 0 0, .string ⟨#[]⟩, .int .i64 0]
  change IsBlk (w.alloc (.cells #[.slice none 0 0, .string ⟨#[]⟩, .int .i64 0] 30)) _ _ _ at kx
  change Code.wp _ _ _ _ (w.alloc (.cells #[.slice none 0 0, .string ⟨#[]⟩, .int .i64 0] 30))
  have H0 : Hid (MvSt v (w.alloc (.cells #[.slice none 0 0, .string ⟨#[]⟩, .int .i64 0] 30)) b A c lo hi X bi Ab lb cb false) :=
    ⟨bel_step HH.out.bel hb1, HH.out.blk.below hb1 HH.out.blk.lt, HH.out.b0, HH.out.own.below hb1 HH.out.hi1, HH.out.ap, HH.out.lo0, Nat.le_trans HH.out.hi1 hb1.size⟩
  have hbx : b < w.heap.size := HH.out.blk.lt
  have hix := HH.out.hi1
  have KX := Lib.hid kx
  have hvw := HH.out.bel.size
  clear kx hb1
  generalize w.alloc (.cells #[.slice none 0 0, .string ⟨#[]⟩, .int .i64 0] 30) = W at *
  go_loopw [1] (fun sv wr => ∃ (k : Nat) (A' Ar' : Option Addr) (c' lo' hi' cr' : Nat), sv = .int .i64 (steps - (k : Int)) ∧ ((k : Int) ≤ steps ∨ k = 0) ∧ IsBlk wr w.heap.size 30 [.slice none 0 0, .string ⟨#[]⟩, .int .i64 0] ∧ (w.heap.size < lo' ∨ hi' ≤ w.heap.size) ∧
    ((k ≤ lb ∧ MvSt v wr b A' c' lo' hi' (gcTo X R k).nd bi Ar' (lb - k) cr' false ∧ (gcTo X R k).code = 0 ∧ lb - k ≤ cr' ∧ RdRc v v.heap.size Ar' (lb - k) (R.drop k)) ∨
     (k = lb + 1 ∧ MvSt v wr b A' c' lo' hi' (eraseAns (gcTo X R lb).nd bi).nd bi Ar' 0 cr' true ∧ (gcTo X R lb).code = 0 ∧ (eraseAns (gcTo X R lb).nd bi).code = 0))) (fun sv _ => (intOf sv).toNat)
  case atStart => exact ⟨0, A, Ab, c, lo, hi, cb, by simp, .inr rfl, KX.out, .inr hix, .inl ⟨Nat.zero_le _, H0.out, rfl, hcb, HR.out⟩⟩
  case round =>
    obtain ⟨k, A', Ar', c', lo', hi', cr', rfl, hks, hkx, hapx, hst | hst⟩ := hrel
    · obtain ⟨hk, hmv, hc0, hcr, hrd⟩ := hst
      have HMV := Lib.hid hmv; have HC0 := Lib.hid hc0; have HRD := Lib.hid hrd; have HKX := Lib.hid hkx
      obtain ⟨c0, -, -, c3, -, -, -, -⟩ := blk4 hmv.blk
      clear hmv hc0 hrd hkx KX H0
      by_cases hgo : 0 < steps - (k : Int)
      · have hw1 : IntKind.i64.wrap (steps - (k : Int) - 1) = steps - (k : Int) - 1 := IntWalk.i64_in _ (by omega)
        have hok := Lib.hid (gcTo_right HOK.out HRO.out k (by have := HRL.out; omega) HC0.out)
        by_cases hlt : k < lb
        · obtain ⟨m, hm⟩ : ∃ m, lb - k = m + 1 := ⟨lb - k - 1, by omega⟩
          rw [hm] at HMV HRD hcr
          have hkR : k < R.length := by have := HRL.out; omega
          have HDR : Hid (R.drop k = R.getD k Rc.zero :: R.drop (k + 1)) := by show _ = _; rw [List.drop_eq_getElem_cons hkR, List.getD_eq_getElem?_getD, List.getElem?_eq_getElem hkR]; rfl
          have HPO : Hid ((R.getD k Rc.zero).Ok) := HRO.out _ (getD_lt hkR)
          have HNX := Lib.hid (gcTo_next (X := X) (R := R) (k := k) HC0.out)
          have HFAIL : Hid ((gcTo X R (k + 1)).code ≠ 0 → gcRun X R steps bi = gcTo X R (k + 1)) := fun h2 => gcRun_fails (by omega) (by omega) h2
          have HPD := Lib.hid (put_data (gcTo X R k).nd (bstr (R.getD k Rc.zero).bytes)).2
          have HSTEP := Lib.hid (step_put v wr b A' Ar' c' lo' hi' m cr' (gcTo X R k).nd bi (R.getD k Rc.zero) (R.drop (k + 1)) a0 a1 a2 HS.out HMV.out hok.out (by omega) hcr HPO.out (by rw [← HDR.out]; exact HRD.out))
          have HBX : Hid (∀ w', Btw b (b + 1) wr w' → IsBlk w' w.heap.size 30 [.slice none 0 0, .string ⟨#[]⟩, .int .i64 0]) := fun w' h => (h.block w.heap.size HKX.out.lt (.inr (by omega))).trans HKX.out
          have hxr := HKX.out.lt
          rw [← HNX.out] at HSTEP HPD
          obtain ⟨y, hy⟩ : ∃ y, y = gcTo X R (k + 1) := ⟨_, rfl⟩
          rw [← hy] at HSTEP HPD HFAIL
          have HY := Lib.hid hy
          clear hy HDR HPO HNX HRD HKX
          go_wp2_with fail
          refine HSTEP.out.mono ?_
          rintro e w5 ⟨rfl, A5, Ar5, c5, lo5, hi5, cr5, hmv5, hcr5, hrd5, hlo5, hbt5⟩
          have HM5 := Lib.hid hmv5; have HR5 := Lib.hid hrd5
          have HX5 := Lib.hid (HBX.out w5 hbt5)
          obtain ⟨d0, d1, d2, fd0, fd1, fd2⟩ := blk3 HX5.out
          clear hmv5 hrd5 hbt5 HSTEP HBX c0 c3
          by_cases hyc : y.code = 0
          · rw [hyc]
            go_wp2
            go_roundw
            case rel => exact ⟨k + 1, A5, Ar5, c5, lo5, hi5, cr5, by congr 1; omega, .inl (by omega), HX5.out, .inl (by omega), .inl ⟨by omega, by rw [← HY.out, show lb - (k + 1) = m by omega]; exact HM5.out, by rw [← HY.out]; exact hyc, by omega, by rw [show lb - (k + 1) = m by omega]; exact HR5.out⟩⟩
            case measure => simp [intOf]; omega
          · have hyc' : (y.code == 0) = false := by simpa using hyc
            have HE := Lib.hid (HFAIL.out hyc); have HI := Lib.hid (HPD.out hyc)
            have hvl := HM5.out.bel
            generalize y.code = yc at *
            go_wp2
            refine bodyPost_ret (v := .agg #[.slice none 0 0, .string ⟨#[]⟩, .int .i64 yc]) (by simp [results, Tryz.results82, go_sem, d0, d1, d2]) rfl ?_
            rw [HE.out]
            exact mv_ends (Y := []) (lo := v.heap.size) (hi := v.heap.size) (ow_nil _ _ _ _) (Nat.le_refl _) hvl.size (by omega) (by omega) hvl _ _ _ HI.out
        · obtain rfl : k = lb := by omega
          rw [Nat.sub_self] at HMV HRD hcr
          have HALL : Hid (gcRun X R steps bi = eraseAns (gcTo X R k).nd bi) := by
            show _ = _
            have e := HRL.out
            have h := gcRun_all (X := X) (R := R) (steps := steps) (b := bi) (by omega) (by rw [e]; exact HC0.out)
            rw [e] at h; exact h
          have HED := Lib.hid (erase_data (gcTo X R k).nd bi).2
          have HSTEP := Lib.hid (step_last v wr b A' Ar' c' lo' hi' cr' (gcTo X R k).nd bi HMV.out hok.out)
          have HBX : Hid (∀ w', Btw b (b + 1) wr w' → IsBlk w' w.heap.size 30 [.slice none 0 0, .string ⟨#[]⟩, .int .i64 0]) := fun w' h => (h.block w.heap.size HKX.out.lt (.inr (by omega))).trans HKX.out
          have hxr := HKX.out.lt
          obtain ⟨y, hy⟩ : ∃ y, y = eraseAns (gcTo X R k).nd bi := ⟨_, rfl⟩
          rw [← hy] at HSTEP HED HALL
          have HY := Lib.hid hy
          clear hy HRD HKX
          go_wp2_with fail
          refine HSTEP.out.mono ?_
          rintro e w5 ⟨rfl, A5, c5, lo5, hi5, hmv5, hlo5, hbt5⟩
          have HM5 := Lib.hid hmv5
          have HX5 := Lib.hid (HBX.out w5 hbt5)
          obtain ⟨d0, d1, d2, fd0, fd1, fd2⟩ := blk3 HX5.out
          clear hmv5 hbt5 HSTEP HBX c0 c3
          by_cases hyc : y.code = 0
          · rw [hyc]
            go_wp2
            go_roundw
            case rel => exact ⟨k + 1, A5, Ar', c5, lo5, hi5, cr', by congr 1; omega, .inl (by omega), HX5.out, .inl (by omega), .inr ⟨rfl, by rw [← HY.out]; exact HM5.out, HC0.out, by rw [← HY.out]; exact hyc⟩⟩
            case measure => simp [intOf]; omega
          · have hyc' : (y.code == 0) = false := by simpa using hyc
            have HI := Lib.hid (HED.out hyc)
            have hvl := HM5.out.bel
            generalize y.code = yc at *
            go_wp2
            refine bodyPost_ret (v := .agg #[.slice none 0 0, .string ⟨#[]⟩, .int .i64 yc]) (by simp [results, Tryz.results82, go_sem, d0, d1, d2]) rfl ?_
            rw [HALL.out]
            exact mv_ends (Y := []) (lo := v.heap.size) (hi := v.heap.size) (ow_nil _ _ _ _) (Nat.le_refl _) hvl.size (by omega) (by omega) hvl _ _ _ HI.out
      · have HC : Hid (gcRun X R steps bi = gcTo X R k) := gcRun_steps (by have := HRL.out; omega) (by omega) hks HC0.out
        have HET := Lib.hid (ans_eta _ (gcTo_data X R k))
        rw [HC0.out] at HET
        obtain ⟨d0, d1, d2, fd0, fd1, fd2⟩ := blk3 HKX.out
        have hle : steps ≤ (k : Int) := by omega
        have hgo' : ¬ (k : Int) < steps := by omega
        clear HC0
        generalize gcTo X R k = t at *
        go_wp2
        refine bodyPost_ret (v := .agg #[.slice A' t.nd.length c', .string ⟨#[]⟩, .int .i64 0]) (by simp [results, Tryz.results82, go_sem, d0, d1, d2]) rfl ?_
        rw [HC.out]
        exact mv_ends HMV.out.own HMV.out.lo0 HMV.out.hi1 (by omega) hapx HMV.out.bel _ _ _ HET.out
    · obtain ⟨rfl, hmv, hc0, hc1⟩ := hst
      have HC : Hid (gcRun X R steps bi = eraseAns (gcTo X R lb).nd bi) := by
        show _ = _
        have e := HRL.out
        have h := gcRun_all (X := X) (R := R) (steps := steps) (b := bi) (by omega) (by rw [e]; exact hc0)
        rw [e] at h; exact h
      have HET := Lib.hid (ans_eta _ (erase_data (gcTo X R lb).nd bi).1)
      rw [hc1] at HET
      have HMV := Lib.hid hmv; have HKX := Lib.hid hkx
      obtain ⟨c0, -, -, c3, -, -, -, -⟩ := blk4 hmv.blk
      obtain ⟨d0, d1, d2, fd0, fd1, fd2⟩ := blk3 hkx
      clear hmv hkx KX H0 hc0 hc1
      generalize eraseAns (gcTo X R lb).nd bi = t at *
      by_cases hgo : 0 < steps - ((lb + 1 : Nat) : Int)
      · go_wp2
        refine bodyPost_ret (v := .agg #[.slice A' t.nd.length c', .string ⟨#[]⟩, .int .i64 0]) (by simp [results, Tryz.results82, go_sem, d0, d1, d2]) rfl ?_
        rw [HC.out]
        exact mv_ends HMV.out.own HMV.out.lo0 HMV.out.hi1 (by omega) hapx HMV.out.bel _ _ _ HET.out
      · go_wp2
        refine bodyPost_ret (v := .agg #[.slice A' t.nd.length c', .string ⟨#[]⟩, .int .i64 0]) (by simp [results, Tryz.results82, go_sem, d0, d1, d2]) rfl ?_
        rw [HC.out]
        exact mv_ends HMV.out.own HMV.out.lo0 HMV.out.hi1 (by omega) hapx HMV.out.bel _ _ _ HET.out
end Go.Proofs.YtfpibbhcecdbgaaGreatDoor

namespace Go.Proofs.YtfpibbhcecdbgaaGreatDoor
open Go.RowKit
open Bt (Rc)

/-- an answer with a chip, stored in its box -/
theorem ans_ends {w u : World} {lo hi b2 : Nat} {A : Option Addr} {c : Nat} {Y : List Bk} {C : Int} (hO : OwNd u lo hi A Y.length Y) (hlo : b2 < lo) (hwl : w.heap.size ≤ lo) (hhi : hi ≤ u.heap.size) (hB : Below w.heap.size w u) (h1 : w.heap.size ≤ b2) (x y z : Value) {R : NdAns} (hR : R = ⟨Y, ⟨#[]⟩, C⟩) :
    RetAns w R (.returned (.agg #[.slice A Y.length c, .string ⟨#[]⟩, .int .i64 C])) (((u.setCell ⟨b2, 0, none⟩ x).setCell ⟨b2, 1, none⟩ y).setCell ⟨b2, 2, none⟩ z) := by
  subst hR
  refine ⟨A, c, rfl, ?_, ((hB.setCell (p := ⟨b2, 0, none⟩) h1 _).setCell (p := ⟨b2, 1, none⟩) h1 _).setCell (p := ⟨b2, 2, none⟩) h1 _⟩
  refine (hO.same fun j h1 h2 => ?_).mono hwl (by simp [World.setCell]; omega)
  rw [Below.heap_setCell _ _ _ _ (by dsimp only; omega), Below.heap_setCell _ _ _ _ (by dsimp only; omega), Below.heap_setCell _ _ _ _ (by dsimp only; omega)]
theorem own_cap6 {w : World} {lo n ca size : Nat} {e : TypeId} {A : Option Addr} {xs : List Value} (h : w.ownsRow lo e size (.slice A n ca) n xs) : n ≤ ca := by
  rcases h.2 with ⟨hv, h0⟩ | ⟨g, cap, cur, hv, hb, hh, hc, -⟩
  · omega
  · simp only [Value.slice.injEq] at hv; omega
/-- the victim of a chip that mounts -/
noncomputable def vicOf (X : List Bk) : Int := (vic (fulls X (ldSz X (mntList X)) X.length)).1
/-- what Gc answers -/
noncomputable def gcAns (X : List Bk) (steps : Int) : NdAns :=
  if mntCode X ≠ 0 then ill (mntCode X) else if vicOf X = -1 then ill 6 else gcRun X (ldOf X (vicOf X) (pruneOf (mntList X))) steps (vicOf X)
theorem gcAns_code {X : List Bk} {steps : Int} (h : mntCode X ≠ 0) : gcAns X steps = ill (mntCode X) := by unfold gcAns; rw [if_pos h]
theorem gcAns_none {X : List Bk} {steps : Int} (h : mntCode X = 0) (hv : vicOf X = -1) : gcAns X steps = ill 6 := by unfold gcAns; rw [if_neg (by rw [h]; simp), if_pos hv]
theorem gcAns_run {X : List Bk} {steps : Int} (h : mntCode X = 0) (hv : vicOf X ≠ -1) : gcAns X steps = gcRun X (ldOf X (vicOf X) (pruneOf (mntList X))) steps (vicOf X) := by unfold gcAns; rw [if_neg (by rw [h]; simp), if_neg hv]
theorem gcRun_data (X : List Bk) (R : List Rc) (steps b : Int) : (gcRun X R steps b).data = ⟨#[]⟩ := by
  unfold gcRun
  split
  · exact gcTo_data _ _ _
  · split
    · exact gcTo_data _ _ _
    · exact (erase_data _ _).1
theorem ld_right {X : List Bk} (h : mntCode X = 0) (b : Int) : ∀ r ∈ ldOf X b (pruneOf (mntList X)), r.Ok := fun r hr => by
  obtain ⟨ho, he, -⟩ := mnt_zero h
  have h1 := prune_mem (List.mem_filter.1 hr).1
  rw [he] at h1
  exact (mnt_upto ho X.length (Nat.le_refl _)).2 r h1
theorem gc_keep {u w' : World} {b0 g bn n lo hi : Nat} {e0 : TypeId} {A B : Option Addr} {m c d lb : Nat} {f : Nat → Value} (h0 : IsBlk u b0 e0 [.slice A m c]) (h1 : Row u g n f) (hb : bn < n) (hf : f bn = .slice B lb d) (hl : b0 < lo) (hg : hi ≤ g) (hbt : Btw lo hi u w') :
    w'.cell? ⟨b0, 0, none⟩ = some (.slice A m c) ∧ w'.cell? ⟨g, bn, none⟩ = some (.slice B lb d) ∧ Hid (Btw lo hi u w') :=
  ⟨IsBlk.cell (show IsBlk w' b0 e0 [.slice A m c] from (hbt.block b0 h0.lt (.inl hl)).trans h0) rfl, by rw [← hf]; exact (h1.same (hbt.block g h1.lt (.inr hg))).cell hb, hbt⟩
theorem gc_of {u w' : World} {b0 g bn lo hi : Nat} {A B : Option Addr} {m c d lb : Nat} (h : w'.cell? ⟨b0, 0, none⟩ = some (.slice A m c) ∧ w'.cell? ⟨g, bn, none⟩ = some (.slice B lb d) ∧ Hid (Btw lo hi u w')) : Btw lo hi u w' := h.2.2.out

set_option maxHeartbeats 8000000 in
set_option maxRecDepth 100000 in
theorem impl_gc (A : Option Addr) (n ca : Nat) (X : List Bk) (steps : Int) (a0 a1 a2 : Addr) (w : World) (hG : ErrType w) (hS : Sents w a0 a1 a2) (hX : Small X) (hA : RdBk w w.heap.size A n X) (hst : steps ≤ 9223372036854775807) :
    Calls Tryz.prog 22 #[.agg #[.slice A n ca], .int .i64 steps] w (RetAns w (gcAns X steps)) := by
  have HL := Lib.hid hA.1
  have HA := Lib.hid hA; have HX := Lib.hid hX; have HS := Lib.hid hS; have HG := Lib.hid hG; clear hA hX hS hG
  go_enter Tryz.func22, Tryz.ntmps22
  go_wp2_with fail
  have hb0 : Below w.heap.size w ((w.alloc (.cells #[.slice A n ca] 28)).alloc (.cells #[.slice none 0 0, .string ⟨#[]⟩, .int .i64 0] 30)) := ((Below.refl _ _).alloc (Nat.le_refl _) _).alloc (by simp) _
  have k0 := (isBlk_new w 28 [.slice A n ca]).alloc (.cells #[.slice none 0 0, .string ⟨#[]⟩, .int .i64 0] 30)
  have k1 := isBlk_new (w.alloc (.cells #[.slice A n ca] 28)) 30 [.slice none 0 0, .string ⟨#[]⟩, .int .i64 0]
  change IsBlk ((w.alloc (.cells #[.slice A n ca] 28)).alloc (.cells #[.slice none 0 0, .string ⟨#[]⟩, .int .i64 0] 30)) _ _ _ at k0 k1
  rw [size_alloc] at k1
  generalize (w.alloc (.cells #[.slice A n ca] 28)).alloc (.cells #[.slice none 0 0, .string ⟨#[]⟩, .int .i64 0] 30) = W at hb0 k0 k1 ⊢
  refine (mounted_any A n ca X a0 a2 W (HG.out.below hb0) (HS.out.two.below hb0) HX.out (rd_step HA.out hb0)).mono ?_
  rintro e w2 ⟨Ar, cr, rfl, hcr, ho2, hb2⟩
  have hI := error_iface
  have HB3 := Lib.hid ((bel_step hb0 hb2).alloc (bel_step hb0 hb2).size (.cells #[.slice Ar (mntList X).length cr] 60))
  have HK3 := Lib.hid ((k0.below hb2 k0.lt).alloc (.cells #[.slice Ar (mntList X).length cr] 60))
  have HR3 := Lib.hid ((k1.below hb2 k1.lt).alloc (.cells #[.slice Ar (mntList X).length cr] 60))
  have HH3 := Lib.hid (isBlk_new w2 60 [.slice Ar (mntList X).length cr])
  have HO3 := Lib.hid (ho2.below (box_below w2 (.cells #[.slice Ar (mntList X).length cr] 60)) (Nat.le_refl _))
  have hs3 := size_alloc w2 (.cells #[.slice Ar (mntList X).length cr] 60)
  have HCR := Lib.hid hcr
  have hW2 := hb2.size
  have hwW : w.heap.size + 1 < W.heap.size := k1.lt
  clear hb0 k0 k1 hb2 ho2 hcr
  change Hid (IsBlk (w2.alloc (.cells #[.slice Ar (mntList X).length cr] 60)) _ _ _) at HH3
  rcases mnt_codes X with h | h | h
  · have HZ := Lib.hid h
    rw [h, errOf_0]
    clear h
    have HOK := Lib.hid (mnt_zero HZ.out).1
    have HSQ := Lib.hid (mnt_seqs HZ.out); have HSM := Lib.hid (mnt_smallL HZ.out)
    have HLS := Lib.hid (fun j => ldSz_le (X := X) (mntList_len X) j)
    have HNONE := Lib.hid (fun hv => gcAns_none (steps := steps) HZ.out hv); have HRUN := Lib.hid (fun hv => gcAns_run (steps := steps) HZ.out hv)
    have HLR := Lib.hid (fun b => ld_right HZ.out b)
    have HVF := Lib.hid (vic_fst X (ldSz X (mntList X)) X.length)
    have HLL := Lib.hid (fun b : Int => Nat.le_trans (Nat.le_trans (ldOf_len X b (pruneOf (mntList X))) (pruneOf_len (mntList X))) (mntList_len X))
    have HVO : Hid (vicOf X = (vic (fulls X (ldSz X (mntList X)) n)).1) := by show _ = _; unfold vicOf; rw [HL.out]
    have hn : n ≤ 12 := by have := HOK.out.1.2; have := HL.out; omega
    clear HZ
    generalize mntList X = Y at *
    have hx3 : (w2.alloc (.cells #[.slice Ar Y.length cr] 60)).cell? ⟨w.heap.size, 0, none⟩ = some (.slice A n ca) := HK3.out.cell rfl
    have hh3 : (w2.alloc (.cells #[.slice Ar Y.length cr] 60)).cell? ⟨w2.heap.size, 0, none⟩ = some (.slice Ar Y.length cr) := HH3.out.cell rfl
    go_wp2_with fail
    change Calls _ _ _ (w2.alloc (.cells #[.slice Ar Y.length cr] 60)) _
    generalize w2.alloc (.cells #[.slice Ar Y.length cr] 60) = w3 at HB3 HK3 HR3 HH3 HO3 hs3 ⊢
    clear hx3 hh3 hI
    refine (loadsOf_any A Ar n ca Y.length cr X Y w3 HOK.out (HG.out.below HB3.out) HSM.out HCR.out (fun r hr => (HSQ.out r hr).2) (rd_step HA.out HB3.out) (HO3.out.rd (by omega))).mono ?_
    rintro e w4 ⟨g, f, rfl, hg, hrow, hown, hb4⟩
    have HRW := Lib.hid hrow
    have HOWN : Hid (∀ j, j < n → w4.ownsRow (g + 1) 68 6 (f j) (ldSz X Y j) (rcA (ldOf X (j : Int) (pruneOf Y)))) := fun j hj => hown j hj
    have HLN : Hid (∀ j, j < n → ∃ A' c', f j = .slice A' (ldSz X Y j) c') := fun j hj => own_slice (hown j hj)
    have HB4 := Lib.hid (bel_step HB3.out hb4)
    have HK4 := Lib.hid (HK3.out.below hb4 HK3.out.lt); have HR4 := Lib.hid (HR3.out.below hb4 HR3.out.lt)
    have y4 : w4.cell? ⟨w.heap.size, 0, none⟩ = some (.slice A n ca) := HK4.out.cell rfl
    clear hrow hown hb4 HK3 HR3 HH3 HO3
    go_wp2_with fail
    refine (victimOf_any A n ca g X f (ldSz X Y) w4 HOK.out HLS.out (rd_step HA.out HB4.out) HRW.out HLN.out).mono ?_
    rintro e w5 ⟨rfl, hb5⟩
    rw [← HVO.out]
    have HB5 := Lib.hid (bel_step HB4.out hb5)
    have HRW5 := Lib.hid (HRW.out.below hb5 HRW.out.lt)
    have HOWN5 : Hid (∀ j, j < n → w5.ownsRow (g + 1) 68 6 (f j) (ldSz X Y j) (rcA (ldOf X (j : Int) (pruneOf Y)))) := fun j hj => own_belowR (HOWN.out j hj) hb5
    have HK5 := Lib.hid (HK4.out.below hb5 HK4.out.lt); have HR5 := Lib.hid (HR4.out.below hb5 HR4.out.lt)
    clear hb5 y4 HRW HOWN HK4 HR4
    have HVF' : Hid (-1 ≤ vicOf X ∧ vicOf X < (n : Int)) := by
      have h1 := HVF.out; have h2 := HL.out; have h3 := HVO.out
      rw [h2] at h1; rw [h3]; exact h1
    clear HVF HVO
    by_cases hv : vicOf X = -1
    · have HC := Lib.hid (HNONE.out hv)
      rw [hv]
      obtain ⟨d0, d1, d2, fd0, fd1, fd2⟩ := blk3 HR5.out
      clear HNONE HRUN
      go_wp2
      refine bodyPost_ret (v := .agg #[.slice none 0 0, .string ⟨#[]⟩, .int .i64 6]) (by simp [results, Tryz.results22, go_sem, d0, d1, d2]) rfl ?_
      rw [HC.out]
      exact ⟨none, 0, rfl, ow_nil _ _ _ _, ((HB5.out.setCell (p := ⟨w.heap.size + 1, 0, none⟩) (by dsimp only; omega) _).setCell (p := ⟨w.heap.size + 1, 1, none⟩) (by dsimp only; omega) _).setCell (p := ⟨w.heap.size + 1, 2, none⟩) (by dsimp only; omega) _⟩
    · have HC := Lib.hid (HRUN.out hv)
      obtain ⟨bn, hbn⟩ : ∃ bn : Nat, vicOf X = (bn : Int) := ⟨(vicOf X).toNat, by have := HVF'.out; omega⟩
      have hbnn : bn < n := by have := HVF'.out; omega
      rw [hbn] at HC ⊢
      have hvb : ((bn : Int) == -1) = false := by first | (simp; done) | (simp; omega)
      obtain ⟨Ab, cb, hfb⟩ := own_slice (HOWN5.out bn hbnn)
      have HOR : Hid (OwRc w5 (g + 1) w5.heap.size Ab (ldSz X Y bn) (ldOf X (bn : Int) (pruneOf Y))) := by
        have h := HOWN5.out bn hbnn
        rw [hfb] at h
        exact ow_of_own h
      have hcb : ldSz X Y bn ≤ cb := by
        have h := HOWN5.out bn hbnn
        rw [hfb] at h
        exact own_cap6 h
      have hl48 : ldSz X Y bn ≤ 48 := HLL.out (bn : Int)
      have HLR' := Lib.hid (HLR.out (bn : Int))
      generalize ldSz X Y bn = lb at *
      generalize ldOf X (bn : Int) (pruneOf Y) = R at *
      have HFB := Lib.hid hfb
      have hlt0 : w.heap.size < w5.heap.size := HK5.out.lt
      have hlt1 : w.heap.size + 1 < w5.heap.size := HR5.out.lt
      have hltg : g < w5.heap.size := HRW5.out.lt
      have hb0 : (0 : Int) ≤ (bn : Int) := by omega
      have hb1 : (bn : Int) < (n : Int) := by omega
      clear hfb hv hbn HNONE HRUN HOWN5 HLN HVF' HLR HLL
      have HD5 : Hid (Below w5.heap.size w5 w5.drew) := (Below.refl _ _).drew
      have HB5d := Lib.hid (bel_step HB5.out HD5.out)
      go_wp2
      go_region_held3 (fun w' => w'.cell? ⟨w.heap.size, 0, none⟩ = some (.slice A n ca) ∧ w'.cell? ⟨g, bn, none⟩ = some (.slice Ab lb cb) ∧ Hid (Btw (w.heap.size + 1) (w.heap.size + 2) w5 w'))
        (first | exact hsE | exact hsS | exact gc_keep HK5.out HRW5.out hbnn HFB.out (by omega) (by omega) (Btw.of_below (Below.refl _ _).drew) | exact gc_keep HK5.out HRW5.out hbnn HFB.out (by omega) (by omega) (Btw.of_below (Below.refl _ _)) | exact gc_keep HK5.out HRW5.out hbnn HFB.out (by omega) (by omega) ((((gc_of hsE).setCell (p := ⟨w.heap.size + 1, 0, none⟩) (.inl ⟨Nat.le_refl _, Nat.lt_succ_self _⟩) _).setCell (p := ⟨w.heap.size + 1, 1, none⟩) (.inl ⟨Nat.le_refl _, Nat.lt_succ_self _⟩) _).setCell (p := ⟨w.heap.size + 1, 2, none⟩) (.inl ⟨Nat.le_refl _, Nat.lt_succ_self _⟩) _))
        (first
          | (go_at_call 80
             refine (startMove_any A Ab n ca lb cb X (bn : Int) w5.drew HOK.out (rd_step HA.out HB5d.out)).mono ?_
             rintro e wS ⟨Az, cz, loS, bS, rfl, hmvS, hblS⟩
             have HMS := Lib.hid hmvS
             have hsS := gc_keep HK5.out HRW5.out hbnn HFB.out (lo := w.heap.size + 1) (hi := w.heap.size + 2) (by omega) (by omega) ((Btw.of_below HD5.out).trans (Btw.of_below hmvS.bel))
             clear hmvS)
          | (go_at_call 82
             refine (advance_any w5.drew wS bS Az Ab cz loS bS lb cb X R (bn : Int) steps a0 a1 a2 (HS.out.below HB5d.out) HMS.out HOK.out HLR'.out hl48 hcb ((HOR.out.below HD5.out (Nat.le_refl _)).rd (Nat.le_refl _)) hst).mono ?_
             rintro e wE ⟨A5, c5, rfl, ho5, hb5⟩
             have HOE : Hid (OwNd wE w5.heap.size wE.heap.size A5 (gcRun X R steps (bn : Int)).nd.length (gcRun X R steps (bn : Int)).nd) := ho5
             have hsE := gc_keep HK5.out HRW5.out hbnn HFB.out (lo := w.heap.size + 1) (hi := w.heap.size + 2) (by omega) (by omega) ((Btw.of_below HD5.out).trans (Btw.of_below hb5))
             have HRE : Hid (IsBlk wE (w.heap.size + 1) 30 [.slice none 0 0, .string ⟨#[]⟩, .int .i64 0]) := (hb5.block (w.heap.size + 1) hlt1).trans HR5.out
             obtain ⟨d0, d1, d2, fd0, fd1, fd2⟩ := blk3 HRE.out
             clear ho5 hb5))
      all_goals
        have hwE := (gc_of hsE).size
        have HBE := Lib.hid (HB5.out.trans (((gc_of hsE).below (by omega)).mono (by omega)))
        have HGZ := Lib.hid (gcRun_data X R steps (bn : Int))
        generalize gcRun X R steps (bn : Int) = y at *
        obtain ⟨yn, yd, yc⟩ := y
        simp only at *
        obtain rfl : yd = ⟨#[]⟩ := HGZ.out
        go_wp2
        refine bodyPost_ret (v := .agg #[.slice A5 yn.length c5, .string ⟨#[]⟩, .int .i64 yc]) (by simp [results, Tryz.results22, go_sem, d0, d1, d2]) rfl ?_
        rw [HC.out]
        exact ans_ends HOE.out (by omega) (by omega) (by omega) HBE.out (by omega) _ _ _ rfl
  · have HC := Lib.hid (gcAns_code (X := X) (steps := steps) (by rw [h]; decide))
    rw [h] at HC
    rw [h, errOf_1]
    clear h
    go_wp2_with fail
    refine (failure_inv a0 a1 a2 _ (HS.out.below HB3.out)).mono ?_
    rintro e w4 ⟨rfl, rfl⟩
    obtain ⟨d0, d1, d2, fd0, fd1, fd2⟩ := blk3 HR3.out
    go_wp2
    refine bodyPost_ret (v := .agg #[.slice none 0 0, .string ⟨#[]⟩, .int .i64 1]) (by simp [results, Tryz.results22, go_sem, d0, d1, d2]) rfl ?_
    rw [HC.out]
    exact ⟨none, 0, rfl, ow_nil _ _ _ _, ((HB3.out.setCell (p := ⟨w.heap.size + 1, 0, none⟩) (by dsimp only; omega) _).setCell (p := ⟨w.heap.size + 1, 1, none⟩) (by dsimp only; omega) _).setCell (p := ⟨w.heap.size + 1, 2, none⟩) (by dsimp only; omega) _⟩
  · have HC := Lib.hid (gcAns_code (X := X) (steps := steps) (by rw [h]; decide))
    rw [h] at HC
    rw [h, errOf_10]
    clear h
    go_wp2_with fail
    refine (failure_hist a0 a1 a2 _ (HS.out.below HB3.out)).mono ?_
    rintro e w4 ⟨rfl, rfl⟩
    obtain ⟨d0, d1, d2, fd0, fd1, fd2⟩ := blk3 HR3.out
    go_wp2
    refine bodyPost_ret (v := .agg #[.slice none 0 0, .string ⟨#[]⟩, .int .i64 10]) (by simp [results, Tryz.results22, go_sem, d0, d1, d2]) rfl ?_
    rw [HC.out]
    exact ⟨none, 0, rfl, ow_nil _ _ _ _, ((HB3.out.setCell (p := ⟨w.heap.size + 1, 0, none⟩) (by dsimp only; omega) _).setCell (p := ⟨w.heap.size + 1, 1, none⟩) (by dsimp only; omega) _).setCell (p := ⟨w.heap.size + 1, 2, none⟩) (by dsimp only; omega) _⟩
end Go.Proofs.YtfpibbhcecdbgaaGreatDoor

namespace Go.Proofs.YtfpibbhcecdbgaaGreatDoor
open Go.RowKit
open Bt (Rc)

/-- the chip after k steps -/
noncomputable def gcK (X : List Bk) (R : List Rc) (b : Int) (k : Nat) : NdAns := if k ≤ R.length then gcTo X R k else eraseAns (gcTo X R R.length).nd b
theorem gcK_le {X : List Bk} {R : List Rc} {b : Int} {k : Nat} (h : k ≤ R.length) : gcK X R b k = gcTo X R k := by unfold gcK; rw [if_pos h]
theorem gcK_end {X : List Bk} {R : List Rc} {b : Int} : gcK X R b (R.length + 1) = eraseAns (gcTo X R R.length).nd b := by unfold gcK; rw [if_neg (by omega)]
theorem gcK_data (X : List Bk) (R : List Rc) (b : Int) (k : Nat) : (gcK X R b k).data = ⟨#[]⟩ := by
  unfold gcK; split
  · exact gcTo_data _ _ _
  · exact (erase_data _ _).1
/-- where the steps end -/
theorem gcK_stop {X : List Bk} {R : List Rc} {steps b : Int} {k : Nat} (hk : k ≤ R.length + 1) (hs : (k : Int) ≤ steps ∨ k = 0) (hc : (gcK X R b k).code = 0) (hp : k = R.length + 1 → (gcTo X R R.length).code = 0) (he : ¬ ((k : Int) < steps ∧ (k : Int) ≤ (R.length : Int))) : gcRun X R steps b = gcK X R b k := by
  rcases Nat.lt_or_ge k (R.length + 1) with h | h
  · rw [gcK_le (by omega)] at hc ⊢
    exact gcRun_steps (by omega) (by omega) hs hc
  · obtain rfl : k = R.length + 1 := by omega
    rw [gcK_end]
    exact gcRun_all (by omega) (hp rfl)
/-- a step fails -/
theorem gcK_fails {X : List Bk} {R : List Rc} {steps b : Int} {k : Nat} (hk : k ≤ R.length) (hs : (k : Int) < steps) (h0 : (gcTo X R k).code = 0) (hc : (gcK X R b (k + 1)).code ≠ 0) : gcRun X R steps b = gcK X R b (k + 1) := by
  rcases Nat.lt_or_ge k R.length with h | h
  · rw [gcK_le (by omega)] at hc ⊢
    exact gcRun_fails (by omega) hs hc
  · obtain rfl : k = R.length := by omega
    rw [gcK_end]
    exact gcRun_all (by omega) h0
theorem gcK_ill {X : List Bk} {R : List Rc} {b : Int} {k : Nat} (h0 : (gcTo X R k).code = 0) (hk : k ≤ R.length) (hc : (gcK X R b (k + 1)).code ≠ 0) : gcK X R b (k + 1) = ill (gcK X R b (k + 1)).code := by
  rcases Nat.lt_or_ge k R.length with h | h
  · rw [gcK_le (by omega), gcTo_next h0] at hc ⊢
    exact (put_data _ _).2 hc
  · obtain rfl : k = R.length := by omega
    rw [gcK_end] at hc ⊢
    exact (erase_data _ _).2 hc
/-- the records that a load's places name -/
def recsAt (Y : List Rc) (T : List Nat) : List Rc := T.map (fun i => Y.getD i Rc.zero)
theorem recsAt_len (Y : List Rc) (T : List Nat) : (recsAt Y T).length = T.length := by simp [recsAt]
theorem recsAt_at {Y : List Rc} {T : List Nat} {k : Nat} (h : k < T.length) : (recsAt Y T).getD k Rc.zero = Y.getD (T.getD k 0) Rc.zero := by
  unfold recsAt
  rw [List.getD_eq_getElem?_getD, List.getElem?_map, List.getElem?_eq_getElem h]
  show Y.getD T[k] Rc.zero = _
  rw [List.getD_eq_getElem?_getD (l := T), List.getElem?_eq_getElem h]; rfl
theorem cell_keep {n₀ : Nat} {u w' : World} (hb : Below n₀ u w') {p : Addr} {v : Value} (hp : p.block < n₀) (h : u.cell? p = some v) : w'.cell? p = some v := (hb.cell hp).trans h
/-- what a step reads -/
abbrev St (w' : World) (Bx Bh gl k gY o : Nat) (A' B : Option Addr) (nz c' m cb : Nat) (t : Nat) (p : Rc) (n₀ : Nat) (u : World) : Prop :=
  w'.cell? ⟨Bx, 0, none⟩ = some (.slice A' nz c') ∧ w'.cell? ⟨Bh, 0, none⟩ = some (.slice B m cb) ∧ w'.cell? ⟨gl, k, none⟩ = some (.int .i64 (t : Int)) ∧ w'.cell? ⟨gY, o, none⟩ = some (.int .i64 p.k) ∧ w'.cell? ⟨gY, o + 1, none⟩ = some (.int .i64 p.s) ∧ w'.cell? ⟨gY, o + 2, none⟩ = some (.int .i64 p.q) ∧
    w'.cell? ⟨gY, o + 3, none⟩ = some (.int .i64 p.t) ∧ w'.cell? ⟨gY, o + 4, none⟩ = some (.int .i64 p.o) ∧ w'.cell? ⟨gY, o + 5, none⟩ = some (.string p.d) ∧ Hid (Below n₀ u w')
theorem st_keep {u w' : World} {Bx Bh gl k gY o : Nat} {A' B : Option Addr} {nz c' m cb t : Nat} {p : Rc} {n₀ : Nat} (h : St u Bx Bh gl k gY o A' B nz c' m cb t p n₀ u) (h1 : Bx < n₀) (h2 : Bh < n₀) (h3 : gl < n₀) (h4 : gY < n₀) (hb : Below n₀ u w') : St w' Bx Bh gl k gY o A' B nz c' m cb t p n₀ u := by
  obtain ⟨a, b, c, d, e, f, g, i, j, -⟩ := h
  exact ⟨cell_keep hb h1 a, cell_keep hb h2 b, cell_keep hb h3 c, cell_keep hb h4 d, cell_keep hb h4 e, cell_keep hb h4 f, cell_keep hb h4 g, cell_keep hb h4 i, cell_keep hb h4 j, hb⟩
theorem st_of {u w' : World} {Bx Bh gl k gY o : Nat} {A' B : Option Addr} {nz c' m cb t : Nat} {p : Rc} {n₀ : Nat} (h : St w' Bx Bh gl k gY o A' B nz c' m cb t p n₀ u) : Below n₀ u w' := h.2.2.2.2.2.2.2.2.2.out

/-- what l06Gc answers -/
noncomputable def gcMod (X : List Bk) (Y : List Rc) (L : List Int) (steps v : Int) (m : Nat) : NdAns := if v = -1 then ill 6 else gcRun X (recsAt Y (ldTo Y L v m)) steps v
set_option maxHeartbeats 16000000 in
set_option maxRecDepth 100000 in
theorem l06Gc_any (A B : Option Addr) (n ca m cb : Nat) (X : List Bk) (Y : List Rc) (steps : Int) (w : World) (hok : NdOk X) (hr : hRight Y = true) (hYO : ∀ r ∈ Y, r.Ok) (hA : RdBk w w.heap.size A n X) (hB : RdRc w w.heap.size B m Y) :
    Calls Tryz.prog 92 #[.agg #[.slice A n ca], .agg #[.slice B m cb], .int .i64 steps] w (RetAns w (gcMod X Y (sqs X n) steps (vic (fulls X (fun j => (ldTo Y (sqs X n) (j : Int) m).length) n)).1 m)) := by
  have hm48 : m ≤ 48 := by rw [← hB.1]; exact hRight_len hr
  have HML := Lib.hid hB.1
  have HVF := Lib.hid (vic_fst X (fun j => (ldTo Y (sqs X n) (j : Int) m).length) n)
  have HA := Lib.hid hA; have HB := Lib.hid hB; have HOK := Lib.hid hok; have HR := Lib.hid hr; have HYO := Lib.hid hYO
  have HVIC : Hid (∀ W : World, Below w.heap.size w W → Calls Tryz.prog 94 #[.agg #[.slice A n ca], .agg #[.slice B m cb]] W (RetVi W (vic (fulls X (fun j => (ldTo Y (sqs X n) (j : Int) m).length) n)) (fun b => ldTo Y (sqs X n) b m))) := fun W hb => l06Victim_any A B n ca m cb X Y W HOK.out HR.out (rd_step HA.out hb) (HB.out.next hb)
  clear hA hB hok hr hYO
  generalize vic (fulls X (fun j => (ldTo Y (sqs X n) (j : Int) m).length) n) = V at *
  go_enter Tryz.func92, Tryz.ntmps92
  go_wp2_with fail
  have hb0 : Below w.heap.size w (((w.alloc (.cells #[.slice A n ca] 28)).alloc (.cells #[.slice B m cb] 60)).alloc (.cells #[.slice none 0 0, .string ⟨#[]⟩, .int .i64 0] 30)) := (((Below.refl _ _).alloc (Nat.le_refl _) _).alloc (by simp) _).alloc (by simp; omega) _
  have k0 := ((isBlk_new w 28 [.slice A n ca]).alloc (.cells #[.slice B m cb] 60)).alloc (.cells #[.slice none 0 0, .string ⟨#[]⟩, .int .i64 0] 30)
  have k1 := (isBlk_new (w.alloc (.cells #[.slice A n ca] 28)) 60 [.slice B m cb]).alloc (.cells #[.slice none 0 0, .string ⟨#[]⟩, .int .i64 0] 30)
  have k2 := isBlk_new ((w.alloc (.cells #[.slice A n ca] 28)).alloc (.cells #[.slice B m cb] 60)) 30 [.slice none 0 0, .string ⟨#[]⟩, .int .i64 0]
  simp only [size_alloc] at k1 k2
  change IsBlk (((w.alloc (.cells #[.slice A n ca] 28)).alloc (.cells #[.slice B m cb] 60)).alloc (.cells #[.slice none 0 0, .string ⟨#[]⟩, .int .i64 0] 30)) _ _ _ at k0 k1 k2
  generalize ((w.alloc (.cells #[.slice A n ca] 28)).alloc (.cells #[.slice B m cb] 60)).alloc (.cells #[.slice none 0 0, .string ⟨#[]⟩, .int .i64 0] 30) = W at hb0 k0 k1 k2 ⊢
  refine (HVIC.out W hb0).mono ?_
  rintro e w2 ⟨Al, cl, l, rfl, hrl, hll, htl, hb2⟩
  have HB2 := Lib.hid (bel_step hb0 hb2)
  have HK2 := Lib.hid (k0.below hb2 k0.lt); have HH2 := Lib.hid (k1.below hb2 k1.lt); have HR2 := Lib.hid (k2.below hb2 k2.lt)
  have HRL := Lib.hid hrl; have HTL := Lib.hid htl
  have h2 : w.heap.size + 1 + 1 < w2.heap.size := HR2.out.lt
  clear hb0 k0 k1 k2 hb2 hrl htl HVIC hll
  by_cases hv : V.1 = -1
  · have HC : Hid (gcMod X Y (sqs X n) steps V.1 m = ill 6) := by show _ = _; unfold gcMod; rw [if_pos hv]
    rw [hv]
    go_wp2_with fail
    refine (l02Ill_any 6 w2).mono ?_
    rintro e w3 ⟨rfl, hb3⟩
    obtain ⟨d0, d1, d2, fd0, fd1, fd2⟩ := blk3 (HR2.out.below hb3 HR2.out.lt)
    have HB3 := Lib.hid (bel_step HB2.out hb3)
    clear hb3
    go_wp2
    refine bodyPost_ret (v := .agg #[.slice none 0 0, .string ⟨#[]⟩, .int .i64 6]) (by simp [results, Tryz.results92, go_sem, d0, d1, d2]) rfl ?_
    rw [HC.out]
    exact ⟨none, 0, rfl, ow_nil _ _ _ _, ((HB3.out.setCell (p := ⟨w.heap.size + 1 + 1, 0, none⟩) (by dsimp only; omega) _).setCell (p := ⟨w.heap.size + 1 + 1, 1, none⟩) (by dsimp only; omega) _).setCell (p := ⟨w.heap.size + 1 + 1, 2, none⟩) (by dsimp only; omega) _⟩
  have hv0 : 0 ≤ V.1 := by have := HVF.out; omega
  have hle : l = natI (ldTo Y (sqs X n) V.1 m) := HTL.out hv0
  subst hle
  obtain ⟨b, hbv⟩ : ∃ b, b = V.1 := ⟨_, rfl⟩
  rw [← hbv] at HRL hv0 ⊢
  have hnv : ¬ b < 0 := by omega
  obtain ⟨T, hT⟩ : ∃ T, T = ldTo Y (sqs X n) b m := ⟨_, rfl⟩
  have HTM : Hid (∀ i ∈ T, i < m) := fun i hi => by rw [hT] at hi; exact ldTo_mem m i hi
  have hTl : T.length ≤ 48 := by rw [hT]; have := ldTo_len Y (sqs X n) b m; omega
  rw [← hT] at HRL ⊢
  have HC : Hid (gcMod X Y (sqs X n) steps V.1 m = gcRun X (recsAt Y T) steps b) := by show _ = _; unfold gcMod; rw [if_neg hv, hT, hbv]
  clear hT hv HTL HVF hbv
  rw [natI_len] at HRL ⊢
  have HRK : Hid (∀ r ∈ recsAt Y T, r.Ok) := fun r hr => by
    obtain ⟨i, hi, rfl⟩ := List.mem_map.1 hr
    exact HYO.out _ (getD_lt (by have := HTM.out i hi; have := HML.out; omega))
  have HRLn := Lib.hid (recsAt_len Y T)
  obtain ⟨N, hN⟩ : ∃ N, N = T.length := ⟨_, rfl⟩
  have HN := Lib.hid hN
  rw [← hN] at HRL hTl HRLn ⊢
  clear hN
  have y0 : w2.cell? ⟨w.heap.size, 0, none⟩ = some (.slice A n ca) := HK2.out.cell rfl
  go_wp2_with fail
  refine (spec_l02Copy A n ca X w2 HOK.out (rd_step HA.out HB2.out)).mono ?_
  rintro e w3 ⟨Az, cz, rfl, ho3, hb3⟩
  have h23 := hb3.size
  have hb4 := box_below w3 (.cells #[.slice Az X.length cz] 28)
  have kX := isBlk_new w3 28 [.slice Az X.length cz]
  have hs4 := size_alloc w3 (.cells #[.slice Az X.length cz] 28)
  have HO4 := Lib.hid (ho3.below hb4 (Nat.le_refl _))
  have HB4 := Lib.hid (bel_step (bel_step HB2.out hb3) hb4)
  have HB24 := Lib.hid (bel_step hb3 hb4)
  clear hb3 ho3 y0
  go_wp2
  change Code.wp _ _ _ _ (w3.alloc (.cells #[.slice Az X.length cz] 28))
  change IsBlk (w3.alloc (.cells #[.slice Az X.length cz] 28)) _ _ _ at kX
  generalize w3.alloc (.cells #[.slice Az X.length cz] 28) = w4 at hb4 kX hs4 HO4 HB4 HB24 ⊢
  have HKX := Lib.hid kX
  clear hb4 kX
  go_loopw [10] (fun iv wr => ∃ (k : Nat) (A' : Option Addr) (c' lo hi : Nat), k ≤ N + 1 ∧ iv = .int .i64 (k : Nat) ∧ ((k : Int) ≤ steps ∨ k = 0) ∧ (gcK X (recsAt Y T) b k).code = 0 ∧ (gcTo X (recsAt Y T) (min k N)).code = 0 ∧ IsBlk wr w3.heap.size 28 [.slice A' (gcK X (recsAt Y T) b k).nd.length c'] ∧ OwNd wr lo hi A' (gcK X (recsAt Y T) b k).nd.length (gcK X (recsAt Y T) b k).nd ∧ (w3.heap.size < lo ∨ hi ≤ w3.heap.size) ∧ w2.heap.size ≤ lo ∧ hi ≤ wr.heap.size ∧ Below w2.heap.size w2 wr ∧ w3.heap.size < wr.heap.size) (fun iv _ => N + 1 - (intOf iv).toNat)
  case atStart =>
    refine ⟨0, Az, cz, w2.heap.size, w3.heap.size, by omega, rfl, .inr rfl, ?_, by rw [Nat.zero_min]; rfl, ?_, ?_, .inr (Nat.le_refl _), Nat.le_refl _, by omega, HB24.out, by omega⟩
    · rw [gcK_le (Nat.zero_le _)]; rfl
    · rw [gcK_le (Nat.zero_le _)]; exact HKX.out
    · rw [gcK_le (Nat.zero_le _)]; exact HO4.out
  case round =>
    obtain ⟨k, A', c', lo, hi, hk, rfl, hst, hc0, hcm, hkx, how, hap, hlo, hhi, hbel, hz⟩ := hrel
    have HKXr := Lib.hid hkx; have HOW := Lib.hid how; have HBr := Lib.hid hbel; have HBW := Lib.hid (bel_step HB2.out hbel)
    have HST := Lib.hid hst; have HC0 := Lib.hid hc0; have HCM := Lib.hid hcm
    have x0 : wr.cell? ⟨w3.heap.size, 0, none⟩ = some (.slice A' (gcK X (recsAt Y T) b k).nd.length c') := hkx.cell rfl
    have hRr := HR2.out.below hbel HR2.out.lt
    clear hkx how hst hcm
    by_cases hgo : (k : Int) < steps ∧ (k : Int) ≤ (N : Int)
    case neg =>
      have HE : Hid (gcRun X (recsAt Y T) steps b = gcK X (recsAt Y T) b k) := gcK_stop (by have := HRLn.out; omega) HST.out HC0.out (fun e => by have h1 := HCM.out; have h2 := HRLn.out; rw [h2, show N = min k N by omega]; exact h1) (by have := HRLn.out; rw [this]; exact hgo)
      have HET := Lib.hid (ans_eta _ (gcK_data X (recsAt Y T) b k))
      rw [HC0.out] at HET
      obtain ⟨d0, d1, d2, fd0, fd1, fd2⟩ := blk3 hRr
      clear hRr hc0
      generalize gcK X (recsAt Y T) b k = t at *
      by_cases hs : (k : Int) < steps
      · have hkN : ¬ (k : Int) ≤ (N : Int) := fun h => hgo ⟨hs, h⟩
        have hkN' : (N : Int) < (k : Int) := by omega
        have hkN2 : N < k := by omega
        clear hgo
        go_wp2
        refine bodyPost_ret (v := .agg #[.slice A' t.nd.length c', .string ⟨#[]⟩, .int .i64 0]) (by simp [results, Tryz.results92, go_sem, d0, d1, d2]) rfl ?_
        rw [HC.out, HE.out]
        exact ans_ends HOW.out (by omega) (by omega) hhi HBW.out (by omega) _ _ _ HET.out
      · have hs' : steps ≤ (k : Int) := by omega
        clear hgo
        go_wp2
        refine bodyPost_ret (v := .agg #[.slice A' t.nd.length c', .string ⟨#[]⟩, .int .i64 0]) (by simp [results, Tryz.results92, go_sem, d0, d1, d2]) rfl ?_
        rw [HC.out, HE.out]
        exact ans_ends HOW.out (by omega) (by omega) hhi HBW.out (by omega) _ _ _ HET.out
    obtain ⟨hs, hkN⟩ := hgo
    have hkn : k ≤ N := by omega
    have e0 : gcK X (recsAt Y T) b k = gcTo X (recsAt Y T) k := gcK_le (by have := HRLn.out; omega)
    rw [e0] at HKXr HOW HC0 x0 hc0
    have HZ := Lib.hid (gcTo_right HOK.out HRK.out k (by have := HRLn.out; omega) hc0)
    have HFAIL : Hid ((gcK X (recsAt Y T) b (k + 1)).code ≠ 0 → gcRun X (recsAt Y T) steps b = ill (gcK X (recsAt Y T) b (k + 1)).code) := fun h => (gcK_fails (by have := HRLn.out; omega) hs HC0.out h).trans (gcK_ill HC0.out (by have := HRLn.out; omega) h)
    have HB5 := Lib.hid (box_below wr (.cells #[.slice none 0 0, .string ⟨#[]⟩, .int .i64 0] 30))
    have HKY5 := Lib.hid (isBlk_new wr 30 [.slice none 0 0, .string ⟨#[]⟩, .int .i64 0])
    have HKX5 := Lib.hid (HKXr.out.alloc (.cells #[.slice none 0 0, .string ⟨#[]⟩, .int .i64 0] 30))
    have HR5 := Lib.hid (IsBlk.alloc hRr (.cells #[.slice none 0 0, .string ⟨#[]⟩, .int .i64 0] 30))
    have HOW5 := Lib.hid (HOW.out.below HB5.out hhi)
    have HB25 := Lib.hid (bel_step hbel HB5.out)
    have hs5 := size_alloc wr (.cells #[.slice none 0 0, .string ⟨#[]⟩, .int .i64 0] 30)
    have hz2 := hbel.size
    change Hid (IsBlk (wr.alloc (.cells #[.slice none 0 0, .string ⟨#[]⟩, .int .i64 0] 30)) _ _ _) at HKY5
    clear hRr e0 hbel
    by_cases hlt : k < N
    · have HNX0 : Hid (gcK X (recsAt Y T) b (k + 1) = putAns (gcTo X (recsAt Y T) k).nd 0 (bstr ((recsAt Y T).getD k Rc.zero).bytes)) := by show _ = _; rw [gcK_le (by have := HRLn.out; omega), gcTo_next HC0.out]
      have HCN : Hid ((gcK X (recsAt Y T) b (k + 1)).code = 0 → (gcTo X (recsAt Y T) (min (k + 1) N)).code = 0) := fun h => by rw [gcK_le (by have := HRLn.out; omega)] at h; rw [Nat.min_eq_left (by omega)]; exact h
      have hkT : k < T.length := by have := HN.out; omega
      have HPO := Lib.hid (HRK.out _ (getD_lt (z := Rc.zero) (show k < (recsAt Y T).length by have := HRLn.out; omega)))
      rw [recsAt_at hkT] at HNX0 HPO
      obtain ⟨i, hi'⟩ : ∃ i, i = T.getD k 0 := ⟨_, rfl⟩
      have him : i < m := by rw [hi']; exact HTM.out _ (by rw [List.getD_eq_getElem?_getD, List.getElem?_eq_getElem hkT]; exact List.getElem_mem hkT)
      obtain ⟨gl, rfl, hgl, hrT⟩ := HRL.out.2 (by omega)
      have cT : w2.cell? ⟨gl, k, none⟩ = some (.int .i64 (i : Int)) := by
        rw [hrT.cell hlt]
        unfold nmF natI
        rw [List.getD_eq_getElem?_getD, List.getElem?_map, hi', List.getD_eq_getElem?_getD, List.getElem?_eq_getElem hkT]; rfl
      obtain ⟨gY, oY, rfl, hgY, p0, p1, p2, p3, p4, p5⟩ := ((HB.out.next HB2.out)).at him
      rw [← hi'] at HNX0 HPO
      have cH : w2.cell? ⟨w.heap.size + 1, 0, none⟩ = some (.slice (some ⟨gY, oY, none⟩) m cb) := HH2.out.cell rfl
      generalize Y.getD i Rc.zero = p at *
      have HST5 : Hid (St (wr.alloc (.cells #[.slice none 0 0, .string ⟨#[]⟩, .int .i64 0] 30)) w3.heap.size (w.heap.size + 1) gl k gY (oY + i * 6) A' (some ⟨gY, oY, none⟩) (gcTo X (recsAt Y T) k).nd.length c' m cb i p wr.heap.size (wr.alloc (.cells #[.slice none 0 0, .string ⟨#[]⟩, .int .i64 0] 30))) :=
        ⟨HKX5.out.cell rfl, cell_keep HB25.out (by dsimp only; omega) cH, cell_keep HB25.out (by dsimp only; omega) cT, cell_keep HB25.out (by dsimp only; omega) p0, cell_keep HB25.out (by dsimp only; omega) p1, cell_keep HB25.out (by dsimp only; omega) p2, cell_keep HB25.out (by dsimp only; omega) p3, cell_keep HB25.out (by dsimp only; omega) p4, cell_keep HB25.out (by dsimp only; omega) p5, Below.refl _ _⟩
      clear hrT hi' cT cH p0 p1 p2 p3 p4 p5 x0
      have hi0 : (0 : Int) ≤ (i : Int) := by omega
      have him' : (i : Int) < (m : Int) := by omega
      have hk0 : (0 : Int) ≤ (k : Int) := by omega
      have hkN' : (k : Int) < (N : Int) := by omega
      go_wp2
      change Code.wp _ _ _ _ (wr.alloc (.cells #[.slice none 0 0, .string ⟨#[]⟩, .int .i64 0] 30))
      generalize (wr.alloc (.cells #[.slice none 0 0, .string ⟨#[]⟩, .int .i64 0] 30)) = w5 at HB5 HKY5 HKX5 HR5 HOW5 HB25 hs5 HST5 ⊢
      have hlx : w3.heap.size < wr.heap.size := hz
      have hlh : w.heap.size + 1 < wr.heap.size := by omega
      have hlg : gl < wr.heap.size := by omega
      have hly : gY < wr.heap.size := by omega
      have HPD := put_data (gcTo X (recsAt Y T) k).nd (bstr p.bytes)
      obtain ⟨y, hy⟩ : ∃ y, y = putAns (gcTo X (recsAt Y T) k).nd 0 (bstr p.bytes) := ⟨_, rfl⟩
      rw [← hy] at HPD HNX0
      have HY := Lib.hid hy
      obtain ⟨yn, yd, yc⟩ := y
      obtain rfl : yd = ⟨#[]⟩ := HPD.1
      have HNX := HNX0
      have HF : Hid (yc ≠ 0 → gcRun X (recsAt Y T) steps b = ill yc) := fun h => by have h1 := HFAIL.out; rw [HNX.out] at h1; exact h1 h
      have HCN' : Hid (yc = 0 → (gcTo X (recsAt Y T) (min (k + 1) N)).code = 0) := fun h => HCN.out (by rw [HNX.out]; exact h)
      clear HCN HFAIL hy HPD HNX0
      have HCN := HCN'
      clear HCN'
      go_region_held3 (fun w' => w'.cell? ⟨w3.heap.size, 0, none⟩ = some (.slice A' (gcTo X (recsAt Y T) k).nd.length c') ∧ w'.cell? ⟨w.heap.size + 1, 0, none⟩ = some (.slice (some ⟨gY, oY, none⟩) m cb) ∧ w'.cell? ⟨gl, k, none⟩ = some (.int .i64 (i : Int)) ∧ w'.cell? ⟨gY, oY + i * 6, none⟩ = some (.int .i64 p.k) ∧ w'.cell? ⟨gY, oY + i * 6 + 1, none⟩ = some (.int .i64 p.s) ∧ w'.cell? ⟨gY, oY + i * 6 + 2, none⟩ = some (.int .i64 p.q) ∧ w'.cell? ⟨gY, oY + i * 6 + 3, none⟩ = some (.int .i64 p.t) ∧ w'.cell? ⟨gY, oY + i * 6 + 4, none⟩ = some (.int .i64 p.o) ∧ w'.cell? ⟨gY, oY + i * 6 + 5, none⟩ = some (.string p.d) ∧ Hid (Below wr.heap.size w5 w'))
        (first | exact hsS | exact hsB | exact hsE | exact st_keep HST5.out hlx hlh hlg hly (Below.refl _ _).drew | exact st_keep HST5.out hlx hlh hlg hly (Below.refl _ _) | exact st_keep HST5.out hlx hlh hlg hly ((((st_of hsE).setCell (p := ⟨wr.heap.size, 0, none⟩) (Nat.le_refl _) _).setCell (p := ⟨wr.heap.size, 1, none⟩) (Nat.le_refl _) _).setCell (p := ⟨wr.heap.size, 2, none⟩) (Nat.le_refl _) _))
        (first
          | (go_at_call 126
             refine (l03Bytes_any p w5.drew HPO.out).mono ?_
             rintro e wB ⟨rfl, hbB⟩
             have HBB : Hid (Below w5.heap.size w5 wB) := ((Below.refl _ _).drew).trans hbB
             have hsB := st_keep HST5.out hlx hlh hlg hly (HBB.out.mono (by omega))
             clear hbB)
          | (go_at_call 125
             refine (l05Append_any A' (gcTo X (recsAt Y T) k).nd.length c' (gcTo X (recsAt Y T) k).nd (bstr p.bytes) 0 wB HZ.out (small_ok HZ.out) ((HOW5.out.below HBB.out (by omega)).rd (by have := HBB.out.size; omega))).mono ?_
             rintro e wE ⟨A5, c5, rfl, hoE, hbE⟩
             rw [← HY.out] at hoE ⊢
             have HBE : Hid (Below w5.heap.size w5 wE) := HBB.out.trans (hbE.mono HBB.out.size)
             have hsE := st_keep HST5.out hlx hlh hlg hly (HBE.out.mono (by omega))
             have HOE : Hid (OwNd wE w5.heap.size wE.heap.size A5 yn.length yn) := hoE.mono HBB.out.size (Nat.le_refl _)
             obtain ⟨z0, z1, z2, fz0, fz1, fz2⟩ := blk3 (HKY5.out.below HBE.out HKY5.out.lt)
             clear hoE hbE))
      all_goals
        clear z0 z1 z2 fz0 fz1 fz2
        have hlE := HBE.out.size
        have kyE : IsBlk wE wr.heap.size 30 [.slice none 0 0, .string ⟨#[]⟩, .int .i64 0] := HKY5.out.below HBE.out HKY5.out.lt
        have kxE := HKX5.out.below HBE.out HKX5.out.lt
        have krE := HR5.out.below HBE.out HR5.out.lt
        have HKY6 := Lib.hid (set3 kyE (.slice A5 yn.length c5) (.string ⟨#[]⟩) (.int .i64 yc))
        have HKX6 : Hid (IsBlk (((wE.setCell ⟨wr.heap.size, 0, none⟩ (.slice A5 yn.length c5)).setCell ⟨wr.heap.size, 1, none⟩ (.string ⟨#[]⟩)).setCell ⟨wr.heap.size, 2, none⟩ (.int .i64 yc)) w3.heap.size 28 [.slice A' (gcTo X (recsAt Y T) k).nd.length c']) := (off3 (by omega) _ _ _).trans kxE
        have HR6 : Hid (IsBlk (((wE.setCell ⟨wr.heap.size, 0, none⟩ (.slice A5 yn.length c5)).setCell ⟨wr.heap.size, 1, none⟩ (.string ⟨#[]⟩)).setCell ⟨wr.heap.size, 2, none⟩ (.int .i64 yc)) (w.heap.size + 1 + 1) 30 [.slice none 0 0, .string ⟨#[]⟩, .int .i64 0]) := (off3 (by omega) _ _ _).trans krE
        have HO6 : Hid (OwNd (((wE.setCell ⟨wr.heap.size, 0, none⟩ (.slice A5 yn.length c5)).setCell ⟨wr.heap.size, 1, none⟩ (.string ⟨#[]⟩)).setCell ⟨wr.heap.size, 2, none⟩ (.int .i64 yc)) w5.heap.size wE.heap.size A5 yn.length yn) := HOE.out.same fun j h1 h2 => off3 (by omega) _ _ _
        have HB6 : Hid (Below w2.heap.size w2 (((wE.setCell ⟨wr.heap.size, 0, none⟩ (.slice A5 yn.length c5)).setCell ⟨wr.heap.size, 1, none⟩ (.string ⟨#[]⟩)).setCell ⟨wr.heap.size, 2, none⟩ (.int .i64 yc))) := (((HB25.out.trans (HBE.out.mono (by omega))).setCell (p := ⟨wr.heap.size, 0, none⟩) (by dsimp only; omega) _).setCell (p := ⟨wr.heap.size, 1, none⟩) (by dsimp only; omega) _).setCell (p := ⟨wr.heap.size, 2, none⟩) (by dsimp only; omega) _
        have hz6 := size3 wE wr.heap.size (.slice A5 yn.length c5) (.string ⟨#[]⟩) (.int .i64 yc)
        obtain ⟨z0, z1, z2, fz0, fz1, fz2⟩ := blk3 kyE
        obtain ⟨g0, g1, g2, -, -, -⟩ := blk3 HKY6.out
        have q0 : (((wE.setCell ⟨wr.heap.size, 0, none⟩ (.slice A5 yn.length c5)).setCell ⟨wr.heap.size, 1, none⟩ (.string ⟨#[]⟩)).setCell ⟨wr.heap.size, 2, none⟩ (.int .i64 yc)).cell? ⟨w3.heap.size, 0, none⟩ = some (.slice A' (gcTo X (recsAt Y T) k).nd.length c') := HKX6.out.cell rfl
        have fq0 : (((wE.setCell ⟨wr.heap.size, 0, none⟩ (.slice A5 yn.length c5)).setCell ⟨wr.heap.size, 1, none⟩ (.string ⟨#[]⟩)).setCell ⟨wr.heap.size, 2, none⟩ (.int .i64 yc)).frozen? ⟨w3.heap.size, 0, none⟩ = false := HKX6.out.free
        clear kyE kxE krE
        by_cases hyc : yc = 0
        · subst hyc
          go_wp2
          go_roundw
          case rel =>
            refine ⟨k + 1, A5, c5, w5.heap.size, wE.heap.size, by omega, by go_num, .inl (by omega), by rw [HNX.out], HCN.out (by first | rfl | trivial), ?_, ?_, .inl (by omega), by omega, by first | (simp [World.setCell]; done) | (simp [World.setCell]; omega), HB6.out.setCell (p := ⟨w3.heap.size, 0, none⟩) (by dsimp only; omega) _, by first | (simp [World.setCell]; done) | (simp [World.setCell]; omega)⟩
            · rw [HNX.out]; exact HKX6.out.set (j := 0) _
            · rw [HNX.out]; exact HO6.out.same fun j h1 h2 => Below.heap_setCell _ _ _ _ (by dsimp only; omega)
          case measure => first | (simp [intOf]; done) | (simp [intOf]; omega)
        · have HE := Lib.hid (HF.out hyc)
          have hyc' : (yc == 0) = false := by simpa using hyc
          go_wp2_with fail
          refine (l02Ill_any yc _).mono ?_
          rintro e w8 ⟨rfl, hb8⟩
          obtain ⟨d0, d1, d2, fd0, fd1, fd2⟩ := blk3 (HR6.out.below hb8 HR6.out.lt)
          have HB8 := Lib.hid (HB2.out.trans ((HB6.out.trans (hb8.mono HB6.out.size)).mono HB2.out.size))
          clear hb8
          go_wp2
          refine bodyPost_ret (v := .agg #[.slice none 0 0, .string ⟨#[]⟩, .int .i64 yc]) (by simp [results, Tryz.results92, go_sem, d0, d1, d2]) rfl ?_
          rw [HC.out, HE.out]
          exact ⟨none, 0, rfl, ow_nil _ _ _ _, ((HB8.out.setCell (p := ⟨w.heap.size + 1 + 1, 0, none⟩) (by dsimp only; omega) _).setCell (p := ⟨w.heap.size + 1 + 1, 1, none⟩) (by dsimp only; omega) _).setCell (p := ⟨w.heap.size + 1 + 1, 2, none⟩) (by dsimp only; omega) _⟩
    · obtain rfl : k = N := by omega
      have HNX0 : Hid (gcK X (recsAt Y T) b (k + 1) = eraseAns (gcTo X (recsAt Y T) k).nd b) := by
        show _ = _
        have e := HRLn.out
        have h := gcK_end (X := X) (R := recsAt Y T) (b := b)
        rw [e] at h; exact h
      have HED := erase_data (gcTo X (recsAt Y T) k).nd b
      obtain ⟨y, hy⟩ : ∃ y, y = eraseAns (gcTo X (recsAt Y T) k).nd b := ⟨_, rfl⟩
      rw [← hy] at HED HNX0
      have HY := Lib.hid hy
      obtain ⟨yn, yd, yc⟩ := y
      obtain rfl : yd = ⟨#[]⟩ := HED.1
      have HNX := HNX0
      have HF : Hid (yc ≠ 0 → gcRun X (recsAt Y T) steps b = ill yc) := fun h => by have h1 := HFAIL.out; rw [HNX.out] at h1; exact h1 h
      have HCN : Hid (yc = 0 → (gcTo X (recsAt Y T) (min (k + 1) k)).code = 0) := fun _ => by rw [Nat.min_eq_right (by omega)]; exact HC0.out
      have x5 : (wr.alloc (.cells #[.slice none 0 0, .string ⟨#[]⟩, .int .i64 0] 30)).cell? ⟨w3.heap.size, 0, none⟩ = some (.slice A' (gcTo X (recsAt Y T) k).nd.length c') := HKX5.out.cell rfl
      clear HFAIL hy HED HNX0 x0
      go_wp2_with fail
      change Calls _ _ _ (wr.alloc (.cells #[.slice none 0 0, .string ⟨#[]⟩, .int .i64 0] 30)) _
      generalize (wr.alloc (.cells #[.slice none 0 0, .string ⟨#[]⟩, .int .i64 0] 30)) = w5 at HB5 HKY5 HKX5 HR5 HOW5 HB25 hs5 x5 ⊢
      refine (spec_erase A' (gcTo X (recsAt Y T) k).nd.length c' (gcTo X (recsAt Y T) k).nd b w5 (small_ok HZ.out) (HOW5.out.rd (by omega))).mono ?_
      rintro e wE ⟨A5, c5, rfl, hoE, hbE⟩
      rw [← HY.out] at hoE ⊢
      have HBE := Lib.hid hbE
      have HOE : Hid (OwNd wE w5.heap.size wE.heap.size A5 yn.length yn) := hoE
      clear hoE hbE x5
      have hlE := HBE.out.size
      have kyE : IsBlk wE wr.heap.size 30 [.slice none 0 0, .string ⟨#[]⟩, .int .i64 0] := HKY5.out.below HBE.out HKY5.out.lt
      have kxE := HKX5.out.below HBE.out HKX5.out.lt
      have krE := HR5.out.below HBE.out HR5.out.lt
      have HKY6 := Lib.hid (set3 kyE (.slice A5 yn.length c5) (.string ⟨#[]⟩) (.int .i64 yc))
      have HKX6 : Hid (IsBlk (((wE.setCell ⟨wr.heap.size, 0, none⟩ (.slice A5 yn.length c5)).setCell ⟨wr.heap.size, 1, none⟩ (.string ⟨#[]⟩)).setCell ⟨wr.heap.size, 2, none⟩ (.int .i64 yc)) w3.heap.size 28 [.slice A' (gcTo X (recsAt Y T) k).nd.length c']) := (off3 (by omega) _ _ _).trans kxE
      have HR6 : Hid (IsBlk (((wE.setCell ⟨wr.heap.size, 0, none⟩ (.slice A5 yn.length c5)).setCell ⟨wr.heap.size, 1, none⟩ (.string ⟨#[]⟩)).setCell ⟨wr.heap.size, 2, none⟩ (.int .i64 yc)) (w.heap.size + 1 + 1) 30 [.slice none 0 0, .string ⟨#[]⟩, .int .i64 0]) := (off3 (by omega) _ _ _).trans krE
      have HO6 : Hid (OwNd (((wE.setCell ⟨wr.heap.size, 0, none⟩ (.slice A5 yn.length c5)).setCell ⟨wr.heap.size, 1, none⟩ (.string ⟨#[]⟩)).setCell ⟨wr.heap.size, 2, none⟩ (.int .i64 yc)) w5.heap.size wE.heap.size A5 yn.length yn) := HOE.out.same fun j h1 h2 => off3 (by omega) _ _ _
      have HB6 : Hid (Below w2.heap.size w2 (((wE.setCell ⟨wr.heap.size, 0, none⟩ (.slice A5 yn.length c5)).setCell ⟨wr.heap.size, 1, none⟩ (.string ⟨#[]⟩)).setCell ⟨wr.heap.size, 2, none⟩ (.int .i64 yc))) := (((HB25.out.trans (HBE.out.mono (by omega))).setCell (p := ⟨wr.heap.size, 0, none⟩) (by dsimp only; omega) _).setCell (p := ⟨wr.heap.size, 1, none⟩) (by dsimp only; omega) _).setCell (p := ⟨wr.heap.size, 2, none⟩) (by dsimp only; omega) _
      have hz6 := size3 wE wr.heap.size (.slice A5 yn.length c5) (.string ⟨#[]⟩) (.int .i64 yc)
      obtain ⟨z0, z1, z2, fz0, fz1, fz2⟩ := blk3 kyE
      obtain ⟨g0, g1, g2, -, -, -⟩ := blk3 HKY6.out
      have q0 : (((wE.setCell ⟨wr.heap.size, 0, none⟩ (.slice A5 yn.length c5)).setCell ⟨wr.heap.size, 1, none⟩ (.string ⟨#[]⟩)).setCell ⟨wr.heap.size, 2, none⟩ (.int .i64 yc)).cell? ⟨w3.heap.size, 0, none⟩ = some (.slice A' (gcTo X (recsAt Y T) k).nd.length c') := HKX6.out.cell rfl
      have fq0 : (((wE.setCell ⟨wr.heap.size, 0, none⟩ (.slice A5 yn.length c5)).setCell ⟨wr.heap.size, 1, none⟩ (.string ⟨#[]⟩)).setCell ⟨wr.heap.size, 2, none⟩ (.int .i64 yc)).frozen? ⟨w3.heap.size, 0, none⟩ = false := HKX6.out.free
      clear kyE kxE krE
      by_cases hyc : yc = 0
      · subst hyc
        go_wp2
        go_roundw
        case rel =>
          refine ⟨k + 1, A5, c5, w5.heap.size, wE.heap.size, by omega, by go_num, .inl (by omega), by rw [HNX.out], HCN.out (by first | rfl | trivial), ?_, ?_, .inl (by omega), by omega, by first | (simp [World.setCell]; done) | (simp [World.setCell]; omega), HB6.out.setCell (p := ⟨w3.heap.size, 0, none⟩) (by dsimp only; omega) _, by first | (simp [World.setCell]; done) | (simp [World.setCell]; omega)⟩
          · rw [HNX.out]; exact HKX6.out.set (j := 0) _
          · rw [HNX.out]; exact HO6.out.same fun j h1 h2 => Below.heap_setCell _ _ _ _ (by dsimp only; omega)
        case measure => first | (simp [intOf]; done) | (simp [intOf]; omega)
      · have HE := Lib.hid (HF.out hyc)
        have hyc' : (yc == 0) = false := by simpa using hyc
        go_wp2_with fail
        refine (l02Ill_any yc _).mono ?_
        rintro e w8 ⟨rfl, hb8⟩
        obtain ⟨d0, d1, d2, fd0, fd1, fd2⟩ := blk3 (HR6.out.below hb8 HR6.out.lt)
        have HB8 := Lib.hid (HB2.out.trans ((HB6.out.trans (hb8.mono HB6.out.size)).mono HB2.out.size))
        clear hb8
        go_wp2
        refine bodyPost_ret (v := .agg #[.slice none 0 0, .string ⟨#[]⟩, .int .i64 yc]) (by simp [results, Tryz.results92, go_sem, d0, d1, d2]) rfl ?_
        rw [HC.out, HE.out]
        exact ⟨none, 0, rfl, ow_nil _ _ _ _, ((HB8.out.setCell (p := ⟨w.heap.size + 1 + 1, 0, none⟩) (by dsimp only; omega) _).setCell (p := ⟨w.heap.size + 1 + 1, 1, none⟩) (by dsimp only; omega) _).setCell (p := ⟨w.heap.size + 1 + 1, 2, none⟩) (by dsimp only; omega) _⟩

theorem gcTo_fewer {X : List Bk} (h : NdOk X) {R : List Rc} (hR : ∀ r ∈ R, r.Ok) : ∀ k, k ≤ R.length → Few (gcTo X R k).nd
  | 0, _ => few_ok h
  | k + 1, hk => by
    by_cases hc : (gcTo X R (k + 1)).code = 0
    · exact few_ok (gcTo_right h hR (k + 1) hk hc)
    · by_cases h0 : (gcTo X R k).code = 0
      · rw [gcTo_next h0] at hc ⊢
        rw [(put_data _ _).2 hc]; exact ill_few _
      · rw [gcTo, if_neg h0]; exact gcTo_fewer h hR k (by omega)
theorem gcAns_few (X : List Bk) (steps : Int) : Few (gcAns X steps).nd := by
  unfold gcAns
  split
  · exact ill_few _
  · rename_i hz
    have hz' : mntCode X = 0 := by simpa using hz
    split
    · exact ill_few _
    · have hf := fun k hk => gcTo_fewer (mnt_zero hz').1 (ld_right hz' (vicOf X)) k hk
      unfold gcRun
      split
      · exact hf _ (Nat.min_le_left _ _)
      · split
        · exact hf _ (Nat.min_le_left _ _)
        · exact eraseAns_few _ _
theorem gcAns_data (X : List Bk) (steps : Int) : (gcAns X steps).data = ⟨#[]⟩ := by
  unfold gcAns
  split
  · rfl
  · split
    · rfl
    · exact gcRun_data _ _ _ _
theorem loads_one {X : List Bk} (h : mntCode X = 0) (b : Int) : recsAt (mntList X) (ldTo (mntList X) (sqs X X.length) b (mntList X).length) = ldOf X b (pruneOf (mntList X)) := by
  obtain ⟨ho, -, hr⟩ := mnt_zero h
  have h1 := loads_agree ho (Y := mntList X) (fun r hr => ⟨(mnt_seqs h r hr).1, (mnt_seqs h r hr).2.1⟩) b (mntList X).length (Nat.le_refl _)
  rw [← pruneOf_yes hr] at h1
  exact h1
theorem gcMod_ans {X : List Bk} (h : mntCode X = 0) (steps : Int) : gcMod X (mntList X) (sqs X X.length) steps (vic (fulls X (fun j => (ldTo (mntList X) (sqs X X.length) (j : Int) (mntList X).length).length) X.length)).1 (mntList X).length = gcAns X steps := by
  have e : (fun j : Nat => (ldTo (mntList X) (sqs X X.length) (j : Int) (mntList X).length).length) = ldSz X (mntList X) := funext fun j => by
    unfold ldSz; rw [← loads_one h, recsAt_len]
  rw [e]
  show gcMod X (mntList X) (sqs X X.length) steps (vicOf X) (mntList X).length = _
  unfold gcMod gcAns
  rw [loads_one h, if_neg (c := mntCode X ≠ 0) (by rw [h]; simp)]

set_option maxHeartbeats 2000000 in
set_option maxRecDepth 100000 in
theorem spec_gc (A : Option Addr) (n ca : Nat) (X : List Bk) (steps : Int) (w : World) (hX : Small X) (hA : RdBk w w.heap.size A n X) :
    Calls Tryz.prog 21 #[.agg #[.slice A n ca], .int .i64 steps] w (RetAns w (gcAns X steps)) := by
  have HL := Lib.hid hA.1
  have HA := Lib.hid hA; have HX := Lib.hid hX; clear hA hX
  go_enter Tryz.func21, Tryz.ntmps21
  go_wp2_with fail
  have hb0 : Below w.heap.size w ((w.alloc (.cells #[.slice A n ca] 28)).alloc (.cells #[.slice none 0 0, .string ⟨#[]⟩, .int .i64 0] 30)) := ((Below.refl _ _).alloc (Nat.le_refl _) _).alloc (by simp) _
  have k0 := (isBlk_new w 28 [.slice A n ca]).alloc (.cells #[.slice none 0 0, .string ⟨#[]⟩, .int .i64 0] 30)
  have k1 := isBlk_new (w.alloc (.cells #[.slice A n ca] 28)) 30 [.slice none 0 0, .string ⟨#[]⟩, .int .i64 0]
  change IsBlk ((w.alloc (.cells #[.slice A n ca] 28)).alloc (.cells #[.slice none 0 0, .string ⟨#[]⟩, .int .i64 0] 30)) _ _ _ at k0 k1
  rw [size_alloc] at k1
  generalize (w.alloc (.cells #[.slice A n ca] 28)).alloc (.cells #[.slice none 0 0, .string ⟨#[]⟩, .int .i64 0] 30) = W at hb0 k0 k1 ⊢
  refine (spec_mount A n ca X W HX.out (rd_step HA.out hb0)).mono ?_
  rintro e w2 ⟨Ar, cr, rfl, ho2, hb2⟩
  have HB3 := Lib.hid ((bel_step hb0 hb2).alloc (bel_step hb0 hb2).size (.cells #[.slice Ar (mntList X).length cr, .int .i64 (mntCode X)] 62))
  have HK3 := Lib.hid ((k0.below hb2 k0.lt).alloc (.cells #[.slice Ar (mntList X).length cr, .int .i64 (mntCode X)] 62))
  have HR3 := Lib.hid ((k1.below hb2 k1.lt).alloc (.cells #[.slice Ar (mntList X).length cr, .int .i64 (mntCode X)] 62))
  have HH3 := Lib.hid (isBlk_new w2 62 [.slice Ar (mntList X).length cr, .int .i64 (mntCode X)])
  have HO3 := Lib.hid (ho2.below (box_below w2 (.cells #[.slice Ar (mntList X).length cr, .int .i64 (mntCode X)] 62)) (Nat.le_refl _))
  have hs3 := size_alloc w2 (.cells #[.slice Ar (mntList X).length cr, .int .i64 (mntCode X)] 62)
  have hW2 := hb2.size
  have hwW : w.heap.size + 1 < W.heap.size := k1.lt
  clear hb0 k0 k1 hb2 ho2
  change Hid (IsBlk (w2.alloc (.cells #[.slice Ar (mntList X).length cr, .int .i64 (mntCode X)] 62)) _ _ _) at HH3
  by_cases hz : mntCode X = 0
  case neg =>
    have HC := Lib.hid (gcAns_code (X := X) (steps := steps) hz)
    have hb : (mntCode X == 0) = false := by simpa using hz
    generalize mntCode X = C at *
    obtain ⟨z0, z1, -, -⟩ := blk2 HH3.out
    go_wp2_with fail
    change Calls _ _ _ (w2.alloc (.cells #[.slice Ar (mntList X).length cr, .int .i64 C] 62)) _
    generalize w2.alloc (.cells #[.slice Ar (mntList X).length cr, .int .i64 C] 62) = w3 at HB3 HK3 HR3 HH3 HO3 hs3 z0 z1 ⊢
    refine (l02Ill_any C w3).mono ?_
    rintro e w4 ⟨rfl, hb4⟩
    obtain ⟨d0, d1, d2, fd0, fd1, fd2⟩ := blk3 (HR3.out.below hb4 HR3.out.lt)
    have HB4 := Lib.hid (bel_step HB3.out hb4)
    clear hb4
    go_wp2
    refine bodyPost_ret (v := .agg #[.slice none 0 0, .string ⟨#[]⟩, .int .i64 C]) (by simp [results, Tryz.results21, go_sem, d0, d1, d2]) rfl ?_
    rw [HC.out]
    exact ⟨none, 0, rfl, ow_nil _ _ _ _, ((HB4.out.setCell (p := ⟨w.heap.size + 1, 0, none⟩) (by dsimp only; omega) _).setCell (p := ⟨w.heap.size + 1, 1, none⟩) (by dsimp only; omega) _).setCell (p := ⟨w.heap.size + 1, 2, none⟩) (by dsimp only; omega) _⟩
  have HOK := Lib.hid (mnt_zero hz).1
  have HRT := Lib.hid (mnt_zero hz).2.2
  have HYO : Hid (∀ r ∈ mntList X, r.Ok) := fun r hr => by
    obtain ⟨ho, he, -⟩ := mnt_zero hz
    rw [he] at hr
    exact (mnt_upto ho X.length (Nat.le_refl _)).2 r hr
  have HC := Lib.hid (gcMod_ans hz steps)
  rw [HL.out] at HC
  rw [hz] at HB3 HK3 HR3 HH3 HO3 hs3 ⊢
  clear hz
  generalize mntList X = Y at *
  have hx3 : (w2.alloc (.cells #[.slice Ar Y.length cr, .int .i64 0] 62)).cell? ⟨w.heap.size, 0, none⟩ = some (.slice A n ca) := HK3.out.cell rfl
  obtain ⟨z0, z1, -, -⟩ := blk2 HH3.out
  go_wp2_with fail
  change Calls _ _ _ (w2.alloc (.cells #[.slice Ar Y.length cr, .int .i64 0] 62)) _
  generalize w2.alloc (.cells #[.slice Ar Y.length cr, .int .i64 0] 62) = w3 at HB3 HK3 HR3 HH3 HO3 hs3 hx3 z0 z1 ⊢
  refine (l06Gc_any A Ar n ca Y.length cr X Y steps w3 HOK.out HRT.out HYO.out (rd_step HA.out HB3.out) (HO3.out.rd (by omega))).mono ?_
  rintro e w4 ⟨A5, c5, rfl, ho4, hb4⟩
  rw [HC.out] at ho4 ⊢
  have h34 := hb4.size
  obtain ⟨d0, d1, d2, fd0, fd1, fd2⟩ := blk3 (HR3.out.below hb4 HR3.out.lt)
  have HB4 := Lib.hid (bel_step HB3.out hb4)
  have HO4 := Lib.hid ho4
  clear ho4 hb4 hx3 z0 z1
  have HGZ := Lib.hid (gcAns_data X steps)
  generalize gcAns X steps = y at *
  obtain ⟨yn, yd, yc⟩ := y
  simp only at *
  obtain rfl : yd = ⟨#[]⟩ := HGZ.out
  go_wp2
  refine bodyPost_ret (v := .agg #[.slice A5 yn.length c5, .string ⟨#[]⟩, .int .i64 yc]) (by simp [results, Tryz.results21, go_sem, d0, d1, d2]) rfl ?_
  exact ans_ends HO4.out (by omega) (by omega) (Nat.le_refl _) HB4.out (by omega) _ _ _ rfl
end Go.Proofs.YtfpibbhcecdbgaaGreatDoor
