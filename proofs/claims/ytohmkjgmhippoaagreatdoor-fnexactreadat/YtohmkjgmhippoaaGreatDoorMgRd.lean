/-
  What the row's list of package variables gives a walk: the three sentinels of chapter 6, as they lie in memory; and that they read the same in every later world.
  What the row's list of package variables gives a walk: the handle errors.errorType and the sentinels of chapter 6 together.
  Gc, the plain mathematics: the load appended record by record, then the block erased; the chip stays valid.
  Plain mathematics of chapter 8 (drives): which are valid, and what each operation answers. No condition.
  require and attempt of the program: work that is given up by a panic, and the deferred function that recovers it.
  The checks of the operations on a drive at work.
  begin of the program: a drive at work, or the work given up.
  A drive that comes in as an argument, opened: its chip's cells, its two numbers.
  The laws' own functions over drives: size, copy, comparison, marks.
  AsOf, of the program.
  AsOf, of the program and of the document's model.
  l07Hist, DriveRight, l07Ill, l07With and l07Put of the model.
  ReadAt and Read of the program.
-/
import Derived.Test.YtohmkjgmhippoaaGreatDoorProg
import Derived.KernelRfl
import Derived.Test.YtohmkjgmhippoaaGreatDoorLgErr
import Derived.Stop.LaidErr
import Derived.LaidLaws
import Derived.LaidHandle
import Derived.Test.YtohmkjgmhippoaaGreatDoorBtGet
import Derived.Test.YtohmkjgmhippoaaGreatDoorMgChip
import Derived.Test.YtohmkjgmhippoaaGreatDoorLgMountA
import Derived.WalkKit
import Derived.WalkLawsBesides
import Derived.Defers
import Derived.Recover
import Derived.Test.YtohmkjgmhippoaaGreatDoorHsFloor
import Derived.Deep.RegionHeld2
import Derived.StillTailTactics
import Derived.Test.YtohmkjgmhippoaaGreatDoorMgMount
import Derived.Test.YtohmkjgmhippoaaGreatDoorHsLast
import Derived.Test.YtohmkjgmhippoaaGreatDoorMgNd
import Derived.Test.YtohmkjgmhippoaaGreatDoorNdUse
import Derived.Test.YtohmkjgmhippoaaGreatDoorHsTrailI
import Derived.Test.YtohmkjgmhippoaaGreatDoorHsTrailS
import Derived.Test.YtohmkjgmhippoaaGreatDoorLgMountS
import Derived.Test.YtohmkjgmhippoaaGreatDoorRcBytes
import Derived.Deep.RegionHeld3
import Derived.Deep.RegionWith
namespace Go.Proofs.YtohmkjgmhippoaaGreatDoor
open Go.RowKit

abbrev nInv : String := "loop.example/g00637/impl.errInvalid"
abbrev nRoom : String := "loop.example/g00637/impl.errNoRoom"
abbrev nHist : String := "loop.example/g00637/impl.errNoHistory"
theorem gInv : Tryz.prog.globalNamed nInv = some 0 := by kernel_rfl
theorem gRoom : Tryz.prog.globalNamed nRoom = some 2 := by kernel_rfl
theorem gHist : Tryz.prog.globalNamed nHist = some 1 := by kernel_rfl
theorem gtInv : (Tryz.prog.globals[0]?).map (·.type) = some 119 := by kernel_rfl
theorem gtRoom : (Tryz.prog.globals[2]?).map (·.type) = some 119 := by kernel_rfl
theorem gtHist : (Tryz.prog.globals[1]?).map (·.type) = some 119 := by kernel_rfl
theorem cellsES : Tryz.prog.cellsOf 339 = 1 := by kernel_rfl
theorem cellsStr : Tryz.prog.cellsOf 9 = 1 := by kernel_rfl
theorem starES : "*" ++ "errors.errorString" = "*errors.errorString" := by decide
theorem rowES (u : TypeId) (h : Tryz.prog.typeName? 3 u = some "*errors.errorString") : u = 320 :=
  typeName_ptr_named (nm := "errors.errorString") (by rw [starES]; kernel_rfl) (by kernel_rfl) (by decide) u (by rw [starES]; exact h)

/-- three sentinels of one list, over any program: three places, none met twice -/
theorem three_of_laid {P : Program} {n0 n1 n2 nm : String} {x0 x1 x2 : List UInt8} {r : List (String × DataW Unit)} {W : World} {g0 g1 g2 : Nat} {ti tp te ts : TypeId} {ms : Array (String × TypeId)} {f : Field}
    (h : laidMet P ((n0, .iface nm (.ptr (.agg [.lit (.string x0)]))) :: (n1, .iface nm (.ptr (.agg [.lit (.string x1)]))) :: (n2, .iface nm (.ptr (.agg [.lit (.string x2)]))) :: r) W)
    (hg0 : P.globalNamed n0 = some g0) (ht0 : (P.globals[g0]?).map (·.type) = some ti) (hg1 : P.globalNamed n1 = some g1) (ht1 : (P.globals[g1]?).map (·.type) = some ti) (hg2 : P.globalNamed n2 = some g2) (ht2 : (P.globals[g2]?).map (·.type) = some ti)
    (hi : P.underlying ti = some (.interface ms)) (hrow : ∀ u, P.typeName? 3 u = some nm → u = tp)
    (hp : P.underlying tp = some (.pointer te)) (he : P.underlying te = some (.struct #[f])) (hft : f.type = ts) (hfo : f.offset = 0) (hs : P.underlying ts = some .string) (hc : P.cellsOf te = 1) (hcs : P.cellsOf ts = 1) :
    ∃ a0 a1 a2 : Addr, (W.var? P n0 = some #[.iface tp (.pointer (some a0))] ∧ W.var? P n1 = some #[.iface tp (.pointer (some a1))] ∧ W.var? P n2 = some #[.iface tp (.pointer (some a2))]) ∧
      ((∃ c t, W.heap[a0.block]? = some (.cells c t (0, 0))) ∧ (∃ c t, W.heap[a1.block]? = some (.cells c t (0, 0))) ∧ (∃ c t, W.heap[a2.block]? = some (.cells c t (0, 0)))) ∧ a0 ≠ a1 ∧ a0 ≠ a2 ∧ a1 ≠ a2 := by
  obtain ⟨ps, ⟨g0', t0, ⟨l0⟩, f0, p0, q0, hg0', ht0', hv0, hd0, ⟨g1', t1, ⟨l1⟩, f1, p1, q1, hg1', ht1', hv1, hd1, ⟨g2', t2, ⟨l2⟩, f2, p2, q2, hg2', ht2', hv2, hd2, -, e2⟩, e1⟩, e0⟩, hnd, hrows⟩ := h
  obtain rfl := Option.some.inj (hg0.symm.trans hg0')
  obtain rfl := Option.some.inj (hg1.symm.trans hg1')
  obtain rfl := Option.some.inj (hg2.symm.trans hg2')
  obtain rfl := Option.some.inj (ht0.symm.trans ht0')
  obtain rfl := Option.some.inj (ht1.symm.trans ht1')
  obtain rfl := Option.some.inj (ht2.symm.trans ht2')
  subst e2
  subst e1
  subst e0
  have ok0 : ∀ u v, l0 = [.iface u v] → Value.okWide P W .any 0 u v := fun u v e => by
    subst e; exact (hrows g0 0 (by simp [MemPlace.row])).2 u v (by simpa using World.var?_cell hg0' hv0 0)
  have ok1 : ∀ u v, l1 = [.iface u v] → Value.okWide P W .any 0 u v := fun u v e => by
    subst e; exact (hrows g1 0 (by simp [MemPlace.row])).2 u v (by simpa using World.var?_cell hg1' hv1 0)
  have ok2 : ∀ u v, l2 = [.iface u v] → Value.okWide P W .any 0 u v := fun u v e => by
    subst e; exact (hrows g2 0 (by simp [MemPlace.row])).2 u v (by simpa using World.var?_cell hg2' hv2 0)
  obtain ⟨a0, s0, rfl, hc0, hs0, hz0, rfl⟩ := errorString_of_trod hi hrow hp he hft hfo hs hc hcs hd0 ok0
  obtain ⟨a1, s1, rfl, hc1, hs1, hz1, rfl⟩ := errorString_of_trod hi hrow hp he hft hfo hs hc hcs hd1 ok1
  obtain ⟨a2, s2, rfl, hc2, hs2, hz2, rfl⟩ := errorString_of_trod hi hrow hp he hft hfo hs hc hcs hd2 ok2
  refine ⟨a0, a1, a2, ⟨hv0, hv1, hv2⟩, ⟨(hrows a0.block a0.off (by simp [MemPlace.row])).1, (hrows a1.block a1.off (by simp [MemPlace.row])).1, (hrows a2.block a2.off (by simp [MemPlace.row])).1⟩, ?_, ?_, ?_⟩
  · rintro rfl; simp [MemPlace.row] at hnd
  · rintro rfl; simp [MemPlace.row] at hnd
  · rintro rfl; simp [MemPlace.row] at hnd
theorem var_first {P : Program} {W : World} {n : String} {g : Nat} {v : Value} (hg : P.globalNamed n = some g) (h : W.var? P n = some #[v]) : W.cell? ⟨g, 0, none⟩ = some v := by simpa using World.var?_cell hg h 0
theorem sents_of_laid {W : World} {x0 x1 x2 : List UInt8} {r : List (String × DataW Unit)}
    (h : laidMet Tryz.prog ((nInv, .iface "*errors.errorString" (.ptr (.agg [.lit (.string x0)]))) :: (nRoom, .iface "*errors.errorString" (.ptr (.agg [.lit (.string x1)]))) :: (nHist, .iface "*errors.errorString" (.ptr (.agg [.lit (.string x2)]))) :: r) W) :
    ∃ a0 a1 a2 : Addr, Sents W a0 a1 a2 ∧ W.var? Tryz.prog nInv = some #[.iface 320 (.pointer (some a0))] ∧ W.var? Tryz.prog nRoom = some #[.iface 320 (.pointer (some a1))] ∧ W.var? Tryz.prog nHist = some #[.iface 320 (.pointer (some a2))] := by
  obtain ⟨a0, a1, a2, ⟨h0, h1, h2⟩, ⟨b0, b1, b2⟩, n1, n2, n3⟩ := three_of_laid h gInv gtInv gRoom gtRoom gHist gtHist Tryz.underlying119 rowES Tryz.underlying320 Tryz.underlying339 rfl rfl Tryz.underlying9 cellsES cellsStr
  exact ⟨a0, a1, a2, ⟨var_first gInv h0, var_first gRoom h1, var_first gHist h2, b0, b1, b2, n1, n2, n3⟩, h0, h1, h2⟩

theorem var_below {P : Program} {W W' : World} {n : String} {cs : Array Value} (h : W.var? P n = some cs) (hb : Below W.heap.size W W') : W'.var? P n = some cs := by
  unfold World.var? at h ⊢
  cases hg : P.globalNamed n with
  | none => simp [hg] at h
  | some g =>
    simp only [hg, Option.bind_some] at h ⊢
    have hlt : g < W.heap.size := by
      rcases Nat.lt_or_ge g W.heap.size with h' | h'
      · exact h'
      · simp [Array.getElem?_eq_none h'] at h
    rw [hb.block g hlt]
    exact h
/-- the three sentinels, read as tokens -/
theorem vars_read3 {H : Type} (enc : TypeId × Value → H) {W : World} {v0 v1 v2 : Value} (h0 : W.var? Tryz.prog nInv = some #[v0]) (i0 : IsIface v0) (h1 : W.var? Tryz.prog nRoom = some #[v1]) (i1 : IsIface v1) (h2 : W.var? Tryz.prog nHist = some #[v2]) (i2 : IsIface v2) (sp : Nat → Bool) :
    DataW.TrodVars enc Tryz.prog W sp [nInv, nRoom, nHist] [tok enc v0, tok enc v1, tok enc v2] [.cell 0 0, .cell 2 0, .cell 1 0] :=
  ⟨_, _, #[v0], 1, [], _, gInv, gtInv, h0, trod_held Tryz.underlying119 i0 0, vars_read2 enc gRoom gtRoom Tryz.underlying119 h1 i1 gHist gtHist Tryz.underlying119 h2 i2 sp, rfl⟩

/-- a world in which they lie so: there is one -/
noncomputable def lowW : Nat := (World.holding Tryz.prog default ⟨#[], #[], []⟩).heap.size
noncomputable def sentWorld (os : Os) (s0 s1 s2 : ByteArray) : World :=
  let w0 := World.holding Tryz.prog os ⟨#[.cells #[.string s0] 339, .cells #[.string s1] 339, .cells #[.string s2] 339], #[], []⟩
  { w0 with heap := ((w0.heap.modify 0 fun
      | .cells _ t frozen => .cells #[.iface 320 (.pointer (some ⟨lowW, 0, none⟩))] t frozen
      | o => o).modify 2 fun
      | .cells _ t frozen => .cells #[.iface 320 (.pointer (some ⟨lowW + 1, 0, none⟩))] t frozen
      | o => o).modify 1 fun
      | .cells _ t frozen => .cells #[.iface 320 (.pointer (some ⟨lowW + 2, 0, none⟩))] t frozen
      | o => o }
end Go.Proofs.YtohmkjgmhippoaaGreatDoor

namespace Go.Proofs.YtohmkjgmhippoaaGreatDoor
open Go.RowKit

theorem hEt : Tryz.prog.globalNamed "errors.errorType" = some 3 := by kernel_rfl
theorem hRt : (Tryz.prog.cutTypes.find? (·.1 == "internal/reflectlite.rtype")).map (·.2) = some 270 := by kernel_rfl
theorem hOneRow : ((List.range 351).filter fun t => Tryz.prog.rowNamed t [101, 114, 114, 111, 114]) = [119] := by kernel_rfl
theorem hTypes : Tryz.prog.types.size = 351 := by kernel_rfl
theorem hHandle : typeHandle Tryz.prog 119 = .pointer (some ⟨4, 119, none⟩) := by kernel_rfl
/-- the handle, out of the list's part -/
theorem errType_of_handle {W : World} {d : DataW Unit} (hd : d = .iface "internal/reflectlite.rtype" (.agg [.ptr (.lit (.string [101, 114, 114, 111, 114]))])) (h : handlesMet Tryz.prog [("errors.errorType", d)] W) : ErrType W := by
  subst hd
  obtain ⟨name, u, ty, e1, e2, e3, e4, e5⟩ := h _ (List.mem_singleton.2 rfl)
  have en : name = [101, 114, 114, 111, 114] := (Option.some.inj e1).symm
  subst en
  obtain rfl := Option.some.inj (hRt.symm.trans e2)
  have hm : ty ∈ (List.range 351).filter fun t => Tryz.prog.rowNamed t [101, 114, 114, 111, 114] := List.mem_filter.2 ⟨List.mem_range.2 (by rw [← hTypes]; exact e3), e4⟩
  rw [hOneRow] at hm
  obtain rfl := List.mem_singleton.1 hm
  rw [hHandle] at e5
  exact (by simpa using World.var?_cell hEt e5 0 : W.cell? ⟨3, 0, none⟩ = some (.iface 270 (.agg #[.pointer (some ⟨4, 119, none⟩)])))

/-- two sentinels of one list, over any program -/
theorem two_of_list {P : Program} {n0 n1 nm : String} {x0 x1 : List UInt8} {r : List (String × DataW Unit)} {W : World} {g0 g1 : Nat} {ti tp te ts : TypeId} {ms : Array (String × TypeId)} {f : Field}
    (h : laidMet P ((n0, .iface nm (.ptr (.agg [.lit (.string x0)]))) :: (n1, .iface nm (.ptr (.agg [.lit (.string x1)]))) :: r) W)
    (hg0 : P.globalNamed n0 = some g0) (ht0 : (P.globals[g0]?).map (·.type) = some ti) (hg1 : P.globalNamed n1 = some g1) (ht1 : (P.globals[g1]?).map (·.type) = some ti)
    (hi : P.underlying ti = some (.interface ms)) (hrow : ∀ u, P.typeName? 3 u = some nm → u = tp)
    (hp : P.underlying tp = some (.pointer te)) (he : P.underlying te = some (.struct #[f])) (hft : f.type = ts) (hfo : f.offset = 0) (hs : P.underlying ts = some .string) (hc : P.cellsOf te = 1) (hcs : P.cellsOf ts = 1) :
    ∃ a0 a1 : Addr, W.var? P n0 = some #[.iface tp (.pointer (some a0))] ∧ W.var? P n1 = some #[.iface tp (.pointer (some a1))] := by
  obtain ⟨ps, ⟨g0', t0, ⟨l0⟩, f0, p0, q0, hg0', ht0', hv0, hd0, ⟨g1', t1, ⟨l1⟩, f1, p1, q1, hg1', ht1', hv1, hd1, -, e1⟩, e0⟩, hnd, hrows⟩ := h
  obtain rfl := Option.some.inj (hg0.symm.trans hg0')
  obtain rfl := Option.some.inj (hg1.symm.trans hg1')
  obtain rfl := Option.some.inj (ht0.symm.trans ht0')
  obtain rfl := Option.some.inj (ht1.symm.trans ht1')
  subst e1
  subst e0
  have ok0 : ∀ u v, l0 = [.iface u v] → Value.okWide P W .any 0 u v := fun u v e => by
    subst e; exact (hrows g0 0 (by simp [MemPlace.row])).2 u v (by simpa using World.var?_cell hg0' hv0 0)
  have ok1 : ∀ u v, l1 = [.iface u v] → Value.okWide P W .any 0 u v := fun u v e => by
    subst e; exact (hrows g1 0 (by simp [MemPlace.row])).2 u v (by simpa using World.var?_cell hg1' hv1 0)
  obtain ⟨a0, s0, rfl, hc0, hs0, hz0, rfl⟩ := errorString_of_trod hi hrow hp he hft hfo hs hc hcs hd0 ok0
  obtain ⟨a1, s1, rfl, hc1, hs1, hz1, rfl⟩ := errorString_of_trod hi hrow hp he hft hfo hs hc hcs hd1 ok1
  exact ⟨a0, a1, hv0, hv1⟩
theorem two_of_laid {W : World} {x0 x2 : List UInt8} {r : List (String × DataW Unit)}
    (h : laidMet Tryz.prog ((nInv, .iface "*errors.errorString" (.ptr (.agg [.lit (.string x0)]))) :: (nHist, .iface "*errors.errorString" (.ptr (.agg [.lit (.string x2)]))) :: r) W) :
    ∃ a0 a2 : Addr, Two W a0 a2 ∧ W.var? Tryz.prog nInv = some #[.iface 320 (.pointer (some a0))] ∧ W.var? Tryz.prog nHist = some #[.iface 320 (.pointer (some a2))] := by
  obtain ⟨a0, a2, h0, h2⟩ := two_of_list h gInv gtInv gHist gtHist Tryz.underlying119 rowES Tryz.underlying320 Tryz.underlying339 rfl rfl Tryz.underlying9 cellsES cellsStr
  exact ⟨a0, a2, ⟨var_first gInv h0, var_first gHist h2⟩, h0, h2⟩

/-- the sentinels, read as tokens, in the order in which the statements list them -/
theorem vars_readIH {H : Type} (enc : TypeId × Value → H) {W : World} {v0 v2 : Value} (h0 : W.var? Tryz.prog nInv = some #[v0]) (i0 : IsIface v0) (h2 : W.var? Tryz.prog nHist = some #[v2]) (i2 : IsIface v2) (sp : Nat → Bool) :
    DataW.TrodVars enc Tryz.prog W sp [nInv, nHist] [tok enc v0, tok enc v2] [.cell 0 0, .cell 1 0] :=
  vars_read2 enc gInv gtInv Tryz.underlying119 h0 i0 gHist gtHist Tryz.underlying119 h2 i2 sp
theorem vars_readIHR {H : Type} (enc : TypeId × Value → H) {W : World} {v0 v1 v2 : Value} (h0 : W.var? Tryz.prog nInv = some #[v0]) (i0 : IsIface v0) (h1 : W.var? Tryz.prog nRoom = some #[v1]) (i1 : IsIface v1) (h2 : W.var? Tryz.prog nHist = some #[v2]) (i2 : IsIface v2) (sp : Nat → Bool) :
    DataW.TrodVars enc Tryz.prog W sp [nInv, nHist, nRoom] [tok enc v0, tok enc v2, tok enc v1] [.cell 0 0, .cell 1 0, .cell 2 0] :=
  ⟨_, _, #[v0], 1, [], _, gInv, gtInv, h0, trod_held Tryz.underlying119 i0 0, vars_read2 enc gHist gtHist Tryz.underlying119 h2 i2 gRoom gtRoom Tryz.underlying119 h1 i1 sp, rfl⟩

/-- a world in which all of them lie so: there is one -/
noncomputable def bothWorld (os : Os) (s0 s1 s2 : ByteArray) : World :=
  let w0 := sentWorld os s0 s1 s2
  { w0 with heap := w0.heap.modify 3 fun
      | .cells _ t frozen => .cells #[.iface 270 (.agg #[.pointer (some ⟨4, 119, none⟩)])] t frozen
      | o => o }
end Go.Proofs.YtohmkjgmhippoaaGreatDoor

namespace Go.Proofs.YtohmkjgmhippoaaGreatDoor
open Bt (Rc)

/-- a valid chip is small -/
theorem small_ok {X : List Bk} (h : NdOk X) : Small X := by
  refine ⟨by have := h.1.2; omega, fun b hb => ?_⟩
  obtain ⟨i, hi, rfl⟩ := mem_getD hb zeroBk
  have hb := h.2 i hi
  refine ⟨by rw [hb.1]; omega, fun p hp => ?_⟩
  obtain ⟨k, hk, rfl⟩ := mem_getD hp zeroPg
  have h1 := hb.2.2 k (by rw [← hb.1]; exact hk)
  have : ¬ 60 < ((X.getD i zeroBk).pages.getD k zeroPg).data.size := fun h2 => h1 (.inl h2)
  omega
theorem getD_set {α : Type} (X : List α) (k i : Nat) (b z : α) (hk : k < X.length) : (X.set k b).getD i z = if i = k then b else X.getD i z := by
  rw [List.getD_eq_getElem?_getD, List.getD_eq_getElem?_getD, List.getElem?_set]
  by_cases e : k = i
  · subst e; simp [hk]
  · rw [if_neg e, if_neg (fun h => e h.symm)]
/-- a page more: the chip stays valid -/
theorem late_right {X : List Bk} (h : NdOk X) {k : Nat} (hk : k < X.length) (hb : (X.getD k zeroBk).bad = false) (hu : uPre (X.getD k zeroBk).pages < 4) {d : ByteArray} (hd : d.size ≤ 60) : NdOk (progLate X k d).nd := by
  unfold progLate
  rw [if_neg (by rw [hb]; simp), if_neg (by omega)]
  have hbk := h.2 k hk
  have hpo := (pgsOk_iff hbk.1).2 hbk.2.2
  refine ⟨by simpa using h.1, fun i hi => ?_⟩
  have hi' : i < X.length := by simpa using hi
  show BkOk ((X.set k _).getD i zeroBk)
  rw [getD_set _ _ _ _ _ hk]
  by_cases e : i = k
  · rw [if_pos e]
    refine ⟨by simpa using hbk.1, hbk.2.1, fun j hj hbad => ?_⟩
    have hul : uPre (X.getD k zeroBk).pages < (X.getD k zeroBk).pages.length := by rw [hbk.1]; exact hu
    have hused : ∀ i, i < uPre (X.getD k zeroBk).pages → ((X.getD k zeroBk).pages.getD i zeroPg).used = true := fun i hi => uPre_lt hi
    generalize uPre (X.getD k zeroBk).pages = u at *
    have hg : ∀ j, ((X.getD k zeroBk).pages.set u ⟨true, d⟩).getD j zeroPg = if j = u then ⟨true, d⟩ else (X.getD k zeroBk).pages.getD j zeroPg := fun j => getD_set _ _ _ _ _ hul
    unfold PgBad at hbad
    rw [hg j, hg (j - 1)] at hbad
    have hold := hbk.2.2 j hj
    unfold PgBad at hold
    by_cases ej : j = u
    · rw [if_pos ej] at hbad
      rcases hbad with h1 | h1 | h1
      · simp only at h1; omega
      · simp at h1
      · have hlt : j - 1 < u := by omega
        rw [if_neg (by omega)] at h1
        have : ((X.getD k zeroBk).pages.getD (j - 1) zeroPg).used = true := by
          rcases Nat.lt_or_ge (j - 1) u with h2 | h2
          · exact hused (j - 1) h2
          · omega
        rw [this] at h1; simp at h1
    · rw [if_neg ej] at hbad
      by_cases ej1 : j - 1 = u
      · rw [if_pos ej1] at hbad
        rcases hbad with h1 | h1 | h1
        · exact hold (.inl h1)
        · exact hold (.inr (.inl h1))
        · simp at h1
      · rw [if_neg ej1] at hbad
        exact hold hbad
  · rw [if_neg e]; exact h.2 i hi'
theorem put_right {X : List Bk} (h : NdOk X) {d : ByteArray} (hd : d.size ≤ 60) (hc : (putAns X 0 d).code = 0) : NdOk (putAns X 0 d).nd := by
  by_cases hn : nextR X 0 = -1
  · rw [putAns_full hn] at hc; cases hc
  · obtain ⟨k, hk, hkl, hb, hu⟩ := next_ready hn
    rw [putAns_at hk]
    exact late_right h hkl hb hu hd
theorem put_data (X : List Bk) (d : ByteArray) : (putAns X 0 d).data = ⟨#[]⟩ ∧ ((putAns X 0 d).code ≠ 0 → putAns X 0 d = ill (putAns X 0 d).code) := by
  by_cases hn : nextR X 0 = -1
  · rw [putAns_full hn]; exact ⟨rfl, fun _ => rfl⟩
  · obtain ⟨k, hk, hkl, hb, hu⟩ := next_ready hn
    rw [putAns_at hk]
    have := late_ok (d := d) hb hu
    exact ⟨this.2, fun h => absurd this.1 h⟩
theorem erase_data (X : List Bk) (b : Int) : (eraseAns X b).data = ⟨#[]⟩ ∧ ((eraseAns X b).code ≠ 0 → eraseAns X b = ill (eraseAns X b).code) := by
  unfold eraseAns
  split
  · exact ⟨rfl, fun _ => rfl⟩
  · split
    · exact ⟨rfl, fun _ => rfl⟩
    · split
      · exact ⟨rfl, fun _ => rfl⟩
      · exact ⟨rfl, fun h => absurd rfl h⟩
/-- the chip after the first k records of a load; a code as soon as there is one -/
noncomputable def gcTo (X : List Bk) (R : List Rc) : Nat → NdAns
  | 0 => ⟨X, ⟨#[]⟩, 0⟩
  | k + 1 => if (gcTo X R k).code = 0 then putAns (gcTo X R k).nd 0 (bstr (R.getD k Rc.zero).bytes) else gcTo X R k
theorem gcTo_next {X : List Bk} {R : List Rc} {k : Nat} (h : (gcTo X R k).code = 0) : gcTo X R (k + 1) = putAns (gcTo X R k).nd 0 (bstr (R.getD k Rc.zero).bytes) := by rw [gcTo, if_pos h]
theorem gcTo_stays {X : List Bk} {R : List Rc} {k m : Nat} (h : (gcTo X R k).code ≠ 0) (hm : k ≤ m) : gcTo X R m = gcTo X R k := by
  induction m with
  | zero => rw [show k = 0 by omega]
  | succ m ih =>
    rcases Nat.lt_or_ge k (m + 1) with h1 | h1
    · have e := ih (by omega)
      rw [gcTo, if_neg (by rw [e]; exact h), e]
    · rw [show k = m + 1 by omega]
theorem gcTo_data (X : List Bk) (R : List Rc) (k : Nat) : (gcTo X R k).data = ⟨#[]⟩ := by
  cases k with
  | zero => rfl
  | succ k =>
    rw [gcTo]
    split
    · exact (put_data _ _).1
    · exact gcTo_data X R k
theorem gcTo_right {X : List Bk} (h : NdOk X) {R : List Rc} (hR : ∀ r ∈ R, r.Ok) : ∀ k, k ≤ R.length → (gcTo X R k).code = 0 → NdOk (gcTo X R k).nd
  | 0, _, _ => h
  | k + 1, hk, hc => by
    by_cases h0 : (gcTo X R k).code = 0
    · rw [gcTo_next h0] at hc ⊢
      refine put_right (gcTo_right h hR k (by omega) h0) ?_ hc
      have := Rc.bytes_short (hR _ (getD_lt (z := Rc.zero) (show k < R.length by omega)))
      have h2 : (bstr (R.getD k Rc.zero).bytes).size = (R.getD k Rc.zero).bytes.length := by simp [bstr, ByteArray.size]
      omega
    · rw [gcTo, if_neg h0] at hc; exact absurd hc h0
/-- Gc of a load: the first steps -/
noncomputable def gcRun (X : List Bk) (R : List Rc) (steps b : Int) : NdAns :=
  if (gcTo X R (min R.length steps.toNat)).code ≠ 0 then gcTo X R (min R.length steps.toNat) else if steps ≤ (R.length : Int) then gcTo X R (min R.length steps.toNat) else eraseAns (gcTo X R (min R.length steps.toNat)).nd b
/-- the steps end with record k -/
theorem gcRun_steps {X : List Bk} {R : List Rc} {steps b : Int} {k : Nat} (hk : k ≤ R.length) (hs : steps ≤ (k : Int)) (hj : (k : Int) ≤ steps ∨ k = 0) (hc : (gcTo X R k).code = 0) : gcRun X R steps b = gcTo X R k := by
  have e : min R.length steps.toNat = k := by omega
  unfold gcRun
  rw [e, if_neg (by rw [hc]; simp), if_pos (by omega)]
theorem gcRun_fails {X : List Bk} {R : List Rc} {steps b : Int} {k : Nat} (hk : k + 1 ≤ R.length) (hs : (k : Int) < steps) (hc : (gcTo X R (k + 1)).code ≠ 0) : gcRun X R steps b = gcTo X R (k + 1) := by
  have e : k + 1 ≤ min R.length steps.toNat := by omega
  have e2 := gcTo_stays hc e
  unfold gcRun
  rw [e2, if_pos hc]
theorem gcRun_all {X : List Bk} {R : List Rc} {steps b : Int} (hs : (R.length : Int) < steps) (hc : (gcTo X R R.length).code = 0) : gcRun X R steps b = eraseAns (gcTo X R R.length).nd b := by
  have e : min R.length steps.toNat = R.length := by omega
  unfold gcRun
  rw [e, if_neg (by rw [hc]; simp), if_neg (by omega)]
end Go.Proofs.YtohmkjgmhippoaaGreatDoor

namespace Go.Proofs.YtohmkjgmhippoaaGreatDoor
open Go.RowKit
open Bt (Rc)

/-- a drive and a code: what an operation answers -/
structure Dv where
  nd : List Bk
  now : Int
  ret : Int
  code : Int
def dvIll (c : Int) : Dv := ⟨[], 0, 0, c⟩
/-- a valid drive -/
noncomputable def dvB (X : List Bk) (now ret : Int) : Bool := (rcIs 0 1000000 now && rcIs 0 1000000 ret) && (decide (mntCode X = 0) && decide ((lastR (mntList X)).t ≤ now))
/-- a drive with another chip -/
def dvWith (now ret : Int) (a : NdAns) : Dv := if a.code = 0 then ⟨a.nd, now, ret, 0⟩ else dvIll a.code
/-- a record as it is logged -/
def dvRec (Y : List Rc) (now : Int) (r : Rc) : Rc := ⟨r.k, r.s, (lastR Y).q + 1, now, r.o, r.d⟩
noncomputable def dvPut (X : List Bk) (now ret : Int) (r : Rc) : Dv :=
  if 1000000 ≤ (lastR (mntList X)).q ∨ 48 ≤ (mntList X).length then dvIll 9 else dvWith now ret (putAns X 1 (bstr (dvRec (mntList X) now r).bytes))
/-- what is asked of a valid drive alone -/
noncomputable def dvOn (X : List Bk) (now ret : Int) (R : Dv) : Dv := if dvB X now ret = true then R else dvIll 1
def tickIn (X : List Bk) (now ret bye : Int) : Dv := if 0 ≤ bye ∧ bye ≤ 1000000 - now then ⟨X, now + bye, ret, 0⟩ else dvIll 1
noncomputable def trimIn (X : List Bk) (now ret s : Int) : Dv := if rcIs 0 5 s = true then dvPut X now ret ⟨2, s, 0, 0, 0, ⟨#[]⟩⟩ else dvIll 1
noncomputable def writeIn (X : List Bk) (now ret s : Int) (d : ByteArray) : Dv := if rcIs 0 5 s = true ∧ d.size ≤ 16 then dvPut X now ret ⟨1, s, 0, 0, 0, d⟩ else dvIll 1
noncomputable def rollIn (X : List Bk) (now ret a : Int) : Dv :=
  if 0 ≤ a ∧ a ≤ now then (if a < floorR (mntList X) then dvIll 12 else dvPut X now ret ⟨3, 0, 0, 0, a, ⟨#[]⟩⟩) else dvIll 1
noncomputable def raiseIn (X : List Bk) (now ret : Int) : Dv := if now - ret ≤ floorR (mntList X) then dvIll 10 else dvPut X now ret ⟨4, 0, 0, 0, now - ret, ⟨#[]⟩⟩
noncomputable def dvTick (X : List Bk) (now ret bye : Int) : Dv := dvOn X now ret (tickIn X now ret bye)
noncomputable def dvTrim (X : List Bk) (now ret s : Int) : Dv := dvOn X now ret (trimIn X now ret s)
noncomputable def dvWrite (X : List Bk) (now ret s : Int) (d : ByteArray) : Dv := if 8000 < d.size then dvIll 2 else dvOn X now ret (writeIn X now ret s d)
noncomputable def dvRoll (X : List Bk) (now ret a : Int) : Dv := dvOn X now ret (rollIn X now ret a)
noncomputable def dvRaise (X : List Bk) (now ret : Int) : Dv := dvOn X now ret (raiseIn X now ret)
noncomputable def dvRestart (X : List Bk) (now ret : Int) : Dv := dvOn X now ret ⟨X, now, ret, 0⟩
theorem dvB_code {X : List Bk} {now ret : Int} (h : mntCode X ≠ 0) : dvB X now ret = false := by
  unfold dvB; rw [decide_eq_false h]; simp
theorem dvB_ok {X : List Bk} {now ret : Int} (h : mntCode X = 0) : dvB X now ret = (rcIs 0 1000000 now && rcIs 0 1000000 ret && decide ((lastR (mntList X)).t ≤ now)) := by
  unfold dvB; rw [decide_eq_true h]; simp
theorem dvB_yes {X : List Bk} {now ret : Int} (h : dvB X now ret = true) : mntCode X = 0 ∧ rcIs 0 1000000 now = true ∧ rcIs 0 1000000 ret = true ∧ (lastR (mntList X)).t ≤ now := by
  unfold dvB at h; simp only [Bool.and_eq_true, decide_eq_true_eq] at h; exact ⟨h.2.1, h.1.1, h.1.2, h.2.2⟩

theorem blk4 {w : World} {b : Nat} {e : TypeId} {v0 v1 v2 v3 : Value} (h : IsBlk w b e [v0, v1, v2, v3]) :
    w.cell? ⟨b, 0, none⟩ = some v0 ∧ w.cell? ⟨b, 1, none⟩ = some v1 ∧ w.cell? ⟨b, 2, none⟩ = some v2 ∧ w.cell? ⟨b, 3, none⟩ = some v3 ∧
    w.frozen? ⟨b, 0, none⟩ = false ∧ w.frozen? ⟨b, 1, none⟩ = false ∧ w.frozen? ⟨b, 2, none⟩ = false ∧ w.frozen? ⟨b, 3, none⟩ = false :=
  ⟨h.cell rfl, h.cell rfl, h.cell rfl, h.cell rfl, h.free, h.free, h.free, h.free⟩
/-- what a function that answers with a drive and a code gives back -/
def RetDv (w : World) (R : Dv) (e : Ending) (w' : World) : Prop :=
  ∃ (A : Option Addr) (c : Nat), e = .returned (.agg #[.slice A R.nd.length c, .int .i64 R.now, .int .i64 R.ret, .int .i64 R.code]) ∧ OwNd w' w.heap.size w'.heap.size A R.nd.length R.nd ∧ Below w.heap.size w w'
end Go.Proofs.YtohmkjgmhippoaaGreatDoor

namespace Go.Proofs.YtohmkjgmhippoaaGreatDoor
open Go.RowKit

/-- the panic of a violation -/
def viol (c : Int) : List PanicEntry := [{ v := .iface 116 (.int .i64 c), recovered := false }]

theorem require_yes (c : Int) (w : World) : Calls Tryz.prog 67 #[.bool true, .int .i64 c] w fun e w' => e = .returned (.tuple #[]) ∧ w = w' := by
  go_enter Tryz.func67, Tryz.ntmps67
  go_wp2
  go_end0
  exact ⟨rfl, rfl⟩
theorem require_no (c : Int) (w : World) : Calls Tryz.prog 67 #[.bool false, .int .i64 c] w fun e w' => e = .panicked (viol c) ∧ w = w' := by
  go_enter Tryz.func67, Tryz.ntmps67
  go_wp2
  exact ⟨rfl, rfl, rfl⟩
/-- both ways at once -/
theorem require_any (b : Bool) (c : Int) (w : World) : Calls Tryz.prog 67 #[.bool b, .int .i64 c] w fun e w' => (if b = true then e = .returned (.tuple #[]) else e = .panicked (viol c)) ∧ w = w' := by
  cases b with
  | true => exact (require_yes c w).mono fun e w' h => ⟨by rw [if_pos rfl]; exact h.1, h.2⟩
  | false => exact (require_no c w).mono fun e w' h => ⟨by rw [if_neg (by simp)]; exact h.1, h.2⟩

theorem as_none (w : World) : (Instr.typeAssert .nilIface 20 116 true).run Tryz.prog w = .ok (.tuple #[.int .i64 0, .bool false]) w := by kernel_rfl
theorem as_viol (v : Value) (w : World) : (Instr.typeAssert (.iface 116 v) 20 116 true).run Tryz.prog w = .ok (.tuple #[v, .bool true]) w := by kernel_rfl

theorem catch_idle (p : Addr) (w : World) :
    CallsD Tryz.prog 81 #[.pointer (some p)] .returning w fun e u' w' => e = .returned (.tuple #[]) ∧ u' = .returning ∧ w' = w := by
  refine callsD_of_wpS Tryz.func81 rfl fun c₀ cs hu => ?_
  apply wpS_seq
  apply wpS_region
  simp [wpOpsS, go_sem, recoverD, hu, Tryz.ntmps81, Exit.thenS, as_none]
  apply wpS_seq
  apply wpS_region
  simp [wpOpsS, go_sem, Exit.thenS]
  refine wpS_cond (t := false) (by simp [Act.eval, Array.replicate]) ?_
  simp only [Bool.false_eq_true, if_false]
  refine wpS_of_wp (wp_skip ?_)
  cases c₀
  simp_all [bodyPostS, results, Tryz.results81]

theorem catch_hit (p : Addr) (x c : Int) (w : World) (hc : w.cell? p = some (.int .i64 x)) (hz : w.frozen? p = false) :
    CallsD Tryz.prog 81 #[.pointer (some p)] (.panicking (viol c)) w fun e u' w' =>
      e = .returned (.tuple #[]) ∧ u' = .panicking [{ v := .iface 116 (.int .i64 c), recovered := true }] ∧ w' = w.setCell p (.int .i64 c) := by
  refine callsD_of_wpS Tryz.func81 rfl fun c₀ cs hu => ?_
  unfold viol at hu
  apply wpS_seq
  apply wpS_region
  simp [wpOpsS, go_sem, recoverD, hu, Tryz.ntmps81, Exit.thenS, as_viol]
  apply wpS_seq
  apply wpS_region
  simp [wpOpsS, go_sem, Exit.thenS]
  refine wpS_cond (t := true) (by simp [Act.eval, Array.replicate]) ?_
  simp only [if_true]
  apply wpS_region
  simp [wpOpsS, go_sem, hc, hz, bodyPostS, results, Tryz.results81]

set_option maxRecDepth 100000 in
/-- attempt at work that returns, or is given up with a code: the code is what it answers; the work's world behind it, the code's own box set -/
theorem attempt_any (f : Nat) (first cap : Array Value) (w : World) (R : Int → World → Prop) (hf : ∀ W : World, (callFunc f (first ++ cap)).run Tryz.prog W = .ok (.enter f (first ++ cap)) W)
    (hwork : Calls Tryz.prog f (first ++ cap) (w.alloc (.cells #[.int .i64 0] 2)) fun e w' => (w'.cell? ⟨w.heap.size, 0, none⟩ = some (.int .i64 0) ∧ w'.frozen? ⟨w.heap.size, 0, none⟩ = false) ∧ ∃ c : Int, (e = .returned (.tuple #[]) ∧ c = 0 ∨ e = .panicked (viol c)) ∧ R c w') :
    Calls Tryz.prog 52 #[.func (.func f) first cap] w fun e w' => ∃ (c : Int) (u : World), e = .returned (.int .i64 c) ∧ R c u ∧ w' = u.setCell ⟨w.heap.size, 0, none⟩ (.int .i64 c) := by
  have hmf : ∀ (fn : Fn) (first cap : Array Value) (w : World), (Instr.makeFunc fn first cap).run Tryz.prog w = .ok (.func fn first cap) w := fun _ _ _ _ => rfl
  go_enter_defers Tryz.func52, Tryz.ntmps52
  go_wp2_with fail
  refine hwork.mono ?_
  rintro e u ⟨⟨g0, g1⟩, c, he, hR⟩
  rcases he with ⟨rfl, rfl⟩ | rfl
  · go_wp2_with fail
    refine leaves_cons (f := 81) (args := #[.pointer (some ⟨w.heap.size, 0, none⟩)]) (by simp) (by simp [go_sem]) ?_
    refine (catch_idle ⟨w.heap.size, 0, none⟩ _).mono ?_
    rintro e u' w'' ⟨rfl, rfl, rfl⟩
    simp only [Leaves, settle]
    refine ⟨.int .i64 0, ?_, 0, u, rfl, hR, rfl⟩
    simp [results, Tryz.results52, go_sem, g0]
  · change bodyPostD _ _ _ (Exit.panic (viol c)) _ u
    refine leaves_cons (f := 81) (args := #[.pointer (some ⟨w.heap.size, 0, none⟩)]) (by simp) (by simp [go_sem]) ?_
    refine (catch_hit ⟨w.heap.size, 0, none⟩ 0 c _ g0 g1).mono ?_
    rintro e u' w'' ⟨rfl, rfl, rfl⟩
    simp only [settle]
    refine ⟨.int .i64 c, ?_, c, u, rfl, hR, rfl⟩
    simp [results, Tryz.results52, go_sem, g0]
end Go.Proofs.YtohmkjgmhippoaaGreatDoor

namespace Go.Proofs.YtohmkjgmhippoaaGreatDoor
open Go.RowKit
open Bt (Rc)

/-- the cells of a drive at work -/
abbrev wkC (A : Option Addr) (n ca : Nat) (Ah : Option Addr) (m ch : Nat) (now ret : Int) : List Value := [.slice A n ca, .slice Ah m ch, .int .i64 now, .int .i64 ret]
/-- what a check answers: nothing, or the work given up -/
def RetChk (w : World) (c : Int) (e : Ending) (w' : World) : Prop := Below w.heap.size w w' ∧ (c = 0 ∧ e = .returned (.tuple #[]) ∨ c ≠ 0 ∧ e = .panicked (viol c))

set_option maxHeartbeats 1000000 in
set_option maxRecDepth 100000 in
theorem wkFloor_any (b : Nat) (A Ah : Option Addr) (n ca m ch : Nat) (Y : List Rc) (now ret : Int) (w : World) (hk : IsBlk w b 90 (wkC A n ca Ah m ch now ret)) (hS : SmallR Y) (hr : hRight Y = true) (hA : RdRc w w.heap.size Ah m Y) :
    Calls Tryz.prog 276 #[.pointer (some ⟨b, 0, none⟩)] w fun e w' => e = .returned (.int .i64 (floorR Y)) ∧ Below w.heap.size w w' := by
  obtain ⟨c0, c1, c2, c3, -, -, -, -⟩ := blk4 hk
  have HA := Lib.hid hA; have HS := Lib.hid hS; have HR := Lib.hid hr; clear hA hS hr hk
  go_enter Tryz.func276, Tryz.ntmps276
  go_wp2_with fail
  refine (impl_floorOf_any Ah m ch Y w HS.out HA.out).mono ?_
  rintro e w1 ⟨rfl, hb⟩
  have HB := Lib.hid hb
  have HF : Hid (floorOf Y = floorR Y) := by show floorOf Y = floorR Y; unfold floorOf; rw [if_pos HR.out]
  rw [HF.out]
  clear hb
  go_wp2
  go_ret
  exact ⟨rfl, HB.out⟩

set_option maxHeartbeats 1000000 in
set_option maxRecDepth 100000 in
theorem wkHorizon_any (b : Nat) (A Ah : Option Addr) (n ca m ch : Nat) (now ret : Int) (w : World) (hk : IsBlk w b 90 (wkC A n ca Ah m ch now ret)) (h1 : 0 ≤ now ∧ now ≤ 1000000) (h2 : 0 ≤ ret ∧ ret ≤ 1000000) :
    Calls Tryz.prog 111 #[.pointer (some ⟨b, 0, none⟩)] w fun e w' => e = .returned (.int .i64 (now - ret)) ∧ Below w.heap.size w w' := by
  obtain ⟨c0, c1, c2, c3, -, -, -, -⟩ := blk4 hk
  clear hk
  have c2' := cell_regrown c2; have c3' := cell_regrown c3
  go_enter Tryz.func111, Tryz.ntmps111
  go_wp2
  go_region
  go_wp2
  go_ret
  exact ⟨rfl, (Below.refl _ _).drew⟩

set_option maxHeartbeats 1000000 in
set_option maxRecDepth 100000 in
theorem tickChk_any (bye : Int) (b : Nat) (A Ah : Option Addr) (n ca m ch : Nat) (now ret : Int) (w : World) (hk : IsBlk w b 90 (wkC A n ca Ah m ch now ret)) (h1 : 0 ≤ now ∧ now ≤ 1000000) :
    Calls Tryz.prog 277 #[.agg #[.int .i64 bye], .pointer (some ⟨b, 0, none⟩)] w (RetChk w (if 0 ≤ bye ∧ bye ≤ 1000000 - now then 0 else 1)) := by
  obtain ⟨c0, c1, c2, c3, -, -, -, -⟩ := blk4 hk
  have hbl := hk.lt
  clear hk
  obtain ⟨c, hc⟩ : ∃ c : Int, c = if 0 ≤ bye ∧ bye ≤ 1000000 - now then 0 else 1 := ⟨_, rfl⟩
  have HE : Hid (∀ u, Below w.heap.size w u → ¬ (0 ≤ bye ∧ bye ≤ 1000000 - now) → RetChk w c (.panicked (viol 1)) u) := fun u hb h => by rw [hc, if_neg h]; exact ⟨hb, .inr ⟨by decide, rfl⟩⟩
  have HD : Hid (∀ u, Below w.heap.size w u → (0 ≤ bye ∧ bye ≤ 1000000 - now) → RetChk w c (.returned (.tuple #[])) u) := fun u hb h => by rw [hc, if_pos h]; exact ⟨hb, .inl ⟨rfl, rfl⟩⟩
  rw [← hc]
  clear hc
  have hw : IntKind.i64.wrap (1000000 - now) = 1000000 - now := by rw [IntKind.wrap_i64]; omega
  go_enter Tryz.func277, Tryz.ntmps277
  go_wp2_with fail
  have hb0 := box_below w (.cells #[.int .i64 bye] 77)
  have k0 := isBlk_new w 77 [.int .i64 bye]
  change IsBlk (w.alloc (.cells #[.int .i64 bye] 77)) _ _ _ at k0
  have d2 : (w.alloc (.cells #[.int .i64 bye] 77)).cell? ⟨b, 2, none⟩ = some (.int .i64 now) := (hb0.cell (p := ⟨b, 2, none⟩) hbl).trans c2
  generalize w.alloc (.cells #[.int .i64 bye] 77) = W at hb0 k0 d2 ⊢
  have HB0 := Lib.hid hb0
  have x0 : W.cell? ⟨w.heap.size, 0, none⟩ = some (.int .i64 bye) := k0.cell rfl
  clear hb0 k0 c0 c1 c2 c3
  by_cases g1 : 0 ≤ bye
  case neg =>
    refine wp_region_still_tail 13 (by kernel_rfl) (by kernel_rfl) ?_
    simp only [List.take_succ_cons, List.take_zero, List.drop_succ_cons, List.drop_zero]
    simp [wpStill, go_sem, x0, g1, Oper.still, Oper.stillUpon]
    go_wp2_with fail
    refine (require_no 1 _).mono ?_
    rintro e u ⟨rfl, rfl⟩
    exact ⟨rfl, HE.out _ HB0.out.drew (by omega)⟩
  by_cases g2 : bye ≤ 1000000 - now
  · refine wp_region_still_tail 13 (by kernel_rfl) (by kernel_rfl) ?_
    simp only [List.take_succ_cons, List.take_zero, List.drop_succ_cons, List.drop_zero]
    simp [wpStill, go_sem, x0, d2, g1, g2, hw, Oper.still, Oper.stillUpon]
    go_wp2_with fail
    refine (require_yes 1 _).mono ?_
    rintro e u ⟨rfl, rfl⟩
    go_wp2
    go_end0
    exact HD.out _ HB0.out.drew ⟨g1, g2⟩
  · refine wp_region_still_tail 13 (by kernel_rfl) (by kernel_rfl) ?_
    simp only [List.take_succ_cons, List.take_zero, List.drop_succ_cons, List.drop_zero]
    simp [wpStill, go_sem, x0, d2, g1, g2, hw, Oper.still, Oper.stillUpon]
    go_wp2_with fail
    refine (require_no 1 _).mono ?_
    rintro e u ⟨rfl, rfl⟩
    exact ⟨rfl, HE.out _ HB0.out.drew (by omega)⟩

set_option maxHeartbeats 1000000 in
set_option maxRecDepth 100000 in
theorem writeChk_any (s : Int) (d : ByteArray) (p : Option Addr) (w : World) (hd : d.size ≤ 2147483648) :
    Calls Tryz.prog 278 #[.agg #[.int .i64 s, .string d], .pointer p] w (RetChk w (if rcIs 0 5 s = true ∧ d.size ≤ 16 then 0 else 1)) := by
  obtain ⟨c, hc⟩ : ∃ c : Int, c = if rcIs 0 5 s = true ∧ d.size ≤ 16 then 0 else 1 := ⟨_, rfl⟩
  have HE : Hid (∀ u, Below w.heap.size w u → ¬ (rcIs 0 5 s = true ∧ d.size ≤ 16) → RetChk w c (.panicked (viol 1)) u) := fun u hb h => by rw [hc, if_neg h]; exact ⟨hb, .inr ⟨by decide, rfl⟩⟩
  have HD : Hid (∀ u, Below w.heap.size w u → (rcIs 0 5 s = true ∧ d.size ≤ 16) → RetChk w c (.returned (.tuple #[])) u) := fun u hb h => by rw [hc, if_pos h]; exact ⟨hb, .inl ⟨rfl, rfl⟩⟩
  rw [← hc]
  clear hc
  have hb0 := box_below w (.cells #[.int .i64 s, .string d] 82)
  have HB0 := Lib.hid hb0
  clear hb0
  go_enter Tryz.func278, Tryz.ntmps278
  go_wp2_with fail
  refine (isSector_any s _).mono ?_
  rintro e u ⟨rfl, rfl⟩
  by_cases g1 : rcIs 0 5 s = true
  · rw [g1]
    by_cases g2 : d.size ≤ 16
    · have g2' : (d.size : Int) ≤ 16 := by omega
      go_wp2_with fail
      refine (require_yes 1 _).mono ?_
      rintro e u ⟨rfl, rfl⟩
      go_wp2
      go_end0
      exact HD.out _ HB0.out ⟨g1, g2⟩
    · have g2' : ¬ (d.size : Int) ≤ 16 := by omega
      go_wp2_with fail
      refine (require_any _ 1 _).mono ?_
      rintro e u ⟨he, rfl⟩
      rw [if_neg (by simpa using g2')] at he
      subst he
      exact ⟨rfl, HE.out _ HB0.out (fun h => by omega)⟩
  · rw [Bool.not_eq_true] at g1
    rw [g1]
    go_wp2_with fail
    refine (require_no 1 _).mono ?_
    rintro e u ⟨rfl, rfl⟩
    exact ⟨rfl, HE.out _ HB0.out (fun h => by rw [g1] at h; exact absurd h.1 (by simp))⟩

set_option maxHeartbeats 1000000 in
set_option maxRecDepth 100000 in
theorem trimChk_any (s : Int) (p : Option Addr) (w : World) :
    Calls Tryz.prog 279 #[.agg #[.int .i64 s], .pointer p] w (RetChk w (if rcIs 0 5 s = true then 0 else 1)) := by
  obtain ⟨c, hc⟩ : ∃ c : Int, c = if rcIs 0 5 s = true then 0 else 1 := ⟨_, rfl⟩
  have HE : Hid (∀ u, Below w.heap.size w u → rcIs 0 5 s = false → RetChk w c (.panicked (viol 1)) u) := fun u hb h => by rw [hc, h, if_neg (by simp)]; exact ⟨hb, .inr ⟨by decide, rfl⟩⟩
  have HD : Hid (∀ u, Below w.heap.size w u → rcIs 0 5 s = true → RetChk w c (.returned (.tuple #[])) u) := fun u hb h => by rw [hc, if_pos h]; exact ⟨hb, .inl ⟨rfl, rfl⟩⟩
  rw [← hc]
  clear hc
  have hb0 := box_below w (.cells #[.int .i64 s] 84)
  have HB0 := Lib.hid hb0
  clear hb0
  go_enter Tryz.func279, Tryz.ntmps279
  go_wp2_with fail
  refine (isSector_any s _).mono ?_
  rintro e u ⟨rfl, rfl⟩
  by_cases g1 : rcIs 0 5 s = true
  · rw [g1]
    go_wp2_with fail
    refine (require_yes 1 _).mono ?_
    rintro e u ⟨rfl, rfl⟩
    go_wp2
    go_end0
    exact HD.out _ HB0.out g1
  · rw [Bool.not_eq_true] at g1
    rw [g1]
    go_wp2_with fail
    refine (require_no 1 _).mono ?_
    rintro e u ⟨rfl, rfl⟩
    exact ⟨rfl, HE.out _ HB0.out g1⟩

set_option maxHeartbeats 1000000 in
set_option maxRecDepth 100000 in
theorem collChk_any (v : Int) (p : Option Addr) (w : World) :
    Calls Tryz.prog 282 #[.agg #[.int .i64 v], .pointer p] w (RetChk w 0) := by
  have hb0 := box_below w (.cells #[.int .i64 v] 102)
  have HB0 := Lib.hid hb0
  clear hb0
  go_enter Tryz.func282, Tryz.ntmps282
  go_wp2
  go_end0
  exact ⟨HB0.out, .inl ⟨rfl, rfl⟩⟩

/-- a box of one cell and the drive at work, kept -/
theorem rl_keep {u w' : World} {b0 b1 : Nat} {e0 e1 : TypeId} {v0 : Value} {A B : Option Addr} {n c m d : Nat} {now ret : Int} (h0 : IsBlk u b0 e0 [v0]) (h1 : IsBlk u b1 e1 (wkC A n c B m d now ret)) (hb : Below u.heap.size u w') :
    w'.cell? ⟨b0, 0, none⟩ = some v0 ∧ w'.cell? ⟨b1, 2, none⟩ = some (.int .i64 now) ∧ Hid (Below u.heap.size u w') :=
  ⟨(h0.below hb h0.lt).cell rfl, (h1.below hb h1.lt).cell rfl, hb⟩
theorem hb_of {w w' : World} (h : Hid (Below w.heap.size w w')) : Below w.heap.size w w' := h.out
theorem rl_of {u w' : World} {a b : Prop} (h : a ∧ b ∧ Hid (Below u.heap.size u w')) : Below u.heap.size u w' := h.2.2.out

set_option maxHeartbeats 2000000 in
set_option maxRecDepth 100000 in
theorem rollChk_any (a : Int) (b : Nat) (A Ah : Option Addr) (n ca m ch : Nat) (Y : List Rc) (now ret : Int) (w : World) (hk : IsBlk w b 90 (wkC A n ca Ah m ch now ret)) (hS : SmallR Y) (hr : hRight Y = true) (hA : RdRc w w.heap.size Ah m Y) :
    Calls Tryz.prog 280 #[.agg #[.int .i64 a], .pointer (some ⟨b, 0, none⟩)] w (RetChk w (if 0 ≤ a ∧ a ≤ now then (if a < floorR Y then 12 else 0) else 1)) := by
  obtain ⟨c, hc⟩ : ∃ c : Int, c = if 0 ≤ a ∧ a ≤ now then (if a < floorR Y then 12 else 0) else 1 := ⟨_, rfl⟩
  have HE : Hid (∀ u, Below w.heap.size w u → ¬ (0 ≤ a ∧ a ≤ now) → RetChk w c (.panicked (viol 1)) u) := fun u hb h => by rw [hc, if_neg h]; exact ⟨hb, .inr ⟨by decide, rfl⟩⟩
  have HP : Hid (∀ u, Below w.heap.size w u → (0 ≤ a ∧ a ≤ now) → a < floorR Y → RetChk w c (.panicked (viol 12)) u) := fun u hb h h' => by rw [hc, if_pos h, if_pos h']; exact ⟨hb, .inr ⟨by decide, rfl⟩⟩
  have HD : Hid (∀ u, Below w.heap.size w u → (0 ≤ a ∧ a ≤ now) → ¬ a < floorR Y → RetChk w c (.returned (.tuple #[])) u) := fun u hb h h' => by rw [hc, if_pos h, if_neg h']; exact ⟨hb, .inl ⟨rfl, rfl⟩⟩
  rw [← hc]
  clear hc
  have hb0 := box_below w (.cells #[.int .i64 a] 94)
  have k0 := isBlk_new w 94 [.int .i64 a]
  change IsBlk (w.alloc (.cells #[.int .i64 a] 94)) _ _ _ at k0
  have k1 := hk.below hb0 hk.lt
  have HFL : Hid (∀ u, Below w.heap.size w u → IsBlk u b 90 (wkC A n ca Ah m ch now ret) → Calls Tryz.prog 276 #[.pointer (some ⟨b, 0, none⟩)] u fun e w' => e = .returned (.int .i64 (floorR Y)) ∧ Below u.heap.size u w') := fun u hb hu => wkFloor_any b A Ah n ca m ch Y now ret u hu hS hr ((hA.below hb).mono hb.size)
  clear hk hS hr hA
  go_enter Tryz.func280, Tryz.ntmps280
  go_wp2_with fail
  generalize w.alloc (.cells #[.int .i64 a] 94) = W at hb0 k0 k1 ⊢
  have HB0 := Lib.hid hb0; have HK0 := Lib.hid k0; have HK1 := Lib.hid k1
  have x0 : W.cell? ⟨w.heap.size, 0, none⟩ = some (.int .i64 a) := k0.cell rfl
  have d2 : W.cell? ⟨b, 2, none⟩ = some (.int .i64 now) := k1.cell rfl
  clear hb0 k0 k1
  by_cases g1 : 0 ≤ a
  case neg =>
    refine wp_region_still_tail 12 (by kernel_rfl) (by kernel_rfl) ?_
    simp only [List.take_succ_cons, List.take_zero, List.drop_succ_cons, List.drop_zero]
    simp [wpStill, go_sem, x0, g1, Oper.still, Oper.stillUpon]
    go_wp2_with fail
    refine (require_no 1 _).mono ?_
    rintro e u ⟨rfl, rfl⟩
    exact ⟨rfl, HE.out _ HB0.out.drew (by omega)⟩
  by_cases g2 : a ≤ now
  case neg =>
    refine wp_region_still_tail 12 (by kernel_rfl) (by kernel_rfl) ?_
    simp only [List.take_succ_cons, List.take_zero, List.drop_succ_cons, List.drop_zero]
    simp [wpStill, go_sem, x0, d2, g1, g2, Oper.still, Oper.stillUpon]
    go_wp2_with fail
    refine (require_no 1 _).mono ?_
    rintro e u ⟨rfl, rfl⟩
    exact ⟨rfl, HE.out _ HB0.out.drew (by omega)⟩
  refine wp_region_still_tail 12 (by kernel_rfl) (by kernel_rfl) ?_
  simp only [List.take_succ_cons, List.take_zero, List.drop_succ_cons, List.drop_zero]
  simp [wpStill, go_sem, x0, d2, g1, g2, Oper.still, Oper.stillUpon]
  go_wp2_with fail
  refine (require_yes 1 _).mono ?_
  rintro e u ⟨rfl, rfl⟩
  have HB1 := Lib.hid HB0.out.drew
  have HK2 : Hid (IsBlk W.drew w.heap.size 94 [.int .i64 a]) := HK0.out
  have HK3 : Hid (IsBlk W.drew b 90 (wkC A n ca Ah m ch now ret)) := HK1.out
  generalize W.drew = W2 at *
  clear HB0 HK0 HK1 x0 d2
  go_wp2_with fail
  go_region_held2 (fun w' => w'.cell? ⟨w.heap.size, 0, none⟩ = some (.int .i64 a) ∧ w'.cell? ⟨b, 2, none⟩ = some (.int .i64 now) ∧ Hid (Below W2.heap.size W2 w'))
      (first | assumption | exact rl_keep HK2.out HK3.out (Below.refl _ _) | exact rl_keep HK2.out HK3.out (Below.refl _ _).drew)
      (first
        | (go_at_call 276
           refine (HFL.out _ (bel_step HB1.out (rl_of (by assumption))) (HK3.out.below (rl_of (by assumption)) HK3.out.lt)).mono ?_
           rintro e u ⟨rfl, hbu⟩
           have hsu := rl_keep HK2.out HK3.out (bel_step (rl_of (by assumption)) hbu)
           clear hbu)
        | (go_at_call 67
           refine (require_any _ 12 _).mono ?_
           rintro e u ⟨he, rfl⟩
           by_cases hlt : floorR Y ≤ a
           case neg =>
             rw [if_neg (by simpa using hlt)] at he
             subst he
             exact ⟨rfl, HP.out _ (bel_step HB1.out (rl_of (by assumption))) ⟨g1, g2⟩ (by omega)⟩
           rw [if_pos (by simpa using hlt)] at he
           subst he))
  go_wp2
  go_end0
  exact HD.out _ (bel_step HB1.out (rl_of hsu)) ⟨g1, g2⟩ (by omega)

set_option maxHeartbeats 2000000 in
set_option maxRecDepth 100000 in
theorem raiseChk_any (b : Nat) (A Ah : Option Addr) (n ca m ch : Nat) (Y : List Rc) (now ret : Int) (w : World) (hk : IsBlk w b 90 (wkC A n ca Ah m ch now ret)) (h1 : 0 ≤ now ∧ now ≤ 1000000) (h2 : 0 ≤ ret ∧ ret ≤ 1000000) (hS : SmallR Y) (hr : hRight Y = true) (hA : RdRc w w.heap.size Ah m Y) :
    Calls Tryz.prog 281 #[.agg #[], .pointer (some ⟨b, 0, none⟩)] w (RetChk w (if now - ret ≤ floorR Y then 10 else 0)) := by
  obtain ⟨c, hc⟩ : ∃ c : Int, c = if now - ret ≤ floorR Y then 10 else 0 := ⟨_, rfl⟩
  have HP : Hid (∀ u, Below w.heap.size w u → now - ret ≤ floorR Y → RetChk w c (.panicked (viol 10)) u) := fun u hb h => by rw [hc, if_pos h]; exact ⟨hb, .inr ⟨by decide, rfl⟩⟩
  have HD : Hid (∀ u, Below w.heap.size w u → ¬ now - ret ≤ floorR Y → RetChk w c (.returned (.tuple #[])) u) := fun u hb h => by rw [hc, if_neg h]; exact ⟨hb, .inl ⟨rfl, rfl⟩⟩
  rw [← hc]
  clear hc
  have hb0 := box_below w (.cells #[] 96)
  have k1 := hk.below hb0 hk.lt
  have HFL : Hid (∀ u, Below w.heap.size w u → Calls Tryz.prog 276 #[.pointer (some ⟨b, 0, none⟩)] u fun e w' => e = .returned (.int .i64 (floorR Y)) ∧ Below u.heap.size u w') := fun u hb => wkFloor_any b A Ah n ca m ch Y now ret u (hk.below hb hk.lt) hS hr ((hA.below hb).mono hb.size)
  have HHZ : Hid (∀ u, Below w.heap.size w u → Calls Tryz.prog 111 #[.pointer (some ⟨b, 0, none⟩)] u fun e w' => e = .returned (.int .i64 (now - ret)) ∧ Below u.heap.size u w') := fun u hb => wkHorizon_any b A Ah n ca m ch now ret u (hk.below hb hk.lt) h1 h2
  clear hk hS hr hA h1 h2
  go_enter Tryz.func281, Tryz.ntmps281
  go_wp2_with fail
  generalize w.alloc (.cells #[] 96) = W at hb0 k1 ⊢
  have HB0 := Lib.hid hb0
  clear hb0 k1
  go_region_held2 (fun w' => Hid (Below w.heap.size w w'))
      (first | assumption | exact HB0.out | exact HB0.out.drew)
      (first
        | (go_at_call 276
           refine (HFL.out _ (hb_of (by assumption))).mono ?_
           rintro e u ⟨rfl, hbu⟩
           have hsu := Lib.hid (bel_step (hb_of (by assumption)) hbu)
           clear hbu)
        | (go_at_call 111
           refine (HHZ.out _ (hb_of (by assumption))).mono ?_
           rintro e u ⟨rfl, hbu⟩
           have hsu := Lib.hid (bel_step (hb_of (by assumption)) hbu)
           clear hbu)
        | (go_at_call 67
           refine (require_any _ 10 _).mono ?_
           rintro e u ⟨he, rfl⟩
           by_cases hlt : floorR Y < now - ret
           case neg =>
             rw [if_neg (by simpa using hlt)] at he
             subst he
             exact ⟨rfl, HP.out _ (hb_of (by assumption)) (by omega)⟩
           rw [if_pos (by simpa using hlt)] at he
           subst he))
  all_goals
    go_wp2
    go_end0
    exact HD.out _ (hb_of (by assumption)) (by omega)
end Go.Proofs.YtohmkjgmhippoaaGreatDoor

namespace Go.Proofs.YtohmkjgmhippoaaGreatDoor
open Go.RowKit
open Bt (Rc)

/-- a drive at work lies in block b: its chip, its history (owned in [lo, b)), its numbers -/
structure Work (w : World) (lo b : Nat) (A : Option Addr) (n ca : Nat) (Ah : Option Addr) (ch : Nat) (Y : List Rc) (now ret : Int) : Prop where
  blk : IsBlk w b 90 [.slice A n ca, .slice Ah Y.length ch, .int .i64 now, .int .i64 ret]
  low : lo ≤ b
  cap : Y.length ≤ ch
  own : OwRc w lo b Ah Y.length Y
/-- what begin answers -/
def RetBeg (w : World) (A : Option Addr) (n ca : Nat) (X : List Bk) (now ret : Int) (e : Ending) (w' : World) : Prop :=
  Below w.heap.size w w' ∧ (dvB X now ret = false ∧ e = .panicked (viol 1) ∨
    dvB X now ret = true ∧ ∃ (b : Nat) (Ah : Option Addr) (ch : Nat), e = .returned (.pointer (some ⟨b, 0, none⟩)) ∧ Work w' w.heap.size b A n ca Ah ch (mntList X) now ret)

theorem bg_keep {u w' : World} {b0 b1 : Nat} {e0 e1 : TypeId} {A B : Option Addr} {n c m d : Nat} {now ret : Int} (h0 : IsBlk u b0 e0 [.slice A n c, .int .i64 now, .int .i64 ret]) (h1 : IsBlk u b1 e1 [.slice B m d]) (hb : Below u.heap.size u w') :
    w'.cell? ⟨b0, 1, none⟩ = some (.int .i64 now) ∧ w'.cell? ⟨b0, 2, none⟩ = some (.int .i64 ret) ∧ w'.cell? ⟨b1, 0, none⟩ = some (.slice B m d) ∧ Hid (Below u.heap.size u w') :=
  ⟨(h0.below hb h0.lt).cell rfl, (h0.below hb h0.lt).cell rfl, (h1.below hb h1.lt).cell rfl, hb⟩
theorem bg_of {u w' : World} {a b c : Prop} (h : a ∧ b ∧ c ∧ Hid (Below u.heap.size u w')) : Below u.heap.size u w' := h.2.2.2.out

set_option maxHeartbeats 4000000 in
set_option maxRecDepth 100000 in
theorem begin_any (A : Option Addr) (n ca : Nat) (X : List Bk) (now ret : Int) (a0 a2 : Addr) (w : World) (hG : ErrType w) (hS : Two w a0 a2) (hX : Small X) (hA : RdBk w w.heap.size A n X) :
    Calls Tryz.prog 54 #[.agg #[.slice A n ca, .int .i64 now, .int .i64 ret]] w (RetBeg w A n ca X now ret) := by
  have hI := error_iface
  have HA := Lib.hid hA; have HX := Lib.hid hX; have HS := Lib.hid hS; have HG := Lib.hid hG; clear hA hX hS hG
  go_enter Tryz.func54, Tryz.ntmps54
  go_wp2_with fail
  have hb0 := box_below w (.cells #[.slice A n ca, .int .i64 now, .int .i64 ret] 33)
  have k0 := isBlk_new w 33 [.slice A n ca, .int .i64 now, .int .i64 ret]
  change IsBlk (w.alloc (.cells #[.slice A n ca, .int .i64 now, .int .i64 ret] 33)) _ _ _ at k0
  generalize w.alloc (.cells #[.slice A n ca, .int .i64 now, .int .i64 ret] 33) = W at hb0 k0 ⊢
  refine (mounted_any A n ca X a0 a2 W (HG.out.below hb0) (HS.out.below hb0) HX.out (rd_step HA.out hb0)).mono ?_
  rintro e w2 ⟨Ar, cr, rfl, hcr, ho2, hb2⟩
  have HLT : Hid (mntCode X = 0 → ∀ (U : World) (A' : Option Addr) (c' : Nat), RdRc U U.heap.size A' (mntList X).length (mntList X) → Calls Tryz.prog 84 #[.agg #[.slice A' (mntList X).length c']] U fun e w' => e = .returned (.int .i64 (lastR (mntList X)).t) ∧ Below U.heap.size U w') := fun h U A' c' hr => by
    obtain ⟨h1, h2, h3⟩ := mnt_zero h
    have := impl_lastTime_any A' (mntList X).length c' (mntList X) U (by rw [h2]; exact mnt_smallR h1) hr
    unfold lastOf at this
    rwa [if_pos h3] at this
  have HN := Lib.hid (fun h => dvB_code (X := X) (now := now) (ret := ret) h); have HY := Lib.hid (fun h => dvB_ok (X := X) (now := now) (ret := ret) h)
  have HC := Lib.hid (mnt_codes X)
  have HE : Hid (∀ u : World, Below w.heap.size w u → dvB X now ret = false → RetBeg w A n ca X now ret (.panicked (viol 1)) u) := fun u hb h => ⟨hb, .inl ⟨h, rfl⟩⟩
  have HD : Hid (∀ (u : World) (b : Nat) (Ah : Option Addr) (ch : Nat), Below w.heap.size w u → dvB X now ret = true → Work u w.heap.size b A n ca Ah ch (mntList X) now ret → RetBeg w A n ca X now ret (.returned (.pointer (some ⟨b, 0, none⟩))) u) := fun u b Ah ch hb h hw => ⟨hb, .inr ⟨h, b, Ah, ch, rfl, hw⟩⟩
  have HK2 := Lib.hid (k0.below hb2 k0.lt)
  have HB2 := Lib.hid (bel_step hb0 hb2)
  have HCR := Lib.hid hcr
  have HO2 := Lib.hid ho2
  have hW : w.heap.size < W.heap.size := k0.lt
  have h2 := hb2.size
  clear hb0 k0 hb2 ho2 hcr
  by_cases hc : mntCode X = 0
  case neg =>
    obtain ⟨x, hx⟩ : ∃ x, errOf a0 a2 (mntCode X) = .iface 320 (.pointer (some x)) := by
      rcases HC.out with h | h | h
      · exact absurd h hc
      · exact ⟨a0, by rw [h]; rfl⟩
      · exact ⟨a2, by rw [h]; rfl⟩
    rw [hx]
    have HF := Lib.hid (HN.out hc)
    clear hx hc
    generalize (mntList X).length = yl
    go_wp2_with fail
    refine (require_no 1 _).mono ?_
    rintro e u ⟨rfl, rfl⟩
    exact ⟨rfl, HE.out _ (HB2.out.alloc HB2.out.size _) HF.out⟩
  rw [hc, errOf_0]
  replace HLT := Lib.hid (HLT.out hc)
  replace HY := Lib.hid (HY.out hc)
  obtain ⟨Y, hY⟩ : ∃ Y, Y = mntList X := ⟨_, rfl⟩
  rw [← hY] at HLT HY HD HCR HO2 ⊢
  obtain ⟨yl, hyl⟩ : ∃ yl, yl = Y.length := ⟨_, rfl⟩
  have HYL := Lib.hid hyl
  rw [← hyl] at HLT HO2 ⊢
  obtain ⟨T, hT⟩ : ∃ T, T = (lastR Y).t := ⟨_, rfl⟩
  rw [← hT] at HLT HY
  clear HN HC hc hY hyl hT
  go_wp2_with fail
  refine (require_yes 1 _).mono ?_
  rintro e u ⟨rfl, rfl⟩
  have hb3 := box_below w2 (.cells #[.slice Ar yl cr] 64)
  have k3 := isBlk_new w2 64 [.slice Ar yl cr]
  have hs3 := size_alloc w2 (.cells #[.slice Ar yl cr] 64)
  change IsBlk (w2.alloc (.cells #[.slice Ar yl cr] 64)) _ _ _ at k3
  go_wp2_with fail
  generalize w2.alloc (.cells #[.slice Ar yl cr] 64) = w3 at hb3 k3 hs3 ⊢
  have HK3 := Lib.hid (HK2.out.below hb3 HK2.out.lt)
  have HH3 := Lib.hid k3
  have HB3 := Lib.hid (bel_step HB2.out hb3)
  have HO3 := Lib.hid (HO2.out.below hb3 (Nat.le_refl _))
  have h23 : w2.heap.size < w3.heap.size := k3.lt
  clear hb3 k3 HK2 HB2 HO2
  have HR3 : Hid (∀ u : World, Below w3.heap.size w3 u → Calls Tryz.prog 84 #[.agg #[.slice Ar yl cr]] u fun e w' => e = .returned (.int .i64 T) ∧ Below u.heap.size u w') := fun u hb => HLT.out u Ar cr ((HO3.out.below hb (by omega)).rd (by have := hb.size; omega))
  by_cases h1 : 0 ≤ now ∧ now ≤ 1000000
  case neg =>
    have HT1 : Hid (∀ u : World, Calls Tryz.prog 83 #[.int .i64 now] u fun e w' => e = .returned (.bool false) ∧ w' = u) := fun u => by have := isTime_any now u; rw [rcIs_no h1] at this; exact this.mono fun e w' h => ⟨h.1, h.2.symm⟩
    have HF : Hid (dvB X now ret = false) := by show _ = false; rw [HY.out, rcIs_no h1]; rfl
    clear h1
    have x1 : w3.cell? ⟨w.heap.size, 1, none⟩ = some (.int .i64 now) := HK3.out.cell rfl
    refine wp_region_still_tail 15 (by kernel_rfl) (by kernel_rfl) ?_
    simp only [List.take_succ_cons, List.take_zero, List.drop_succ_cons, List.drop_zero]
    repeat still_step
    still_call (HT1.out _)
    repeat still_step
    refine wpStill_nil ?_
    change wpList _ _ _ _ _ w3.drew
    go_wp2_with fail
    refine (require_no 1 _).mono ?_
    rintro e u ⟨rfl, rfl⟩
    exact ⟨rfl, HE.out _ HB3.out.drew HF.out⟩
  by_cases h2 : 0 ≤ ret ∧ ret ≤ 1000000
  case neg =>
    have HT1 : Hid (∀ u : World, Calls Tryz.prog 83 #[.int .i64 now] u fun e w' => e = .returned (.bool true) ∧ w' = u) := fun u => by have := isTime_any now u; rw [rcIs_yes h1] at this; exact this.mono fun e w' h => ⟨h.1, h.2.symm⟩
    have HT2 : Hid (∀ u : World, Calls Tryz.prog 83 #[.int .i64 ret] u fun e w' => e = .returned (.bool false) ∧ w' = u) := fun u => by have := isTime_any ret u; rw [rcIs_no h2] at this; exact this.mono fun e w' h => ⟨h.1, h.2.symm⟩
    have HF : Hid (dvB X now ret = false) := by show _ = false; rw [HY.out, rcIs_no h2]; simp
    clear h1 h2
    have x1 : w3.cell? ⟨w.heap.size, 1, none⟩ = some (.int .i64 now) := HK3.out.cell rfl
    have x2 : w3.cell? ⟨w.heap.size, 2, none⟩ = some (.int .i64 ret) := HK3.out.cell rfl
    refine wp_region_still_tail 15 (by kernel_rfl) (by kernel_rfl) ?_
    simp only [List.take_succ_cons, List.take_zero, List.drop_succ_cons, List.drop_zero]
    repeat still_step
    still_call (HT1.out _)
    repeat still_step
    still_call (HT2.out _)
    repeat still_step
    refine wpStill_nil ?_
    change wpList _ _ _ _ _ w3.drew
    go_wp2_with fail
    refine (require_no 1 _).mono ?_
    rintro e u ⟨rfl, rfl⟩
    exact ⟨rfl, HE.out _ HB3.out.drew HF.out⟩
  have HT1 : Hid (∀ u : World, Calls Tryz.prog 83 #[.int .i64 now] u fun e w' => e = .returned (.bool true) ∧ u = w') := fun u => by have := isTime_any now u; rwa [rcIs_yes h1] at this
  have HT2 : Hid (∀ u : World, Calls Tryz.prog 83 #[.int .i64 ret] u fun e w' => e = .returned (.bool true) ∧ u = w') := fun u => by have := isTime_any ret u; rwa [rcIs_yes h2] at this
  have HF : Hid (dvB X now ret = decide (T ≤ now)) := by show _ = _; rw [HY.out, rcIs_yes h1, rcIs_yes h2]; rfl
  clear h1 h2
  go_region_held2 (fun w' => w'.cell? ⟨w.heap.size, 1, none⟩ = some (.int .i64 now) ∧ w'.cell? ⟨w.heap.size, 2, none⟩ = some (.int .i64 ret) ∧ w'.cell? ⟨w2.heap.size, 0, none⟩ = some (.slice Ar yl cr) ∧ Hid (Below w3.heap.size w3 w'))
      (first | assumption | exact bg_keep HK3.out HH3.out (Below.refl _ _) | exact bg_keep HK3.out HH3.out (Below.refl _ _).drew)
      (first
        | (go_at_call 83
           first | refine (HT1.out _).mono ?_ | refine (HT2.out _).mono ?_
           rintro e u ⟨rfl, rfl⟩)
        | (go_at_call 84
           refine (HR3.out _ (bg_of (by assumption))).mono ?_
           rintro e u ⟨rfl, hbu⟩
           have hsu := bg_keep HK3.out HH3.out (bel_step (bg_of (by assumption)) hbu)
           clear hbu)
        | (go_at_call 67
           refine (require_any _ 1 _).mono ?_
           rintro e u ⟨he, rfl⟩
           by_cases hlt : T ≤ now
           case neg =>
             rw [if_neg (by simpa using hlt)] at he
             subst he
             exact ⟨rfl, HE.out _ (bel_step HB3.out (bg_of (by assumption))) (by rw [HF.out]; exact decide_eq_false hlt)⟩
           rw [if_pos (by simpa using hlt)] at he
           subst he))
  have HB4 := Lib.hid (bel_step HB3.out (bg_of hsu))
  have HO4 := Lib.hid (HO3.out.below (bg_of hsu) (by omega))
  have h34 := (bg_of hsu).size
  obtain ⟨d0, d1, d2, -, -, -⟩ := blk3 (HK3.out.below (bg_of hsu) HK3.out.lt)
  have e0 : u.cell? ⟨w2.heap.size, 0, none⟩ = some (.slice Ar yl cr) := hsu.2.2.1
  have HL := Lib.hid hlt
  clear hsu hlt
  go_wp2
  go_ret
  refine HD.out _ u.heap.size Ar cr (HB4.out.alloc HB4.out.size _) (by rw [HF.out]; exact decide_eq_true HL.out) ⟨?_, HB4.out.size, HCR.out, ?_⟩
  · rw [← HYL.out]; exact isBlk_new _ _ _
  · rw [← HYL.out]; exact (HO4.out.below (box_below _ _) (by omega)).mono (by omega) (by omega)
end Go.Proofs.YtohmkjgmhippoaaGreatDoor

namespace Go.Proofs.YtohmkjgmhippoaaGreatDoor
open Go.RowKit Go.ChangeShapes Go.WideShapes Go.Deep

section
variable {H : Type} {enc : TypeId × Value → H} {P : Program} {w : World} {base : Nat} {spare : Nat → Bool} {held : Bool}
/-- a drive that comes in -/
theorem open_drive {r : Reach} {b0 : Nat} {td tn t e pt pe : TypeId} {d0 d1 d2 n0 f0 f1 f2 g0 g1 : Field} {v : Value} {d : DataW H} {ps : List MemPlace}
    (hd : P.underlying td = some (.struct #[d0, d1, d2])) (hdone : oneCellFields P #[d0, d1, d2] = true) (hdC : P.cellsOf td = 3) (hd0 : d0.type = tn) (hd1 : P.underlying d1.type = some (.int .i64)) (hd2 : P.underlying d2.type = some (.int .i64))
    (hn : P.underlying tn = some (.struct #[n0])) (hnone : oneCellFields P #[n0] = true) (hnC : P.cellsOf tn = 1) (hn0 : n0.type = t)
    (ht : P.underlying t = some (.slice e)) (he : P.underlying e = some (.struct #[f0, f1, f2])) (hone : oneCellFields P #[f0, f1, f2] = true) (hC : P.cellsOf e = 3)
    (hf0 : f0.type = pt) (hpt : P.underlying pt = some (.slice pe)) (hpe : P.underlying pe = some (.struct #[g0, g1])) (hpone : oneCellFields P #[g0, g1] = true) (hpC : P.cellsOf pe = 2) (hg0 : P.underlying g0.type = some .bool) (hg1 : P.underlying g1.type = some .string)
    (h1 : P.underlying f1.type = some (.int .i64)) (h2 : P.underlying f2.type = some .bool) (hval : Value.okWide P w r b0 td v) (h : DataW.Trod enc P w base spare held td v d ps) :
    ∃ (A : Option Addr) (n cap : Nat) (X : List Bk) (now ret : Int), v = .agg #[.slice A n cap, .int .i64 now, .int .i64 ret] ∧ RdBk w w.heap.size A n X ∧ Wide X ∧ ((-9223372036854775808 ≤ now ∧ now ≤ 9223372036854775807) ∧ (-9223372036854775808 ≤ ret ∧ ret ≤ 9223372036854775807)) := by
  obtain ⟨cs, rfl, hsz⟩ := okWide_struct hd hval
  obtain ⟨fuel, hf⟩ := h
  obtain ⟨hcl, hfs⟩ := fields_of hd hdone hf hdC
  obtain ⟨u, y, m, hu, hy⟩ := hfs 0 d0 rfl
  obtain ⟨u1, y1, m1, hu1, hy1⟩ := hfs 1 d1 rfl
  obtain ⟨u2, y2, m2, hu2, hy2⟩ := hfs 2 d2 rfl
  rw [hd0] at hy
  obtain ⟨hcl', hfs'⟩ := fields_of hn hnone hy hnC
  obtain ⟨u', y', m', hu', hy'⟩ := hfs' 0 n0 rfl
  rw [hn0] at hy'
  obtain ⟨A, n, cap, X, rfl, hX, hW⟩ := open_blocks ht he hone hC hf0 hpt hpe hpone hpC hg0 hg1 h1 h2 hy'
  obtain rfl : u = .slice A n cap := by simpa using hu'
  obtain ⟨z1, hz1, -, hwf1⟩ := DataW.trod_int hd1 hy1
  obtain ⟨z2, hz2, -, hwf2⟩ := DataW.trod_int hd2 hy2
  simp only [List.cons.injEq, and_true] at hz1 hz2
  subst hz1 hz2
  simp only [Lit.wf, Bool.and_eq_true, decide_eq_true_eq] at hwf1 hwf2
  refine ⟨A, n, cap, X, z1, z2, ?_, hX, hW, ⟨hwf1.1, hwf1.2⟩, ⟨hwf2.1, hwf2.2⟩⟩
  obtain ⟨l⟩ := cs
  match l, hcl, hu, hu1, hu2 with
  | [c, c1, c2], _, hu, hu1, hu2 => simp [Value.cells] at hu hu1 hu2; rw [hu, hu1, hu2]
end

set_option maxRecDepth 100000 in
/-- a drive that comes in, at this program's types -/
theorem open_lawsDrive {H : Type} {enc : TypeId × Value → H} {w : World} {base : Nat} {spare : Nat → Bool} {held : Bool} {r : Reach} {b0 : Nat} {v : Value} {d : DataW H} {ps : List MemPlace}
    (hval : Value.okWide Tryz.prog w r b0 26 v) (h : DataW.Trod enc Tryz.prog w base spare held 26 v d ps) :
    ∃ (A : Option Addr) (n cap : Nat) (X : List Bk) (now ret : Int), v = .agg #[.slice A n cap, .int .i64 now, .int .i64 ret] ∧ RdBk w w.heap.size A n X ∧ Wide X ∧ ((-9223372036854775808 ≤ now ∧ now ≤ 9223372036854775807) ∧ (-9223372036854775808 ≤ ret ∧ ret ≤ 9223372036854775807)) :=
  open_drive Tryz.underlying26 (by kernel_rfl) (by kernel_rfl) rfl Tryz.underlying2 Tryz.underlying2 Tryz.underlying24 (by kernel_rfl) (by kernel_rfl) rfl Tryz.underlying22 Tryz.underlying139 (by kernel_rfl) (by kernel_rfl) rfl Tryz.underlying137 Tryz.underlying205 (by kernel_rfl) (by kernel_rfl)
    Tryz.underlying4 Tryz.underlying9 Tryz.underlying2 Tryz.underlying4 hval h
end Go.Proofs.YtohmkjgmhippoaaGreatDoor

namespace Go.Proofs.YtohmkjgmhippoaaGreatDoor
open Go.RowKit

set_option maxHeartbeats 1000000 in
theorem szDrive_any (A : Option Addr) (n ca : Nat) (X : List Bk) (now ret left : Int) (w : World) (h0 : 0 ≤ left) (h1 : left ≤ 1048576) (hX : Wide X) (hA : RdBk w w.heap.size A n X) :
    Calls Tryz.prog 15 #[.agg #[.slice A n ca, .int .i64 now, .int .i64 ret], .int .i64 left] w fun e w' => e = .returned (.int .i64 (szR (szBks X) left)) ∧ Below w.heap.size w w' := by
  have HA := Lib.hid hA; have HD := Lib.hid hX; clear hA hX
  go_enter Tryz.func15, Tryz.ntmps15
  go_wp2_with fail
  refine (szNand_any A n ca X left _ h0 h1 HD.out ?_).mono ?_
  · exact (HA.out.below ((Below.refl _ _).alloc (Nat.le_refl _) _)).mono (by simp)
  rintro e w4 ⟨rfl, hb4⟩
  have HB4 := Lib.hid (((Below.refl w.heap.size w).alloc (Nat.le_refl _) _).trans (hb4.mono (by simp)))
  clear hb4
  by_cases hc : ((szBks X : Nat) : Int) ≤ left
  · have hz := szR_ok hc
    have hnn : 0 ≤ left - (szBks X : Nat) := by omega
    go_wp2
    go_ret
    exact ⟨ret_i hz.symm, HB4.out⟩
  · have hz := szR_no (t := szBks X) (left := left) (by omega)
    go_wp2
    go_ret
    exact ⟨ret_i hz.symm, HB4.out⟩

set_option maxHeartbeats 1000000 in
theorem toDrive_any (A : Option Addr) (n ca : Nat) (X : List Bk) (now ret : Int) (w : World) (hn : n ≤ 2147483648) (hp : ∀ b ∈ X, b.pages.length ≤ 2147483648) (hA : RdBk w w.heap.size A n X) :
    Calls Tryz.prog 17 #[.agg #[.slice A n ca, .int .i64 now, .int .i64 ret]] w fun e w' => ∃ At : Option Addr, e = .returned (.agg #[.slice At n n, .int .i64 now, .int .i64 ret]) ∧ OwNd w' w.heap.size w'.heap.size At n X ∧ Below w.heap.size w w' := by
  have HA := Lib.hid hA; clear hA
  have HP := Lib.hid hp; clear hp
  go_enter Tryz.func17, Tryz.ntmps17
  go_wp2_with fail
  have hb0 : Below w.heap.size w (((w.alloc (.cells #[.slice A n ca, .int .i64 now, .int .i64 ret] 26)).alloc (.cells #[.slice none 0 0, .int .i64 0, .int .i64 0] 33)).alloc (.cells #[.slice none 0 0, .int .i64 0, .int .i64 0] 33)) := (((Below.refl _ _).alloc (Nat.le_refl _) _).alloc (by simp) _).alloc (by simp; omega) _
  have k0 := ((isBlk_new w 26 [.slice A n ca, .int .i64 now, .int .i64 ret]).alloc (.cells #[.slice none 0 0, .int .i64 0, .int .i64 0] 33)).alloc (.cells #[.slice none 0 0, .int .i64 0, .int .i64 0] 33)
  have k1 := (isBlk_new (w.alloc (.cells #[.slice A n ca, .int .i64 now, .int .i64 ret] 26)) 33 [.slice none 0 0, .int .i64 0, .int .i64 0]).alloc (.cells #[.slice none 0 0, .int .i64 0, .int .i64 0] 33)
  have k2 := isBlk_new ((w.alloc (.cells #[.slice A n ca, .int .i64 now, .int .i64 ret] 26)).alloc (.cells #[.slice none 0 0, .int .i64 0, .int .i64 0] 33)) 33 [.slice none 0 0, .int .i64 0, .int .i64 0]
  change IsBlk (((w.alloc (.cells #[.slice A n ca, .int .i64 now, .int .i64 ret] 26)).alloc (.cells #[.slice none 0 0, .int .i64 0, .int .i64 0] 33)).alloc (.cells #[.slice none 0 0, .int .i64 0, .int .i64 0] 33)) _ _ _ at k0 k1 k2
  simp only [size_alloc] at k0 k1 k2
  change Calls _ _ _ (((w.alloc (.cells #[.slice A n ca, .int .i64 now, .int .i64 ret] 26)).alloc (.cells #[.slice none 0 0, .int .i64 0, .int .i64 0] 33)).alloc (.cells #[.slice none 0 0, .int .i64 0, .int .i64 0] 33)) _
  generalize (((w.alloc (.cells #[.slice A n ca, .int .i64 now, .int .i64 ret] 26)).alloc (.cells #[.slice none 0 0, .int .i64 0, .int .i64 0] 33)).alloc (.cells #[.slice none 0 0, .int .i64 0, .int .i64 0] 33)) = U at *
  refine (toNand_any A n ca X U hn HP.out (rd_step HA.out hb0)).mono ?_
  rintro e w4 ⟨rfl, ho, hb4⟩
  generalize (some ⟨U.heap.size + 3, 0, none⟩ : Option Addr) = At at *
  have hs : w.heap.size + 3 ≤ U.heap.size := by have := k2.lt; omega
  have HB4 := Lib.hid (bel_step hb0 hb4)
  have HO := Lib.hid ho
  obtain ⟨c0, c1, c2, -, -, -⟩ := blk3 (k0.below hb4 k0.lt)
  obtain ⟨d0, d1, d2, fd0, fd1, fd2⟩ := blk3 (k1.below hb4 k1.lt)
  obtain ⟨e0, e1, e2, fe0, fe1, fe2⟩ := blk3 (k2.below hb4 k2.lt)
  clear ho hb4 k0 k1 k2 hb0
  go_wp2
  refine bodyPost_ret (v := .agg #[.slice At n n, .int .i64 now, .int .i64 ret]) (by simp [results, Tryz.results17, go_sem, d0, d1, d2]) rfl ⟨At, rfl, ?_, ?_⟩
  · refine (HO.out.mono (Nat.le_refl _) (by simp [World.setCell])).same ?_ |>.mono (by omega) (Nat.le_refl _)
    intro k h1 h2
    repeat rw [Below.heap_setCell _ _ _ _ (by dsimp only; omega)]
  · repeat (with_reducible refine Below.setCell ?_ ?_ _)
    all_goals first | exact HB4.out | (dsimp only; omega)

set_option maxHeartbeats 1000000 in
theorem eqDrive_same (A B : Option Addr) (n ca cb : Nat) (X : List Bk) (now ret : Int) (w : World) (hn : n ≤ 2147483648) (hp : ∀ b ∈ X, b.pages.length ≤ 2147483648) (hA : RdBk w w.heap.size A n X) (hB : RdBk w w.heap.size B n X) :
    Calls Tryz.prog 19 #[.agg #[.slice A n ca, .int .i64 now, .int .i64 ret], .agg #[.slice B n cb, .int .i64 now, .int .i64 ret]] w fun e w' => e = .returned (.bool true) ∧ Below w.heap.size w w' := by
  have HA := Lib.hid hA; have HB := Lib.hid hB; have HP := Lib.hid hp; clear hA hB hp
  go_enter Tryz.func19, Tryz.ntmps19
  go_wp2_with fail
  refine (eqNand_same A B n ca cb X _ hn HP.out ?_ ?_).mono ?_
  · exact (HA.out.below (((Below.refl _ _).alloc (Nat.le_refl _) _).alloc (by simp) _)).mono (by simp; omega)
  · exact (HB.out.below (((Below.refl _ _).alloc (Nat.le_refl _) _).alloc (by simp) _)).mono (by simp; omega)
  rintro e w4 ⟨rfl, hb4⟩
  have k0 := (((isBlk_new w 33 [Value.slice A n ca, .int .i64 now, .int .i64 ret]).alloc _).below hb4 (by simp; omega))
  have k1 := ((isBlk_new (w.alloc _) 33 [Value.slice B n cb, .int .i64 now, .int .i64 ret]).below hb4 (by simp))
  have HB4 := Lib.hid ((((Below.refl w.heap.size w).alloc (Nat.le_refl _) _).alloc (by simp) _).trans (hb4.mono (by simp; omega)))
  simp only [size_alloc] at k0 k1
  obtain ⟨c0, c1, c2, -, -, -⟩ := blk3 k0
  obtain ⟨d0, d1, d2, -, -, -⟩ := blk3 k1
  clear hb4 k0 k1
  go_wp2
  go_ret
  exact ⟨rfl, HB4.out⟩

set_option maxHeartbeats 1000000 in
theorem eqDriveOut_same (A B : Option Addr) (n ca cb : Nat) (X : List Bk) (now ret code : Int) (w : World) (hn : n ≤ 2147483648) (hp : ∀ b ∈ X, b.pages.length ≤ 2147483648) (hA : RdBk w w.heap.size A n X) (hB : RdBk w w.heap.size B n X) :
    Calls Tryz.prog 22 #[.agg #[.slice A n ca, .int .i64 now, .int .i64 ret, .int .i64 code], .agg #[.slice B n cb, .int .i64 now, .int .i64 ret, .int .i64 code]] w fun e w' => e = .returned (.bool true) ∧ Below w.heap.size w w' := by
  have HA := Lib.hid hA; have HB := Lib.hid hB; have HP := Lib.hid hp; clear hA hB hp
  go_enter Tryz.func22, Tryz.ntmps22
  go_wp2_with fail
  refine (eqDrive_same A B n ca cb X now ret _ hn HP.out ?_ ?_).mono ?_
  · exact (HA.out.below (((Below.refl _ _).alloc (Nat.le_refl _) _).alloc (by simp) _)).mono (by simp; omega)
  · exact (HB.out.below (((Below.refl _ _).alloc (Nat.le_refl _) _).alloc (by simp) _)).mono (by simp; omega)
  rintro e w4 ⟨rfl, hb4⟩
  have k0 := (((isBlk_new w 38 [Value.slice A n ca, .int .i64 now, .int .i64 ret, .int .i64 code]).alloc _).below hb4 (by simp; omega))
  have k1 := ((isBlk_new (w.alloc _) 38 [Value.slice B n cb, .int .i64 now, .int .i64 ret, .int .i64 code]).below hb4 (by simp))
  have HB4 := Lib.hid ((((Below.refl w.heap.size w).alloc (Nat.le_refl _) _).alloc (by simp) _).trans (hb4.mono (by simp; omega)))
  simp only [size_alloc] at k0 k1
  obtain ⟨c0, c1, c2, c3, -, -, -, -⟩ := blk4 k0
  obtain ⟨d0, d1, d2, d3, -, -, -, -⟩ := blk4 k1
  clear hb4 k0 k1
  go_wp2
  go_ret
  exact ⟨rfl, HB4.out⟩

set_option maxHeartbeats 1000000 in
theorem markDrive_any (A : Option Addr) (lo hi n ca k : Nat) (X : List Bk) (now ret : Int) (w : World) (hn : n ≤ 2097152) (hk : kAt X k n ≤ 16777216) (hh : hi ≤ w.heap.size) (hA : OwNd w lo hi A n X) :
    Calls Tryz.prog 27 #[.agg #[.slice A n ca, .int .i64 now, .int .i64 ret], .int .i64 (k : Int)] w fun e w' => e = .returned (.int .i64 ((kAt X k n : Nat) : Int)) ∧ MkNd w' lo hi A n X k ∧ Btw lo hi w w' := by
  have HA := Lib.hid hA; clear hA
  go_enter Tryz.func27, Tryz.ntmps27
  go_wp2_with fail
  refine (markNand_any A lo hi n ca k X _ hn hk (by simp; omega) (HA.out.below ((Below.refl _ _).alloc (Nat.le_refl _) _) hh)).mono ?_
  rintro e w1 ⟨rfl, h1, hb⟩
  have H1 := Lib.hid h1; have HB := Lib.hid ((Btw.of_below (lo := lo) (hi := hi) ((Below.refl w.heap.size w).alloc (Nat.le_refl _) _)).trans hb)
  clear h1 hb
  go_wp2
  go_ret
  exact ⟨rfl, H1.out, HB.out⟩

set_option maxHeartbeats 1000000 in
theorem markDriveOut_any (A : Option Addr) (lo hi n ca k : Nat) (X : List Bk) (now ret code : Int) (w : World) (hn : n ≤ 2097152) (hk : kAt X k n ≤ 16777216) (hh : hi ≤ w.heap.size) (hA : OwNd w lo hi A n X) :
    Calls Tryz.prog 23 #[.agg #[.slice A n ca, .int .i64 now, .int .i64 ret, .int .i64 code], .int .i64 (k : Int)] w fun e w' => e = .returned (.int .i64 ((kAt X k n : Nat) : Int)) ∧ MkNd w' lo hi A n X k ∧ Btw lo hi w w' := by
  have HA := Lib.hid hA; clear hA
  go_enter Tryz.func23, Tryz.ntmps23
  go_wp2_with fail
  refine (markDrive_any A lo hi n ca k X now ret _ hn hk (by simp; omega) (HA.out.below ((Below.refl _ _).alloc (Nat.le_refl _) _) hh)).mono ?_
  rintro e w1 ⟨rfl, h1, hb⟩
  have H1 := Lib.hid h1; have HB := Lib.hid ((Btw.of_below (lo := lo) (hi := hi) ((Below.refl w.heap.size w).alloc (Nat.le_refl _) _)).trans hb)
  clear h1 hb
  go_wp2
  go_ret
  exact ⟨rfl, H1.out, HB.out⟩

set_option maxHeartbeats 1000000 in
theorem heldDrive_any (A : Option Addr) (lo hi n ca k : Nat) (X : List Bk) (now ret : Int) (w : World) (hn : n ≤ 2097152) (hk : kAt X k n ≤ 16777216) (hh : hi ≤ w.heap.size) (hA : MkNd w lo hi A n X k) :
    Calls Tryz.prog 60 #[.agg #[.slice A n ca, .int .i64 now, .int .i64 ret], .int .i64 (k : Int)] w fun e w' => e = .returned (.int .i64 ((kAt X k n : Nat) : Int)) ∧ Below w.heap.size w w' := by
  have HA := Lib.hid hA; clear hA
  go_enter Tryz.func60, Tryz.ntmps60
  go_wp2_with fail
  refine (heldNand_any A lo hi n ca k X _ hn hk (by simp; omega) (HA.out.below ((Below.refl _ _).alloc (Nat.le_refl _) _) hh)).mono ?_
  rintro e w1 ⟨rfl, hb⟩
  have HB := Lib.hid (((Below.refl w.heap.size w).alloc (Nat.le_refl _) _).trans (hb.mono (by simp)))
  clear hb
  go_wp2
  go_ret
  exact ⟨rfl, HB.out⟩

set_option maxHeartbeats 1000000 in
theorem heldDriveOut_any (A : Option Addr) (lo hi n ca k : Nat) (X : List Bk) (now ret code : Int) (w : World) (hn : n ≤ 2097152) (hk : kAt X k n ≤ 16777216) (hh : hi ≤ w.heap.size) (hA : MkNd w lo hi A n X k) :
    Calls Tryz.prog 24 #[.agg #[.slice A n ca, .int .i64 now, .int .i64 ret, .int .i64 code], .int .i64 (k : Int)] w fun e w' => e = .returned (.int .i64 ((kAt X k n : Nat) : Int)) ∧ Below w.heap.size w w' := by
  have HA := Lib.hid hA; clear hA
  go_enter Tryz.func24, Tryz.ntmps24
  go_wp2_with fail
  refine (heldDrive_any A lo hi n ca k X now ret _ hn hk (by simp; omega) (HA.out.below ((Below.refl _ _).alloc (Nat.le_refl _) _) hh)).mono ?_
  rintro e w1 ⟨rfl, hb⟩
  have HB := Lib.hid (((Below.refl w.heap.size w).alloc (Nat.le_refl _) _).trans (hb.mono (by simp)))
  clear hb
  go_wp2
  go_ret
  exact ⟨rfl, HB.out⟩
end Go.Proofs.YtohmkjgmhippoaaGreatDoor

namespace Go.Proofs.YtohmkjgmhippoaaGreatDoor
open Go.RowKit Go.Shelf
open Bt (Rc)
attribute [local go_sem] Oper.semAt_some

/-- what a record leaves in its sector -/
structure Vo where
  there : Bool
  data : ByteArray
  code : Int
def valR (r : Rc) : Vo := if r.k = 1 then ⟨true, r.d, 0⟩ else ⟨false, ⟨#[]⟩, 0⟩
abbrev voV (v : Vo) : Value := .agg #[.bool v.there, .string v.data, .int .i64 v.code]
/-- the last record of a trail, the zero one without -/
def endR (L : List Rc) : Rc := L.getLastD Rc.zero
theorem endR_snoc (L : List Rc) (r : Rc) : endR (L ++ [r]) = r := by simp [endR, List.getLastD_eq_getLast?]
def valX (X : List Rc) (s : Int) (n : Nat) (a : Int) : Vo := valR (endR (trlR X s n a))
def asOf (X : List Rc) (s a : Int) : Vo :=
  if hRight X = true ∧ (0 ≤ s ∧ s ≤ 5) ∧ (0 ≤ a ∧ a ≤ 1000000) then (if a < floorR X then ⟨false, ⟨#[]⟩, 12⟩ else valX X s X.length a) else ⟨false, ⟨#[]⟩, 1⟩
theorem isBlk_own {β : Type} (g : Nat) (e : TypeId) (cs : β → List Value) : Own (fun s W => IsBlk W g e (cs s)) := fun _ _ _ _ hs hg hr => hs.kept hg hr
theorem endR_small {X : List Rc} (hS : SmallR X) (s a : Int) (n : Nat) : (endR (trlR X s n a)).d.size ≤ 1048576 := by
  unfold endR
  rw [List.getLastD_eq_getLast?]
  cases h : (trlR X s n a).getLast? with
  | none => show (0 : Nat) ≤ _; omega
  | some r =>
    have hm := List.mem_of_getLast? h
    unfold trlR at hm
    obtain ⟨i, -, rfl⟩ := List.mem_map.1 hm
    exact hS.at i

set_option maxRecDepth 100000 in
set_option maxHeartbeats 4000000 in
theorem valueAt_any (A : Option Addr) (n ca : Nat) (X : List Rc) (s a : Int) (w : World) (hS : SmallR X) (hca : n ≤ ca) (hA : RdRc w w.heap.size A n X) :
    Calls Tryz.prog 123 #[.slice A n ca, .int .i64 s, .int .i64 a] w fun e w' => e = .returned (voV (valX X s n a)) ∧ Below w.heap.size w w' := by
  have hn : n ≤ 1048576 := by rw [← hA.1]; exact hS.1
  have HA := Lib.hid hA; have HS := Lib.hid hS; clear hA hS
  refine (callsIn_wide (n := 3)).1 ?_
  refine callsIn_of_wp_marks Tryz.func123 rfl trivial ?_ rfl
  simp only [Tryz.ntmps123, List.size_toArray, List.length_cons, List.length_nil, Nat.reduceAdd, Nat.reduceSub, Array.replicate_succ, Array.replicate_zero, List.push_toArray, List.append_toArray, List.nil_append, List.cons_append]
  gi_wp2_with fail
  refine ⟨trivial, ?_⟩
  have kR := (isBlk_new w 49 [.bool false, .string ⟨#[]⟩, .int .i64 0]).alloc (.cells (recC Rc.zero).toArray 80)
  have kL := isBlk_new (w.alloc (.cells #[.bool false, .string ⟨#[]⟩, .int .i64 0] 49)) 80 (recC Rc.zero)
  rw [size_alloc] at kL
  have hbO : Below w.heap.size w ((w.alloc (.cells #[.bool false, .string ⟨#[]⟩, .int .i64 0] 49)).alloc (.cells (recC Rc.zero).toArray 80)) := ((Below.refl _ _).alloc (Nat.le_refl _) _).alloc (by simp) _
  have hsO : ((w.alloc (.cells #[.bool false, .string ⟨#[]⟩, .int .i64 0] 49)).alloc (.cells (recC Rc.zero).toArray 80)).heap.size = w.heap.size + 2 := by simp
  change IsBlk ((w.alloc (.cells #[.bool false, .string ⟨#[]⟩, .int .i64 0] 49)).alloc (.cells (recC Rc.zero).toArray 80)) _ _ _ at kR
  change IsBlk ((w.alloc (.cells #[.bool false, .string ⟨#[]⟩, .int .i64 0] 49)).alloc (.cells (recC Rc.zero).toArray 80)) _ _ _ at kL
  change CallsIn _ _ _ _ _ ((w.alloc (.cells #[.bool false, .string ⟨#[]⟩, .int .i64 0] 49)).alloc (.cells (recC Rc.zero).toArray 80)) _
  generalize (w.alloc (.cells #[.bool false, .string ⟨#[]⟩, .int .i64 0] 49)).alloc (.cells (recC Rc.zero).toArray 80) = wO at kR kL hbO hsO ⊢
  refine (callsIn_wide.2 (trailOf_any A n ca s a wO)).mono ?_
  rintro e w3 ⟨rfl, rfl⟩
  have b0 := ((Boxed.new wO 62 (.slice A n ca)).alloc (.cells #[.int .i64 s] 2)).alloc (.cells #[.int .i64 a] 2)
  have b1 := (Boxed.new (wO.alloc (.cells #[.slice A n ca] 62)) 2 (.int .i64 s)).alloc (.cells #[.int .i64 a] 2)
  have b2 := Boxed.new ((wO.alloc (.cells #[.slice A n ca] 62)).alloc (.cells #[.int .i64 s] 2)) 2 (.int .i64 a)
  have hb3 : Below wO.heap.size wO (((wO.alloc (.cells #[.slice A n ca] 62)).alloc (.cells #[.int .i64 s] 2)).alloc (.cells #[.int .i64 a] 2)) := (((Below.refl _ _).alloc (Nat.le_refl _) _).alloc (by simp) _).alloc (by simp; omega) _
  have hs3 : (((wO.alloc (.cells #[.slice A n ca] 62)).alloc (.cells #[.int .i64 s] 2)).alloc (.cells #[.int .i64 a] 2)).heap.size = wO.heap.size + 3 := by simp
  simp only [World.size_alloc] at b1 b2
  generalize ((wO.alloc (.cells #[.slice A n ca] 62)).alloc (.cells #[.int .i64 s] 2)).alloc (.cells #[.int .i64 a] 2) = W0 at b0 b1 b2 hb3 hs3 ⊢
  have hB0 : Below w.heap.size w W0 := hbO.trans (hb3.mono hbO.size)
  have kR0 := kR.below hb3 kR.lt
  have kL0 := kL.below hb3 kL.lt
  rw [hsO] at b0 b1 b2
  have hsz1 : w.heap.size + 5 ≤ W0.heap.size := by omega
  have hR0 := HA.out.below hB0
  clear hs3 hbO hb3 kR kL
  gi_wp2
  clear hsO
  refine wpIn_rangeFunc_ownH rfl (by omega) (gf := 184) (lb := #[.pointer (some ⟨w.heap.size + 2, 0, none⟩), .pointer (some ⟨w.heap.size + 2 + 1 + 1, 0, none⟩), .pointer (some ⟨w.heap.size + 2 + 1, 0, none⟩)]) rfl trivial (enters_of Tryz.func184 (by kernel_rfl) rfl)
    (trail_stops _ (by omega) (w.heap.size + 2) (w.heap.size + 2 + 1 + 1) (w.heap.size + 2 + 1) w.heap.size A n ca X s a W0 hn hca (by omega) (by omega) (by omega) b0.cell b2.cell b1 hR0) KpB.t (KpB.b (by omega) (by omega)) (Below.refl _ _) (fun _ => rfl)
    (fun pre W => (IsBlk W (w.heap.size + 1) 80 (recC (endR pre)) ∧ IsBlk W w.heap.size 49 [.bool false, .string ⟨#[]⟩, .int .i64 0]) ∧ (Below w.heap.size w W ∧ W0.heap.size ≤ W.heap.size))
    (fun _ _ _ => False)
    (OwnFrom.and (OwnFrom.and (Own.from (isBlk_own _ _ _) _) (Own.from (isBlk_own _ _ _) _)) (OwnFrom.and (ownFrom_below (Nat.le_refl _) (by omega)) (fun _ _ _ _ hs hg _ => Nat.le_trans hs hg.size)))
    (fun _ _ _ _ _ hs _ _ => hs)
    ⟨⟨kL0, kR0⟩, hB0, Nat.le_refl _⟩
    (fun x a' W => ∃ Bx, W0.heap.size ≤ Bx ∧ IsBlk W Bx 80 (recC x) ∧ a' = { tmps := #[.slice A n ca, .int .i64 s, .int .i64 a, undef, undef, undef, .pointer (some ⟨w.heap.size, 0, none⟩), .pointer (some ⟨w.heap.size + 1, 0, none⟩), .pointer (some ⟨Bx, 0, none⟩), .slice A n ca, .int .i64 s, .int .i64 a, .func (.func 184) #[] #[.pointer (some ⟨w.heap.size + 2, 0, none⟩), .pointer (some ⟨w.heap.size + 2 + 1 + 1, 0, none⟩), .pointer (some ⟨w.heap.size + 2 + 1, 0, none⟩)], recV x, undef, undef, undef, undef, undef, undef, undef, undef, undef, undef], defers := [] })
    (fun x a' _ X' Y row hs hg hr => by obtain ⟨Bx, h1, h2, h3⟩ := hs; exact ⟨Bx, h1, h2.kept hg (fun r e => (hr r e).2), h3⟩)
    ?assign ?body ?done ?stop
  case assign =>
    rintro l pre x W K ⟨⟨hL, hV⟩, hB, hz⟩ hK
    gi_wp2
    exact hK _ _ ((KeepsOthers.alloc _ _).from _) ⟨(Below.refl _ W).alloc hB.size _, Below.heap_alloc _ _ _ (by omega)⟩ ⟨⟨hL.alloc _, hV.alloc _⟩, hB.alloc hB.size _, by simp; omega⟩ ⟨W.heap.size, hz, isBlk_new W 80 (recC x), rfl⟩
  case body =>
    rintro l pre x a' W hl ⟨r, hr⟩ ⟨⟨hL, hV⟩, hB, hzz⟩ ⟨Bx, hBx, kX, rfl⟩ hlt
    obtain ⟨x0, x1, x2, x3, x4, x5⟩ := rcCells kX
    obtain ⟨y0, y1, y2, y3, y4, y5⟩ := rcCells hL
    have f0 : W.frozen? ⟨w.heap.size + 1, 0, none⟩ = false := hL.free
    have f1 : W.frozen? ⟨w.heap.size + 1, 1, none⟩ = false := hL.free
    have f2 : W.frozen? ⟨w.heap.size + 1, 2, none⟩ = false := hL.free
    have f3 : W.frozen? ⟨w.heap.size + 1, 3, none⟩ = false := hL.free
    have f4 : W.frozen? ⟨w.heap.size + 1, 4, none⟩ = false := hL.free
    have f5 : W.frozen? ⟨w.heap.size + 1, 5, none⟩ = false := hL.free
    gi_wp2
    have hk1 := (((((KeepsOthers.setCell W ⟨w.heap.size + 1, 0, none⟩ (.int .i64 x.k)).trans (KeepsOthers.setCell _ ⟨w.heap.size + 1, 1, none⟩ (.int .i64 x.s))).trans (KeepsOthers.setCell _ ⟨w.heap.size + 1, 2, none⟩ (.int .i64 x.q))).trans (KeepsOthers.setCell _ ⟨w.heap.size + 1, 3, none⟩ (.int .i64 x.t))).trans (KeepsOthers.setCell _ ⟨w.heap.size + 1, 4, none⟩ (.int .i64 x.o))).trans (KeepsOthers.setCell _ ⟨w.heap.size + 1, 5, none⟩ (.string x.d))
    have hk2 := ((((((Below.refl w.heap.size W).setCell (p := ⟨w.heap.size + 1, 0, none⟩) (by simp) (.int .i64 x.k)).setCell (p := ⟨w.heap.size + 1, 1, none⟩) (by simp) (.int .i64 x.s)).setCell (p := ⟨w.heap.size + 1, 2, none⟩) (by simp) (.int .i64 x.q)).setCell (p := ⟨w.heap.size + 1, 3, none⟩) (by simp) (.int .i64 x.t)).setCell (p := ⟨w.heap.size + 1, 4, none⟩) (by simp) (.int .i64 x.o)).setCell (p := ⟨w.heap.size + 1, 5, none⟩) (by simp) (.string x.d)
    refine ⟨hk1.from _, ⟨hk2, ?_⟩, ⟨?_, ?_⟩, hB.trans hk2, Nat.le_trans hzz hk2.size⟩
    · rw [Below.heap_setCell _ _ _ _ (by dsimp only; omega), Below.heap_setCell _ _ _ _ (by dsimp only; omega), Below.heap_setCell _ _ _ _ (by dsimp only; omega), Below.heap_setCell _ _ _ _ (by dsimp only; omega), Below.heap_setCell _ _ _ _ (by dsimp only; omega), Below.heap_setCell _ _ _ _ (by dsimp only; omega)]
    · rw [endR_snoc]
      exact (((((hL.set _).set _).set _).set _).set _).set _
    · repeat (with_reducible refine IsBlk.other ?_ ?_ _)
      all_goals first | exact hV | (dsimp only; omega)
  case done =>
    rintro D ys W hD rfl ⟨⟨hL, hV⟩, hB, hzz⟩ hK
    obtain ⟨y0, y1, y2, y3, y4, y5⟩ := rcCells hL
    obtain ⟨v0, v1, v2, fv0, fv1, fv2⟩ := blk3 hV
    have hds := endR_small HS.out s a n
    have HVX : Hid (valX X s n a = valR (endR (trlR X s n a))) := Lib.hid rfl
    generalize endR (trlR X s n a) = r at *
    by_cases h1 : r.k = 1
    · have h1' : (r.k == 1) = true := by simpa using h1
      have h1'' : (r.k != 1) = false := by simpa using h1
      have HVR : Hid (valR r = ⟨true, r.d, 0⟩) := by show _ = _; unfold valR; rw [if_pos h1]
      clear h1
      gi_wp2_with fail
      refine ⟨trivial, ?_⟩
      refine (callsIn_wide.2 (assemble_oneR r.d W.heap.size 1 _ (by simp) (by omega))).mono ?_
      rintro e w5 ⟨rfl, hb5⟩
      have hb5' : Below W.heap.size W w5 := ((Below.refl _ W).alloc (Nat.le_refl _) _).trans (hb5.mono (by simp))
      have hV5 := hV.below hb5' hV.lt
      have hK5 : w5.heap[D]? = some (.deferred (some [])) := (hb5'.block D (Array.getElem?_eq_some_iff.1 hK).1).trans hK
      have hB5 := hB.trans (hb5'.mono hB.size)
      clear v0 v1 v2 fv0 fv1 fv2
      obtain ⟨v0, v1, v2, fv0, fv1, fv2⟩ := blk3 hV5
      clear hb5 hb5'
      gi_wp2
      have hV6 := ((hV5.set (j := 0) (.bool true)).set (j := 1) (.string r.d)).set (j := 2) (.int .i64 0)
      have hB6 := ((hB5.setCell (p := ⟨w.heap.size, 0, none⟩) (Nat.le_refl _) (.bool true)).setCell (p := ⟨w.heap.size, 1, none⟩) (Nat.le_refl _) (.string r.d)).setCell (p := ⟨w.heap.size, 2, none⟩) (Nat.le_refl _) (.int .i64 0)
      have hK6 := ((KeepsOthers.setCell w5 ⟨w.heap.size, 0, none⟩ (.bool true)).trans ((KeepsOthers.setCell _ ⟨w.heap.size, 1, none⟩ (.string r.d)).trans (KeepsOthers.setCell _ ⟨w.heap.size, 2, none⟩ (.int .i64 0)))).same D _ hK5 rfl
      generalize ((w5.setCell ⟨w.heap.size, 0, none⟩ (.bool true)).setCell ⟨w.heap.size, 1, none⟩ (.string r.d)).setCell ⟨w.heap.size, 2, none⟩ (.int .i64 0) = w6 at hV6 hB6 hK6 ⊢
      refine ⟨by simp, .inl ⟨_, _, rfl, run_takeDeferred hK6, ?_⟩⟩
      have hV7 := hV6.kept (grownBy_putObj' w6 D (.deferred none)) (fun r e => by cases e; exact ⟨_, hK6, rfl⟩)
      obtain ⟨c0, c1, c2, -, -, -⟩ := blk3 hV7
      refine ⟨voV ⟨true, r.d, 0⟩, ?_, ?_, ?_⟩
      · simp [results, Tryz.results123, go_sem, c0, c1, c2]
      · rw [HVX.out, HVR.out]
      · exact hB6.trans (belowK_b (w := w) (Nat.le_refl _) w6 D _ _ (by omega) hK6 rfl rfl)
    · have h1' : (r.k == 1) = false := by simpa using h1
      have h1'' : (r.k != 1) = true := by simpa using h1
      have HVR : Hid (valR r = ⟨false, ⟨#[]⟩, 0⟩) := by show _ = _; unfold valR; rw [if_neg h1]
      clear h1
      gi_wp2
      have hV6 := ((hV.set (j := 0) (.bool false)).set (j := 1) (.string ⟨#[]⟩)).set (j := 2) (.int .i64 0)
      have hB6 := ((hB.setCell (p := ⟨w.heap.size, 0, none⟩) (Nat.le_refl _) (.bool false)).setCell (p := ⟨w.heap.size, 1, none⟩) (Nat.le_refl _) (.string ⟨#[]⟩)).setCell (p := ⟨w.heap.size, 2, none⟩) (Nat.le_refl _) (.int .i64 0)
      have hK6 := ((KeepsOthers.setCell W ⟨w.heap.size, 0, none⟩ (.bool false)).trans ((KeepsOthers.setCell _ ⟨w.heap.size, 1, none⟩ (.string ⟨#[]⟩)).trans (KeepsOthers.setCell _ ⟨w.heap.size, 2, none⟩ (.int .i64 0)))).same D _ hK rfl
      generalize ((W.setCell ⟨w.heap.size, 0, none⟩ (.bool false)).setCell ⟨w.heap.size, 1, none⟩ (.string ⟨#[]⟩)).setCell ⟨w.heap.size, 2, none⟩ (.int .i64 0) = w6 at hV6 hB6 hK6 ⊢
      refine ⟨by simp, .inl ⟨_, _, rfl, run_takeDeferred hK6, ?_⟩⟩
      have hV7 := hV6.kept (grownBy_putObj' w6 D (.deferred none)) (fun r e => by cases e; exact ⟨_, hK6, rfl⟩)
      obtain ⟨c0, c1, c2, -, -, -⟩ := blk3 hV7
      refine ⟨voV ⟨false, ⟨#[]⟩, 0⟩, ?_, ?_, ?_⟩
      · simp [results, Tryz.results123, go_sem, c0, c1, c2]
      · rw [HVX.out, HVR.out]
      · exact hB6.trans (belowK_b (w := w) (Nat.le_refl _) w6 D _ _ (by omega) hK6 rfl rfl)
  case stop =>
    rintro D c pre W _ _ h _
    exact h.elim
end Go.Proofs.YtohmkjgmhippoaaGreatDoor

namespace Go.Proofs.YtohmkjgmhippoaaGreatDoor
open Go.RowKit
open Bt (Rc)

theorem asOf_no {X : List Rc} {s a : Int} (h : ¬ (hRight X = true ∧ (0 ≤ s ∧ s ≤ 5) ∧ (0 ≤ a ∧ a ≤ 1000000))) : asOf X s a = ⟨false, ⟨#[]⟩, 1⟩ := by unfold asOf; rw [if_neg h]
theorem asOf_past {X : List Rc} {s a : Int} (h : hRight X = true ∧ (0 ≤ s ∧ s ≤ 5) ∧ (0 ≤ a ∧ a ≤ 1000000)) (hp : a < floorR X) : asOf X s a = ⟨false, ⟨#[]⟩, 12⟩ := by unfold asOf; rw [if_pos h, if_pos hp]
theorem asOf_yes {X : List Rc} {s a : Int} (h : hRight X = true ∧ (0 ≤ s ∧ s ≤ 5) ∧ (0 ≤ a ∧ a ≤ 1000000)) (hp : ¬ a < floorR X) : asOf X s a = valX X s X.length a := by unfold asOf; rw [if_pos h, if_neg hp]

set_option maxHeartbeats 4000000 in
set_option maxRecDepth 100000 in
theorem impl_asOf (A : Option Addr) (n ca : Nat) (X : List Rc) (s a : Int) (w : World) (hS : SmallR X) (hca : n ≤ ca) (hA : RdRc w w.heap.size A n X) :
    Calls Tryz.prog 94 #[.agg #[.slice A n ca], .int .i64 s, .int .i64 a] w fun e w' => e = .returned (voV (asOf X s a)) ∧ Below w.heap.size w w' := by
  have HL := Lib.hid hA.1
  have HA := Lib.hid hA; have HS := Lib.hid hS; clear hA hS
  go_enter Tryz.func94, Tryz.ntmps94
  go_wp2_with fail
  have hb0 : Below w.heap.size w ((w.alloc (.cells #[.slice A n ca] 64)).alloc (.cells #[.bool false, .string ⟨#[]⟩, .int .i64 0] 49)) := ((Below.refl _ _).alloc (Nat.le_refl _) _).alloc (by simp) _
  have k0 := (isBlk_new w 64 [.slice A n ca]).alloc (.cells #[.bool false, .string ⟨#[]⟩, .int .i64 0] 49)
  have k1 := isBlk_new (w.alloc (.cells #[.slice A n ca] 64)) 49 [.bool false, .string ⟨#[]⟩, .int .i64 0]
  rw [size_alloc] at k1
  change IsBlk ((w.alloc (.cells #[.slice A n ca] 64)).alloc (.cells #[.bool false, .string ⟨#[]⟩, .int .i64 0] 49)) _ _ _ at k0
  change IsBlk ((w.alloc (.cells #[.slice A n ca] 64)).alloc (.cells #[.bool false, .string ⟨#[]⟩, .int .i64 0] 49)) _ _ _ at k1
  generalize (w.alloc (.cells #[.slice A n ca] 64)).alloc (.cells #[.bool false, .string ⟨#[]⟩, .int .i64 0] 49) = W at hb0 k0 k1 ⊢
  refine (impl_histRight_any A n ca X W HS.out (HA.out.next hb0)).mono ?_
  rintro e w1 ⟨rfl, hb1⟩
  have HB1 := Lib.hid (hb0.trans (hb1.mono hb0.size))
  have HK0 := Lib.hid (k0.below hb1 k0.lt)
  have HK1 := Lib.hid (k1.below hb1 k1.lt)
  have hx : w1.cell? ⟨w.heap.size, 0, none⟩ = some (.slice A n ca) := HK0.out.cell rfl
  obtain ⟨d0, d1, d2, fd0, fd1, fd2⟩ := blk3 HK1.out
  clear hb0 hb1 k0 k1
  have HEND : Hid (∀ v : Vo, Below w.heap.size w (((w1.setCell ⟨w.heap.size + 1, 0, none⟩ (.bool v.there)).setCell ⟨w.heap.size + 1, 1, none⟩ (.string v.data)).setCell ⟨w.heap.size + 1, 2, none⟩ (.int .i64 v.code))) := fun v => ((HB1.out.setCell (by simp) _).setCell (by simp) _).setCell (by simp) _
  by_cases hr : hRight X = true
  case neg =>
    have HN := Lib.hid (asOf_no (X := X) (s := s) (a := a) (fun h => hr h.1))
    have hr : hRight X = false := by simpa using hr
    rw [hr]
    clear hr
    go_wp2
    exact bodyPost_ret (v := voV ⟨false, ⟨#[]⟩, 1⟩) (by simp [results, Tryz.results94, go_sem, d0, d1, d2]) rfl ⟨by rw [HN.out], HEND.out ⟨false, ⟨#[]⟩, 1⟩⟩
  rw [hr]
  go_wp2_with fail
  refine (isSector_any s w1).mono ?_
  rintro e w2 ⟨rfl, rfl⟩
  by_cases hs : 0 ≤ s ∧ s ≤ 5
  case neg =>
    have HN := Lib.hid (asOf_no (X := X) (s := s) (a := a) (fun h => hs h.2.1))
    rw [rcIs_no hs]
    clear hr hs
    go_wp2
    exact bodyPost_ret (v := voV ⟨false, ⟨#[]⟩, 1⟩) (by simp [results, Tryz.results94, go_sem, d0, d1, d2]) rfl ⟨by rw [HN.out], HEND.out ⟨false, ⟨#[]⟩, 1⟩⟩
  rw [rcIs_yes hs]
  go_wp2_with fail
  refine (isTime_any a w1).mono ?_
  rintro e w2 ⟨rfl, rfl⟩
  by_cases ha : 0 ≤ a ∧ a ≤ 1000000
  case neg =>
    have HN := Lib.hid (asOf_no (X := X) (s := s) (a := a) (fun h => ha h.2.2))
    rw [rcIs_no ha]
    clear hr hs ha
    go_wp2
    exact bodyPost_ret (v := voV ⟨false, ⟨#[]⟩, 1⟩) (by simp [results, Tryz.results94, go_sem, d0, d1, d2]) rfl ⟨by rw [HN.out], HEND.out ⟨false, ⟨#[]⟩, 1⟩⟩
  rw [rcIs_yes ha]
  have HP := Lib.hid (fun hp => asOf_past (X := X) (s := s) (a := a) ⟨hr, hs, ha⟩ hp)
  have HY := Lib.hid (fun hp => asOf_yes (X := X) (s := s) (a := a) ⟨hr, hs, ha⟩ hp)
  have HFL : Hid (floorOf X = floorR X) := by show _ = _; unfold floorOf; rw [if_pos hr]
  clear hr hs ha
  go_wp2_with fail
  refine (impl_floorOf_any A n ca X w1 HS.out (HA.out.next HB1.out)).mono ?_
  rintro e w2 ⟨rfl, hb2⟩
  rw [HFL.out]
  have HB2 := Lib.hid (HB1.out.trans (hb2.mono HB1.out.size))
  have HK02 := Lib.hid (HK0.out.below hb2 HK0.out.lt)
  have HK12 := Lib.hid (HK1.out.below hb2 HK1.out.lt)
  have hx2 : w2.cell? ⟨w.heap.size, 0, none⟩ = some (.slice A n ca) := HK02.out.cell rfl
  clear d0 d1 d2 fd0 fd1 fd2 hx hb2
  by_cases hp : a < floorR X
  · have HP := Lib.hid (HP.out hp)
    clear HY
    obtain ⟨d0, d1, d2, fd0, fd1, fd2⟩ := blk3 HK12.out
    go_wp2
    exact bodyPost_ret (v := voV ⟨false, ⟨#[]⟩, 12⟩) (by simp [results, Tryz.results94, go_sem, d0, d1, d2]) rfl ⟨by rw [HP.out], ((HB2.out.setCell (by simp) _).setCell (by simp) _).setCell (by simp) _⟩
  · have HY := Lib.hid (HY.out (by omega))
    have hp' : floorR X ≤ a := by omega
    clear HP hp
    go_wp2_with fail
    refine (valueAt_any A n ca X s a w2 HS.out hca (HA.out.next HB2.out)).mono ?_
    rintro e w3 ⟨rfl, hb3⟩
    have HB3 := Lib.hid (HB2.out.trans (hb3.mono HB2.out.size))
    have HK13 := Lib.hid (HK12.out.below hb3 HK12.out.lt)
    obtain ⟨d0, d1, d2, fd0, fd1, fd2⟩ := blk3 HK13.out
    rw [HL.out] at HY
    generalize valX X s n a = v at HY ⊢
    clear hb3 hx2
    go_wp2
    exact bodyPost_ret (v := voV v) (by simp [results, Tryz.results94, go_sem, d0, d1, d2]) rfl ⟨by rw [HY.out], ((HB3.out.setCell (by simp) _).setCell (by simp) _).setCell (by simp) _⟩

theorem endR_trl {X : List Rc} {s a : Int} {n : Nat} (h : (trl X s n a).length = 0) : endR (trlR X s n a) = Rc.zero := by
  unfold trlR; rw [List.eq_nil_of_length_eq_zero h]; rfl
theorem endR_at {X : List Rc} {P : List Nat} (h : 0 < P.length) : endR (P.map fun i => X.getD i Rc.zero) = X.getD (P.getD (P.length - 1) 0) Rc.zero := by
  unfold endR
  rw [List.getLastD_eq_getLast?, List.getLast?_eq_getElem?, List.length_map, List.getElem?_map]
  rw [List.getD_eq_getElem?_getD (l := P), List.getElem?_eq_getElem (show P.length - 1 < P.length by omega)]
  rfl

set_option maxHeartbeats 4000000 in
set_option maxRecDepth 100000 in
theorem l04AsOf_any (A : Option Addr) (n ca : Nat) (X : List Rc) (s a : Int) (w : World) (hn : n ≤ 1048576) (hV : ∀ i, i < n → 1 ≤ (X.getD i Rc.zero).k) (hA : RdRc w w.heap.size A n X) :
    Calls Tryz.prog 93 #[.agg #[.slice A n ca], .int .i64 s, .int .i64 a] w fun e w' => e = .returned (voV (valX X s n a)) ∧ Below w.heap.size w w' := by
  have HA := Lib.hid hA; have HV := Lib.hid hV; clear hA hV
  go_enter Tryz.func93, Tryz.ntmps93
  go_wp2_with fail
  have hb0 : Below w.heap.size w ((w.alloc (.cells #[.slice A n ca] 64)).alloc (.cells #[.bool false, .string ⟨#[]⟩, .int .i64 0] 49)) := ((Below.refl _ _).alloc (Nat.le_refl _) _).alloc (by simp) _
  have k0 := (isBlk_new w 64 [.slice A n ca]).alloc (.cells #[.bool false, .string ⟨#[]⟩, .int .i64 0] 49)
  have k1 := isBlk_new (w.alloc (.cells #[.slice A n ca] 64)) 49 [.bool false, .string ⟨#[]⟩, .int .i64 0]
  rw [size_alloc] at k1
  change IsBlk ((w.alloc (.cells #[.slice A n ca] 64)).alloc (.cells #[.bool false, .string ⟨#[]⟩, .int .i64 0] 49)) _ _ _ at k0
  change IsBlk ((w.alloc (.cells #[.slice A n ca] 64)).alloc (.cells #[.bool false, .string ⟨#[]⟩, .int .i64 0] 49)) _ _ _ at k1
  generalize (w.alloc (.cells #[.slice A n ca] 64)).alloc (.cells #[.bool false, .string ⟨#[]⟩, .int .i64 0] 49) = W at hb0 k0 k1 ⊢
  refine (l04Trail_any A n ca X s a W hn HV.out (HA.out.next hb0)).mono ?_
  rintro e w1 ⟨Al, cl, rfl, ho1, hb1⟩
  have HB1 := Lib.hid (hb0.trans (hb1.mono hb0.size))
  have HK0 := Lib.hid (k0.below hb1 k0.lt)
  have HK1 := Lib.hid (k1.below hb1 k1.lt)
  have hx : w1.cell? ⟨w.heap.size, 0, none⟩ = some (.slice A n ca) := HK0.out.cell rfl
  obtain ⟨d0, d1, d2, fd0, fd1, fd2⟩ := blk3 HK1.out
  have HRD1 := Lib.hid (HA.out.next HB1.out)
  have HVX : Hid (valX X s n a = valR (endR ((trl X s n a).map fun i => X.getD i Rc.zero))) := Lib.hid rfl
  have HPL0 := trl_lt X s n a
  have hPn := trl_len X s n a
  rw [plcs_len] at ho1 ⊢
  have HO1 := Lib.hid ho1
  obtain ⟨P, hP⟩ : ∃ P, P = trl X s n a := ⟨_, rfl⟩
  rw [← hP] at HPL0 hPn HVX HO1 ⊢
  have HPL := Lib.hid HPL0
  clear hb0 hb1 k0 k1 ho1 HPL0 hP
  by_cases h0 : P.length = 0
  · have hP0 : P = [] := List.eq_nil_of_length_eq_zero h0
    subst hP0
    have HV0 : Hid (valX X s n a = ⟨false, ⟨#[]⟩, 0⟩) := by show _ = _; rw [HVX.out]; rfl
    clear h0
    have hl0 : (([] : List Nat).length) = 0 := rfl
    rw [hl0]
    clear hl0
    go_wp2
    have hx' := cell_regrown hx
    refine wp_region_quiet_below (by kernel_rfl) (by kernel_rfl) ?_
    repeat (go_big_quiet_step (fail))
    refine wpQuiet_nil ?_
    intro w2 hw'
    have hb2 : Below w1.heap.size w1 w2 := by obtain ⟨⟨dq, osq⟩, rfl⟩ := hw'; exact below_regrown w1 dq osq
    clear hw' hx' hx d0 d1 d2 fd0 fd1 fd2
    have HB2 := Lib.hid (HB1.out.trans (hb2.mono HB1.out.size))
    obtain ⟨d0, d1, d2, fd0, fd1, fd2⟩ := blk3 (HK1.out.below hb2 HK1.out.lt)
    clear hb2
    go_wp2
    exact bodyPost_ret (v := voV ⟨false, ⟨#[]⟩, 0⟩) (by simp [results, Tryz.results93, go_sem, d0, d1, d2]) rfl ⟨by rw [HV0.out], ((HB2.out.setCell (by simp) _).setCell (by simp) _).setCell (by simp) _⟩
  · have hp : 0 < P.length := by omega
    obtain ⟨gl, rfl, hgl1, hgl2, hrl⟩ := HO1.out.2 hp
    have hcl := hrl.cell (i := P.length - 1) (by omega)
    rw [show nmF (plcs P) (P.length - 1) = .int .i64 ((P.getD (P.length - 1) 0 : Nat) : Int) by
      unfold nmF plcs; simp [List.getD_eq_getElem?_getD, List.getElem?_eq_getElem (show P.length - 1 < P.length by omega)]] at hcl
    have hpn : P.getD (P.length - 1) 0 < n := HPL.out _ (getD_lt (by omega))
    rw [endR_at hp] at HVX
    generalize P.getD (P.length - 1) 0 = pk at *
    obtain ⟨g, off, rfl, hg, hc0, hc1, hc2, hc3, hc4, hc5⟩ := HRD1.out.at hpn
    generalize X.getD pk Rc.zero = r at *
    have hl0 : ((P.length : Int) == 0) = false := beq_eq_false_iff_ne.2 (by omega)
    have hl1 : decide (P.length = 0) = false := decide_eq_false h0
    obtain ⟨m, hm⟩ : ∃ m, P.length = m + 1 := ⟨P.length - 1, by omega⟩
    rw [hm] at hcl hl0 hl1 ⊢
    simp only [Nat.add_sub_cancel] at hcl
    have hml : m ≤ 1048576 := by omega
    have hl2 : ((m : Int) + 1 == 0) = false := beq_eq_false_iff_ne.2 (by omega)
    clear hm h0 hp HO1 HPL hrl
    have hi0 : (0 : Int) ≤ (m : Int) := by omega
    have hi2 : (0 : Int) ≤ (pk : Int) := by omega
    have hi3 : (pk : Int) < (n : Int) := by omega
    have hx' := cell_regrown hx
    have hcl' := cell_regrown hcl
    have hc0' := cell_regrown hc0
    have hc5' := cell_regrown hc5
    by_cases h1 : r.k = 1
    · have h1' : (r.k == 1) = true := by simpa using h1
      have h1'' : (r.k != 1) = false := by simpa using h1
      have HVR : Hid (valX X s n a = ⟨true, r.d, 0⟩) := by show _ = _; rw [HVX.out]; unfold valR; rw [if_pos h1]
      clear h1
      go_wp2
      refine wp_region_quiet_below (by kernel_rfl) (by kernel_rfl) ?_
      repeat (go_big_quiet_step (fail))
      refine wpQuiet_nil ?_
      intro w2 hw'
      have hb2 : Below w1.heap.size w1 w2 := by obtain ⟨⟨dq, osq⟩, rfl⟩ := hw'; exact below_regrown w1 dq osq
      clear hw' hx' hcl' hc0' hc5' d0 d1 d2 fd0 fd1 fd2
      have HB2 := Lib.hid (HB1.out.trans (hb2.mono HB1.out.size))
      obtain ⟨d0, d1, d2, fd0, fd1, fd2⟩ := blk3 (HK1.out.below hb2 HK1.out.lt)
      have e0 : w2.cell? ⟨w.heap.size, 0, none⟩ = some _ := (HK0.out.below hb2 HK0.out.lt).cell rfl
      have e1 := (hb2.cell (p := ⟨gl, m, none⟩) hgl2).trans hcl
      have e2 := (hb2.cell (p := ⟨g, off + pk * 6 + 5, none⟩) hg).trans hc5
      clear hb2 hx hcl hc0 hc1 hc2 hc3 hc4 hc5
      go_wp2
      go_region
      all_goals
        go_wp2
        refine bodyPost_ret (v := voV ⟨true, r.d, 0⟩) (by simp [results, Tryz.results93, go_sem, d0, d1, d2]) rfl ⟨by rw [HVR.out], ?_⟩
        exact (((HB2.out.drew).setCell (by simp) _).setCell (by simp) _).setCell (by simp) _
    · have h1' : (r.k == 1) = false := by simpa using h1
      have h1'' : (r.k != 1) = true := by simpa using h1
      have HVR : Hid (valX X s n a = ⟨false, ⟨#[]⟩, 0⟩) := by show _ = _; rw [HVX.out]; unfold valR; rw [if_neg h1]
      clear h1
      go_wp2
      refine wp_region_quiet_below (by kernel_rfl) (by kernel_rfl) ?_
      repeat (go_big_quiet_step (fail))
      refine wpQuiet_nil ?_
      intro w2 hw'
      have hb2 : Below w1.heap.size w1 w2 := by obtain ⟨⟨dq, osq⟩, rfl⟩ := hw'; exact below_regrown w1 dq osq
      clear hw' hx' hcl' hc0' hc5' d0 d1 d2 fd0 fd1 fd2
      have HB2 := Lib.hid (HB1.out.trans (hb2.mono HB1.out.size))
      obtain ⟨d0, d1, d2, fd0, fd1, fd2⟩ := blk3 (HK1.out.below hb2 HK1.out.lt)
      clear hb2 hx hcl hc0 hc1 hc2 hc3 hc4 hc5
      go_wp2
      exact bodyPost_ret (v := voV ⟨false, ⟨#[]⟩, 0⟩) (by simp [results, Tryz.results93, go_sem, d0, d1, d2]) rfl ⟨by rw [HVR.out], ((HB2.out.setCell (by simp) _).setCell (by simp) _).setCell (by simp) _⟩

set_option maxHeartbeats 4000000 in
set_option maxRecDepth 100000 in
theorem spec_asOf (A : Option Addr) (n ca : Nat) (X : List Rc) (s a : Int) (w : World) (hS : SmallR X) (hA : RdRc w w.heap.size A n X) :
    Calls Tryz.prog 65 #[.agg #[.slice A n ca], .int .i64 s, .int .i64 a] w fun e w' => e = .returned (voV (asOf X s a)) ∧ Below w.heap.size w w' := by
  have hn : n ≤ 1048576 := by rw [← hA.1]; exact hS.1
  have HL := Lib.hid hA.1
  have HA := Lib.hid hA; have HS := Lib.hid hS; clear hA hS
  go_enter Tryz.func65, Tryz.ntmps65
  go_wp2_with fail
  have hb0 : Below w.heap.size w ((w.alloc (.cells #[.slice A n ca] 64)).alloc (.cells #[.bool false, .string ⟨#[]⟩, .int .i64 0] 49)) := ((Below.refl _ _).alloc (Nat.le_refl _) _).alloc (by simp) _
  have k0 := (isBlk_new w 64 [.slice A n ca]).alloc (.cells #[.bool false, .string ⟨#[]⟩, .int .i64 0] 49)
  have k1 := isBlk_new (w.alloc (.cells #[.slice A n ca] 64)) 49 [.bool false, .string ⟨#[]⟩, .int .i64 0]
  rw [size_alloc] at k1
  change IsBlk ((w.alloc (.cells #[.slice A n ca] 64)).alloc (.cells #[.bool false, .string ⟨#[]⟩, .int .i64 0] 49)) _ _ _ at k0
  change IsBlk ((w.alloc (.cells #[.slice A n ca] 64)).alloc (.cells #[.bool false, .string ⟨#[]⟩, .int .i64 0] 49)) _ _ _ at k1
  generalize (w.alloc (.cells #[.slice A n ca] 64)).alloc (.cells #[.bool false, .string ⟨#[]⟩, .int .i64 0] 49) = W at hb0 k0 k1 ⊢
  refine (spec_histRight_any A n ca X W HS.out (HA.out.next hb0)).mono ?_
  rintro e w1 ⟨rfl, hb1⟩
  have HB1 := Lib.hid (hb0.trans (hb1.mono hb0.size))
  have HK0 := Lib.hid (k0.below hb1 k0.lt)
  have HK1 := Lib.hid (k1.below hb1 k1.lt)
  have hx : w1.cell? ⟨w.heap.size, 0, none⟩ = some (.slice A n ca) := HK0.out.cell rfl
  obtain ⟨d0, d1, d2, fd0, fd1, fd2⟩ := blk3 HK1.out
  clear hb0 hb1 k0 k1
  have HEND : Hid (∀ v : Vo, Below w.heap.size w (((w1.setCell ⟨w.heap.size + 1, 0, none⟩ (.bool v.there)).setCell ⟨w.heap.size + 1, 1, none⟩ (.string v.data)).setCell ⟨w.heap.size + 1, 2, none⟩ (.int .i64 v.code))) := fun v => ((HB1.out.setCell (by simp) _).setCell (by simp) _).setCell (by simp) _
  by_cases hr : hRight X = true
  case neg =>
    have HN := Lib.hid (asOf_no (X := X) (s := s) (a := a) (fun h => hr h.1))
    have hr : hRight X = false := by simpa using hr
    rw [hr]
    clear hr
    go_wp2
    exact bodyPost_ret (v := voV ⟨false, ⟨#[]⟩, 1⟩) (by simp [results, Tryz.results65, go_sem, d0, d1, d2]) rfl ⟨by rw [HN.out], HEND.out ⟨false, ⟨#[]⟩, 1⟩⟩
  rw [hr]
  go_wp2_with fail
  refine (l04Sector_any s w1).mono ?_
  rintro e w2 ⟨rfl, rfl⟩
  by_cases hs : 0 ≤ s ∧ s ≤ 5
  case neg =>
    have HN := Lib.hid (asOf_no (X := X) (s := s) (a := a) (fun h => hs h.2.1))
    rw [rcIs_no hs]
    clear hr hs
    go_wp2
    exact bodyPost_ret (v := voV ⟨false, ⟨#[]⟩, 1⟩) (by simp [results, Tryz.results65, go_sem, d0, d1, d2]) rfl ⟨by rw [HN.out], HEND.out ⟨false, ⟨#[]⟩, 1⟩⟩
  rw [rcIs_yes hs]
  go_wp2_with fail
  refine (rcTime_any a w1).mono ?_
  rintro e w2 ⟨rfl, rfl⟩
  by_cases ha : 0 ≤ a ∧ a ≤ 1000000
  case neg =>
    have HN := Lib.hid (asOf_no (X := X) (s := s) (a := a) (fun h => ha h.2.2))
    rw [rcIs_no ha]
    clear hr hs ha
    go_wp2
    exact bodyPost_ret (v := voV ⟨false, ⟨#[]⟩, 1⟩) (by simp [results, Tryz.results65, go_sem, d0, d1, d2]) rfl ⟨by rw [HN.out], HEND.out ⟨false, ⟨#[]⟩, 1⟩⟩
  rw [rcIs_yes ha]
  have HP := Lib.hid (fun hp => asOf_past (X := X) (s := s) (a := a) ⟨hr, hs, ha⟩ hp)
  have HY := Lib.hid (fun hp => asOf_yes (X := X) (s := s) (a := a) ⟨hr, hs, ha⟩ hp)
  have HV : Hid (∀ i, i < n → 1 ≤ (X.getD i Rc.zero).k) := fun i hi => (hRight_at hr (by rw [HL.out]; exact hi)).1.1
  clear hr hs ha
  go_wp2_with fail
  refine (l04Floor_any A n ca X w1 hn (HA.out.next HB1.out)).mono ?_
  rintro e w2 ⟨rfl, hb2⟩
  have HFL : Hid (floorTo X n = floorR X) := by show _ = _; unfold floorR; rw [HL.out]
  rw [HFL.out]
  have HB2 := Lib.hid (HB1.out.trans (hb2.mono HB1.out.size))
  have HK02 := Lib.hid (HK0.out.below hb2 HK0.out.lt)
  have HK12 := Lib.hid (HK1.out.below hb2 HK1.out.lt)
  have hx2 : w2.cell? ⟨w.heap.size, 0, none⟩ = some (.slice A n ca) := HK02.out.cell rfl
  clear d0 d1 d2 fd0 fd1 fd2 hx hb2
  by_cases hp : a < floorR X
  · have HP := Lib.hid (HP.out hp)
    clear HY
    obtain ⟨d0, d1, d2, fd0, fd1, fd2⟩ := blk3 HK12.out
    go_wp2
    exact bodyPost_ret (v := voV ⟨false, ⟨#[]⟩, 12⟩) (by simp [results, Tryz.results65, go_sem, d0, d1, d2]) rfl ⟨by rw [HP.out], ((HB2.out.setCell (by simp) _).setCell (by simp) _).setCell (by simp) _⟩
  · have HY := Lib.hid (HY.out (by omega))
    have hp' : floorR X ≤ a := by omega
    clear HP hp
    go_wp2_with fail
    refine (l04AsOf_any A n ca X s a w2 hn HV.out (HA.out.next HB2.out)).mono ?_
    rintro e w3 ⟨rfl, hb3⟩
    have HB3 := Lib.hid (HB2.out.trans (hb3.mono HB2.out.size))
    have HK13 := Lib.hid (HK12.out.below hb3 HK12.out.lt)
    obtain ⟨d0, d1, d2, fd0, fd1, fd2⟩ := blk3 HK13.out
    rw [HL.out] at HY
    generalize valX X s n a = v at HY ⊢
    clear hb3 hx2
    go_wp2
    exact bodyPost_ret (v := voV v) (by simp [results, Tryz.results65, go_sem, d0, d1, d2]) rfl ⟨by rw [HY.out], ((HB3.out.setCell (by simp) _).setCell (by simp) _).setCell (by simp) _⟩

set_option maxHeartbeats 1000000 in
theorem eqValueOut_same (v : Vo) (w : World) : Calls Tryz.prog 34 #[voV v, voV v] w fun e w' => e = .returned (.bool true) ∧ Below w.heap.size w w' := by
  obtain ⟨t, d, c⟩ := v
  go_enter Tryz.func34, Tryz.ntmps34
  go_wp2
  go_ret
  exact ⟨rfl, ((Below.refl _ _).alloc (Nat.le_refl _) _).alloc (by simp) _⟩
end Go.Proofs.YtohmkjgmhippoaaGreatDoor

namespace Go.Proofs.YtohmkjgmhippoaaGreatDoor
open Go.RowKit
open Bt (Rc)

theorem isB_rc (lo hi n : Int) : isB lo hi n = rcIs lo hi n := rfl
/-- what l07Hist answers -/
def RetLh (w : World) (X : List Bk) (now ret : Int) (e : Ending) (w' : World) : Prop :=
  ∃ (Y : List Rc) (A : Option Addr) (c : Nat), e = .returned (.tuple #[.agg #[.slice A Y.length c], .bool (dvB X now ret)]) ∧ (dvB X now ret = true → Y = mntList X) ∧ OwRc w' w.heap.size w'.heap.size A Y.length Y ∧ Below w.heap.size w w'

theorem lh_keep {u w' : World} {b0 b1 : Nat} {e0 e1 : TypeId} {A B : Option Addr} {n c m d : Nat} {now ret cd : Int} (h0 : IsBlk u b0 e0 [.slice A n c, .int .i64 now, .int .i64 ret]) (h1 : IsBlk u b1 e1 [.slice B m d, .int .i64 cd]) (hb : Below u.heap.size u w') :
    w'.cell? ⟨b0, 1, none⟩ = some (.int .i64 now) ∧ w'.cell? ⟨b1, 0, none⟩ = some (.slice B m d) ∧ w'.cell? ⟨b1, 1, none⟩ = some (.int .i64 cd) :=
  ⟨(h0.below hb h0.lt).cell rfl, (h1.below hb h1.lt).cell rfl, (h1.below hb h1.lt).cell rfl⟩

set_option maxHeartbeats 4000000 in
set_option maxRecDepth 100000 in
theorem l07Hist_any (A : Option Addr) (n ca : Nat) (X : List Bk) (now ret : Int) (w : World) (hX : Small X) (hA : RdBk w w.heap.size A n X) :
    Calls Tryz.prog 51 #[.agg #[.slice A n ca, .int .i64 now, .int .i64 ret]] w (RetLh w X now ret) := by
  have HMT : Hid (∀ u, Below w.heap.size w u → Calls Tryz.prog 79 #[.agg #[.slice A n ca]] u (RetHO u (mntList X) (mntCode X))) := fun u hb => spec_mount A n ca X u hX (rd_step hA hb)
  have hb0 : Below w.heap.size w ((w.alloc (.cells #[.slice A n ca, .int .i64 now, .int .i64 ret] 33)).alloc (.cells #[.slice none 0 0] 64)) := ((Below.refl _ _).alloc (Nat.le_refl _) _).alloc (by simp) _
  have k0 := (isBlk_new w 33 [.slice A n ca, .int .i64 now, .int .i64 ret]).alloc (.cells #[.slice none 0 0] 64)
  have k1 := isBlk_new (w.alloc (.cells #[.slice A n ca, .int .i64 now, .int .i64 ret] 33)) 64 [.slice none 0 0]
  change IsBlk ((w.alloc (.cells #[.slice A n ca, .int .i64 now, .int .i64 ret] 33)).alloc (.cells #[.slice none 0 0] 64)) _ _ _ at k0 k1
  simp only [size_alloc] at k0 k1
  have HEND : Hid (∀ (u : World) (Y : List Rc) (A' : Option Addr) (c' : Nat) (D : Bool), dvB X now ret = D → (D = true → Y = mntList X) → OwRc u w.heap.size u.heap.size A' Y.length Y → Below w.heap.size w u → RetLh w X now ret (.returned (.tuple #[.agg #[.slice A' Y.length c'], .bool D])) u) := fun u Y A' c' D h1 h2 h3 h4 => by
    subst h1; exact ⟨Y, A', c', rfl, h2, h3, h4⟩
  clear hX hA
  go_enter Tryz.func51, Tryz.ntmps51
  go_wp2_with fail
  generalize (w.alloc (.cells #[.slice A n ca, .int .i64 now, .int .i64 ret] 33)).alloc (.cells #[.slice none 0 0] 64) = W at hb0 k0 k1 ⊢
  have HB0 := Lib.hid hb0; have HK0 := Lib.hid k0; have HK1 := Lib.hid k1
  have hlt1 := k1.lt
  obtain ⟨c0, c1, c2, -, -, -⟩ := blk3 k0
  have x0 : W.cell? ⟨w.heap.size + 1, 0, none⟩ = some (.slice none 0 0) := k1.cell rfl
  have xf0 : W.frozen? ⟨w.heap.size + 1, 0, none⟩ = false := k1.free
  clear hb0 k0 k1
  refine (l02Time_any now W).mono ?_
  rintro e u ⟨rfl, rfl⟩
  rw [isB_rc]
  by_cases g1 : rcIs 0 1000000 now = true
  case neg =>
    rw [Bool.not_eq_true] at g1
    have HF : Hid (dvB X now ret = false) := by show _ = false; unfold dvB; rw [g1]; rfl
    rw [g1]
    go_wp2
    refine bodyPost_ret (v := .tuple #[.agg #[.slice none 0 0], .bool false]) (by simp [results, Tryz.results51, go_sem, x0]) rfl ?_
    exact HEND.out _ [] none 0 false HF.out (fun h => by cases h) (ow_nilR _ _ _ _) (HB0.out.setCell (by dsimp only; omega) _)
  rw [g1]
  go_wp2_with fail
  refine (l02Time_any ret W).mono ?_
  rintro e u ⟨rfl, rfl⟩
  rw [isB_rc]
  by_cases g2 : rcIs 0 1000000 ret = true
  case neg =>
    rw [Bool.not_eq_true] at g2
    have HF : Hid (dvB X now ret = false) := by show _ = false; unfold dvB; rw [g2]; simp
    rw [g2]
    go_wp2
    refine bodyPost_ret (v := .tuple #[.agg #[.slice none 0 0], .bool false]) (by simp [results, Tryz.results51, go_sem, x0]) rfl ?_
    exact HEND.out _ [] none 0 false HF.out (fun h => by cases h) (ow_nilR _ _ _ _) (HB0.out.setCell (by dsimp only; omega) _)
  rw [g2]
  go_wp2_with fail
  refine (HMT.out W HB0.out).mono ?_
  rintro e w2 ⟨Am, cm, rfl, hom, hbm⟩
  have HBm := Lib.hid (bel_step HB0.out hbm)
  have HKm0 := Lib.hid (HK0.out.below hbm HK0.out.lt)
  have HKm1 := Lib.hid (HK1.out.below hbm HK1.out.lt)
  have HOm := Lib.hid hom
  have hsm := hbm.size
  have hlen := mntList_len X
  have HC0 : Hid (mntCode X ≠ 0 → dvB X now ret = false) := fun h => dvB_code h
  have HC1 : Hid (mntCode X = 0 → dvB X now ret = decide ((lastR (mntList X)).t ≤ now)) := fun h => by rw [dvB_ok h, g1, g2]; rfl
  have HYY : Hid (∀ D : Bool, D = true → mntList X = mntList X) := fun _ _ => rfl
  replace HEND : Hid (∀ (u : World) (A' : Option Addr) (c' : Nat) (D : Bool), dvB X now ret = D → OwRc u w.heap.size u.heap.size A' (mntList X).length (mntList X) → Below w.heap.size w u → RetLh w X now ret (.returned (.tuple #[.agg #[.slice A' (mntList X).length c'], .bool D])) u) := fun u A' c' D h1 h2 h3 => HEND.out u _ A' c' D h1 (fun _ => rfl) h2 h3
  generalize hY : mntList X = Y at *
  generalize hyl : Y.length = yl at *
  generalize hC : mntCode X = C at *
  have k4 := isBlk_new w2 113 [.slice Am yl cm, .int .i64 C]
  have hb4 := box_below w2 (.cells #[.slice Am yl cm, .int .i64 C] 113)
  change IsBlk (w2.alloc (.cells #[.slice Am yl cm, .int .i64 C] 113)) _ _ _ at k4
  clear hom hbm c0 c1 c2 x0 xf0 HMT
  go_wp2_with fail
  generalize w2.alloc (.cells #[.slice Am yl cm, .int .i64 C] 113) = w4 at k4 hb4 ⊢
  have HB4 := Lib.hid (bel_step HBm.out hb4)
  have HK4 := Lib.hid k4
  have HD4 := Lib.hid (HKm0.out.below hb4 HKm0.out.lt)
  have HR4 := Lib.hid (HKm1.out.below hb4 HKm1.out.lt)
  have HO4 := Lib.hid (HOm.out.below hb4 (Nat.le_refl _))
  have h24 : w2.heap.size < w4.heap.size := k4.lt
  have y0 : w4.cell? ⟨w2.heap.size, 0, none⟩ = some (.slice Am yl cm) := k4.cell rfl
  have y1 : w4.cell? ⟨w2.heap.size, 1, none⟩ = some (.int .i64 C) := k4.cell rfl
  have x0 : w4.cell? ⟨w.heap.size + 1, 0, none⟩ = some (.slice none 0 0) := HR4.out.cell rfl
  have xf0 : w4.frozen? ⟨w.heap.size + 1, 0, none⟩ = false := HR4.out.free
  clear k4 hb4
  by_cases hc : C = 0
  case neg =>
    have hce : (C == 0) = false := by simpa using hc
    have HF := Lib.hid (HC0.out hc)
    first | go_region | fail "no"
    all_goals
      go_wp2
      refine bodyPost_ret (v := .tuple #[.agg #[.slice Am yl cm], .bool false]) (by simp [results, Tryz.results51, go_sem, x0]) rfl ?_
      refine HEND.out _ Am cm false HF.out ?_ ?_
      · refine (HO4.out.mono (Nat.le_refl _) (by simp [World.setCell]; omega)).same ?_ |>.mono (by have := HB0.out.size; omega) (Nat.le_refl _)
        intro k h1 h2
        first | rw [Below.heap_setCell _ _ _ _ (by dsimp only; omega)] | exact Below.heap_setCell _ _ _ _ (by dsimp only; omega)
      · first | exact (HB4.out.setCell (by dsimp only; omega) _).drew | exact HB4.out.drew.setCell (by dsimp only; omega) _
  subst hc
  replace HC1 := Lib.hid (HC1.out rfl)
  have hf := recField_3
  have HLS : Hid (∀ u, Below w4.heap.size w4 u → Calls Tryz.prog 80 #[.agg #[.slice Am yl cm]] u fun e w' => e = .returned (recV (lastR Y)) ∧ Below u.heap.size u w') := fun u hb => l04Last_any Am yl cm Y u (by omega) ((HO4.out.below hb (by omega)).rd (by have := hb.size; omega))
  generalize lastR Y = L at *
  have hne : ¬ w.heap.size + 1 = w2.heap.size := by have := HKm1.out.lt; omega
  have hne' : ¬ w2.heap.size = w.heap.size + 1 := by have := HKm1.out.lt; omega
  have hd4 : w4.cell? ⟨w.heap.size, 1, none⟩ = some (.int .i64 now) := HD4.out.cell rfl
  go_region_held3 (fun w' => w'.cell? ⟨w.heap.size, 1, none⟩ = some (.int .i64 now) ∧ w'.cell? ⟨w2.heap.size, 0, none⟩ = some (.slice Am yl cm) ∧ w'.cell? ⟨w2.heap.size, 1, none⟩ = some (.int .i64 0))
    (first | exact ⟨hd4, y0, y1⟩ | exact hsu | go_keep)
    ((go_at_call 80
      refine (HLS.out _ (by first | exact (Below.refl _ _).drew | exact ((Below.refl _ _).drew.setCell (by dsimp only; omega) _))).mono ?_
      rintro e u ⟨rfl, hbu⟩
      have hbu' : Below w4.heap.size w4 u := bel_step (Below.refl _ _).drew hbu
      have hsu := lh_keep HD4.out HK4.out hbu'
      have hru := HR4.out.below hbu' HR4.out.lt
      have z0 : u.cell? ⟨w.heap.size + 1, 0, none⟩ = some (.slice none 0 0) := hru.cell rfl
      have zf0 : u.frozen? ⟨w.heap.size + 1, 0, none⟩ = false := hru.free
      have HBu := Lib.hid hbu'
      clear hbu hbu' hru))
  all_goals
    go_wp2
    refine bodyPost_ret (v := .tuple #[.agg #[.slice Am yl cm], .bool (decide (L.t ≤ now))]) (by simp [results, Tryz.results51, go_sem, z0]) rfl ?_
    have hus := HBu.out.size
    refine HEND.out _ Am cm _ HC1.out ?_ ((bel_step HB4.out HBu.out).setCell (by dsimp only; omega) _)
    refine ((HO4.out.below HBu.out (by omega)).mono (Nat.le_refl _) (show _ ≤ _ by simp [World.setCell]; omega)).same ?_ |>.mono (by have := HB0.out.size; omega) (Nat.le_refl _)
    intro k h1 h2
    exact Below.heap_setCell _ _ _ _ (by dsimp only; omega)

set_option maxHeartbeats 1000000 in
set_option maxRecDepth 100000 in
theorem spec_driveRight (A : Option Addr) (n ca : Nat) (X : List Bk) (now ret : Int) (w : World) (hX : Small X) (hA : RdBk w w.heap.size A n X) :
    Calls Tryz.prog 16 #[.agg #[.slice A n ca, .int .i64 now, .int .i64 ret]] w fun e w' => e = .returned (.bool (dvB X now ret)) ∧ Below w.heap.size w w' := by
  have hb0 := box_below w (.cells #[.slice A n ca, .int .i64 now, .int .i64 ret] 33)
  have HLH := Lib.hid (l07Hist_any A n ca X now ret (w.alloc (.cells #[.slice A n ca, .int .i64 now, .int .i64 ret] 33)) hX (rd_step hA hb0))
  have HB0 := Lib.hid hb0
  clear hX hA hb0
  go_enter Tryz.func16, Tryz.ntmps16
  go_wp2_with fail
  refine HLH.out.mono ?_
  rintro e u ⟨Y, A', c', rfl, -, -, hbu⟩
  have HB := Lib.hid (bel_step HB0.out hbu)
  generalize Y.length = yl at *
  generalize hD : dvB X now ret = D at *
  clear hbu
  go_wp2
  go_ret
  exact ⟨by rw [hD]; rfl, HB.out.alloc HB.out.size _⟩

set_option maxHeartbeats 1000000 in
set_option maxRecDepth 100000 in
theorem l07Ill_any (c : Int) (w : World) :
    Calls Tryz.prog 57 #[.int .i64 c] w fun e w' => e = .returned (.agg #[.slice none 0 0, .int .i64 0, .int .i64 0, .int .i64 c]) ∧ Below w.heap.size w w' := by
  go_enter Tryz.func57, Tryz.ntmps57
  go_wp2
  refine bodyPost_ret (v := .agg #[.slice none 0 0, .int .i64 0, .int .i64 0, .int .i64 c]) (by simp [results, Tryz.results57, go_sem]) rfl ⟨rfl, ?_⟩
  exact (Below.refl _ _).alloc (Nat.le_refl _) _

set_option maxHeartbeats 1000000 in
set_option maxRecDepth 100000 in
theorem l07With_any (A : Option Addr) (n ca : Nat) (now ret : Int) (A' : Option Addr) (c' : Nat) (r : NdAns) (w : World) (lo hi : Nat) (hhi : hi ≤ w.heap.size) (ho : OwNd w lo hi A' r.nd.length r.nd) :
    Calls Tryz.prog 70 #[.agg #[.slice A n ca, .int .i64 now, .int .i64 ret], .agg #[.slice A' r.nd.length c', .string r.data, .int .i64 r.code]] w fun e w' =>
      ∃ (A2 : Option Addr) (c2 : Nat), e = .returned (.agg #[.slice A2 (dvWith now ret r).nd.length c2, .int .i64 (dvWith now ret r).now, .int .i64 (dvWith now ret r).ret, .int .i64 (dvWith now ret r).code]) ∧ OwNd w' lo hi A2 (dvWith now ret r).nd.length (dvWith now ret r).nd ∧ Below w.heap.size w w' := by
  have HO := Lib.hid ho
  clear ho
  obtain ⟨nd, da, cd⟩ := r
  simp only at *
  by_cases hc : cd = 0
  · subst hc
    have HE : Hid (dvWith now ret ⟨nd, da, 0⟩ = ⟨nd, now, ret, 0⟩) := by show _ = _; unfold dvWith; rw [if_pos rfl]
    rw [HE.out]
    simp only
    generalize hzl : nd.length = zl at *
    go_enter Tryz.func70, Tryz.ntmps70
    go_wp2
    refine bodyPost_ret (v := .agg #[.slice A' zl c', .int .i64 now, .int .i64 ret, .int .i64 0]) (by simp [results, Tryz.results70, go_sem]) rfl ⟨A', c', rfl, ?_, ?_⟩
    · exact HO.out.below ((((Below.refl _ _).alloc (Nat.le_refl _) _).alloc (by simp) _).alloc (by simp; omega) _) hhi
    · exact (((Below.refl _ _).alloc (Nat.le_refl _) _).alloc (by simp) _).alloc (by simp; omega) _
  · have HE : Hid (dvWith now ret ⟨nd, da, cd⟩ = dvIll cd) := by show _ = _; unfold dvWith; rw [if_neg hc]
    rw [HE.out]
    simp only [dvIll, List.length_nil]
    generalize hzl : nd.length = zl at *
    have hce : (cd != 0) = true := by simpa using hc
    go_enter Tryz.func70, Tryz.ntmps70
    go_wp2_with fail
    have hb0 : Below w.heap.size w (((w.alloc (.cells #[.slice A n ca, .int .i64 now, .int .i64 ret] 33)).alloc (.cells #[.slice A' zl c', .string da, .int .i64 cd] 99)).alloc (.cells #[.slice none 0 0, .int .i64 0, .int .i64 0, .int .i64 0] 38)) := (((Below.refl _ _).alloc (Nat.le_refl _) _).alloc (by simp) _).alloc (by simp; omega) _
    have k2 := isBlk_new ((w.alloc (.cells #[.slice A n ca, .int .i64 now, .int .i64 ret] 33)).alloc (.cells #[.slice A' zl c', .string da, .int .i64 cd] 99)) 38 [.slice none 0 0, .int .i64 0, .int .i64 0, .int .i64 0]
    change IsBlk (((w.alloc (.cells #[.slice A n ca, .int .i64 now, .int .i64 ret] 33)).alloc (.cells #[.slice A' zl c', .string da, .int .i64 cd] 99)).alloc (.cells #[.slice none 0 0, .int .i64 0, .int .i64 0, .int .i64 0] 38)) _ _ _ at k2
    simp only [size_alloc] at k2
    generalize (((w.alloc (.cells #[.slice A n ca, .int .i64 now, .int .i64 ret] 33)).alloc (.cells #[.slice A' zl c', .string da, .int .i64 cd] 99)).alloc (.cells #[.slice none 0 0, .int .i64 0, .int .i64 0, .int .i64 0] 38)) = W at hb0 k2 ⊢
    refine (l07Ill_any cd W).mono ?_
    rintro e u ⟨rfl, hbu⟩
    have HB := Lib.hid (bel_step hb0 hbu)
    obtain ⟨d0, d1, d2, d3, fd0, fd1, fd2, fd3⟩ := blk4 (k2.below hbu k2.lt)
    clear hb0 hbu k2
    go_wp2
    refine bodyPost_ret (v := .agg #[.slice none 0 0, .int .i64 0, .int .i64 0, .int .i64 cd]) (by simp [results, Tryz.results70, go_sem, d0, d1, d2, d3]) rfl ⟨none, 0, rfl, ow_nil _ _ _ _, ?_⟩
    repeat (with_reducible refine Below.setCell ?_ ?_ _)
    all_goals first | exact HB.out | (dsimp only; omega)

theorem pt_keep {u w' : World} {b0 b1 : Nat} {e0 e1 : TypeId} {A : Option Addr} {n c : Nat} {now ret k s q t o : Int} {d : ByteArray} (h0 : IsBlk u b0 e0 [.slice A n c, .int .i64 now, .int .i64 ret]) (h1 : IsBlk u b1 e1 [.int .i64 k, .int .i64 s, .int .i64 q, .int .i64 t, .int .i64 o, .string d]) (hb : Below u.heap.size u w') :
    w'.cell? ⟨b0, 0, none⟩ = some (.slice A n c) ∧ w'.cell? ⟨b0, 1, none⟩ = some (.int .i64 now) ∧ w'.cell? ⟨b0, 2, none⟩ = some (.int .i64 ret) ∧ w'.cell? ⟨b1, 0, none⟩ = some (.int .i64 k) ∧ w'.cell? ⟨b1, 1, none⟩ = some (.int .i64 s) ∧ w'.cell? ⟨b1, 2, none⟩ = some (.int .i64 q) ∧ w'.cell? ⟨b1, 3, none⟩ = some (.int .i64 t) ∧ w'.cell? ⟨b1, 4, none⟩ = some (.int .i64 o) ∧ w'.cell? ⟨b1, 5, none⟩ = some (.string d) ∧ Hid (Below u.heap.size u w') :=
  ⟨(h0.below hb h0.lt).cell rfl, (h0.below hb h0.lt).cell rfl, (h0.below hb h0.lt).cell rfl, (h1.below hb h1.lt).cell rfl, (h1.below hb h1.lt).cell rfl, (h1.below hb h1.lt).cell rfl, (h1.below hb h1.lt).cell rfl, (h1.below hb h1.lt).cell rfl, (h1.below hb h1.lt).cell rfl, hb⟩
theorem pt_of {u w' : World} {a b c d e f g h i : Prop} (x : a ∧ b ∧ c ∧ d ∧ e ∧ f ∧ g ∧ h ∧ i ∧ Hid (Below u.heap.size u w')) : Below u.heap.size u w' := x.2.2.2.2.2.2.2.2.2.out
theorem and_nine {a b c d e f g h i j : Prop} (x : a ∧ b ∧ c ∧ d ∧ e ∧ f ∧ g ∧ h ∧ i ∧ j) : a ∧ b ∧ c ∧ d ∧ e ∧ f ∧ g ∧ h ∧ i :=
  ⟨x.1, x.2.1, x.2.2.1, x.2.2.2.1, x.2.2.2.2.1, x.2.2.2.2.2.1, x.2.2.2.2.2.2.1, x.2.2.2.2.2.2.2.1, x.2.2.2.2.2.2.2.2.1⟩
theorem lastR_qq {Y : List Rc} (h : hRight Y = true) : 0 ≤ (lastR Y).q ∧ (lastR Y).q ≤ 1000000 := by
  unfold lastR
  by_cases hl : Y.length = 0
  · rw [List.getD_eq_getElem?_getD, List.getElem?_eq_none (by omega)]
    show (0 : Int) ≤ 0 ∧ (0 : Int) ≤ 1000000
    omega
  · obtain ⟨h1, -, -⟩ := hRight_at h (k := Y.length - 1) (by omega)
    obtain ⟨-, -, -, -, q1, q2, -⟩ := h1
    exact ⟨by omega, q2⟩

set_option maxHeartbeats 4000000 in
set_option maxRecDepth 100000 in
theorem l07Put_any (A Ah : Option Addr) (n ca ch : Nat) (X : List Bk) (r : Rc) (now ret : Int) (w : World) (hc : mntCode X = 0) (hOk : (lastR (mntList X)).q < 1000000 → (dvRec (mntList X) now r).Ok) (hA : RdBk w w.heap.size A n X) (hR : RdRc w w.heap.size Ah (mntList X).length (mntList X)) :
    Calls Tryz.prog 64 #[.agg #[.slice A n ca, .int .i64 now, .int .i64 ret], .agg #[.slice Ah (mntList X).length ch], recV r] w (RetDv w (dvPut X now ret r)) := by
  obtain ⟨z1, z2, z3⟩ := mnt_zero hc
  have hq := lastR_qq z3
  have hlen := mntList_len X
  have HLS : Hid (∀ u : World, Below w.heap.size w u → Calls Tryz.prog 80 #[.agg #[.slice Ah (mntList X).length ch]] u fun e w' => e = .returned (recV (lastR (mntList X))) ∧ Below u.heap.size u w') := fun u hb => l04Last_any Ah _ ch (mntList X) u (by omega) ((hR.below hb).mono hb.size)
  have HFULL : Hid (1000000 ≤ (lastR (mntList X)).q ∨ 48 ≤ (mntList X).length → dvPut X now ret r = dvIll 9) := fun h => by unfold dvPut; rw [if_pos h]
  have HPUT : Hid (¬ (1000000 ≤ (lastR (mntList X)).q ∨ 48 ≤ (mntList X).length) → dvPut X now ret r = dvWith now ret (putAns X 1 (bstr (dvRec (mntList X) now r).bytes))) := fun h => by unfold dvPut; rw [if_neg h]
  have HBY : Hid ((lastR (mntList X)).q < 1000000 → ∀ u : World, Calls Tryz.prog 91 #[.agg #[.int .i64 r.k, .int .i64 r.s, .int .i64 ((lastR (mntList X)).q + 1), .int .i64 now, .int .i64 r.o, .string r.d]] u fun e w' => e = .returned (.string (bstr (dvRec (mntList X) now r).bytes)) ∧ Below u.heap.size u w') := fun hl u => l03Bytes_any (dvRec (mntList X) now r) u (hOk hl)
  have HAPP : Hid (∀ (D : ByteArray) (u : World), Below w.heap.size w u → Calls Tryz.prog 90 #[.agg #[.slice A n ca], .string D, .int .i64 1] u (RetAns u (putAns X 1 D))) := fun D u hb => l05Append_any A n ca X D 1 u z1 (small_ok z1) (rd_step hA hb)
  generalize dvPut X now ret r = R at *
  generalize bstr (dvRec (mntList X) now r).bytes = DD at *
  replace HAPP := Lib.hid (HAPP.out DD)
  generalize putAns X 1 DD = Q at *
  generalize lastR (mntList X) = L at *
  generalize (mntList X).length = yl at *
  clear hc hOk hA hR z1 z2 z3
  obtain ⟨k, s, sq, ti, o, d⟩ := r
  simp only at *
  obtain ⟨lk, ls, lq, lt, lo, ld⟩ := L
  simp only at *
  have hf := recField_2
  have hb0 : Below w.heap.size w ((((w.alloc (.cells #[.slice A n ca, .int .i64 now, .int .i64 ret] 33)).alloc (.cells #[.slice Ah yl ch] 64)).alloc (.cells #[.int .i64 k, .int .i64 s, .int .i64 sq, .int .i64 ti, .int .i64 o, .string d] 80)).alloc (.cells #[.slice none 0 0, .int .i64 0, .int .i64 0, .int .i64 0] 38)) := ((((Below.refl _ _).alloc (Nat.le_refl _) _).alloc (by simp) _).alloc (by simp; omega) _).alloc (by simp; omega) _
  have k0 := (((isBlk_new w 33 [.slice A n ca, .int .i64 now, .int .i64 ret]).alloc (.cells #[.slice Ah yl ch] 64)).alloc (.cells #[.int .i64 k, .int .i64 s, .int .i64 sq, .int .i64 ti, .int .i64 o, .string d] 80)).alloc (.cells #[.slice none 0 0, .int .i64 0, .int .i64 0, .int .i64 0] 38)
  have k1 := ((isBlk_new (w.alloc (.cells #[.slice A n ca, .int .i64 now, .int .i64 ret] 33)) 64 [.slice Ah yl ch]).alloc (.cells #[.int .i64 k, .int .i64 s, .int .i64 sq, .int .i64 ti, .int .i64 o, .string d] 80)).alloc (.cells #[.slice none 0 0, .int .i64 0, .int .i64 0, .int .i64 0] 38)
  have k2 := (isBlk_new ((w.alloc (.cells #[.slice A n ca, .int .i64 now, .int .i64 ret] 33)).alloc (.cells #[.slice Ah yl ch] 64)) 80 [.int .i64 k, .int .i64 s, .int .i64 sq, .int .i64 ti, .int .i64 o, .string d]).alloc (.cells #[.slice none 0 0, .int .i64 0, .int .i64 0, .int .i64 0] 38)
  have k3 := isBlk_new (((w.alloc (.cells #[.slice A n ca, .int .i64 now, .int .i64 ret] 33)).alloc (.cells #[.slice Ah yl ch] 64)).alloc (.cells #[.int .i64 k, .int .i64 s, .int .i64 sq, .int .i64 ti, .int .i64 o, .string d] 80)) 38 [.slice none 0 0, .int .i64 0, .int .i64 0, .int .i64 0]
  change IsBlk ((((w.alloc (.cells #[.slice A n ca, .int .i64 now, .int .i64 ret] 33)).alloc (.cells #[.slice Ah yl ch] 64)).alloc (.cells #[.int .i64 k, .int .i64 s, .int .i64 sq, .int .i64 ti, .int .i64 o, .string d] 80)).alloc (.cells #[.slice none 0 0, .int .i64 0, .int .i64 0, .int .i64 0] 38)) _ _ _ at k0 k1 k2 k3
  simp only [size_alloc] at k0 k1 k2 k3
  go_enter Tryz.func64, Tryz.ntmps64
  go_wp2_with fail
  generalize ((((w.alloc (.cells #[.slice A n ca, .int .i64 now, .int .i64 ret] 33)).alloc (.cells #[.slice Ah yl ch] 64)).alloc (.cells #[.int .i64 k, .int .i64 s, .int .i64 sq, .int .i64 ti, .int .i64 o, .string d] 80)).alloc (.cells #[.slice none 0 0, .int .i64 0, .int .i64 0, .int .i64 0] 38)) = W at hb0 k0 k1 k2 k3 ⊢
  refine (HLS.out W hb0).mono ?_
  rintro e w2 ⟨rfl, hb2⟩
  have HB2 := Lib.hid (bel_step hb0 hb2)
  have HK0 := Lib.hid (k0.below hb2 k0.lt); have HK1 := Lib.hid (k1.below hb2 k1.lt); have HK2 := Lib.hid (k2.below hb2 k2.lt); have HK3 := Lib.hid (k3.below hb2 k3.lt)
  have h2l := HK3.out.lt
  clear hb0 k0 k1 k2 k3 hb2 HLS
  have y0 : w2.cell? ⟨w.heap.size + 1, 0, none⟩ = some (.slice Ah yl ch) := HK1.out.cell rfl
  by_cases g : 1000000 ≤ lq ∨ 48 ≤ yl
  · have HF := HFULL.out g
    subst HF
    obtain ⟨d0, d1, d2, d3, fd0, fd1, fd2, fd3⟩ := blk4 HK3.out
    have HEND : Hid (∀ u, Below w2.heap.size w2 u → ∀ x y z t : Value, RetDv w (dvIll 9) (.returned (.agg #[.slice none 0 0, .int .i64 0, .int .i64 0, .int .i64 9])) ((((u.setCell ⟨w.heap.size + 1 + 1 + 1, 0, none⟩ x).setCell ⟨w.heap.size + 1 + 1 + 1, 1, none⟩ y).setCell ⟨w.heap.size + 1 + 1 + 1, 2, none⟩ z).setCell ⟨w.heap.size + 1 + 1 + 1, 3, none⟩ t)) := fun u hb x y z t =>
      ⟨none, 0, rfl, ow_nil _ _ _ _, ((((bel_step HB2.out hb).setCell (p := ⟨w.heap.size + 1 + 1 + 1, 0, none⟩) (by dsimp only; omega) _).setCell (p := ⟨w.heap.size + 1 + 1 + 1, 1, none⟩) (by dsimp only; omega) _).setCell (p := ⟨w.heap.size + 1 + 1 + 1, 2, none⟩) (by dsimp only; omega) _).setCell (p := ⟨w.heap.size + 1 + 1 + 1, 3, none⟩) (by dsimp only; omega) _⟩
    by_cases g1 : 1000000 ≤ lq
    · go_wp2_with fail
      refine (l07Ill_any 9 _).mono ?_
      rintro e u ⟨rfl, hbu⟩
      have HBu := Lib.hid hbu
      obtain ⟨d0, d1, d2, d3, fd0, fd1, fd2, fd3⟩ := blk4 (HK3.out.below hbu HK3.out.lt)
      clear hbu
      go_wp2
      refine bodyPost_ret (v := .agg #[.slice none 0 0, .int .i64 0, .int .i64 0, .int .i64 9]) (by simp [results, Tryz.results64, go_sem, d0, d1, d2, d3]) rfl ?_
      exact HEND.out _ HBu.out _ _ _ _
    · have g2 : (48 : Int) ≤ (yl : Int) := by omega
      go_wp2_with fail
      refine (l07Ill_any 9 _).mono ?_
      rintro e u ⟨rfl, hbu⟩
      have HBu := Lib.hid hbu
      obtain ⟨d0, d1, d2, d3, fd0, fd1, fd2, fd3⟩ := blk4 (HK3.out.below hbu HK3.out.lt)
      clear hbu
      go_wp2
      refine bodyPost_ret (v := .agg #[.slice none 0 0, .int .i64 0, .int .i64 0, .int .i64 9]) (by simp [results, Tryz.results64, go_sem, d0, d1, d2, d3]) rfl ?_
      exact HEND.out _ HBu.out _ _ _ _
  have g1 : ¬ 1000000 ≤ lq := by omega
  have g2 : ¬ (48 : Int) ≤ (yl : Int) := by omega
  have HF := HPUT.out g
  subst HF
  replace HBY := Lib.hid (HBY.out (by omega))
  have r2 : w2.cell? ⟨w.heap.size + 1 + 1, 2, none⟩ = some (.int .i64 sq) := HK2.out.cell rfl
  have r3 : w2.cell? ⟨w.heap.size + 1 + 1, 3, none⟩ = some (.int .i64 ti) := HK2.out.cell rfl
  have rf2 : w2.frozen? ⟨w.heap.size + 1 + 1, 2, none⟩ = false := HK2.out.free
  have rf3 : w2.frozen? ⟨w.heap.size + 1 + 1, 3, none⟩ = false := HK2.out.free
  have e1 : w2.cell? ⟨w.heap.size, 1, none⟩ = some (.int .i64 now) := HK0.out.cell rfl
  go_wp2_with fail
  have k2 := (HK2.out.set (j := 2) (.int .i64 (lq + 1))).set (j := 3) (.int .i64 now)
  have k0 := (HK0.out.other (a := ⟨w.heap.size + 1 + 1, 2, none⟩) (by dsimp only; omega) (.int .i64 (lq + 1))).other (a := ⟨w.heap.size + 1 + 1, 3, none⟩) (by dsimp only; omega) (.int .i64 now)
  have k3 := (HK3.out.other (a := ⟨w.heap.size + 1 + 1, 2, none⟩) (by dsimp only; omega) (.int .i64 (lq + 1))).other (a := ⟨w.heap.size + 1 + 1, 3, none⟩) (by dsimp only; omega) (.int .i64 now)
  have hb3 := (HB2.out.setCell (p := ⟨w.heap.size + 1 + 1, 2, none⟩) (by dsimp only; omega) (.int .i64 (lq + 1))).setCell (p := ⟨w.heap.size + 1 + 1, 3, none⟩) (by dsimp only; omega) (.int .i64 now)
  generalize (w2.setCell ⟨w.heap.size + 1 + 1, 2, none⟩ (.int .i64 (lq + 1))).setCell ⟨w.heap.size + 1 + 1, 3, none⟩ (.int .i64 now) = w3 at k0 k2 k3 hb3 ⊢
  change IsBlk w3 _ _ [.int .i64 k, .int .i64 s, .int .i64 (lq + 1), .int .i64 now, .int .i64 o, .string d] at k2
  have HB3 := Lib.hid hb3; have HD3 := Lib.hid k0; have HR3 := Lib.hid k2; have HU3 := Lib.hid k3
  have h3l := k3.lt
  have hne : ¬ w.heap.size + 1 + 1 + 1 = w.heap.size := by omega
  clear k0 k2 k3 hb3 y0 r2 r3 rf2 rf3 e1 HK0 HK1 HK2 HK3 HB2 HPUT HFULL
  go_region_held3 (fun w' => w'.cell? ⟨w.heap.size, 0, none⟩ = some (.slice A n ca) ∧ w'.cell? ⟨w.heap.size, 1, none⟩ = some (.int .i64 now) ∧ w'.cell? ⟨w.heap.size, 2, none⟩ = some (.int .i64 ret) ∧ w'.cell? ⟨w.heap.size + 1 + 1, 0, none⟩ = some (.int .i64 k) ∧ w'.cell? ⟨w.heap.size + 1 + 1, 1, none⟩ = some (.int .i64 s) ∧ w'.cell? ⟨w.heap.size + 1 + 1, 2, none⟩ = some (.int .i64 (lq + 1)) ∧ w'.cell? ⟨w.heap.size + 1 + 1, 3, none⟩ = some (.int .i64 now) ∧ w'.cell? ⟨w.heap.size + 1 + 1, 4, none⟩ = some (.int .i64 o) ∧ w'.cell? ⟨w.heap.size + 1 + 1, 5, none⟩ = some (.string d))
    (first | exact and_nine (pt_keep HD3.out HR3.out (Below.refl _ _)) | exact and_nine (pt_keep HD3.out HR3.out (Below.refl _ _).drew) | exact hsx | exact hsy | exact hsz | go_keep)
    (first
      | (go_at_call 91
         refine (HBY.out _).mono ?_
         rintro e x ⟨rfl, hbx⟩
         have HBx : Hid (Below w3.heap.size w3 x) := bel_step (Below.refl _ _).drew hbx
         have hsx := and_nine (pt_keep HD3.out HR3.out HBx.out)
         clear hbx)
      | (go_at_call 90
         refine (HAPP.out _ (bel_step HB3.out HBx.out)).mono ?_
         rintro e y ⟨Ay, cy, rfl, hoy, hby⟩
         have HBy : Hid (Below w3.heap.size w3 y) := bel_step HBx.out hby
         have HOy := Lib.hid hoy
         have hsy := and_nine (pt_keep HD3.out HR3.out HBy.out)
         clear hby hoy)
      | (go_at_call 70
         refine (l07With_any A n ca now ret Ay cy Q y x.heap.size y.heap.size (Nat.le_refl _) HOy.out).mono ?_
         rintro e z ⟨Az, cz, rfl, hoz, hbz⟩
         have HBz : Hid (Below w3.heap.size w3 z) := bel_step HBy.out hbz
         have HOz := Lib.hid hoz
         have hsz := and_nine (pt_keep HD3.out HR3.out HBz.out)
         have hxx := HBx.out.size
         have hyz := hbz.size
         obtain ⟨d0, d1, d2, d3, fd0, fd1, fd2, fd3⟩ := blk4 (HU3.out.below HBz.out HU3.out.lt)
         clear hbz hoz))
  all_goals
    generalize hDD : dvWith now ret Q = D at *
    obtain ⟨nd, tn, tr, dc⟩ := D
    simp only at *
    generalize hzl : nd.length = zl at *
    go_wp2
    refine bodyPost_ret (v := .agg #[.slice Az zl cz, .int .i64 tn, .int .i64 tr, .int .i64 dc]) (by simp [results, Tryz.results64, go_sem, d0, d1, d2, d3]) rfl ?_
    try rw [hDD]
    subst hzl
    refine ⟨Az, cz, rfl, ?_, ?_⟩
    · have hyz' := HBz.out.size
      have h30 := HB3.out.size
      refine (HOz.out.mono (Nat.le_refl _) (show _ ≤ _ by simp [World.setCell]; omega)).same ?_ |>.mono (by omega) (Nat.le_refl _)
      intro k h1 h2
      repeat rw [Below.heap_setCell _ _ _ _ (by dsimp only; omega)]
    · repeat (with_reducible refine Below.setCell ?_ ?_ _)
      all_goals first | exact bel_step HB3.out HBz.out | (dsimp only; omega)
end Go.Proofs.YtohmkjgmhippoaaGreatDoor

namespace Go.Proofs.YtohmkjgmhippoaaGreatDoor
open Go.RowKit
open Bt (Rc)

/-- three cells of one block, set one behind the other -/
theorem set3r {w : World} {b : Nat} {e : TypeId} {a0 a1 a2 : Value} (h : IsBlk w b e [a0, a1, a2]) (x y z : Value) : IsBlk (((w.setCell ⟨b, 0, none⟩ x).setCell ⟨b, 1, none⟩ y).setCell ⟨b, 2, none⟩ z) b e [x, y, z] := by
  have := ((h.set (j := 0) x).set (j := 1) y).set (j := 2) z
  exact this
/-- what ReadAt answers -/
noncomputable def rdAns (X : List Bk) (now ret s a : Int) : Vo := if dvB X now ret = true ∧ a ≤ now then asOf (mntList X) s a else ⟨false, ⟨#[]⟩, 1⟩
def VoZ : Vo := ⟨false, ⟨#[]⟩, 0⟩

set_option maxHeartbeats 1000000 in
set_option maxRecDepth 100000 in
theorem wkValue_any (b : Nat) (A Ah : Option Addr) (n ca m ch : Nat) (Y : List Rc) (now ret s a : Int) (w : World) (hk : IsBlk w b 90 (wkC A n ca Ah m ch now ret)) (hS : SmallR Y) (hca : m ≤ ch) (hA : RdRc w w.heap.size Ah m Y) :
    Calls Tryz.prog 68 #[.pointer (some ⟨b, 0, none⟩), .int .i64 s, .int .i64 a] w fun e w' => e = .returned (voV (asOf Y s a)) ∧ Below w.heap.size w w' := by
  have hb0 := box_below w (.cells #[.bool false, .string ⟨#[]⟩, .int .i64 0] 49)
  have k0 := isBlk_new w 49 [.bool false, .string ⟨#[]⟩, .int .i64 0]
  change IsBlk (w.alloc (.cells #[.bool false, .string ⟨#[]⟩, .int .i64 0] 49)) _ _ _ at k0
  have HAS := Lib.hid (impl_asOf Ah m ch Y s a (w.alloc (.cells #[.bool false, .string ⟨#[]⟩, .int .i64 0] 49)) hS hca ((hA.below hb0).mono hb0.size))
  have kb := hk.below hb0 hk.lt
  obtain ⟨c0, c1, c2, c3, -, -, -, -⟩ := blk4 kb
  clear hk hS hca hA kb
  go_enter Tryz.func68, Tryz.ntmps68
  go_wp2_with fail
  generalize w.alloc (.cells #[.bool false, .string ⟨#[]⟩, .int .i64 0] 49) = W at *
  refine HAS.out.mono ?_
  rintro e u ⟨rfl, hb⟩
  have HB := Lib.hid (bel_step hb0 hb)
  obtain ⟨d0, d1, d2, fd0, fd1, fd2⟩ := blk3 (k0.below hb k0.lt)
  generalize hv : asOf Y s a = v at *
  obtain ⟨vt, vd, vc⟩ := v
  clear hb0 hb k0 HAS c0 c1 c2 c3
  go_wp2
  refine bodyPost_ret (v := .agg #[.bool vt, .string vd, .int .i64 vc]) (by simp [results, Tryz.results68, go_sem, d0, d1, d2]) rfl ⟨by rw [hv], ?_⟩
  repeat (with_reducible refine Below.setCell ?_ ?_ _)
  all_goals first | exact HB.out | (dsimp only; omega)

/-- what the reading work answers: the value lies in block g, or the work was given up -/
def RetRead (w : World) (g : Nat) (V : Vo) (code : Int) (e : Ending) (w' : World) : Prop :=
  Btw g (g + 1) w w' ∧ (code ≠ 0 ∧ e = .panicked (viol code) ∧ IsBlk w' g 49 [.bool false, .string ⟨#[]⟩, .int .i64 0] ∨ code = 0 ∧ e = .returned (.tuple #[]) ∧ IsBlk w' g 49 [.bool V.there, .string V.data, .int .i64 V.code])

set_option maxHeartbeats 2000000 in
set_option maxRecDepth 100000 in
theorem read1_any (gd ga gs gv : Nat) (A : Option Addr) (n ca : Nat) (X : List Bk) (now ret s a : Int) (a0 a2 : Addr) (w : World) (kd : IsBlk w gd 33 [.slice A n ca, .int .i64 now, .int .i64 ret]) (ka : IsBlk w ga 2 [.int .i64 a]) (ks : IsBlk w gs 2 [.int .i64 s]) (kv : IsBlk w gv 49 [.bool false, .string ⟨#[]⟩, .int .i64 0])
    (hG : ErrType w) (hS : Two w a0 a2) (hX : Small X) (hA : RdBk w w.heap.size A n X) :
    Calls Tryz.prog 66 #[.pointer (some ⟨gd, 0, none⟩), .pointer (some ⟨ga, 0, none⟩), .pointer (some ⟨gs, 0, none⟩), .pointer (some ⟨gv, 0, none⟩)] w (RetRead w gv (asOf (mntList X) s a) (if dvB X now ret = true ∧ a ≤ now then 0 else 1)) := by
  obtain ⟨cc, hcc⟩ : ∃ cc : Int, cc = if dvB X now ret = true ∧ a ≤ now then 0 else 1 := ⟨_, rfl⟩
  have HC1 : Hid (¬ (dvB X now ret = true ∧ a ≤ now) → cc = 1) := fun h => by rw [hcc, if_neg h]
  have HC0 : Hid (dvB X now ret = true ∧ a ≤ now → cc = 0) := fun h => by rw [hcc, if_pos h]
  rw [← hcc]
  clear hcc
  have HBEG := Lib.hid (begin_any A n ca X now ret a0 a2 w hG hS hX hA)
  obtain ⟨c0, c1, c2, -, -, -⟩ := blk3 kd
  have HKA := Lib.hid ka; have HKS := Lib.hid ks; have HKV := Lib.hid kv
  generalize hV : asOf (mntList X) s a = V at *
  clear kd ka ks kv hG hS hX hA
  go_enter Tryz.func66, Tryz.ntmps66
  go_wp2_with fail
  refine HBEG.out.mono ?_
  rintro e u ⟨hbu, hu⟩
  rcases hu with ⟨hf, rfl⟩ | ⟨hf, b, Ah, ch, rfl, hwk⟩
  · refine ⟨rfl, ?_⟩
    rw [HC1.out (fun h => by rw [hf] at h; exact absurd h.1 (by simp))]
    exact ⟨Btw.of_below hbu, .inl ⟨by decide, rfl, HKV.out.below hbu HKV.out.lt⟩⟩
  obtain ⟨hcd, -⟩ := dvB_yes hf
  obtain ⟨z1, z2, z3⟩ := mnt_zero hcd
  have HVAL : Hid (∀ x, Below u.heap.size u x → Calls Tryz.prog 68 #[.pointer (some ⟨b, 0, none⟩), .int .i64 s, .int .i64 a] x fun e w' => e = .returned (voV V) ∧ Below x.heap.size x w') := fun x hx => by
    rw [← hV]
    exact wkValue_any b A Ah n ca (mntList X).length ch (mntList X) now ret s a x (hwk.blk.below hx hwk.blk.lt) (by rw [z2]; exact mnt_smallR z1) hwk.cap ((hwk.own.below hx (Nat.le_of_lt hwk.blk.lt)).rd (by have := hx.size; have := hwk.blk.lt; omega))
  have HBu := Lib.hid hbu
  obtain ⟨-, -, n2, -, -, -, -, -⟩ := blk4 hwk.blk
  have x0 : u.cell? ⟨ga, 0, none⟩ = some (.int .i64 a) := (HKA.out.below hbu HKA.out.lt).cell rfl
  have y0 : u.cell? ⟨gs, 0, none⟩ = some (.int .i64 s) := (HKS.out.below hbu HKS.out.lt).cell rfl
  clear hbu hwk HBEG c0 c1 c2 hcd z1 z2 z3 hV
  go_wp2_with fail
  by_cases g : a ≤ now
  case neg =>
    have hcc := HC1.out (fun h => g h.2)
    subst hcc
    refine wp_region_still_tail 6 (by kernel_rfl) (by kernel_rfl) ?_
    simp only [List.take_succ_cons, List.take_zero, List.drop_succ_cons, List.drop_zero]
    simp [wpStill, go_sem, x0, n2, g, Oper.still, Oper.stillUpon]
    go_wp2_with fail
    refine (require_no 1 _).mono ?_
    rintro e x ⟨rfl, rfl⟩
    exact ⟨rfl, Btw.of_below HBu.out.drew, .inl ⟨by decide, rfl, HKV.out.below HBu.out.drew HKV.out.lt⟩⟩
  have hcc := HC0.out ⟨hf, g⟩
  subst hcc
  refine wp_region_still_tail 6 (by kernel_rfl) (by kernel_rfl) ?_
  simp only [List.take_succ_cons, List.take_zero, List.drop_succ_cons, List.drop_zero]
  simp [wpStill, go_sem, x0, n2, g, Oper.still, Oper.stillUpon]
  go_wp2_with fail
  refine (require_yes 1 _).mono ?_
  rintro e x ⟨rfl, rfl⟩
  have HBd : Hid (Below u.heap.size u u.drew) := (Below.refl _ _).drew
  have HBw := Lib.hid HBu.out.drew
  have x1 : u.drew.cell? ⟨ga, 0, none⟩ = some (.int .i64 a) := x0
  have y1 : u.drew.cell? ⟨gs, 0, none⟩ = some (.int .i64 s) := y0
  generalize u.drew = U at *
  clear x0 y0 n2
  go_wp2_with fail
  refine wp_region_still_tail 5 (by kernel_rfl) (by kernel_rfl) ?_
  simp only [List.take_succ_cons, List.take_zero, List.drop_succ_cons, List.drop_zero]
  simp [wpStill, go_sem, x1, y1, Oper.still, Oper.stillUpon]
  go_wp2_with fail
  refine (HVAL.out _ HBd.out.drew).mono ?_
  rintro e x ⟨rfl, hbx⟩
  have HBx := Lib.hid (bel_step HBw.out.drew hbx)
  have HKx := Lib.hid (HKV.out.below HBx.out HKV.out.lt)
  have hgv := HKV.out.lt
  obtain ⟨d0, d1, d2, fd0, fd1, fd2⟩ := blk3 HKx.out
  clear hbx
  go_wp2
  go_end0
  refine ⟨(((Btw.of_below HBx.out).setCell (p := ⟨gv, 0, none⟩) (.inl ⟨Nat.le_refl _, Nat.lt_succ_self _⟩) _).setCell (p := ⟨gv, 1, none⟩) (.inl ⟨Nat.le_refl _, Nat.lt_succ_self _⟩) _).setCell (p := ⟨gv, 2, none⟩) (.inl ⟨Nat.le_refl _, Nat.lt_succ_self _⟩) _, .inr ⟨rfl, rfl, ?_⟩⟩
  exact set3r HKx.out _ _ _
theorem callFunc_read1 (args : Array Value) (W : World) : (callFunc 66 args).run Tryz.prog W = .ok (.enter 66 args) W := by kernel_rfl

set_option maxHeartbeats 2000000 in
set_option maxRecDepth 100000 in
theorem impl_dvReadAt (A : Option Addr) (n ca : Nat) (X : List Bk) (now ret s a : Int) (a0 a2 : Addr) (w : World) (hG : ErrType w) (hS : Two w a0 a2) (hX : Small X) (hA : RdBk w w.heap.size A n X) :
    Calls Tryz.prog 36 #[.agg #[.slice A n ca, .int .i64 now, .int .i64 ret], .int .i64 s, .int .i64 a] w fun e w' => e = .returned (voV (rdAns X now ret s a)) ∧ Below w.heap.size w w' := by
  have hmf : ∀ (fn : Fn) (first cap : Array Value) (w : World), (Instr.makeFunc fn first cap).run Tryz.prog w = .ok (.func fn first cap) w := fun _ _ _ _ => rfl
  have HA := Lib.hid hA; have HX := Lib.hid hX; have HS := Lib.hid hS; have HG := Lib.hid hG
  clear hA hX hS hG
  have hb0 : Below w.heap.size w (((((w.alloc (.cells #[.slice A n ca, .int .i64 now, .int .i64 ret] 33)).alloc (.cells #[.int .i64 s] 2)).alloc (.cells #[.int .i64 a] 2)).alloc (.cells #[.bool false, .string ⟨#[]⟩, .int .i64 0] 49)).alloc (.cells #[.bool false, .string ⟨#[]⟩, .int .i64 0] 49)) := (((((Below.refl _ _).alloc (Nat.le_refl _) _).alloc (by simp) _).alloc (by simp; omega) _).alloc (by simp; omega) _).alloc (by simp; omega) _
  have k0 := ((((isBlk_new w 33 [.slice A n ca, .int .i64 now, .int .i64 ret]).alloc (.cells #[.int .i64 s] 2)).alloc (.cells #[.int .i64 a] 2)).alloc (.cells #[.bool false, .string ⟨#[]⟩, .int .i64 0] 49)).alloc (.cells #[.bool false, .string ⟨#[]⟩, .int .i64 0] 49)
  have k1 := (((isBlk_new (w.alloc (.cells #[.slice A n ca, .int .i64 now, .int .i64 ret] 33)) 2 [.int .i64 s]).alloc (.cells #[.int .i64 a] 2)).alloc (.cells #[.bool false, .string ⟨#[]⟩, .int .i64 0] 49)).alloc (.cells #[.bool false, .string ⟨#[]⟩, .int .i64 0] 49)
  have k2 := ((isBlk_new ((w.alloc (.cells #[.slice A n ca, .int .i64 now, .int .i64 ret] 33)).alloc (.cells #[.int .i64 s] 2)) 2 [.int .i64 a]).alloc (.cells #[.bool false, .string ⟨#[]⟩, .int .i64 0] 49)).alloc (.cells #[.bool false, .string ⟨#[]⟩, .int .i64 0] 49)
  have k3 := (isBlk_new (((w.alloc (.cells #[.slice A n ca, .int .i64 now, .int .i64 ret] 33)).alloc (.cells #[.int .i64 s] 2)).alloc (.cells #[.int .i64 a] 2)) 49 [.bool false, .string ⟨#[]⟩, .int .i64 0]).alloc (.cells #[.bool false, .string ⟨#[]⟩, .int .i64 0] 49)
  have k4 := isBlk_new ((((w.alloc (.cells #[.slice A n ca, .int .i64 now, .int .i64 ret] 33)).alloc (.cells #[.int .i64 s] 2)).alloc (.cells #[.int .i64 a] 2)).alloc (.cells #[.bool false, .string ⟨#[]⟩, .int .i64 0] 49)) 49 [.bool false, .string ⟨#[]⟩, .int .i64 0]
  have hz : (((((w.alloc (.cells #[.slice A n ca, .int .i64 now, .int .i64 ret] 33)).alloc (.cells #[.int .i64 s] 2)).alloc (.cells #[.int .i64 a] 2)).alloc (.cells #[.bool false, .string ⟨#[]⟩, .int .i64 0] 49)).alloc (.cells #[.bool false, .string ⟨#[]⟩, .int .i64 0] 49)).heap.size = w.heap.size + 5 := by simp
  change IsBlk (((((w.alloc (.cells #[.slice A n ca, .int .i64 now, .int .i64 ret] 33)).alloc (.cells #[.int .i64 s] 2)).alloc (.cells #[.int .i64 a] 2)).alloc (.cells #[.bool false, .string ⟨#[]⟩, .int .i64 0] 49)).alloc (.cells #[.bool false, .string ⟨#[]⟩, .int .i64 0] 49)) _ _ _ at k0 k1 k2 k3 k4
  simp only [size_alloc] at k0 k1 k2 k3 k4
  go_enter Tryz.func36, Tryz.ntmps36
  go_wp2_with fail
  generalize (((((w.alloc (.cells #[.slice A n ca, .int .i64 now, .int .i64 ret] 33)).alloc (.cells #[.int .i64 s] 2)).alloc (.cells #[.int .i64 a] 2)).alloc (.cells #[.bool false, .string ⟨#[]⟩, .int .i64 0] 49)).alloc (.cells #[.bool false, .string ⟨#[]⟩, .int .i64 0] 49)) = W at hb0 k0 k1 k2 k3 k4 hz ⊢
  have HB0 := Lib.hid hb0; have HK3 := Lib.hid k3
  have HWORK : Hid (Calls Tryz.prog 66 (#[] ++ #[.pointer (some ⟨w.heap.size, 0, none⟩), .pointer (some ⟨w.heap.size + 1 + 1, 0, none⟩), .pointer (some ⟨w.heap.size + 1, 0, none⟩), .pointer (some ⟨w.heap.size + 1 + 1 + 1 + 1, 0, none⟩)]) (W.alloc (.cells #[.int .i64 0] 2)) fun e w' => (w'.cell? ⟨W.heap.size, 0, none⟩ = some (.int .i64 0) ∧ w'.frozen? ⟨W.heap.size, 0, none⟩ = false) ∧ ∃ c : Int, (e = .returned (.tuple #[]) ∧ c = 0 ∨ e = .panicked (viol c)) ∧ (c = (if dvB X now ret = true ∧ a ≤ now then 0 else 1) ∧ ∃ e', RetRead (W.alloc (.cells #[.int .i64 0] 2)) (w.heap.size + 1 + 1 + 1 + 1) (asOf (mntList X) s a) c e' w')) := by
    have hb1 := box_below W (.cells #[.int .i64 0] 2)
    have hb2 := bel_step hb0 hb1
    have kc := isBlk_new W 2 [.int .i64 0]
    change IsBlk (W.alloc (.cells #[.int .i64 0] 2)) _ _ _ at kc
    have hz1 : (W.alloc (.cells #[.int .i64 0] 2)).heap.size = W.heap.size + 1 := by simp
    have key := read1_any w.heap.size (w.heap.size + 1 + 1) (w.heap.size + 1) (w.heap.size + 1 + 1 + 1 + 1) A n ca X now ret s a a0 a2 _ (k0.below hb1 k0.lt) (k2.below hb1 k2.lt) (k1.below hb1 k1.lt) (k4.below hb1 k4.lt) (HG.out.below hb2) (HS.out.below hb2) HX.out (rd_step HA.out hb2)
    rw [Array.empty_append]
    refine key.mono ?_
    rintro e w' h
    obtain ⟨hbt, h5⟩ := h
    have kc' : IsBlk w' W.heap.size 2 [.int .i64 0] := (hbt.block W.heap.size (by omega) (.inr (by omega))).trans kc
    refine ⟨⟨kc'.cell rfl, kc'.free⟩, _, ?_, rfl, e, hbt, h5⟩
    rcases h5 with ⟨-, rfl, -⟩ | ⟨hc, rfl, -⟩
    · exact .inr rfl
    · exact .inl ⟨rfl, hc⟩
  have HR0 : Hid (dvB X now ret = true ∧ a ≤ now → rdAns X now ret s a = asOf (mntList X) s a) := fun h => by unfold rdAns; rw [if_pos h]
  have HR1 : Hid (¬ (dvB X now ret = true ∧ a ≤ now) → rdAns X now ret s a = ⟨false, ⟨#[]⟩, 1⟩) := fun h => by unfold rdAns; rw [if_neg h]
  clear hb0 k0 k1 k2 k3 k4 HG HS HX HA
  refine (attempt_any 66 _ _ W _ (callFunc_read1 _) HWORK.out).mono ?_
  rintro e V ⟨c, u, rfl, ⟨hcc, e', hbt, h5⟩, rfl⟩
  have hu : W.heap.size + 1 ≤ u.heap.size := by have := hbt.size; simpa using this
  have HBV : Hid (Below w.heap.size w (u.setCell ⟨W.heap.size, 0, none⟩ (.int .i64 c))) := by
    have h1 : Below w.heap.size (W.alloc (.cells #[.int .i64 0] 2)) u := (hbt.below (by simp; omega)).mono (by omega)
    exact (((HB0.out.alloc HB0.out.size _).trans h1).setCell (p := ⟨W.heap.size, 0, none⟩) (by dsimp only; omega) _)
  have HK5 : IsBlk u (w.heap.size + 1 + 1 + 1) 49 [.bool false, .string ⟨#[]⟩, .int .i64 0] := (hbt.block (w.heap.size + 1 + 1 + 1) (by simp; omega) (.inl (by omega))).trans (HK3.out.alloc _)
  have HKV := HK5.other (a := ⟨W.heap.size, 0, none⟩) (by dsimp only; omega) (.int .i64 c)
  obtain ⟨d0, d1, d2, fd0, fd1, fd2⟩ := blk3 HKV
  by_cases g : dvB X now ret = true ∧ a ≤ now
  · rw [if_pos g] at hcc
    subst hcc
    rcases h5 with ⟨hc, -, -⟩ | ⟨-, -, hk5⟩
    · exact absurd rfl hc
    have hkV := hk5.other (a := ⟨W.heap.size, 0, none⟩) (by dsimp only; omega) (.int .i64 0)
    have HRe := Lib.hid (HR0.out g)
    generalize asOf (mntList X) s a = v at *
    obtain ⟨vt, vd, vc⟩ := v
    simp only at *
    generalize u.setCell ⟨W.heap.size, 0, none⟩ (.int .i64 0) = V at *
    obtain ⟨e0, e1, e2, -, -, -⟩ := blk3 hkV
    clear hbt hk5 HK5 HKV hkV HWORK HR0 HR1 g
    go_wp2
    refine bodyPost_ret (v := .agg #[.bool vt, .string vd, .int .i64 vc]) (by simp [results, Tryz.results36, go_sem, d0, d1, d2]) rfl ⟨by rw [HRe.out], ?_⟩
    repeat (with_reducible refine Below.setCell ?_ ?_ _)
    all_goals first | exact HBV.out | (dsimp only; omega)
  · rw [if_neg g] at hcc
    subst hcc
    have HRe := Lib.hid (HR1.out g)
    generalize u.setCell ⟨W.heap.size, 0, none⟩ (.int .i64 1) = V at *
    clear hbt h5 HK5 HKV HWORK HR0 HR1 g
    go_wp2
    refine bodyPost_ret (v := .agg #[.bool false, .string ⟨#[]⟩, .int .i64 1]) (by simp [results, Tryz.results36, go_sem, d0, d1, d2]) rfl ⟨by rw [HRe.out], ?_⟩
    repeat (with_reducible refine Below.setCell ?_ ?_ _)
    all_goals first | exact HBV.out | (dsimp only; omega)

set_option maxHeartbeats 2000000 in
set_option maxRecDepth 100000 in
theorem spec_dvReadAt (A : Option Addr) (n ca : Nat) (X : List Bk) (now ret s a : Int) (w : World) (hX : Small X) (hA : RdBk w w.heap.size A n X) :
    Calls Tryz.prog 35 #[.agg #[.slice A n ca, .int .i64 now, .int .i64 ret], .int .i64 s, .int .i64 a] w fun e w' => e = .returned (voV (rdAns X now ret s a)) ∧ Below w.heap.size w w' := by
  have HA := Lib.hid hA; have HX := Lib.hid hX; clear hA hX
  have HR0 : Hid (dvB X now ret = true ∧ a ≤ now → rdAns X now ret s a = asOf (mntList X) s a) := fun h => by unfold rdAns; rw [if_pos h]
  have HR1 : Hid (¬ (dvB X now ret = true ∧ a ≤ now) → rdAns X now ret s a = ⟨false, ⟨#[]⟩, 1⟩) := fun h => by unfold rdAns; rw [if_neg h]
  have hb0 : Below w.heap.size w ((w.alloc (.cells #[.slice A n ca, .int .i64 now, .int .i64 ret] 33)).alloc (.cells #[.bool false, .string ⟨#[]⟩, .int .i64 0] 49)) := ((Below.refl _ _).alloc (Nat.le_refl _) _).alloc (by simp) _
  have k0 := (isBlk_new w 33 [.slice A n ca, .int .i64 now, .int .i64 ret]).alloc (.cells #[.bool false, .string ⟨#[]⟩, .int .i64 0] 49)
  have k1 := isBlk_new (w.alloc (.cells #[.slice A n ca, .int .i64 now, .int .i64 ret] 33)) 49 [.bool false, .string ⟨#[]⟩, .int .i64 0]
  change IsBlk ((w.alloc (.cells #[.slice A n ca, .int .i64 now, .int .i64 ret] 33)).alloc (.cells #[.bool false, .string ⟨#[]⟩, .int .i64 0] 49)) _ _ _ at k0 k1
  simp only [size_alloc] at k0 k1
  go_enter Tryz.func35, Tryz.ntmps35
  go_wp2_with fail
  generalize ((w.alloc (.cells #[.slice A n ca, .int .i64 now, .int .i64 ret] 33)).alloc (.cells #[.bool false, .string ⟨#[]⟩, .int .i64 0] 49)) = W at hb0 k0 k1 ⊢
  refine (l07Hist_any A n ca X now ret W HX.out (rd_step HA.out hb0)).mono ?_
  rintro e u ⟨Y, Ah, ch, rfl, hYe, ho, hb⟩
  generalize hyl : Y.length = yl at *
  have hbh := box_below u (.cells #[.slice Ah yl ch] 64)
  have kh := isBlk_new u 64 [.slice Ah yl ch]
  change IsBlk (u.alloc (.cells #[.slice Ah yl ch] 64)) _ _ _ at kh
  have HUw := Lib.hid (bel_step (bel_step hb0 hb) hbh)
  have HK0 := Lib.hid ((k0.below hb k0.lt).below hbh (Nat.lt_of_lt_of_le k0.lt hb.size))
  have HK1 := Lib.hid ((k1.below hb k1.lt).below hbh (Nat.lt_of_lt_of_le k1.lt hb.size))
  have HKH := Lib.hid kh
  have HOH := Lib.hid (ho.below hbh (Nat.le_refl _))
  have hsz := size_alloc u (.cells #[.slice Ah yl ch] 64)
  obtain ⟨d0, d1, d2, fd0, fd1, fd2⟩ := blk3 HK1.out
  obtain ⟨e0, e1, e2, -, -, -⟩ := blk3 HK0.out
  have y0 : (u.alloc (.cells #[.slice Ah yl ch] 64)).cell? ⟨u.heap.size, 0, none⟩ = some (.slice Ah yl ch) := kh.cell rfl
  clear ho hb hbh kh hb0 k0 k1
  cases hD : dvB X now ret with
  | false =>
    have HRe := Lib.hid (HR1.out (fun h => by rw [hD] at h; exact absurd h.1 (by simp)))
    clear hYe
    go_wp2
    refine bodyPost_ret (v := .agg #[.bool false, .string ⟨#[]⟩, .int .i64 1]) (by simp [results, Tryz.results35, go_sem, d0, d1, d2]) rfl ⟨by rw [HRe.out], ?_⟩
    repeat (with_reducible refine Below.setCell ?_ ?_ _)
    all_goals first | exact HUw.out | (dsimp only; omega)
  | true =>
    by_cases g : a ≤ now
    case neg =>
      have HRe := Lib.hid (HR1.out (fun h => g h.2))
      have g' : now < a := by omega
      clear hYe
      go_wp2
      refine bodyPost_ret (v := .agg #[.bool false, .string ⟨#[]⟩, .int .i64 1]) (by simp [results, Tryz.results35, go_sem, d0, d1, d2]) rfl ⟨by rw [HRe.out], ?_⟩
      repeat (with_reducible refine Below.setCell ?_ ?_ _)
      all_goals first | exact HUw.out | (dsimp only; omega)
    have HRe := Lib.hid (HR0.out ⟨hD, g⟩)
    have hYm := hYe hD
    subst hYm
    obtain ⟨z1, z2, z3⟩ := mnt_zero (dvB_yes hD).1
    have g' : ¬ now < a := by omega
    have HAS := Lib.hid (spec_asOf Ah yl ch (mntList X) s a (u.alloc (.cells #[.slice Ah yl ch] 64)) (by rw [z2]; exact mnt_smallR z1) (HOH.out.rd (by omega)))
    generalize asOf (mntList X) s a = v at *
    obtain ⟨vt, vd, vc⟩ := v
    clear hYe z1 z2 z3
    go_wp2_with fail
    refine HAS.out.mono ?_
    rintro e x ⟨rfl, hbx⟩
    have HBx := Lib.hid (bel_step HUw.out hbx)
    have hKx := HK1.out.below hbx HK1.out.lt
    clear d0 d1 d2 fd0 fd1 fd2 hbx HAS
    obtain ⟨d0, d1, d2, fd0, fd1, fd2⟩ := blk3 hKx
    clear hKx
    go_wp2
    refine bodyPost_ret (v := .agg #[.bool vt, .string vd, .int .i64 vc]) (by simp [results, Tryz.results35, go_sem, d0, d1, d2]) rfl ⟨by rw [HRe.out], ?_⟩
    repeat (with_reducible refine Below.setCell ?_ ?_ _)
    all_goals first | exact HBx.out | (dsimp only; omega)

set_option maxHeartbeats 1000000 in
set_option maxRecDepth 100000 in
theorem impl_dvRead (A : Option Addr) (n ca : Nat) (X : List Bk) (now ret s : Int) (a0 a2 : Addr) (w : World) (hG : ErrType w) (hS : Two w a0 a2) (hX : Small X) (hA : RdBk w w.heap.size A n X) :
    Calls Tryz.prog 33 #[.agg #[.slice A n ca, .int .i64 now, .int .i64 ret], .int .i64 s] w fun e w' => e = .returned (voV (rdAns X now ret s now)) ∧ Below w.heap.size w w' := by
  have hb0 : Below w.heap.size w ((w.alloc (.cells #[.slice A n ca, .int .i64 now, .int .i64 ret] 33)).alloc (.cells #[.bool false, .string ⟨#[]⟩, .int .i64 0] 49)) := ((Below.refl _ _).alloc (Nat.le_refl _) _).alloc (by simp) _
  have k1 := isBlk_new (w.alloc (.cells #[.slice A n ca, .int .i64 now, .int .i64 ret] 33)) 49 [.bool false, .string ⟨#[]⟩, .int .i64 0]
  change IsBlk ((w.alloc (.cells #[.slice A n ca, .int .i64 now, .int .i64 ret] 33)).alloc (.cells #[.bool false, .string ⟨#[]⟩, .int .i64 0] 49)) _ _ _ at k1
  simp only [size_alloc] at k1
  have HRD := Lib.hid (impl_dvReadAt A n ca X now ret s now a0 a2 ((w.alloc (.cells #[.slice A n ca, .int .i64 now, .int .i64 ret] 33)).alloc (.cells #[.bool false, .string ⟨#[]⟩, .int .i64 0] 49)) (hG.below hb0) (hS.below hb0) hX (rd_step hA hb0))
  clear hG hS hX hA
  go_enter Tryz.func33, Tryz.ntmps33
  go_wp2_with fail
  generalize ((w.alloc (.cells #[.slice A n ca, .int .i64 now, .int .i64 ret] 33)).alloc (.cells #[.bool false, .string ⟨#[]⟩, .int .i64 0] 49)) = W at hb0 k1 HRD ⊢
  refine HRD.out.mono ?_
  rintro e u ⟨rfl, hb⟩
  have HB := Lib.hid (bel_step hb0 hb)
  obtain ⟨d0, d1, d2, fd0, fd1, fd2⟩ := blk3 (k1.below hb k1.lt)
  generalize hv : rdAns X now ret s now = v at *
  obtain ⟨vt, vd, vc⟩ := v
  clear hb0 hb k1 HRD
  go_wp2
  refine bodyPost_ret (v := .agg #[.bool vt, .string vd, .int .i64 vc]) (by simp [results, Tryz.results33, go_sem, d0, d1, d2]) rfl ⟨by rw [hv], ?_⟩
  repeat (with_reducible refine Below.setCell ?_ ?_ _)
  all_goals first | exact HB.out | (dsimp only; omega)

set_option maxHeartbeats 1000000 in
set_option maxRecDepth 100000 in
theorem spec_dvRead (A : Option Addr) (n ca : Nat) (X : List Bk) (now ret s : Int) (w : World) (hX : Small X) (hA : RdBk w w.heap.size A n X) :
    Calls Tryz.prog 32 #[.agg #[.slice A n ca, .int .i64 now, .int .i64 ret], .int .i64 s] w fun e w' => e = .returned (voV (rdAns X now ret s now)) ∧ Below w.heap.size w w' := by
  have hb0 : Below w.heap.size w ((w.alloc (.cells #[.slice A n ca, .int .i64 now, .int .i64 ret] 33)).alloc (.cells #[.bool false, .string ⟨#[]⟩, .int .i64 0] 49)) := ((Below.refl _ _).alloc (Nat.le_refl _) _).alloc (by simp) _
  have k1 := isBlk_new (w.alloc (.cells #[.slice A n ca, .int .i64 now, .int .i64 ret] 33)) 49 [.bool false, .string ⟨#[]⟩, .int .i64 0]
  change IsBlk ((w.alloc (.cells #[.slice A n ca, .int .i64 now, .int .i64 ret] 33)).alloc (.cells #[.bool false, .string ⟨#[]⟩, .int .i64 0] 49)) _ _ _ at k1
  simp only [size_alloc] at k1
  have HRD := Lib.hid (spec_dvReadAt A n ca X now ret s now ((w.alloc (.cells #[.slice A n ca, .int .i64 now, .int .i64 ret] 33)).alloc (.cells #[.bool false, .string ⟨#[]⟩, .int .i64 0] 49)) hX (rd_step hA hb0))
  clear hX hA
  go_enter Tryz.func32, Tryz.ntmps32
  go_wp2_with fail
  generalize ((w.alloc (.cells #[.slice A n ca, .int .i64 now, .int .i64 ret] 33)).alloc (.cells #[.bool false, .string ⟨#[]⟩, .int .i64 0] 49)) = W at hb0 k1 HRD ⊢
  refine HRD.out.mono ?_
  rintro e u ⟨rfl, hb⟩
  have HB := Lib.hid (bel_step hb0 hb)
  obtain ⟨d0, d1, d2, fd0, fd1, fd2⟩ := blk3 (k1.below hb k1.lt)
  generalize hv : rdAns X now ret s now = v at *
  obtain ⟨vt, vd, vc⟩ := v
  clear hb0 hb k1 HRD
  go_wp2
  refine bodyPost_ret (v := .agg #[.bool vt, .string vd, .int .i64 vc]) (by simp [results, Tryz.results32, go_sem, d0, d1, d2]) rfl ⟨by rw [hv], ?_⟩
  repeat (with_reducible refine Below.setCell ?_ ?_ _)
  all_goals first | exact HB.out | (dsimp only; omega)

end Go.Proofs.YtohmkjgmhippoaaGreatDoor
