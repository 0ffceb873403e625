/-
  What the row's list of package variables gives a walk: the handle errors.errorType and the sentinels of chapter 6 together.
-/
import Derived.Test.YtloaeglmngcenaaGreatDoorProg
import Derived.KernelRfl
import Derived.Test.YtloaeglmngcenaaGreatDoorLgLaid
import Derived.Test.YtloaeglmngcenaaGreatDoorBtGet
namespace Go.Proofs.YtloaeglmngcenaaGreatDoor
open Go.RowKit

theorem hEt : Tryz.prog.globalNamed "errors.errorType" = some 3 := by kernel_rfl
theorem hRt : (Tryz.prog.cutTypes.find? (·.1 == "internal/reflectlite.rtype")).map (·.2) = some 290 := by kernel_rfl
theorem hOneRow : ((List.range 414).filter fun t => Tryz.prog.rowNamed t [101, 114, 114, 111, 114]) = [109] := by kernel_rfl
theorem hTypes : Tryz.prog.types.size = 414 := by kernel_rfl
theorem hHandle : typeHandle Tryz.prog 109 = .pointer (some ⟨4, 109, none⟩) := by kernel_rfl
/-- the handle, out of the list's part -/
theorem errType_of_handle {W : World} {d : DataW Unit} (hd : d = .iface "internal/reflectlite.rtype" (.agg [.ptr (.lit (.string [101, 114, 114, 111, 114]))])) (h : handlesMet Tryz.prog [("errors.errorType", d)] W) : ErrType W := by
  subst hd
  obtain ⟨name, u, ty, e1, e2, e3, e4, e5⟩ := h _ (List.mem_singleton.2 rfl)
  have en : name = [101, 114, 114, 111, 114] := (Option.some.inj e1).symm
  subst en
  obtain rfl := Option.some.inj (hRt.symm.trans e2)
  have hm : ty ∈ (List.range 414).filter fun t => Tryz.prog.rowNamed t [101, 114, 114, 111, 114] := List.mem_filter.2 ⟨List.mem_range.2 (by rw [← hTypes]; exact e3), e4⟩
  rw [hOneRow] at hm
  obtain rfl := List.mem_singleton.1 hm
  rw [hHandle] at e5
  exact (by simpa using World.var?_cell hEt e5 0 : W.cell? ⟨3, 0, none⟩ = some (.iface 290 (.agg #[.pointer (some ⟨4, 109, none⟩)])))

/-- two sentinels of one list, over any program -/
theorem two_of_list {P : Program} {n0 n1 nm : String} {x0 x1 : List UInt8} {r : List (String × DataW Unit)} {W : World} {g0 g1 : Nat} {ti tp te ts : TypeId} {ms : Array (String × TypeId)} {f : Field}
    (h : laidMet P ((n0, .iface nm (.ptr (.agg [.lit (.string x0)]))) :: (n1, .iface nm (.ptr (.agg [.lit (.string x1)]))) :: r) W)
    (hg0 : P.globalNamed n0 = some g0) (ht0 : (P.globals[g0]?).map (·.type) = some ti) (hg1 : P.globalNamed n1 = some g1) (ht1 : (P.globals[g1]?).map (·.type) = some ti)
    (hi : P.underlying ti = some (.interface ms)) (hrow : ∀ u, P.typeName? 3 u = some nm → u = tp)
    (hp : P.underlying tp = some (.pointer te)) (he : P.underlying te = some (.struct #[f])) (hft : f.type = ts) (hfo : f.offset = 0) (hs : P.underlying ts = some .string) (hc : P.cellsOf te = 1) (hcs : P.cellsOf ts = 1) :
    ∃ a0 a1 : Addr, W.var? P n0 = some #[.iface tp (.pointer (some a0))] ∧ W.var? P n1 = some #[.iface tp (.pointer (some a1))] := by
  obtain ⟨ps, ⟨g0', t0, ⟨l0⟩, f0, p0, q0, hg0', ht0', hv0, hd0, ⟨g1', t1, ⟨l1⟩, f1, p1, q1, hg1', ht1', hv1, hd1, -, e1⟩, e0⟩, hnd, hrows⟩ := h
  obtain rfl := Option.some.inj (hg0.symm.trans hg0')
  obtain rfl := Option.some.inj (hg1.symm.trans hg1')
  obtain rfl := Option.some.inj (ht0.symm.trans ht0')
  obtain rfl := Option.some.inj (ht1.symm.trans ht1')
  subst e1
  subst e0
  have ok0 : ∀ u v, l0 = [.iface u v] → Value.okWide P W .any 0 u v := fun u v e => by
    subst e; exact (hrows g0 0 (by simp [MemPlace.row])).2 u v (by simpa using World.var?_cell hg0' hv0 0)
  have ok1 : ∀ u v, l1 = [.iface u v] → Value.okWide P W .any 0 u v := fun u v e => by
    subst e; exact (hrows g1 0 (by simp [MemPlace.row])).2 u v (by simpa using World.var?_cell hg1' hv1 0)
  obtain ⟨a0, s0, rfl, hc0, hs0, hz0, rfl⟩ := errorString_of_trod hi hrow hp he hft hfo hs hc hcs hd0 ok0
  obtain ⟨a1, s1, rfl, hc1, hs1, hz1, rfl⟩ := errorString_of_trod hi hrow hp he hft hfo hs hc hcs hd1 ok1
  exact ⟨a0, a1, hv0, hv1⟩
theorem two_of_laid {W : World} {x0 x2 : List UInt8} {r : List (String × DataW Unit)}
    (h : laidMet Tryz.prog ((nInv, .iface "*errors.errorString" (.ptr (.agg [.lit (.string x0)]))) :: (nHist, .iface "*errors.errorString" (.ptr (.agg [.lit (.string x2)]))) :: r) W) :
    ∃ a0 a2 : Addr, Two W a0 a2 ∧ W.var? Tryz.prog nInv = some #[.iface 383 (.pointer (some a0))] ∧ W.var? Tryz.prog nHist = some #[.iface 383 (.pointer (some a2))] := by
  obtain ⟨a0, a2, h0, h2⟩ := two_of_list h gInv gtInv gHist gtHist Tryz.underlying109 rowES Tryz.underlying383 Tryz.underlying402 rfl rfl Tryz.underlying9 cellsES cellsStr
  exact ⟨a0, a2, ⟨var_first gInv h0, var_first gHist h2⟩, h0, h2⟩

/-- the sentinels, read as tokens, in the order in which the statements list them -/
theorem vars_readIH {H : Type} (enc : TypeId × Value → H) {W : World} {v0 v2 : Value} (h0 : W.var? Tryz.prog nInv = some #[v0]) (i0 : IsIface v0) (h2 : W.var? Tryz.prog nHist = some #[v2]) (i2 : IsIface v2) (sp : Nat → Bool) :
    DataW.TrodVars enc Tryz.prog W sp [nInv, nHist] [tok enc v0, tok enc v2] [.cell 0 0, .cell 1 0] :=
  vars_read2 enc gInv gtInv Tryz.underlying109 h0 i0 gHist gtHist Tryz.underlying109 h2 i2 sp
theorem vars_readIHR {H : Type} (enc : TypeId × Value → H) {W : World} {v0 v1 v2 : Value} (h0 : W.var? Tryz.prog nInv = some #[v0]) (i0 : IsIface v0) (h1 : W.var? Tryz.prog nRoom = some #[v1]) (i1 : IsIface v1) (h2 : W.var? Tryz.prog nHist = some #[v2]) (i2 : IsIface v2) (sp : Nat → Bool) :
    DataW.TrodVars enc Tryz.prog W sp [nInv, nHist, nRoom] [tok enc v0, tok enc v2, tok enc v1] [.cell 0 0, .cell 1 0, .cell 2 0] :=
  ⟨_, _, #[v0], 1, [], _, gInv, gtInv, h0, trod_held Tryz.underlying109 i0 0, vars_read2 enc gHist gtHist Tryz.underlying109 h2 i2 gRoom gtRoom Tryz.underlying109 h1 i1 sp, rfl⟩

/-- a world in which all of them lie so: there is one -/
noncomputable def bothWorld (os : Os) (s0 s1 s2 : ByteArray) : World :=
  let w0 := sentWorld os s0 s1 s2
  { w0 with heap := w0.heap.modify 3 fun
      | .cells _ t frozen => .cells #[.iface 290 (.agg #[.pointer (some ⟨4, 109, none⟩)])] t frozen
      | o => o }
end Go.Proofs.YtloaeglmngcenaaGreatDoor
