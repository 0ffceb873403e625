/-
  What the row's list of package variables gives a walk: the three sentinels of chapter 6, as they lie in memory; and that they read the same in every later world.
-/
import Derived.Test.YtloaeglmngcenaaGreatDoorProg
import Derived.KernelRfl
import Derived.Test.YtloaeglmngcenaaGreatDoorLgErr
import Derived.Stop.LaidErr
import Derived.LaidLaws
import Derived.LaidHandle
import Derived.KernelRfl
namespace Go.Proofs.YtloaeglmngcenaaGreatDoor
open Go.RowKit

abbrev nInv : String := "loop.example/g00637/impl.errInvalid"
abbrev nRoom : String := "loop.example/g00637/impl.errNoRoom"
abbrev nHist : String := "loop.example/g00637/impl.errNoHistory"
theorem gInv : Tryz.prog.globalNamed nInv = some 0 := by kernel_rfl
theorem gRoom : Tryz.prog.globalNamed nRoom = some 2 := by kernel_rfl
theorem gHist : Tryz.prog.globalNamed nHist = some 1 := by kernel_rfl
theorem gtInv : (Tryz.prog.globals[0]?).map (·.type) = some 109 := by kernel_rfl
theorem gtRoom : (Tryz.prog.globals[2]?).map (·.type) = some 109 := by kernel_rfl
theorem gtHist : (Tryz.prog.globals[1]?).map (·.type) = some 109 := by kernel_rfl
theorem cellsES : Tryz.prog.cellsOf 402 = 1 := by kernel_rfl
theorem cellsStr : Tryz.prog.cellsOf 9 = 1 := by kernel_rfl
theorem starES : "*" ++ "errors.errorString" = "*errors.errorString" := by decide
theorem rowES (u : TypeId) (h : Tryz.prog.typeName? 3 u = some "*errors.errorString") : u = 383 :=
  typeName_ptr_named (nm := "errors.errorString") (by rw [starES]; kernel_rfl) (by kernel_rfl) (by decide) u (by rw [starES]; exact h)

/-- three sentinels of one list, over any program: three places, none met twice -/
theorem three_of_laid {P : Program} {n0 n1 n2 nm : String} {x0 x1 x2 : List UInt8} {r : List (String × DataW Unit)} {W : World} {g0 g1 g2 : Nat} {ti tp te ts : TypeId} {ms : Array (String × TypeId)} {f : Field}
    (h : laidMet P ((n0, .iface nm (.ptr (.agg [.lit (.string x0)]))) :: (n1, .iface nm (.ptr (.agg [.lit (.string x1)]))) :: (n2, .iface nm (.ptr (.agg [.lit (.string x2)]))) :: r) W)
    (hg0 : P.globalNamed n0 = some g0) (ht0 : (P.globals[g0]?).map (·.type) = some ti) (hg1 : P.globalNamed n1 = some g1) (ht1 : (P.globals[g1]?).map (·.type) = some ti) (hg2 : P.globalNamed n2 = some g2) (ht2 : (P.globals[g2]?).map (·.type) = some ti)
    (hi : P.underlying ti = some (.interface ms)) (hrow : ∀ u, P.typeName? 3 u = some nm → u = tp)
    (hp : P.underlying tp = some (.pointer te)) (he : P.underlying te = some (.struct #[f])) (hft : f.type = ts) (hfo : f.offset = 0) (hs : P.underlying ts = some .string) (hc : P.cellsOf te = 1) (hcs : P.cellsOf ts = 1) :
    ∃ a0 a1 a2 : Addr, (W.var? P n0 = some #[.iface tp (.pointer (some a0))] ∧ W.var? P n1 = some #[.iface tp (.pointer (some a1))] ∧ W.var? P n2 = some #[.iface tp (.pointer (some a2))]) ∧
      ((∃ c t, W.heap[a0.block]? = some (.cells c t (0, 0))) ∧ (∃ c t, W.heap[a1.block]? = some (.cells c t (0, 0))) ∧ (∃ c t, W.heap[a2.block]? = some (.cells c t (0, 0)))) ∧ a0 ≠ a1 ∧ a0 ≠ a2 ∧ a1 ≠ a2 := by
  obtain ⟨ps, ⟨g0', t0, ⟨l0⟩, f0, p0, q0, hg0', ht0', hv0, hd0, ⟨g1', t1, ⟨l1⟩, f1, p1, q1, hg1', ht1', hv1, hd1, ⟨g2', t2, ⟨l2⟩, f2, p2, q2, hg2', ht2', hv2, hd2, -, e2⟩, e1⟩, e0⟩, hnd, hrows⟩ := h
  obtain rfl := Option.some.inj (hg0.symm.trans hg0')
  obtain rfl := Option.some.inj (hg1.symm.trans hg1')
  obtain rfl := Option.some.inj (hg2.symm.trans hg2')
  obtain rfl := Option.some.inj (ht0.symm.trans ht0')
  obtain rfl := Option.some.inj (ht1.symm.trans ht1')
  obtain rfl := Option.some.inj (ht2.symm.trans ht2')
  subst e2
  subst e1
  subst e0
  have ok0 : ∀ u v, l0 = [.iface u v] → Value.okWide P W .any 0 u v := fun u v e => by
    subst e; exact (hrows g0 0 (by simp [MemPlace.row])).2 u v (by simpa using World.var?_cell hg0' hv0 0)
  have ok1 : ∀ u v, l1 = [.iface u v] → Value.okWide P W .any 0 u v := fun u v e => by
    subst e; exact (hrows g1 0 (by simp [MemPlace.row])).2 u v (by simpa using World.var?_cell hg1' hv1 0)
  have ok2 : ∀ u v, l2 = [.iface u v] → Value.okWide P W .any 0 u v := fun u v e => by
    subst e; exact (hrows g2 0 (by simp [MemPlace.row])).2 u v (by simpa using World.var?_cell hg2' hv2 0)
  obtain ⟨a0, s0, rfl, hc0, hs0, hz0, rfl⟩ := errorString_of_trod hi hrow hp he hft hfo hs hc hcs hd0 ok0
  obtain ⟨a1, s1, rfl, hc1, hs1, hz1, rfl⟩ := errorString_of_trod hi hrow hp he hft hfo hs hc hcs hd1 ok1
  obtain ⟨a2, s2, rfl, hc2, hs2, hz2, rfl⟩ := errorString_of_trod hi hrow hp he hft hfo hs hc hcs hd2 ok2
  refine ⟨a0, a1, a2, ⟨hv0, hv1, hv2⟩, ⟨(hrows a0.block a0.off (by simp [MemPlace.row])).1, (hrows a1.block a1.off (by simp [MemPlace.row])).1, (hrows a2.block a2.off (by simp [MemPlace.row])).1⟩, ?_, ?_, ?_⟩
  · rintro rfl; simp [MemPlace.row] at hnd
  · rintro rfl; simp [MemPlace.row] at hnd
  · rintro rfl; simp [MemPlace.row] at hnd
theorem var_first {P : Program} {W : World} {n : String} {g : Nat} {v : Value} (hg : P.globalNamed n = some g) (h : W.var? P n = some #[v]) : W.cell? ⟨g, 0, none⟩ = some v := by simpa using World.var?_cell hg h 0
theorem sents_of_laid {W : World} {x0 x1 x2 : List UInt8} {r : List (String × DataW Unit)}
    (h : laidMet Tryz.prog ((nInv, .iface "*errors.errorString" (.ptr (.agg [.lit (.string x0)]))) :: (nRoom, .iface "*errors.errorString" (.ptr (.agg [.lit (.string x1)]))) :: (nHist, .iface "*errors.errorString" (.ptr (.agg [.lit (.string x2)]))) :: r) W) :
    ∃ a0 a1 a2 : Addr, Sents W a0 a1 a2 ∧ W.var? Tryz.prog nInv = some #[.iface 383 (.pointer (some a0))] ∧ W.var? Tryz.prog nRoom = some #[.iface 383 (.pointer (some a1))] ∧ W.var? Tryz.prog nHist = some #[.iface 383 (.pointer (some a2))] := by
  obtain ⟨a0, a1, a2, ⟨h0, h1, h2⟩, ⟨b0, b1, b2⟩, n1, n2, n3⟩ := three_of_laid h gInv gtInv gRoom gtRoom gHist gtHist Tryz.underlying109 rowES Tryz.underlying383 Tryz.underlying402 rfl rfl Tryz.underlying9 cellsES cellsStr
  exact ⟨a0, a1, a2, ⟨var_first gInv h0, var_first gRoom h1, var_first gHist h2, b0, b1, b2, n1, n2, n3⟩, h0, h1, h2⟩

theorem var_below {P : Program} {W W' : World} {n : String} {cs : Array Value} (h : W.var? P n = some cs) (hb : Below W.heap.size W W') : W'.var? P n = some cs := by
  unfold World.var? at h ⊢
  cases hg : P.globalNamed n with
  | none => simp [hg] at h
  | some g =>
    simp only [hg, Option.bind_some] at h ⊢
    have hlt : g < W.heap.size := by
      rcases Nat.lt_or_ge g W.heap.size with h' | h'
      · exact h'
      · simp [Array.getElem?_eq_none h'] at h
    rw [hb.block g hlt]
    exact h
/-- the three sentinels, read as tokens -/
theorem vars_read3 {H : Type} (enc : TypeId × Value → H) {W : World} {v0 v1 v2 : Value} (h0 : W.var? Tryz.prog nInv = some #[v0]) (i0 : IsIface v0) (h1 : W.var? Tryz.prog nRoom = some #[v1]) (i1 : IsIface v1) (h2 : W.var? Tryz.prog nHist = some #[v2]) (i2 : IsIface v2) (sp : Nat → Bool) :
    DataW.TrodVars enc Tryz.prog W sp [nInv, nRoom, nHist] [tok enc v0, tok enc v1, tok enc v2] [.cell 0 0, .cell 2 0, .cell 1 0] :=
  ⟨_, _, #[v0], 1, [], _, gInv, gtInv, h0, trod_held Tryz.underlying109 i0 0, vars_read2 enc gRoom gtRoom Tryz.underlying109 h1 i1 gHist gtHist Tryz.underlying109 h2 i2 sp, rfl⟩

/-- a world in which they lie so: there is one -/
noncomputable def lowW : Nat := (World.holding Tryz.prog default ⟨#[], #[], []⟩).heap.size
noncomputable def sentWorld (os : Os) (s0 s1 s2 : ByteArray) : World :=
  let w0 := World.holding Tryz.prog os ⟨#[.cells #[.string s0] 402, .cells #[.string s1] 402, .cells #[.string s2] 402], #[], []⟩
  { w0 with heap := ((w0.heap.modify 0 fun
      | .cells _ t frozen => .cells #[.iface 383 (.pointer (some ⟨lowW, 0, none⟩))] t frozen
      | o => o).modify 2 fun
      | .cells _ t frozen => .cells #[.iface 383 (.pointer (some ⟨lowW + 1, 0, none⟩))] t frozen
      | o => o).modify 1 fun
      | .cells _ t frozen => .cells #[.iface 383 (.pointer (some ⟨lowW + 2, 0, none⟩))] t frozen
      | o => o }
end Go.Proofs.YtloaeglmngcenaaGreatDoor
