/-
  A record that comes in as an argument, opened; the law's own steps over it (szRec, toRec).
-/
import Derived.Test.YtloaeglmngcenaaGreatDoorProg
import Derived.KernelRfl
import Derived.Test.YtloaeglmngcenaaGreatDoorRcRight
import Derived.Deep.Slices
import Derived.Deep.Fields
import Derived.ChangeSame
import Derived.KernelRfl
namespace Go.Proofs.YtloaeglmngcenaaGreatDoor
open Go.RowKit Go.ChangeShapes Go.WideShapes Go.Deep
open Bt (Rc)

section
variable {H : Type} {enc : TypeId × Value → H} {P : Program} {w : World} {base : Nat} {spare : Nat → Bool} {held : Bool}
/-- the fields of a struct of one-cell fields, out of its cells -/
theorem rc_fields {t : TypeId} {fs : Array Field} {fuel : Nat} {cs : List Value} {x : DataW H × List MemPlace} (ht : P.underlying t = some (.struct fs)) (hone : oneCellFields P fs = true)
    (h : DataW.trod enc P w base spare held fuel t cs = some x) (hC : P.cellsOf t = fs.size) :
    cs.length = fs.size ∧ ∀ (j : Nat) (f : Field), fs[j]? = some f → ∃ (v : Value) (y : DataW H × List MemPlace) (n : Nat), cs[j]? = some v ∧ DataW.trod enc P w base spare held n f.type [v] = some y := by
  obtain ⟨xs, n, -, -, hcl, hxl, hf⟩ := DataW.trod_struct ht h
  rw [hC] at hcl
  refine ⟨hcl, fun j f hj => ?_⟩
  obtain ⟨ho, hk⟩ := hone_of hone j f hj
  have hjl : j < fs.size := (Array.getElem?_eq_some_iff.1 hj).1
  have h1 := hf j f hj
  have hone' : (cs.drop j).take 1 = [cs[j]'(by omega)] := by rw [List.drop_eq_getElem_cons (by omega)]; rfl
  rw [ho, hk, hone', List.getElem?_eq_getElem (show j < xs.length by omega)] at h1
  exact ⟨cs[j], xs[j], n, List.getElem?_eq_getElem (by omega), h1⟩
/-- a record that comes in -/
theorem open_rec {r : Reach} {b0 : Nat} {t : TypeId} {f0 f1 f2 f3 f4 f5 : Field} {v : Value} {d : DataW H} {ps : List MemPlace} (ht : P.underlying t = some (.struct #[f0, f1, f2, f3, f4, f5])) (hone : oneCellFields P #[f0, f1, f2, f3, f4, f5] = true) (hC : P.cellsOf t = 6)
    (h0 : P.underlying f0.type = some (.int .i64)) (h1 : P.underlying f1.type = some (.int .i64)) (h2 : P.underlying f2.type = some (.int .i64)) (h3 : P.underlying f3.type = some (.int .i64)) (h4 : P.underlying f4.type = some (.int .i64)) (h5 : P.underlying f5.type = some .string)
    (hval : Value.okWide P w r b0 t v) (h : DataW.Trod enc P w base spare held t v d ps) : ∃ r : Rc, v = recV r ∧ r.d.size ≤ maxLen := by
  obtain ⟨cs, rfl, hsz⟩ := okWide_struct ht hval
  obtain ⟨fuel, hf⟩ := h
  obtain ⟨hcl, hfs⟩ := rc_fields ht hone hf hC
  obtain ⟨u0, y0, m0, hu0, hy0⟩ := hfs 0 f0 rfl
  obtain ⟨u1, y1, m1, hu1, hy1⟩ := hfs 1 f1 rfl
  obtain ⟨u2, y2, m2, hu2, hy2⟩ := hfs 2 f2 rfl
  obtain ⟨u3, y3, m3, hu3, hy3⟩ := hfs 3 f3 rfl
  obtain ⟨u4, y4, m4, hu4, hy4⟩ := hfs 4 f4 rfl
  obtain ⟨u5, y5, m5, hu5, hy5⟩ := hfs 5 f5 rfl
  obtain ⟨z0, e0, -⟩ := DataW.trod_int h0 hy0
  obtain ⟨z1, e1, -⟩ := DataW.trod_int h1 hy1
  obtain ⟨z2, e2, -⟩ := DataW.trod_int h2 hy2
  obtain ⟨z3, e3, -⟩ := DataW.trod_int h3 hy3
  obtain ⟨z4, e4, -⟩ := DataW.trod_int h4 hy4
  obtain ⟨s, e5, -, hs⟩ := DataW.trod_string h5 hy5
  simp only [List.cons.injEq, and_true] at e0 e1 e2 e3 e4 e5
  subst e0 e1 e2 e3 e4 e5
  refine ⟨⟨z0, z1, z2, z3, z4, s⟩, ?_, hs⟩
  obtain ⟨l⟩ := cs
  match l, hcl, hu0, hu1, hu2, hu3, hu4, hu5 with
  | [c0, c1, c2, c3, c4, c5], _, hu0, hu1, hu2, hu3, hu4, hu5 =>
    simp [Value.cells] at hu0 hu1 hu2 hu3 hu4 hu5
    rw [hu0, hu1, hu2, hu3, hu4, hu5]
end

set_option maxRecDepth 100000 in
/-- a record that comes in, at this program's types -/
theorem open_lawsRec {H : Type} {enc : TypeId × Value → H} {w : World} {base : Nat} {spare : Nat → Bool} {held : Bool} {r : Reach} {b0 : Nat} {v : Value} {d : DataW H} {ps : List MemPlace}
    (hval : Value.okWide Tryz.prog w r b0 232 v) (h : DataW.Trod enc Tryz.prog w base spare held 232 v d ps) : ∃ r : Rc, v = recV r ∧ r.d.size ≤ maxLen :=
  open_rec Tryz.underlying232 (by kernel_rfl) (by kernel_rfl) Tryz.underlying2 Tryz.underlying2 Tryz.underlying2 Tryz.underlying2 Tryz.underlying2 Tryz.underlying9 hval h

set_option maxHeartbeats 2000000 in
theorem szRec_any (r : Rc) (w : World) (hd : r.d.size ≤ maxLen) :
    Calls Tryz.prog 191 #[recV r, .int .i64 1048576] w fun e w' => e = .returned (.int .i64 (if 1048576 < (r.d.size : Int) then -1 else 1048576 - (r.d.size : Int))) ∧ Below w.heap.size w w' := by
  obtain ⟨k, s, q, t, o, d⟩ := r
  unfold maxLen at hd
  simp only at hd
  have hd2 : ((d.size : Nat) : Int) ≤ 9223372036854775807 := by omega
  have hw : IntKind.i64.wrap (1048576 - ((d.size : Nat) : Int)) = 1048576 - ((d.size : Nat) : Int) := IntWalk.i64_in _ (by omega)
  by_cases h : 1048576 < (d.size : Int)
  · rw [if_pos h]
    have h' : 1048576 - ((d.size : Nat) : Int) < 0 := by omega
    go_enter Tryz.func191, Tryz.ntmps191
    go_wp2
    go_ret
    exact ⟨rfl, (Below.refl _ _).alloc (Nat.le_refl _) _⟩
  · rw [if_neg h]
    have h' : 0 ≤ 1048576 - ((d.size : Nat) : Int) := by omega
    go_enter Tryz.func191, Tryz.ntmps191
    go_wp2
    go_ret
    exact ⟨rfl, (Below.refl _ _).alloc (Nat.le_refl _) _⟩

set_option maxHeartbeats 4000000 in
theorem toRec_any (r : Rc) (w : World) : Calls Tryz.prog 194 #[recV r] w fun e w' => e = .returned (recV r) ∧ Below w.heap.size w w' := by
  obtain ⟨k, s, q, t, o, d⟩ := r
  go_enter Tryz.func194, Tryz.ntmps194
  go_wp2
  exact bodyPost_ret (v := recV ⟨k, s, q, t, o, d⟩) (by simp [results, Tryz.results194, go_sem]) rfl ⟨rfl, (((Below.refl _ _).alloc (Nat.le_refl _) _).alloc (by simp) _).alloc (by simp; omega) _⟩
end Go.Proofs.YtloaeglmngcenaaGreatDoor
