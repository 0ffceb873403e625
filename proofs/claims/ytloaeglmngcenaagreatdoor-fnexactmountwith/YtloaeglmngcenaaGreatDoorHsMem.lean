/-
  Slices of records in memory: what reads as a list of records, what the call itself owns; a history that comes in as an argument, opened. Over any program.
-/
import Derived.Test.YtloaeglmngcenaaGreatDoorProg
import Derived.KernelRfl
import Derived.Test.YtloaeglmngcenaaGreatDoorNdMem
import Derived.Test.YtloaeglmngcenaaGreatDoorRcRight
import Derived.Deep.Slices
import Derived.Deep.Fields
import Derived.ChangeSame
import Derived.KernelRfl
namespace Go.Proofs.YtloaeglmngcenaaGreatDoor
open Go.RowKit Go.ChangeShapes Go.WideShapes Go.Deep
open Bt (Rc)

/-- the cells of a row of records -/
def rcF (X : List Rc) (c : Nat) : Value := ((recC (X.getD (c / 6) Rc.zero))[c % 6]?).getD undef
theorem rcF_at (X : List Rc) (k j : Nat) (hj : j < 6) : rcF X (k * 6 + j) = ((recC (X.getD k Rc.zero))[j]?).getD undef := by
  unfold rcF; rw [show (k * 6 + j) / 6 = k by omega, show (k * 6 + j) % 6 = j by omega]
theorem rcF_0 (X : List Rc) (k : Nat) : rcF X (k * 6) = .int .i64 (X.getD k Rc.zero).k := rcF_at X k 0 (by omega)
theorem rcF_1 (X : List Rc) (k : Nat) : rcF X (k * 6 + 1) = .int .i64 (X.getD k Rc.zero).s := rcF_at X k 1 (by omega)
theorem rcF_2 (X : List Rc) (k : Nat) : rcF X (k * 6 + 2) = .int .i64 (X.getD k Rc.zero).q := rcF_at X k 2 (by omega)
theorem rcF_3 (X : List Rc) (k : Nat) : rcF X (k * 6 + 3) = .int .i64 (X.getD k Rc.zero).t := rcF_at X k 3 (by omega)
theorem rcF_4 (X : List Rc) (k : Nat) : rcF X (k * 6 + 4) = .int .i64 (X.getD k Rc.zero).o := rcF_at X k 4 (by omega)
theorem rcF_5 (X : List Rc) (k : Nat) : rcF X (k * 6 + 5) = .string (X.getD k Rc.zero).d := rcF_at X k 5 (by omega)
theorem rcF_eq {X : List Rc} {c : Nat} {v : Value} (k : Nat) (h : c / 6 = k) (hv : ((recC (X.getD k Rc.zero))[c % 6]?).getD undef = v) : rcF X c = v := by subst h; exact hv

theorem upto_set6 {α : Type} {k c : Nat} {f z : Nat → α} {u0 u1 u2 u3 u4 u5 : α} (h0 : f (k * 6) = u0) (h1 : f (k * 6 + 1) = u1) (h2 : f (k * 6 + 2) = u2) (h3 : f (k * 6 + 3) = u3) (h4 : f (k * 6 + 4) = u4) (h5 : f (k * 6 + 5) = u5) :
    (if c = k * 6 + 5 then u5 else if c = k * 6 + 4 then u4 else if c = k * 6 + 3 then u3 else if c = k * 6 + 2 then u2 else if c = k * 6 + 1 then u1 else if c = k * 6 then u0 else upto k 6 f z c) = upto (k + 1) 6 f z c := by
  subst h0 h1 h2 h3 h4 h5
  by_cases hc : c < k * 6
  · rw [if_neg (by omega), if_neg (by omega), if_neg (by omega), if_neg (by omega), if_neg (by omega), if_neg (by omega), upto_lt hc, upto_lt (by omega)]
  · by_cases hc' : k * 6 + 6 ≤ c
    · rw [if_neg (by omega), if_neg (by omega), if_neg (by omega), if_neg (by omega), if_neg (by omega), if_neg (by omega), upto_ge (by omega), upto_ge (by omega)]
    · rw [upto_lt (k := k + 1) (by omega)]
      obtain ⟨j, rfl⟩ : ∃ j, c = k * 6 + j := ⟨c - k * 6, by omega⟩
      have hj : j = 0 ∨ j = 1 ∨ j = 2 ∨ j = 3 ∨ j = 4 ∨ j = 5 := by omega
      rcases hj with rfl | rfl | rfl | rfl | rfl | rfl <;> simp

/-- records that read as X, wherever they lie below block B -/
def RdRc (w : World) (B : Nat) (A : Option Addr) (n : Nat) (X : List Rc) : Prop :=
  X.length = n ∧ (0 < n → ∃ g off, A = some ⟨g, off, none⟩ ∧ g < B ∧ ∀ c, c < n * 6 → w.cell? ⟨g, off + c, none⟩ = some (rcF X c))
section
variable {w w' : World} {B B' n k : Nat} {A : Option Addr} {X : List Rc}
theorem RdRc.below (h : RdRc w B A n X) (hb : Below B w w') : RdRc w' B A n X :=
  ⟨h.1, fun hn => by obtain ⟨g, off, hA, hg, hc⟩ := h.2 hn; exact ⟨g, off, hA, hg, fun c hi => (hb.cell (p := ⟨g, off + c, none⟩) hg).trans (hc c hi)⟩⟩
theorem RdRc.mono (h : RdRc w B A n X) (hB : B ≤ B') : RdRc w B' A n X :=
  ⟨h.1, fun hn => by obtain ⟨g, off, hA, hg, hc⟩ := h.2 hn; exact ⟨g, off, hA, Nat.lt_of_lt_of_le hg hB, hc⟩⟩
theorem RdRc.next (h : RdRc w w.heap.size A n X) (hb : Below w.heap.size w w') : RdRc w' w'.heap.size A n X := (h.below hb).mono hb.size
theorem RdRc.at (h : RdRc w B A n X) (hk : k < n) :
    ∃ g off, A = some ⟨g, off, none⟩ ∧ g < B ∧ w.cell? ⟨g, off + k * 6, none⟩ = some (.int .i64 (X.getD k Rc.zero).k) ∧ w.cell? ⟨g, off + k * 6 + 1, none⟩ = some (.int .i64 (X.getD k Rc.zero).s) ∧
      w.cell? ⟨g, off + k * 6 + 2, none⟩ = some (.int .i64 (X.getD k Rc.zero).q) ∧ w.cell? ⟨g, off + k * 6 + 3, none⟩ = some (.int .i64 (X.getD k Rc.zero).t) ∧
      w.cell? ⟨g, off + k * 6 + 4, none⟩ = some (.int .i64 (X.getD k Rc.zero).o) ∧ w.cell? ⟨g, off + k * 6 + 5, none⟩ = some (.string (X.getD k Rc.zero).d) := by
  obtain ⟨g, off, hA, hg, hc⟩ := h.2 (by omega)
  refine ⟨g, off, hA, hg, ?_, ?_, ?_, ?_, ?_, ?_⟩
  · rw [← rcF_0]; exact hc _ (by omega)
  · rw [← rcF_1]; exact hc (k * 6 + 1) (by omega)
  · rw [← rcF_2]; exact hc (k * 6 + 2) (by omega)
  · rw [← rcF_3]; exact hc (k * 6 + 3) (by omega)
  · rw [← rcF_4]; exact hc (k * 6 + 4) (by omega)
  · rw [← rcF_5]; exact hc (k * 6 + 5) (by omega)
end

/-- records in a block of the call's own, from lo to below hi -/
def OwRc (w : World) (lo hi : Nat) (A : Option Addr) (n : Nat) (X : List Rc) : Prop :=
  X.length = n ∧ (0 < n → ∃ g, A = some ⟨g, 0, none⟩ ∧ lo ≤ g ∧ g < hi ∧ Row w g (n * 6) (rcF X))
section
variable {w w' : World} {lo hi lo' hi' B n : Nat} {A : Option Addr} {X : List Rc}
theorem OwRc.same (h : OwRc w lo hi A n X) (hb : ∀ k, lo ≤ k → k < hi → w'.heap[k]? = w.heap[k]?) : OwRc w' lo hi A n X :=
  ⟨h.1, fun hn => by obtain ⟨g, hA, h1, h2, hr⟩ := h.2 hn; exact ⟨g, hA, h1, h2, hr.same (hb g h1 h2)⟩⟩
theorem OwRc.below (h : OwRc w lo hi A n X) (hb : Below B w w') (hB : hi ≤ B) : OwRc w' lo hi A n X := h.same fun k _ hk => hb.block k (by omega)
theorem OwRc.btw (h : OwRc w lo hi A n X) (hb : Btw lo' hi' w w') (hs : hi ≤ w.heap.size) (hd : hi ≤ lo' ∨ hi' ≤ lo) : OwRc w' lo hi A n X :=
  h.same fun k _ hk => hb.block k (by omega) (by omega)
theorem OwRc.mono (h : OwRc w lo hi A n X) (hl : lo' ≤ lo) (hh : hi ≤ hi') : OwRc w lo' hi' A n X :=
  ⟨h.1, fun hn => by obtain ⟨g, hA, h1, h2, hr⟩ := h.2 hn; exact ⟨g, hA, by omega, by omega, hr⟩⟩
theorem OwRc.rd (h : OwRc w lo hi A n X) (hB : hi ≤ B) : RdRc w B A n X :=
  ⟨h.1, fun hn => by obtain ⟨g, hA, h1, h2, hr⟩ := h.2 hn; exact ⟨g, 0, hA, by omega, fun c hc => by rw [Nat.zero_add]; exact hr.cell hc⟩⟩
end

/-! how much a history holds -/
def szRcs (X : List Rc) : Nat := X.length + sumTo (fun i => (X.getD i Rc.zero).d.size) X.length
def SmallR (X : List Rc) : Prop := X.length ≤ 1048576 ∧ ∀ r ∈ X, r.d.size ≤ 1048576
theorem smallR_of_sz {X : List Rc} (h : szRcs X ≤ 1048576) : SmallR X := by
  unfold szRcs at h
  refine ⟨by omega, fun b hb => ?_⟩
  obtain ⟨i, hi, rfl⟩ := mem_getD hb Rc.zero
  have h1 := sumTo_ge (f := fun i => (X.getD i Rc.zero).d.size) hi
  omega
def WideR (X : List Rc) : Prop := X.length ≤ 9223372036854775807 ∧ ∀ r ∈ X, r.d.size ≤ 9223372036854775807
theorem SmallR.at {X : List Rc} (h : SmallR X) (k : Nat) : (X.getD k Rc.zero).d.size ≤ 1048576 := by
  by_cases hk : k < X.length
  · exact h.2 _ (getD_lt hk)
  · rw [List.getD_eq_getElem?_getD, List.getElem?_eq_none (by omega)]; show (0 : Nat) ≤ _; omega

theorem list_ofR {α : Type} {Q : Nat → α → Prop} (z : α) : ∀ n : Nat, (∀ i, i < n → ∃ p, Q i p) → ∃ X : List α, X.length = n ∧ ∀ i, i < n → Q i (X.getD i z)
  | 0, _ => ⟨[], rfl, fun i h => absurd h (by omega)⟩
  | n + 1, h => by
    obtain ⟨X, hl, hX⟩ := list_ofR z n fun i hi => h i (by omega)
    obtain ⟨p, hp⟩ := h n (by omega)
    refine ⟨X ++ [p], by simp [hl], fun i hi => ?_⟩
    by_cases e : i = n
    · subst e
      rw [List.getD_eq_getElem?_getD, List.getElem?_append_right (by omega), hl]
      simpa using hp
    · rw [List.getD_eq_getElem?_getD, List.getElem?_append_left (by omega), ← List.getD_eq_getElem?_getD]
      exact hX i (by omega)

section
variable {H : Type} {enc : TypeId × Value → H} {P : Program} {w : World} {base : Nat} {spare : Nat → Bool} {held : Bool}
/-- the fields of a struct of one-cell fields, out of its cells -/
theorem fields_ofR {t : TypeId} {fs : Array Field} {fuel : Nat} {cs : List Value} {x : DataW H × List MemPlace} (ht : P.underlying t = some (.struct fs)) (hone : oneCellFields P fs = true)
    (h : DataW.trod enc P w base spare held fuel t cs = some x) (hC : P.cellsOf t = fs.size) :
    cs.length = fs.size ∧ ∀ (j : Nat) (f : Field), fs[j]? = some f → ∃ (v : Value) (y : DataW H × List MemPlace) (n : Nat), cs[j]? = some v ∧ DataW.trod enc P w base spare held n f.type [v] = some y := by
  obtain ⟨xs, n, -, -, hcl, hxl, hf⟩ := DataW.trod_struct ht h
  rw [hC] at hcl
  refine ⟨hcl, fun j f hj => ?_⟩
  obtain ⟨ho, hk⟩ := hone_of hone j f hj
  have hjl : j < fs.size := (Array.getElem?_eq_some_iff.1 hj).1
  have h1 := hf j f hj
  have hone' : (cs.drop j).take 1 = [cs[j]'(by omega)] := by rw [List.drop_eq_getElem_cons (by omega)]; rfl
  rw [ho, hk, hone', List.getElem?_eq_getElem (show j < xs.length by omega)] at h1
  exact ⟨cs[j], xs[j], n, List.getElem?_eq_getElem (by omega), h1⟩
/-- a slice of structs of one-cell fields: each field of each element -/
theorem rows_ofR {t e : TypeId} {fs : Array Field} {fuel : Nat} {v : Value} {x : DataW H × List MemPlace} (ht : P.underlying t = some (.slice e)) (he : P.underlying e = some (.struct fs))
    (hone : oneCellFields P fs = true) (hC : P.cellsOf e = fs.size) (hpos : 0 < fs.size) (h : DataW.trod enc P w base spare held fuel t [v] = some x) :
    ∃ (A : Option Addr) (n cap : Nat), v = .slice A n cap ∧ n ≤ maxLen ∧ (0 < n → ∃ g off, A = some ⟨g, off, none⟩ ∧ g < w.heap.size ∧
      ∀ i, i < n → ∀ (j : Nat) (f : Field), fs[j]? = some f → ∃ (u : Value) (y : DataW H × List MemPlace) (m : Nat), w.cell? ⟨g, off + (i * fs.size + j), none⟩ = some u ∧ DataW.trod enc P w base spare held m f.type [u] = some y) := by
  rcases open_slice ht h with ⟨h0, -⟩ | ⟨a, len, cap, m, n, D, Pl, hcs, -, hl, hm, hmm, -, hi⟩
  · simp only [List.cons.injEq, and_true] at h0
    exact ⟨none, 0, 0, h0, by simp [maxLen], fun hn => absurd hn (by omega)⟩
  · simp only [List.cons.injEq, and_true] at hcs
    refine ⟨some a, len, cap, hcs, by omega, fun hn => ?_⟩
    have hml : len ≤ m := by rw [hmm]; split <;> omega
    have hcell : ∀ i, i < len → ∀ (j : Nat) (f : Field), fs[j]? = some f → ∃ (u : Value) (y : DataW H × List MemPlace) (m : Nat), w.cell? (a.add (i * fs.size + j)) = some u ∧ DataW.trod enc P w base spare held m f.type [u] = some y := by
      intro i hil j f hj
      obtain ⟨cs', hc, ht'⟩ := hi i (by omega)
      rw [hC] at hc
      obtain ⟨hcl, hfs⟩ := fields_ofR he hone ht' hC
      obtain ⟨-, -, hat⟩ := World.cells?_some hc
      obtain ⟨u, y, k, hu, hy⟩ := hfs j f hj
      have hjl : j < fs.size := (Array.getElem?_eq_some_iff.1 hj).1
      refine ⟨u, y, k, ?_, hy⟩
      rw [← Go.Deep.add_add, hat j hjl, hu]
    obtain ⟨g, off, spot⟩ := a
    obtain ⟨u, y, k, hu, -⟩ := hcell 0 hn 0 _ (Array.getElem?_eq_getElem hpos)
    have hspot : spot = none := by
      have := World.cell?_spot hu
      simpa [Addr.add] using this
    subst hspot
    refine ⟨g, off, rfl, ?_, fun i hil j f hj => ?_⟩
    · rw [add_off] at hu; exact block_lt_of_cell hu
    · obtain ⟨u, y, k, hu, hy⟩ := hcell i hil j f hj
      exact ⟨u, y, k, by rw [add_off] at hu; exact hu, hy⟩

/-- records that come in -/
theorem open_recs {t e : TypeId} {f0 f1 f2 f3 f4 f5 : Field} {fuel : Nat} {v : Value} {x : DataW H × List MemPlace} (ht : P.underlying t = some (.slice e)) (he : P.underlying e = some (.struct #[f0, f1, f2, f3, f4, f5])) (hone : oneCellFields P #[f0, f1, f2, f3, f4, f5] = true) (hC : P.cellsOf e = 6)
    (h0 : P.underlying f0.type = some (.int .i64)) (h1 : P.underlying f1.type = some (.int .i64)) (h2 : P.underlying f2.type = some (.int .i64)) (h3 : P.underlying f3.type = some (.int .i64)) (h4 : P.underlying f4.type = some (.int .i64)) (h5 : P.underlying f5.type = some .string)
    (h : DataW.trod enc P w base spare held fuel t [v] = some x) :
    ∃ (A : Option Addr) (n cap : Nat) (X : List Rc), v = .slice A n cap ∧ RdRc w w.heap.size A n X ∧ WideR X := by
  obtain ⟨A, n, cap, rfl, hn, hr⟩ := rows_ofR ht he hone hC (by simp) h
  have hmx : maxLen = 9223372036854775807 := rfl
  by_cases hp : 0 < n
  · obtain ⟨g, off, rfl, hg, hc⟩ := hr hp
    obtain ⟨X, hl, hX⟩ := list_ofR (Q := fun i (p : Rc) => (∀ j, j < 6 → w.cell? ⟨g, off + (i * 6 + j), none⟩ = some (((recC p)[j]?).getD undef)) ∧ p.d.size ≤ maxLen) Rc.zero n (fun i hi => by
      obtain ⟨u0, y0, m0, hu0, hy0⟩ := hc i hi 0 f0 rfl
      obtain ⟨u1, y1, m1, hu1, hy1⟩ := hc i hi 1 f1 rfl
      obtain ⟨u2, y2, m2, hu2, hy2⟩ := hc i hi 2 f2 rfl
      obtain ⟨u3, y3, m3, hu3, hy3⟩ := hc i hi 3 f3 rfl
      obtain ⟨u4, y4, m4, hu4, hy4⟩ := hc i hi 4 f4 rfl
      obtain ⟨u5, y5, m5, hu5, hy5⟩ := hc i hi 5 f5 rfl
      obtain ⟨z0, e0, -⟩ := DataW.trod_int h0 hy0
      obtain ⟨z1, e1, -⟩ := DataW.trod_int h1 hy1
      obtain ⟨z2, e2, -⟩ := DataW.trod_int h2 hy2
      obtain ⟨z3, e3, -⟩ := DataW.trod_int h3 hy3
      obtain ⟨z4, e4, -⟩ := DataW.trod_int h4 hy4
      obtain ⟨s, e5, -, hs⟩ := DataW.trod_string h5 hy5
      simp only [List.cons.injEq, and_true] at e0 e1 e2 e3 e4 e5
      subst e0 e1 e2 e3 e4 e5
      refine ⟨⟨z0, z1, z2, z3, z4, s⟩, fun j hj => ?_, hs⟩
      have hj' : j = 0 ∨ j = 1 ∨ j = 2 ∨ j = 3 ∨ j = 4 ∨ j = 5 := by omega
      rcases hj' with rfl | rfl | rfl | rfl | rfl | rfl
      · exact hu0
      · exact hu1
      · exact hu2
      · exact hu3
      · exact hu4
      · exact hu5)
    refine ⟨_, n, cap, X, rfl, ⟨hl, fun _ => ⟨g, off, rfl, hg, fun c hcn => ?_⟩⟩, by omega, fun p hpX => ?_⟩
    · have := (hX (c / 6) (by omega)).1 (c % 6) (by omega)
      rw [show c / 6 * 6 + c % 6 = c by omega] at this
      exact this
    · obtain ⟨i, hi, rfl⟩ := mem_getD hpX Rc.zero
      exact (hX i (by omega)).2
  · obtain rfl : n = 0 := by omega
    exact ⟨A, 0, cap, [], rfl, ⟨rfl, fun h => absurd h (by omega)⟩, by simp, fun b hb => by cases hb⟩
/-- a history that comes in -/
theorem open_hist {r : Reach} {b0 : Nat} {tn t e : TypeId} {n0 f0 f1 f2 f3 f4 f5 : Field} {v : Value} {d : DataW H} {ps : List MemPlace} (hn : P.underlying tn = some (.struct #[n0])) (hnone : oneCellFields P #[n0] = true) (hnC : P.cellsOf tn = 1) (hn0 : n0.type = t)
    (ht : P.underlying t = some (.slice e)) (he : P.underlying e = some (.struct #[f0, f1, f2, f3, f4, f5])) (hone : oneCellFields P #[f0, f1, f2, f3, f4, f5] = true) (hC : P.cellsOf e = 6)
    (h0 : P.underlying f0.type = some (.int .i64)) (h1 : P.underlying f1.type = some (.int .i64)) (h2 : P.underlying f2.type = some (.int .i64)) (h3 : P.underlying f3.type = some (.int .i64)) (h4 : P.underlying f4.type = some (.int .i64)) (h5 : P.underlying f5.type = some .string)
    (hval : Value.okWide P w r b0 tn v) (h : DataW.Trod enc P w base spare held tn v d ps) :
    ∃ (A : Option Addr) (n cap : Nat) (X : List Rc), v = .agg #[.slice A n cap] ∧ RdRc w w.heap.size A n X ∧ WideR X := by
  obtain ⟨cs, rfl, hsz⟩ := okWide_struct hn hval
  obtain ⟨fuel, hf⟩ := h
  obtain ⟨hcl, hfs⟩ := fields_ofR hn hnone hf hnC
  obtain ⟨u, y, m, hu, hy⟩ := hfs 0 n0 rfl
  rw [hn0] at hy
  obtain ⟨A, n, cap, X, rfl, hX, hW⟩ := open_recs ht he hone hC h0 h1 h2 h3 h4 h5 hy
  refine ⟨A, n, cap, X, ?_, hX, hW⟩
  obtain ⟨l⟩ := cs
  match l, hcl, hu with
  | [c], _, hu => simp [Value.cells] at hu; rw [hu]
end

set_option maxRecDepth 100000 in
/-- a history that comes in, at this program's types -/
theorem open_lawsHist {H : Type} {enc : TypeId × Value → H} {w : World} {base : Nat} {spare : Nat → Bool} {held : Bool} {r : Reach} {b0 : Nat} {v : Value} {d : DataW H} {ps : List MemPlace}
    (hval : Value.okWide Tryz.prog w r b0 85 v) (h : DataW.Trod enc Tryz.prog w base spare held 85 v d ps) :
    ∃ (A : Option Addr) (n cap : Nat) (X : List Rc), v = .agg #[.slice A n cap] ∧ RdRc w w.heap.size A n X ∧ WideR X :=
  open_hist Tryz.underlying85 (by kernel_rfl) (by kernel_rfl) rfl Tryz.underlying83 Tryz.underlying232 (by kernel_rfl) (by kernel_rfl)
    Tryz.underlying2 Tryz.underlying2 Tryz.underlying2 Tryz.underlying2 Tryz.underlying2 Tryz.underlying9 hval h
end Go.Proofs.YtloaeglmngcenaaGreatDoor
