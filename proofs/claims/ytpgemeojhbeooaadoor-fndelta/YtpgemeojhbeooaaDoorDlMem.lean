/-
  Slices of delta operations in memory: what reads as a list of them, what the call itself owns; a list that comes in as an argument, opened; the laws' measure, copies and comparison.
-/
import Derived.Test.YtpgemeojhbeooaaDoorProg
import Derived.KernelRfl
import Derived.Test.YtpgemeojhbeooaaDoorNdMem
import Derived.Test.YtpgemeojhbeooaaDoorDlPure
import Derived.Deep.Slices
import Derived.Deep.Fields
import Derived.ChangeSame
import Derived.StillTailTactics
import Derived.Deep.QuietTactic
import Derived.BigQuiet
import Derived.Lib.QuietBelow
import Derived.Laws.MakeOwn
namespace Go.Proofs.YtpgemeojhbeooaaDoor
open Go.RowKit Go.ChangeShapes Go.WideShapes Go.Deep
open Bt (Dop)

/-- an operation as a value, as the cells of a block -/
abbrev dopV (o : Dop) : Value := .agg #[.int .i64 o.f, .int .i64 o.c, .string o.x]
abbrev dopC (o : Dop) : List Value := [.int .i64 o.f, .int .i64 o.c, .string o.x]
/-- the cells of a row of operations -/
def dopF (X : List Dop) (c : Nat) : Value := ((dopC (X.getD (c / 3) Dop.zero))[c % 3]?).getD undef
theorem dopF_at (X : List Dop) (k j : Nat) (hj : j < 3) : dopF X (k * 3 + j) = ((dopC (X.getD k Dop.zero))[j]?).getD undef := by
  unfold dopF; rw [show (k * 3 + j) / 3 = k by omega, show (k * 3 + j) % 3 = j by omega]
theorem dopF_0 (X : List Dop) (k : Nat) : dopF X (k * 3) = .int .i64 (X.getD k Dop.zero).f := dopF_at X k 0 (by omega)
theorem dopF_1 (X : List Dop) (k : Nat) : dopF X (k * 3 + 1) = .int .i64 (X.getD k Dop.zero).c := dopF_at X k 1 (by omega)
theorem dopF_2 (X : List Dop) (k : Nat) : dopF X (k * 3 + 2) = .string (X.getD k Dop.zero).x := dopF_at X k 2 (by omega)

/-- operations that read as X, wherever they lie below block B -/
def RdDo (w : World) (B : Nat) (A : Option Addr) (n : Nat) (X : List Dop) : Prop :=
  X.length = n ∧ (0 < n → ∃ g off, A = some ⟨g, off, none⟩ ∧ g < B ∧ ∀ c, c < n * 3 → w.cell? ⟨g, off + c, none⟩ = some (dopF X c))
section
variable {w w' : World} {B B' n k : Nat} {A : Option Addr} {X : List Dop}
theorem RdDo.below (h : RdDo w B A n X) (hb : Below B w w') : RdDo w' B A n X :=
  ⟨h.1, fun hn => by obtain ⟨g, off, hA, hg, hc⟩ := h.2 hn; exact ⟨g, off, hA, hg, fun c hi => (hb.cell (p := ⟨g, off + c, none⟩) hg).trans (hc c hi)⟩⟩
theorem RdDo.mono (h : RdDo w B A n X) (hB : B ≤ B') : RdDo w B' A n X :=
  ⟨h.1, fun hn => by obtain ⟨g, off, hA, hg, hc⟩ := h.2 hn; exact ⟨g, off, hA, Nat.lt_of_lt_of_le hg hB, hc⟩⟩
theorem RdDo.next (h : RdDo w w.heap.size A n X) (hb : Below w.heap.size w w') : RdDo w' w'.heap.size A n X := (h.below hb).mono hb.size
theorem RdDo.at (h : RdDo w B A n X) (hk : k < n) :
    ∃ g off, A = some ⟨g, off, none⟩ ∧ g < B ∧ w.cell? ⟨g, off + k * 3, none⟩ = some (.int .i64 (X.getD k Dop.zero).f) ∧ w.cell? ⟨g, off + k * 3 + 1, none⟩ = some (.int .i64 (X.getD k Dop.zero).c) ∧
      w.cell? ⟨g, off + k * 3 + 2, none⟩ = some (.string (X.getD k Dop.zero).x) := by
  obtain ⟨g, off, hA, hg, hc⟩ := h.2 (by omega)
  refine ⟨g, off, hA, hg, ?_, ?_, ?_⟩
  · rw [← dopF_0]; exact hc _ (by omega)
  · rw [← dopF_1]; exact hc (k * 3 + 1) (by omega)
  · rw [← dopF_2]; exact hc (k * 3 + 2) (by omega)
end

/-- operations in a block of the call's own, from lo to below hi -/
def OwDo (w : World) (lo hi : Nat) (A : Option Addr) (n : Nat) (X : List Dop) : Prop :=
  X.length = n ∧ (0 < n → ∃ g, A = some ⟨g, 0, none⟩ ∧ lo ≤ g ∧ g < hi ∧ Row w g (n * 3) (dopF X))
section
variable {w w' : World} {lo hi lo' hi' B n : Nat} {A : Option Addr} {X : List Dop}
theorem OwDo.same (h : OwDo w lo hi A n X) (hb : ∀ k, lo ≤ k → k < hi → w'.heap[k]? = w.heap[k]?) : OwDo w' lo hi A n X :=
  ⟨h.1, fun hn => by obtain ⟨g, hA, h1, h2, hr⟩ := h.2 hn; exact ⟨g, hA, h1, h2, hr.same (hb g h1 h2)⟩⟩
theorem OwDo.below (h : OwDo w lo hi A n X) (hb : Below B w w') (hB : hi ≤ B) : OwDo w' lo hi A n X := h.same fun k _ hk => hb.block k (by omega)
theorem OwDo.btw (h : OwDo w lo hi A n X) (hb : Btw lo' hi' w w') (hs : hi ≤ w.heap.size) (hd : hi ≤ lo' ∨ hi' ≤ lo) : OwDo w' lo hi A n X :=
  h.same fun k _ hk => hb.block k (by omega) (by omega)
theorem OwDo.mono (h : OwDo w lo hi A n X) (hl : lo' ≤ lo) (hh : hi ≤ hi') : OwDo w lo' hi' A n X :=
  ⟨h.1, fun hn => by obtain ⟨g, hA, h1, h2, hr⟩ := h.2 hn; exact ⟨g, hA, by omega, by omega, hr⟩⟩
theorem OwDo.rd (h : OwDo w lo hi A n X) (hB : hi ≤ B) : RdDo w B A n X :=
  ⟨h.1, fun hn => by obtain ⟨g, hA, h1, h2, hr⟩ := h.2 hn; exact ⟨g, 0, hA, by omega, fun c hc => by rw [Nat.zero_add]; exact hr.cell hc⟩⟩
theorem ow_nilD (w : World) (lo hi : Nat) (A : Option Addr) : OwDo w lo hi A 0 [] := ⟨rfl, fun h => absurd h (by omega)⟩
end
theorem mem_getD' {α : Type} {X : List α} {p : α} (h : p ∈ X) (z : α) : ∃ i, i < X.length ∧ X.getD i z = p := by
  obtain ⟨i, hi, rfl⟩ := List.getElem_of_mem h
  exact ⟨i, hi, by rw [List.getD_eq_getElem?_getD, List.getElem?_eq_getElem hi]; rfl⟩

/-! how much a list of operations holds -/
def sumD (X : List Dop) : Nat → Nat
  | 0 => 0
  | k + 1 => sumD X k + (X.getD k Dop.zero).x.size
theorem sumD_mono {X : List Dop} {a b : Nat} (h : a ≤ b) : sumD X a ≤ sumD X b := by
  induction b with
  | zero => obtain rfl : a = 0 := by omega
            exact Nat.le_refl _
  | succ b ih =>
    by_cases e : a = b + 1
    · subst e; exact Nat.le_refl _
    · have := ih (by omega); rw [sumD]; omega
def szDos (X : List Dop) : Nat := X.length + sumD X X.length
def SmallD (X : List Dop) : Prop := X.length ≤ 1048576 ∧ ∀ r ∈ X, r.x.size ≤ 1048576
theorem smallD_of_sz {X : List Dop} (h : szDos X ≤ 1048576) : SmallD X := by
  unfold szDos at h
  refine ⟨by omega, fun b hb => ?_⟩
  obtain ⟨i, hi, rfl⟩ := mem_getD' hb Dop.zero
  have h1 := sumD_mono (X := X) (show i + 1 ≤ X.length by omega)
  rw [sumD] at h1
  omega
def WideD (X : List Dop) : Prop := X.length ≤ 9223372036854775807 ∧ (∀ r ∈ X, r.x.size ≤ 9223372036854775807) ∧ ∀ r ∈ X, -9223372036854775808 ≤ r.f ∧ r.f ≤ 9223372036854775807
theorem SmallD.at {X : List Dop} (h : SmallD X) (k : Nat) : (X.getD k Dop.zero).x.size ≤ 1048576 := by
  by_cases hk : k < X.length
  · exact h.2 _ (getD_lt hk)
  · rw [List.getD_eq_getElem?_getD, List.getElem?_eq_none (by omega)]; show (0 : Nat) ≤ _; omega
/-- a measure's answer -/
def szD (t : Nat) (left : Int) : Int := if (t : Int) ≤ left then left - t else -1
theorem szD_ok {t : Nat} {left : Int} (h : (t : Int) ≤ left) : szD t left = left - t := if_pos h
theorem szD_no {t : Nat} {left : Int} (h : left < (t : Int)) : szD t left = -1 := if_neg (by omega)

theorem list_ofD {α : Type} {Q : Nat → α → Prop} (z : α) : ∀ n : Nat, (∀ i, i < n → ∃ p, Q i p) → ∃ X : List α, X.length = n ∧ ∀ i, i < n → Q i (X.getD i z)
  | 0, _ => ⟨[], rfl, fun i h => absurd h (by omega)⟩
  | n + 1, h => by
    obtain ⟨X, hl, hX⟩ := list_ofD z n fun i hi => h i (by omega)
    obtain ⟨p, hp⟩ := h n (by omega)
    refine ⟨X ++ [p], by simp [hl], fun i hi => ?_⟩
    by_cases e : i = n
    · subst e
      rw [List.getD_eq_getElem?_getD, List.getElem?_append_right (by omega), hl]
      simpa using hp
    · rw [List.getD_eq_getElem?_getD, List.getElem?_append_left (by omega), ← List.getD_eq_getElem?_getD]
      exact hX i (by omega)
section
variable {H : Type} {enc : TypeId × Value → H} {P : Program} {w : World} {base : Nat} {spare : Nat → Bool} {held : Bool}
/-- the fields of a struct of one-cell fields, out of its cells -/
theorem fields_ofD {t : TypeId} {fs : Array Field} {fuel : Nat} {cs : List Value} {x : DataW H × List MemPlace} (ht : P.underlying t = some (.struct fs)) (hone : oneCellFields P fs = true)
    (h : DataW.trod enc P w base spare held fuel t cs = some x) (hC : P.cellsOf t = fs.size) :
    cs.length = fs.size ∧ ∀ (j : Nat) (f : Field), fs[j]? = some f → ∃ (v : Value) (y : DataW H × List MemPlace) (n : Nat), cs[j]? = some v ∧ DataW.trod enc P w base spare held n f.type [v] = some y := by
  obtain ⟨xs, n, -, -, hcl, hxl, hf⟩ := DataW.trod_struct ht h
  rw [hC] at hcl
  refine ⟨hcl, fun j f hj => ?_⟩
  obtain ⟨ho, hk⟩ := hone_of hone j f hj
  have hjl : j < fs.size := (Array.getElem?_eq_some_iff.1 hj).1
  have h1 := hf j f hj
  have hone' : (cs.drop j).take 1 = [cs[j]'(by omega)] := by rw [List.drop_eq_getElem_cons (by omega)]; rfl
  rw [ho, hk, hone', List.getElem?_eq_getElem (show j < xs.length by omega)] at h1
  exact ⟨cs[j], xs[j], n, List.getElem?_eq_getElem (by omega), h1⟩
/-- a slice of structs of one-cell fields: each field of each element -/
theorem rows_ofD {t e : TypeId} {fs : Array Field} {fuel : Nat} {v : Value} {x : DataW H × List MemPlace} (ht : P.underlying t = some (.slice e)) (he : P.underlying e = some (.struct fs))
    (hone : oneCellFields P fs = true) (hC : P.cellsOf e = fs.size) (hpos : 0 < fs.size) (h : DataW.trod enc P w base spare held fuel t [v] = some x) :
    ∃ (A : Option Addr) (n cap : Nat), v = .slice A n cap ∧ n ≤ maxLen ∧ (0 < n → ∃ g off, A = some ⟨g, off, none⟩ ∧ g < w.heap.size ∧
      ∀ i, i < n → ∀ (j : Nat) (f : Field), fs[j]? = some f → ∃ (u : Value) (y : DataW H × List MemPlace) (m : Nat), w.cell? ⟨g, off + (i * fs.size + j), none⟩ = some u ∧ DataW.trod enc P w base spare held m f.type [u] = some y) := by
  rcases open_slice ht h with ⟨h0, -⟩ | ⟨a, len, cap, m, n, D, Pl, hcs, -, hl, hm, hmm, -, hi⟩
  · simp only [List.cons.injEq, and_true] at h0
    exact ⟨none, 0, 0, h0, by simp [maxLen], fun hn => absurd hn (by omega)⟩
  · simp only [List.cons.injEq, and_true] at hcs
    refine ⟨some a, len, cap, hcs, by omega, fun hn => ?_⟩
    have hml : len ≤ m := by rw [hmm]; split <;> omega
    have hcell : ∀ i, i < len → ∀ (j : Nat) (f : Field), fs[j]? = some f → ∃ (u : Value) (y : DataW H × List MemPlace) (m : Nat), w.cell? (a.add (i * fs.size + j)) = some u ∧ DataW.trod enc P w base spare held m f.type [u] = some y := by
      intro i hil j f hj
      obtain ⟨cs', hc, ht'⟩ := hi i (by omega)
      rw [hC] at hc
      obtain ⟨hcl, hfs⟩ := fields_ofD he hone ht' hC
      obtain ⟨-, -, hat⟩ := World.cells?_some hc
      obtain ⟨u, y, k, hu, hy⟩ := hfs j f hj
      have hjl : j < fs.size := (Array.getElem?_eq_some_iff.1 hj).1
      refine ⟨u, y, k, ?_, hy⟩
      rw [← Go.Deep.add_add, hat j hjl, hu]
    obtain ⟨g, off, spot⟩ := a
    obtain ⟨u, y, k, hu, -⟩ := hcell 0 hn 0 _ (Array.getElem?_eq_getElem hpos)
    have hspot : spot = none := by
      have := World.cell?_spot hu
      simpa [Addr.add] using this
    subst hspot
    refine ⟨g, off, rfl, ?_, fun i hil j f hj => ?_⟩
    · rw [add_off] at hu; exact block_lt_of_cell hu
    · obtain ⟨u, y, k, hu, hy⟩ := hcell i hil j f hj
      exact ⟨u, y, k, by rw [add_off] at hu; exact hu, hy⟩
theorem wf_i64D {a : Int} (h : (Lit.int .i64 a).wf = true) : -9223372036854775808 ≤ a ∧ a ≤ 9223372036854775807 := by
  simp [Lit.wf] at h
  have h1 : IntKind.i64.min = -9223372036854775808 := by decide
  have h2 : IntKind.i64.max = 9223372036854775807 := by decide
  omega
/-- operations that come in -/
theorem open_dops {t e : TypeId} {f0 f1 f2 : Field} {fuel : Nat} {v : Value} {x : DataW H × List MemPlace} (ht : P.underlying t = some (.slice e)) (he : P.underlying e = some (.struct #[f0, f1, f2])) (hone : oneCellFields P #[f0, f1, f2] = true) (hC : P.cellsOf e = 3)
    (h0 : P.underlying f0.type = some (.int .i64)) (h1 : P.underlying f1.type = some (.int .i64)) (h2 : P.underlying f2.type = some .string)
    (h : DataW.trod enc P w base spare held fuel t [v] = some x) :
    ∃ (A : Option Addr) (n cap : Nat) (X : List Dop), v = .slice A n cap ∧ RdDo w w.heap.size A n X ∧ WideD X := by
  obtain ⟨A, n, cap, rfl, hn, hr⟩ := rows_ofD ht he hone hC (by simp) h
  have hmx : maxLen = 9223372036854775807 := rfl
  by_cases hp : 0 < n
  · obtain ⟨g, off, rfl, hg, hc⟩ := hr hp
    obtain ⟨X, hl, hX⟩ := list_ofD (Q := fun i (p : Dop) => (∀ j, j < 3 → w.cell? ⟨g, off + (i * 3 + j), none⟩ = some (((dopC p)[j]?).getD undef)) ∧ p.x.size ≤ maxLen ∧ (Lit.int .i64 p.f).wf = true) Dop.zero n (fun i hi => by
      obtain ⟨u0, y0, m0, hu0, hy0⟩ := hc i hi 0 f0 rfl
      obtain ⟨u1, y1, m1, hu1, hy1⟩ := hc i hi 1 f1 rfl
      obtain ⟨u2, y2, m2, hu2, hy2⟩ := hc i hi 2 f2 rfl
      obtain ⟨z0, e0, -, hz0⟩ := DataW.trod_int h0 hy0
      obtain ⟨z1, e1, -⟩ := DataW.trod_int h1 hy1
      obtain ⟨s, e2, -, hs⟩ := DataW.trod_string h2 hy2
      simp only [List.cons.injEq, and_true] at e0 e1 e2
      subst e0 e1 e2
      refine ⟨⟨z0, z1, s⟩, fun j hj => ?_, hs, hz0⟩
      have hj' : j = 0 ∨ j = 1 ∨ j = 2 := by omega
      rcases hj' with rfl | rfl | rfl
      · exact hu0
      · exact hu1
      · exact hu2)
    refine ⟨_, n, cap, X, rfl, ⟨hl, fun _ => ⟨g, off, rfl, hg, fun c hcn => ?_⟩⟩, by omega, fun p hpX => ?_, fun p hpX => ?_⟩
    · have := (hX (c / 3) (by omega)).1 (c % 3) (by omega)
      rw [show c / 3 * 3 + c % 3 = c by omega] at this
      exact this
    · obtain ⟨i, hi, rfl⟩ := mem_getD' hpX Dop.zero
      exact (hX i (by omega)).2.1
    · obtain ⟨i, hi, rfl⟩ := mem_getD' hpX Dop.zero
      exact wf_i64D (hX i (by omega)).2.2
  · obtain rfl : n = 0 := by omega
    exact ⟨A, 0, cap, [], rfl, ⟨rfl, fun h => absurd h (by omega)⟩, by simp, (fun b hb => by cases hb), (fun b hb => by cases hb)⟩
end

end Go.Proofs.YtpgemeojhbeooaaDoor
