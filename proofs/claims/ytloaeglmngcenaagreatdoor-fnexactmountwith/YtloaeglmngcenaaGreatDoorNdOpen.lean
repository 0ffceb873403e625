/-
  A chip that comes in as an argument, opened: its cells, whatever memory it shares.
-/
import Derived.Test.YtloaeglmngcenaaGreatDoorProg
import Derived.KernelRfl
import Derived.Test.YtloaeglmngcenaaGreatDoorNdMem
import Derived.Deep.Slices
import Derived.Deep.Fields
import Derived.ChangeSame
import Derived.KernelRfl
namespace Go.Proofs.YtloaeglmngcenaaGreatDoor
open Go.RowKit Go.ChangeShapes Go.WideShapes Go.Deep

theorem list_of {α : Type} {Q : Nat → α → Prop} (z : α) : ∀ n : Nat, (∀ i, i < n → ∃ p, Q i p) → ∃ X : List α, X.length = n ∧ ∀ i, i < n → Q i (X.getD i z)
  | 0, _ => ⟨[], rfl, fun i h => absurd h (by omega)⟩
  | n + 1, h => by
    obtain ⟨X, hl, hX⟩ := list_of z n fun i hi => h i (by omega)
    obtain ⟨p, hp⟩ := h n (by omega)
    refine ⟨X ++ [p], by simp [hl], fun i hi => ?_⟩
    by_cases e : i = n
    · subst e
      rw [List.getD_eq_getElem?_getD, List.getElem?_append_right (by omega), hl]
      simpa using hp
    · rw [List.getD_eq_getElem?_getD, List.getElem?_append_left (by omega), ← List.getD_eq_getElem?_getD]
      exact hX i (by omega)

section
variable {H : Type} {enc : TypeId × Value → H} {P : Program} {w : World} {base : Nat} {spare : Nat → Bool} {held : Bool}
/-- the fields of a struct of one-cell fields, out of its cells -/
theorem fields_of {t : TypeId} {fs : Array Field} {fuel : Nat} {cs : List Value} {x : DataW H × List MemPlace} (ht : P.underlying t = some (.struct fs)) (hone : oneCellFields P fs = true)
    (h : DataW.trod enc P w base spare held fuel t cs = some x) (hC : P.cellsOf t = fs.size) :
    cs.length = fs.size ∧ ∀ (j : Nat) (f : Field), fs[j]? = some f → ∃ (v : Value) (y : DataW H × List MemPlace) (n : Nat), cs[j]? = some v ∧ DataW.trod enc P w base spare held n f.type [v] = some y := by
  obtain ⟨xs, n, -, -, hcl, hxl, hf⟩ := DataW.trod_struct ht h
  rw [hC] at hcl
  refine ⟨hcl, fun j f hj => ?_⟩
  obtain ⟨ho, hk⟩ := hone_of hone j f hj
  have hjl : j < fs.size := (Array.getElem?_eq_some_iff.1 hj).1
  have h1 := hf j f hj
  have hone' : (cs.drop j).take 1 = [cs[j]'(by omega)] := by rw [List.drop_eq_getElem_cons (by omega)]; rfl
  rw [ho, hk, hone', List.getElem?_eq_getElem (show j < xs.length by omega)] at h1
  exact ⟨cs[j], xs[j], n, List.getElem?_eq_getElem (by omega), h1⟩
/-- a slice of structs of one-cell fields: each field of each element -/
theorem rows_of {t e : TypeId} {fs : Array Field} {fuel : Nat} {v : Value} {x : DataW H × List MemPlace} (ht : P.underlying t = some (.slice e)) (he : P.underlying e = some (.struct fs))
    (hone : oneCellFields P fs = true) (hC : P.cellsOf e = fs.size) (hpos : 0 < fs.size) (h : DataW.trod enc P w base spare held fuel t [v] = some x) :
    ∃ (A : Option Addr) (n cap : Nat), v = .slice A n cap ∧ n ≤ maxLen ∧ (0 < n → ∃ g off, A = some ⟨g, off, none⟩ ∧ g < w.heap.size ∧
      ∀ i, i < n → ∀ (j : Nat) (f : Field), fs[j]? = some f → ∃ (u : Value) (y : DataW H × List MemPlace) (m : Nat), w.cell? ⟨g, off + (i * fs.size + j), none⟩ = some u ∧ DataW.trod enc P w base spare held m f.type [u] = some y) := by
  rcases open_slice ht h with ⟨h0, -⟩ | ⟨a, len, cap, m, n, D, Pl, hcs, -, hl, hm, hmm, -, hi⟩
  · simp only [List.cons.injEq, and_true] at h0
    exact ⟨none, 0, 0, h0, by simp [maxLen], fun hn => absurd hn (by omega)⟩
  · simp only [List.cons.injEq, and_true] at hcs
    refine ⟨some a, len, cap, hcs, by omega, fun hn => ?_⟩
    have hml : len ≤ m := by rw [hmm]; split <;> omega
    have hcell : ∀ i, i < len → ∀ (j : Nat) (f : Field), fs[j]? = some f → ∃ (u : Value) (y : DataW H × List MemPlace) (m : Nat), w.cell? (a.add (i * fs.size + j)) = some u ∧ DataW.trod enc P w base spare held m f.type [u] = some y := by
      intro i hil j f hj
      obtain ⟨cs', hc, ht'⟩ := hi i (by omega)
      rw [hC] at hc
      obtain ⟨hcl, hfs⟩ := fields_of he hone ht' hC
      obtain ⟨-, -, hat⟩ := World.cells?_some hc
      obtain ⟨u, y, k, hu, hy⟩ := hfs j f hj
      have hjl : j < fs.size := (Array.getElem?_eq_some_iff.1 hj).1
      refine ⟨u, y, k, ?_, hy⟩
      rw [← Go.Deep.add_add, hat j hjl, hu]
    obtain ⟨g, off, spot⟩ := a
    obtain ⟨u, y, k, hu, -⟩ := hcell 0 hn 0 _ (Array.getElem?_eq_getElem hpos)
    have hspot : spot = none := by
      have := World.cell?_spot hu
      simpa [Addr.add] using this
    subst hspot
    refine ⟨g, off, rfl, ?_, fun i hil j f hj => ?_⟩
    · rw [add_off] at hu; exact block_lt_of_cell hu
    · obtain ⟨u, y, k, hu, hy⟩ := hcell i hil j f hj
      exact ⟨u, y, k, by rw [add_off] at hu; exact hu, hy⟩

/-- pages that come in -/
theorem open_pages {t e : TypeId} {f0 f1 : Field} {fuel : Nat} {v : Value} {x : DataW H × List MemPlace} (ht : P.underlying t = some (.slice e)) (he : P.underlying e = some (.struct #[f0, f1])) (hone : oneCellFields P #[f0, f1] = true) (hC : P.cellsOf e = 2)
    (h0 : P.underlying f0.type = some .bool) (h1 : P.underlying f1.type = some .string) (h : DataW.trod enc P w base spare held fuel t [v] = some x) :
    ∃ (A : Option Addr) (n cap : Nat) (X : List Pg), v = .slice A n cap ∧ n ≤ maxLen ∧ RdPg w w.heap.size A n X ∧ ∀ p ∈ X, p.data.size ≤ maxLen := by
  obtain ⟨A, n, cap, rfl, hn, hr⟩ := rows_of ht he hone hC (by simp) h
  by_cases hp : 0 < n
  · obtain ⟨g, off, rfl, hg, hc⟩ := hr hp
    obtain ⟨X, hl, hX⟩ := list_of (Q := fun i (p : Pg) => w.cell? ⟨g, off + i * 2, none⟩ = some (.bool p.used) ∧ w.cell? ⟨g, off + (i * 2 + 1), none⟩ = some (.string p.data) ∧ p.data.size ≤ maxLen) zeroPg n (fun i hi => by
      obtain ⟨u0, y0, m0, hu0, hy0⟩ := hc i hi 0 f0 rfl
      obtain ⟨u1, y1, m1, hu1, hy1⟩ := hc i hi 1 f1 rfl
      obtain ⟨b, hb, -⟩ := DataW.trod_bool h0 hy0
      obtain ⟨s, hs, -, hsz⟩ := DataW.trod_string h1 hy1
      simp only [List.cons.injEq, and_true] at hb hs
      subst hb hs
      exact ⟨⟨b, s⟩, hu0, hu1, hsz⟩)
    refine ⟨_, n, cap, X, rfl, hn, ⟨hl, fun _ => ⟨g, off, rfl, hg, fun c hcn => ?_⟩⟩, fun p hpX => ?_⟩
    · obtain ⟨q0, q1, -⟩ := hX (c / 2) (by omega)
      rcases Nat.mod_two_eq_zero_or_one c with e | e
      · rw [show c = c / 2 * 2 by omega, pgF_0]; exact q0
      · rw [show c = c / 2 * 2 + 1 by omega, pgF_1]; exact q1
    · obtain ⟨i, hi, rfl⟩ := mem_getD hpX zeroPg
      exact (hX i (by omega)).2.2
  · obtain rfl : n = 0 := by omega
    exact ⟨A, 0, cap, [], rfl, hn, ⟨rfl, fun h => absurd h (by omega)⟩, fun p hp => by cases hp⟩

/-- blocks that come in -/
theorem open_blocks {t e pt pe : TypeId} {f0 f1 f2 g0 g1 : Field} {fuel : Nat} {v : Value} {x : DataW H × List MemPlace} (ht : P.underlying t = some (.slice e)) (he : P.underlying e = some (.struct #[f0, f1, f2])) (hone : oneCellFields P #[f0, f1, f2] = true) (hC : P.cellsOf e = 3)
    (hf0 : f0.type = pt) (hpt : P.underlying pt = some (.slice pe)) (hpe : P.underlying pe = some (.struct #[g0, g1])) (hpone : oneCellFields P #[g0, g1] = true) (hpC : P.cellsOf pe = 2) (hg0 : P.underlying g0.type = some .bool) (hg1 : P.underlying g1.type = some .string)
    (h1 : P.underlying f1.type = some (.int .i64)) (h2 : P.underlying f2.type = some .bool) (h : DataW.trod enc P w base spare held fuel t [v] = some x) :
    ∃ (A : Option Addr) (n cap : Nat) (X : List Bk), v = .slice A n cap ∧ RdBk w w.heap.size A n X ∧ Wide X := by
  obtain ⟨A, n, cap, rfl, hn, hr⟩ := rows_of ht he hone hC (by simp) h
  have hmx : maxLen = 9223372036854775807 := rfl
  by_cases hp : 0 < n
  · obtain ⟨g, off, rfl, hg, hc⟩ := hr hp
    obtain ⟨X, hl, hX⟩ := list_of (Q := fun i (q : Bk × Option Addr × Nat) => w.cell? ⟨g, off + i * 3, none⟩ = some (.slice q.2.1 q.1.pages.length q.2.2) ∧ w.cell? ⟨g, off + (i * 3 + 1), none⟩ = some (.int .i64 q.1.erases) ∧ w.cell? ⟨g, off + (i * 3 + 2), none⟩ = some (.bool q.1.bad) ∧
        RdPg w w.heap.size q.2.1 q.1.pages.length q.1.pages ∧ q.1.pages.length ≤ maxLen ∧ (-9223372036854775808 ≤ q.1.erases ∧ q.1.erases ≤ 9223372036854775807) ∧ ∀ p ∈ q.1.pages, p.data.size ≤ maxLen) (zeroBk, none, 0) n (fun i hi => by
      obtain ⟨u0, y0, m0, hu0, hy0⟩ := hc i hi 0 f0 rfl
      obtain ⟨u1, y1, m1, hu1, hy1⟩ := hc i hi 1 f1 rfl
      obtain ⟨u2, y2, m2, hu2, hy2⟩ := hc i hi 2 f2 rfl
      rw [hf0] at hy0
      obtain ⟨pA, pn, pc, Y, rfl, hpn, hY, hYs⟩ := open_pages hpt hpe hpone hpC hg0 hg1 hy0
      obtain ⟨z, hz, -, hwf⟩ := DataW.trod_int h1 hy1
      obtain ⟨b, hb, -⟩ := DataW.trod_bool h2 hy2
      simp only [List.cons.injEq, and_true] at hz hb
      subst hz hb
      have hYl := hY.1
      subst hYl
      refine ⟨(⟨Y, z, b⟩, pA, pc), hu0, hu1, hu2, hY, hpn, ?_, hYs⟩
      simp only [Lit.wf, Bool.and_eq_true, decide_eq_true_eq] at hwf
      exact ⟨hwf.1, hwf.2⟩)
    refine ⟨_, n, cap, X.map (·.1), rfl, ⟨by simp [hl], fun _ => ⟨g, off, fun i => (X.getD i (zeroBk, none, 0)).2.1, fun i => (X.getD i (zeroBk, none, 0)).2.2, rfl, hg, fun c hcn => ?_, fun i hi => ?_⟩⟩, ?_⟩
    · have hci : c / 3 < n := by omega
      have hmap : (X.map (·.1)).getD (c / 3) zeroBk = (X.getD (c / 3) (zeroBk, none, 0)).1 := by simp [List.getD_eq_getElem?_getD, List.getElem?_eq_getElem (show c / 3 < X.length by omega)]
      obtain ⟨q0, q1, q2, -⟩ := hX (c / 3) hci
      have h3 : c % 3 = 0 ∨ c % 3 = 1 ∨ c % 3 = 2 := by omega
      rcases h3 with e | e | e
      · rw [show c = c / 3 * 3 by omega, bkF_0, hmap]; exact q0
      · rw [show c = c / 3 * 3 + 1 by omega, bkF_1, hmap]; exact q1
      · rw [show c = c / 3 * 3 + 2 by omega, bkF_2, hmap]; exact q2
    · have hmap : (X.map (·.1)).getD i zeroBk = (X.getD i (zeroBk, none, 0)).1 := by simp [List.getD_eq_getElem?_getD, List.getElem?_eq_getElem (show i < X.length by omega)]
      rw [hmap]
      exact (hX i hi).2.2.2.1
    · refine ⟨by simp [hl]; omega, fun b hb => ?_⟩
      obtain ⟨q, hq, rfl⟩ := List.mem_map.1 hb
      obtain ⟨i, hi, rfl⟩ := mem_getD hq (zeroBk, none, 0)
      obtain ⟨-, -, -, -, h5, h6, h7⟩ := hX i (by omega)
      exact ⟨by omega, h6, fun p hp => by have := h7 p hp; omega⟩
  · obtain rfl : n = 0 := by omega
    exact ⟨A, 0, cap, [], rfl, ⟨rfl, fun h => absurd h (by omega)⟩, by simp, fun b hb => by cases hb⟩
/-- a chip that comes in -/
theorem open_nand {r : Reach} {b0 : Nat} {tn t e pt pe : TypeId} {n0 f0 f1 f2 g0 g1 : Field} {v : Value} {d : DataW H} {ps : List MemPlace} (hn : P.underlying tn = some (.struct #[n0])) (hnone : oneCellFields P #[n0] = true) (hnC : P.cellsOf tn = 1) (hn0 : n0.type = t)
    (ht : P.underlying t = some (.slice e)) (he : P.underlying e = some (.struct #[f0, f1, f2])) (hone : oneCellFields P #[f0, f1, f2] = true) (hC : P.cellsOf e = 3)
    (hf0 : f0.type = pt) (hpt : P.underlying pt = some (.slice pe)) (hpe : P.underlying pe = some (.struct #[g0, g1])) (hpone : oneCellFields P #[g0, g1] = true) (hpC : P.cellsOf pe = 2) (hg0 : P.underlying g0.type = some .bool) (hg1 : P.underlying g1.type = some .string)
    (h1 : P.underlying f1.type = some (.int .i64)) (h2 : P.underlying f2.type = some .bool) (hval : Value.okWide P w r b0 tn v) (h : DataW.Trod enc P w base spare held tn v d ps) :
    ∃ (A : Option Addr) (n cap : Nat) (X : List Bk), v = .agg #[.slice A n cap] ∧ RdBk w w.heap.size A n X ∧ Wide X := by
  obtain ⟨cs, rfl, hsz⟩ := okWide_struct hn hval
  obtain ⟨fuel, hf⟩ := h
  obtain ⟨hcl, hfs⟩ := fields_of hn hnone hf hnC
  obtain ⟨u, y, m, hu, hy⟩ := hfs 0 n0 rfl
  rw [hn0] at hy
  obtain ⟨A, n, cap, X, rfl, hX, hW⟩ := open_blocks ht he hone hC hf0 hpt hpe hpone hpC hg0 hg1 h1 h2 hy
  refine ⟨A, n, cap, X, ?_, hX, hW⟩
  obtain ⟨l⟩ := cs
  match l, hcl, hu with
  | [c], _, hu => simp [Value.cells] at hu; rw [hu]
end

set_option maxRecDepth 100000 in
/-- a chip that comes in, at this program's types -/
theorem open_lawsNand {H : Type} {enc : TypeId × Value → H} {w : World} {base : Nat} {spare : Nat → Bool} {held : Bool} {r : Reach} {b0 : Nat} {v : Value} {d : DataW H} {ps : List MemPlace}
    (hval : Value.okWide Tryz.prog w r b0 97 v) (h : DataW.Trod enc Tryz.prog w base spare held 97 v d ps) :
    ∃ (A : Option Addr) (n cap : Nat) (X : List Bk), v = .agg #[.slice A n cap] ∧ RdBk w w.heap.size A n X ∧ Wide X :=
  open_nand Tryz.underlying97 (by kernel_rfl) (by kernel_rfl) rfl Tryz.underlying95 Tryz.underlying245 (by kernel_rfl) (by kernel_rfl) rfl Tryz.underlying243 Tryz.underlying318 (by kernel_rfl) (by kernel_rfl)
    Tryz.underlying4 Tryz.underlying9 Tryz.underlying2 Tryz.underlying4 hval h
end Go.Proofs.YtloaeglmngcenaaGreatDoor
