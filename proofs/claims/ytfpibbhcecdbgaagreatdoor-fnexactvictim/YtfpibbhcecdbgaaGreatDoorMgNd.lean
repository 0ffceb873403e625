/-
  A chip that comes in as an argument, opened: its cells, whatever memory it shares.
  What the laws' own comparisons answer: pages, blocks, chips compared field by field.
  What the laws' own copies make: pages, blocks, chips of the program's types in new memory.
  What the laws' own measures of a chip answer: what is left of the room, or -1.
  The laws' own marks: what markText writes, what marking a chip makes of its memory, and that what is marked is held.
  What is marked is held: the laws' own look at the marks of a chip.
-/
import Derived.Test.YtfpibbhcecdbgaaGreatDoorProg
import Derived.KernelRfl
import Derived.Test.YtfpibbhcecdbgaaGreatDoorNdMem
import Derived.Deep.Slices
import Derived.Deep.Fields
import Derived.ChangeSame
import Derived.StillTailTactics
import Derived.Deep.QuietTactic
import Derived.BigQuiet
import Derived.Lib.QuietBelow
import Derived.Laws.MakeOwn
namespace Go.Proofs.YtfpibbhcecdbgaaGreatDoor
open Go.RowKit Go.ChangeShapes Go.WideShapes Go.Deep

theorem list_of {α : Type} {Q : Nat → α → Prop} (z : α) : ∀ n : Nat, (∀ i, i < n → ∃ p, Q i p) → ∃ X : List α, X.length = n ∧ ∀ i, i < n → Q i (X.getD i z)
  | 0, _ => ⟨[], rfl, fun i h => absurd h (by omega)⟩
  | n + 1, h => by
    obtain ⟨X, hl, hX⟩ := list_of z n fun i hi => h i (by omega)
    obtain ⟨p, hp⟩ := h n (by omega)
    refine ⟨X ++ [p], by simp [hl], fun i hi => ?_⟩
    by_cases e : i = n
    · subst e
      rw [List.getD_eq_getElem?_getD, List.getElem?_append_right (by omega), hl]
      simpa using hp
    · rw [List.getD_eq_getElem?_getD, List.getElem?_append_left (by omega), ← List.getD_eq_getElem?_getD]
      exact hX i (by omega)

section
variable {H : Type} {enc : TypeId × Value → H} {P : Program} {w : World} {base : Nat} {spare : Nat → Bool} {held : Bool}
/-- the fields of a struct of one-cell fields, out of its cells -/
theorem fields_of {t : TypeId} {fs : Array Field} {fuel : Nat} {cs : List Value} {x : DataW H × List MemPlace} (ht : P.underlying t = some (.struct fs)) (hone : oneCellFields P fs = true)
    (h : DataW.trod enc P w base spare held fuel t cs = some x) (hC : P.cellsOf t = fs.size) :
    cs.length = fs.size ∧ ∀ (j : Nat) (f : Field), fs[j]? = some f → ∃ (v : Value) (y : DataW H × List MemPlace) (n : Nat), cs[j]? = some v ∧ DataW.trod enc P w base spare held n f.type [v] = some y := by
  obtain ⟨xs, n, -, -, hcl, hxl, hf⟩ := DataW.trod_struct ht h
  rw [hC] at hcl
  refine ⟨hcl, fun j f hj => ?_⟩
  obtain ⟨ho, hk⟩ := hone_of hone j f hj
  have hjl : j < fs.size := (Array.getElem?_eq_some_iff.1 hj).1
  have h1 := hf j f hj
  have hone' : (cs.drop j).take 1 = [cs[j]'(by omega)] := by rw [List.drop_eq_getElem_cons (by omega)]; rfl
  rw [ho, hk, hone', List.getElem?_eq_getElem (show j < xs.length by omega)] at h1
  exact ⟨cs[j], xs[j], n, List.getElem?_eq_getElem (by omega), h1⟩
/-- a slice of structs of one-cell fields: each field of each element -/
theorem rows_of {t e : TypeId} {fs : Array Field} {fuel : Nat} {v : Value} {x : DataW H × List MemPlace} (ht : P.underlying t = some (.slice e)) (he : P.underlying e = some (.struct fs))
    (hone : oneCellFields P fs = true) (hC : P.cellsOf e = fs.size) (hpos : 0 < fs.size) (h : DataW.trod enc P w base spare held fuel t [v] = some x) :
    ∃ (A : Option Addr) (n cap : Nat), v = .slice A n cap ∧ n ≤ maxLen ∧ (0 < n → ∃ g off, A = some ⟨g, off, none⟩ ∧ g < w.heap.size ∧
      ∀ i, i < n → ∀ (j : Nat) (f : Field), fs[j]? = some f → ∃ (u : Value) (y : DataW H × List MemPlace) (m : Nat), w.cell? ⟨g, off + (i * fs.size + j), none⟩ = some u ∧ DataW.trod enc P w base spare held m f.type [u] = some y) := by
  rcases open_slice ht h with ⟨h0, -⟩ | ⟨a, len, cap, m, n, D, Pl, hcs, -, hl, hm, hmm, -, hi⟩
  · simp only [List.cons.injEq, and_true] at h0
    exact ⟨none, 0, 0, h0, by simp [maxLen], fun hn => absurd hn (by omega)⟩
  · simp only [List.cons.injEq, and_true] at hcs
    refine ⟨some a, len, cap, hcs, by omega, fun hn => ?_⟩
    have hml : len ≤ m := by rw [hmm]; split <;> omega
    have hcell : ∀ i, i < len → ∀ (j : Nat) (f : Field), fs[j]? = some f → ∃ (u : Value) (y : DataW H × List MemPlace) (m : Nat), w.cell? (a.add (i * fs.size + j)) = some u ∧ DataW.trod enc P w base spare held m f.type [u] = some y := by
      intro i hil j f hj
      obtain ⟨cs', hc, ht'⟩ := hi i (by omega)
      rw [hC] at hc
      obtain ⟨hcl, hfs⟩ := fields_of he hone ht' hC
      obtain ⟨-, -, hat⟩ := World.cells?_some hc
      obtain ⟨u, y, k, hu, hy⟩ := hfs j f hj
      have hjl : j < fs.size := (Array.getElem?_eq_some_iff.1 hj).1
      refine ⟨u, y, k, ?_, hy⟩
      rw [← Go.Deep.add_add, hat j hjl, hu]
    obtain ⟨g, off, spot⟩ := a
    obtain ⟨u, y, k, hu, -⟩ := hcell 0 hn 0 _ (Array.getElem?_eq_getElem hpos)
    have hspot : spot = none := by
      have := World.cell?_spot hu
      simpa [Addr.add] using this
    subst hspot
    refine ⟨g, off, rfl, ?_, fun i hil j f hj => ?_⟩
    · rw [add_off] at hu; exact block_lt_of_cell hu
    · obtain ⟨u, y, k, hu, hy⟩ := hcell i hil j f hj
      exact ⟨u, y, k, by rw [add_off] at hu; exact hu, hy⟩

/-- pages that come in -/
theorem open_pages {t e : TypeId} {f0 f1 : Field} {fuel : Nat} {v : Value} {x : DataW H × List MemPlace} (ht : P.underlying t = some (.slice e)) (he : P.underlying e = some (.struct #[f0, f1])) (hone : oneCellFields P #[f0, f1] = true) (hC : P.cellsOf e = 2)
    (h0 : P.underlying f0.type = some .bool) (h1 : P.underlying f1.type = some .string) (h : DataW.trod enc P w base spare held fuel t [v] = some x) :
    ∃ (A : Option Addr) (n cap : Nat) (X : List Pg), v = .slice A n cap ∧ n ≤ maxLen ∧ RdPg w w.heap.size A n X ∧ ∀ p ∈ X, p.data.size ≤ maxLen := by
  obtain ⟨A, n, cap, rfl, hn, hr⟩ := rows_of ht he hone hC (by simp) h
  by_cases hp : 0 < n
  · obtain ⟨g, off, rfl, hg, hc⟩ := hr hp
    obtain ⟨X, hl, hX⟩ := list_of (Q := fun i (p : Pg) => w.cell? ⟨g, off + i * 2, none⟩ = some (.bool p.used) ∧ w.cell? ⟨g, off + (i * 2 + 1), none⟩ = some (.string p.data) ∧ p.data.size ≤ maxLen) zeroPg n (fun i hi => by
      obtain ⟨u0, y0, m0, hu0, hy0⟩ := hc i hi 0 f0 rfl
      obtain ⟨u1, y1, m1, hu1, hy1⟩ := hc i hi 1 f1 rfl
      obtain ⟨b, hb, -⟩ := DataW.trod_bool h0 hy0
      obtain ⟨s, hs, -, hsz⟩ := DataW.trod_string h1 hy1
      simp only [List.cons.injEq, and_true] at hb hs
      subst hb hs
      exact ⟨⟨b, s⟩, hu0, hu1, hsz⟩)
    refine ⟨_, n, cap, X, rfl, hn, ⟨hl, fun _ => ⟨g, off, rfl, hg, fun c hcn => ?_⟩⟩, fun p hpX => ?_⟩
    · obtain ⟨q0, q1, -⟩ := hX (c / 2) (by omega)
      rcases Nat.mod_two_eq_zero_or_one c with e | e
      · rw [show c = c / 2 * 2 by omega, pgF_0]; exact q0
      · rw [show c = c / 2 * 2 + 1 by omega, pgF_1]; exact q1
    · obtain ⟨i, hi, rfl⟩ := mem_getD hpX zeroPg
      exact (hX i (by omega)).2.2
  · obtain rfl : n = 0 := by omega
    exact ⟨A, 0, cap, [], rfl, hn, ⟨rfl, fun h => absurd h (by omega)⟩, fun p hp => by cases hp⟩

/-- blocks that come in -/
theorem open_blocks {t e pt pe : TypeId} {f0 f1 f2 g0 g1 : Field} {fuel : Nat} {v : Value} {x : DataW H × List MemPlace} (ht : P.underlying t = some (.slice e)) (he : P.underlying e = some (.struct #[f0, f1, f2])) (hone : oneCellFields P #[f0, f1, f2] = true) (hC : P.cellsOf e = 3)
    (hf0 : f0.type = pt) (hpt : P.underlying pt = some (.slice pe)) (hpe : P.underlying pe = some (.struct #[g0, g1])) (hpone : oneCellFields P #[g0, g1] = true) (hpC : P.cellsOf pe = 2) (hg0 : P.underlying g0.type = some .bool) (hg1 : P.underlying g1.type = some .string)
    (h1 : P.underlying f1.type = some (.int .i64)) (h2 : P.underlying f2.type = some .bool) (h : DataW.trod enc P w base spare held fuel t [v] = some x) :
    ∃ (A : Option Addr) (n cap : Nat) (X : List Bk), v = .slice A n cap ∧ RdBk w w.heap.size A n X ∧ Wide X := by
  obtain ⟨A, n, cap, rfl, hn, hr⟩ := rows_of ht he hone hC (by simp) h
  have hmx : maxLen = 9223372036854775807 := rfl
  by_cases hp : 0 < n
  · obtain ⟨g, off, rfl, hg, hc⟩ := hr hp
    obtain ⟨X, hl, hX⟩ := list_of (Q := fun i (q : Bk × Option Addr × Nat) => w.cell? ⟨g, off + i * 3, none⟩ = some (.slice q.2.1 q.1.pages.length q.2.2) ∧ w.cell? ⟨g, off + (i * 3 + 1), none⟩ = some (.int .i64 q.1.erases) ∧ w.cell? ⟨g, off + (i * 3 + 2), none⟩ = some (.bool q.1.bad) ∧
        RdPg w w.heap.size q.2.1 q.1.pages.length q.1.pages ∧ q.1.pages.length ≤ maxLen ∧ (-9223372036854775808 ≤ q.1.erases ∧ q.1.erases ≤ 9223372036854775807) ∧ ∀ p ∈ q.1.pages, p.data.size ≤ maxLen) (zeroBk, none, 0) n (fun i hi => by
      obtain ⟨u0, y0, m0, hu0, hy0⟩ := hc i hi 0 f0 rfl
      obtain ⟨u1, y1, m1, hu1, hy1⟩ := hc i hi 1 f1 rfl
      obtain ⟨u2, y2, m2, hu2, hy2⟩ := hc i hi 2 f2 rfl
      rw [hf0] at hy0
      obtain ⟨pA, pn, pc, Y, rfl, hpn, hY, hYs⟩ := open_pages hpt hpe hpone hpC hg0 hg1 hy0
      obtain ⟨z, hz, -, hwf⟩ := DataW.trod_int h1 hy1
      obtain ⟨b, hb, -⟩ := DataW.trod_bool h2 hy2
      simp only [List.cons.injEq, and_true] at hz hb
      subst hz hb
      have hYl := hY.1
      subst hYl
      refine ⟨(⟨Y, z, b⟩, pA, pc), hu0, hu1, hu2, hY, hpn, ?_, hYs⟩
      simp only [Lit.wf, Bool.and_eq_true, decide_eq_true_eq] at hwf
      exact ⟨hwf.1, hwf.2⟩)
    refine ⟨_, n, cap, X.map (·.1), rfl, ⟨by simp [hl], fun _ => ⟨g, off, fun i => (X.getD i (zeroBk, none, 0)).2.1, fun i => (X.getD i (zeroBk, none, 0)).2.2, rfl, hg, fun c hcn => ?_, fun i hi => ?_⟩⟩, ?_⟩
    · have hci : c / 3 < n := by omega
      have hmap : (X.map (·.1)).getD (c / 3) zeroBk = (X.getD (c / 3) (zeroBk, none, 0)).1 := by simp [List.getD_eq_getElem?_getD, List.getElem?_eq_getElem (show c / 3 < X.length by omega)]
      obtain ⟨q0, q1, q2, -⟩ := hX (c / 3) hci
      have h3 : c % 3 = 0 ∨ c % 3 = 1 ∨ c % 3 = 2 := by omega
      rcases h3 with e | e | e
      · rw [show c = c / 3 * 3 by omega, bkF_0, hmap]; exact q0
      · rw [show c = c / 3 * 3 + 1 by omega, bkF_1, hmap]; exact q1
      · rw [show c = c / 3 * 3 + 2 by omega, bkF_2, hmap]; exact q2
    · have hmap : (X.map (·.1)).getD i zeroBk = (X.getD i (zeroBk, none, 0)).1 := by simp [List.getD_eq_getElem?_getD, List.getElem?_eq_getElem (show i < X.length by omega)]
      rw [hmap]
      exact (hX i hi).2.2.2.1
    · refine ⟨by simp [hl]; omega, fun b hb => ?_⟩
      obtain ⟨q, hq, rfl⟩ := List.mem_map.1 hb
      obtain ⟨i, hi, rfl⟩ := mem_getD hq (zeroBk, none, 0)
      obtain ⟨-, -, -, -, h5, h6, h7⟩ := hX i (by omega)
      exact ⟨by omega, h6, fun p hp => by have := h7 p hp; omega⟩
  · obtain rfl : n = 0 := by omega
    exact ⟨A, 0, cap, [], rfl, ⟨rfl, fun h => absurd h (by omega)⟩, by simp, fun b hb => by cases hb⟩
/-- a chip that comes in -/
theorem open_nand {r : Reach} {b0 : Nat} {tn t e pt pe : TypeId} {n0 f0 f1 f2 g0 g1 : Field} {v : Value} {d : DataW H} {ps : List MemPlace} (hn : P.underlying tn = some (.struct #[n0])) (hnone : oneCellFields P #[n0] = true) (hnC : P.cellsOf tn = 1) (hn0 : n0.type = t)
    (ht : P.underlying t = some (.slice e)) (he : P.underlying e = some (.struct #[f0, f1, f2])) (hone : oneCellFields P #[f0, f1, f2] = true) (hC : P.cellsOf e = 3)
    (hf0 : f0.type = pt) (hpt : P.underlying pt = some (.slice pe)) (hpe : P.underlying pe = some (.struct #[g0, g1])) (hpone : oneCellFields P #[g0, g1] = true) (hpC : P.cellsOf pe = 2) (hg0 : P.underlying g0.type = some .bool) (hg1 : P.underlying g1.type = some .string)
    (h1 : P.underlying f1.type = some (.int .i64)) (h2 : P.underlying f2.type = some .bool) (hval : Value.okWide P w r b0 tn v) (h : DataW.Trod enc P w base spare held tn v d ps) :
    ∃ (A : Option Addr) (n cap : Nat) (X : List Bk), v = .agg #[.slice A n cap] ∧ RdBk w w.heap.size A n X ∧ Wide X := by
  obtain ⟨cs, rfl, hsz⟩ := okWide_struct hn hval
  obtain ⟨fuel, hf⟩ := h
  obtain ⟨hcl, hfs⟩ := fields_of hn hnone hf hnC
  obtain ⟨u, y, m, hu, hy⟩ := hfs 0 n0 rfl
  rw [hn0] at hy
  obtain ⟨A, n, cap, X, rfl, hX, hW⟩ := open_blocks ht he hone hC hf0 hpt hpe hpone hpC hg0 hg1 h1 h2 hy
  refine ⟨A, n, cap, X, ?_, hX, hW⟩
  obtain ⟨l⟩ := cs
  match l, hcl, hu with
  | [c], _, hu => simp [Value.cells] at hu; rw [hu]
end

set_option maxRecDepth 100000 in
/-- a chip that comes in, at this program's types -/
theorem open_lawsNand {H : Type} {enc : TypeId × Value → H} {w : World} {base : Nat} {spare : Nat → Bool} {held : Bool} {r : Reach} {b0 : Nat} {v : Value} {d : DataW H} {ps : List MemPlace}
    (hval : Value.okWide Tryz.prog w r b0 24 v) (h : DataW.Trod enc Tryz.prog w base spare held 24 v d ps) :
    ∃ (A : Option Addr) (n cap : Nat) (X : List Bk), v = .agg #[.slice A n cap] ∧ RdBk w w.heap.size A n X ∧ Wide X :=
  open_nand Tryz.underlying24 (by kernel_rfl) (by kernel_rfl) rfl Tryz.underlying22 Tryz.underlying181 (by kernel_rfl) (by kernel_rfl) rfl Tryz.underlying179 Tryz.underlying274 (by kernel_rfl) (by kernel_rfl)
    Tryz.underlying4 Tryz.underlying9 Tryz.underlying2 Tryz.underlying4 hval h
end Go.Proofs.YtfpibbhcecdbgaaGreatDoor

namespace Go.Proofs.YtfpibbhcecdbgaaGreatDoor
open Go.RowKit

set_option maxHeartbeats 1000000 in
theorem eqPage_same (u : Bool) (d : ByteArray) (w : World) :
    Calls Tryz.prog 261 #[.agg #[.bool u, .string d], .agg #[.bool u, .string d]] w fun e w' => e = .returned (.bool true) ∧ Below w.heap.size w w' := by
  go_enter Tryz.func261, Tryz.ntmps261
  go_wp2
  go_ret
  exact ⟨rfl, ((Below.refl _ _).alloc (Nat.le_refl _) _).alloc (by simp) _⟩

set_option maxHeartbeats 1000000 in
theorem eqPageS_same (A B : Option Addr) (n ca cb : Nat) (X : List Pg) (w : World) (hn : n ≤ 2147483648) (hA : RdPg w w.heap.size A n X) (hB : RdPg w w.heap.size B n X) :
    Calls Tryz.prog 224 #[.slice A n ca, .slice B n cb] w fun e w' => e = .returned (.bool true) ∧ Below w.heap.size w w' := by
  have HA := Lib.hid hA; have HB := Lib.hid hB; clear hA hB
  go_enter Tryz.func224, Tryz.ntmps224
  go_wp2
  go_loopw [5] (fun i wr => ∃ k : Nat, k ≤ n ∧ i = .int .i64 (k : Nat) ∧ Below w.heap.size w wr) (fun i _ => n - (intOf i).toNat)
  case atStart => exact ⟨0, by omega, rfl, Below.refl _ _⟩
  case round =>
    obtain ⟨k, hk, rfl, hbel⟩ := hrel
    have HW := Lib.hid hbel
    by_cases hlt : k < n
    · obtain ⟨g, off, rfl, hg, hc0, hc1⟩ := (HA.out.below hbel).at hlt
      obtain ⟨g', off', rfl, hg', hd0, hd1⟩ := (HB.out.below hbel).at hlt
      clear hbel
      go_wp2
      have hc0' := cell_regrown hc0; have hc1' := cell_regrown hc1; have hd0' := cell_regrown hd0; have hd1' := cell_regrown hd1
      refine wp_region_quiet_below (by kernel_rfl) (by kernel_rfl) ?_
      repeat (go_big_quiet_step ((go_at_call 261; exact Calls.regrown_of (eqPage_same _ _ _))))
      refine wpQuiet_nil ?_
      intro w2 hw'
      have hb2 : Below wr.heap.size wr w2 := by obtain ⟨⟨dq, osq⟩, rfl⟩ := hw'; exact below_regrown wr dq osq
      clear hw'
      have HB2 := Lib.hid (HW.out.trans (hb2.mono HW.out.size))
      clear hb2
      go_wp2
      go_roundw
      case rel => exact ⟨k + 1, by omega, by go_num, HB2.out⟩
      case measure => simp [intOf]; omega
    · clear hbel
      go_wp2
      go_ret
      exact ⟨rfl, HW.out⟩
set_option maxHeartbeats 1000000 in
theorem eqBlock_same (A B : Option Addr) (n ca cb : Nat) (X : List Pg) (er : Int) (bad : Bool) (w : World) (hn : n ≤ 2147483648) (hA : RdPg w w.heap.size A n X) (hB : RdPg w w.heap.size B n X) :
    Calls Tryz.prog 159 #[.agg #[.slice A n ca, .int .i64 er, .bool bad], .agg #[.slice B n cb, .int .i64 er, .bool bad]] w fun e w' => e = .returned (.bool true) ∧ Below w.heap.size w w' := by
  have HA := Lib.hid hA; have HB := Lib.hid hB; clear hA hB
  go_enter Tryz.func159, Tryz.ntmps159
  go_wp2_with fail
  refine (eqPageS_same A B n ca cb X _ hn ?_ ?_).mono ?_
  · exact (HA.out.below (((Below.refl _ _).alloc (Nat.le_refl _) _).alloc (by simp) _)).mono (by simp; omega)
  · exact (HB.out.below (((Below.refl _ _).alloc (Nat.le_refl _) _).alloc (by simp) _)).mono (by simp; omega)
  rintro e w4 ⟨rfl, hb4⟩
  have k0 := (((isBlk_new w 98 [Value.slice A n ca, .int .i64 er, .bool bad]).alloc _).below hb4 (by simp; omega))
  have k1 := ((isBlk_new (w.alloc _) 98 [Value.slice B n cb, .int .i64 er, .bool bad]).below hb4 (by simp))
  have HB4 := Lib.hid ((((Below.refl w.heap.size w).alloc (Nat.le_refl _) _).alloc (by simp) _).trans (hb4.mono (by simp; omega)))
  simp only [size_alloc] at k0 k1
  obtain ⟨c0, c1, c2, -, -, -⟩ := blk3 k0
  obtain ⟨d0, d1, d2, -, -, -⟩ := blk3 k1
  clear hb4 k0 k1
  go_wp2
  go_ret
  exact ⟨rfl, HB4.out⟩

set_option maxHeartbeats 1000000 in
theorem eqBlockS_same (A B : Option Addr) (n ca cb : Nat) (X : List Bk) (w : World) (hn : n ≤ 2147483648) (hp : ∀ b ∈ X, b.pages.length ≤ 2147483648) (hA : RdBk w w.heap.size A n X) (hB : RdBk w w.heap.size B n X) :
    Calls Tryz.prog 83 #[.slice A n ca, .slice B n cb] w fun e w' => e = .returned (.bool true) ∧ Below w.heap.size w w' := by
  have HA := Lib.hid hA; have HB := Lib.hid hB; have HP := Lib.hid hp; clear hA hB hp
  go_enter Tryz.func83, Tryz.ntmps83
  go_wp2
  go_loopw [5] (fun i wr => ∃ k : Nat, k ≤ n ∧ i = .int .i64 (k : Nat) ∧ Below w.heap.size w wr) (fun i _ => n - (intOf i).toNat)
  case atStart => exact ⟨0, by omega, rfl, Below.refl _ _⟩
  case round =>
    obtain ⟨k, hk, rfl, hbel⟩ := hrel
    have HW := Lib.hid hbel
    by_cases hlt : k < n
    · obtain ⟨g, off, pA, pc, rfl, hg, hc0, hc1, hc2, hpa⟩ := (HA.out.below hbel).at hlt
      obtain ⟨g', off', pA', pc', rfl, hg', hd0, hd1, hd2, hpb⟩ := (HB.out.below hbel).at hlt
      have hpl := HP.out _ (getD_lt (z := zeroBk) (show k < X.length by have := HA.out.1; omega))
      have HPA := Lib.hid (hpa.mono hbel.size); have HPB := Lib.hid (hpb.mono hbel.size)
      clear hbel hpa hpb
      generalize X.getD k zeroBk = b at hc0 hc1 hc2 hd0 hd1 hd2 hpl HPA HPB
      go_wp2
      have hc0' := cell_regrown hc0; have hc1' := cell_regrown hc1; have hc2' := cell_regrown hc2; have hd0' := cell_regrown hd0; have hd1' := cell_regrown hd1; have hd2' := cell_regrown hd2
      refine wp_region_quiet_below (by kernel_rfl) (by kernel_rfl) ?_
      repeat (go_big_quiet_step ((go_at_call 159; exact Calls.regrown_of (eqBlock_same _ _ _ _ _ b.pages _ _ _ hpl ((HPA.out.below (below_regrown _ _ _)).mono (below_regrown _ _ _).size) ((HPB.out.below (below_regrown _ _ _)).mono (below_regrown _ _ _).size)))))
      refine wpQuiet_nil ?_
      intro w2 hw'
      have hb2 : Below wr.heap.size wr w2 := by obtain ⟨⟨dq, osq⟩, rfl⟩ := hw'; exact below_regrown wr dq osq
      clear hw'
      have HB2 := Lib.hid (HW.out.trans (hb2.mono HW.out.size))
      clear hb2
      go_wp2
      go_roundw
      case rel => exact ⟨k + 1, by omega, by go_num, HB2.out⟩
      case measure => simp [intOf]; omega
    · clear hbel
      go_wp2
      go_ret
      exact ⟨rfl, HW.out⟩

set_option maxHeartbeats 1000000 in
theorem eqNand_same (A B : Option Addr) (n ca cb : Nat) (X : List Bk) (w : World) (hn : n ≤ 2147483648) (hp : ∀ b ∈ X, b.pages.length ≤ 2147483648) (hA : RdBk w w.heap.size A n X) (hB : RdBk w w.heap.size B n X) :
    Calls Tryz.prog 15 #[.agg #[.slice A n ca], .agg #[.slice B n cb]] w fun e w' => e = .returned (.bool true) ∧ Below w.heap.size w w' := by
  have HA := Lib.hid hA; have HB := Lib.hid hB; have HP := Lib.hid hp; clear hA hB hp
  go_enter Tryz.func15, Tryz.ntmps15
  go_wp2_with fail
  refine (eqBlockS_same A B n ca cb X _ hn HP.out ?_ ?_).mono ?_
  · exact (HA.out.below (((Below.refl _ _).alloc (Nat.le_refl _) _).alloc (by simp) _)).mono (by simp; omega)
  · exact (HB.out.below (((Below.refl _ _).alloc (Nat.le_refl _) _).alloc (by simp) _)).mono (by simp; omega)
  rintro e w4 ⟨rfl, hb4⟩
  have HB4 := Lib.hid ((((Below.refl w.heap.size w).alloc (Nat.le_refl _) _).alloc (by simp) _).trans (hb4.mono (by simp; omega)))
  clear hb4
  go_wp2
  go_ret
  exact ⟨rfl, HB4.out⟩

set_option maxHeartbeats 1000000 in
theorem eqNandOut_same (A B : Option Addr) (n ca cb : Nat) (X : List Bk) (d : ByteArray) (code : Int) (w : World) (hn : n ≤ 2147483648) (hp : ∀ b ∈ X, b.pages.length ≤ 2147483648) (hA : RdBk w w.heap.size A n X) (hB : RdBk w w.heap.size B n X) :
    Calls Tryz.prog 14 #[.agg #[.slice A n ca, .string d, .int .i64 code], .agg #[.slice B n cb, .string d, .int .i64 code]] w fun e w' => e = .returned (.bool true) ∧ Below w.heap.size w w' := by
  have HA := Lib.hid hA; have HB := Lib.hid hB; have HP := Lib.hid hp; clear hA hB hp
  go_enter Tryz.func14, Tryz.ntmps14
  go_wp2_with fail
  refine (eqNand_same A B n ca cb X _ hn HP.out ?_ ?_).mono ?_
  · exact (HA.out.below (((Below.refl _ _).alloc (Nat.le_refl _) _).alloc (by simp) _)).mono (by simp; omega)
  · exact (HB.out.below (((Below.refl _ _).alloc (Nat.le_refl _) _).alloc (by simp) _)).mono (by simp; omega)
  rintro e w4 ⟨rfl, hb4⟩
  have k0 := (((isBlk_new w 30 [Value.slice A n ca, .string d, .int .i64 code]).alloc _).below hb4 (by simp; omega))
  have k1 := ((isBlk_new (w.alloc _) 30 [Value.slice B n cb, .string d, .int .i64 code]).below hb4 (by simp))
  have HB4 := Lib.hid ((((Below.refl w.heap.size w).alloc (Nat.le_refl _) _).alloc (by simp) _).trans (hb4.mono (by simp; omega)))
  simp only [size_alloc] at k0 k1
  obtain ⟨c0, c1, c2, -, -, -⟩ := blk3 k0
  obtain ⟨d0, d1, d2, -, -, -⟩ := blk3 k1
  clear hb4 k0 k1
  go_wp2
  go_ret
  exact ⟨rfl, HB4.out⟩
end Go.Proofs.YtfpibbhcecdbgaaGreatDoor

namespace Go.Proofs.YtfpibbhcecdbgaaGreatDoor
open Go.RowKit

set_option maxHeartbeats 1000000 in
theorem toPage_any (u : Bool) (d : ByteArray) (w : World) :
    Calls Tryz.prog 251 #[.agg #[.bool u, .string d]] w fun e w' => e = .returned (.agg #[.bool u, .string d]) ∧ Below w.heap.size w w' := by
  go_enter Tryz.func251, Tryz.ntmps251
  go_wp2
  exact bodyPost_ret (v := .agg #[.bool u, .string d]) (by simp [results, Tryz.results251, go_sem]) rfl ⟨rfl, (((Below.refl _ _).alloc (Nat.le_refl _) _).alloc (by simp) _).alloc (by simp; omega) _⟩

theorem info_page : (Tryz.prog.info? 184).map (fun i => (i.zero, i.size, i.bytes)) = some (some (.agg #[.bool false, .string ⟨#[]⟩]), 2, 24) := by kernel_rfl
theorem info_block : (Tryz.prog.info? 98).map (fun i => (i.zero, i.size, i.bytes)) = some (some (.agg #[.slice none 0 0, .int .i64 0, .bool false]), 3, 40) := by kernel_rfl

set_option maxHeartbeats 1000000 in
theorem toPageS_any (A : Option Addr) (n ca : Nat) (X : List Pg) (w : World) (hn : n ≤ 2147483648) (hA : RdPg w w.heap.size A n X) :
    Calls Tryz.prog 213 #[.slice A n ca] w fun e w' => e = .returned (.slice (some ⟨w.heap.size, 0, none⟩) n n) ∧ OwPg w' w.heap.size X ∧ Below w.heap.size w w' := by
  have HA := Lib.hid hA; clear hA
  have hmk := fun W => run_makeN (P := Tryz.prog) 96 184 _ _ _ Tryz.underlying96 info_page n (by omega) (by omega) W
  go_enter Tryz.func213, Tryz.ntmps213
  go_wp2
  have hr := row_made w 184 #[.bool false, .string ⟨#[]⟩] (n * 2) (pgF []) (fun i hi => by
    unfold pgF
    rcases Nat.mod_two_eq_zero_or_one i with h | h <;> simp [h, zeroPg])
  generalize hW : w.alloc (.cells (madeCells #[.bool false, .string ⟨#[]⟩] (n * 2)) 184) = w1 at hr
  have HB1 : Hid (Below w.heap.size w w1) := by rw [← hW]; exact (Below.refl _ _).alloc (Nat.le_refl _) _
  have HR := Lib.hid hr
  clear hr hW
  go_loopw [4] (fun i wr => ∃ k : Nat, k ≤ n ∧ i = .int .i64 (k : Nat) ∧ Row wr w.heap.size (n * 2) (upto k 2 (pgF X) (pgF [])) ∧ Below w.heap.size w wr) (fun i _ => n - (intOf i).toNat)
  case atStart => exact ⟨0, by omega, rfl, HR.out.congr (fun i _ => (upto_zero i).symm), HB1.out⟩
  case round =>
    obtain ⟨k, hk, rfl, hrow, hbel⟩ := hrel
    have HW := Lib.hid hbel; have HRW := Lib.hid hrow
    by_cases hlt : k < n
    · obtain ⟨g, off, rfl, hg, hc0, hc1⟩ := (HA.out.below hbel).at hlt
      clear hbel hrow
      go_wp2_with fail
      refine (toPage_any _ _ _).mono ?_
      rintro e w2 ⟨rfl, hb2⟩
      have HR2 := Lib.hid (HRW.out.below hb2 HRW.out.lt)
      have HB2 := Lib.hid (HW.out.trans (hb2.mono HW.out.size))
      clear hb2
      have he0 := HR2.out.cell (i := k * 2) (by omega)
      have he1 := HR2.out.cell (i := k * 2 + 1) (by omega)
      have hf0 := HR2.out.free (k * 2)
      have hf1 := HR2.out.free (k * 2 + 1)
      go_wp2
      go_roundw
      case rel => exact ⟨k + 1, by omega, by go_num, ((HR2.out.set _ _).set _ _).congr (fun i _ => upto_set2 (pgF_0 X k) (pgF_1 X k)), (HB2.out.setCell (Nat.le_refl _) _).setCell (Nat.le_refl _) _⟩
      case measure => simp [intOf]; omega
    · clear hbel hrow
      obtain rfl : k = n := by omega
      go_wp2
      go_ret
      exact ⟨rfl, by rw [OwPg, HA.out.1]; exact HRW.out.congr (fun i hi => upto_lt hi), HW.out⟩

set_option maxHeartbeats 1000000 in
theorem toBlock_any (A : Option Addr) (n ca : Nat) (X : List Pg) (er : Int) (bad : Bool) (w : World) (hn : n ≤ 2147483648) (hA : RdPg w w.heap.size A n X) :
    Calls Tryz.prog 151 #[.agg #[.slice A n ca, .int .i64 er, .bool bad]] w fun e w' => e = .returned (.agg #[.slice (some ⟨w.heap.size + 3, 0, none⟩) n n, .int .i64 er, .bool bad]) ∧ OwPg w' (w.heap.size + 3) X ∧ Below w.heap.size w w' := by
  have HA := Lib.hid hA; clear hA
  go_enter Tryz.func151, Tryz.ntmps151
  go_wp2_with fail
  refine (toPageS_any A n ca X _ hn ?_).mono ?_
  · exact ((HA.out.below (((( Below.refl _ _).alloc (Nat.le_refl _) _).alloc (by simp) _).alloc (by simp; omega) _)).mono (by simp; omega))
  rintro e w4 ⟨rfl, ho, hb4⟩
  have hs : w.heap.size + 3 ≤ w4.heap.size := by have := hb4.size; simp at this; omega
  have k0 := ((((isBlk_new w 181 [Value.slice A n ca, .int .i64 er, .bool bad]).alloc _).alloc _).below hb4 (by simp; omega))
  have k1 := (((isBlk_new (w.alloc _) 98 [Value.slice none 0 0, .int .i64 0, .bool false]).alloc _).below hb4 (by simp))
  have k2 := ((isBlk_new ((w.alloc _).alloc _) 98 [Value.slice none 0 0, .int .i64 0, .bool false]).below hb4 (by simp))
  have HB4 := Lib.hid ((((( Below.refl w.heap.size w).alloc (Nat.le_refl _) _).alloc (by simp) _).alloc (by simp; omega) _).trans (hb4.mono (by simp; omega)))
  simp only [size_alloc] at k0 k1 k2 ho
  have HO := Lib.hid ho
  obtain ⟨c0, c1, c2, -, -, -⟩ := blk3 k0
  obtain ⟨d0, d1, d2, fd0, fd1, fd2⟩ := blk3 k1
  obtain ⟨e0, e1, e2, fe0, fe1, fe2⟩ := blk3 k2
  clear ho hb4 k0 k1 k2
  go_wp2
  refine bodyPost_ret (v := .agg #[.slice (some ⟨w.heap.size + 3, 0, none⟩) n n, .int .i64 er, .bool bad]) (by simp [results, Tryz.results151, go_sem, d0, d1, d2]) rfl ⟨rfl, ?_, ?_⟩
  · show Row _ _ _ _
    repeat (with_reducible refine Row.other ?_ ?_ _)
    all_goals first | exact HO.out | (dsimp only; omega)
  · repeat (with_reducible refine Below.setCell ?_ ?_ _)
    all_goals first | exact HB4.out | (dsimp only; omega)


/-- what the copying of the first k blocks has made: a row at g, the pages of each block behind it, one behind the other -/
def BkRel (w wr : World) (g n k : Nat) (X : List Bk) : Prop :=
  ∃ pa cp : Nat → Nat, Row wr g (n * 3) (upto k 3 (bkF (fun i => some ⟨pa i, 0, none⟩) cp X) (bkF (fun _ => none) (fun _ => 0) [])) ∧
    (∀ i, i < k → g < pa i ∧ pa i < wr.heap.size ∧ OwPg wr (pa i) (X.getD i zeroBk).pages ∧ cp i = (X.getD i zeroBk).pages.length) ∧ (∀ i j, i < k → j < i → pa j < pa i) ∧ Below g w wr
theorem BkRel.row {w wr : World} {g n k : Nat} {X : List Bk} (h : BkRel w wr g n k X) : ∃ f, Row wr g (n * 3) f := by obtain ⟨pa, cp, h, _⟩ := h; exact ⟨_, h⟩
theorem BkRel.bel {w wr : World} {g n k : Nat} {X : List Bk} (h : BkRel w wr g n k X) : Below g w wr := by obtain ⟨pa, cp, _, _, _, h⟩ := h; exact h
/-- one block more, its pages at p -/
theorem BkRel.more {w wr w2 : World} {g n k p c : Nat} {X : List Bk} (h : BkRel w wr g n k X) (hk : k < n) (hb : Below wr.heap.size wr w2) (hp : wr.heap.size ≤ p) (ho : OwPg w2 p (X.getD k zeroBk).pages) (hc : c = (X.getD k zeroBk).pages.length) :
    BkRel w (((w2.setCell ⟨g, k * 3, none⟩ (.slice (some ⟨p, 0, none⟩) (X.getD k zeroBk).pages.length c)).setCell ⟨g, k * 3 + 1, none⟩ (.int .i64 (X.getD k zeroBk).erases)).setCell ⟨g, k * 3 + 2, none⟩ (.bool (X.getD k zeroBk).bad)) g n (k + 1) X := by
  obtain ⟨pa, cp, hr, hpg, hap, hbel⟩ := h
  have hg := hr.lt
  have hp2 : p < w2.heap.size := Row.lt ho
  refine ⟨fun i => if i = k then p else pa i, fun i => if i = k then c else cp i, ?_, ?_, ?_, ?_⟩
  · refine ((((hr.below hb hg).set _ _).set _ _).set _ _).congr fun i hi => ?_
    rw [← upto_set3 (k := k) (u0 := .slice (some ⟨p, 0, none⟩) (X.getD k zeroBk).pages.length c) (u1 := .int .i64 (X.getD k zeroBk).erases) (u2 := .bool (X.getD k zeroBk).bad) (by rw [bkF_0]; simp) (by rw [bkF_1]) (by rw [bkF_2])]
    congr 1; congr 1; congr 1
    by_cases hik : i < k * 3
    · rw [upto_lt hik, upto_lt hik]
      unfold bkF
      dsimp only
      rw [if_neg (show ¬ i / 3 = k by omega), if_neg (show ¬ i / 3 = k by omega)]
    · rw [upto_ge (by omega), upto_ge (by omega)]
  · intro i hi
    dsimp only
    by_cases e : i = k
    · subst e
      rw [if_pos rfl]
      refine ⟨by omega, by simpa [World.setCell] using hp2, ?_, by rw [if_pos rfl]; exact hc⟩
      exact Row.other (Row.other (Row.other ho (by dsimp only; omega) _) (by dsimp only; omega) _) (by dsimp only; omega) _
    · rw [if_neg e]
      obtain ⟨h1, h2, h3, h4⟩ := hpg i (by omega)
      refine ⟨h1, by simp [World.setCell]; have := hb.size; omega, ?_, by rw [if_neg e]; exact h4⟩
      exact Row.other (Row.other (Row.other (Row.below h3 hb h2) (by dsimp only; omega) _) (by dsimp only; omega) _) (by dsimp only; omega) _
  · intro i j hi hj
    dsimp only
    by_cases e : i = k
    · subst e
      rw [if_pos rfl, if_neg (by omega)]
      have := hpg j (by omega); omega
    · rw [if_neg e, if_neg (by omega)]
      exact hap i j (by omega) hj
  · exact (((hbel.trans (hb.mono (by omega))).setCell (Nat.le_refl _) _).setCell (Nat.le_refl _) _).setCell (Nat.le_refl _) _
/-- one block more, where the row's cells of it are told by a law of their own -/
theorem BkRel.moreW {w wr w2 w3 : World} {g n k p c : Nat} {X : List Bk} (h : BkRel w wr g n k X) (hb : Below wr.heap.size wr w2) (hp : wr.heap.size ≤ p) (ho : OwPg w3 p (X.getD k zeroBk).pages) (hc : c = (X.getD k zeroBk).pages.length)
    (hr3 : ∀ f, Row w2 g (n * 3) f → f (k * 3) = .slice none 0 0 → f (k * 3 + 1) = .int .i64 0 → f (k * 3 + 2) = .bool false → Row w3 g (n * 3) (fun i => if i = k * 3 + 2 then .bool (X.getD k zeroBk).bad else if i = k * 3 + 1 then .int .i64 (X.getD k zeroBk).erases else if i = k * 3 then .slice (some ⟨p, 0, none⟩) (X.getD k zeroBk).pages.length c else f i))
    (h3 : ∀ j, j < w2.heap.size → j ≠ g → w3.heap[j]? = w2.heap[j]?) (_hs : w2.heap.size ≤ w3.heap.size) (hb3 : Below g w2 w3) :
    BkRel w w3 g n (k + 1) X := by
  obtain ⟨pa, cp, hr, hpg, hap, hbel⟩ := h
  have hg := hr.lt
  have hp3 : p < w3.heap.size := Row.lt ho
  have hz0 : upto k 3 (bkF (fun i => some ⟨pa i, 0, none⟩) cp X) (bkF (fun _ => none) (fun _ => 0) []) (k * 3) = .slice none 0 0 := by rw [upto_ge (by omega), bkF_0]; rfl
  have hz1 : upto k 3 (bkF (fun i => some ⟨pa i, 0, none⟩) cp X) (bkF (fun _ => none) (fun _ => 0) []) (k * 3 + 1) = .int .i64 0 := by rw [upto_ge (by omega), bkF_1]; rfl
  have hz2 : upto k 3 (bkF (fun i => some ⟨pa i, 0, none⟩) cp X) (bkF (fun _ => none) (fun _ => 0) []) (k * 3 + 2) = .bool false := by rw [upto_ge (by omega), bkF_2]; rfl
  refine ⟨fun i => if i = k then p else pa i, fun i => if i = k then c else cp i, ?_, ?_, ?_, ?_⟩
  · refine (hr3 _ (hr.below hb hg) hz0 hz1 hz2).congr fun i hi => ?_
    rw [← upto_set3 (k := k) (u0 := .slice (some ⟨p, 0, none⟩) (X.getD k zeroBk).pages.length c) (u1 := .int .i64 (X.getD k zeroBk).erases) (u2 := .bool (X.getD k zeroBk).bad) (by rw [bkF_0]; simp) (by rw [bkF_1]) (by rw [bkF_2])]
    congr 1; congr 1; congr 1
    by_cases hik : i < k * 3
    · rw [upto_lt hik, upto_lt hik]
      unfold bkF
      dsimp only
      rw [if_neg (show ¬ i / 3 = k by omega), if_neg (show ¬ i / 3 = k by omega)]
    · rw [upto_ge (by omega), upto_ge (by omega)]
  · intro i hi
    dsimp only
    by_cases e : i = k
    · subst e
      rw [if_pos rfl]
      exact ⟨by omega, hp3, ho, by rw [if_pos rfl]; exact hc⟩
    · rw [if_neg e]
      obtain ⟨h1, h2, h4, h5⟩ := hpg i (by omega)
      have hb2 := hb.size
      exact ⟨h1, by omega, Row.same (Row.below h4 hb h2) (h3 _ (by omega) (by omega)), by rw [if_neg e]; exact h5⟩
  · intro i j hi hj
    dsimp only
    by_cases e : i = k
    · subst e
      rw [if_pos rfl, if_neg (by omega)]
      have := hpg j (by omega); omega
    · rw [if_neg e, if_neg (by omega)]
      exact hap i j (by omega) hj
  · exact (hbel.trans (hb.mono (by omega))).trans hb3
theorem BkRel.own {w wr : World} {g n : Nat} {X : List Bk} (h : BkRel w wr g n n X) (hl : X.length = n) : OwNd wr g wr.heap.size (some ⟨g, 0, none⟩) n X := by
  obtain ⟨pa, cp, hr, hpg, hap, hbel⟩ := h
  subst hl
  refine ⟨rfl, fun _ => ⟨g, pa, cp, rfl, Nat.le_refl _, hr.lt, hr.congr (fun i hi => upto_lt hi), fun i hi => ?_, fun i j hi hj hne => ?_, fun i hi => (hpg i hi).2.2.1, fun i hi => by rw [(hpg i hi).2.2.2]; exact Room.full _ _ _⟩⟩
  · have := hpg i hi; omega
  · rcases Nat.lt_or_gt_of_ne hne with h | h
    · have := hap j i hj h; omega
    · have := hap i j hi h; omega

set_option maxHeartbeats 1000000 in
theorem toBlockS_any (A : Option Addr) (n ca : Nat) (X : List Bk) (w : World) (hn : n ≤ 2147483648) (hp : ∀ b ∈ X, b.pages.length ≤ 2147483648) (hA : RdBk w w.heap.size A n X) :
    Calls Tryz.prog 75 #[.slice A n ca] w fun e w' => e = .returned (.slice (some ⟨w.heap.size, 0, none⟩) n n) ∧ OwNd w' w.heap.size w'.heap.size (some ⟨w.heap.size, 0, none⟩) n X ∧ Below w.heap.size w w' := by
  have HA := Lib.hid hA; clear hA
  have HP := Lib.hid hp; clear hp
  have hmk := fun W => run_makeN (P := Tryz.prog) 26 98 _ _ _ Tryz.underlying26 info_block n (by omega) (by omega) W
  go_enter Tryz.func75, Tryz.ntmps75
  go_wp2
  have hr := row_made w 98 #[.slice none 0 0, .int .i64 0, .bool false] (n * 3) (bkF (fun _ => none) (fun _ => 0) []) (fun i hi => by
    unfold bkF
    have h3 : i % 3 = 0 ∨ i % 3 = 1 ∨ i % 3 = 2 := by omega
    rcases h3 with h | h | h <;> simp [h, zeroBk])
  generalize hW : w.alloc (.cells (madeCells #[.slice none 0 0, .int .i64 0, .bool false] (n * 3)) 98) = w1 at hr
  have HB1 : Hid (Below w.heap.size w w1) := by rw [← hW]; exact (Below.refl _ _).alloc (Nat.le_refl _) _
  have HR := Lib.hid hr
  clear hr hW
  go_loopw [4] (fun i wr => ∃ k : Nat, k ≤ n ∧ i = .int .i64 (k : Nat) ∧ BkRel w wr w.heap.size n k X) (fun i _ => n - (intOf i).toNat)
  case atStart => exact ⟨0, by omega, rfl, ⟨fun _ => 0, fun _ => 0, HR.out.congr (fun i _ => (upto_zero i).symm), fun i hi => absurd hi (by omega), fun i j hi _ => absurd hi (by omega), HB1.out⟩⟩
  case round =>
    obtain ⟨k, hk, rfl, hrel⟩ := hrel
    have HREL := Lib.hid hrel
    have hbel := hrel.bel
    by_cases hlt : k < n
    · obtain ⟨g, off, pA, pc, rfl, hg, hc0, hc1, hc2, hpg⟩ := (HA.out.below hbel).at hlt
      have hpl := HP.out _ (getD_lt (z := zeroBk) (show k < X.length by have := HA.out.1; omega))
      have HPG := Lib.hid (hpg.mono hbel.size)
      clear hbel hrel hpg
      go_wp2_with fail
      refine (toBlock_any _ _ _ _ _ _ _ hpl HPG.out).mono ?_
      rintro e w2 ⟨rfl, ho2, hb2⟩
      obtain ⟨f, hf⟩ := HREL.out.row
      have hrow := hf.below hb2 hf.lt
      have HO2 := Lib.hid ho2; have HB2 := Lib.hid hb2
      have he0 := hrow.cell (i := k * 3) (by omega)
      have he1 := hrow.cell (i := k * 3 + 1) (by omega)
      have he2 := hrow.cell (i := k * 3 + 2) (by omega)
      have hf0 := hrow.free (k * 3)
      have hf1 := hrow.free (k * 3 + 1)
      have hf2 := hrow.free (k * 3 + 2)
      clear hb2 ho2 hf hrow
      go_wp2
      go_roundw
      case rel => exact ⟨k + 1, by omega, by go_num, HREL.out.more hlt HB2.out (by omega) HO2.out rfl⟩
      case measure => simp [intOf]; omega
    · clear hbel hrel
      obtain rfl : k = n := by omega
      go_wp2
      go_ret
      exact ⟨rfl, HREL.out.own HA.out.1, HREL.out.bel⟩

set_option maxHeartbeats 1000000 in
theorem toNand_any (A : Option Addr) (n ca : Nat) (X : List Bk) (w : World) (hn : n ≤ 2147483648) (hp : ∀ b ∈ X, b.pages.length ≤ 2147483648) (hA : RdBk w w.heap.size A n X) :
    Calls Tryz.prog 12 #[.agg #[.slice A n ca]] w fun e w' => e = .returned (.agg #[.slice (some ⟨w.heap.size + 3, 0, none⟩) n n]) ∧ OwNd w' w.heap.size w'.heap.size (some ⟨w.heap.size + 3, 0, none⟩) n X ∧ Below w.heap.size w w' := by
  have HA := Lib.hid hA; clear hA
  have HP := Lib.hid hp; clear hp
  go_enter Tryz.func12, Tryz.ntmps12
  go_wp2_with fail
  refine (toBlockS_any A n ca X _ hn HP.out ?_).mono ?_
  · exact ((HA.out.below (((( Below.refl _ _).alloc (Nat.le_refl _) _).alloc (by simp) _).alloc (by simp; omega) _)).mono (by simp; omega))
  rintro e w4 ⟨rfl, ho, hb4⟩
  have hs : w.heap.size + 3 ≤ w4.heap.size := by have := hb4.size; simp at this; omega
  have k1 := (((isBlk_new (w.alloc _) 28 [Value.slice none 0 0]).alloc _).below hb4 (by simp))
  have k2 := ((isBlk_new ((w.alloc _).alloc _) 28 [Value.slice none 0 0]).below hb4 (by simp))
  have HB4 := Lib.hid ((((( Below.refl w.heap.size w).alloc (Nat.le_refl _) _).alloc (by simp) _).alloc (by simp; omega) _).trans (hb4.mono (by simp; omega)))
  simp only [size_alloc] at k1 k2 ho
  have HO := Lib.hid ho
  have d0 : w4.cell? ⟨_, 0, none⟩ = some _ := k1.cell rfl
  have fd0 : w4.frozen? ⟨_, 0, none⟩ = false := k1.free
  have e0 : w4.cell? ⟨_, 0, none⟩ = some _ := k2.cell rfl
  have fe0 : w4.frozen? ⟨_, 0, none⟩ = false := k2.free
  clear ho hb4 k1 k2
  go_wp2
  refine bodyPost_ret (v := .agg #[.slice (some ⟨w.heap.size + 3, 0, none⟩) n n]) (by simp [results, Tryz.results12, go_sem, d0]) rfl ⟨rfl, ?_, ?_⟩
  · refine (HO.out.mono (Nat.le_refl _) (by simp [World.setCell])).same ?_ |>.mono (by omega) (Nat.le_refl _)
    intro k h1 h2
    rw [Below.heap_setCell _ _ _ _ (by dsimp only; omega), Below.heap_setCell _ _ _ _ (by dsimp only; omega)]
  · repeat (with_reducible refine Below.setCell ?_ ?_ _)
    all_goals first | exact HB4.out | (dsimp only; omega)
end Go.Proofs.YtfpibbhcecdbgaaGreatDoor

namespace Go.Proofs.YtfpibbhcecdbgaaGreatDoor
open Go.RowKit

set_option maxHeartbeats 1000000 in
theorem szPage_any (u : Bool) (d : ByteArray) (left : Int) (w : World) (h0 : 0 ≤ left) (h1 : left ≤ 1048576) (hd : d.size ≤ 9223372036854775807) :
    Calls Tryz.prog 250 #[.agg #[.bool u, .string d], .int .i64 left] w fun e w' => e = .returned (.int .i64 (szR d.size left)) ∧ Below w.heap.size w w' := by
  by_cases hc : (d.size : Int) ≤ left
  · rw [szR_ok hc]
    go_enter Tryz.func250, Tryz.ntmps250
    go_wp2
    go_ret
    exact ⟨rfl, (Below.refl _ _).alloc (Nat.le_refl _) _⟩
  · rw [szR_no (by omega)]
    go_enter Tryz.func250, Tryz.ntmps250
    go_wp2
    go_ret
    exact ⟨rfl, (Below.refl _ _).alloc (Nat.le_refl _) _⟩

set_option maxHeartbeats 1000000 in
theorem szPageS_any (A : Option Addr) (n ca : Nat) (X : List Pg) (left : Int) (w : World) (h0 : 0 ≤ left) (h1 : left ≤ 1048576) (hn : n ≤ 9223372036854775807) (hd : ∀ p ∈ X, p.data.size ≤ 9223372036854775807) (hA : RdPg w w.heap.size A n X) :
    Calls Tryz.prog 210 #[.slice A n ca, .int .i64 left] w fun e w' => e = .returned (.int .i64 (szR (szPgs X) left)) ∧ Below w.heap.size w w' := by
  have HA := Lib.hid hA; have HD := Lib.hid hd; clear hA hd
  obtain ⟨f, hf⟩ : ∃ f, f = fun i => (X.getD i zeroPg).data.size := ⟨_, rfl⟩
  have HS : Hid (szPgs X = n + sumTo f n) := by show szPgs X = _; rw [szPgs, HA.out.1, hf]
  have HF := Lib.hid hf; clear hf
  rw [HS.out]
  by_cases hc : (n : Int) ≤ left
  · go_enter Tryz.func210, Tryz.ntmps210
    go_wp2
    go_loopw [1, 5] (fun l i wr => ∃ k : Nat, k ≤ n ∧ i = .int .i64 (k : Nat) ∧ l = .int .i64 (left - n - (sumTo f k : Nat)) ∧ 0 ≤ left - n - (sumTo f k : Nat) ∧ Below w.heap.size w wr) (fun _ i _ => n - (intOf i).toNat)
    case atStart => exact ⟨0, by omega, rfl, by simp [sumTo], by simp [sumTo]; omega, Below.refl _ _⟩
    case round =>
      obtain ⟨k, hk, rfl, rfl, hl, hbel⟩ := hrel
      have HW := Lib.hid hbel
      by_cases hlt : k < n
      · obtain ⟨g, off, rfl, hg, hc0, hc1⟩ := (HA.out.below hbel).at hlt
        have hds := HD.out _ (getD_lt (z := zeroPg) (show k < X.length by have := HA.out.1; omega))
        have hfk : f k = (X.getD k zeroPg).data.size := by rw [HF.out]
        have HST : Hid (sumTo f (k + 1) = sumTo f k + (X.getD k zeroPg).data.size) := by show _ = _; rw [sumTo, hfk]
        have HMN : Hid (sumTo f (k + 1) ≤ sumTo f n) := Lib.hid (sumTo_mono (by omega))
        clear hbel hfk
        generalize X.getD k zeroPg = p at hc0 hc1 hds HST
        generalize sumTo f k = s at hl HST
        by_cases hfit : (p.data.size : Int) ≤ left - n - s
        · have hz := szR_ok hfit
          go_wp2_with fail
          refine (szPage_any _ _ _ _ hl (by omega) hds).mono ?_
          rintro e w2 ⟨rfl, hb2⟩
          have HB2 := Lib.hid (HW.out.trans (hb2.mono HW.out.size))
          clear hb2
          have hnn : 0 ≤ left - n - s - p.data.size := by omega
          go_wp2
          go_roundw
          case rel => exact ⟨k + 1, by omega, by go_num, by rw [HST.out]; go_num, by rw [HST.out]; omega, HB2.out⟩
          case measure => simp [intOf]; omega
        · have hz := szR_no (t := p.data.size) (left := left - n - s) (by omega)
          go_wp2_with fail
          refine (szPage_any _ _ _ _ hl (by omega) hds).mono ?_
          rintro e w2 ⟨rfl, hb2⟩
          have HB2 := Lib.hid (HW.out.trans (hb2.mono HW.out.size))
          clear hb2
          go_wp2
          go_ret
          exact ⟨ret_i (szR_no (by have := HST.out; have := HMN.out; omega)).symm, HB2.out⟩
      · clear hbel
        obtain rfl : k = n := by omega
        go_wp2
        go_ret
        exact ⟨ret_i (by rw [szR_ok (by omega)]; omega), HW.out⟩
  · rw [szR_no (by omega)]
    go_enter Tryz.func210, Tryz.ntmps210
    go_wp2
    go_ret
    exact ⟨rfl, Below.refl _ _⟩

set_option maxHeartbeats 1000000 in
theorem szBlock_any (A : Option Addr) (n ca : Nat) (X : List Pg) (er : Int) (bad : Bool) (left : Int) (w : World) (h0 : 0 ≤ left) (h1 : left ≤ 1048576) (hn : n ≤ 9223372036854775807) (hd : ∀ p ∈ X, p.data.size ≤ 9223372036854775807) (hA : RdPg w w.heap.size A n X) :
    Calls Tryz.prog 143 #[.agg #[.slice A n ca, .int .i64 er, .bool bad], .int .i64 left] w fun e w' => e = .returned (.int .i64 (szR (szPgs X) left)) ∧ Below w.heap.size w w' := by
  have HA := Lib.hid hA; have HD := Lib.hid hd; clear hA hd
  go_enter Tryz.func143, Tryz.ntmps143
  go_wp2_with fail
  refine (szPageS_any A n ca X left _ h0 h1 hn HD.out ?_).mono ?_
  · exact (HA.out.below ((Below.refl _ _).alloc (Nat.le_refl _) _)).mono (by simp)
  rintro e w4 ⟨rfl, hb4⟩
  have HB4 := Lib.hid (((Below.refl w.heap.size w).alloc (Nat.le_refl _) _).trans (hb4.mono (by simp)))
  clear hb4
  by_cases hc : ((szPgs X : Nat) : Int) ≤ left
  · have hz := szR_ok hc
    have hnn : 0 ≤ left - (szPgs X : Nat) := by omega
    go_wp2
    go_ret
    exact ⟨ret_i hz.symm, HB4.out⟩
  · have hz := szR_no (t := szPgs X) (left := left) (by omega)
    go_wp2
    go_ret
    exact ⟨ret_i hz.symm, HB4.out⟩

set_option maxHeartbeats 1000000 in
theorem szBlockS_any (A : Option Addr) (n ca : Nat) (X : List Bk) (left : Int) (w : World) (h0 : 0 ≤ left) (h1 : left ≤ 1048576) (hX : Wide X) (hA : RdBk w w.heap.size A n X) :
    Calls Tryz.prog 69 #[.slice A n ca, .int .i64 left] w fun e w' => e = .returned (.int .i64 (szR (szBks X) left)) ∧ Below w.heap.size w w' := by
  have hn : n ≤ 9223372036854775807 := by rw [← hA.1]; exact hX.1
  have HA := Lib.hid hA; have HD := Lib.hid hX; clear hA hX
  obtain ⟨f, hf⟩ : ∃ f, f = fun i => szPgs (X.getD i zeroBk).pages := ⟨_, rfl⟩
  have HS : Hid (szBks X = n + sumTo f n) := by show szBks X = _; rw [szBks, HA.out.1, hf]
  have HF := Lib.hid hf; clear hf
  rw [HS.out]
  by_cases hc : (n : Int) ≤ left
  · go_enter Tryz.func69, Tryz.ntmps69
    go_wp2
    go_loopw [1, 5] (fun l i wr => ∃ k : Nat, k ≤ n ∧ i = .int .i64 (k : Nat) ∧ l = .int .i64 (left - n - (sumTo f k : Nat)) ∧ 0 ≤ left - n - (sumTo f k : Nat) ∧ Below w.heap.size w wr) (fun _ i _ => n - (intOf i).toNat)
    case atStart => exact ⟨0, by omega, rfl, by simp [sumTo], by simp [sumTo]; omega, Below.refl _ _⟩
    case round =>
      obtain ⟨k, hk, rfl, rfl, hl, hbel⟩ := hrel
      have HW := Lib.hid hbel
      by_cases hlt : k < n
      · obtain ⟨g, off, pA, pc, rfl, hg, hc0, hc1, hc2, hpg⟩ := (HA.out.below hbel).at hlt
        obtain ⟨hpl, -, hds⟩ := HD.out.2 _ (getD_lt (z := zeroBk) (show k < X.length by have := HA.out.1; omega))
        have HPG := Lib.hid (hpg.mono hbel.size); have HDS := Lib.hid hds
        have hfk : f k = szPgs (X.getD k zeroBk).pages := by rw [HF.out]
        have HST : Hid (sumTo f (k + 1) = sumTo f k + szPgs (X.getD k zeroBk).pages) := by show _ = _; rw [sumTo, hfk]
        have HMN : Hid (sumTo f (k + 1) ≤ sumTo f n) := Lib.hid (sumTo_mono (by omega))
        clear hbel hfk hpg hds
        generalize X.getD k zeroBk = b at hc0 hc1 hc2 hpl HST HPG HDS
        generalize sumTo f k = s at hl HST
        by_cases hfit : ((szPgs b.pages : Nat) : Int) ≤ left - n - s
        · have hz := szR_ok hfit
          go_wp2_with fail
          refine (szBlock_any _ _ _ _ _ _ _ _ hl (by omega) hpl HDS.out HPG.out).mono ?_
          rintro e w2 ⟨rfl, hb2⟩
          have HB2 := Lib.hid (HW.out.trans (hb2.mono HW.out.size))
          clear hb2
          have hnn : 0 ≤ left - n - s - (szPgs b.pages : Nat) := by omega
          go_wp2
          go_roundw
          case rel => exact ⟨k + 1, by omega, by go_num, by rw [HST.out]; go_num, by rw [HST.out]; omega, HB2.out⟩
          case measure => simp [intOf]; omega
        · have hz := szR_no (t := szPgs b.pages) (left := left - n - s) (by omega)
          go_wp2_with fail
          refine (szBlock_any _ _ _ _ _ _ _ _ hl (by omega) hpl HDS.out HPG.out).mono ?_
          rintro e w2 ⟨rfl, hb2⟩
          have HB2 := Lib.hid (HW.out.trans (hb2.mono HW.out.size))
          clear hb2
          go_wp2
          go_ret
          exact ⟨ret_i (szR_no (by have := HST.out; have := HMN.out; omega)).symm, HB2.out⟩
      · clear hbel
        obtain rfl : k = n := by omega
        go_wp2
        go_ret
        exact ⟨ret_i (by rw [szR_ok (by omega)]; omega), HW.out⟩
  · rw [szR_no (by omega)]
    go_enter Tryz.func69, Tryz.ntmps69
    go_wp2
    go_ret
    exact ⟨rfl, Below.refl _ _⟩

set_option maxHeartbeats 1000000 in
theorem szNand_any (A : Option Addr) (n ca : Nat) (X : List Bk) (left : Int) (w : World) (h0 : 0 ≤ left) (h1 : left ≤ 1048576) (hX : Wide X) (hA : RdBk w w.heap.size A n X) :
    Calls Tryz.prog 10 #[.agg #[.slice A n ca], .int .i64 left] w fun e w' => e = .returned (.int .i64 (szR (szBks X) left)) ∧ Below w.heap.size w w' := by
  have HA := Lib.hid hA; have HD := Lib.hid hX; clear hA hX
  go_enter Tryz.func10, Tryz.ntmps10
  go_wp2_with fail
  refine (szBlockS_any A n ca X left _ h0 h1 HD.out ?_).mono ?_
  · exact (HA.out.below ((Below.refl _ _).alloc (Nat.le_refl _) _)).mono (by simp)
  rintro e w4 ⟨rfl, hb4⟩
  have HB4 := Lib.hid (((Below.refl w.heap.size w).alloc (Nat.le_refl _) _).trans (hb4.mono (by simp)))
  clear hb4
  by_cases hc : ((szBks X : Nat) : Int) ≤ left
  · have hz := szR_ok hc
    have hnn : 0 ≤ left - (szBks X : Nat) := by omega
    go_wp2
    go_ret
    exact ⟨ret_i hz.symm, HB4.out⟩
  · have hz := szR_no (t := szBks X) (left := left) (by omega)
    go_wp2
    go_ret
    exact ⟨ret_i hz.symm, HB4.out⟩
end Go.Proofs.YtfpibbhcecdbgaaGreatDoor

namespace Go.Proofs.YtfpibbhcecdbgaaGreatDoor
open Go.RowKit

/-- the decimal digits of a number, ahead of what is there -/
def digs : Nat → Nat → List UInt8 → List UInt8
  | 0, _, acc => acc
  | f + 1, k, acc => if k = 0 then acc else digs f (k / 10) (UInt8.ofNat (48 + k % 10) :: acc)
def mkT (k : Nat) : List UInt8 := if k = 0 then [109, 48] else 109 :: digs k k []
theorem digs_more {f k : Nat} {acc : List UInt8} (h : k ≠ 0) : digs (f + 1) k acc = digs f (k / 10) (UInt8.ofNat (48 + k % 10) :: acc) := by simp [digs, h]
theorem digs_done (f : Nat) (acc : List UInt8) : digs f 0 acc = acc := by cases f <;> simp [digs]

/-- 'string([]byte{c})' of a new block -/
theorem conv_one {P : Program} (w : World) (c : Nat) (hc : c < 256) {src dst e : TypeId} (hs : P.underlying src = some (.slice e)) (he : P.underlying e = some (.int .u8)) (hd : P.underlying dst = some .string) :
    (convert src dst (.slice (some ⟨w.heap.size, 0, none⟩) 1 1)).run P (w.alloc (.cells #[.int .u8 (c : Int)] e)) = .ok (strV [UInt8.ofNat c]) (w.alloc (.cells #[.int .u8 (c : Int)] e)) := by
  have h := isBlk_new w e [Value.int .u8 (c : Int)]
  refine conv_blk hs he hd h ⟨[], ?_⟩ rfl
  simp [byteV, Nat.mod_eq_of_lt hc]

set_option maxHeartbeats 1000000 in
set_option maxRecDepth 100000 in
theorem markText_any (k : Nat) (w : World) (hk : k ≤ 1073741824) :
    Calls Tryz.prog 225 #[.int .i64 (k : Int)] w fun e w' => e = .returned (strV (mkT k)) ∧ Below w.heap.size w w' := by
  by_cases h0 : k = 0
  · subst h0
    go_enter Tryz.func225, Tryz.ntmps225
    go_wp2
    go_ret
    exact ⟨rfl, Below.refl _ _⟩
  · have HM : Hid (mkT k = 109 :: digs k k []) := by show mkT k = _; simp [mkT, h0]
    have hp : 0 < k := by omega
    have hkz : decide (k = 0) = false := by simpa using h0
    rw [HM.out]
    go_enter Tryz.func225, Tryz.ntmps225
    go_wp2
    go_loopw [0, 3] (fun l s wr => ∃ (j f : Nat) (acc : List UInt8), l = .int .i64 (j : Nat) ∧ s = strV acc ∧ j ≤ f ∧ acc.length + j ≤ k ∧ digs f j acc = digs k k [] ∧ Below w.heap.size w wr) (fun l _ _ => (intOf l).toNat)
    case atStart => exact ⟨k, k, [], rfl, rfl, Nat.le_refl _, by simp, rfl, Below.refl _ _⟩
    case round =>
      obtain ⟨j, f, acc, rfl, rfl, hf, hl, hdg, hbel⟩ := hrel
      have HW := Lib.hid hbel; have HD := Lib.hid hdg
      clear hbel hdg
      by_cases hj : 0 < j
      · obtain ⟨f', rfl⟩ : ∃ f', f = f' + 1 := ⟨f - 1, by omega⟩
        have hconv := conv_one (P := Tryz.prog) wr (48 + j % 10) (by omega) (src := 42) (dst := 9) Tryz.underlying42 Tryz.underlying5 Tryz.underlying9
        rw [show ((48 + j % 10 : Nat) : Int) = 48 + (j : Int) % 10 by omega] at hconv
        have hadd := fun W => add_str (P := Tryz.prog) W (bstr [UInt8.ofNat (48 + j % 10)]) (bstr acc) (by rw [bstr_size, bstr_size]; simp; omega)
        simp only [bstr_list] at hadd
        generalize hc : UInt8.ofNat (48 + j % 10) = c at hconv hadd
        have HC := Lib.hid hc; clear hc
        go_wp2
        go_roundw
        case rel => exact ⟨j / 10, f', c :: acc, by go_num, rfl, by omega, by simp; omega, by rw [← HD.out, digs_more (by omega), HC.out], HW.out.alloc HW.out.size _⟩
        case measure => simp [intOf]; omega
      · obtain rfl : j = 0 := by omega
        have hadd := fun W => add_str (P := Tryz.prog) W ⟨#[109]⟩ (bstr acc) (by rw [bstr_size]; simp [ByteArray.size]; omega)
        simp only [bstr_list] at hadd
        go_wp2
        go_ret
        exact ⟨by rw [← HD.out, digs_done]; rfl, HW.out⟩

theorem markText_succ (m : Nat) (w : World) (hk : m ≤ 1073741823) :
    Calls Tryz.prog 225 #[.int .i64 ((m : Int) + 1)] w fun e w' => e = .returned (strV (mkT (m + 1))) ∧ Below w.heap.size w w' := by
  have h := markText_any (m + 1) w (by omega)
  rwa [show ((m + 1 : Nat) : Int) = (m : Int) + 1 by omega] at h

/-! pages marked from k on: cell c bears the mark k + c -/
def mkF (k c : Nat) : Value := if c % 2 = 0 then .bool (((k + c : Nat) : Int) % 3 == 0) else strV (mkT (k + c))
theorem mkF_0 (k i : Nat) : mkF k (i * 2) = .bool (((k + i * 2 : Nat) : Int) % 3 == 0) := by unfold mkF; rw [if_pos (by omega)]
theorem mkF_1 (k i : Nat) : mkF k (i * 2 + 1) = strV (mkT (k + i * 2 + 1)) := by unfold mkF; rw [if_neg (by omega), Nat.add_assoc]

set_option maxHeartbeats 1000000 in
theorem markPageS_any (g n ca k : Nat) (f : Nat → Value) (w : World) (hn : n ≤ 16777216) (hk : k ≤ 16777216) (hA : Row w g (n * 2) f) :
    Calls Tryz.prog 160 #[.slice (some ⟨g, 0, none⟩) n ca, .int .i64 (k : Int)] w fun e w' => e = .returned (.int .i64 ((k + 2 * n : Nat) : Int)) ∧ Row w' g (n * 2) (mkF k) ∧ Btw g (g + 1) w w' := by
  have HA := Lib.hid hA; have hg := hA.lt; clear hA
  go_enter Tryz.func160, Tryz.ntmps160
  go_wp2
  go_loopw [1, 5] (fun l i wr => ∃ j : Nat, j ≤ n ∧ i = .int .i64 (j : Nat) ∧ l = .int .i64 ((k + j * 2 : Nat) : Int) ∧ Row wr g (n * 2) (upto j 2 (mkF k) f) ∧ Btw g (g + 1) w wr) (fun _ i _ => n - (intOf i).toNat)
  case atStart => exact ⟨0, by omega, rfl, by simp, HA.out.congr (fun i _ => (upto_zero i).symm), Btw.refl _ _ _⟩
  case round =>
    obtain ⟨j, hj, rfl, rfl, hr, hbel⟩ := hrel
    have HR := Lib.hid hr; have HW := Lib.hid hbel
    have hgr : g < wr.heap.size := hr.lt
    by_cases hlt : j < n
    · have hc0 := hr.cell (i := j * 2) (by omega)
      have hf0 := hr.free (j * 2)
      obtain ⟨m, hm⟩ : ∃ m, m = k + j * 2 := ⟨_, rfl⟩
      have HM := Lib.hid hm
      have hm2 : m ≤ 67108864 := by omega
      rw [← hm]
      clear hr hbel hm
      go_wp2_with fail
      refine (markText_succ m _ (by omega)).mono ?_
      rintro e w2 ⟨rfl, hb2⟩
      have hr2 := (HR.out.set (j * 2) (.bool ((m : Int) % 3 == 0))).below hb2 (by simpa [World.setCell] using hgr)
      have HB2 := Lib.hid ((HW.out.setCell (p := ⟨g, j * 2, none⟩) (.inl ⟨by simp, by simp⟩) (.bool ((m : Int) % 3 == 0))).trans (Btw.of_below hb2))
      have HR2 := Lib.hid hr2
      have hc1 := hr2.cell (i := j * 2 + 1) (by omega)
      have hf1 := hr2.free (j * 2 + 1)
      clear hb2 hr2
      go_wp2
      go_roundw
      case rel => exact ⟨j + 1, by omega, by go_num, by have := HM.out; go_num, (HR2.out.set _ _).congr (fun i _ => upto_set2 (by rw [mkF_0, ← HM.out]) (by rw [mkF_1, ← HM.out])), HB2.out.setCell (.inl ⟨by simp, by simp⟩) _⟩
      case measure => simp [intOf]; omega
    · clear hr hbel
      obtain rfl : j = n := by omega
      go_wp2
      go_ret
      exact ⟨ret_i (by omega), HR.out.congr (fun i hi => upto_lt hi), HW.out⟩

/-! blocks marked from k on -/
def nPg (X : List Bk) (i : Nat) : Nat := (X.getD i zeroBk).pages.length
def kAt (X : List Bk) (k i : Nat) : Nat := k + sumTo (fun j => 2 * nPg X j + 2) i
theorem kAt_zero (X : List Bk) (k : Nat) : kAt X k 0 = k := rfl
theorem kAt_succ (X : List Bk) (k i : Nat) : kAt X k (i + 1) = kAt X k i + 2 * nPg X i + 2 := by unfold kAt; rw [sumTo]; omega
theorem kAt_mono (X : List Bk) (k : Nat) {i j : Nat} (h : i ≤ j) : kAt X k i ≤ kAt X k j := by unfold kAt; have := sumTo_mono (f := fun j => 2 * nPg X j + 2) h; omega
def mkB (pa cp : Nat → Nat) (X : List Bk) (k c : Nat) : Value :=
  if c % 3 = 0 then .slice (some ⟨pa (c / 3), 0, none⟩) (nPg X (c / 3)) (cp (c / 3)) else if c % 3 = 1 then .int .i64 ((kAt X k (c / 3) + 2 * nPg X (c / 3) : Nat) : Int)
  else .bool (((kAt X k (c / 3) + 2 * nPg X (c / 3) + 1 : Nat) : Int) % 3 == 0)
theorem mkB_0 (pa cp : Nat → Nat) (X : List Bk) (k i : Nat) : mkB pa cp X k (i * 3) = .slice (some ⟨pa i, 0, none⟩) (nPg X i) (cp i) := by
  unfold mkB; rw [if_pos (by omega), show i * 3 / 3 = i by omega]
theorem mkB_1 (pa cp : Nat → Nat) (X : List Bk) (k i : Nat) : mkB pa cp X k (i * 3 + 1) = .int .i64 ((kAt X k i + 2 * nPg X i : Nat) : Int) := by
  unfold mkB; rw [if_neg (by omega), if_pos (by omega), show (i * 3 + 1) / 3 = i by omega]
theorem mkB_2 (pa cp : Nat → Nat) (X : List Bk) (k i : Nat) : mkB pa cp X k (i * 3 + 2) = .bool (((kAt X k i + 2 * nPg X i + 1 : Nat) : Int) % 3 == 0) := by
  unfold mkB; rw [if_neg (by omega), if_neg (by omega), show (i * 3 + 2) / 3 = i by omega]

structure MkBk (w : World) (lo hi g : Nat) (pa cp : Nat → Nat) (X : List Bk) (k : Nat) : Prop where
  at_lo : lo ≤ g
  at_hi : g < hi
  row : Row w g (X.length * 3) (mkB pa cp X k)
  lo' : ∀ i, i < X.length → lo ≤ pa i ∧ pa i < hi
  pages : ∀ i, i < X.length → Row w (pa i) (nPg X i * 2) (mkF (kAt X k i))
def MkNd (w : World) (lo hi : Nat) (A : Option Addr) (n : Nat) (X : List Bk) (k : Nat) : Prop :=
  X.length = n ∧ (0 < n → ∃ g pa cp, A = some ⟨g, 0, none⟩ ∧ MkBk w lo hi g pa cp X k)
theorem MkNd.same {w w' : World} {lo hi n k : Nat} {A : Option Addr} {X : List Bk} (h : MkNd w lo hi A n X k) (hb : ∀ j, lo ≤ j → j < hi → w'.heap[j]? = w.heap[j]?) : MkNd w' lo hi A n X k :=
  ⟨h.1, fun hn => by
    obtain ⟨g, pa, cp, hA, ho⟩ := h.2 hn
    exact ⟨g, pa, cp, hA, ho.at_lo, ho.at_hi, ho.row.same (hb g ho.at_lo ho.at_hi), ho.lo', fun i hi => Row.same (ho.pages i hi) (hb _ (ho.lo' i hi).1 (ho.lo' i hi).2)⟩⟩
theorem MkNd.below {w w' : World} {lo hi n k B : Nat} {A : Option Addr} {X : List Bk} (h : MkNd w lo hi A n X k) (hb : Below B w w') (hB : hi ≤ B) : MkNd w' lo hi A n X k :=
  h.same fun j _ hj => hb.block j (by omega)

/-- the first j blocks are marked -/
structure Marking (w wr : World) (lo hi g : Nat) (pa cp : Nat → Nat) (X : List Bk) (k j : Nat) : Prop where
  at_lo : lo ≤ g
  at_hi : g < hi
  row : Row wr g (X.length * 3) (upto j 3 (mkB pa cp X k) (bkF (fun i => some ⟨pa i, 0, none⟩) cp X))
  lo' : ∀ i, i < X.length → lo ≤ pa i ∧ pa i < hi ∧ pa i ≠ g
  apart : ∀ i j, i < X.length → j < X.length → i ≠ j → pa i ≠ pa j
  done : ∀ i, i < j → Row wr (pa i) (nPg X i * 2) (mkF (kAt X k i))
  rest : ∀ i, j ≤ i → i < X.length → Row wr (pa i) (nPg X i * 2) (pgF (X.getD i zeroBk).pages)
  btw : Btw lo hi w wr
theorem Marking.more {w wr w1 : World} {lo hi g : Nat} {pa cp : Nat → Nat} {X : List Bk} {k j : Nat} (h : Marking w wr lo hi g pa cp X k j) (hj : j < X.length) (hr : Row w1 (pa j) (nPg X j * 2) (mkF (kAt X k j))) (hb : Btw (pa j) (pa j + 1) wr w1) :
    Marking w ((w1.setCell ⟨g, j * 3 + 1, none⟩ (.int .i64 ((kAt X k j + 2 * nPg X j : Nat) : Int))).setCell ⟨g, j * 3 + 2, none⟩ (.bool (((kAt X k j + 2 * nPg X j + 1 : Nat) : Int) % 3 == 0))) lo hi g pa cp X k (j + 1) := by
  have hgl := h.row.lt
  have hpj := h.lo' j hj
  have hg1 : Row w1 g (X.length * 3) (upto j 3 (mkB pa cp X k) (bkF (fun i => some ⟨pa i, 0, none⟩) cp X)) := h.row.same (hb.block g hgl (by omega))
  refine ⟨h.at_lo, h.at_hi, ?_, h.lo', h.apart, ?_, ?_, ?_⟩
  · refine ((hg1.set _ _).set _ _).congr fun i _ => ?_
    rw [← upto_set3 (k := j) (mkB_0 pa cp X k j) (mkB_1 pa cp X k j) (mkB_2 pa cp X k j)]
    by_cases e2 : i = j * 3 + 2
    · rw [if_pos e2, if_pos e2]
    · rw [if_neg e2, if_neg e2]
      by_cases e1 : i = j * 3 + 1
      · rw [if_pos e1, if_pos e1]
      · rw [if_neg e1, if_neg e1]
        by_cases e0 : i = j * 3
        · rw [if_pos e0, upto_ge (by omega), e0, bkF_0]; rfl
        · rw [if_neg e0]
  · intro i hi
    by_cases e : i = j
    · subst e
      exact Row.other (Row.other hr (by dsimp only; omega) _) (by dsimp only; omega) _
    · have hpi := h.lo' i (by omega)
      have hne := h.apart i j (by omega) hj e
      have h0 := h.done i (by omega)
      exact Row.other (Row.other (h0.same (hb.block _ h0.lt (by omega))) (by dsimp only; omega) _) (by dsimp only; omega) _
  · intro i h1 h2
    have hpi := h.lo' i (by omega)
    have hne := h.apart i j (by omega) hj (by omega)
    have h0 := h.rest i (by omega) h2
    exact Row.other (Row.other (h0.same (hb.block _ h0.lt (by omega))) (by dsimp only; omega) _) (by dsimp only; omega) _
  · exact ((h.btw.trans (hb.mono (by omega) (by omega))).setCell (.inl ⟨h.at_lo, h.at_hi⟩) _).setCell (.inl ⟨h.at_lo, h.at_hi⟩) _

set_option maxHeartbeats 1000000 in
theorem markBlockS_any (A : Option Addr) (lo hi n ca k : Nat) (X : List Bk) (w : World) (hn : n ≤ 2097152) (hk : kAt X k n ≤ 16777216) (hA : OwNd w lo hi A n X) :
    Calls Tryz.prog 84 #[.slice A n ca, .int .i64 (k : Int)] w fun e w' => e = .returned (.int .i64 ((kAt X k n : Nat) : Int)) ∧ MkNd w' lo hi A n X k ∧ Btw lo hi w w' := by
  have hl := hA.1
  by_cases h0 : n = 0
  · subst h0
    have HX := Lib.hid hl; clear hA hl
    go_enter Tryz.func84, Tryz.ntmps84
    go_wp2
    refine wp_loop_rounds 1 ?_
    rw [rounds_succ]
    go_wp2
    go_ret
    exact ⟨ret_i (by rw [kAt_zero]), ⟨HX.out, fun h => absurd h (by omega)⟩, Btw.refl _ _ _⟩
  · obtain ⟨g, pa, cp, rfl, ho⟩ := hA.2 (by omega)
    have HO := Lib.hid ho; have HL := Lib.hid hl; clear hA hl ho
    go_enter Tryz.func84, Tryz.ntmps84
    go_wp2
    go_loopw [1, 5] (fun l i wr => ∃ j : Nat, j ≤ n ∧ i = .int .i64 (j : Nat) ∧ l = .int .i64 ((kAt X k j : Nat) : Int) ∧ Marking w wr lo hi g pa cp X k j) (fun _ i _ => n - (intOf i).toNat)
    case atStart => exact ⟨0, by omega, rfl, rfl, HO.out.at_lo, HO.out.at_hi, HO.out.row.congr (fun i _ => (upto_zero i).symm), HO.out.lo', HO.out.apart, fun i h => absurd h (by omega), fun i _ h => HO.out.pages i h, Btw.refl _ _ _⟩
    case round =>
      obtain ⟨j, hj, rfl, rfl, hm⟩ := hrel
      have HM := Lib.hid hm
      by_cases hlt : j < n
      · have hjl : j < X.length := by have := HL.out; omega
        have hb1 : kAt X k j + 2 * nPg X j + 2 ≤ 16777216 := by rw [← kAt_succ]; exact Nat.le_trans (kAt_mono X k (by omega)) hk
        have hc0 := hm.row.cell (i := j * 3) (by omega)
        rw [upto_ge (Nat.le_refl _), bkF_0] at hc0
        have hrest := hm.rest j (Nat.le_refl _) hjl
        have HRest := Lib.hid hrest
        have hc0' : wr.cell? ⟨g, j * 3, none⟩ = some (.slice (some ⟨pa j, 0, none⟩) (nPg X j) (cp j)) := hc0
        clear hm hrest hc0
        have HK : Hid (kAt X k (j + 1) = kAt X k j + 2 * nPg X j + 2) := kAt_succ X k j
        go_wp2_with fail
        refine (markPageS_any (pa j) (nPg X j) _ (kAt X k j) _ _ (by omega) (by omega) HRest.out).mono ?_
        rintro e w1 ⟨rfl, hr1, hb1'⟩
        have hgl := HM.out.row.lt
        have hrow := HM.out.row.same (hb1'.block g hgl (by have := HM.out.lo' j hjl; omega))
        have HR1 := Lib.hid hr1; have HB1 := Lib.hid hb1'
        have hd1 := hrow.cell (i := j * 3 + 1) (by omega)
        have hd2 := hrow.cell (i := j * 3 + 2) (by omega)
        have hf1 := hrow.free (j * 3 + 1)
        have hf2 := hrow.free (j * 3 + 2)
        clear hr1 hb1' hrow
        go_wp2
        go_roundw
        case rel => exact ⟨j + 1, by omega, by go_num, by rw [HK.out]; go_num, HM.out.more hjl HR1.out HB1.out⟩
        case measure => simp [intOf]; omega
      · clear hm
        obtain rfl : j = n := by omega
        go_wp2
        go_ret
        have hl := HL.out
        subst hl
        have h := HM.out
        exact ⟨rfl, ⟨rfl, fun _ => ⟨g, pa, cp, rfl, h.at_lo, h.at_hi, h.row.congr (fun i hi => upto_lt hi), fun i hi => ⟨(h.lo' i hi).1, (h.lo' i hi).2.1⟩, h.done⟩⟩, h.btw⟩

set_option maxHeartbeats 1000000 in
theorem markNand_any (A : Option Addr) (lo hi n ca k : Nat) (X : List Bk) (w : World) (hn : n ≤ 2097152) (hk : kAt X k n ≤ 16777216) (hh : hi ≤ w.heap.size) (hA : OwNd w lo hi A n X) :
    Calls Tryz.prog 16 #[.agg #[.slice A n ca], .int .i64 (k : Int)] w fun e w' => e = .returned (.int .i64 ((kAt X k n : Nat) : Int)) ∧ MkNd w' lo hi A n X k ∧ Btw lo hi w w' := by
  have HA := Lib.hid hA; clear hA
  go_enter Tryz.func16, Tryz.ntmps16
  go_wp2_with fail
  refine (markBlockS_any A lo hi n ca k X _ hn hk (HA.out.below ((Below.refl _ _).alloc (Nat.le_refl _) _) hh)).mono ?_
  rintro e w1 ⟨rfl, h1, hb⟩
  have H1 := Lib.hid h1; have HB := Lib.hid ((Btw.of_below (lo := lo) (hi := hi) ((Below.refl w.heap.size w).alloc (Nat.le_refl _) _)).trans hb)
  clear h1 hb
  go_wp2
  go_ret
  exact ⟨rfl, H1.out, HB.out⟩

set_option maxHeartbeats 1000000 in
theorem markNandOut_any (A : Option Addr) (lo hi n ca k : Nat) (X : List Bk) (d : ByteArray) (code : Int) (w : World) (hn : n ≤ 2097152) (hk : kAt X k n ≤ 16777216) (hh : hi ≤ w.heap.size) (hA : OwNd w lo hi A n X) :
    Calls Tryz.prog 17 #[.agg #[.slice A n ca, .string d, .int .i64 code], .int .i64 (k : Int)] w fun e w' => e = .returned (.int .i64 ((kAt X k n : Nat) : Int)) ∧ MkNd w' lo hi A n X k ∧ Btw lo hi w w' := by
  have HA := Lib.hid hA; clear hA
  go_enter Tryz.func17, Tryz.ntmps17
  go_wp2_with fail
  refine (markNand_any A lo hi n ca k X _ hn hk (by simp; omega) (HA.out.below ((Below.refl _ _).alloc (Nat.le_refl _) _) hh)).mono ?_
  rintro e w1 ⟨rfl, h1, hb⟩
  have H1 := Lib.hid h1; have HB := Lib.hid ((Btw.of_below (lo := lo) (hi := hi) ((Below.refl w.heap.size w).alloc (Nat.le_refl _) _)).trans hb)
  clear h1 hb
  go_wp2
  go_ret
  exact ⟨rfl, H1.out, HB.out⟩
theorem sum_le_sz (X : List Bk) (n : Nat) : sumTo (fun j => 2 * nPg X j + 2) n ≤ 2 * (n + sumTo (fun i => szPgs (X.getD i zeroBk).pages) n) := by
  induction n with
  | zero => simp [sumTo]
  | succ n ih =>
    simp only [sumTo]
    have : nPg X n ≤ szPgs (X.getD n zeroBk).pages := by unfold nPg szPgs; omega
    omega
theorem sz_kAt {X : List Bk} (h : szBks X ≤ 1048576) : kAt X 1 X.length ≤ 16777216 := by
  have := sum_le_sz X X.length
  unfold szBks at h
  unfold kAt; omega
end Go.Proofs.YtfpibbhcecdbgaaGreatDoor

namespace Go.Proofs.YtfpibbhcecdbgaaGreatDoor
open Go.RowKit

theorem heldText_eq (l : List UInt8) : ((bstr l).toList == (bstr l).toList) = true := by simp

set_option maxHeartbeats 1000000 in
theorem heldPageS_any (g n ca k : Nat) (w : World) (hn : n ≤ 16777216) (hk : k ≤ 16777216) (hA : Row w g (n * 2) (mkF k)) :
    Calls Tryz.prog 226 #[.slice (some ⟨g, 0, none⟩) n ca, .int .i64 (k : Int)] w fun e w' => e = .returned (.int .i64 ((k + 2 * n : Nat) : Int)) ∧ Below w.heap.size w w' := by
  have HA := Lib.hid hA; have hg := hA.lt; clear hA
  go_enter Tryz.func226, Tryz.ntmps226
  go_wp2
  go_loopw [1, 5] (fun l i wr => ∃ j : Nat, j ≤ n ∧ i = .int .i64 (j : Nat) ∧ l = .int .i64 ((k + j * 2 : Nat) : Int) ∧ Below w.heap.size w wr) (fun _ i _ => n - (intOf i).toNat)
  case atStart => exact ⟨0, by omega, rfl, by simp, Below.refl _ _⟩
  case round =>
    obtain ⟨j, hj, rfl, rfl, hbel⟩ := hrel
    have HW := Lib.hid hbel
    by_cases hlt : j < n
    · have hr := HA.out.below hbel hg
      have hc0 := hr.cell (i := j * 2) (by omega)
      have hc1 := hr.cell (i := j * 2 + 1) (by omega)
      rw [mkF_0] at hc0
      rw [mkF_1] at hc1
      obtain ⟨m, hm⟩ : ∃ m, m = k + j * 2 := ⟨_, rfl⟩
      have HM := Lib.hid hm
      have hm2 : m ≤ 67108864 := by omega
      rw [← hm] at hc0 hc1 ⊢
      clear hr hbel hm
      have hq := heldText_eq (mkT (m + 1))
      generalize hT : mkT (m + 1) = T at hc1 hq
      have HT := Lib.hid hT; clear hT
      have HMT := Lib.hid (fun W => markText_succ m W (by omega))
      rw [HT.out] at HMT
      go_wp2
      have hc1' := cell_regrown hc1
      refine wp_region_quiet_below (by kernel_rfl) (by kernel_rfl) ?_
      repeat (go_big_quiet_step ((go_at_call 225; exact Calls.regrown_of (HMT.out _))))
      refine wpQuiet_nil ?_
      intro w2 hw'
      have hb2 : Below wr.heap.size wr w2 := by obtain ⟨⟨dq, osq⟩, rfl⟩ := hw'; exact below_regrown wr dq osq
      clear hw'
      have HB2 := Lib.hid (HW.out.trans (hb2.mono HW.out.size))
      clear hb2
      go_wp2
      go_roundw
      case rel => exact ⟨j + 1, by omega, by go_num, by have := HM.out; go_num, HB2.out⟩
      case measure => simp [intOf]; omega
    · clear hbel
      obtain rfl : j = n := by omega
      go_wp2
      go_ret
      exact ⟨ret_i (by omega), HW.out⟩

set_option maxHeartbeats 1000000 in
theorem heldBlockS_any (A : Option Addr) (lo hi n ca k : Nat) (X : List Bk) (w : World) (hn : n ≤ 2097152) (hk : kAt X k n ≤ 16777216) (_hh : hi ≤ w.heap.size) (hA : MkNd w lo hi A n X k) :
    Calls Tryz.prog 161 #[.slice A n ca, .int .i64 (k : Int)] w fun e w' => e = .returned (.int .i64 ((kAt X k n : Nat) : Int)) ∧ Below w.heap.size w w' := by
  have hl := hA.1
  by_cases h0 : n = 0
  · subst h0
    clear hA hl
    go_enter Tryz.func161, Tryz.ntmps161
    go_wp2
    refine wp_loop_rounds 1 ?_
    rw [rounds_succ]
    go_wp2
    go_ret
    exact ⟨ret_i (by rw [kAt_zero]), Below.refl _ _⟩
  · have HMk := Lib.hid hA
    obtain ⟨g, pa, cp, rfl, ho⟩ := hA.2 (by omega)
    have HO := Lib.hid ho; have HL := Lib.hid hl; clear hA hl ho
    go_enter Tryz.func161, Tryz.ntmps161
    go_wp2
    go_loopw [1, 5] (fun l i wr => ∃ j : Nat, j ≤ n ∧ i = .int .i64 (j : Nat) ∧ l = .int .i64 ((kAt X k j : Nat) : Int) ∧ Below w.heap.size w wr) (fun _ i _ => n - (intOf i).toNat)
    case atStart => exact ⟨0, by omega, rfl, rfl, Below.refl _ _⟩
    case round =>
      obtain ⟨j, hj, rfl, rfl, hbel⟩ := hrel
      have HW := Lib.hid hbel
      by_cases hlt : j < n
      · have hjl : j < X.length := by have := HL.out; omega
        have hb1 : kAt X k j + 2 * nPg X j + 2 ≤ 16777216 := by rw [← kAt_succ]; exact Nat.le_trans (kAt_mono X k (by omega)) hk
        have hr := HO.out.row.below hbel HO.out.row.lt
        have HPG := Lib.hid ((HO.out.pages j hjl).below hbel (HO.out.pages j hjl).lt)
        have hc0 := hr.cell (i := j * 3) (by omega)
        rw [mkB_0] at hc0
        have HR := Lib.hid hr
        clear hr hbel
        have HK : Hid (kAt X k (j + 1) = kAt X k j + 2 * nPg X j + 2) := kAt_succ X k j
        go_wp2_with fail
        refine (heldPageS_any (pa j) (nPg X j) _ (kAt X k j) _ (by omega) (by omega) HPG.out).mono ?_
        rintro e w1 ⟨rfl, hb2⟩
        have hr2 := HR.out.below hb2 HR.out.lt
        have hc1 := hr2.cell (i := j * 3 + 1) (by omega)
        have hc2 := hr2.cell (i := j * 3 + 2) (by omega)
        rw [mkB_1] at hc1
        rw [mkB_2] at hc2
        have HB2 := Lib.hid (HW.out.trans (hb2.mono HW.out.size))
        clear hb2 hr2
        obtain ⟨m, hm⟩ : ∃ m, m = kAt X k j + 2 * nPg X j := ⟨_, rfl⟩
        have HM := Lib.hid hm
        have hm2 : m ≤ 16777216 := by omega
        rw [← hm] at hc1 hc2 ⊢
        rw [show ((m + 1 : Nat) : Int) = (m : Int) + 1 by omega] at hc2
        clear hm
        go_wp2
        go_roundw
        case rel => exact ⟨j + 1, by omega, by go_num, by rw [HK.out, ← HM.out]; go_num, HB2.out⟩
        case measure => simp [intOf]; omega
      · clear hbel
        obtain rfl : j = n := by omega
        go_wp2
        go_ret
        exact ⟨rfl, HW.out⟩

set_option maxHeartbeats 1000000 in
theorem heldNand_any (A : Option Addr) (lo hi n ca k : Nat) (X : List Bk) (w : World) (hn : n ≤ 2097152) (hk : kAt X k n ≤ 16777216) (hh : hi ≤ w.heap.size) (hA : MkNd w lo hi A n X k) :
    Calls Tryz.prog 85 #[.agg #[.slice A n ca], .int .i64 (k : Int)] w fun e w' => e = .returned (.int .i64 ((kAt X k n : Nat) : Int)) ∧ Below w.heap.size w w' := by
  have HA := Lib.hid hA; clear hA
  go_enter Tryz.func85, Tryz.ntmps85
  go_wp2_with fail
  refine (heldBlockS_any A lo hi n ca k X _ hn hk (by simp; omega) (HA.out.below ((Below.refl _ _).alloc (Nat.le_refl _) _) hh)).mono ?_
  rintro e w1 ⟨rfl, hb⟩
  have HB := Lib.hid (((Below.refl w.heap.size w).alloc (Nat.le_refl _) _).trans (hb.mono (by simp)))
  clear hb
  go_wp2
  go_ret
  exact ⟨rfl, HB.out⟩

set_option maxHeartbeats 1000000 in
theorem heldNandOut_any (A : Option Addr) (lo hi n ca k : Nat) (X : List Bk) (d : ByteArray) (code : Int) (w : World) (hn : n ≤ 2097152) (hk : kAt X k n ≤ 16777216) (hh : hi ≤ w.heap.size) (hA : MkNd w lo hi A n X k) :
    Calls Tryz.prog 18 #[.agg #[.slice A n ca, .string d, .int .i64 code], .int .i64 (k : Int)] w fun e w' => e = .returned (.int .i64 ((kAt X k n : Nat) : Int)) ∧ Below w.heap.size w w' := by
  have HA := Lib.hid hA; clear hA
  go_enter Tryz.func18, Tryz.ntmps18
  go_wp2_with fail
  refine (heldNand_any A lo hi n ca k X _ hn hk (by simp; omega) (HA.out.below ((Below.refl _ _).alloc (Nat.le_refl _) _) hh)).mono ?_
  rintro e w1 ⟨rfl, hb⟩
  have HB := Lib.hid (((Below.refl w.heap.size w).alloc (Nat.le_refl _) _).trans (hb.mono (by simp)))
  clear hb
  go_wp2
  go_ret
  exact ⟨rfl, HB.out⟩
end Go.Proofs.YtfpibbhcecdbgaaGreatDoor
