/-
  Slices of structs in memory: what reads as a list of pages, of blocks; what the call itself owns. Over any program.
-/
import Derived.Test.YtloaeglmngcenaaGreatDoorNdPure
import Derived.Test.YtloaeglmngcenaaGreatDoorBtMem
import Derived.Laws.MakeOwn
import Derived.Lib.QuietBelow
namespace Go.Proofs.YtloaeglmngcenaaGreatDoor
open Go.RowKit

theorem ret_i {k : IntKind} {a b : Int} (h : a = b) : Ending.returned (.int k a) = .returned (.int k b) := by rw [h]
theorem ret_b {a b : Bool} (h : a = b) : Ending.returned (.bool a) = .returned (.bool b) := by rw [h]
theorem size_alloc (w : World) (o : Obj) : (w.alloc o).heap.size = w.heap.size + 1 := by simp

/-! a row of cells in a block that the call owns -/
def Row (w : World) (g n : Nat) (f : Nat → Value) : Prop := ∃ (t : TypeId) (c : Array Value), w.heap[g]? = some (.cells c t (0, 0)) ∧ n ≤ c.size ∧ ∀ i, i < n → c[i]? = some (f i)
section
variable {w w' : World} {g n : Nat} {f : Nat → Value}
theorem Row.lt (h : Row w g n f) : g < w.heap.size := by obtain ⟨t, c, h, _⟩ := h; exact lt_of_block h
theorem Row.cell (h : Row w g n f) {i : Nat} (hi : i < n) : w.cell? ⟨g, i, none⟩ = some (f i) := by
  obtain ⟨t, c, h, _, hc⟩ := h
  rw [cell_of_row w g i _ _ _ h]; exact hc i hi
theorem Row.free (h : Row w g n f) (i : Nat) : w.frozen? ⟨g, i, none⟩ = false := by
  obtain ⟨t, c, h, _⟩ := h; simp [World.frozen?, h]
theorem Row.same (h : Row w g n f) (hb : w'.heap[g]? = w.heap[g]?) : Row w' g n f := by
  obtain ⟨t, c, h, r⟩ := h; exact ⟨t, c, hb.trans h, r⟩
theorem Row.below {B : Nat} (h : Row w g n f) (hb : Below B w w') (hg : g < B) : Row w' g n f := h.same (hb.block g hg)
theorem Row.alloc (h : Row w g n f) (o : Obj) : Row (w.alloc o) g n f := h.same (Below.heap_alloc _ _ _ h.lt)
theorem Row.other (h : Row w g n f) {a : Addr} (ha : g ≠ a.block) (u : Value) : Row (w.setCell a u) g n f := h.same (Below.heap_setCell _ _ _ _ ha)
theorem Row.congr {f' : Nat → Value} (h : Row w g n f) (he : ∀ i, i < n → f i = f' i) : Row w g n f' := by
  obtain ⟨t, c, h, hn, hc⟩ := h; exact ⟨t, c, h, hn, fun i hi => (hc i hi).trans (by rw [he i hi])⟩
theorem Row.less {m : Nat} (h : Row w g n f) (hm : m ≤ n) : Row w g m f := by
  obtain ⟨t, c, h, hn, hc⟩ := h; exact ⟨t, c, h, by omega, fun i hi => hc i (by omega)⟩
theorem Row.set (h : Row w g n f) (i : Nat) (u : Value) : Row (w.setCell ⟨g, i, none⟩ u) g n (fun j => if j = i then u else f j) := by
  have hlt := h.lt
  obtain ⟨t, c, h, hn, hc⟩ := h
  have h' : w.heap[g] = .cells c t (0, 0) := by simpa [Array.getElem?_eq_getElem hlt] using h
  refine ⟨t, c.setIfInBounds i u, ?_, by simpa using hn, fun j hj => ?_⟩
  · show (w.heap.modify g _)[g]? = _
    rw [Array.getElem?_eq_getElem (by simpa using hlt), Array.getElem_modify_self, h']
    simp
  · rw [Array.getElem?_setIfInBounds]
    by_cases e : i = j
    · subst e; simp; omega
    · rw [if_neg e, hc j hj]; show _ = some (if j = i then u else f j); rw [if_neg (by omega)]
theorem row_new (w : World) (t : TypeId) (c : Array Value) (hn : n ≤ c.size) (hc : ∀ i, i < n → c[i]? = some (f i)) : Row (w.alloc (.cells c t)) w.heap.size n f := ⟨t, c, heap_alloc_new w _, hn, hc⟩
end

theorem blk2 {w : World} {g : Nat} {e : TypeId} {a b : Value} (h : IsBlk w g e [a, b]) : w.cell? ⟨g, 0, none⟩ = some a ∧ w.cell? ⟨g, 1, none⟩ = some b ∧ w.frozen? ⟨g, 0, none⟩ = false ∧ w.frozen? ⟨g, 1, none⟩ = false :=
  ⟨h.cell rfl, h.cell rfl, h.free, h.free⟩
theorem blk3 {w : World} {g : Nat} {e : TypeId} {a b c : Value} (h : IsBlk w g e [a, b, c]) : w.cell? ⟨g, 0, none⟩ = some a ∧ w.cell? ⟨g, 1, none⟩ = some b ∧ w.cell? ⟨g, 2, none⟩ = some c ∧
    w.frozen? ⟨g, 0, none⟩ = false ∧ w.frozen? ⟨g, 1, none⟩ = false ∧ w.frozen? ⟨g, 2, none⟩ = false := ⟨h.cell rfl, h.cell rfl, h.cell rfl, h.free, h.free, h.free⟩
/-- three boxes of three cells, laid one behind the other, in a later world -/
theorem blk_at {w w' : World} {g B : Nat} {e : TypeId} {cs : List Value} (h : IsBlk w g e cs) (hb : Below B w w') (hg : g < B) : IsBlk w' g e cs := h.below hb hg

/-! reading: pages, blocks, wherever they lie (sharing let in); all below block B -/
def RdPg (w : World) (B : Nat) (A : Option Addr) (n : Nat) (X : List Pg) : Prop :=
  X.length = n ∧ (0 < n → ∃ g off, A = some ⟨g, off, none⟩ ∧ g < B ∧ ∀ c, c < n * 2 → w.cell? ⟨g, off + c, none⟩ = some (pgF X c))
def RdBk (w : World) (B : Nat) (A : Option Addr) (n : Nat) (X : List Bk) : Prop :=
  X.length = n ∧ (0 < n → ∃ g off pA cp, A = some ⟨g, off, none⟩ ∧ g < B ∧ (∀ c, c < n * 3 → w.cell? ⟨g, off + c, none⟩ = some (bkF pA cp X c)) ∧
    ∀ i, i < n → RdPg w B (pA i) (X.getD i zeroBk).pages.length (X.getD i zeroBk).pages)

section
variable {w w' : World} {B B' n k : Nat} {A : Option Addr} {X : List Pg} {Y : List Bk}
theorem RdPg.below (h : RdPg w B A n X) (hb : Below B w w') : RdPg w' B A n X :=
  ⟨h.1, fun hn => by obtain ⟨g, off, hA, hg, hc⟩ := h.2 hn; exact ⟨g, off, hA, hg, fun c hi => (hb.cell (p := ⟨g, off + c, none⟩) hg).trans (hc c hi)⟩⟩
theorem RdPg.mono (h : RdPg w B A n X) (hB : B ≤ B') : RdPg w B' A n X :=
  ⟨h.1, fun hn => by obtain ⟨g, off, hA, hg, hc⟩ := h.2 hn; exact ⟨g, off, hA, Nat.lt_of_lt_of_le hg hB, hc⟩⟩
theorem RdBk.below (h : RdBk w B A n Y) (hb : Below B w w') : RdBk w' B A n Y :=
  ⟨h.1, fun hn => by obtain ⟨g, off, pA, cp, hA, hg, hc, hp⟩ := h.2 hn; exact ⟨g, off, pA, cp, hA, hg, fun c hi => (hb.cell (p := ⟨g, off + c, none⟩) hg).trans (hc c hi), fun i hi => (hp i hi).below hb⟩⟩
theorem RdBk.mono (h : RdBk w B A n Y) (hB : B ≤ B') : RdBk w B' A n Y :=
  ⟨h.1, fun hn => by obtain ⟨g, off, pA, cp, hA, hg, hc, hp⟩ := h.2 hn; exact ⟨g, off, pA, cp, hA, Nat.lt_of_lt_of_le hg hB, hc, fun i hi => (hp i hi).mono hB⟩⟩
theorem RdPg.at (h : RdPg w B A n X) (hk : k < n) :
    ∃ g off, A = some ⟨g, off, none⟩ ∧ g < B ∧ w.cell? ⟨g, off + k * 2, none⟩ = some (.bool (X.getD k zeroPg).used) ∧ w.cell? ⟨g, off + k * 2 + 1, none⟩ = some (.string (X.getD k zeroPg).data) := by
  obtain ⟨g, off, hA, hg, hc⟩ := h.2 (by omega)
  refine ⟨g, off, hA, hg, ?_, ?_⟩
  · rw [← pgF_0]; exact hc _ (by omega)
  · rw [← pgF_1]; exact hc (k * 2 + 1) (by omega)
theorem RdBk.at (h : RdBk w B A n Y) (hk : k < n) :
    ∃ g off pA cp, A = some ⟨g, off, none⟩ ∧ g < B ∧ w.cell? ⟨g, off + k * 3, none⟩ = some (.slice pA (Y.getD k zeroBk).pages.length cp) ∧ w.cell? ⟨g, off + k * 3 + 1, none⟩ = some (.int .i64 (Y.getD k zeroBk).erases) ∧
      w.cell? ⟨g, off + k * 3 + 2, none⟩ = some (.bool (Y.getD k zeroBk).bad) ∧ RdPg w B pA (Y.getD k zeroBk).pages.length (Y.getD k zeroBk).pages := by
  obtain ⟨g, off, pA, cp, hA, hg, hc, hp⟩ := h.2 (by omega)
  refine ⟨g, off, pA k, cp k, hA, hg, ?_, ?_, ?_, hp k hk⟩
  · rw [← bkF_0]; exact hc _ (by omega)
  · rw [← bkF_1 pA cp]; exact hc (k * 3 + 1) (by omega)
  · rw [← bkF_2 pA cp]; exact hc (k * 3 + 2) (by omega)
end

/-! owning: pages and blocks in blocks of memory of the call's own, from lo to below hi, none shared -/
def OwPg (w : World) (g : Nat) (X : List Pg) : Prop := Row w g (X.length * 2) (pgF X)
/-- a row of n pages with room for c: full, or the first of c pages of its block -/
def Room (w : World) (p c n : Nat) : Prop := n ≤ c ∧ (c = n ∨ ∃ cs : Array Value, w.heap[p]? = some (.cells cs 206 (0, 0)) ∧ cs.size = c * 2 ∧ c ≤ maxLen)
theorem Room.full (w : World) (p n : Nat) : Room w p n n := ⟨Nat.le_refl _, Or.inl rfl⟩
theorem Room.same {w w' : World} {p c n : Nat} (h : Room w p c n) (hb : w'.heap[p]? = w.heap[p]?) : Room w' p c n := ⟨h.1, h.2.imp id fun ⟨cs, h1, h2⟩ => ⟨cs, hb.trans h1, h2⟩⟩
theorem Room.set {w : World} {p c n : Nat} (h : Room w p c n) (b o : Nat) (u : Value) : Room (w.setCell ⟨b, o, none⟩ u) p c n := by
  by_cases e : p = b
  · refine ⟨h.1, h.2.imp id fun ⟨cs, h1, h2⟩ => ?_⟩
    have hlt : p < w.heap.size := lt_of_block h1
    have h' : w.heap[p] = .cells cs 206 (0, 0) := by simpa [Array.getElem?_eq_getElem hlt] using h1
    refine ⟨cs.setIfInBounds o u, ?_, by simpa using h2.1, h2.2⟩
    show (w.heap.modify b _)[p]? = _
    subst e
    rw [Array.getElem?_eq_getElem (by simpa using hlt), Array.getElem_modify_self, h']
    simp
  · exact h.same (Below.heap_setCell _ _ _ _ e)
structure OwBk (w : World) (lo hi g : Nat) (pa cp : Nat → Nat) (X : List Bk) : Prop where
  at_lo : lo ≤ g
  at_hi : g < hi
  row : Row w g (X.length * 3) (bkF (fun i => some ⟨pa i, 0, none⟩) cp X)
  lo' : ∀ i, i < X.length → lo ≤ pa i ∧ pa i < hi ∧ pa i ≠ g
  apart : ∀ i j, i < X.length → j < X.length → i ≠ j → pa i ≠ pa j
  pages : ∀ i, i < X.length → OwPg w (pa i) (X.getD i zeroBk).pages
  room : ∀ i, i < X.length → Room w (pa i) (cp i) (X.getD i zeroBk).pages.length
def OwNd (w : World) (lo hi : Nat) (A : Option Addr) (n : Nat) (X : List Bk) : Prop :=
  X.length = n ∧ (0 < n → ∃ g pa cp, A = some ⟨g, 0, none⟩ ∧ OwBk w lo hi g pa cp X)

theorem OwPg.rd {w : World} {g B : Nat} {X : List Pg} (h : OwPg w g X) (hg : g < B) : RdPg w B (some ⟨g, 0, none⟩) X.length X :=
  ⟨rfl, fun _ => ⟨g, 0, rfl, hg, fun c hc => by rw [Nat.zero_add]; exact Row.cell h hc⟩⟩
theorem OwNd.rd {w : World} {lo hi B n : Nat} {A : Option Addr} {X : List Bk} (h : OwNd w lo hi A n X) (hB : hi ≤ B) : RdBk w B A n X := by
  refine ⟨h.1, fun hn => ?_⟩
  obtain ⟨g, pa, cp, hA, ho⟩ := h.2 hn
  have hl := h.1
  subst hl
  exact ⟨g, 0, _, cp, hA, Nat.lt_of_lt_of_le ho.at_hi hB, fun c hc => by rw [Nat.zero_add]; exact ho.row.cell hc, fun i hi => (ho.pages i hi).rd (Nat.lt_of_lt_of_le (ho.lo' i hi).2.1 hB)⟩
/-- only blocks from lo to below hi, and new ones, have turned -/
structure Btw (lo hi : Nat) (w w' : World) : Prop where
  os : w'.os = w.os
  tape : w'.tape = w.tape
  output : w'.output = w.output
  size : w.heap.size ≤ w'.heap.size
  block : ∀ k, k < w.heap.size → (k < lo ∨ hi ≤ k) → w'.heap[k]? = w.heap[k]?
theorem Btw.refl (lo hi : Nat) (w : World) : Btw lo hi w w := ⟨rfl, rfl, rfl, Nat.le_refl _, fun _ _ _ => rfl⟩
theorem Btw.trans {lo hi : Nat} {a b c : World} (h : Btw lo hi a b) (k : Btw lo hi b c) : Btw lo hi a c :=
  ⟨k.os.trans h.os, k.tape.trans h.tape, k.output.trans h.output, Nat.le_trans h.size k.size, fun i hi ho => (k.block i (Nat.lt_of_lt_of_le hi h.size) ho).trans (h.block i hi ho)⟩
theorem Btw.of_below {lo hi : Nat} {a b : World} (h : Below a.heap.size a b) : Btw lo hi a b := ⟨h.os, h.tape, h.output, h.size, fun i hi _ => h.block i hi⟩
theorem Btw.below {lo hi : Nat} {a b : World} (h : Btw lo hi a b) (hl : lo ≤ a.heap.size) : Below lo a b := ⟨h.os, h.tape, h.output, h.size, fun i hi => h.block i (by omega) (Or.inl hi)⟩
theorem Btw.mono {lo hi lo' hi' : Nat} {a b : World} (h : Btw lo hi a b) (hl : lo' ≤ lo) (hh : hi ≤ hi') : Btw lo' hi' a b := ⟨h.os, h.tape, h.output, h.size, fun i hi ho => h.block i hi (by omega)⟩
theorem Btw.setCell {lo hi : Nat} {a w : World} (h : Btw lo hi a w) {p : Addr} (hp : (lo ≤ p.block ∧ p.block < hi) ∨ a.heap.size ≤ p.block) (u : Value) : Btw lo hi a (w.setCell p u) :=
  ⟨h.os, h.tape, h.output, by simpa [World.setCell] using h.size, fun k hk ho => (Below.heap_setCell _ _ _ _ (by omega)).trans (h.block k hk ho)⟩
theorem Btw.alloc {lo hi : Nat} {a w : World} (h : Btw lo hi a w) (o : Obj) : Btw lo hi a (w.alloc o) :=
  h.trans ⟨rfl, rfl, rfl, by simp, fun k hk _ => Below.heap_alloc _ _ _ hk⟩

theorem OwBk.same {w w' : World} {lo hi g : Nat} {pa cp : Nat → Nat} {X : List Bk} (h : OwBk w lo hi g pa cp X) (hb : ∀ k, lo ≤ k → k < hi → w'.heap[k]? = w.heap[k]?) : OwBk w' lo hi g pa cp X :=
  ⟨h.at_lo, h.at_hi, h.row.same (hb g h.at_lo h.at_hi), h.lo', h.apart, fun i hi => Row.same (h.pages i hi) (hb _ (h.lo' i hi).1 (h.lo' i hi).2.1), fun i hi => (h.room i hi).same (hb _ (h.lo' i hi).1 (h.lo' i hi).2.1)⟩
theorem OwNd.same {w w' : World} {lo hi n : Nat} {A : Option Addr} {X : List Bk} (h : OwNd w lo hi A n X) (hb : ∀ k, lo ≤ k → k < hi → w'.heap[k]? = w.heap[k]?) : OwNd w' lo hi A n X :=
  ⟨h.1, fun hn => by obtain ⟨g, pa, cp, hA, ho⟩ := h.2 hn; exact ⟨g, pa, cp, hA, ho.same hb⟩⟩
theorem OwNd.below {w w' : World} {lo hi n B : Nat} {A : Option Addr} {X : List Bk} (h : OwNd w lo hi A n X) (hb : Below B w w') (hB : hi ≤ B) : OwNd w' lo hi A n X :=
  h.same fun k _ hk => hb.block k (by omega)
theorem OwNd.btw {w w' : World} {lo hi n lo' hi' : Nat} {A : Option Addr} {X : List Bk} (h : OwNd w lo hi A n X) (hb : Btw lo' hi' w w') (hs : hi ≤ w.heap.size) (hd : hi ≤ lo' ∨ hi' ≤ lo) : OwNd w' lo hi A n X :=
  h.same fun k _ hk => hb.block k (by omega) (by omega)
theorem OwNd.mono {w : World} {lo hi lo' hi' n : Nat} {A : Option Addr} {X : List Bk} (h : OwNd w lo hi A n X) (hl : lo' ≤ lo) (hh : hi ≤ hi') : OwNd w lo' hi' A n X :=
  ⟨h.1, fun hn => by
    obtain ⟨g, pa, cp, hA, ho⟩ := h.2 hn
    exact ⟨g, pa, cp, hA, by have := ho.at_lo; omega, by have := ho.at_hi; omega, ho.row, fun i hi => by have := ho.lo' i hi; exact ⟨by omega, by omega, this.2.2⟩, ho.apart, ho.pages, ho.room⟩⟩

/-- 'make([]T, n)' of elements of some cells -/
theorem run_makeN {P : Program} (t e : TypeId) (z : Value) (size bytes : Nat) (ht : P.underlying t = some (.slice e)) (hi : (P.info? e).map (fun i => (i.zero, i.size, i.bytes)) = some (some z, size, bytes))
    (n : Nat) (hn : n ≤ 4294967296) (hb : bytes ≤ 65536) (w : World) :
    (Instr.makeSlice t (.int .i64 (n : Int)) (.int .i64 (n : Int))).run P w = .ok (.slice (some ⟨w.heap.size, 0, none⟩) n n) (w.alloc (.cells (madeCells z.cells (n * size)) e)) := by
  obtain ⟨i0, h0, hz0, hz1, hz2⟩ := info_parts hi
  have hbn : bytes * n ≤ 65536 * 4294967296 := Nat.mul_le_mul hb hn
  have h := run_make w t e i0 z ht h0 hz0 .i64 .i64 (n : Int) (n : Int) (by omega) (Int.le_refl _) (by rw [hz2, ← Int.natCast_mul]; omega) (by omega)
  rw [hz1] at h
  simpa using h
theorem row_made (w : World) (e : TypeId) (z : Array Value) (n : Nat) (f : Nat → Value) (hz : ∀ i, i < n → z[i % z.size]! = f i) : Row (w.alloc (.cells (madeCells z n) e)) w.heap.size n f := by
  refine row_new w e _ (by rw [size_madeCells]; exact Nat.le_refl _) fun i hi => ?_
  rw [← hz i hi]
  simp [madeCells, hi]
end Go.Proofs.YtloaeglmngcenaaGreatDoor
