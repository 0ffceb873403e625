/-
  Bytes in memory: a slice of the call's own whose cells are bytes, turned into a string. Over any program.
-/
import Derived.WalkKit
import Derived.Lib.Hide
import Derived.Laws.IdiomStrings
namespace Go.Proofs.Ytdhciemedplolaa
open Go.RowKit

/-- a byte as a cell holds it -/
def byteV (c : UInt8) : Value := .int .u8 (c.toNat : Int)
/-- bytes as a string -/
def bstr (l : List UInt8) : ByteArray := ⟨l.toArray⟩
abbrev strV (l : List UInt8) : Value := .string (bstr l)
theorem bstr_size (l : List UInt8) : (bstr l).size = l.length := by simp [bstr, ByteArray.size]
theorem bstr_list (l : List UInt8) : (bstr l).data.toList = l := by simp [bstr]
theorem bstr_of (s : ByteArray) : bstr s.data.toList = s := by simp [bstr]
theorem bstr_inj {a b : List UInt8} : bstr a = bstr b ↔ a = b := ⟨fun h => by rw [← bstr_list a, h, bstr_list], fun h => by rw [h]⟩

theorem add_plain (g j : Nat) : (⟨g, 0, none⟩ : Addr).add j = ⟨g, j, none⟩ := by unfold Addr.add; split <;> simp_all
theorem add_off (g o j : Nat) : (⟨g, o, none⟩ : Addr).add j = ⟨g, o + j, none⟩ := by unfold Addr.add; split <;> simp_all

/-- 'string(b)' of a slice that owns the bytes l -/
theorem conv_own {P : Program} {w : World} {src dst e : TypeId} (hs : P.underlying src = some (.slice e)) (he : P.underlying e = some (.int .u8)) (hd : P.underlying dst = some .string)
    {base : Nat} {v : Value} {n : Nat} {l : List UInt8} (h : w.ownsRow base e 1 v n (l.map byteV)) : (convert src dst v).run P w = .ok (strV l) w := by
  have hn : l.length = n := by have := h.1; simpa using this
  rcases h.2 with ⟨rfl, rfl⟩ | ⟨g, cap, cur, rfl, hb, hg, _⟩
  · rw [List.eq_nil_of_length_eq_zero hn, run_convert_bytes_string w src dst e _ _ _ hs he hd]
    simp [Conv.bytesToString, strV, bstr]; rfl
  · subst hn
    refine run_convert_bytes_back w src dst e _ cap l hs he hd fun j hj => ?_
    exact h.cells (g := g) rfl j _ (by simp [List.getElem?_eq_getElem hj, byteV])

theorem oneCell_byte (l : List UInt8) : ∀ u ∈ l.map byteV, u.oneCell' = true := by
  intro u hu
  obtain ⟨c, -, rfl⟩ := List.mem_map.1 hu
  rfl
/-- what is known of an element type of one cell -/
structure OneInfo (P : Program) (t e : TypeId) (z : Value) (bytes : Nat) : Prop where
  slice : P.underlying t = some (.slice e)
  info : (P.info? e).map (fun i => (i.zero, i.size, i.bytes)) = some (some z, 1, bytes)
  zero : z.cells.size = 1

/-- 's = append(s, x)' of one element of one cell, s the call's own: what is owned grows by that element, old memory is as it was -/
theorem wpList_append_one {P : Program} {w0 wr : World} {ops : Array Oper} {rest : List Oper} {o : Oper} {a : Act} {Q : Exit → Act → World → Prop} {α : Type} (enc : α → Value)
    (henc : ∀ x, (enc x).oneCell' = true) (hgd : o.guard = none) (s x : Operand) (t e : TypeId) (z : Value) (bytes : Nat) (hI : OneInfo P t e z bytes)
    (ho : o.op = .call { callee := .builtin .append, args := #[s, x], argTypes := #[t, t] })
    {base n : Nat} {v : Value} {l : List α} (hown : wr.ownsRow base e 1 v n (l.map enc)) (hbel : Below base w0 wr) (hbase : base ≤ wr.heap.size)
    (hs : a.eval s = v) (hx : a.eval x = .slice (some ⟨wr.heap.size, 0, none⟩) 1 1) (c : α) {y : Value} (hy : y = enc c) (hb1 : n + 1 ≤ 4294967296) (hb2 : bytes ≤ 16)
    (h : ∀ v' w', w'.ownsRow base e 1 v' (n + 1) ((l ++ [c]).map enc) → Below base w0 w' → wpList P ops Q rest (a.put o.dst v') w') :
    wpList P ops Q (o :: rest) a (wr.alloc (.cells #[y] e)) := by
  obtain ⟨i0, hi, hz0, hz1, hz2⟩ := info_parts hI.info
  subst hy
  refine wpList_append_own _ hgd s x t ho base e i0 z 1 bytes hI.slice hi hz0 hz1 hz2 hI.zero (by decide) v n (l.map enc) hs (hown.alloc _) ⟨wr.heap.size, 0, none⟩ 1 1 [enc c] hx rfl ?_ ?_ ?_ ?_ ?_ ?_
  · intro j u hj
    match j, hj with
    | 0, hj => simp at hj; subst hj; rw [add_plain]; simp
  · intro u hu
    simp at hu; subst hu; exact henc c
  · unfold maxLen; omega
  · calc (n + 1) * bytes ≤ 4294967296 * 16 := Nat.mul_le_mul hb1 hb2
      _ ≤ 140737488355328 := by decide
  · simp; omega
  · intro v' w' ho' hg _
    refine h v' w' ?_ ((hbel.alloc hbase _).grown hg (by simp; omega) fun k hk => (hown.lt k hk).1)
    rw [List.map_append]; exact ho'

theorem oneCell_byteV (c : UInt8) : (byteV c).oneCell' = true := rfl
/-- block g is a row of these cells, none of them frozen -/
def IsBlk (w : World) (g : Nat) (e : TypeId) (cs : List Value) : Prop := w.heap[g]? = some (.cells cs.toArray e (0, 0))
theorem IsBlk.cell {w : World} {g j : Nat} {e : TypeId} {cs : List Value} (h : IsBlk w g e cs) {v : Value} (hj : cs[j]? = some v) : w.cell? ⟨g, j, none⟩ = some v := by
  rw [cell_of_row w g j _ _ _ h]; simpa using hj
theorem IsBlk.free {w : World} {g j : Nat} {e : TypeId} {cs : List Value} (h : IsBlk w g e cs) : w.frozen? ⟨g, j, none⟩ = false := by
  unfold IsBlk at h; simp [World.frozen?, h]
theorem IsBlk.lt {w : World} {g : Nat} {e : TypeId} {cs : List Value} (h : IsBlk w g e cs) : g < w.heap.size := lt_of_block h
theorem isBlk_new (w : World) (e : TypeId) (cs : List Value) : IsBlk (w.alloc (.cells cs.toArray e)) w.heap.size e cs := heap_alloc_new w _
theorem IsBlk.set {w : World} {g j : Nat} {e : TypeId} {cs : List Value} (h : IsBlk w g e cs) (u : Value) : IsBlk (w.setCell ⟨g, j, none⟩ u) g e (cs.set j u) := by
  have hlt := h.lt
  have h' : w.heap[g] = .cells cs.toArray e (0, 0) := by simpa [IsBlk, Array.getElem?_eq_getElem hlt] using h
  show (w.heap.modify g _)[g]? = _
  rw [Array.getElem?_eq_getElem (by simpa using hlt), Array.getElem_modify_self, h']
  simp
theorem IsBlk.other {w : World} {g : Nat} {e : TypeId} {cs : List Value} (h : IsBlk w g e cs) {a : Addr} (ha : g ≠ a.block) (u : Value) : IsBlk (w.setCell a u) g e cs := by
  unfold IsBlk; rw [Below.heap_setCell _ _ _ _ ha]; exact h
theorem IsBlk.alloc {w : World} {g : Nat} {e : TypeId} {cs : List Value} (h : IsBlk w g e cs) (o : Obj) : IsBlk (w.alloc o) g e cs := by
  unfold IsBlk; rw [Below.heap_alloc _ _ _ h.lt]; exact h
theorem IsBlk.below {w w' : World} {g B : Nat} {e : TypeId} {cs : List Value} (h : IsBlk w g e cs) (hb : Below B w w') (hg : g < B) : IsBlk w' g e cs := (hb.block g hg).trans h

/-- 'string(b)' of a slice over the first bytes of a block -/
theorem conv_blk {P : Program} {w : World} {src dst e : TypeId} (hs : P.underlying src = some (.slice e)) (he : P.underlying e = some (.int .u8)) (hd : P.underlying dst = some .string)
    {g : Nat} {e' : TypeId} {cs : List Value} {l : List UInt8} {n c : Nat} (h : IsBlk w g e' cs) (hc : ∃ more, cs = l.map byteV ++ more) (hn : l.length = n) : (convert src dst (.slice (some ⟨g, 0, none⟩) n c)).run P w = .ok (strV l) w := by
  subst hn
  obtain ⟨more, rfl⟩ := hc
  refine run_convert_bytes_back w src dst e _ c l hs he hd fun j hj => ?_
  rw [add_plain]
  exact h.cell (by rw [List.getElem?_append_left (by simpa using hj)]; simp [List.getElem?_eq_getElem hj, byteV])

end Go.Proofs.Ytdhciemedplolaa
