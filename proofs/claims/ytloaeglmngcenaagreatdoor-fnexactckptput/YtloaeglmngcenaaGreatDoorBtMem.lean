/-
  Bytes in memory: a slice of the call's own whose cells are bytes, turned into a string. Over any program.
-/
import Derived.WalkKit
import Derived.Lib.Hide
import Derived.Laws.IdiomStrings
import Derived.Laws.CopyOwn
import Derived.Lib.BufferWrite
namespace Go.Proofs.YtloaeglmngcenaaGreatDoor
open Go.RowKit

/-- a byte as a cell holds it -/
def byteV (c : UInt8) : Value := .int .u8 (c.toNat : Int)
/-- bytes as a string -/
def bstr (l : List UInt8) : ByteArray := ⟨l.toArray⟩
abbrev strV (l : List UInt8) : Value := .string (bstr l)
theorem bstr_size (l : List UInt8) : (bstr l).size = l.length := by simp [bstr, ByteArray.size]
theorem bstr_list (l : List UInt8) : (bstr l).data.toList = l := by simp [bstr]
theorem bstr_of (s : ByteArray) : bstr s.data.toList = s := by simp [bstr]
theorem bstr_inj {a b : List UInt8} : bstr a = bstr b ↔ a = b := ⟨fun h => by rw [← bstr_list a, h, bstr_list], fun h => by rw [h]⟩

theorem add_plain (g j : Nat) : (⟨g, 0, none⟩ : Addr).add j = ⟨g, j, none⟩ := by unfold Addr.add; split <;> simp_all
theorem add_off (g o j : Nat) : (⟨g, o, none⟩ : Addr).add j = ⟨g, o + j, none⟩ := by unfold Addr.add; split <;> simp_all

/-- 'string(b)' of a slice that owns the bytes l -/
theorem conv_own {P : Program} {w : World} {src dst e : TypeId} (hs : P.underlying src = some (.slice e)) (he : P.underlying e = some (.int .u8)) (hd : P.underlying dst = some .string)
    {base : Nat} {v : Value} {n : Nat} {l : List UInt8} (h : w.ownsRow base e 1 v n (l.map byteV)) : (convert src dst v).run P w = .ok (strV l) w := by
  have hn : l.length = n := by have := h.1; simpa using this
  rcases h.2 with ⟨rfl, rfl⟩ | ⟨g, cap, cur, rfl, hb, hg, _⟩
  · rw [List.eq_nil_of_length_eq_zero hn, run_convert_bytes_string w src dst e _ _ _ hs he hd]
    simp [Conv.bytesToString, strV, bstr]; rfl
  · subst hn
    refine run_convert_bytes_back w src dst e _ cap l hs he hd fun j hj => ?_
    exact h.cells (g := g) rfl j _ (by simp [List.getElem?_eq_getElem hj, byteV])

theorem oneCell_byte (l : List UInt8) : ∀ u ∈ l.map byteV, u.oneCell' = true := by
  intro u hu
  obtain ⟨c, -, rfl⟩ := List.mem_map.1 hu
  rfl
/-- what is known of an element type of one cell -/
structure OneInfo (P : Program) (t e : TypeId) (z : Value) (bytes : Nat) : Prop where
  slice : P.underlying t = some (.slice e)
  info : (P.info? e).map (fun i => (i.zero, i.size, i.bytes)) = some (some z, 1, bytes)
  zero : z.cells.size = 1

/-- 's = append(s, x)' of one element of one cell, s the call's own: what is owned grows by that element, old memory is as it was -/
theorem wpList_append_one {P : Program} {w0 wr : World} {ops : Array Oper} {rest : List Oper} {o : Oper} {a : Act} {Q : Exit → Act → World → Prop} {α : Type} (enc : α → Value)
    (henc : ∀ x, (enc x).oneCell' = true) (hgd : o.guard = none) (s x : Operand) (t e : TypeId) (z : Value) (bytes : Nat) (hI : OneInfo P t e z bytes)
    (ho : o.op = .call { callee := .builtin .append, args := #[s, x], argTypes := #[t, t] })
    {base n : Nat} {v : Value} {l : List α} (hown : wr.ownsRow base e 1 v n (l.map enc)) (hbel : Below base w0 wr) (hbase : base ≤ wr.heap.size)
    (hs : a.eval s = v) (hx : a.eval x = .slice (some ⟨wr.heap.size, 0, none⟩) 1 1) (c : α) {y : Value} (hy : y = enc c) (hb1 : n + 1 ≤ 4294967296) (hb2 : bytes ≤ 16)
    (h : ∀ v' w', w'.ownsRow base e 1 v' (n + 1) ((l ++ [c]).map enc) → Below base w0 w' → wpList P ops Q rest (a.put o.dst v') w') :
    wpList P ops Q (o :: rest) a (wr.alloc (.cells #[y] e)) := by
  obtain ⟨i0, hi, hz0, hz1, hz2⟩ := info_parts hI.info
  subst hy
  refine wpList_append_own _ hgd s x t ho base e i0 z 1 bytes hI.slice hi hz0 hz1 hz2 hI.zero (by decide) v n (l.map enc) hs (hown.alloc _) ⟨wr.heap.size, 0, none⟩ 1 1 [enc c] hx rfl ?_ ?_ ?_ ?_ ?_ ?_
  · intro j u hj
    match j, hj with
    | 0, hj => simp at hj; subst hj; rw [add_plain]; simp
  · intro u hu
    simp at hu; subst hu; exact henc c
  · unfold maxLen; omega
  · calc (n + 1) * bytes ≤ 4294967296 * 16 := Nat.mul_le_mul hb1 hb2
      _ ≤ 140737488355328 := by decide
  · simp; omega
  · intro v' w' ho' hg _
    refine h v' w' ?_ ((hbel.alloc hbase _).grown hg (by simp; omega) fun k hk => (hown.lt k hk).1)
    rw [List.map_append]; exact ho'

theorem oneCell_byteV (c : UInt8) : (byteV c).oneCell' = true := rfl
/-- block g is a row of these cells, none of them frozen -/
def IsBlk (w : World) (g : Nat) (e : TypeId) (cs : List Value) : Prop := w.heap[g]? = some (.cells cs.toArray e (0, 0))
theorem IsBlk.cell {w : World} {g j : Nat} {e : TypeId} {cs : List Value} (h : IsBlk w g e cs) {v : Value} (hj : cs[j]? = some v) : w.cell? ⟨g, j, none⟩ = some v := by
  rw [cell_of_row w g j _ _ _ h]; simpa using hj
theorem IsBlk.free {w : World} {g j : Nat} {e : TypeId} {cs : List Value} (h : IsBlk w g e cs) : w.frozen? ⟨g, j, none⟩ = false := by
  unfold IsBlk at h; simp [World.frozen?, h]
theorem IsBlk.lt {w : World} {g : Nat} {e : TypeId} {cs : List Value} (h : IsBlk w g e cs) : g < w.heap.size := lt_of_block h
theorem isBlk_new (w : World) (e : TypeId) (cs : List Value) : IsBlk (w.alloc (.cells cs.toArray e)) w.heap.size e cs := heap_alloc_new w _
theorem IsBlk.set {w : World} {g j : Nat} {e : TypeId} {cs : List Value} (h : IsBlk w g e cs) (u : Value) : IsBlk (w.setCell ⟨g, j, none⟩ u) g e (cs.set j u) := by
  have hlt := h.lt
  have h' : w.heap[g] = .cells cs.toArray e (0, 0) := by simpa [IsBlk, Array.getElem?_eq_getElem hlt] using h
  show (w.heap.modify g _)[g]? = _
  rw [Array.getElem?_eq_getElem (by simpa using hlt), Array.getElem_modify_self, h']
  simp
theorem IsBlk.other {w : World} {g : Nat} {e : TypeId} {cs : List Value} (h : IsBlk w g e cs) {a : Addr} (ha : g ≠ a.block) (u : Value) : IsBlk (w.setCell a u) g e cs := by
  unfold IsBlk; rw [Below.heap_setCell _ _ _ _ ha]; exact h
theorem IsBlk.alloc {w : World} {g : Nat} {e : TypeId} {cs : List Value} (h : IsBlk w g e cs) (o : Obj) : IsBlk (w.alloc o) g e cs := by
  unfold IsBlk; rw [Below.heap_alloc _ _ _ h.lt]; exact h
theorem IsBlk.below {w w' : World} {g B : Nat} {e : TypeId} {cs : List Value} (h : IsBlk w g e cs) (hb : Below B w w') (hg : g < B) : IsBlk w' g e cs := (hb.block g hg).trans h

/-- 'string(b)' of a slice over the first bytes of a block -/
theorem conv_blk {P : Program} {w : World} {src dst e : TypeId} (hs : P.underlying src = some (.slice e)) (he : P.underlying e = some (.int .u8)) (hd : P.underlying dst = some .string)
    {g : Nat} {e' : TypeId} {cs : List Value} {l : List UInt8} {n c : Nat} (h : IsBlk w g e' cs) (hc : ∃ more, cs = l.map byteV ++ more) (hn : l.length = n) : (convert src dst (.slice (some ⟨g, 0, none⟩) n c)).run P w = .ok (strV l) w := by
  subst hn
  obtain ⟨more, rfl⟩ := hc
  refine run_convert_bytes_back w src dst e _ c l hs he hd fun j hj => ?_
  rw [add_plain]
  exact h.cell (by rw [List.getElem?_append_left (by simpa using hj)]; simp [List.getElem?_eq_getElem hj, byteV])

theorem byteCells_eq (l : List UInt8) : Lib.byteCells l = l.map byteV := rfl

/-- 'copy(dst, s)' from a string that fits, dst a part of block g from place off on (where a byte goes over at all) -/
theorem wpList_copy_str {P : Program} {w : World} {ops : Array Oper} {rest : List Oper} {o : Oper} {a : Act} {Q : Exit → Act → World → Prop} (hgd : o.guard = none) (d s : Operand) (dT sT : TypeId)
    (ho : o.op = .call { callee := .builtin .copy, args := #[d, s], argTypes := #[dT, sT] }) (elem : TypeId) (hu : P.underlying dT = some (.slice elem)) (hsz : (P.info? elem).map (·.size) = some 1)
    (dp : Option Addr) (dLen dCap : Nat) (str : ByteArray) (hd : a.eval d = .slice dp dLen dCap) (hs : a.eval s = .string str)
    (g off : Nat) (cur : List Value) (t : TypeId) (hg : IsBlk w g t cur) (hle : str.size ≤ dLen) (hpos : 0 < str.size → dp = some ⟨g, off, none⟩)
    (hfit : off + str.size ≤ cur.length) (B : Nat) (w0 : World) (hb : Below B w0 w) (hBg : B ≤ g)
    (h : ∀ w', Hid (IsBlk w' g t (splice cur off (str.data.toList.map byteV))) → Hid (Below B w0 w') → wpList P ops Q rest (a.put o.dst (.int .i64 (str.size : Int))) w') :
    wpList P ops Q (o :: rest) a w := by
  have hlen : (str.data.toList.map byteV).length = str.size := by rw [List.length_map]; rfl
  refine wpList_plain hgd fun K hK => ?_
  by_cases h0 : str.size = 0
  · have hrun := Lib.run_copy_empty_string (P := P) w dT sT o.type elem dp dLen dCap str hu (by rw [hsz]; rfl) h0
    have hnil : str.data.toList.map byteV = [] := List.eq_nil_of_length_eq_zero (by rw [hlen, h0])
    have := h w (show IsBlk _ _ _ _ by rw [hnil]; simpa [splice] using hg) hb
    rw [h0] at this
    unfold Oper.wp
    simp [execOp, ho, resolve, invoke, builtin, hd, hs, hrun, Result.andThen]
    exact hK _ _ this
  · obtain rfl := hpos (by omega)
    have hrun := Lib.run_copy_row_string (P := P) w dT sT o.type elem g off dLen dCap str cur.toArray t hu hsz hg hle (by simpa using hfit)
    unfold Oper.wp
    simp [execOp, ho, resolve, invoke, builtin, hd, hs, hrun, Result.andThen]
    refine hK _ _ (h _ (show IsBlk _ _ _ _ from ?_) (show Below _ _ _ from below_setRow hb hBg _))
    have := setRow_heap w g cur.toArray (cur.toArray.toList.take off ++ Lib.byteCells str.data.toList ++ cur.toArray.toList.drop (off + str.size)).toArray t _ hg
    unfold IsBlk splice
    rw [hlen]
    simpa [byteCells_eq] using this

/-- bytes laid over zeros, right behind what is there -/
theorem splice_fill (a b : List UInt8) (n : Nat) (z : Value) : splice (a.map byteV ++ List.replicate n z) a.length (b.map byteV) = (a ++ b).map byteV ++ List.replicate (n - b.length) z := by
  unfold splice
  rw [List.take_left' (by simp), List.drop_append, List.drop_eq_nil_of_le (by simp)]
  simp
/-- a slice that fills its row owns the whole block -/
theorem blk_of_full {w : World} {base g n : Nat} {e : TypeId} {xs : List Value} (h : w.ownsRow base e 1 (.slice (some ⟨g, 0, none⟩) n n) n xs) : IsBlk w g e xs := by
  rcases h.2 with ⟨hv, _⟩ | ⟨g', cap, cur, hv, _, hg, _, _, hs, ht⟩
  · cases hv
  · simp only [Value.slice.injEq, Option.some.injEq, Addr.mk.injEq] at hv
    obtain ⟨⟨rfl, -⟩, -, rfl⟩ := hv
    rw [List.take_of_length_le (by simp [hs])] at ht
    unfold IsBlk; rw [hg, ← ht]
theorem madeCells_one (z : Value) (hz : z.cells = #[z]) (n : Nat) : (madeCells z.cells (n * 1)).toList = List.replicate n z := by
  rw [hz]
  apply List.ext_getElem
  · simp [madeCells]
  · intro i h1 h2
    simp [madeCells, Nat.mod_one]
/-- '+' on strings -/
theorem add_str {P : Program} (w : World) (a b : ByteArray) (h : a.size + b.size ≤ 4294967296) : (Op.stringOp .add a b).run P w = .ok (strV (a.data.toList ++ b.data.toList)) w := by
  rw [run_string_add_sum w a b (by omega)]
  congr 2
end Go.Proofs.YtloaeglmngcenaaGreatDoor
