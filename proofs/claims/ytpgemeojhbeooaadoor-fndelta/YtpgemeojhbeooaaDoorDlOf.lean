/-
  DeltaOf of the program.
-/
import Derived.Test.YtpgemeojhbeooaaDoorProg
import Derived.KernelRfl
import Derived.Test.YtpgemeojhbeooaaDoorDlRun
import Derived.Test.YtpgemeojhbeooaaDoorDlConv
import Derived.Test.YtpgemeojhbeooaaDoorDlPart
import Derived.Test.YtpgemeojhbeooaaDoorDlLaw
import Derived.OwnWalk
namespace Go.Proofs.YtpgemeojhbeooaaDoor
open Go.RowKit
open Bt (Dop dok)

set_option maxHeartbeats 1000000 in
theorem copying_op (f c : Int) (w : World) : Calls Tryd.prog 100 #[.agg #[.int .i64 f, .int .i64 c]] w fun e w' => e = .returned (dopV ⟨f, c, ⟨#[]⟩⟩) ∧ Below w.heap.size w w' := by
  go_enter Tryd.func100, Tryd.ntmps100
  go_wp2
  refine bodyPost_ret (v := dopV ⟨f, c, ⟨#[]⟩⟩) (by simp [results, Tryd.results100, go_sem]) rfl ⟨rfl, ?_⟩
  repeat (with_reducible refine Below.setCell ?_ ?_ _)
  all_goals first | exact ((Below.refl _ _).alloc (Nat.le_refl _) _).alloc (by simp) _ | (dsimp only; omega) | (simp; omega) | simp

set_option maxHeartbeats 1000000 in
theorem inserting_op (x : ByteArray) (w : World) (hx : x.size ≤ 200) : Calls Tryd.prog 102 #[.agg #[.string x]] w fun e w' => e = .returned (dopV ⟨0, 0, x⟩) ∧ Below w.heap.size w w' := by
  have hb0 : Below w.heap.size w ((w.alloc (.cells #[.string x] 104)).alloc (.cells #[.int .i64 0, .int .i64 0, .string ⟨#[]⟩] 41)) := ((Below.refl _ _).alloc (Nat.le_refl _) _).alloc (by simp) _
  have k0 := isBlk_new (w.alloc (.cells #[.string x] 104)) 41 [.int .i64 0, .int .i64 0, .string ⟨#[]⟩]
  rw [size_alloc] at k0
  have HB0 := Lib.hid hb0
  have HAS : Hid (∀ W : World, Calls Tryd.prog 39 #[.slice (some ⟨W.heap.size, 0, none⟩) 1 1] (W.alloc (.cells #[.string x] 9)) fun e w' => e = .returned (.string x) ∧ Below W.heap.size W w') := fun W => by
    have h := assemble_any [x] W.heap.size 0 1 _ (parts_one W 9 _) (by simp) (by simp) (by rw [flat_one, len_list]; omega)
    rw [flat_one] at h
    exact h.mono fun e w' ⟨he, hb⟩ => ⟨by rw [he]; unfold strV; rw [bstr_of], ((Below.refl _ _).alloc (Nat.le_refl _) _).trans (hb.mono (by simp))⟩
  clear hb0
  go_enter Tryd.func102, Tryd.ntmps102
  go_wp2_with fail
  have hz : ((w.alloc (.cells #[.string x] 104)).alloc (.cells #[.int .i64 0, .int .i64 0, .string ⟨#[]⟩] 41)).heap.size = w.heap.size + 1 + 1 := by simp
  change IsBlk ((w.alloc (.cells #[.string x] 104)).alloc (.cells #[.int .i64 0, .int .i64 0, .string ⟨#[]⟩] 41)) _ _ _ at k0
  generalize (w.alloc (.cells #[.string x] 104)).alloc (.cells #[.int .i64 0, .int .i64 0, .string ⟨#[]⟩] 41) = W at *
  rw [← hz]
  refine (HAS.out W).mono ?_
  rintro e w1 ⟨rfl, hb1⟩
  have HB1 : Hid (Below w.heap.size w w1) := HB0.out.trans (hb1.mono HB0.out.size)
  obtain ⟨d0, d1, d2, f0, f1, f2⟩ := blk3 (k0.below hb1 k0.lt)
  clear hb1 k0 hz
  go_wp2
  refine bodyPost_ret (v := dopV ⟨0, 0, x⟩) (by simp [results, Tryd.results102, go_sem, d0, d1, d2]) rfl ⟨rfl, ?_⟩
  repeat (with_reducible refine Below.setCell ?_ ?_ _)
  all_goals first | exact HB1.out | (dsimp only; omega)

theorem meth_op_cp (v : Value) (w : World) : (Go.method 273 84 v "loop.example/g00637/impl.op").run Tryd.prog w = .ok (100, v) w := by kernel_rfl
theorem meth_op_ins (v : Value) (w : World) : (Go.method 273 104 v "loop.example/g00637/impl.op").run Tryd.prog w = .ok (102, v) w := by kernel_rfl
/-- a step's operation, whichever it is -/
theorem step_op (o : Dop) (hd : dok o = true) :
    (∃ y, stepV o = .iface 104 y ∧ ∀ w, Calls Tryd.prog 102 #[y] w fun e w' => e = .returned (dopV o) ∧ Below w.heap.size w w') ∨
    (∃ y, stepV o = .iface 84 y ∧ ∀ w, Calls Tryd.prog 100 #[y] w fun e w' => e = .returned (dopV o) ∧ Below w.heap.size w w') := by
  rcases Bt.ok_cases hd with ⟨h0, h1, h2, h3⟩ | ⟨h1, h2, h3, h4⟩
  · refine .inl ⟨_, stepV_ins h0, fun w => ?_⟩
    have := inserting_op o.x w h3
    rwa [show (⟨0, 0, o.x⟩ : Dop) = o by obtain ⟨f, c, x⟩ := o; simp only at h0 h1; subst h0 h1; rfl] at this
  · refine .inr ⟨_, stepV_cp (by omega), fun w => ?_⟩
    have := copying_op o.f o.c w
    rwa [show (⟨o.f, o.c, ⟨#[]⟩⟩ : Dop) = o by obtain ⟨f, c, x⟩ := o; simp only at h4; rw [empty_of h4]] at this

/-- 's = append(s, x)' of one element of several cells, s the call's own -/
theorem wpList_append_kD {P : Program} {w0 wr : World} {ops : Array Oper} {rest : List Oper} {o : Oper} {a : Act} {Q : Exit → Act → World → Prop}
    (hgd : o.guard = none) (s x : Operand) (t e : TypeId) (i0 : TypeInfo) (z : Value) (size bytes : Nat) (ht : P.underlying t = some (.slice e)) (hi : P.info? e = some i0) (hz : i0.zero = some z) (hsize : i0.size = size) (hby : i0.bytes = bytes) (hzs : z.cells.size = size) (hsz : 0 < size)
    (ho : o.op = .call { callee := .builtin .append, args := #[s, x], argTypes := #[t, t] })
    {base n : Nat} {v : Value} {xs : List Value} (hown : wr.ownsRow base e size v n xs) (hbel : Below base w0 wr) (hbase : base ≤ wr.heap.size)
    {g0 : Nat} (hg0 : g0 = wr.heap.size) (hs : a.eval s = v) (hx : a.eval x = .slice (some ⟨g0, 0, none⟩) 1 1) (cs : List Value) {ar : Array Value} (har : ar = cs.toArray) (hcs : cs.length = size) (h1 : ∀ u ∈ cs, u.oneCell' = true) (hb1 : n + 1 ≤ 4294967296) (hb2 : bytes ≤ 64)
    (h : ∀ v' w', w'.ownsRow base e size v' (n + 1) (xs ++ cs) → Below base w0 w' → wpList P ops Q rest (a.put o.dst v') w') :
    wpList P ops Q (o :: rest) a (wr.alloc (.cells ar e)) := by
  subst har hg0
  refine wpList_append_own _ hgd s x t ho base e i0 z size bytes ht hi hz hsize hby hzs hsz v n xs hs (hown.alloc _) ⟨wr.heap.size, 0, none⟩ 1 1 cs hx (by omega) ?_ h1 ?_ ?_ ?_ ?_
  · intro j u hj
    rw [add_plain]
    exact (isBlk_new wr e cs).cell hj
  · unfold maxLen; omega
  · calc (n + 1) * bytes ≤ 4294967296 * 64 := Nat.mul_le_mul hb1 hb2
      _ ≤ 140737488355328 := by decide
  · simp; omega
  · intro v' w' ho' hg _
    exact h v' w' ho' ((hbel.alloc hbase _).grown hg (by simp; omega) fun k hk => (hown.lt k hk).1)
/-! operations appended one by one -/
def doA (Y : List Dop) : List Value := Y.flatMap dopC
theorem doA_snoc (Y : List Dop) (r : Dop) : doA (Y ++ [r]) = doA Y ++ dopC r := by simp [doA]
theorem doA_at (Y : List Dop) : ∀ i, i < Y.length * 3 → (doA Y)[i]? = some (dopF Y i) := by
  induction Y with
  | nil => intro i h; simp at h
  | cons r Y ih =>
    intro i h
    have e : doA (r :: Y) = dopC r ++ doA Y := by simp [doA]
    rw [e]
    by_cases h6 : i < 3
    · rw [List.getElem?_append_left (by simpa using h6)]
      unfold dopF
      rw [show i / 3 = 0 by omega, show i % 3 = i by omega]
      rw [List.getElem?_eq_getElem (by simpa using h6)]
      simp [List.getElem?_eq_getElem (show i < [Value.int .i64 r.f, .int .i64 r.c, .string r.x].length by simpa using h6)]
    · rw [List.getElem?_append_right (by simp; omega)]
      have hl : (dopC r).length = 3 := rfl
      rw [hl, ih (i - 3) (by simp at h; omega)]
      unfold dopF
      rw [show i / 3 = (i - 3) / 3 + 1 by omega, show i % 3 = (i - 3) % 3 by omega]
      rfl
theorem dopC_one (r : Dop) : ∀ u ∈ dopC r, u.oneCell' = true := by
  intro u hu
  simp only [dopC, List.mem_cons, List.not_mem_nil, or_false] at hu
  rcases hu with h | h | h <;> subst h <;> rfl
/-- a row of operations that is owned: the slice, and what it holds -/
theorem ow_of_ownD {w : World} {lo : Nat} {e : TypeId} {v : Value} {Y : List Dop} {n : Nat} (h : w.ownsRow lo e 3 v n (doA Y)) (hn : Y.length = n) : ∃ A ca, v = .slice A n ca ∧ OwDo w lo w.heap.size A n Y := by
  rcases h.2 with ⟨rfl, h0⟩ | ⟨g, cap, cur, rfl, hb, hh, hnc, -, hs, ht⟩
  · have hz : n = 0 := by first | exact h0 | (have := h.1; omega)
    subst hz
    exact ⟨none, 0, rfl, hn, fun h => absurd h (by omega)⟩
  · refine ⟨_, cap, rfl, hn, fun hp => ⟨g, rfl, hb, lt_of_block hh, e, cur, hh, ?_, fun i hi => ?_⟩⟩
    · rw [hs]; exact Nat.mul_le_mul_right _ hnc
    · rw [← doA_at Y i (by rw [hn]; exact hi), ← ht, List.getElem?_take_of_lt hi]
      simp
/-- an answer with operations, in memory of its own -/
def RetDO (w : World) (Y : List Dop) (code : Int) (e : Ending) (w' : World) : Prop :=
  ∃ (A : Option Addr) (ca : Nat), e = .returned (.agg #[.slice A Y.length ca, .int .i64 code]) ∧ OwDo w' w.heap.size w'.heap.size A Y.length Y ∧ Below w.heap.size w w'
end Go.Proofs.YtpgemeojhbeooaaDoor
