/-
  neededTest of the program.
-/
import Derived.Test.YtgkkkldajangeaaProg
import Derived.KernelRfl
import Derived.Test.YtgkkkldajangeaaHsNeed
import Derived.Test.YtgkkkldajangeaaHsTrailI
import Derived.Test.YtgkkkldajangeaaHsAsOf
namespace Go.Proofs.Ytgkkkldajangeaa
open Go.RowKit Go.Shelf
open Bt (Rc)
attribute [local go_sem] Oper.semAt_some

/-- the marks that ranges over a function leave among a function's deferred calls -/
def mkD (D : Nat) : Deferred := { target := .collected D, args := #[] }
structure MarkD (wr : World) (Ds : List Nat) : Prop where
  down : Ds.Pairwise (· > ·)
  held : ∀ D ∈ Ds, wr.heap[D]? = some (.deferred (some []))
theorem MarkD.lt {wr : World} {Ds : List Nat} (h : MarkD wr Ds) : ∀ D ∈ Ds, D < wr.heap.size := fun D hD => (Array.getElem?_eq_some_iff.1 (h.held D hD)).1
theorem leaves_marks {F : Fence} {n : Nat} {P : Program} {fn : Func} {tmps : Array Value} {R : Ending → World → Prop} : ∀ (Ds : List Nat) (w : World), MarkD w Ds →
    (∀ w' : World, w'.os = w.os → w'.tape = w.tape → w'.output = w.output → w'.heap.size = w.heap.size → (∀ k, k ∉ Ds → w'.heap[k]? = w.heap[k]?) → LeavesInM F n P fn tmps R [] .returning w') →
    LeavesInM F n P fn tmps R (Ds.map mkD) .returning w := by
  intro Ds
  induction Ds with
  | nil => intro w _ h; exact h w rfl rfl rfl rfl (fun _ _ => rfl)
  | cons D Ds ih =>
    intro w hM h
    have hD := hM.held D (List.mem_cons_self ..)
    refine ⟨by simp, .inl ⟨D, _, rfl, run_takeDeferred hD, ?_⟩⟩
    have hp := List.pairwise_cons.1 hM.down
    refine ih _ ⟨hp.2, fun D' hD' => ?_⟩ fun w' h1 h2 h3 h4 h5 => h w' h1 h2 h3 (by rw [h4]; simp) fun k hk => ?_
    · rw [World.putObj_heap_other (fun e => by have := hp.1 D' hD'; omega)]; exact hM.held D' (List.mem_cons_of_mem _ hD')
    · rw [h5 k (fun e => hk (List.mem_cons_of_mem _ e)), World.putObj_heap_other (fun e => hk (by rw [e]; exact List.mem_cons_self ..))]

theorem Fr.trans {B : Nat} {v v0 : Value} {w0 w w' : World} (h : Fr B v0 w0 w) (k : Fr B v w w') (hv : ∀ q, v.ownBlock = some q → v0.ownBlock = some q ∨ w0.heap.size ≤ q) : Fr B v0 w0 w' :=
  ⟨k.os.trans h.os, k.tape.trans h.tape, k.output.trans h.output, Nat.le_trans h.size k.size, fun j h1 h2 h3 => (k.block j (Nat.lt_of_lt_of_le h1 h.size) h2 (fun e => by rcases hv j e with h' | h'; exact h3 h'; omega)).trans (h.block j h1 h2 h3)⟩
theorem Fr.of_below {B : Nat} {v : Value} {w w' : World} (h : Below w.heap.size w w') : Fr B v w w' := ⟨h.os, h.tape, h.output, h.size, fun k hk _ _ => h.block k hk⟩

/-- what neededTest's loops keep: the list L in its box B4, the marks Ds; nothing else of wT has turned -/
structure NInv (B4 : Nat) (wT : World) (v : Value) (L : List Int) (Ds : List Nat) (wr : World) : Prop where
  box : IsBlk wr B4 82 [v]
  own : wr.ownsRow wT.heap.size 2 1 v L.length (L.map numV)
  fr : Fr B4 (.slice none 0 0) wT wr
  marks : MarkD wr Ds
  above : ∀ D ∈ Ds, wT.heap.size ≤ D
theorem NInv.row {B4 : Nat} {wT wr : World} {v : Value} {L : List Int} {Ds : List Nat} (h : NInv B4 wT v L Ds wr) : ∀ q, v.ownBlock = some q → wT.heap.size ≤ q ∧ q < wr.heap.size ∧ ∃ c t, wr.heap[q]? = some (.cells c t (0, 0)) := fun q hq => by
  have h1 := own_block_ltR h.own hq
  refine ⟨h1.1, h1.2, ?_⟩
  rcases h.own.2 with ⟨h0, -⟩ | ⟨g, cap, cur, hv, hb, hh, -⟩
  · rw [h0] at hq; cases hq
  · rw [hv] at hq; simp [Value.ownBlock] at hq; subst hq; exact ⟨cur, _, hh⟩
theorem NInv.below {B4 : Nat} {wT wr wr' : World} {v : Value} {L : List Int} {Ds : List Nat} (h : NInv B4 wT v L Ds wr) (hb : Below wr.heap.size wr wr') : NInv B4 wT v L Ds wr' :=
  ⟨h.box.below hb h.box.lt, own_belowR h.own hb, h.fr.trans (Fr.of_below (v := .slice none 0 0) hb) (fun q e => by cases e), ⟨h.marks.down, fun D hD => (hb.block D (h.marks.lt D hD)).trans (h.marks.held D hD)⟩, h.above⟩
theorem NInv.add {B4 : Nat} {wT wr wr' : World} {v v' : Value} {L L' : List Int} {Ds : List Nat} (h : NInv B4 wT v L Ds wr) (hk : IsBlk wr' B4 82 [v']) (ho : wr'.ownsRow wT.heap.size 2 1 v' L'.length (L'.map numV)) (hf : Fr B4 v wr wr') : NInv B4 wT v' L' Ds wr' := by
  refine ⟨hk, ho, h.fr.trans hf (fun q e => .inr (h.row q e).1), ⟨h.marks.down, fun D hD => ?_⟩, h.above⟩
  have hD' := h.marks.held D hD
  rw [hf.block D (h.marks.lt D hD) (fun e => ?_) (fun e => ?_)]
  · exact hD'
  · subst e; have hx := h.box; unfold IsBlk at hx; rw [hx] at hD'; cases hD'
  · obtain ⟨-, -, c, t, hc⟩ := h.row D e; rw [hc] at hD'; cases hD'
theorem own_keep {w w' : World} {base n size : Nat} {e : TypeId} {v : Value} {xs : List Value} (h : w.ownsRow base e size v n xs) (hb : ∀ g, v.ownBlock = some g → w'.heap[g]? = w.heap[g]?) : w'.ownsRow base e size v n xs := by
  rcases h.2 with ⟨rfl, rfl⟩ | ⟨g, cap, cur, rfl, hb', hh, r⟩
  · exact ⟨h.1, .inl ⟨rfl, rfl⟩⟩
  · exact ⟨h.1, .inr ⟨g, cap, cur, rfl, hb', (hb g rfl).trans hh, r⟩⟩
theorem NInv.grown {B4 B : Nat} {wT wr wr' : World} {v : Value} {L : List Int} {Ds : List Nat} {row : Option Nat} (h : NInv B4 wT v L Ds wr) (hg : wr.grownBy wr' row) (hr : ∀ r, row = some r → B ≤ r ∧ ∃ o : Obj, wr.heap[r]? = some o ∧ o.isCells = false) (hB : wT.heap.size ≤ B) (hD : ∀ D ∈ Ds, D < B) : NInv B4 wT v L Ds wr' := by
  refine ⟨h.box.kept hg (fun r e => (hr r e).2), own_keep h.own fun g hg' => ?_, ⟨hg.os.trans h.fr.os, hg.tape.trans h.fr.tape, hg.output.trans h.fr.output, Nat.le_trans h.fr.size hg.size, fun k h1 h2 h3 => ?_⟩, ⟨h.marks.down, fun D hD' => ?_⟩, h.above⟩
  · obtain ⟨-, hlt, c, t, hc⟩ := h.row g hg'
    refine hg.block g hlt fun e => ?_
    obtain ⟨-, o, ho, hc'⟩ := hr g e.symm
    rw [hc] at ho; cases ho; cases hc'
  · have hs := h.fr.size
    refine (hg.block k (by omega) fun e => ?_).trans (h.fr.block k h1 h2 h3)
    have := (hr k e.symm).1; omega
  · refine (hg.block D (h.marks.lt D hD') fun e => ?_).trans (h.marks.held D hD')
    have := (hr D e.symm).1; have := hD D hD'; omega
theorem NInv.keeps {B4 : Nat} {wT wr wr' : World} {v : Value} {L : List Int} {Ds : List Nat} (h : NInv B4 wT v L Ds wr) (hf : Fr B4 v wr wr') : KeepsOthers wr wr' := by
  refine ⟨hf.size, fun k o hk ho => ?_⟩
  rw [hf.block k (Array.getElem?_eq_some_iff.1 hk).1 (fun e => ?_) (fun e => ?_)]
  · exact hk
  · subst e; have hx := h.box; unfold IsBlk at hx; rw [hx] at hk; cases hk; cases ho
  · obtain ⟨-, -, c, t, hc⟩ := h.row k e; rw [hc] at hk; cases hk; cases ho
/-- Seqs in the trails of the first s sectors at time t -/
def SeenAt (X : List Rc) (t : Int) (s : Nat) (q : Int) : Prop := ∃ s', s' < s ∧ ∃ r ∈ trlR X (s' : Int) X.length t, r.q = q

set_option maxRecDepth 100000 in
set_option maxHeartbeats 8000000 in
theorem neededTest_any (A : Option Addr) (n ca : Nat) (X : List Rc) (w : World) (hr : hRight X = true) (hca : n ≤ ca) (hA : RdRc w w.heap.size A n X) :
    Calls Try.prog 69 #[.slice A n ca] w fun e w' => ∃ B3 B4 L, e = .returned (.func (.func 86) #[] #[.pointer (some ⟨B3, 0, none⟩), .pointer (some ⟨B4, 0, none⟩)]) ∧ Held w' B3 B4 (flR X) L ∧ (∀ q, q ∈ L ↔ Seen X (tmsTo X (floorR X) X.length) q) ∧ Below w.heap.size w w' := by
  have hn : n ≤ 48 := by rw [← hA.1]; exact hRight_len hr
  have HL := Lib.hid hA.1
  have HA := Lib.hid hA; have HR := Lib.hid hr; clear hA hr
  refine (callsIn_wide (n := 3)).1 ?_
  refine callsIn_of_wp_marks Try.func69 rfl trivial ?_ rfl
  simp only [Try.ntmps69, List.size_toArray, List.length_cons, List.length_nil, Nat.reduceAdd, Nat.reduceSub, Array.replicate_succ, Array.replicate_zero, List.push_toArray, List.append_toArray, List.nil_append, List.cons_append]
  gi_wp2_with fail
  refine ⟨trivial, ?_⟩
  refine (callsIn_wide.2 (floorRec_any A n ca X w (by omega) HA.out)).mono ?_
  rintro e w1 ⟨rfl, hb1⟩
  have HFL : Hid (flR X = floorRecTo X n) := by show floorRecTo X X.length = _; rw [HL.out]
  have HFO : Hid ((floorRecTo X n).o = floorR X) := by show _ = floorTo X X.length; rw [floorRecTo_o, HL.out]
  obtain ⟨fl, hfl⟩ : ∃ fl, fl = floorRecTo X n := ⟨_, rfl⟩
  rw [← hfl] at HFL HFO ⊢
  clear hfl
  have k3 := (isBlk_new w1 27 (recC fl)).alloc (.cells #[.slice none 0 0] 82)
  have k4 := isBlk_new (w1.alloc (.cells #[.int .i64 fl.k, .int .i64 fl.s, .int .i64 fl.q, .int .i64 fl.t, .int .i64 fl.o, .string fl.d] 27)) 82 [.slice none 0 0]
  have hb2 : Below w1.heap.size w1 ((w1.alloc (.cells #[.int .i64 fl.k, .int .i64 fl.s, .int .i64 fl.q, .int .i64 fl.t, .int .i64 fl.o, .string fl.d] 27)).alloc (.cells #[.slice none 0 0] 82)) := ((Below.refl _ _).alloc (Nat.le_refl _) _).alloc (by simp) _
  change IsBlk ((w1.alloc (.cells #[.int .i64 fl.k, .int .i64 fl.s, .int .i64 fl.q, .int .i64 fl.t, .int .i64 fl.o, .string fl.d] 27)).alloc (.cells #[.slice none 0 0] 82)) _ _ _ at k3 k4
  rw [size_alloc] at k4
  gi_wp2_with fail
  generalize (w1.alloc (.cells #[.int .i64 fl.k, .int .i64 fl.s, .int .i64 fl.q, .int .i64 fl.t, .int .i64 fl.o, .string fl.d] 27)).alloc (.cells #[.slice none 0 0] 82) = w2 at k3 k4 hb2 ⊢
  have HB2 := Lib.hid (hb1.trans (hb2.mono hb1.size))
  have h12 := hb1.size
  refine ⟨trivial, ?_⟩
  refine (callsIn_wide.2 (timesFrom_any A n ca X fl.o w2 HR.out (HA.out.next HB2.out))).mono ?_
  rintro e wT ⟨At, ct, rfl, hoT, hbT⟩
  obtain ⟨T, hT⟩ : ∃ T, T = tmsTo X fl.o n := ⟨_, rfl⟩
  have HT : Hid (T = tmsTo X (floorR X) X.length) := by show _ = _; rw [hT, HFO.out, HL.out]
  have hTl : T.length ≤ 49 := by rw [hT]; have := tmsTo_len X fl.o n; omega
  rw [← hT] at hoT ⊢
  clear hT
  obtain ⟨nt, hnt⟩ : ∃ nt, nt = T.length := ⟨_, rfl⟩
  rw [← hnt] at hoT hTl ⊢
  have HNT := Lib.hid hnt
  have HKT := Lib.hid (k3.below hbT k3.lt)
  have HK4 := Lib.hid (k4.below hbT k4.lt)
  have HBT := Lib.hid (HB2.out.trans (hbT.mono HB2.out.size))
  have HTN := Lib.hid hoT
  have h24 : w1.heap.size + 1 < w2.heap.size := k4.lt
  have h4T : w1.heap.size + 1 < wT.heap.size := HK4.out.lt
  have HLE := Lib.hid h12
  clear hnt k3 k4 hb1 hb2 hbT hoT
  gi_wp2
  have HN0 : Hid (NInv (w1.heap.size + 1) wT (.slice none 0 0) [] [] wT) := ⟨HK4.out, World.ownsRow_nil _ _ _ _, ⟨rfl, rfl, rfl, Nat.le_refl _, fun _ _ _ _ => rfl⟩, ⟨List.Pairwise.nil, fun D h => by cases h⟩, fun D h => by cases h⟩
  refine wpIn_loop (fun a' wr => ∃ (u6 u7 u17 u18 u19 u20 u21 u22 u23 u24 u25 u26 u31 u32 : Value) (j : Nat) (v : Value) (L : List Int) (Ds : List Nat), (j ≤ nt ∧ Srt L ∧ L.length ≤ 288 * j ∧ (∀ q, q ∈ L ↔ Seen X (T.take j) q) ∧ NInv (w1.heap.size + 1) wT v L Ds wr) ∧
      a' = { tmps := #[.slice A n ca, undef, .nilFunc, .pointer (some ⟨w1.heap.size, 0, none⟩), .pointer (some ⟨w1.heap.size + 1, 0, none⟩), undef, u6, u7, undef, .slice A n ca, recV fl, .slice A n ca, .pointer (some ⟨w1.heap.size, 4, none⟩), .int .i64 fl.o, .slice At nt ct, .int .i64 (nt : Int), .int .i64 (j : Int), u17, u18, u19, u20, u21, u22, u23, u24, u25, u26, undef, undef, undef, undef, u31, u32, undef], defers := Ds.map mkD }) (fun a' _ => nt - (intOf (a'.tmps.getD 16 undef)).toNat) ?_ ?_
  · exact ⟨_, _, _, _, _, _, _, _, _, _, _, _, _, _, 0, _, [], [], ⟨by omega, fun a b _ h => absurd h (by simp), by simp, fun q => ⟨fun h => absurd h (by simp), fun ⟨t, ht, _⟩ => by simp at ht⟩, HN0.out⟩, rfl⟩
  rintro a' wr ⟨u6, u7, u17, u18, u19, u20, u21, u22, u23, u24, u25, u26, u31, u32, j, v, L, Ds, ⟨hj, hS, hLl, hLm, hI⟩, rfl⟩
  have HS := Lib.hid hS; have HLM := Lib.hid hLm; have HI := Lib.hid hI
  clear hS hLm hI
  by_cases hjt : j < nt
  case neg =>
    obtain rfl : j = nt := by omega
    gi_wp2
    refine leaves_marks Ds wr HI.out.marks fun w' g1 g2 g3 g4 g5 => ?_
    refine ⟨_, results_tmp rfl _ _ _, ?_⟩
    have hfr := HI.out.fr
    have hno : ∀ (k : Nat) (c : Array Value) (t : TypeId), wr.heap[k]? = some (Obj.cells c t (0, 0)) → w'.heap[k]? = wr.heap[k]? := fun k c t hk => g5 k fun hk' => by
      have := HI.out.marks.held k hk'; rw [hk] at this; cases this
    have k3 : IsBlk wr w1.heap.size 27 (recC fl) := (hfr.block w1.heap.size (by omega) (by omega) (fun e => by cases e)).trans HKT.out
    obtain ⟨Av, cv, rfl⟩ := own_slice HI.out.own
    have ho' : w'.ownsRow wT.heap.size 2 1 (.slice Av L.length cv) L.length (L.map numV) := own_keep HI.out.own fun g hg => by
      obtain ⟨-, -, c, t, hc⟩ := HI.out.row g hg; exact hno g c t hc
    refine ⟨w1.heap.size, w1.heap.size + 1, L, rfl, ⟨?_, HS.out, by omega, Av, cv, (hno _ _ _ HI.out.box).trans HI.out.box, (owNs_of_own ho').rd (Nat.le_refl _)⟩, fun q => ?_, ?_⟩
    · rw [HFL.out]; exact (hno _ _ _ k3).trans k3
    · rw [HLM.out q, ← HT.out, HNT.out, List.take_length]
    · refine ⟨g1.trans (hfr.os.trans HBT.out.os), g2.trans (hfr.tape.trans HBT.out.tape), g3.trans (hfr.output.trans HBT.out.output), by have h1 := HBT.out.size; have h2 := hfr.size; omega, fun k hk => ?_⟩
      have hkT : k < wT.heap.size := by have := HBT.out.size; omega
      rw [g5 k (fun e => by have := HI.out.above k e; omega), hfr.block k hkT (by omega) (fun e => by cases e)]
      exact HBT.out.block k hk
  obtain ⟨gT, rfl, hgl, hgT, hrT⟩ := HTN.out.2 (by omega)
  have HCT : Hid (∀ wr' : World, Fr (w1.heap.size + 1) (.slice none 0 0) wT wr' → wr'.cell? ⟨gT, j, none⟩ = some (.int .i64 (T.getD j 0))) := fun wr' hf => by
    have h := hrT.cell hjt
    rw [World.cell?_of_block (a := ⟨gT, j, none⟩) (hf.block gT hgT (by omega) (fun e => by cases e))]
    exact h
  have hcT := HCT.out wr HI.out.fr
  obtain ⟨t, ht⟩ : ∃ t, t = T.getD j 0 := ⟨_, rfl⟩
  rw [← ht] at hcT
  have HTJ : Hid (∀ q, Seen X (T.take (j + 1)) q ↔ Seen X (T.take j) q ∨ SeenAt X t 6 q) := fun q => by
    rw [take_snoc' 0 (by rw [← HNT.out]; exact hjt), ← ht]
    constructor
    · rintro ⟨t', ht', s, hs, hx⟩
      rcases List.mem_append.1 ht' with h | h
      · exact .inl ⟨t', h, s, hs, hx⟩
      · rw [List.mem_singleton.1 h] at hx; exact .inr ⟨s, hs, hx⟩
    · rintro (⟨t', ht', s, hs, hx⟩ | ⟨s, hs, hx⟩)
      · exact ⟨t', List.mem_append.2 (.inl ht'), s, hs, hx⟩
      · exact ⟨t, List.mem_append.2 (.inr (List.mem_singleton.2 rfl)), s, hs, hx⟩
  clear hrT ht
  gi_wp2
  clear hcT
  refine wpIn_loop (fun a' wx => ∃ (u7 u21 u22 u23 u24 u25 u26 u31 : Value) (s : Nat) (v : Value) (L : List Int) (Ds : List Nat), (s ≤ 6 ∧ Srt L ∧ L.length ≤ 288 * j + 48 * s ∧ (∀ q, q ∈ L ↔ Seen X (T.take j) q ∨ SeenAt X t s q) ∧ NInv (w1.heap.size + 1) wT v L Ds wx) ∧
      a' = { tmps := #[.slice A n ca, undef, .nilFunc, .pointer (some ⟨w1.heap.size, 0, none⟩), .pointer (some ⟨w1.heap.size + 1, 0, none⟩), undef, .int .i64 t, u7, undef, .slice A n ca, recV fl, .slice A n ca, .pointer (some ⟨w1.heap.size, 4, none⟩), .int .i64 fl.o, .slice (some ⟨gT, 0, none⟩) nt ct, .int .i64 (nt : Int), .int .i64 (j : Int), .bool true, .pointer (some ⟨gT, j, none⟩), .int .i64 t, .int .i64 (s : Int), u21, u22, u23, u24, u25, u26, undef, undef, undef, undef, u31, u32, undef], defers := Ds.map mkD }) (fun a' _ => 6 - (intOf (a'.tmps.getD 20 undef)).toNat) ?_ ?_
  · exact ⟨_, _, _, _, _, _, _, _, 0, v, L, Ds, ⟨by omega, HS.out, by omega, fun q => ⟨fun h => .inl ((HLM.out q).1 h), fun h => by
      rcases h with h | ⟨s', h, -⟩
      · exact (HLM.out q).2 h
      · omega⟩, HI.out⟩, rfl⟩
  clear HS HLM HI hLl
  obtain ⟨wz, hwz⟩ : ∃ wz, wz = wr := ⟨_, rfl⟩
  clear hwz
  rintro a' wr ⟨u7, u21, u22, u23, u24, u25, u26, u31, s, v, L, Ds, ⟨hs, hS, hLl, hLm, hI⟩, rfl⟩
  have HS := Lib.hid hS; have HLM := Lib.hid hLm; have HI := Lib.hid hI
  clear hS hLm hI
  by_cases hs6 : s < 6
  case neg =>
    obtain rfl : s = 6 := by omega
    gi_wp2
    refine ⟨⟨_, _, _, _, _, _, _, _, _, _, _, _, _, _, j + 1, v, L, Ds, ⟨by omega, HS.out, by omega, fun q => (HLM.out q).trans (HTJ.out q).symm, HI.out⟩, rfl⟩, ?_⟩
    simp [intOf]; omega
  have hs0 : (s : Int) < 6 := by omega
  gi_wp2_with fail
  refine ⟨trivial, ?_⟩
  refine (callsIn_wide.2 (trailOf_any A n ca (s : Int) t wr)).mono ?_
  rintro e w3 ⟨rfl, rfl⟩
  have b0 := ((Boxed.new wr 23 (.slice A n ca)).alloc (.cells #[.int .i64 (s : Int)] 2)).alloc (.cells #[.int .i64 t] 2)
  have b1 := (Boxed.new (wr.alloc (.cells #[.slice A n ca] 23)) 2 (.int .i64 (s : Int))).alloc (.cells #[.int .i64 t] 2)
  have b2 := Boxed.new ((wr.alloc (.cells #[.slice A n ca] 23)).alloc (.cells #[.int .i64 (s : Int)] 2)) 2 (.int .i64 t)
  have hb3 : Below wr.heap.size wr (((wr.alloc (.cells #[.slice A n ca] 23)).alloc (.cells #[.int .i64 (s : Int)] 2)).alloc (.cells #[.int .i64 t] 2)) := (((Below.refl _ _).alloc (Nat.le_refl _) _).alloc (by simp) _).alloc (by simp; omega) _
  have hs3 : (((wr.alloc (.cells #[.slice A n ca] 23)).alloc (.cells #[.int .i64 (s : Int)] 2)).alloc (.cells #[.int .i64 t] 2)).heap.size = wr.heap.size + 3 := by simp
  simp only [World.size_alloc] at b1 b2
  generalize ((wr.alloc (.cells #[.slice A n ca] 23)).alloc (.cells #[.int .i64 (s : Int)] 2)).alloc (.cells #[.int .i64 t] 2) = W0 at b0 b1 b2 hb3 hs3 ⊢
  have hI0 := HI.out.below hb3
  have hrow0 : ∀ q, v.ownBlock = some q → q < wr.heap.size := fun q hq => (HI.out.row q hq).2.1
  have hDs : ∀ D ∈ Ds, D < wr.heap.size := HI.out.marks.lt
  have hTr : wT.heap.size ≤ wr.heap.size := HI.out.fr.size
  have hnw : w.heap.size ≤ wT.heap.size := HBT.out.size
  have hR0 : RdRc W0 w.heap.size A n X := by
    have h1 := HA.out.below HBT.out
    refine (h1.below ⟨HI.out.fr.os, HI.out.fr.tape, HI.out.fr.output, HI.out.fr.size, fun k hk => HI.out.fr.block k (by omega) (by omega) (fun e => by cases e)⟩).below (hb3.mono (by omega))
  have h3 : wr.heap.size + 3 ≤ W0.heap.size := by omega
  clear hs3 hb3
  gi_wp2
  refine wpIn_rangeFunc_ownH rfl (by omega) (gf := 80) (lb := #[.pointer (some ⟨wr.heap.size, 0, none⟩), .pointer (some ⟨wr.heap.size + 1 + 1, 0, none⟩), .pointer (some ⟨wr.heap.size + 1, 0, none⟩)]) rfl trivial (enters_of Try.func80 (by kernel_rfl) rfl)
    (trail_stops _ (by omega) wr.heap.size (wr.heap.size + 1 + 1) (wr.heap.size + 1) w.heap.size A n ca X (s : Int) t W0 (by omega) hca (by omega) (by omega) (by omega) b0.cell b2.cell b1 hR0) KpB.t (KpB.b (by omega) (by omega)) (Below.refl _ _) (fun _ => rfl)
    (fun pre W => ∃ v' L', ((Srt L' ∧ L'.length ≤ L.length + pre.length ∧ (∀ q, q ∈ L' ↔ q ∈ L ∨ ∃ r ∈ pre, r.q = q)) ∧ NInv (w1.heap.size + 1) wT v' L' Ds W) ∧ ((∀ q, v'.ownBlock = some q → q < wr.heap.size ∨ W0.heap.size ≤ q) ∧ W0.heap.size ≤ W.heap.size))
    (fun _ _ _ => False)
    (fun pre W W' row hx hg hr => by obtain ⟨v', L', ⟨g1, g2⟩, g3, g4⟩ := hx; exact ⟨v', L', ⟨g1, g2.grown hg hr (by omega) (fun D hD => by have := hDs D hD; omega)⟩, g3, Nat.le_trans g4 hg.size⟩)
    (fun _ _ _ _ _ hs _ _ => hs)
    ⟨v, L, ⟨⟨HS.out, by simp, fun q => ⟨.inl, fun h => by rcases h with h | ⟨r, hr, -⟩; exact h; cases hr⟩⟩, hI0⟩, fun q hq => .inl (hrow0 q hq), Nat.le_refl _⟩
    (fun x a' W => ∃ Bx, W0.heap.size ≤ Bx ∧ IsBlk W Bx 27 (recC x) ∧ a' = { tmps := #[.slice A n ca, undef, .nilFunc, .pointer (some ⟨w1.heap.size, 0, none⟩), .pointer (some ⟨w1.heap.size + 1, 0, none⟩), undef, .int .i64 t, .int .i64 (s : Int), .pointer (some ⟨Bx, 0, none⟩), .slice A n ca, recV fl, .slice A n ca, .pointer (some ⟨w1.heap.size, 4, none⟩), .int .i64 fl.o, .slice (some ⟨gT, 0, none⟩) nt ct, .int .i64 (nt : Int), .int .i64 (j : Int), .bool true, .pointer (some ⟨gT, j, none⟩), .int .i64 t, .int .i64 (s : Int), .bool true, .int .i64 (s : Int), .slice A n ca, .int .i64 (s : Int), .int .i64 t, .func (.func 80) #[] #[.pointer (some ⟨wr.heap.size, 0, none⟩), .pointer (some ⟨wr.heap.size + 1 + 1, 0, none⟩), .pointer (some ⟨wr.heap.size + 1, 0, none⟩)], recV x, undef, undef, undef, u31, u32, undef], defers := [] })
    (fun x a' _ X' Y row hs hg hr => by obtain ⟨Bx, h1, h2, h3⟩ := hs; exact ⟨Bx, h1, h2.kept hg (fun r e => (hr r e).2), h3⟩)
    ?assign ?body ?done ?stop
  case assign =>
    rintro l pre x W K ⟨v', L', ⟨g1, g2⟩, g3, g4⟩ hK
    gi_wp2
    exact hK _ _ ((KeepsOthers.alloc _ _).from _) ⟨(Below.refl _ W).alloc (by omega) _, Below.heap_alloc _ _ _ (by omega)⟩ ⟨v', L', ⟨g1, g2.below ((Below.refl _ _).alloc (Nat.le_refl _) _)⟩, g3, by simp; omega⟩ ⟨W.heap.size, g4, isBlk_new W 27 (recC x), rfl⟩
  case body =>
    rintro l pre x a' W hl ⟨r, hr⟩ ⟨v', L', ⟨⟨g1, g1', g1''⟩, g2⟩, g3, g4⟩ ⟨Bx, hBx, kX, rfl⟩ hlt
    obtain ⟨x0, x1, x2, x3, x4, x5⟩ := rcCells kX
    have G1 := Lib.hid g1; have G1'' := Lib.hid g1''; have G2 := Lib.hid g2; have G3 := Lib.hid g3
    have hpl : pre.length ≤ 48 := by omega
    clear g1 g1'' g2 g3
    gi_wp2_with fail
    refine ⟨trivial, ?_⟩
    refine (CallsIn.inRound l (callsIn_wide.2 (add_any (w1.heap.size + 1) v' wT.heap.size L' x.q W (by omega) (by omega) (by omega) G1.out G2.out.box G2.out.own))).mono ?_
    rintro e W' ⟨rv, v2, L2, rfl, had, hbl, how, hfr, hmv⟩
    obtain ⟨hs2, hm2⟩ := added_srt G1.out had
    have hl2 := added_len had
    have hn2 := G2.out.add hbl how hfr
    have hkp := G2.out.keeps hfr
    gi_wp2
    refine ⟨hkp.from _, ⟨⟨hfr.os, hfr.tape, hfr.output, hfr.size, fun k hk => hfr.block k (by omega) (by omega) (fun e => by have := (G2.out.row k e).1; omega)⟩, hfr.block (wr.heap.size + 1) (by omega) (by omega) (fun e => by rcases G3.out _ e with h | h <;> omega)⟩, v2, L2, ⟨⟨hs2, by rw [List.length_append]; simp; omega, fun q => ?_⟩, hn2⟩, fun q hq => ?_, Nat.le_trans g4 hfr.size⟩
    · rw [hm2 q, G1''.out q]
      constructor
      · rintro (h | h | ⟨r', h, h'⟩)
        · exact .inr ⟨x, by simp, h.symm⟩
        · exact .inl h
        · exact .inr ⟨r', by simp [h], h'⟩
      · rintro (h | ⟨r', h, h'⟩)
        · exact .inr (.inl h)
        · rcases List.mem_append.1 h with h | h
          · exact .inr (.inr ⟨r', h, h'⟩)
          · rw [List.mem_singleton.1 h] at h'; exact .inl h'.symm
    · rcases hmv q hq with h | h
      · exact G3.out q h
      · right; omega
  case done =>
    rintro D ys W hD rfl ⟨v', L', ⟨⟨g1, g1', g1''⟩, g2⟩, g3, g4⟩ hK
    have hyl := trlR_len X (s : Int) n t
    have G1 := Lib.hid g1; have G1'' := Lib.hid g1''
    have G5 : Hid (NInv (w1.heap.size + 1) wT v' L' (D :: Ds) W) := ⟨g2.box, g2.own, g2.fr, ⟨List.pairwise_cons.2 ⟨fun D' hD' => by have := hDs D' hD'; show D > D'; omega, g2.marks.down⟩, fun D' hD' => by
      rcases List.mem_cons.1 hD' with rfl | h
      · exact hK
      · exact g2.marks.held D' h⟩, fun D' hD' => by
      rcases List.mem_cons.1 hD' with rfl | h
      · omega
      · exact g2.above D' h⟩
    clear g1 g1'' g2 g3 hK
    gi_wp2
    refine ⟨⟨_, _, _, _, _, _, _, _, s + 1, v', L', D :: Ds, ⟨by omega, G1.out, by omega, fun q => ?_, G5.out⟩, rfl⟩, ?_⟩
    · rw [G1''.out q, HLM.out q]
      constructor
      · rintro ((h | ⟨s', h1, h2⟩) | ⟨r', h1, h2⟩)
        · exact .inl h
        · exact .inr ⟨s', by omega, h2⟩
        · exact .inr ⟨s, by omega, r', by rw [HL.out]; exact h1, h2⟩
      · rintro (h | ⟨s', h1, r', h2, h3⟩)
        · exact .inl (.inl h)
        · by_cases e : s' = s
          · subst e; rw [HL.out] at h2; exact .inr ⟨r', h2, h3⟩
          · exact .inl (.inr ⟨s', by omega, r', h2, h3⟩)
    · simp [intOf]; omega
  case stop =>
    rintro D c pre W _ _ h _
    exact h.elim
end Go.Proofs.Ytgkkkldajangeaa
