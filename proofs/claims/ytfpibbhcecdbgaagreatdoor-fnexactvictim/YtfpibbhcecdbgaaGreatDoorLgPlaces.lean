/-
  placesBySeq and Places, of the program.
-/
import Derived.Test.YtfpibbhcecdbgaaGreatDoorProg
import Derived.KernelRfl
import Derived.Test.YtfpibbhcecdbgaaGreatDoorLgRecs
import Derived.Test.YtfpibbhcecdbgaaGreatDoorLgRegion
import Derived.Test.YtfpibbhcecdbgaaGreatDoorHsNum
import Derived.Test.YtfpibbhcecdbgaaGreatDoorNdUse
import Derived.RangeFuncBox
import Derived.Maps.OwnIn
import Derived.Maps.GroupsBeside
import Derived.Maps.Views
namespace Go.Proofs.YtfpibbhcecdbgaaGreatDoor
open Go.RowKit Go.Shelf Go.ChangeShapes
open Bt (Rc)
attribute [local go_sem] Oper.semAt_some

/-- the places of a Seq -/
def plc (R : List (Int × Rc)) (q : Int) : List Int := (R.filter (fun x => x.2.q == q)).map (·.1)
theorem plc_same {R : List (Int × Rc)} {x : Int × Rc} : plc (R ++ [x]) x.2.q = plc R x.2.q ++ [x.1] := by simp [plc]
theorem plc_other {R : List (Int × Rc)} {x : Int × Rc} {q : Int} (h : q ≠ x.2.q) : plc (R ++ [x]) q = plc R q := by
  simp [plc, Ne.symm h]
theorem plc_len (R : List (Int × Rc)) (q : Int) : (plc R q).length ≤ R.length := by
  unfold plc; rw [List.length_map]; exact List.length_filter_le _ _
/-- a row of numbers as a datum: nil where there are none -/
def rowOf : List Int → DataW Unit
  | [] => .nil
  | l => .slice (lits .i64 l) []
theorem rowOf_snoc (l : List Int) (x : Int) : rowOf (l ++ [x]) = .slice (lits .i64 (l ++ [x])) [] := by cases l <;> rfl
theorem lits_inj {q : IntKind} {a b : List Int} (h : (lits q a : List (DataW Unit)) = lits q b) : a = b := by
  unfold lits at h
  exact (List.map_inj_right (fun x y hxy => by cases hxy; rfl)).1 h
/-- what a slice of the map owns is the row that the datum tells -/
theorem row_is {w : World} {base : Nat} {e : TypeId} {v : Value} {zs l : List Int} (ho : w.ownsInts base e .i64 v zs) (h : rowOf l = rowDatum .i64 v zs) : zs = l := by
  rcases ho.datum (H := Unit) with ⟨h1, h2⟩ | h1
  · rw [h1] at h
    cases l with
    | nil => exact h2
    | cons a l => cases h
  · rw [h1] at h
    cases l with
    | nil => cases h
    | cons a l => simp only [rowOf, DataW.slice.injEq] at h; exact (lits_inj h.1).symm
theorem zeroRow (w : World) : (zeroValue 79).run Tryz.prog w = .ok (.slice none 0 0) w := by kernel_rfl
theorem info_i64 : (Tryz.prog.info? 2).map (fun i => (i.zero, i.size, i.bytes)) = some (some (.int .i64 0), 1, 8) := by kernel_rfl
/-- the map holds the places of each Seq -/
def Tells (D : DataW Unit) (R : List (Int × Rc)) : Prop := Maps.IsMap D ∧ ∀ q, D.atKey (.int .i64 q) .nil = rowOf (plc R q)
theorem tells_none : Tells (.map []) [] := ⟨Maps.isMap_empty, fun _ => rfl⟩
theorem Tells.put {D : DataW Unit} {R : List (Int × Rc)} (h : Tells D R) (x : Int × Rc) : Tells (D.put (.int .i64 x.2.q) (.slice (lits .i64 (plc R x.2.q ++ [x.1])) [])) (R ++ [x]) := by
  refine ⟨h.1.put _ _, fun q => ?_⟩
  by_cases e : q = x.2.q
  · subst e
    rw [Maps.atKey_put_same h.1 (show WideAt.IsKeyLit (.int .i64 x.2.q) from trivial), plc_same, rowOf_snoc]
  · rw [Maps.atKey_put_other (by simpa using e), h.2 q, plc_other e]
/-- a map of rows through what others do -/
theorem groups_kept {w w' : World} {row : Option Nat} {P : Program} {k e : TypeId} {base b n : Nat} {D : DataW Unit} (h : w.ownsGroups P k base e .i64 b n D) (hg : w.grownBy w' row) (hb : some b ≠ row) (hr : ∀ r, row = some r → ∃ o : Obj, w.heap[r]? = some o ∧ o.isCells = false) : w'.ownsGroups P k base e .i64 b n D := by
  have h' := h
  refine h.kept hg hb (fun es clock hbb x hx => ?_)
  obtain ⟨es', clock', hb', F, -⟩ := h'
  obtain ⟨rfl, rfl⟩ : es' = es ∧ clock' = clock := by rw [hb'] at hbb; simpa using hbb
  obtain ⟨y, hy⟩ := F.reads x hx
  obtain ⟨z, hz, _⟩ := WideElems.rd_val hy
  obtain ⟨zs, hoi, _⟩ := rowElem_inv hz
  rcases hoi.1.2 with ⟨hv, -⟩ | ⟨g, cap, cur, hv, -, hgb, -⟩
  · rw [hv]; exact .inl rfl
  · refine .inr fun e' => ?_
    obtain ⟨o, ho, hc⟩ := hr g (by rw [hv] at e'; simpa [Value.ownBlock] using e'.symm)
    rw [hgb] at ho; cases ho; cases hc

theorem groups_alloc {w : World} {P : Program} {k e : TypeId} {base b n : Nat} {D : DataW Unit} (h : w.ownsGroups P k base e .i64 b n D) (o : Obj) : (w.alloc o).ownsGroups P k base e .i64 b n D :=
  groups_kept h (World.grownBy_alloc _ _ none) (by simp) (fun r e => by cases e)
theorem groups_drew {w : World} {P : Program} {k e : TypeId} {base b n : Nat} {D : DataW Unit} (h : w.ownsGroups P k base e .i64 b n D) : w.drew.ownsGroups P k base e .i64 b n D :=
  groups_kept h (gby_below ((Below.refl _ _).drew)) (by simp) (fun r e => by cases e)
/-- what a round of the map leaves as it was -/
theorem groups_others {W U w1 w2 : World} {base b : Nat} {v : Value} {zs : List Int} (hU : Below W.heap.size W U) (hoi : U.ownsInts base 2 .i64 v zs) (hg1 : U.grownBy w1 v.ownBlock) (hg2 : w1.grownBy w2 (some b)) (j : Nat) (o : Obj) (hj : W.heap[j]? = some o) (ho : ∀ c r, o ≠ .cells c 2 r) (hb : j ≠ b) : w2.heap[j]? = some o := by
  have hlt := lt_of_block hj
  have h1 : U.heap[j]? = some o := (hU.block j hlt).trans hj
  have h2 : w1.heap[j]? = some o := by
    refine (hg1.block j (lt_of_block h1) (fun e => ?_)).trans h1
    rcases hoi.1.2 with ⟨hv, -⟩ | ⟨g, cap, cur, hv, -, hgb, -⟩
    · rw [hv] at e; cases e
    · rw [hv] at e
      have e' : j = g := by simpa [Value.ownBlock] using e
      subst e'
      rw [h1] at hgb
      exact ho _ _ (Option.some.inj hgb)
  exact (hg2.block j (lt_of_block h2) (fun e => hb (by simpa using e))).trans h2
theorem groups_step {W U w1 w2 : World} {n₀ bs B S base b : Nat} {v vb vn : Value} {zs : List Int} (hU : Below W.heap.size W U) (hoi : U.ownsInts base 2 .i64 v zs) (hg1 : U.grownBy w1 v.ownBlock) (hg2 : w1.grownBy w2 (some b))
    (hn : n₀ ≤ W.heap.size) (hnb : n₀ ≤ base) (hn0 : n₀ ≤ b) (hbS : b < S) (hm : ∃ es ck, W.heap[b]? = some (.map es ck)) (hbs : Boxed W bs 28 vn) (hbx : Boxed W B 156 vb) :
    KpR n₀ bs W w2 ∧ KeepsFrom S W w2 ∧ Boxed w2 B 156 vb := by
  obtain ⟨es, ck, hm⟩ := hm
  have hne : ∀ (j : Nat) (c : Array Value) (t : TypeId) (r : Nat × Nat), W.heap[j]? = some (.cells c t r) → j ≠ b := fun j c t r h e => by subst e; rw [hm] at h; cases h
  refine ⟨⟨?_, ?_, ?_⟩, ⟨?_, ?_⟩, ?_⟩
  · exact ((hU.mono hn).grown hg1 (Nat.le_trans hn hU.size) (fun k e => Nat.le_trans hnb (hoi.1.lt k e).1)).grown hg2 (Nat.le_trans hn (Nat.le_trans hU.size hg1.size)) (fun k e => by cases e; exact hn0)
  · have h : W.heap[bs]? = some (.cells #[vn] 28 (0, 0)) := hbs
    rw [h]
    exact groups_others hU hoi hg1 hg2 bs _ h (fun c r e => by cases e) (hne _ _ _ _ h)
  · intro j c r h
    rw [h]
    exact groups_others hU hoi hg1 hg2 j _ h (fun c r e => by cases e) (hne _ _ _ _ h)
  · exact Nat.le_trans hU.size (Nat.le_trans hg1.size hg2.size)
  · intro k o hB hk ho
    exact groups_others hU hoi hg1 hg2 k _ hk (fun c r e => by subst e; cases ho) (by omega)
  · have h : W.heap[B]? = some (.cells #[vb] 156 (0, 0)) := hbx
    exact groups_others hU hoi hg1 hg2 B _ h (fun c r e => by cases e) (hne _ _ _ _ h)

/-- what a round has done of 'places[r.Seq] = append(places[r.Seq], place)' -/
def PlDone (W : World) (base b m : Nat) (D : DataW Unit) (q p : Int) (t : Obj) (L : Array Bool) (s17 s20 : Value) (w : World) : Prop :=
  (¬ Dn L 6 ∧ ¬ Dn L 9 ∧ ¬ Dn L 10 ∧ ((¬ Dn L 8 ∧ w = W.drew) ∨ (Dn L 8 ∧ w = W.drew.alloc t))) ∨
  (Dn L 6 ∧ ¬ Dn L 9 ∧ ¬ Dn L 10 ∧ ((¬ Dn L 8 ∧ w = W.drew) ∨ (Dn L 8 ∧ w = W.drew.alloc t)) ∧
    ∃ V zs, Below W.heap.size W V ∧ V.grownBy w s17.ownBlock ∧ V.ownsInts base 2 .i64 s17 zs ∧ w.ownsInts base 2 .i64 s17 zs ∧ D.atKey (.int .i64 q) .nil = rowDatum .i64 s17 zs ∧ zs.length ≤ m ∧ V.groupBack Tryz.prog 156 2 base 2 .i64 b m D (.int .i64 q) (.int .i64 q) s17) ∨
  (Dn L 9 ∧ ¬ Dn L 10 ∧ ∃ V v zs, Below W.heap.size W V ∧ V.grownBy w v.ownBlock ∧ V.ownsInts base 2 .i64 v zs ∧ w.ownsInts base 2 .i64 s20 (zs ++ [p]) ∧ D.atKey (.int .i64 q) .nil = rowDatum .i64 v zs ∧ zs.length ≤ m ∧ V.groupBack Tryz.prog 156 2 base 2 .i64 b m D (.int .i64 q) (.int .i64 q) v ∧
    (s20.ownBlock = v.ownBlock ∨ ∃ g, s20.ownBlock = some g ∧ V.heap.size ≤ g)) ∨
  (Dn L 10 ∧ ∃ V v zs w1, Below W.heap.size W V ∧ V.grownBy w1 v.ownBlock ∧ V.ownsInts base 2 .i64 v zs ∧ w1.grownBy w (some b) ∧ D.atKey (.int .i64 q) .nil = rowDatum .i64 v zs ∧ w.ownsGroups Tryz.prog 2 base 2 .i64 b (m + 1) (D.put (.int .i64 q) (.slice (lits .i64 (zs ++ [p])) [])))
def PlInv (Fr : Value → Value → Value → Value → Value → Value → Value → Value → Value → Value → Act) (W : World) (Bx base b m : Nat) (D : DataW Unit) (q p : Int) (t : Obj) (L : Array Bool) (a : Act) (w : World) : Prop :=
  L.size = 11 ∧ (Dn L 10 → ∀ j, j < 10 → Dn L j) ∧ (Dn L 9 → Dn L 6 ∧ Dn L 8) ∧ ∃ s11 s12 s13 s14 s15 s16 s17 s18 s19 s20, a = Fr s11 s12 s13 s14 s15 s16 s17 s18 s19 s20 ∧
    (Dn L 0 → s11 = .map (some b)) ∧ (Dn L 1 → s12 = .pointer (some ⟨Bx, 2, none⟩)) ∧ (Dn L 2 → s13 = .int .i64 q) ∧ (Dn L 3 → s14 = .map (some b)) ∧ (Dn L 4 → s15 = .pointer (some ⟨Bx, 2, none⟩)) ∧ (Dn L 5 → s16 = .int .i64 q) ∧
    (Dn L 7 → s18 = .int .i64 p) ∧ (Dn L 8 → s19 = .slice (some ⟨W.heap.size, 0, none⟩) 1 1) ∧ PlDone W base b m D q p t L s17 s20 w
/-- a block of another kind through all but the last step -/
theorem PlDone.old {W w : World} {base b m : Nat} {D : DataW Unit} {q p : Int} {t : Obj} {L : Array Bool} {s17 s20 : Value} (h : PlDone W base b m D q p t L s17 s20 w) (hn : ¬ Dn L 10) (j : Nat) (o : Obj) (hj : W.heap[j]? = some o) (ho : ∀ c r, o ≠ .cells c 2 r) : w.heap[j]? = some o := by
  have hlt := lt_of_block hj
  have hA : W.drew.heap[j]? = some o := hj
  have hB : (W.drew.alloc t).heap[j]? = some o := (Below.heap_alloc _ _ _ hlt).trans hj
  rcases h with ⟨-, -, -, h⟩ | ⟨-, -, -, h, -⟩ | ⟨-, -, V, v, zs, hV, hg, hoi, -⟩ | ⟨h, -⟩
  · rcases h with ⟨-, rfl⟩ | ⟨-, rfl⟩
    · exact hA
    · exact hB
  · rcases h with ⟨-, rfl⟩ | ⟨-, rfl⟩
    · exact hA
    · exact hB
  · have h1 : V.heap[j]? = some o := (hV.block j hlt).trans hj
    refine (hg.block j (lt_of_block h1) (fun e => ?_)).trans h1
    rcases hoi.1.2 with ⟨hv, -⟩ | ⟨g, cap, cur, hv, -, hgb, -⟩
    · rw [hv] at e; cases e
    · rw [hv] at e
      have e' : j = g := by simpa [Value.ownBlock] using e
      subst e'
      rw [h1] at hgb
      exact ho _ _ (Option.some.inj hgb)
  · exact absurd h hn
/-- steps that only read -/
theorem PlDone.still {W w : World} {base b m : Nat} {D : DataW Unit} {q p : Int} {t : Obj} {L : Array Bool} {s17 s20 : Value} (h : PlDone W base b m D q p t L s17 s20 w) {i : Nat} (h6 : i ≠ 6) (h8 : i ≠ 8) (h9 : i ≠ 9) (h10 : i ≠ 10) : PlDone W base b m D q p t (L.setIfInBounds i true) s17 s20 w := by
  have k8 : ((¬ Dn L 8 ∧ w = W.drew) ∨ (Dn L 8 ∧ w = W.drew.alloc t)) → ((¬ Dn (L.setIfInBounds i true) 8 ∧ w = W.drew) ∨ (Dn (L.setIfInBounds i true) 8 ∧ w = W.drew.alloc t)) :=
    fun h => h.imp (fun ⟨a, b⟩ => ⟨Dn.other (Ne.symm h8) a, b⟩) (fun ⟨a, b⟩ => ⟨a.stay, b⟩)
  rcases h with ⟨a6, a9, a10, h⟩ | ⟨a6, a9, a10, h, r⟩ | ⟨a9, a10, r⟩ | ⟨a10, r⟩
  · exact .inl ⟨Dn.other (Ne.symm h6) a6, Dn.other (Ne.symm h9) a9, Dn.other (Ne.symm h10) a10, k8 h⟩
  · exact .inr (.inl ⟨a6.stay, Dn.other (Ne.symm h9) a9, Dn.other (Ne.symm h10) a10, k8 h, r⟩)
  · exact .inr (.inr (.inl ⟨a9.stay, Dn.other (Ne.symm h10) a10, r⟩))
  · exact .inr (.inr (.inr ⟨a10.stay, r⟩))

set_option maxRecDepth 100000 in
set_option maxHeartbeats 4000000 in
theorem placesBySeq_any (A : Option Addr) (n ca : Nat) (X : List Bk) (w : World) (hok : NdOk X) (hG : ErrType w) (hA : RdBk w w.heap.size A n X) :
    Calls Tryz.prog 127 #[.agg #[.slice A n ca]] w fun e w' => ∃ (b base : Nat) (D : DataW Unit), e = .returned (.map (some b)) ∧ w'.ownsGroups Tryz.prog 2 base 2 .i64 b (recsTo X n).length D ∧ Tells D (recsTo X n) ∧ w.heap.size ≤ b ∧ Below w.heap.size w w' := by
  have hE : 3 < w.heap.size := World.block_lt_of_cell? w _ hG
  have HLEN : Hid ((recsTo X n).length ≤ 48) := by
    have h1 := recsTo_len hok n (by rw [hA.1]; exact Nat.le_refl _); have h2 := hok.1.2; have h3 := hA.1
    show _ ≤ _; omega
  have HGD := Lib.hid (map_nz (recsTo_good hok n (by rw [hA.1]; exact Nat.le_refl _)))
  have HA := Lib.hid hA; have HG := Lib.hid hG; have HOK := Lib.hid hok
  clear hA hG hok
  obtain ⟨i0, hi, hz0, hz1, hz2⟩ := info_parts info_i64
  have Hi := Lib.hid hi; have Z0 := Lib.hid hz0; have Z1 := Lib.hid hz1; have Z2 := Lib.hid hz2
  clear hi hz0 hz1 hz2
  have hmm := @run_makeMap Tryz.prog
  refine (callsIn_wide (n := 3)).1 ?_
  refine callsIn_of_wp_marks Tryz.func127 rfl trivial ?_ rfl
  simp only [Tryz.ntmps127, List.size_toArray, List.length_cons, List.length_nil, Nat.reduceAdd, Nat.reduceSub, Array.replicate_succ, Array.replicate_zero, List.push_toArray, List.append_toArray, List.nil_append, List.cons_append]
  gi_wp2_with fail
  refine ⟨trivial, ?_⟩
  refine (callsIn_wide.2 (recsOn_any A n ca _)).mono ?_
  rintro e w3 ⟨rfl, rfl⟩
  have hm0 := groups_alloc (groups_alloc (World.ownsGroups_made (H := Unit) (w.alloc (.cells #[.slice A n ca] 28)) Tryz.prog 2 2 .i64) (.cells #[.map (some (w.heap.size + 1))] 156)) (.cells #[.slice A n ca] 28)
  have bS := (Boxed.new ((w.alloc (.cells #[.slice A n ca] 28)).alloc (.map #[] 0)) 156 (.map (some (w.heap.size + 1)))).alloc (.cells #[.slice A n ca] 28)
  have bN := Boxed.new (((w.alloc (.cells #[.slice A n ca] 28)).alloc (.map #[] 0)).alloc (.cells #[.map (some (w.heap.size + 1))] 156)) 28 (.slice A n ca)
  have hB0 : Below w.heap.size w ((((w.alloc (.cells #[.slice A n ca] 28)).alloc (.map #[] 0)).alloc (.cells #[.map (some (w.heap.size + 1))] 156)).alloc (.cells #[.slice A n ca] 28)) := ((((Below.refl _ w).alloc (Nat.le_refl _) _).alloc (by simp) _).alloc (by simp; omega) _).alloc (by simp; omega) _
  have hs0 : ((((w.alloc (.cells #[.slice A n ca] 28)).alloc (.map #[] 0)).alloc (.cells #[.map (some (w.heap.size + 1))] 156)).alloc (.cells #[.slice A n ca] 28)).heap.size = w.heap.size + 4 := by simp
  simp only [World.size_alloc] at bS bN hm0 ⊢
  generalize (((w.alloc (.cells #[.slice A n ca] 28)).alloc (.map #[] 0)).alloc (.cells #[.map (some (w.heap.size + 1))] 156)).alloc (.cells #[.slice A n ca] 28) = W0 at bS bN hB0 hs0 hm0 ⊢
  have hR0 := HA.out.below hB0
  have hG0 := HG.out.below hB0
  gi_wp2
  refine wpIn_rangeFunc_ownH rfl (by omega) (gf := 248) (lb := #[.pointer (some ⟨w.heap.size + 1 + 1 + 1, 0, none⟩)]) rfl trivial (enters_of Tryz.func248 (by kernel_rfl) rfl)
    (recs_stops _ (by omega) (w.heap.size + 1 + 1 + 1) w.heap.size A n ca X W0 HOK.out (by omega) hE hG0 bN hR0) KpR.t (KpR.b (by omega) (by omega)) (Below.refl _ _) (fun _ => rfl)
    (fun pre W => (∃ D, W.ownsGroups Tryz.prog 2 (w.heap.size + 1 + 1) 2 .i64 (w.heap.size + 1) pre.length D ∧ Tells D (pre.map nz) ∧ Boxed W (w.heap.size + 1 + 1) 156 (.map (some (w.heap.size + 1))) ∧ Boxed W (w.heap.size + 1 + 1 + 1) 28 (.slice A n ca)) ∧ (Below w.heap.size w W ∧ W0.heap.size ≤ W.heap.size))
    (fun _ _ _ => False)
    (OwnFrom.and (fun s A' B' row hs hg hr => by
      obtain ⟨D, h1, h2, h3, h4⟩ := hs
      refine ⟨D, groups_kept h1 hg (fun e => ?_) (fun r e => (hr r e).2), h2, h3.kept hg (fun e => ?_), h4.kept hg (fun e => ?_)⟩
      · have := (hr _ e.symm).1; omega
      · have := (hr _ e.symm).1; omega
      · have := (hr _ e.symm).1; omega) (OwnFrom.and (ownFrom_below (Nat.le_refl _) (by omega)) (fun _ _ _ _ hs hg _ => Nat.le_trans hs hg.size)))
    (fun _ _ _ _ _ hs _ _ => hs)
    ⟨⟨_, hm0, tells_none, bS, bN⟩, hB0, Nat.le_refl _⟩
    (fun x a' W => ∃ Bx, W0.heap.size ≤ Bx ∧ IsBlk W Bx 68 (recC (nz x).2) ∧ a' = { tmps := #[.agg #[.slice A n ca], .pointer (some ⟨w.heap.size, 0, none⟩), .map none, .pointer (some ⟨w.heap.size + 1 + 1, 0, none⟩), .int .i64 (nz x).1, .pointer (some ⟨Bx, 0, none⟩), .map (some (w.heap.size + 1)), .agg #[.slice A n ca], .func (.func 248) #[] #[.pointer (some ⟨w.heap.size + 1 + 1 + 1, 0, none⟩)], .int .i64 (nz x).1, recV (nz x).2, undef, undef, undef, undef, undef, undef, undef, undef, undef, undef, undef], defers := [] })
    (fun x a' _ X' Y row hs hg hr => by
      obtain ⟨Bx, h1, h2, h3⟩ := hs
      refine ⟨Bx, h1, (hg.block Bx h2.lt (fun e => ?_)).trans h2, h3⟩
      obtain ⟨o, ho, hc⟩ := (hr Bx e.symm).2
      have h2' : X'.heap[Bx]? = some (.cells (recC (nz x).2).toArray 68 (0, 0)) := h2
      rw [h2'] at ho; cases ho; cases hc)
    ?assign ?body ?done ?stop
  case assign =>
    rintro l pre x W K ⟨⟨D, h1, h2, h3, h4⟩, hB, hz⟩ hK
    gi_wp2
    exact hK _ _ ((KeepsOthers.alloc _ _).from _) (KpR.of_below ((Below.refl _ W).alloc (Nat.le_refl _) _) hB.size h4.lt) ⟨⟨D, groups_alloc h1 _, h2, h3.alloc _, h4.alloc _⟩, hB.alloc hB.size _, by simp; omega⟩ ⟨W.heap.size, hz, isBlk_new W 68 (recC (nz x).2), rfl⟩
  case body =>
    rintro l pre x a' W hl ⟨r, hr⟩ ⟨⟨D, hown, hT, hbx, hbn⟩, hB, hz⟩ ⟨Bx, hBx, kX, rfl⟩ hlt
    have hc := hbx.cell
    obtain ⟨x0, x1, x2, x3, x4, x5⟩ := rcCells kX
    obtain ⟨⟨b1, b2⟩, b3, b4⟩ := nz_bounds x
    have HNX : Hid (Tells D (pre.map nz)) := hT
    have hkey := Maps.keyOf_int_mk Tryz.underlying2 (a := (nz x).2.q) (WalkArith.wf_i64 (by omega))
    have hmx : Tryz.prog.follows .mixedOrders = true := by kernel_rfl
    gi_wp2_with fail
    generalize hQ : (nz x).2 = rec at *
    refine wpIn_region_any hmx (wpAnyIn_inv (PlInv (fun s11 s12 s13 s14 s15 s16 s17 s18 s19 s20 => { tmps := #[.agg #[.slice A n ca], .pointer (some ⟨w.heap.size, 0, none⟩), .map none, .pointer (some ⟨w.heap.size + 1 + 1, 0, none⟩), .int .i64 (nz x).1, .pointer (some ⟨Bx, 0, none⟩), .map (some (w.heap.size + 1)), .agg #[.slice A n ca], .func (.func 248) #[] #[.pointer (some ⟨w.heap.size + 1 + 1 + 1, 0, none⟩)], .int .i64 (nz x).1, recV rec, s11, s12, s13, s14, s15, s16, s17, s18, s19, s20, undef], defers := [] }) W Bx (w.heap.size + 1 + 1) (w.heap.size + 1) pre.length D rec.q (nz x).1 (.cells #[.int .i64 (nz x).1] 2)) ?sz ?step ?rend _ _ _ _ (by decide) ?start)
    case sz => intro L a w h; exact h.1
    case start =>
      refine ⟨rfl, ?_⟩
      simp [Dn]
      refine ⟨_, _, _, _, _, _, _, _, _, _, ⟨rfl, rfl, rfl, rfl, rfl, rfl, rfl, rfl, rfl, rfl⟩, ?_⟩
      exact .inl ⟨by simp [Dn], by simp [Dn], by simp [Dn], .inl ⟨by simp [Dn], rfl⟩⟩
    case step =>
      intro L a' w' hI i o ho hi hL hd
      obtain ⟨hsz, k10, k9, s11, s12, s13, s14, s15, s16, s17, s18, s19, s20, rfl, e0, e1, e2, e3, e4, e5, e7, e8, hS⟩ := hI
      have hcase : i = 0 ∨ i = 1 ∨ i = 2 ∨ i = 3 ∨ i = 4 ∨ i = 5 ∨ i = 6 ∨ i = 7 ∨ i = 8 ∨ i = 9 ∨ i = 10 := by omega
      rcases hcase with rfl | rfl | rfl | rfl | rfl | rfl | rfl | rfl | rfl | rfl | rfl
      · -- operation 0
        refine wpOpIn_of_list ho (by cases ho; rfl) ?_
        cases ho
        have n10 : ¬ Dn L 10 := fun h => Dn.not hi hL (k10 h _ (by decide))
        have hcb : w'.cell? ⟨w.heap.size + 1 + 1, 0, none⟩ = some (.map (some (w.heap.size + 1))) := Boxed.cell (hS.old n10 _ _ hbx (fun c r e => by cases e))
        gi_wp2
        exact ⟨by simp [hsz], fun h j hj => ((k10 ((h.set).resolve_left (by decide))) j hj).stay, fun h => (k9 ((h.set).resolve_left (by decide))).imp Dn.stay Dn.stay, _, _, _, _, _, _, _, _, _, _, rfl, fun _ => rfl, fun h => e1 ((h.set).resolve_left (by decide)), fun h => e2 ((h.set).resolve_left (by decide)), fun h => e3 ((h.set).resolve_left (by decide)), fun h => e4 ((h.set).resolve_left (by decide)), fun h => e5 ((h.set).resolve_left (by decide)), fun h => e7 ((h.set).resolve_left (by decide)), fun h => e8 ((h.set).resolve_left (by decide)), hS.still (by decide) (by decide) (by decide) (by decide)⟩
      · -- operation 1
        refine wpOpIn_of_list ho (by cases ho; rfl) ?_
        cases ho
        gi_wp2
        exact ⟨by simp [hsz], fun h j hj => ((k10 ((h.set).resolve_left (by decide))) j hj).stay, fun h => (k9 ((h.set).resolve_left (by decide))).imp Dn.stay Dn.stay, _, _, _, _, _, _, _, _, _, _, rfl, fun h => e0 ((h.set).resolve_left (by decide)), fun _ => rfl, fun h => e2 ((h.set).resolve_left (by decide)), fun h => e3 ((h.set).resolve_left (by decide)), fun h => e4 ((h.set).resolve_left (by decide)), fun h => e5 ((h.set).resolve_left (by decide)), fun h => e7 ((h.set).resolve_left (by decide)), fun h => e8 ((h.set).resolve_left (by decide)), hS.still (by decide) (by decide) (by decide) (by decide)⟩
      · -- operation 2
        refine wpOpIn_of_list ho (by cases ho; rfl) ?_
        cases ho
        obtain rfl := e1 (hd ⟨1, .data⟩ (by simp) rfl)
        have n10 : ¬ Dn L 10 := fun h => Dn.not hi hL (k10 h _ (by decide))
        have kXw : IsBlk w' Bx 68 (recC rec) := hS.old n10 _ _ kX (fun c r e => by cases e)
        have hcq : w'.cell? ⟨Bx, 2, none⟩ = some (.int .i64 rec.q) := kXw.cell rfl
        gi_wp2
        exact ⟨by simp [hsz], fun h j hj => ((k10 ((h.set).resolve_left (by decide))) j hj).stay, fun h => (k9 ((h.set).resolve_left (by decide))).imp Dn.stay Dn.stay, _, _, _, _, _, _, _, _, _, _, rfl, fun h => e0 ((h.set).resolve_left (by decide)), fun _ => rfl, fun _ => rfl, fun h => e3 ((h.set).resolve_left (by decide)), fun h => e4 ((h.set).resolve_left (by decide)), fun h => e5 ((h.set).resolve_left (by decide)), fun h => e7 ((h.set).resolve_left (by decide)), fun h => e8 ((h.set).resolve_left (by decide)), hS.still (by decide) (by decide) (by decide) (by decide)⟩
      · -- operation 3
        refine wpOpIn_of_list ho (by cases ho; rfl) ?_
        cases ho
        have n10 : ¬ Dn L 10 := fun h => Dn.not hi hL (k10 h _ (by decide))
        have hcb : w'.cell? ⟨w.heap.size + 1 + 1, 0, none⟩ = some (.map (some (w.heap.size + 1))) := Boxed.cell (hS.old n10 _ _ hbx (fun c r e => by cases e))
        gi_wp2
        exact ⟨by simp [hsz], fun h j hj => ((k10 ((h.set).resolve_left (by decide))) j hj).stay, fun h => (k9 ((h.set).resolve_left (by decide))).imp Dn.stay Dn.stay, _, _, _, _, _, _, _, _, _, _, rfl, fun h => e0 ((h.set).resolve_left (by decide)), fun h => e1 ((h.set).resolve_left (by decide)), fun h => e2 ((h.set).resolve_left (by decide)), fun _ => rfl, fun h => e4 ((h.set).resolve_left (by decide)), fun h => e5 ((h.set).resolve_left (by decide)), fun h => e7 ((h.set).resolve_left (by decide)), fun h => e8 ((h.set).resolve_left (by decide)), hS.still (by decide) (by decide) (by decide) (by decide)⟩
      · -- operation 4
        refine wpOpIn_of_list ho (by cases ho; rfl) ?_
        cases ho
        gi_wp2
        exact ⟨by simp [hsz], fun h j hj => ((k10 ((h.set).resolve_left (by decide))) j hj).stay, fun h => (k9 ((h.set).resolve_left (by decide))).imp Dn.stay Dn.stay, _, _, _, _, _, _, _, _, _, _, rfl, fun h => e0 ((h.set).resolve_left (by decide)), fun h => e1 ((h.set).resolve_left (by decide)), fun h => e2 ((h.set).resolve_left (by decide)), fun h => e3 ((h.set).resolve_left (by decide)), fun _ => rfl, fun h => e5 ((h.set).resolve_left (by decide)), fun h => e7 ((h.set).resolve_left (by decide)), fun h => e8 ((h.set).resolve_left (by decide)), hS.still (by decide) (by decide) (by decide) (by decide)⟩
      · -- operation 5
        refine wpOpIn_of_list ho (by cases ho; rfl) ?_
        cases ho
        obtain rfl := e4 (hd ⟨4, .data⟩ (by simp) rfl)
        have n10 : ¬ Dn L 10 := fun h => Dn.not hi hL (k10 h _ (by decide))
        have kXw : IsBlk w' Bx 68 (recC rec) := hS.old n10 _ _ kX (fun c r e => by cases e)
        have hcq : w'.cell? ⟨Bx, 2, none⟩ = some (.int .i64 rec.q) := kXw.cell rfl
        gi_wp2
        exact ⟨by simp [hsz], fun h j hj => ((k10 ((h.set).resolve_left (by decide))) j hj).stay, fun h => (k9 ((h.set).resolve_left (by decide))).imp Dn.stay Dn.stay, _, _, _, _, _, _, _, _, _, _, rfl, fun h => e0 ((h.set).resolve_left (by decide)), fun h => e1 ((h.set).resolve_left (by decide)), fun h => e2 ((h.set).resolve_left (by decide)), fun h => e3 ((h.set).resolve_left (by decide)), fun _ => rfl, fun _ => rfl, fun h => e7 ((h.set).resolve_left (by decide)), fun h => e8 ((h.set).resolve_left (by decide)), hS.still (by decide) (by decide) (by decide) (by decide)⟩
      · -- operation 6
        refine wpOpIn_of_list ho (by cases ho; rfl) ?_
        cases ho
        obtain rfl := e3 (hd ⟨3, .data⟩ (by simp) rfl)
        obtain rfl := e5 (hd ⟨5, .data⟩ (by simp) rfl)
        have n10 : ¬ Dn L 10 := fun h => Dn.not hi hL (k10 h _ (by decide))
        have n9 : ¬ Dn L 9 := fun h => Dn.not hi hL (k9 h).1
        rcases hS with ⟨-, -, -, hw⟩ | ⟨h6, -⟩ | ⟨h9, -⟩ | ⟨h10, -⟩
        rotate_left
        · exact absurd h6 (Dn.not hi hL)
        · exact absurd h9 n9
        · exact absurd h10 n10
        have hwo : w'.ownsGroups Tryz.prog 2 (w.heap.size + 1 + 1) 2 .i64 (w.heap.size + 1) pre.length D := by
          rcases hw with ⟨-, rfl⟩ | ⟨-, rfl⟩
          · exact groups_drew hown
          · exact groups_alloc (groups_drew hown) _
        have hbV : Below W.heap.size W w' := by
          rcases hw with ⟨-, rfl⟩ | ⟨-, rfl⟩
          · exact (Below.refl _ _).drew
          · exact (Below.refl _ _).drew.alloc (Nat.le_refl _) _
        refine wpListIn_lookup_groups _ rfl _ _ 156 rfl 2 79 2 .i64 (Maps.int_keyed Tryz.underlying2) Tryz.underlying156 (zeroRow _) (w.heap.size + 1 + 1) (w.heap.size + 1) pre.length D rfl hwo (by unfold maxLen; omega) _ _ rfl hkey ?_
        intro v zs hat hoi hzl hback
        exact ⟨by simp [hsz], fun h j hj => ((k10 ((h.set).resolve_left (by decide))) j hj).stay, fun h => (k9 ((h.set).resolve_left (by decide))).imp Dn.stay Dn.stay, _, _, _, _, _, _, _, _, _, _, rfl, fun h => e0 ((h.set).resolve_left (by decide)), fun h => e1 ((h.set).resolve_left (by decide)), fun h => e2 ((h.set).resolve_left (by decide)), fun _ => rfl, fun h => e4 ((h.set).resolve_left (by decide)), fun _ => rfl, fun h => e7 ((h.set).resolve_left (by decide)), fun h => e8 ((h.set).resolve_left (by decide)), .inr (.inl ⟨Dn.new hi, Dn.other (by decide) n9, Dn.other (by decide) n10, hw.imp (fun h => ⟨Dn.other (by decide) h.1, h.2⟩) (fun h => ⟨h.1.stay, h.2⟩), w', zs, hbV, ⟨rfl, rfl, rfl, Nat.le_refl _, fun _ _ _ => rfl⟩, hoi, hoi, hat, hzl, hback⟩)⟩
      · -- operation 7
        refine wpOpIn_of_list ho (by cases ho; rfl) ?_
        cases ho
        gi_wp2
        exact ⟨by simp [hsz], fun h j hj => ((k10 ((h.set).resolve_left (by decide))) j hj).stay, fun h => (k9 ((h.set).resolve_left (by decide))).imp Dn.stay Dn.stay, _, _, _, _, _, _, _, _, _, _, rfl, fun h => e0 ((h.set).resolve_left (by decide)), fun h => e1 ((h.set).resolve_left (by decide)), fun h => e2 ((h.set).resolve_left (by decide)), fun h => e3 ((h.set).resolve_left (by decide)), fun h => e4 ((h.set).resolve_left (by decide)), fun h => e5 ((h.set).resolve_left (by decide)), fun _ => rfl, fun h => e8 ((h.set).resolve_left (by decide)), hS.still (by decide) (by decide) (by decide) (by decide)⟩
      · -- operation 8
        refine wpOpIn_of_list ho (by cases ho; rfl) ?_
        cases ho
        obtain rfl := e7 (hd ⟨7, .data⟩ (by simp) rfl)
        have n10 : ¬ Dn L 10 := fun h => Dn.not hi hL (k10 h _ (by decide))
        have n9 : ¬ Dn L 9 := fun h => Dn.not hi hL (k9 h).2
        have n8 : ¬ Dn L 8 := Dn.not hi hL
        obtain rfl : w' = W.drew := by
          rcases hS with ⟨-, -, -, hw⟩ | ⟨-, -, -, hw, -⟩ | ⟨h9, -⟩ | ⟨h10, -⟩
          · exact hw.elim (·.2) (fun h => absurd h.1 n8)
          · exact hw.elim (·.2) (fun h => absurd h.1 n8)
          · exact absurd h9 n9
          · exact absurd h10 n10
        have hS' : PlDone W (w.heap.size + 1 + 1) (w.heap.size + 1) pre.length D rec.q (nz x).1 (.cells #[.int .i64 (nz x).1] 2) (L.setIfInBounds 8 true) s17 s20 (W.drew.alloc (.cells #[.int .i64 (nz x).1] 2)) := by
          rcases hS with ⟨h6, -, -, -⟩ | ⟨h6, -, -, -, V, zs, hV, hg, hoi, hoi', hat, hzl, hback⟩ | ⟨h9, -⟩ | ⟨h10, -⟩
          · exact .inl ⟨Dn.other (by decide) h6, Dn.other (by decide) n9, Dn.other (by decide) n10, .inr ⟨Dn.new hi, rfl⟩⟩
          · exact .inr (.inl ⟨h6.stay, Dn.other (by decide) n9, Dn.other (by decide) n10, .inr ⟨Dn.new hi, rfl⟩, V, zs, hV, hg.trans (World.grownBy_alloc _ _ _), hoi, hoi'.alloc _, hat, hzl, hback⟩)
          · exact absurd h9 n9
          · exact absurd h10 n10
        gi_wp2
        exact ⟨by simp [hsz], fun h j hj => ((k10 ((h.set).resolve_left (by decide))) j hj).stay, fun h => (k9 ((h.set).resolve_left (by decide))).imp Dn.stay Dn.stay, _, _, _, _, _, _, _, _, _, _, rfl, fun h => e0 ((h.set).resolve_left (by decide)), fun h => e1 ((h.set).resolve_left (by decide)), fun h => e2 ((h.set).resolve_left (by decide)), fun h => e3 ((h.set).resolve_left (by decide)), fun h => e4 ((h.set).resolve_left (by decide)), fun h => e5 ((h.set).resolve_left (by decide)), fun _ => rfl, fun _ => rfl, hS'⟩
      · -- operation 9
        refine wpOpIn_of_list ho (by cases ho; rfl) ?_
        cases ho
        have n10 : ¬ Dn L 10 := fun h => Dn.not hi hL (k10 h _ (by decide))
        have d6 : Dn L 6 := hd ⟨6, .data⟩ (by simp) rfl
        have d8 : Dn L 8 := hd ⟨8, .data⟩ (by simp) rfl
        obtain rfl := e8 d8
        rcases hS with ⟨h6, -⟩ | ⟨-, -, -, hw, V, zs, hV, hg, hoi, hoi', hat, hzl, hback⟩ | ⟨h9, -⟩ | ⟨h10, -⟩
        · exact absurd d6 h6
        rotate_left
        · exact absurd h9 (Dn.not hi hL)
        · exact absurd h10 n10
        obtain rfl : w' = W.drew.alloc (.cells #[.int .i64 (nz x).1] 2) := hw.elim (fun h => absurd d8 h.1) (·.2)
        have hbase : w.heap.size + 1 + 1 ≤ (W.drew.alloc (.cells #[.int .i64 (nz x).1] 2)).heap.size := by
          have h1 : (W.drew.alloc (.cells #[.int .i64 (nz x).1] 2)).heap.size = W.heap.size + 1 := by simp
          omega
        refine wpListIn_append_own_at (w := _) rfl _ _ 79 rfl (w.heap.size + 1 + 1) 2 i0 (.int .i64 0) 1 8 Tryz.underlying79 Hi.out Z0.out Z1.out Z2.out rfl (by decide) _ _ _ rfl hoi'.1 ⟨W.heap.size, 0, none⟩ 1 1 [.int .i64 (nz x).1] rfl rfl (cell_one_new _ _ _) (by simp [Value.oneCell']) (by unfold maxLen; omega) (by omega) hbase ?_
        intro v' w1 hown' hgrow _ hloc
        have hsv := hg.size
        exact ⟨by simp [hsz], fun h j hj => ((k10 ((h.set).resolve_left (by decide))) j hj).stay, fun _ => ⟨d6.stay, d8.stay⟩, _, _, _, _, _, _, _, _, _, _, rfl, fun h => e0 ((h.set).resolve_left (by decide)), fun h => e1 ((h.set).resolve_left (by decide)), fun h => e2 ((h.set).resolve_left (by decide)), fun h => e3 ((h.set).resolve_left (by decide)), fun h => e4 ((h.set).resolve_left (by decide)), fun h => e5 ((h.set).resolve_left (by decide)), fun h => e7 ((h.set).resolve_left (by decide)), fun _ => rfl, .inr (.inr (.inl ⟨Dn.new hi, Dn.other (by decide) n10, V, s17, zs, hV, hg.trans hgrow, hoi, hoi'.appended hown' (WalkArith.wf_i64 (by omega)), hat, hzl, hback, hloc.imp id (fun h => ⟨_, h, hsv⟩)⟩))⟩
      · -- operation 10
        refine wpOpIn_of_list ho (by cases ho; rfl) ?_
        cases ho
        have d9 : Dn L 9 := hd ⟨9, .data⟩ (by simp) rfl
        have dall : ∀ j, j < 10 → Dn L j := by
          intro j hj
          have hjc : j = 0 ∨ j = 1 ∨ j = 2 ∨ j = 3 ∨ j = 4 ∨ j = 5 ∨ j = 6 ∨ j = 7 ∨ j = 8 ∨ j = 9 := by omega
          rcases hjc with rfl | rfl | rfl | rfl | rfl | rfl | rfl | rfl | rfl | rfl
          all_goals first | exact hd ⟨_, .phase⟩ (by simp) rfl
        obtain rfl := e0 (dall 0 (by decide))
        obtain rfl := e2 (dall 2 (by decide))
        rcases hS with ⟨-, h9, -⟩ | ⟨-, h9, -⟩ | ⟨-, -, V, v, zs, hV, hg, hoi, hoi', hat, hzl, hback, hloc⟩ | ⟨h10, -⟩
        · exact absurd d9 h9
        · exact absurd d9 h9
        rotate_left
        · exact absurd h10 (Dn.not hi hL)
        refine wpListIn_mapUpdate_back _ rfl _ _ _ 156 rfl hback rfl rfl rfl hg hoi' (by simp; omega) hloc ?_
        intro w2 hown2 hgrow2
        exact ⟨by simp [hsz], fun _ j hj => (dall j hj).stay, fun _ => ⟨(dall 6 (by decide)).stay, (dall 8 (by decide)).stay⟩, _, _, _, _, _, _, _, _, _, _, rfl, fun _ => rfl, fun h => e1 ((h.set).resolve_left (by decide)), fun _ => rfl, fun h => e3 ((h.set).resolve_left (by decide)), fun h => e4 ((h.set).resolve_left (by decide)), fun h => e5 ((h.set).resolve_left (by decide)), fun h => e7 ((h.set).resolve_left (by decide)), fun h => e8 ((h.set).resolve_left (by decide)), .inr (.inr (.inr ⟨Dn.new hi, V, v, zs, w', hV, hg, hoi, hgrow2, hat, by rw [← hoi'.datum_pos (by simp)]; exact hown2⟩))⟩
    case rend =>
      intro L a' w' hI hrdy
      obtain ⟨hsz, k10, k9, s11, s12, s13, s14, s15, s16, s17, s18, s19, s20, rfl, e0, e1, e2, e3, e4, e5, e7, e8, hS⟩ := hI
      have d0 := ready_nil hrdy hsz (i := 0) rfl (by simp)
      have d1 := ready_nil hrdy hsz (i := 1) rfl (by simp)
      have d2 := ready_nil hrdy hsz (i := 2) rfl (by simpa using d1)
      have d3 := ready_nil hrdy hsz (i := 3) rfl (by simp)
      have d4 := ready_nil hrdy hsz (i := 4) rfl (by simp)
      have d5 := ready_nil hrdy hsz (i := 5) rfl (by simpa using d4)
      have d6 := ready_nil hrdy hsz (i := 6) rfl (by simpa using ⟨d3, d5⟩)
      have d7 := ready_nil hrdy hsz (i := 7) rfl (by simp)
      have d8 := ready_nil hrdy hsz (i := 8) rfl (by simpa using d7)
      have d9 := ready_nil hrdy hsz (i := 9) rfl (by simpa using ⟨d6, d8⟩)
      have d10 := ready_nil hrdy hsz (i := 10) rfl (by simp [d0, d1, d2, d3, d4, d5, d6, d7, d8, d9])
      rcases hS with ⟨-, h9, -⟩ | ⟨-, h9, -⟩ | ⟨-, h10, -⟩ | ⟨-, V, v, zs, w1, hV, hg1, hoi, hg2, hat, hown2⟩
      · exact absurd d9 h9
      · exact absurd d9 h9
      · exact absurd d10 h10
      have hzs := row_is hoi ((HNX.out.2 rec.q).symm.trans hat)
      have hmb : ∃ es ck, W.heap[w.heap.size + 1]? = some (.map es ck) := by obtain ⟨es, ck, h, -⟩ := hown; exact ⟨es, ck, h⟩
      obtain ⟨g1, g2, g3⟩ := groups_step (S := W0.heap.size) hV hoi hg1 hg2 hB.size (by omega) (by omega) (by omega) hmb hbn hbx
      have HTT : Hid (Tells (D.put (.int .i64 rec.q) (.slice (lits .i64 (zs ++ [(nz x).1])) [])) ((pre ++ [x]).map nz)) := by
        have h := HNX.out.put (nz x)
        rw [hQ, ← hzs] at h
        show Tells _ _
        rw [List.map_append, List.map_singleton]
        exact h
      have g4 : Boxed w' (w.heap.size + 1 + 1 + 1) 28 (.slice A n ca) := g1.2.1.trans hbn
      have g5 : W0.heap.size ≤ w'.heap.size := Nat.le_trans hz g2.size
      gi_wp2
      exact ⟨g2, g1, ⟨⟨_, by simpa using hown2, HTT.out, g3, g4⟩, hB.trans g1.1, g5⟩⟩
  case done =>
    rintro Dd ys W hD rfl ⟨⟨Dm, hown, hT, hbx, -⟩, hB, -⟩ hK
    have hc := hbx.cell
    rw [HGD.out] at hT
    gi_wp2
    refine ⟨by simp, .inl ⟨_, _, rfl, run_takeDeferred hK, ?_⟩⟩
    refine ⟨_, results_tmp rfl _ _ _, ?_⟩
    exact ⟨w.heap.size + 1, w.heap.size + 1 + 1, Dm, rfl, groups_kept hown (grownBy_putObj' _ Dd _) (fun e => by cases e; omega) (fun r e => by cases e; exact ⟨_, hK, rfl⟩), hT, by omega, hB.trans (belowK_b (w := w) (Nat.le_refl _) W Dd _ _ (by omega) hK rfl rfl)⟩
  case stop =>
    rintro D c pre W _ _ h _
    exact h.elim

/-- what Places answers -/
noncomputable def placesAns (X : List Bk) (q : Int) : List Int := if ndB X = true then plc (recsTo X X.length) q else []
theorem placesAns_yes {X : List Bk} (h : NdOk X) (q : Int) : placesAns X q = plc (recsTo X X.length) q := by unfold placesAns; rw [if_pos (ndB_yes h)]
theorem placesAns_no {X : List Bk} (h : ¬ NdOk X) (q : Int) : placesAns X q = [] := by unfold placesAns; rw [ndB_no h]; rfl

set_option maxRecDepth 100000 in
set_option maxHeartbeats 2000000 in
theorem impl_places (A : Option Addr) (n ca : Nat) (X : List Bk) (q : Int) (w : World) (hX : Small X) (hq : (Lit.int .i64 q).wf = true) (hG : ErrType w) (hA : RdBk w w.heap.size A n X) :
    Calls Tryz.prog 51 #[.agg #[.slice A n ca], .int .i64 q] w (RetNs w (placesAns X q)) := by
  have HL := Lib.hid hA.1
  have HA := Lib.hid hA; have HX := Lib.hid hX; have HG := Lib.hid hG; clear hA hX hG
  go_enter Tryz.func51, Tryz.ntmps51
  go_wp2_with fail
  refine (impl_nandRight A n ca X _ HX.out (box_rd HA.out _)).mono ?_
  rintro e w2 ⟨rfl, hb2⟩
  have k2 := (isBlk_new w 28 [.slice A n ca]).below hb2 (by show w.heap.size < (w.alloc _).heap.size; simp)
  have hx2 : w2.cell? ⟨w.heap.size, 0, none⟩ = some (.slice A n ca) := k2.cell rfl
  have HB2 := Lib.hid (bel_step (box_below w _) hb2)
  clear hb2 k2
  by_cases hok : NdOk X
  · rw [ndB_yes hok]
    have HC := Lib.hid (placesAns_yes hok q)
    have HOK := Lib.hid hok
    clear hok
    go_wp2_with fail
    refine (placesBySeq_any A n ca X w2 HOK.out (HG.out.below HB2.out) (rd_step HA.out HB2.out)).mono ?_
    rintro e w3 ⟨b, base, D, rfl, hown, hT, hbb, hb3⟩
    have HB3 := Lib.hid (bel_step HB2.out hb3)
    have hlen : (recsTo X n).length < maxLen := by
      have h1 := recsTo_len HOK.out n (by rw [HL.out]; exact Nat.le_refl _); have h2 := HOK.out.1.2; have h3 := HL.out
      unfold maxLen; omega
    obtain ⟨v, zs, hrun, hat, hoi, -, -⟩ := hown.at (Maps.int_keyed Tryz.underlying2) Tryz.underlying156 (zeroRow _) hlen (Maps.keyOf_int_mk Tryz.underlying2 hq)
    have hzs := row_is hoi ((hT.2 q).symm.trans hat)
    have HZ : Hid (placesAns X q = zs) := by show _ = _; rw [HC.out, HL.out, hzs]
    clear hzs
    have hbase : w.heap.size ≤ base := by
      obtain ⟨-, -, -, -, -, -, h, -⟩ := hown
      have := HB2.out.size
      omega
    obtain ⟨Av, cv, rfl⟩ := own_slice hoi.1
    have HO := Lib.hid (owNs_of_own hoi.1)
    clear hown hT hat hoi hb3 hbb
    go_wp2
    go_ret
    rw [HZ.out]
    exact ⟨Av, cv, rfl, HO.out.mono hbase (Nat.le_refl _), HB3.out⟩
  · rw [ndB_no hok]
    have HC := Lib.hid (placesAns_no hok q)
    go_wp2
    go_ret
    rw [HC.out]
    exact ⟨none, 0, rfl, owNs_nil _ _ _ _, HB2.out⟩
end Go.Proofs.YtfpibbhcecdbgaaGreatDoor
