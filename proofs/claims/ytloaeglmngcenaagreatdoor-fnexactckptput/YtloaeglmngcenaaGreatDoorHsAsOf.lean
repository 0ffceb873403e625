/-
  AsOf, of the program.
-/
import Derived.Test.YtloaeglmngcenaaGreatDoorProg
import Derived.KernelRfl
import Derived.Test.YtloaeglmngcenaaGreatDoorHsTrailI
namespace Go.Proofs.YtloaeglmngcenaaGreatDoor
open Go.RowKit Go.Shelf
open Bt (Rc)
attribute [local go_sem] Oper.semAt_some

/-- what a record leaves in its sector -/
structure Vo where
  there : Bool
  data : ByteArray
  code : Int
def valR (r : Rc) : Vo := if r.k = 1 then ⟨true, r.d, 0⟩ else ⟨false, ⟨#[]⟩, 0⟩
abbrev voV (v : Vo) : Value := .agg #[.bool v.there, .string v.data, .int .i64 v.code]
/-- the last record of a trail, the zero one without -/
def endR (L : List Rc) : Rc := L.getLastD Rc.zero
theorem endR_snoc (L : List Rc) (r : Rc) : endR (L ++ [r]) = r := by simp [endR, List.getLastD_eq_getLast?]
def valX (X : List Rc) (s : Int) (n : Nat) (a : Int) : Vo := valR (endR (trlR X s n a))
def asOf (X : List Rc) (s a : Int) : Vo :=
  if hRight X = true ∧ (0 ≤ s ∧ s ≤ 5) ∧ (0 ≤ a ∧ a ≤ 1000000) then (if a < floorR X then ⟨false, ⟨#[]⟩, 12⟩ else valX X s X.length a) else ⟨false, ⟨#[]⟩, 1⟩
theorem isBlk_own {β : Type} (g : Nat) (e : TypeId) (cs : β → List Value) : Own (fun s W => IsBlk W g e (cs s)) := fun _ _ _ _ hs hg hr => hs.kept hg hr
theorem endR_small {X : List Rc} (hS : SmallR X) (s a : Int) (n : Nat) : (endR (trlR X s n a)).d.size ≤ 1048576 := by
  unfold endR
  rw [List.getLastD_eq_getLast?]
  cases h : (trlR X s n a).getLast? with
  | none => show (0 : Nat) ≤ _; omega
  | some r =>
    have hm := List.mem_of_getLast? h
    unfold trlR at hm
    obtain ⟨i, -, rfl⟩ := List.mem_map.1 hm
    exact hS.at i

set_option maxRecDepth 100000 in
set_option maxHeartbeats 4000000 in
theorem valueAt_any (A : Option Addr) (n ca : Nat) (X : List Rc) (s a : Int) (w : World) (hS : SmallR X) (hca : n ≤ ca) (hA : RdRc w w.heap.size A n X) :
    Calls Tryz.prog 239 #[.slice A n ca, .int .i64 s, .int .i64 a] w fun e w' => e = .returned (voV (valX X s n a)) ∧ Below w.heap.size w w' := by
  have hn : n ≤ 1048576 := by rw [← hA.1]; exact hS.1
  have HA := Lib.hid hA; have HS := Lib.hid hS; clear hA hS
  refine (callsIn_wide (n := 3)).1 ?_
  refine callsIn_of_wp_marks Tryz.func239 rfl trivial ?_ rfl
  simp only [Tryz.ntmps239, List.size_toArray, List.length_cons, List.length_nil, Nat.reduceAdd, Nat.reduceSub, Array.replicate_succ, Array.replicate_zero, List.push_toArray, List.append_toArray, List.nil_append, List.cons_append]
  gi_wp2_with fail
  refine ⟨trivial, ?_⟩
  have kR := (isBlk_new w 68 [.bool false, .string ⟨#[]⟩, .int .i64 0]).alloc (.cells (recC Rc.zero).toArray 34)
  have kL := isBlk_new (w.alloc (.cells #[.bool false, .string ⟨#[]⟩, .int .i64 0] 68)) 34 (recC Rc.zero)
  rw [size_alloc] at kL
  have hbO : Below w.heap.size w ((w.alloc (.cells #[.bool false, .string ⟨#[]⟩, .int .i64 0] 68)).alloc (.cells (recC Rc.zero).toArray 34)) := ((Below.refl _ _).alloc (Nat.le_refl _) _).alloc (by simp) _
  have hsO : ((w.alloc (.cells #[.bool false, .string ⟨#[]⟩, .int .i64 0] 68)).alloc (.cells (recC Rc.zero).toArray 34)).heap.size = w.heap.size + 2 := by simp
  change IsBlk ((w.alloc (.cells #[.bool false, .string ⟨#[]⟩, .int .i64 0] 68)).alloc (.cells (recC Rc.zero).toArray 34)) _ _ _ at kR
  change IsBlk ((w.alloc (.cells #[.bool false, .string ⟨#[]⟩, .int .i64 0] 68)).alloc (.cells (recC Rc.zero).toArray 34)) _ _ _ at kL
  change CallsIn _ _ _ _ _ ((w.alloc (.cells #[.bool false, .string ⟨#[]⟩, .int .i64 0] 68)).alloc (.cells (recC Rc.zero).toArray 34)) _
  generalize (w.alloc (.cells #[.bool false, .string ⟨#[]⟩, .int .i64 0] 68)).alloc (.cells (recC Rc.zero).toArray 34) = wO at kR kL hbO hsO ⊢
  refine (callsIn_wide.2 (trailOf_any A n ca s a wO)).mono ?_
  rintro e w3 ⟨rfl, rfl⟩
  have b0 := ((Boxed.new wO 27 (.slice A n ca)).alloc (.cells #[.int .i64 s] 2)).alloc (.cells #[.int .i64 a] 2)
  have b1 := (Boxed.new (wO.alloc (.cells #[.slice A n ca] 27)) 2 (.int .i64 s)).alloc (.cells #[.int .i64 a] 2)
  have b2 := Boxed.new ((wO.alloc (.cells #[.slice A n ca] 27)).alloc (.cells #[.int .i64 s] 2)) 2 (.int .i64 a)
  have hb3 : Below wO.heap.size wO (((wO.alloc (.cells #[.slice A n ca] 27)).alloc (.cells #[.int .i64 s] 2)).alloc (.cells #[.int .i64 a] 2)) := (((Below.refl _ _).alloc (Nat.le_refl _) _).alloc (by simp) _).alloc (by simp; omega) _
  have hs3 : (((wO.alloc (.cells #[.slice A n ca] 27)).alloc (.cells #[.int .i64 s] 2)).alloc (.cells #[.int .i64 a] 2)).heap.size = wO.heap.size + 3 := by simp
  simp only [World.size_alloc] at b1 b2
  generalize ((wO.alloc (.cells #[.slice A n ca] 27)).alloc (.cells #[.int .i64 s] 2)).alloc (.cells #[.int .i64 a] 2) = W0 at b0 b1 b2 hb3 hs3 ⊢
  have hB0 : Below w.heap.size w W0 := hbO.trans (hb3.mono hbO.size)
  have kR0 := kR.below hb3 kR.lt
  have kL0 := kL.below hb3 kL.lt
  rw [hsO] at b0 b1 b2
  have hsz1 : w.heap.size + 5 ≤ W0.heap.size := by omega
  have hR0 := HA.out.below hB0
  clear hs3 hbO hb3 kR kL
  gi_wp2
  clear hsO
  refine wpIn_rangeFunc_ownH rfl (by omega) (gf := 270) (lb := #[.pointer (some ⟨w.heap.size + 2, 0, none⟩), .pointer (some ⟨w.heap.size + 2 + 1 + 1, 0, none⟩), .pointer (some ⟨w.heap.size + 2 + 1, 0, none⟩)]) rfl trivial (enters_of Tryz.func270 (by kernel_rfl) rfl)
    (trail_stops _ (by omega) (w.heap.size + 2) (w.heap.size + 2 + 1 + 1) (w.heap.size + 2 + 1) w.heap.size A n ca X s a W0 hn hca (by omega) (by omega) (by omega) b0.cell b2.cell b1 hR0) KpB.t (KpB.b (by omega) (by omega)) (Below.refl _ _) (fun _ => rfl)
    (fun pre W => (IsBlk W (w.heap.size + 1) 34 (recC (endR pre)) ∧ IsBlk W w.heap.size 68 [.bool false, .string ⟨#[]⟩, .int .i64 0]) ∧ (Below w.heap.size w W ∧ W0.heap.size ≤ W.heap.size))
    (fun _ _ _ => False)
    (OwnFrom.and (OwnFrom.and (Own.from (isBlk_own _ _ _) _) (Own.from (isBlk_own _ _ _) _)) (OwnFrom.and (ownFrom_below (Nat.le_refl _) (by omega)) (fun _ _ _ _ hs hg _ => Nat.le_trans hs hg.size)))
    (fun _ _ _ _ _ hs _ _ => hs)
    ⟨⟨kL0, kR0⟩, hB0, Nat.le_refl _⟩
    (fun x a' W => ∃ Bx, W0.heap.size ≤ Bx ∧ IsBlk W Bx 34 (recC x) ∧ a' = { tmps := #[.slice A n ca, .int .i64 s, .int .i64 a, undef, undef, undef, .pointer (some ⟨w.heap.size, 0, none⟩), .pointer (some ⟨w.heap.size + 1, 0, none⟩), .pointer (some ⟨Bx, 0, none⟩), .slice A n ca, .int .i64 s, .int .i64 a, .func (.func 270) #[] #[.pointer (some ⟨w.heap.size + 2, 0, none⟩), .pointer (some ⟨w.heap.size + 2 + 1 + 1, 0, none⟩), .pointer (some ⟨w.heap.size + 2 + 1, 0, none⟩)], recV x, undef, undef, undef, undef, undef, undef, undef, undef, undef, undef], defers := [] })
    (fun x a' _ X' Y row hs hg hr => by obtain ⟨Bx, h1, h2, h3⟩ := hs; exact ⟨Bx, h1, h2.kept hg (fun r e => (hr r e).2), h3⟩)
    ?assign ?body ?done ?stop
  case assign =>
    rintro l pre x W K ⟨⟨hL, hV⟩, hB, hz⟩ hK
    gi_wp2
    exact hK _ _ ((KeepsOthers.alloc _ _).from _) ⟨(Below.refl _ W).alloc hB.size _, Below.heap_alloc _ _ _ (by omega)⟩ ⟨⟨hL.alloc _, hV.alloc _⟩, hB.alloc hB.size _, by simp; omega⟩ ⟨W.heap.size, hz, isBlk_new W 34 (recC x), rfl⟩
  case body =>
    rintro l pre x a' W hl ⟨r, hr⟩ ⟨⟨hL, hV⟩, hB, hzz⟩ ⟨Bx, hBx, kX, rfl⟩ hlt
    obtain ⟨x0, x1, x2, x3, x4, x5⟩ := rcCells kX
    obtain ⟨y0, y1, y2, y3, y4, y5⟩ := rcCells hL
    have f0 : W.frozen? ⟨w.heap.size + 1, 0, none⟩ = false := hL.free
    have f1 : W.frozen? ⟨w.heap.size + 1, 1, none⟩ = false := hL.free
    have f2 : W.frozen? ⟨w.heap.size + 1, 2, none⟩ = false := hL.free
    have f3 : W.frozen? ⟨w.heap.size + 1, 3, none⟩ = false := hL.free
    have f4 : W.frozen? ⟨w.heap.size + 1, 4, none⟩ = false := hL.free
    have f5 : W.frozen? ⟨w.heap.size + 1, 5, none⟩ = false := hL.free
    gi_wp2
    have hk1 := (((((KeepsOthers.setCell W ⟨w.heap.size + 1, 0, none⟩ (.int .i64 x.k)).trans (KeepsOthers.setCell _ ⟨w.heap.size + 1, 1, none⟩ (.int .i64 x.s))).trans (KeepsOthers.setCell _ ⟨w.heap.size + 1, 2, none⟩ (.int .i64 x.q))).trans (KeepsOthers.setCell _ ⟨w.heap.size + 1, 3, none⟩ (.int .i64 x.t))).trans (KeepsOthers.setCell _ ⟨w.heap.size + 1, 4, none⟩ (.int .i64 x.o))).trans (KeepsOthers.setCell _ ⟨w.heap.size + 1, 5, none⟩ (.string x.d))
    have hk2 := ((((((Below.refl w.heap.size W).setCell (p := ⟨w.heap.size + 1, 0, none⟩) (by simp) (.int .i64 x.k)).setCell (p := ⟨w.heap.size + 1, 1, none⟩) (by simp) (.int .i64 x.s)).setCell (p := ⟨w.heap.size + 1, 2, none⟩) (by simp) (.int .i64 x.q)).setCell (p := ⟨w.heap.size + 1, 3, none⟩) (by simp) (.int .i64 x.t)).setCell (p := ⟨w.heap.size + 1, 4, none⟩) (by simp) (.int .i64 x.o)).setCell (p := ⟨w.heap.size + 1, 5, none⟩) (by simp) (.string x.d)
    refine ⟨hk1.from _, ⟨hk2, ?_⟩, ⟨?_, ?_⟩, hB.trans hk2, Nat.le_trans hzz hk2.size⟩
    · rw [Below.heap_setCell _ _ _ _ (by dsimp only; omega), Below.heap_setCell _ _ _ _ (by dsimp only; omega), Below.heap_setCell _ _ _ _ (by dsimp only; omega), Below.heap_setCell _ _ _ _ (by dsimp only; omega), Below.heap_setCell _ _ _ _ (by dsimp only; omega), Below.heap_setCell _ _ _ _ (by dsimp only; omega)]
    · rw [endR_snoc]
      exact (((((hL.set _).set _).set _).set _).set _).set _
    · repeat (with_reducible refine IsBlk.other ?_ ?_ _)
      all_goals first | exact hV | (dsimp only; omega)
  case done =>
    rintro D ys W hD rfl ⟨⟨hL, hV⟩, hB, hzz⟩ hK
    obtain ⟨y0, y1, y2, y3, y4, y5⟩ := rcCells hL
    obtain ⟨v0, v1, v2, fv0, fv1, fv2⟩ := blk3 hV
    have hds := endR_small HS.out s a n
    have HVX : Hid (valX X s n a = valR (endR (trlR X s n a))) := Lib.hid rfl
    generalize endR (trlR X s n a) = r at *
    by_cases h1 : r.k = 1
    · have h1' : (r.k == 1) = true := by simpa using h1
      have h1'' : (r.k != 1) = false := by simpa using h1
      have HVR : Hid (valR r = ⟨true, r.d, 0⟩) := by show _ = _; unfold valR; rw [if_pos h1]
      clear h1
      gi_wp2_with fail
      refine ⟨trivial, ?_⟩
      refine (callsIn_wide.2 (assemble_oneR r.d W.heap.size 1 _ (by simp) (by omega))).mono ?_
      rintro e w5 ⟨rfl, hb5⟩
      have hb5' : Below W.heap.size W w5 := ((Below.refl _ W).alloc (Nat.le_refl _) _).trans (hb5.mono (by simp))
      have hV5 := hV.below hb5' hV.lt
      have hK5 : w5.heap[D]? = some (.deferred (some [])) := (hb5'.block D (Array.getElem?_eq_some_iff.1 hK).1).trans hK
      have hB5 := hB.trans (hb5'.mono hB.size)
      clear v0 v1 v2 fv0 fv1 fv2
      obtain ⟨v0, v1, v2, fv0, fv1, fv2⟩ := blk3 hV5
      clear hb5 hb5'
      gi_wp2
      have hV6 := ((hV5.set (j := 0) (.bool true)).set (j := 1) (.string r.d)).set (j := 2) (.int .i64 0)
      have hB6 := ((hB5.setCell (p := ⟨w.heap.size, 0, none⟩) (Nat.le_refl _) (.bool true)).setCell (p := ⟨w.heap.size, 1, none⟩) (Nat.le_refl _) (.string r.d)).setCell (p := ⟨w.heap.size, 2, none⟩) (Nat.le_refl _) (.int .i64 0)
      have hK6 := ((KeepsOthers.setCell w5 ⟨w.heap.size, 0, none⟩ (.bool true)).trans ((KeepsOthers.setCell _ ⟨w.heap.size, 1, none⟩ (.string r.d)).trans (KeepsOthers.setCell _ ⟨w.heap.size, 2, none⟩ (.int .i64 0)))).same D _ hK5 rfl
      generalize ((w5.setCell ⟨w.heap.size, 0, none⟩ (.bool true)).setCell ⟨w.heap.size, 1, none⟩ (.string r.d)).setCell ⟨w.heap.size, 2, none⟩ (.int .i64 0) = w6 at hV6 hB6 hK6 ⊢
      refine ⟨by simp, .inl ⟨_, _, rfl, run_takeDeferred hK6, ?_⟩⟩
      have hV7 := hV6.kept (grownBy_putObj' w6 D (.deferred none)) (fun r e => by cases e; exact ⟨_, hK6, rfl⟩)
      obtain ⟨c0, c1, c2, -, -, -⟩ := blk3 hV7
      refine ⟨voV ⟨true, r.d, 0⟩, ?_, ?_, ?_⟩
      · simp [results, Tryz.results239, go_sem, c0, c1, c2]
      · rw [HVX.out, HVR.out]
      · exact hB6.trans (belowK_b (w := w) (Nat.le_refl _) w6 D _ _ (by omega) hK6 rfl rfl)
    · have h1' : (r.k == 1) = false := by simpa using h1
      have h1'' : (r.k != 1) = true := by simpa using h1
      have HVR : Hid (valR r = ⟨false, ⟨#[]⟩, 0⟩) := by show _ = _; unfold valR; rw [if_neg h1]
      clear h1
      gi_wp2
      have hV6 := ((hV.set (j := 0) (.bool false)).set (j := 1) (.string ⟨#[]⟩)).set (j := 2) (.int .i64 0)
      have hB6 := ((hB.setCell (p := ⟨w.heap.size, 0, none⟩) (Nat.le_refl _) (.bool false)).setCell (p := ⟨w.heap.size, 1, none⟩) (Nat.le_refl _) (.string ⟨#[]⟩)).setCell (p := ⟨w.heap.size, 2, none⟩) (Nat.le_refl _) (.int .i64 0)
      have hK6 := ((KeepsOthers.setCell W ⟨w.heap.size, 0, none⟩ (.bool false)).trans ((KeepsOthers.setCell _ ⟨w.heap.size, 1, none⟩ (.string ⟨#[]⟩)).trans (KeepsOthers.setCell _ ⟨w.heap.size, 2, none⟩ (.int .i64 0)))).same D _ hK rfl
      generalize ((W.setCell ⟨w.heap.size, 0, none⟩ (.bool false)).setCell ⟨w.heap.size, 1, none⟩ (.string ⟨#[]⟩)).setCell ⟨w.heap.size, 2, none⟩ (.int .i64 0) = w6 at hV6 hB6 hK6 ⊢
      refine ⟨by simp, .inl ⟨_, _, rfl, run_takeDeferred hK6, ?_⟩⟩
      have hV7 := hV6.kept (grownBy_putObj' w6 D (.deferred none)) (fun r e => by cases e; exact ⟨_, hK6, rfl⟩)
      obtain ⟨c0, c1, c2, -, -, -⟩ := blk3 hV7
      refine ⟨voV ⟨false, ⟨#[]⟩, 0⟩, ?_, ?_, ?_⟩
      · simp [results, Tryz.results239, go_sem, c0, c1, c2]
      · rw [HVX.out, HVR.out]
      · exact hB6.trans (belowK_b (w := w) (Nat.le_refl _) w6 D _ _ (by omega) hK6 rfl rfl)
  case stop =>
    rintro D c pre W _ _ h _
    exact h.elim
end Go.Proofs.YtloaeglmngcenaaGreatDoor
