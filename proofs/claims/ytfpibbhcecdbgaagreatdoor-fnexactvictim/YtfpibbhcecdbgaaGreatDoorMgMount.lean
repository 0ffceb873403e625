/-
  The comparison by which firstRecs sorts: cmp.Compare at int64, and the closure.
  firstRecs, the part without memory: which records are taken while their Seqs are struck off the map.
  firstRecs, of the program, over what the sort does.
  slices.SortFunc at records: the library's contract, laid on this program.
  slices.SortFunc at records, of every row that a call owns; firstRecs of the program.
  mounted and Mount, of the program.
-/
import Derived.Test.YtfpibbhcecdbgaaGreatDoorProg
import Derived.KernelRfl
import Derived.Test.YtfpibbhcecdbgaaGreatDoorRcRight
import Derived.Lib.Small
import Derived.Sort.Grow
import Derived.WalkKit
import Derived.Lib.Hide
import Derived.Test.YtfpibbhcecdbgaaGreatDoorLgPlaces
import Derived.Test.YtfpibbhcecdbgaaGreatDoorLgMountP
import Derived.Test.YtfpibbhcecdbgaaGreatDoorHsApp
import Derived.Maps.OwnSet
import Derived.Shelf.SlSortCmp.WholeK
import Derived.Shelf.SlGeneric
import Derived.Ground.SlsfProg
import Derived.Shelf.SlSortCmp.NoneTotal
import Derived.Deep.RegionHeld3
import Derived.Stop.IfaceNil
import Derived.Test.YtfpibbhcecdbgaaGreatDoorLgErr
import Derived.Test.YtfpibbhcecdbgaaGreatDoorLgMountA
import Derived.Test.YtfpibbhcecdbgaaGreatDoorHsRight
import Derived.Test.YtfpibbhcecdbgaaGreatDoorNdUse
namespace Go.Proofs.YtfpibbhcecdbgaaGreatDoor
open Go.RowKit
open Bt (Rc)

set_option maxHeartbeats 1000000 in
theorem isNaN64_any (x : Int) (w : World) : Calls Tryz.prog 254 #[.int .i64 x] w fun e w' => e = .returned (.bool false) ∧ w' = w := by
  go_enter Tryz.func254, Tryz.ntmps254
  go_wp2
  go_ret
  exact ⟨by simp, rfl⟩

set_option maxHeartbeats 1000000 in
theorem compare64_any (x y : Int) (w : World) : Calls Tryz.prog 216 #[.int .i64 x, .int .i64 y] w fun e w' => e = .returned (.int .i64 (Lib.compareInt x y)) ∧ w' = w := by
  have HC : Hid (Lib.compareInt x y = if x < y then -1 else if x > y then 1 else 0) := Lib.hid rfl
  generalize Lib.compareInt x y = r at HC ⊢
  go_enter Tryz.func216, Tryz.ntmps216
  go_wp2_with fail
  refine (isNaN64_any x w).mono ?_
  rintro e w1 ⟨rfl, rfl⟩
  go_wp2_with fail
  refine (isNaN64_any y w1).mono ?_
  rintro e w2 ⟨rfl, rfl⟩
  by_cases h1 : x < y
  · have h1' : decide (x < y) = true := decide_eq_true h1
    have HR : Hid (r = -1) := by show _ = _; rw [HC.out, if_pos h1]
    clear HC
    go_wp2
    go_ret
    exact ⟨by rw [HR.out]; rfl, rfl⟩
  · have h1' : decide (x < y) = false := decide_eq_false h1
    by_cases h2 : x > y
    · have h2' : decide (y < x) = true := decide_eq_true h2
      have HR : Hid (r = 1) := by show _ = _; rw [HC.out, if_neg h1, if_pos h2]
      clear HC
      go_wp2
      go_ret
      exact ⟨by rw [HR.out]; rfl, rfl⟩
    · have h2' : decide (y < x) = false := decide_eq_false h2
      have HR : Hid (r = 0) := by show _ = _; rw [HC.out, if_neg h1, if_neg h2]
      clear HC
      go_wp2
      go_ret
      exact ⟨by rw [HR.out]; rfl, rfl⟩

set_option maxHeartbeats 1000000 in
theorem firstRecs1_any (a b : Rc) (w : World) : Calls Tryz.prog 215 #[recV a, recV b] w fun e w' => e = .returned (.int .i64 (Lib.compareInt a.q b.q)) ∧ w' = (w.alloc (.cells (recC a).toArray 68)).alloc (.cells (recC b).toArray 68) := by
  obtain ⟨r, hr⟩ : ∃ r, r = Lib.compareInt a.q b.q := ⟨_, rfl⟩
  have HC : Hid (∀ W, Calls Tryz.prog 216 #[.int .i64 a.q, .int .i64 b.q] W fun e w' => e = .returned (.int .i64 r) ∧ w' = W) := fun W => by rw [hr]; exact compare64_any a.q b.q W
  rw [← hr]
  clear hr
  go_enter Tryz.func215, Tryz.ntmps215
  go_wp2_with fail
  refine (HC.out _).mono ?_
  rintro e w1 ⟨rfl, rfl⟩
  go_wp2
  go_ret
  exact ⟨rfl, rfl⟩
end Go.Proofs.YtfpibbhcecdbgaaGreatDoor

namespace Go.Proofs.YtfpibbhcecdbgaaGreatDoor
open Go.RowKit
open Bt (Rc)

def fltStep (g : Int → Bool) (l : List Rc) (x : Int × Rc) : List Rc := if g x.2.q = true ∧ ∀ a ∈ l, a.q ≠ x.2.q then l ++ [x.2] else l
/-- the first record of each Seq that g lets by -/
def flt (g : Int → Bool) (R : List (Int × Rc)) : List Rc := R.foldl (fltStep g) []
theorem flt_snoc (g : Int → Bool) (R : List (Int × Rc)) (x : Int × Rc) : flt g (R ++ [x]) = fltStep g (flt g R) x := by simp [flt]
theorem flt_fsts (g : Int → Bool) (R : List (Int × Rc)) (h : ∀ x ∈ R, g x.2.q = true) : flt g R = fsts R := by
  induction R using snoc_ind with
  | h0 => rfl
  | h1 R x ih =>
    rw [flt_snoc, fsts_snoc, ih (fun y hy => h y (List.mem_append_left _ hy))]
    unfold fltStep fstStep
    have hx := h x (by simp)
    simp [hx]
theorem flt_len (g : Int → Bool) (R : List (Int × Rc)) : (flt g R).length ≤ R.length := by
  induction R using snoc_ind with
  | h0 => simp [flt]
  | h1 R x ih => rw [flt_snoc, List.length_append]; unfold fltStep; split <;> simp <;> omega
/-- the map still holds the Seqs that g lets by and that are not taken -/
def Left (D : DataW Unit) (g : Int → Bool) (l : List Rc) : Prop := ∀ q, Maps.has D (.int .i64 q) = true ↔ (g q = true ∧ ∀ a ∈ l, a.q ≠ q)
theorem left_start (D : DataW Unit) : Left D (fun q => Maps.has D (.int .i64 q)) [] := fun q => by simp
theorem Left.yes {D : DataW Unit} {g : Int → Bool} {l : List Rc} (h : Left D g l) {x : Int × Rc} (hx : Maps.has D (.int .i64 x.2.q) = true) : fltStep g l x = l ++ [x.2] ∧ Left (D.del (.int .i64 x.2.q)) g (l ++ [x.2]) := by
  refine ⟨by unfold fltStep; rw [if_pos ((h x.2.q).1 hx)], fun q => ?_⟩
  by_cases e : q = x.2.q
  · subst e
    rw [Maps.has_del_same]
    constructor
    · intro h1; cases h1
    · intro h1; exact absurd rfl (h1.2 x.2 (by simp))
  · rw [Maps.has_del_other (by simpa using e), h q]
    constructor
    · rintro ⟨h1, h2⟩
      refine ⟨h1, fun a ha => ?_⟩
      rcases List.mem_append.1 ha with ha | ha
      · exact h2 a ha
      · rw [List.mem_singleton] at ha; subst ha; exact fun e' => e e'.symm
    · rintro ⟨h1, h2⟩
      exact ⟨h1, fun a ha => h2 a (List.mem_append_left _ ha)⟩
theorem Left.no {D : DataW Unit} {g : Int → Bool} {l : List Rc} (h : Left D g l) {x : Int × Rc} (hx : Maps.has D (.int .i64 x.2.q) = false) : fltStep g l x = l := by
  unfold fltStep
  rw [if_neg (fun h' => by rw [(h x.2.q).2 h'] at hx; cases hx)]
theorem tells_has {D : DataW Unit} {R : List (Int × Rc)} (h : Tells D R) {x : Int × Rc} (hx : x ∈ R) : Maps.has D (.int .i64 x.2.q) = true := by
  cases hh : Maps.has D (.int .i64 x.2.q) with
  | true => rfl
  | false =>
    have h1 := (Maps.atKey_of_not_has hh .nil).symm.trans (h.2 x.2.q)
    have h2 : x.1 ∈ plc R x.2.q := by
      unfold plc
      rw [List.mem_map]
      exact ⟨x, List.mem_filter.2 ⟨hx, by simp⟩, rfl⟩
    cases hp : plc R x.2.q with
    | nil => rw [hp] at h2; cases h2
    | cons a l => rw [hp] at h1; cases h1
/-- the map of rows, as a map alone: its reader is fixed at the world in which it was made -/
theorem map_of_groups {w : World} {P : Program} {k e : TypeId} {base b n : Nat} {D : DataW Unit} (h : w.ownsGroups P k base e .i64 b n D) : w.ownsMap P k (rowElem w base e .i64) b n D := by
  obtain ⟨es, clock, h1, h2, h3, h4, -⟩ := h
  exact ⟨es, clock, h1, h2, h3, h4⟩
end Go.Proofs.YtfpibbhcecdbgaaGreatDoor

namespace Go.Proofs.YtfpibbhcecdbgaaGreatDoor
open Go.RowKit Go.Shelf Go.ChangeShapes
open Bt (Rc)
attribute [local go_sem] Oper.semAt_some

/-- what slices.SortFunc does to a row of records that the call owns -/
def SortC : Prop := ∀ (base : Nat) (Y : List Rc) (v : Value) (W : World), Y.length ≤ 48 → W.ownsRow base 68 6 v Y.length (rcA Y) →
  Calls Tryz.prog 214 #[v, .func (.func 215) #[] #[]] W fun e W' => e = .returned (.tuple #[]) ∧
    ∃ Y' : List Rc, Y'.Perm Y ∧ Y'.Pairwise (fun a b => a.q ≤ b.q) ∧ W'.ownsRow base 68 6 v Y.length (rcA Y') ∧ W.grownBy W' v.ownBlock
/-- an answer with records, in memory of its own -/
def RetRs (w : World) (Y : List Rc) (e : Ending) (w' : World) : Prop :=
  ∃ (A : Option Addr) (ca : Nat), e = .returned (.slice A Y.length ca) ∧ Y.length ≤ ca ∧ OwRc w' w.heap.size w'.heap.size A Y.length Y ∧ Below w.heap.size w w'
theorem cap_of_own {w : World} {lo k n cap : Nat} {e : TypeId} {A : Option Addr} {xs : List Value} (h : w.ownsRow lo e k (.slice A n cap) n xs) : n ≤ cap := by
  rcases h.2 with ⟨h1, h2⟩ | ⟨g, c, cur, h1, -, -, h4, -⟩
  · simp at h1; omega
  · simp only [Value.slice.injEq] at h1; omega
theorem info_rec : (Tryz.prog.info? 68).map (fun i => (i.zero, i.size, i.bytes)) = some (some (recV Rc.zero), 6, 56) := by kernel_rfl

/-- a record, appended to the row whose slice lies in box B, and stored there -/
theorem coll6 {W w1 : World} {n₀ base B : Nat} {v v' : Value} {k m : Nat} {xs ys : List Value} {tmp : Obj} (hv : Boxed W B 58 v) (hrow : W.ownsRow base 68 6 v k xs) (hB : B < base) (hn₀ : n₀ ≤ B) (hbase : base ≤ W.heap.size)
    (hg : (W.alloc tmp).grownBy w1 v.ownBlock) (hown : w1.ownsRow base 68 6 v' m ys) :
    (∀ j, j < W.heap.size → v.ownBlock ≠ some j → w1.heap[j]? = W.heap[j]?) ∧ (∀ j, j < W.heap.size → v.ownBlock ≠ some j → j ≠ B → (w1.setCell ⟨B, 0, none⟩ v').heap[j]? = W.heap[j]?) ∧ Boxed w1 B 58 v ∧ Boxed (w1.setCell ⟨B, 0, none⟩ v') B 58 v' ∧
      (w1.setCell ⟨B, 0, none⟩ v').ownsRow base 68 6 v' m ys ∧ KeepsOthers W (w1.setCell ⟨B, 0, none⟩ v') ∧ Below n₀ W (w1.setCell ⟨B, 0, none⟩ v') ∧ W.heap.size ≤ (w1.setCell ⟨B, 0, none⟩ v').heap.size := by
  have hlt : ∀ q, v.ownBlock = some q → base ≤ q := fun q hq => (own_block_ltR hrow hq).1
  have hb1 : Below base W w1 := ((Below.refl _ W).alloc hbase tmp).grown hg (by simp; omega) hlt
  have b1 : Boxed w1 B 58 v := (hb1.block B hB).trans hv
  have h1 : ∀ j, j < W.heap.size → v.ownBlock ≠ some j → w1.heap[j]? = W.heap[j]? := fun j hj hne => (hg.block j (by simp; omega) (fun e => hne e.symm)).trans (Below.heap_alloc _ _ _ hj)
  refine ⟨h1, fun j hj hne hjB => (Below.heap_setCell _ _ _ _ (by dsimp only; exact hjB)).trans (h1 j hj hne), b1, b1.set v', own_otherR hown hB _, ?_, (hb1.mono (by omega)).setCell (p := ⟨B, 0, none⟩) hn₀ _, ?_⟩
  · refine ((KeepsOthers.alloc W tmp).trans (KeepsOthers.of_grownBy hg fun j o hj ho => ?_)).trans (KeepsOthers.setCell _ _ _)
    rcases (hrow.alloc tmp).2 with ⟨rfl, -⟩ | ⟨g, cap, cur, rfl, -, hh, -⟩
    · cases hj
    · have : g = j := by simpa [Value.ownBlock] using hj
      subst this
      rw [hh] at ho; cases ho; rfl
  · have h2 := hb1.size
    have h3 : w1.heap.size ≤ (w1.setCell ⟨B, 0, none⟩ v').heap.size := by simp [World.setCell]
    omega
theorem ownRow_cells {W : World} {base k j : Nat} {v : Value} {xs : List Value} {o : Obj} (h : W.ownsRow base 68 6 v k xs) (hj : W.heap[j]? = some o) (ho : ∀ c r, o ≠ .cells c 68 r) : v.ownBlock ≠ some j := by
  rcases h.2 with ⟨rfl, -⟩ | ⟨g, cap, cur, rfl, -, hgb, -⟩
  · simp [Value.ownBlock]
  · intro e
    have : g = j := by simpa [Value.ownBlock] using e
    subst this
    rw [hj] at hgb
    exact ho _ _ (Option.some.inj hgb)

theorem mapBlk {w w' : World} {P : Program} {k : TypeId} {R : Value → Option (DataW Unit × List MemPlace)} {b n : Nat} {D : DataW Unit} (h : w.ownsMap P k R b n D) (hb : w'.heap[b]? = w.heap[b]?) : w'.ownsMap P k R b n D := by
  obtain ⟨es, ck, h1, h2, h3, h4⟩ := h
  exact ⟨es, ck, hb.trans h1, h2, h3, h4⟩

set_option maxRecDepth 100000 in
set_option maxHeartbeats 4000000 in
theorem firstRecs_of (hsort : SortC) (A : Option Addr) (n ca : Nat) (X : List Bk) (w : World) (hok : NdOk X) (hG : ErrType w) (hA : RdBk w w.heap.size A n X) :
    Calls Tryz.prog 152 #[.agg #[.slice A n ca]] w (RetRs w (mnt (recsTo X n))) := by
  have hE : 3 < w.heap.size := World.block_lt_of_cell? w _ hG
  have HLEN : Hid ((recsTo X n).length ≤ 48) := by
    have h1 := recsTo_len hok n (by rw [hA.1]; exact Nat.le_refl _); have h2 := hok.1.2; have h3 := hA.1
    show _ ≤ _; omega
  have HGD := Lib.hid (map_nz (recsTo_good hok n (by rw [hA.1]; exact Nat.le_refl _)))
  have HA := Lib.hid hA; have HG := Lib.hid hG; have HOK := Lib.hid hok; have HSORT := Lib.hid hsort
  clear hA hG hok hsort
  obtain ⟨i0, hi, hz0, hz1, hz2⟩ := info_parts info_rec
  have Hi := Lib.hid hi; have Z0 := Lib.hid hz0; have Z1 := Lib.hid hz1; have Z2 := Lib.hid hz2
  clear hi hz0 hz1 hz2
  refine (callsIn_wide (n := 3)).1 ?_
  refine callsIn_of_wp_marks Tryz.func152 rfl trivial ?_ rfl
  simp only [Tryz.ntmps152, List.size_toArray, List.length_cons, List.length_nil, Nat.reduceAdd, Nat.reduceSub, Array.replicate_succ, Array.replicate_zero, List.push_toArray, List.append_toArray, List.nil_append, List.cons_append]
  gi_wp2_with fail
  have hb0 : Below w.heap.size w (w.alloc (.cells #[.slice A n ca] 28)) := (Below.refl _ _).alloc (Nat.le_refl _) _
  have k0 := isBlk_new w 28 [.slice A n ca]
  change IsBlk (w.alloc (.cells #[.slice A n ca] 28)) _ _ _ at k0
  have hs0 : (w.alloc (.cells #[.slice A n ca] 28)).heap.size = w.heap.size + 1 := by simp
  generalize w.alloc (.cells #[.slice A n ca] 28) = U0 at hb0 k0 hs0 ⊢
  refine ⟨trivial, ?_⟩
  refine (callsIn_wide.2 (placesBySeq_any A n ca X U0 HOK.out (HG.out.below hb0) ((HA.out.below hb0).mono hb0.size))).mono ?_
  rintro e w1 ⟨b, base, D, rfl, hown, hT, hbb, hb1⟩
  have hmap := map_of_groups hown
  have hbw : b < w1.heap.size := by obtain ⟨es, ck, h, -⟩ := hown; exact lt_of_block h
  have HTH : Hid (∀ x ∈ recsTo X n, Maps.has D (.int .i64 x.2.q) = true) := fun x hx => tells_has hT hx
  have hB1 : Below w.heap.size w w1 := hb0.trans (hb1.mono hb0.size)
  have k1 := k0.below hb1 k0.lt
  have hx1 : w1.cell? ⟨w.heap.size, 0, none⟩ = some (.slice A n ca) := k1.cell rfl
  have hlt0 : w.heap.size < w1.heap.size := k1.lt
  obtain ⟨Rd, hRd⟩ : ∃ Rd : Value → Option (DataW Unit × List MemPlace), Rd = rowElem w1 base 2 .i64 := ⟨_, rfl⟩
  have HRZ : Hid (Rd (.slice none 0 0) = some (.nil, [])) := by show _ = _; rw [hRd]; exact rowElem_mk (World.ownsInts_nil _ _ _ _)
  rw [← hRd] at hmap
  clear hown hT hb1 k0 k1 hb0 hRd
  gi_wp2_with fail
  refine ⟨trivial, ?_⟩
  refine (callsIn_wide.2 (recsOn_any A n ca _)).mono ?_
  rintro e w3 ⟨rfl, rfl⟩
  have bM := ((Boxed.new w1 156 (.map (some b))).alloc (.cells #[.slice none 0 0] 58)).alloc (.cells #[.slice A n ca] 28)
  have bR := (Boxed.new (w1.alloc (.cells #[.map (some b)] 156)) 58 (.slice none 0 0)).alloc (.cells #[.slice A n ca] 28)
  have bN := Boxed.new ((w1.alloc (.cells #[.map (some b)] 156)).alloc (.cells #[.slice none 0 0] 58)) 28 (.slice A n ca)
  have hm0 := ((hmap.alloc (.cells #[.map (some b)] 156)).alloc (.cells #[.slice none 0 0] 58)).alloc (.cells #[.slice A n ca] 28)
  have hBW : Below w1.heap.size w1 (((w1.alloc (.cells #[.map (some b)] 156)).alloc (.cells #[.slice none 0 0] 58)).alloc (.cells #[.slice A n ca] 28)) := (((Below.refl _ _).alloc (Nat.le_refl _) _).alloc (by simp) _).alloc (by simp; omega) _
  have hsW : (((w1.alloc (.cells #[.map (some b)] 156)).alloc (.cells #[.slice none 0 0] 58)).alloc (.cells #[.slice A n ca] 28)).heap.size = w1.heap.size + 3 := by simp
  simp only [World.size_alloc] at bR bN ⊢
  generalize ((w1.alloc (.cells #[.map (some b)] 156)).alloc (.cells #[.slice none 0 0] 58)).alloc (.cells #[.slice A n ca] 28) = W0 at bM bR bN hm0 hBW hsW ⊢
  have hB0 : Below w.heap.size w W0 := hB1.trans (hBW.mono hB1.size)
  have hR0 := HA.out.below hB0
  have hG0 := HG.out.below hB0
  obtain ⟨g, hg⟩ : ∃ g : Int → Bool, g = fun q => Maps.has D (.int .i64 q) := ⟨_, rfl⟩
  have hLs : Left D g [] := by rw [hg]; exact left_start D
  have HFL : Hid (flt g (recsTo X n) = fsts (recsTo X n)) := flt_fsts g _ (fun x hx => by rw [hg]; exact HTH.out x hx)
  clear hg hx1 hmap
  gi_wp2
  refine wpIn_rangeFunc_ownH rfl (by omega) (gf := 248) (lb := #[.pointer (some ⟨w1.heap.size + 1 + 1, 0, none⟩)]) rfl trivial (enters_of Tryz.func248 (by kernel_rfl) rfl)
    (recs_stops _ (by omega) (w1.heap.size + 1 + 1) w.heap.size A n ca X W0 HOK.out (by omega) hE hG0 bN hR0) KpR.t (KpR.b (by omega) (by omega)) (Below.refl _ _) (fun _ => rfl)
    (fun pre W => (∃ D' v, W.ownsMap Tryz.prog 2 Rd b (recsTo X n).length D' ∧ Left D' g (flt g (pre.map nz)) ∧ Boxed W w1.heap.size 156 (.map (some b)) ∧ Boxed W (w1.heap.size + 1) 58 v ∧ W.ownsRow W0.heap.size 68 6 v (flt g (pre.map nz)).length (rcA (flt g (pre.map nz))) ∧ Boxed W (w1.heap.size + 1 + 1) 28 (.slice A n ca)) ∧ (Below w.heap.size w W ∧ W0.heap.size ≤ W.heap.size))
    (fun _ _ _ => False)
    (OwnFrom.and (fun s A' B' row hs hg hr => by
      obtain ⟨D', v, h1, h2, h3, h4, h5, h6⟩ := hs
      refine ⟨D', v, h1.kept hg (fun e => ?_), h2, h3.kept hg (fun e => ?_), h4.kept hg (fun e => ?_), own_sameR h5 (fun q hq => hg.block q (own_block_ltR h5 hq).2 (fun e => ?_)), h6.kept hg (fun e => ?_)⟩
      · have := (hr _ e.symm).1; omega
      · have := (hr _ e.symm).1; omega
      · have := (hr _ e.symm).1; omega
      · obtain ⟨o, ho, hc⟩ := (hr q e.symm).2
        rcases h5.2 with ⟨rfl, -⟩ | ⟨g', cap, cur, rfl, -, hgb, -⟩
        · cases hq
        · have : g' = q := by simpa [Value.ownBlock] using hq
          subst this
          rw [hgb] at ho; cases ho; cases hc
      · have := (hr _ e.symm).1; omega) (OwnFrom.and (ownFrom_below (Nat.le_refl _) (by omega)) (fun _ _ _ _ hs hg _ => Nat.le_trans hs hg.size)))
    (fun _ _ _ _ _ hs _ _ => hs)
    ⟨⟨D, _, hm0, hLs, bM, bR, World.ownsRow_nil _ _ _ _, bN⟩, hB0, Nat.le_refl _⟩
    (fun x a' W => ∃ Bx, W0.heap.size ≤ Bx ∧ IsBlk W Bx 68 (recC (nz x).2) ∧ (∀ v, Boxed W (w1.heap.size + 1) 58 v → v.ownBlock ≠ some Bx) ∧ a' = { tmps := #[.agg #[.slice A n ca], .pointer (some ⟨w.heap.size, 0, none⟩), .slice none 0 0, .pointer (some ⟨w1.heap.size, 0, none⟩), .pointer (some ⟨w1.heap.size + 1, 0, none⟩), undef, .pointer (some ⟨Bx, 0, none⟩), undef, undef, .agg #[.slice A n ca], .map (some b), .agg #[.slice A n ca], .func (.func 248) #[] #[.pointer (some ⟨w1.heap.size + 1 + 1, 0, none⟩)], .int .i64 (nz x).1, recV (nz x).2, undef, undef, undef, undef, undef, undef, undef, undef, undef, undef, undef, undef, undef, undef, undef, undef, undef, undef, undef], defers := [] })
    (fun x a' _ X' Y row hs hg hr => by
      obtain ⟨Bx, h1, h2, h3, h4⟩ := hs
      have h2' : X'.heap[Bx]? = some (.cells (recC (nz x).2).toArray 68 (0, 0)) := h2
      refine ⟨Bx, h1, (hg.block Bx h2.lt (fun e => ?_)).trans h2, fun v hv => h3 v ?_, h4⟩
      · obtain ⟨o, ho, hc⟩ := (hr Bx e.symm).2
        rw [h2'] at ho; cases ho; cases hc
      · exact (hg.block (w1.heap.size + 1) (by have := h2.lt; omega) (fun e => by have := (hr _ e.symm).1; omega)).symm.trans hv)
    ?assign ?body ?done ?stop
  case assign =>
    rintro l pre x W K ⟨⟨D', v, h1, h2, h3, h4, h5, h6⟩, hB, hz⟩ hK
    gi_wp2
    refine hK _ _ ((KeepsOthers.alloc _ _).from _) (KpR.of_below ((Below.refl _ W).alloc (Nat.le_refl _) _) hB.size h6.lt) ⟨⟨D', v, h1.alloc _, h2, h3.alloc _, h4.alloc _, own_belowR h5 ((Below.refl _ W).alloc (Nat.le_refl _) _), h6.alloc _⟩, hB.alloc hB.size _, by simp; omega⟩ ⟨W.heap.size, hz, isBlk_new W 68 (recC (nz x).2), fun v' hv' e => ?_, rfl⟩
    have hvv : v' = v := by
      have h7 : Boxed (W.alloc (.cells (recC (nz x).2).toArray 68)) (w1.heap.size + 1) 58 v := h4.alloc _
      have h8 := h7.cell.symm.trans hv'.cell
      exact (Option.some.inj h8).symm
    subst hvv
    have := (own_block_ltR h5 e).2
    omega
  case body =>
    rintro l pre x a' W hl ⟨r, hr⟩ ⟨⟨D', v, hmp, hL, hbm, hbr, hrow, hbn⟩, hB, hz⟩ ⟨Bx, hBx, kX, hne, rfl⟩ hlt
    obtain ⟨⟨b1, b2⟩, b3, b4⟩ := nz_bounds x
    have HNE := Lib.hid (hne v hbr)
    have HLf : Hid (Left D' g (flt g (pre.map nz))) := hL
    have hkey := Maps.keyOf_int_mk Tryz.underlying2 (a := (nz x).2.q) (WalkArith.wf_i64 (by omega))
    have HSN : Hid (flt g ((pre ++ [x]).map nz) = fltStep g (flt g (pre.map nz)) (nz x)) := by show _ = _; rw [List.map_append, List.map_singleton, flt_snoc]
    have hFl : (flt g (pre.map nz)).length ≤ 48 := by have h1 := flt_len g (pre.map nz); rw [List.length_map] at h1; omega
    have hc := hbm.cell
    have hcr := hbr.cell
    have hfr := hbr.frozen
    obtain ⟨x0, x1, x2, x3, x4, x5⟩ := rcCells kX
    obtain ⟨Av, cv, rfl⟩ := own_slice hrow
    clear hL hne
    generalize hFL : (flt g (pre.map nz)) = F at *
    clear hFL
    cases hh : Maps.has D' (.int .i64 (nz x).2.q) with
    | false =>
      have HFN := Lib.hid (HLf.out.no (x := nz x) hh)
      gi_wp2_with (gi_at_lookup; refine wpListIn_lookup_own_ok _ rfl _ _ 156 rfl 2 79 (Maps.int_keyed Tryz.underlying2) Tryz.underlying156 Rd (zeroRow _) .nil [] HRZ.out b (recsTo X n).length D' rfl hmp _ _ rfl hkey ?_; intro v0 ps hv0; rw [hh])
      exact ⟨KeepsFrom.refl _ _, KpR.of_below (Below.refl _ _) hB.size hbn.lt, ⟨⟨D', _, hmp, by rw [HSN.out, HFN.out]; exact HLf.out, hbm, hbr, by rw [HSN.out, HFN.out]; exact hrow, hbn⟩, hB, hz⟩⟩
    | true =>
      obtain ⟨hfy, hly⟩ := HLf.out.yes (x := nz x) hh
      have HFY := Lib.hid hfy; have HLY := Lib.hid hly
      clear hfy hly
      have hbmh : W.heap[w1.heap.size]? = some (.cells #[.map (some b)] 156 (0, 0)) := hbm
      have hbnh : W.heap[w1.heap.size + 1 + 1]? = some (.cells #[.slice A n ca] 28 (0, 0)) := hbn
      have hmb := hmp.lt
      have HO1 := Lib.hid (ownRow_cells hrow hbmh (fun c r e => by cases e))
      have HO2 := Lib.hid (ownRow_cells hrow hbnh (fun c r e => by cases e))
      have HO3 : Hid ((Value.slice Av F.length cv).ownBlock ≠ some b) := by
        obtain ⟨es, ck, h, -⟩ := hmp
        exact ownRow_cells hrow h (fun c r e => by cases e)
      have HO4 : Hid (∀ (j : Nat) (c : Array Value) (r : Nat × Nat), W.heap[j]? = some (.cells c 233 r) → (Value.slice Av F.length cv).ownBlock ≠ some j) := fun j c r h => ownRow_cells hrow h (fun c r e => by cases e)
      have HCEL : ∀ j u, (recC (nz x).2)[j]? = some u → (W.alloc (.cells (recC (nz x).2).toArray 68)).cell? (Addr.add ⟨W.heap.size, 0, none⟩ j) = some u := fun j u hj => by rw [add_off, Nat.zero_add]; exact (isBlk_new W 68 (recC (nz x).2)).cell hj
      gi_wp2_with (first
        | (gi_at_lookup; refine wpListIn_lookup_own_ok _ rfl _ _ 156 rfl 2 79 (Maps.int_keyed Tryz.underlying2) Tryz.underlying156 Rd (zeroRow _) .nil [] HRZ.out b (recsTo X n).length D' rfl hmp _ _ rfl hkey ?_; intro v0 ps hv0; rw [hh])
        | (gi_at_delete; refine wpListIn_delete_own _ rfl _ _ 156 2 rfl 79 (Maps.int_keyed Tryz.underlying2) Tryz.underlying156 Rd b (recsTo X n).length D' rfl hm6 _ _ rfl hkey ?_; intro w7 hm7 ht7)
        | (gi_at_builtin; refine wpListIn_append_own _ rfl _ _ 58 rfl W0.heap.size 68 i0 (recV Rc.zero) 6 56 Tryz.underlying58 Hi.out Z0.out Z1.out Z2.out rfl (by decide) _ _ _ rfl (hrow.alloc _) ⟨W.heap.size, 0, none⟩ 1 1 (recC (nz x).2) rfl rfl HCEL (recC_one _) (by unfold maxLen; omega) (by omega) (by simp; omega) ?_; intro v' w5 hown' hgrow _; obtain ⟨g', cap', rfl⟩ := ownsRow_succ hown'; obtain ⟨c1, c2, c3, c4, c5, c6, c7, c8⟩ := coll6 (n₀ := w.heap.size) hbr hrow (by omega) (by omega) hz hgrow hown'; have hcr5 := c3.cell; have hfr5 := c3.frozen; have hm6 := mapBlk hmp (c2 b hmb HO3.out (by omega)); have bm6 : Boxed _ w1.heap.size 156 (.map (some b)) := (c2 _ (lt_of_block hbmh) HO1.out (by omega)).trans hbmh; have hcm6 := bm6.cell; have kX6 : IsBlk _ Bx 68 (recC (nz x).2) := (c2 Bx kX.lt HNE.out (by omega)).trans kX; obtain ⟨y0, y1, y2, y3, y4, y5⟩ := rcCells kX6))
      have hg7 := ht7.grown
      have hbrh : W.heap[w1.heap.size + 1]? = some (.cells #[.slice Av F.length cv] 58 (0, 0)) := hbr
      have hT : ∀ j, j < W.heap.size → j ≠ b → w7.heap[j]? = (w5.setCell ⟨w1.heap.size + 1, 0, none⟩ (.slice (some ⟨g', 0, none⟩) (F.length + 1) cap')).heap[j]? := fun j hj hnb => hg7.block j (Nat.lt_of_lt_of_le hj c8) (fun e => hnb (by simpa using e))
      have z1 : Boxed w7 w1.heap.size 156 (.map (some b)) := (hT _ (lt_of_block hbmh) (by omega)).trans bm6
      have z2 : Boxed w7 (w1.heap.size + 1) 58 (.slice (some ⟨g', 0, none⟩) (F.length + 1) cap') := (hT _ hbr.lt (by omega)).trans c4
      have z3 : Boxed w7 (w1.heap.size + 1 + 1) 28 (.slice A n ca) := (hT _ (lt_of_block hbnh) (by omega)).trans ((c2 _ (lt_of_block hbnh) HO2.out (by omega)).trans hbnh)
      have z4 : w7.ownsRow W0.heap.size 68 6 (.slice (some ⟨g', 0, none⟩) (F.length + 1) cap') (F.length + 1) (rcA F ++ recC (nz x).2) := own_sameR c5 (fun q hq => hg7.block q (own_block_ltR c5 hq).2 (fun e => by have h1 := (own_block_ltR c5 hq).1; have h2 : q = b := (by simpa using e); omega))
      have z5 : KpR w.heap.size (w1.heap.size + 1 + 1) W w7 := by
        refine ⟨c7.grown hg7 (Nat.le_trans hB.size c8) (fun k e => by cases e; omega), z3.trans hbnh.symm, fun j c r h => (hT j (lt_of_block h) (fun e => ?_)).trans (c2 j (lt_of_block h) (HO4.out j c r h) (fun e => ?_))⟩
        · subst e; obtain ⟨es, ck, hh, -⟩ := hmp; rw [hh] at h; cases h
        · subst e; rw [hbrh] at h; cases h
      exact ⟨(c6.from _).trans (KeepsFrom.of_grownBy hg7 (fun j e => by cases e; omega)), z5, ⟨⟨_, _, hm7, by rw [HSN.out, HFY.out]; exact HLY.out, z1, z2, by rw [HSN.out, HFY.out, rcA_snoc, List.length_append]; exact z4, z3⟩, hB.trans z5.1, Nat.le_trans hz z5.1.size⟩⟩
  case done =>
    rintro Dd ys W hD rfl ⟨⟨D', v, -, -, -, hbr, hrow, -⟩, hB, hz⟩ hK
    rw [HGD.out, HFL.out] at hrow
    have hcr := hbr.cell
    have hF48 : (fsts (recsTo X n)).length ≤ 48 := by
      have h1 := flt_len g (recsTo X n); rw [HFL.out] at h1; have := HLEN.out; omega
    obtain ⟨Av, cv, rfl⟩ := own_slice hrow
    gi_wp2_with fail
    refine ⟨trivial, ?_⟩
    refine (callsIn_wide.2 (HSORT.out W0.heap.size (fsts (recsTo X n)) _ W hF48 hrow)).mono ?_
    rintro e w4 ⟨rfl, Y', hp, hsrt, hown4, hg4⟩
    have hY := sorted_mnt hp hsrt
    subst hY
    have hbrh : W.heap[w1.heap.size + 1]? = some (.cells #[.slice Av (fsts (recsTo X n)).length cv] 58 (0, 0)) := hbr
    have hbr4 : Boxed w4 (w1.heap.size + 1) 58 (.slice Av (fsts (recsTo X n)).length cv) := (hg4.block _ hbr.lt (fun e => ownRow_cells hrow hbrh (fun c r e => by cases e) e.symm)).trans hbr
    have hK4 : w4.heap[Dd]? = some (.deferred (some [])) := (hg4.block _ (lt_of_block hK) (fun e => ownRow_cells hrow hK (fun c r e => by cases e) e.symm)).trans hK
    have hc4 := hbr4.cell
    have hB4 : Below w.heap.size w w4 := hB.grown hg4 hB.size (fun k e => by have := (own_block_ltR hrow e).1; omega)
    have hlen := hp.length_eq
    gi_wp2
    refine ⟨by simp, .inl ⟨_, _, rfl, run_takeDeferred hK4, ?_⟩⟩
    refine ⟨_, results_tmp rfl _ _ _, ?_⟩
    rw [← hlen] at hown4 ⊢
    have hrow' := ownsRow_putObj hown4 (.deferred none) hK4 rfl
    exact ⟨Av, cv, rfl, cap_of_own hrow', (ow_of_own hrow').mono (by omega) (Nat.le_refl _), hB4.trans (belowK_b (w := w) (Nat.le_refl _) w4 Dd _ _ (by omega) hK4 rfl rfl)⟩
  case stop =>
    rintro D c pre W _ _ h _
    exact h.elim
end Go.Proofs.YtfpibbhcecdbgaaGreatDoor

namespace Go.Proofs.YtfpibbhcecdbgaaGreatDoor
open Go.Shelf Go.RowKit Go.Lib Go.Sort
open Bt (Rc)
instance : Inhabited Rc := ⟨Rc.zero⟩
def sortLay_ren : Go.Shelf.Ren := ⟨fun | 6 => 214 | 15 => 253 | 14 => 252 | 28 => 275 | 29 => 276 | 20 => 267 | 21 => 268 | 22 => 269 | 23 => 270 | 24 => 271 | 25 => 272 | 26 => 273 | 27 => 274 | 46 => 285 | 47 => 286 | 48 => 287 | 49 => 288 | 50 => 289 | 57 => 298 | n => n, fun | 22 => 58 | 24 => 68 | 25 => 250 | 3 => 3 | 39 => 213 | 0 => 0 | 53 => 272 | 55 => 209 | 4 => 4 | 46 => 304 | 45 => 303 | 50 => 308 | 5 => 5 | 9 => 9 | 66 => 316 | 70 => 320 | 76 => 327 | 77 => 328 | n => n, fun | n => n⟩
theorem sortLay : Go.Proofs.SlLaysF0.n6 Tryz.prog sortLay_ren := {
  mixed := by kernel_rfl
  f6 := ⟨Tryz.f214.name, by decide, Tryz.func214.trans (congrArg some (by kernel_rfl))⟩
  f14 := ⟨Tryz.f252.name, by decide, Tryz.func252.trans (congrArg some (by kernel_rfl))⟩
  f15 := Tryz.func253.trans (congrArg some (by kernel_rfl))
  f20 := ⟨Tryz.f267.name, by decide, Tryz.func267.trans (congrArg some (by kernel_rfl))⟩
  f21 := ⟨Tryz.f268.name, by decide, Tryz.func268.trans (congrArg some (by kernel_rfl))⟩
  f22 := ⟨Tryz.f269.name, by decide, Tryz.func269.trans (congrArg some (by kernel_rfl))⟩
  f23 := ⟨Tryz.f270.name, by decide, Tryz.func270.trans (congrArg some (by kernel_rfl))⟩
  f24 := ⟨Tryz.f271.name, by decide, Tryz.func271.trans (congrArg some (by kernel_rfl))⟩
  f25 := ⟨Tryz.f272.name, by decide, Tryz.func272.trans (congrArg some (by kernel_rfl))⟩
  f26 := ⟨Tryz.f273.name, by decide, Tryz.func273.trans (congrArg some (by kernel_rfl))⟩
  f27 := ⟨Tryz.f274.name, by decide, Tryz.func274.trans (congrArg some (by kernel_rfl))⟩
  f28 := Tryz.func275.trans (congrArg some (by kernel_rfl))
  f29 := Tryz.func276.trans (congrArg some (by kernel_rfl))
  f46 := ⟨Tryz.f285.name, by decide, Tryz.func285.trans (congrArg some (by kernel_rfl))⟩
  f47 := Tryz.func286.trans (congrArg some (by kernel_rfl))
  f48 := Tryz.func287.trans (congrArg some (by kernel_rfl))
  f49 := ⟨Tryz.f288.name, by decide, Tryz.func288.trans (congrArg some (by kernel_rfl))⟩
  f50 := ⟨Tryz.f289.name, by decide, Tryz.func289.trans (congrArg some (by kernel_rfl))⟩
  f57 := ⟨Tryz.f298.name, by decide, Tryz.func298.trans (congrArg some (by kernel_rfl))⟩
  t0 := Tryz.underlying0
  a0 := Tryz.isAgg0
  z0 := Tryz.sizeOf0
  v0 := Tryz.zeroValue0
  t3 := Tryz.underlying3
  a3 := Tryz.isAgg3
  z3 := Tryz.sizeOf3
  v3 := Tryz.zeroValue3
  t4 := Tryz.underlying4
  a4 := Tryz.isAgg4
  z4 := Tryz.sizeOf4
  v4 := Tryz.zeroValue4
  t5 := Tryz.underlying5
  a5 := Tryz.isAgg5
  z5 := Tryz.sizeOf5
  v5 := Tryz.zeroValue5
  t9 := Tryz.underlying9
  a9 := Tryz.isAgg9
  z9 := Tryz.sizeOf9
  v9 := Tryz.zeroValue9
  t22 := Tryz.underlying58
  a22 := Tryz.isAgg58
  z22 := Tryz.sizeOf58
  v22 := Tryz.zeroValue58
  t25 := Tryz.underlying250
  a25 := Tryz.isAgg250
  z25 := Tryz.sizeOf250
  v25 := Tryz.zeroValue250
  t39 := Tryz.underlying213
  a39 := Tryz.isAgg213
  z39 := Tryz.sizeOf213
  v39 := Tryz.zeroValue213
  t45 := Tryz.underlying303
  a45 := Tryz.isAgg303
  z45 := Tryz.sizeOf303
  v45 := Tryz.zeroValue303
  t46 := Tryz.underlying304
  a46 := Tryz.isAgg304
  z46 := Tryz.sizeOf304
  v46 := Tryz.zeroValue304
  t50 := Tryz.underlying308
  a50 := Tryz.isAgg308
  z50 := Tryz.sizeOf308
  v50 := Tryz.zeroValue308
  t53 := Tryz.underlying272
  a53 := Tryz.isAgg272
  z53 := Tryz.sizeOf272
  v53 := Tryz.zeroValue272
  t55 := Tryz.underlying209
  a55 := Tryz.isAgg209
  z55 := Tryz.sizeOf209
  v55 := Tryz.zeroValue209
  t66 := Tryz.underlying316
  a66 := Tryz.isAgg316
  z66 := Tryz.sizeOf316
  v66 := Tryz.zeroValue316
  t70 := Tryz.underlying320
  a70 := Tryz.isAgg320
  z70 := Tryz.sizeOf320
  v70 := Tryz.zeroValue320
  t76 := Tryz.underlying327
  a76 := Tryz.isAgg327
  z76 := Tryz.sizeOf327
  v76 := Tryz.zeroValue327
  t77 := Tryz.underlying328
  a77 := Tryz.isAgg328
  z77 := Tryz.sizeOf328
  v77 := Tryz.zeroValue328 }

theorem cmpLays1 (blk off size : Nat) (w : World) : CmpLays Tryz.prog 215 #[] recC 6 (fun x y : Rc => Lib.compareInt x.q y.q) blk off size w :=
  fun _ _ _ _ x y => (firstRecs1_any x y _).mono fun _ _ ⟨he, hw⟩ => by subst hw; exact ⟨he, 0, _, by rw [alloc_eq_grow, alloc_eq_grow, grow_grow]; rfl⟩
theorem ltQ (x y : Rc) : ltOf (fun x y : Rc => Lib.compareInt x.q y.q) x y = decide (x.q < y.q) := by
  unfold ltOf Lib.compareInt
  by_cases h1 : x.q < y.q
  · simp [h1]
  · by_cases h2 : y.q < x.q <;> simp [h1, h2]
theorem swoQ : SWO (ltOf fun x y : Rc => Lib.compareInt x.q y.q) where
  irrefl x := by rw [ltQ]; simp
  trans x y z h1 h2 := by rw [ltQ] at *; simp at *; omega
  ntrans x y z h1 h2 := by rw [ltQ] at *; simp at *; omega
theorem agRec : ∀ w, (isAgg 68).run Tryz.prog w = .ok true w := fun w => by kernel_rfl
theorem szRecT : ∀ w, (Go.sizeOf 68).run Tryz.prog w = .ok 6 w := fun w => by kernel_rfl
theorem recC_cells (x : Rc) : ∀ v ∈ recC x, v.oneCell' = true := by
  intro u hu
  simp only [recC, List.mem_cons, List.not_mem_nil, or_false] at hu
  rcases hu with h | h | h | h | h | h <;> subst h <;> rfl
/-- the sort of a row that lies in a block: the library's own words -/
theorem sort_whole (blk off cap : Nat) (d : Array Rc) (w : World) (hH : HoldsK recC 6 w blk off d) (hblk : blk < w.heap.size) (hsz : d.size < 4611686018427387904) :
    Calls Tryz.prog 214 #[.slice (some ⟨blk, off, none⟩) d.size cap, .func (.func 215) #[] #[]] w fun e w' => e = .returned (.tuple #[]) ∧ ∃ d' n os, PermIn 0 d.size d d' ∧ SortedIn (ltOf fun x y : Rc => Lib.compareInt x.q y.q) 0 d.size d' ∧ w' = sortWorldK recC 6 w blk off n d' os :=
  AnyQ.slices_SortFunc sortLay 6 agRec szRecT recC (fun _ => rfl) recC_cells (fun x y => Lib.compareInt x.q y.q) swoQ 215 #[] blk off cap d w (enters_of Tryz.func215 (by kernel_rfl) rfl) (cmpLays1 blk off d.size w) hH hblk hsz
/-- sorted, in lists' words -/
theorem sorted_list {d d' : Array Rc} (hp : PermIn 0 d.size d d') (hs : SortedIn (ltOf fun x y : Rc => Lib.compareInt x.q y.q) 0 d.size d') : d'.toList.Perm d.toList ∧ d'.toList.Pairwise (fun a b => a.q ≤ b.q) := by
  obtain ⟨h1, -, h3⟩ := hp
  constructor
  · have e1 : d'.extract 0 d.size = d' := by rw [← h1]; simp
    have e2 : d.extract 0 d.size = d := by simp
    rw [e1, e2] at h3
    exact h3
  · rw [List.pairwise_iff_getElem]
    intro i j hi hj hij
    have hi' : i < d'.size := by simpa using hi
    have hj' : j < d'.size := by simpa using hj
    have h := hs i j (Nat.zero_le _) hij (by omega)
    rw [ltQ, getElem!_pos d' j hj', getElem!_pos d' i hi'] at h
    simp at h
    simpa using h
/-- the cells of a row of records, as the library's flat row -/
theorem flat_rcF (Y : List Rc) (j : Nat) (h : j < Y.length * 6) : (flatK recC 6 Y.toArray)[j]! = rcF Y j := by
  rw [get_flatK _ _ _ _ (by simpa using h)]
  have h1 : j / 6 < Y.length := by omega
  have h2 : j % 6 < 6 := Nat.mod_lt _ (by omega)
  unfold rcF
  have e1 : Y.toArray[j / 6]! = Y.getD (j / 6) Rc.zero := by simp [h1, List.getD]
  rw [e1]
  generalize Y.getD (j / 6) Rc.zero = r
  have h3 : j % 6 < (recC r).length := h2
  rw [getElem!_pos (recC r) (j % 6) h3, List.getElem?_eq_getElem h3]
  rfl
theorem sort_main (base g cap : Nat) (Y : List Rc) (W : World) (hY : Y.length ≤ 48) (hrow : W.ownsRow base 68 6 (.slice (some ⟨g, 0, none⟩) Y.length cap) Y.length (rcA Y)) :
    Calls Tryz.prog 214 #[.slice (some ⟨g, 0, none⟩) Y.length cap, .func (.func 215) #[] #[]] W fun e W' => e = .returned (.tuple #[]) ∧
      ∃ Y' : List Rc, Y'.Perm Y ∧ Y'.Pairwise (fun a b => a.q ≤ b.q) ∧ W'.ownsRow base 68 6 (.slice (some ⟨g, 0, none⟩) Y.length cap) Y.length (rcA Y') ∧ W.grownBy W' (Value.slice (some ⟨g, 0, none⟩) Y.length cap).ownBlock := by
  have hR := row_of_ownR hrow (rcA_at Y)
  have hH : HoldsK recC 6 W g 0 Y.toArray := by
    intro j hj
    have hj' : j < Y.length * 6 := by simpa using hj
    rw [Nat.zero_add]
    refine ⟨?_, hR.free j⟩
    rw [hR.cell hj', flat_rcF Y j hj']
    rfl
  have h := sort_whole g 0 cap Y.toArray W hH hR.lt (by simp; omega)
  rw [show Y.toArray.size = Y.length by simp] at h
  refine h.mono ?_
  rintro e w' ⟨rfl, d', n, os, hp, hs, rfl⟩
  obtain ⟨p1, p2⟩ := sorted_list (d := Y.toArray) (by simpa using hp) (by simpa using hs)
  refine ⟨rfl, d'.toList, by simpa using p1, p2, ?_, ?_⟩
  · have hl : d'.toList.length = Y.length := by simpa using p1.length_eq
    rcases hrow.2 with ⟨hv, -⟩ | ⟨g', cap', cur, hv, hb, hh, hn, hcap, hsz, ht⟩
    · cases hv
    · simp only [Value.slice.injEq, Option.some.injEq, Addr.mk.injEq] at hv
      obtain ⟨⟨rfl, -⟩, -, rfl⟩ := hv
      have hgl := lt_of_block hh
      refine ⟨by rw [rcA_len, hl], .inr ⟨g, cap, putCells id 0 (flatK recC 6 d') cur, rfl, hb, ?_, hn, hcap, by simpa [putCells] using hsz, ?_⟩⟩
      · unfold sortWorldK putRowK putRow mapBlock grow Sort.ahead
        simp only
        rw [Array.getElem?_append_left (by simpa using hgl), Array.getElem?_modify, if_pos rfl, hh]
        rfl
      · have hcs : Y.length * 6 ≤ cur.size := by rw [hsz]; exact Nat.mul_le_mul_right _ hn
        refine List.ext_getElem? (fun i => ?_)
        by_cases hi : i < Y.length * 6
        · rw [List.getElem?_take_of_lt hi, rcA_at _ i (by rw [hl]; exact hi)]
          have hi2 : i < cur.size := by omega
          have hds : d'.size = Y.length := by simpa using hl
          have h6 : i < (flatK recC 6 d').size := by rw [size_flatK, hds]; exact hi
          simp only [putCells, Array.getElem?_toList, Array.getElem?_mapIdx, Array.getElem?_eq_getElem hi2, Option.map_some]
          rw [if_pos ⟨Nat.zero_le _, by omega⟩, Nat.sub_zero]
          have := flat_rcF d'.toList i (by rw [hl]; exact hi)
          rw [Array.toArray_toList] at this
          rw [this]
          rfl
        · rw [List.getElem?_eq_none (by simp; omega), List.getElem?_eq_none (by rw [rcA_len, hl]; omega)]
  · have hgl : g < W.heap.size := hR.lt
    refine ⟨rfl, rfl, rfl, ?_, fun k hk hne => ?_⟩
    · unfold sortWorldK putRowK putRow mapBlock grow Sort.ahead
      simp
    · have hkg : g ≠ k := fun e => hne (by rw [e]; rfl)
      unfold sortWorldK putRowK putRow mapBlock grow Sort.ahead
      simp only
      rw [Array.getElem?_append_left (by simpa using hk), Array.getElem?_modify, if_neg hkg]
end Go.Proofs.YtfpibbhcecdbgaaGreatDoor

namespace Go.Proofs.YtfpibbhcecdbgaaGreatDoor
open Go.Shelf Go.RowKit Go.Lib Go.Sort
open Bt (Rc)
theorem sortC : SortC := by
  intro base Y v W hY hrow
  rcases hrow.2 with ⟨hv, hn⟩ | ⟨g, cap, cur, hv, -⟩
  · have hY0 : Y = [] := List.length_eq_zero_iff.1 hn
    subst hv hY0
    refine (AnyF.slices_SortFunc_none sortLay none 0 _ W).mono ?_
    rintro e w' ⟨rfl, rfl⟩
    exact ⟨rfl, [], List.Perm.refl _, List.Pairwise.nil, hrow, ⟨rfl, rfl, rfl, Nat.le_refl _, fun _ _ _ => rfl⟩⟩
  · subst hv
    exact sort_main base g cap Y W hY hrow
theorem firstRecs_any (A : Option Addr) (n ca : Nat) (X : List Bk) (w : World) (hok : NdOk X) (hG : ErrType w) (hA : RdBk w w.heap.size A n X) :
    Calls Tryz.prog 152 #[.agg #[.slice A n ca]] w (RetRs w (mnt (recsTo X n))) := firstRecs_of sortC A n ca X w hok hG hA
end Go.Proofs.YtfpibbhcecdbgaaGreatDoor

namespace Go.Proofs.YtfpibbhcecdbgaaGreatDoor
open Go.RowKit
open Bt (Rc)

/-- the failure beside a mount's code -/
def errOf (a0 a2 : Addr) (c : Int) : Value := if c = 0 then .nilIface else if c = 1 then .iface 350 (.pointer (some a0)) else .iface 350 (.pointer (some a2))
/-- what mounted answers -/
def RetMt (w : World) (Y : List Rc) (E : Value) (e : Ending) (w' : World) : Prop :=
  ∃ (A : Option Addr) (ca : Nat), e = .returned (.tuple #[.agg #[.slice A Y.length ca], E]) ∧ Y.length ≤ ca ∧ OwRc w' w.heap.size w'.heap.size A Y.length Y ∧ Below w.heap.size w w'

set_option maxHeartbeats 2000000 in
set_option maxRecDepth 100000 in
theorem mounted_any (A : Option Addr) (n ca : Nat) (X : List Bk) (a0 a2 : Addr) (w : World) (hG : ErrType w) (hS : Two w a0 a2) (hX : Small X) (hA : RdBk w w.heap.size A n X) :
    Calls Tryz.prog 77 #[.agg #[.slice A n ca]] w (RetMt w (mntList X) (errOf a0 a2 (mntCode X))) := by
  have HL := Lib.hid hA.1
  have HA := Lib.hid hA; have HX := Lib.hid hX; have HS := Lib.hid hS; have HG := Lib.hid hG; clear hA hX hS hG
  go_enter Tryz.func77, Tryz.ntmps77
  go_wp2_with fail
  have hb0 : Below w.heap.size w ((w.alloc (.cells #[.slice A n ca] 28)).alloc (.cells #[.slice none 0 0] 60)) := ((Below.refl _ _).alloc (Nat.le_refl _) _).alloc (by simp) _
  have k0 := (isBlk_new w 28 [.slice A n ca]).alloc (.cells #[.slice none 0 0] 60)
  have k1 := isBlk_new (w.alloc (.cells #[.slice A n ca] 28)) 60 [.slice none 0 0]
  change IsBlk ((w.alloc (.cells #[.slice A n ca] 28)).alloc (.cells #[.slice none 0 0] 60)) _ _ _ at k0 k1
  rw [size_alloc] at k1
  generalize (w.alloc (.cells #[.slice A n ca] 28)).alloc (.cells #[.slice none 0 0] 60) = W at hb0 k0 k1 ⊢
  refine (impl_nandRight A n ca X W HX.out (rd_step HA.out hb0)).mono ?_
  rintro e w2 ⟨rfl, hb2⟩
  have HK2 := Lib.hid (k0.below hb2 k0.lt); have HR2 := Lib.hid (k1.below hb2 k1.lt)
  have hb2' := bel_step hb0 hb2
  have HB2 := Lib.hid hb2'
  have h2s : w.heap.size + 1 < w2.heap.size := HR2.out.lt
  clear hb0 k0 k1 hb2 hb2'
  by_cases hok : NdOk X
  case neg =>
    have HC := Lib.hid (mnt_no hok)
    have g0 := (HS.out.below HB2.out).v0
    have x0 : w2.cell? ⟨w.heap.size + 1, 0, none⟩ = some (.slice none 0 0) := HR2.out.cell rfl
    have fx0 : w2.frozen? ⟨w.heap.size + 1, 0, none⟩ = false := HR2.out.free
    have HNE : Hid (∀ v : Value, v = .slice none 0 0 → Below w.heap.size w (w2.setCell ⟨w.heap.size + 1, 0, none⟩ v)) := fun v _ => HB2.out.setCell (by dsimp only; omega) _
    rw [ndB_no hok]
    go_wp2
    go_region
    all_goals
      go_wp2
      refine bodyPost_ret (v := .tuple #[.agg #[.slice none 0 0], .iface 350 (.pointer (some a0))]) (by simp [results, Tryz.results77, go_sem, x0]) rfl ?_
      rw [HC.out.1, HC.out.2]
      exact ⟨none, 0, rfl, Nat.le_refl _, ow_nilR _ _ _ _, by first | exact (HNE.out _ rfl).drew | exact (HNE.out _ rfl) | exact HB2.out.drew.setCell (by dsimp only; omega) _⟩
  rw [ndB_yes hok]
  have HOK := Lib.hid hok
  have HSM := Lib.hid (mnt_smallR hok)
  have y0 : w2.cell? ⟨w.heap.size, 0, none⟩ = some (.slice A n ca) := HK2.out.cell rfl
  go_wp2_with fail
  refine (firstRecs_any A n ca X w2 hok (HG.out.below HB2.out) (rd_step HA.out HB2.out)).mono ?_
  rintro e w3 ⟨Ar, cr, rfl, hcr, ho3, hb3⟩
  rw [← HL.out] at hcr ho3 ⊢
  have HN1 := Lib.hid (fun h => mnt_bad (X := X) hok h); have HN2 := Lib.hid (fun h => mnt_ok (X := X) hok h)
  clear hok
  generalize hY : mnt (recsTo X X.length) = Y at *
  clear hY
  have HCR := Lib.hid hcr
  have HB3 := Lib.hid (bel_step HB2.out hb3)
  have HR3 := Lib.hid (HR2.out.below hb3 HR2.out.lt)
  have HO3 := Lib.hid ho3
  have h23 := hb3.size
  clear hcr hb3 ho3 y0
  go_wp2_with fail
  have k4 := isBlk_new w3 60 [.slice Ar Y.length cr]
  have hb4 := box_below w3 (.cells #[.slice Ar Y.length cr] 60)
  have hs4 := size_alloc w3 (.cells #[.slice Ar Y.length cr] 60)
  change Calls _ _ _ (w3.alloc (.cells #[.slice Ar Y.length cr] 60)) _
  generalize w3.alloc (.cells #[.slice Ar Y.length cr] 60) = w4 at k4 hb4 hs4 ⊢
  refine (impl_histRight_any Ar Y.length cr Y w4 HSM.out ((HO3.out.below hb4 (Nat.le_refl _)).rd hb4.size)).mono ?_
  rintro e w5 ⟨rfl, hb5⟩
  have hb35 := bel_step hb4 hb5
  have HK5 := Lib.hid (k4.below hb5 k4.lt)
  have HB5 := Lib.hid (bel_step HB3.out hb35)
  have HR5 := Lib.hid (HR3.out.below hb35 HR3.out.lt)
  have HO5 := Lib.hid (HO3.out.below hb35 (Nat.le_refl _))
  have h35 := hb35.size
  have x0 : w5.cell? ⟨w.heap.size + 1, 0, none⟩ = some (.slice none 0 0) := HR5.out.cell rfl
  have fx0 : w5.frozen? ⟨w.heap.size + 1, 0, none⟩ = false := HR5.out.free
  clear k4 hb4 hs4 hb5 hb35
  cases hr : hRight Y with
  | false =>
    have HC := Lib.hid (HN1.out hr)
    have g2 := (HS.out.below HB5.out).v2
    have hw1 : 1 < w.heap.size := by have := World.block_lt_of_cell? _ _ HS.out.v2; simpa using this
    have g2' : (w5.setCell ⟨w.heap.size + 1, 0, none⟩ (.slice none 0 0)).cell? ⟨1, 0, none⟩ = some (.iface 350 (.pointer (some a2))) := (World.cell?_setCell_other _ _ _ _ (by first | (simp; done) | (simp; omega))).trans g2
    have HNE : Hid (∀ v : Value, v = .slice none 0 0 → Below w.heap.size w (w5.setCell ⟨w.heap.size + 1, 0, none⟩ v)) := fun v _ => HB5.out.setCell (by dsimp only; omega) _
    go_wp2
    go_region
    all_goals
      go_wp2
      refine bodyPost_ret (v := .tuple #[.agg #[.slice none 0 0], .iface 350 (.pointer (some a2))]) (by simp [results, Tryz.results77, go_sem, x0]) rfl ?_
      rw [HC.out.1, HC.out.2]
      exact ⟨none, 0, rfl, Nat.le_refl _, ow_nilR _ _ _ _, by first | exact (HNE.out _ rfl).drew | exact (HNE.out _ rfl) | exact HB5.out.drew.setCell (by dsimp only; omega) _⟩
  | true =>
    have HC := Lib.hid (HN2.out hr)
    have z0 : w5.cell? ⟨w3.heap.size, 0, none⟩ = some (.slice Ar Y.length cr) := HK5.out.cell rfl
    go_wp2
    refine bodyPost_ret (v := .tuple #[.agg #[.slice Ar Y.length cr], .nilIface]) (by simp [results, Tryz.results77, go_sem, x0]) rfl ?_
    rw [HC.out.1, HC.out.2]
    refine ⟨Ar, cr, rfl, HCR.out, ((HO5.out.same fun k h1 h2 => Below.heap_setCell _ _ _ _ (by dsimp only; omega)).mono (by have := HB2.out.size; omega) (by simp [World.setCell]; omega)), HB5.out.setCell (by dsimp only; omega) _⟩

/-- an answer with records, stored in its box -/
theorem ho_ends {w u : World} {lo hi b2 : Nat} {A : Option Addr} {c : Nat} {Y : List Rc} {C : Int} (hO : OwRc u lo hi A Y.length Y) (hlo : b2 < lo) (hwl : w.heap.size ≤ lo) (hhi : hi ≤ u.heap.size) (hB : Below w.heap.size w u) (h1 : w.heap.size ≤ b2) (x y : Value) :
    RetHO w Y C (.returned (.agg #[.slice A Y.length c, .int .i64 C])) ((u.setCell ⟨b2, 0, none⟩ x).setCell ⟨b2, 1, none⟩ y).drew := by
  refine ⟨A, c, rfl, ?_, ((hB.setCell (p := ⟨b2, 0, none⟩) h1 _).setCell (p := ⟨b2, 1, none⟩) h1 _).drew⟩
  have h2 : u.heap.size ≤ ((u.setCell ⟨b2, 0, none⟩ x).setCell ⟨b2, 1, none⟩ y).drew.heap.size := by simp [World.setCell, World.drew]
  exact (hO.same fun k hk _ => (Below.heap_setCell _ _ _ _ (by dsimp only; omega)).trans (Below.heap_setCell _ _ _ _ (by dsimp only; omega))).mono hwl (Nat.le_trans hhi h2)
/-- what mounted and failureCode answer together -/
theorem mount_fails (a0 a1 a2 : Addr) (X : List Bk) (W : World) (hS : Sents W a0 a1 a2) : Calls Tryz.prog 78 #[errOf a0 a2 (mntCode X)] W fun e w' => e = .returned (.int .i64 (mntCode X)) ∧ W = w' := by
  rcases mnt_codes X with h | h | h <;> rw [h]
  · exact failure_nil a0 a1 a2 W hS
  · exact failure_inv a0 a1 a2 W hS
  · exact failure_hist a0 a1 a2 W hS

set_option maxHeartbeats 2000000 in
set_option maxRecDepth 100000 in
theorem impl_mount (A : Option Addr) (n ca : Nat) (X : List Bk) (a0 a1 a2 : Addr) (w : World) (hG : ErrType w) (hS : Sents w a0 a1 a2) (hX : Small X) (hA : RdBk w w.heap.size A n X) :
    Calls Tryz.prog 38 #[.agg #[.slice A n ca]] w (RetHO w (mntList X) (mntCode X)) := by
  have HA := Lib.hid hA; have HX := Lib.hid hX; have HS := Lib.hid hS; have HG := Lib.hid hG; clear hA hX hS hG
  go_enter Tryz.func38, Tryz.ntmps38
  go_wp2_with fail
  have hb0 : Below w.heap.size w ((w.alloc (.cells #[.slice A n ca] 28)).alloc (.cells #[.slice none 0 0, .int .i64 0] 62)) := ((Below.refl _ _).alloc (Nat.le_refl _) _).alloc (by simp) _
  have k1 := isBlk_new (w.alloc (.cells #[.slice A n ca] 28)) 62 [.slice none 0 0, .int .i64 0]
  change IsBlk ((w.alloc (.cells #[.slice A n ca] 28)).alloc (.cells #[.slice none 0 0, .int .i64 0] 62)) _ _ _ at k1
  rw [size_alloc] at k1
  generalize (w.alloc (.cells #[.slice A n ca] 28)).alloc (.cells #[.slice none 0 0, .int .i64 0] 62) = W at hb0 k1 ⊢
  refine (mounted_any A n ca X a0 a2 W (HG.out.below hb0) (HS.out.two.below hb0) HX.out (rd_step HA.out hb0)).mono ?_
  rintro e w2 ⟨Ar, cr, rfl, -, ho2, hb2⟩
  have HFC : Hid (∀ U : World, Below w.heap.size w U → Calls Tryz.prog 78 #[errOf a0 a2 (mntCode X)] U fun e w' => e = .returned (.int .i64 (mntCode X)) ∧ U = w') := fun U h => mount_fails a0 a1 a2 X U (HS.out.below h)
  generalize mntList X = Y at *
  generalize mntCode X = C at *
  generalize errOf a0 a2 C = E at *
  have HR2 := Lib.hid (k1.below hb2 k1.lt)
  have HB2 := Lib.hid (bel_step hb0 hb2)
  have hW : w.heap.size ≤ W.heap.size := hb0.size
  have hW1 : w.heap.size + 1 < W.heap.size := k1.lt
  have HO2 := Lib.hid ho2
  have h2 := hb2.size
  clear hb0 k1 hb2 ho2
  obtain ⟨yl, hyl⟩ : ∃ yl, yl = Y.length := ⟨_, rfl⟩
  have HYL := Lib.hid hyl
  rw [← hyl]
  have k3 := isBlk_new w2 60 [.slice Ar yl cr]
  have hb3 := box_below w2 (.cells #[.slice Ar yl cr] 60)
  have hs3 := size_alloc w2 (.cells #[.slice Ar yl cr] 60)
  clear hyl
  go_wp2
  change IsBlk (w2.alloc (.cells #[.slice Ar yl cr] 60)) _ _ _ at k3
  generalize w2.alloc (.cells #[.slice Ar yl cr] 60) = w3 at k3 hb3 hs3 ⊢
  have HB3 := Lib.hid (bel_step HB2.out hb3)
  have HB3d : Hid (Below w.heap.size w w3.drew) := HB3.out.drew
  have HO3 := Lib.hid (HO2.out.below hb3 (Nat.le_refl _))
  have x0 : w3.cell? ⟨w2.heap.size, 0, none⟩ = some (.slice Ar yl cr) := k3.cell rfl
  obtain ⟨d0, d1, fd0, fd1⟩ := blk2 (HR2.out.below hb3 HR2.out.lt)
  have hne : ¬ w.heap.size + 1 = w2.heap.size := by omega
  have hne' : ¬ w2.heap.size = w.heap.size + 1 := by omega
  have hlt3 : w2.heap.size < w3.heap.size := by omega
  clear k3 hb3 hs3
  go_region_held3 (fun w' => w'.cell? ⟨w2.heap.size, 0, none⟩ = some (.slice Ar yl cr))
    (first | exact x0 | go_keep)
    ((go_at_call 78
      refine (HFC.out _ HB3d.out).mono ?_
      rintro e wF ⟨rfl, rfl⟩))
  all_goals
    go_wp2
    refine bodyPost_ret (v := .agg #[.slice Ar yl cr, .int .i64 C]) (by simp [results, Tryz.results38, go_sem, d0, d1]) rfl ?_
    rw [HYL.out]
    exact ho_ends HO3.out (by omega) hW (by omega) HB3.out (by omega) _ _
theorem errOf_0 (a0 a2 : Addr) : errOf a0 a2 0 = .nilIface := rfl
theorem errOf_1 (a0 a2 : Addr) : errOf a0 a2 1 = .iface 350 (.pointer (some a0)) := rfl
theorem errOf_10 (a0 a2 : Addr) : errOf a0 a2 10 = .iface 350 (.pointer (some a2)) := rfl
theorem error_iface : Tryz.prog.isIface 103 = true := by kernel_rfl
theorem ho_code (A : Option Addr) (n c : Nat) (z : Int) (w : World) : (Instr.field 62 (.agg #[.slice A n c, .int .i64 z]) 1).run Tryz.prog w = .ok (.int .i64 z) w := by
  simp [Instr.field, run_underlying Tryz.underlying62, part, asAgg, go_sem]
end Go.Proofs.YtfpibbhcecdbgaaGreatDoor
