/-
  New chips and copies of chips: as the program makes them.
-/
import Derived.Test.YtimlaeicbnnbdaaDoorChecked
import Derived.Test.YtimlaeicbnnbdaaDoorNdUse
import Derived.Test.YtimlaeicbnnbdaaDoorNdTo
import Derived.Test.YtimlaeicbnnbdaaDoorBtText
import Derived.StillTailTactics
namespace Go.Proofs.YtimlaeicbnnbdaaDoor
open Go.RowKit

/-- a function that gives a chip back in memory of its own -/
def RetNd (w : World) (X : List Bk) (e : Ending) (w' : World) : Prop :=
  ∃ A c, e = .returned (.agg #[.slice A X.length c]) ∧ OwNd w' w.heap.size w'.heap.size A X.length X ∧ Below w.heap.size w w'
/-- a function that gives a chip, a text and a code back -/
def RetOut (w : World) (X : List Bk) (d : ByteArray) (code : Int) (e : Ending) (w' : World) : Prop :=
  ∃ A c, e = .returned (.agg #[.slice A X.length c, .string d, .int .i64 code]) ∧ OwNd w' w.heap.size w'.heap.size A X.length X ∧ Below w.heap.size w w'
theorem ow_nil (w : World) (lo hi : Nat) (A : Option Addr) : OwNd w lo hi A 0 [] := ⟨rfl, fun h => absurd h (by omega)⟩

theorem pgF_four (a b c d : Pg) (j : Nat) (h : j < 8) : (pcells a b c d)[j]? = some (pgF [a, b, c, d] j) := by
  match j, h with
  | 0, _ | 1, _ | 2, _ | 3, _ | 4, _ | 5, _ | 6, _ | 7, _ => rfl
theorem ow_of_blk {w : World} {g : Nat} {e : TypeId} {a b c d : Pg} (h : IsBlk w g e (pcells a b c d)) : OwPg w g [a, b, c, d] := by
  refine ⟨e, (pcells a b c d).toArray, h, Nat.le_refl _, fun i hi => ?_⟩
  rw [List.getElem?_toArray]
  exact pgF_four a b c d i hi

def freshBk : Bk := ⟨[zeroPg, zeroPg, zeroPg, zeroPg], 0, false⟩
def newNd (bi : Int) : List Bk := if 1 ≤ bi ∧ bi ≤ 12 then List.replicate bi.toNat freshBk else []
theorem newNd_no {bi : Int} (h : ¬ (1 ≤ bi ∧ bi ≤ 12)) : newNd bi = [] := if_neg h
theorem newNd_yes {n : Nat} (h : 1 ≤ n ∧ n ≤ 12) : newNd (n : Int) = List.replicate n freshBk := by unfold newNd; rw [if_pos (by omega)]; rfl
theorem rep_getD {α : Type} {n k : Nat} {x z : α} (h : k < n) : (List.replicate n x).getD k z = x := by simp [List.getD_eq_getElem?_getD, h]

/-- a function that gives a block of four pages back, its pages in memory of their own -/
def RetBk (w : World) (X : List Pg) (er : Int) (bad : Bool) (e : Ending) (w' : World) : Prop :=
  ∃ p, e = .returned (.agg #[.slice (some ⟨p, 0, none⟩) 4 4, .int .i64 er, .bool bad]) ∧ w.heap.size ≤ p ∧ OwPg w' p X ∧ Below w.heap.size w w'

set_option maxHeartbeats 2000000 in
set_option maxRecDepth 100000 in
theorem copyBlock_any (A : Option Addr) (ca : Nat) (a b c d : Pg) (er : Int) (bad : Bool) (w : World) (hs : ∀ p ∈ [a, b, c, d], p.data.size ≤ 2147483648) (hA : RdPg w w.heap.size A 4 [a, b, c, d]) :
    Calls Tryd.prog 109 #[.agg #[.slice A 4 ca, .int .i64 er, .bool bad]] w (RetBk w [a, b, c, d] er bad) := by
  have HA := Lib.hid hA; have HS := Lib.hid hs; clear hA hs
  go_enter Tryd.func109, Tryd.ntmps109
  go_wp2_with fail
  refine (pagesOf_any A ca a b c d er bad _ ((HA.out.below (((Below.refl _ _).alloc (Nat.le_refl _) _).alloc (by simp) _)).mono (by simp; omega))).mono ?_
  rintro e w2 ⟨rfl, hb2⟩
  have k0 := ((isBlk_new w 73 [.slice A 4 ca, .int .i64 er, .bool bad]).alloc _).below hb2 (by simp; omega)
  have k1 := (isBlk_new (w.alloc _) 73 [.slice none 0 0, .int .i64 0, .bool false]).below hb2 (by simp)
  simp only [size_alloc] at k1
  have HB2 := Lib.hid ((((Below.refl w.heap.size w).alloc (Nat.le_refl _) _).alloc (by simp) _).trans (hb2.mono (by simp; omega)))
  have HK0 := Lib.hid k0; have HK1 := Lib.hid k1
  clear hb2 k0 k1
  go_wp2
  have k3 := isBlk_new w2 108 (pcells a b c d)
  have hb3 : Below w2.heap.size w2 (w2.alloc (.cells (pcells a b c d).toArray 108)) := box_below _ _
  change Code.wp _ _ _ _ (w2.alloc (.cells (pcells a b c d).toArray 108))
  generalize w2.alloc (.cells (pcells a b c d).toArray 108) = w3 at k3 hb3 ⊢
  have HR3 := Lib.hid (ow_of_blk k3); have HB3 := Lib.hid hb3
  clear k3 hb3
  go_loopw [7] (fun i wr => ∃ k : Nat, k ≤ 4 ∧ i = .int .i64 (k : Nat) ∧ OwPg wr w2.heap.size [a, b, c, d] ∧ Below w2.heap.size w2 wr) (fun i _ => 4 - (intOf i).toNat)
  case atStart => exact ⟨0, by omega, rfl, HR3.out, HB3.out⟩
  case round =>
    obtain ⟨k, hk, rfl, hrow, hbel⟩ := hrel
    have HW := Lib.hid hbel; have HROW := Lib.hid hrow
    by_cases hlt : k < 4
    · have hc1 := Row.cell (i := k * 2 + 1) hrow (by simp; omega)
      rw [pgF_1] at hc1
      have hsz := HS.out _ (getD_lt (z := zeroPg) (show k < [a, b, c, d].length from hlt))
      have HP : Hid (pgF [a, b, c, d] (k * 2 + 1) = .string ([a, b, c, d].getD k zeroPg).data) := pgF_1 _ _
      have hgl := Row.lt hrow
      clear hrow hbel
      generalize [a, b, c, d].getD k zeroPg = p at hc1 hsz HP
      go_wp2_with fail
      refine (assemble_any [p.data] _ 0 1 _ (parts_one wr _ _) (by simp) (by simp) (by rw [flat_one, len_list]; exact hsz)).mono ?_
      rintro e w4 ⟨rfl, hb4⟩
      have HB4 := Lib.hid (bel_step (box_below wr _) hb4)
      have hr4 := Row.below HROW.out HB4.out hgl
      have HR4 := Lib.hid hr4
      have hd1 := Row.cell (i := k * 2 + 1) hr4 (by simp; omega)
      have hf1 := Row.free hr4 (k * 2 + 1)
      have hfl : strV (flat [p.data]) = .string p.data := by rw [flat_one, strV, bstr_of]
      rw [hfl]
      clear hb4 hr4 hfl
      go_wp2
      go_roundw
      case rel => exact ⟨k + 1, by omega, by go_num, (Row.set HR4.out (k * 2 + 1) _).congr (fun i _ => by
        by_cases e : i = k * 2 + 1
        · rw [if_pos e, e, HP.out]
        · rw [if_neg e]), (HW.out.trans (HB4.out.mono HW.out.size)).setCell (Nat.le_refl _) _⟩
      case measure => simp [intOf]; omega
    · obtain rfl : k = 4 := by omega
      clear hrow hbel
      have k0 := HK0.out.below HW.out HK0.out.lt
      have k1 := HK1.out.below HW.out HK1.out.lt
      have HKK1 := Lib.hid k1
      obtain ⟨c0, c1, c2, -, -, -⟩ := blk3 k0
      have hlt1 := HK1.out.lt
      have hlt2 := Row.lt HROW.out
      clear k0 k1
      go_wp2
      go_still_tail 6, (by kernel_rfl)
      change wpList _ _ _ _ _ wr.drew
      have k1 : IsBlk wr.drew (w.heap.size + 1) 73 [.slice none 0 0, .int .i64 0, .bool false] := HKK1.out
      have HROW4 : Hid (OwPg wr.drew w2.heap.size [a, b, c, d]) := HROW.out
      have HBW4 : Hid (Below w2.heap.size w2 wr.drew) := HW.out.drew
      have hsz4 : wr.drew.heap.size = wr.heap.size := rfl
      generalize wr.drew = w4 at k1 HROW4 HBW4 hsz4 ⊢
      obtain ⟨d0, d1, d2, f0, f1, f2⟩ := blk3 k1
      have HSZ := Lib.hid hsz4
      clear k1 hsz4
      go_wp2
      refine bodyPost_ret (v := .agg #[.slice (some ⟨w2.heap.size, 0, none⟩) 4 4, .int .i64 er, .bool bad]) (by simp [results, Tryd.results109, go_sem, d0, d1, d2]) rfl ⟨w2.heap.size, rfl, HB2.out.size, ?_, ?_⟩
      · show Row _ _ _ _
        repeat (with_reducible refine Row.other ?_ ?_ _)
        all_goals first | exact HROW4.out | (dsimp only; omega)
      · have hh := HB2.out.trans (HBW4.out.mono HB2.out.size)
        repeat (with_reducible refine Below.setCell ?_ ?_ _)
        all_goals first | exact hh | (dsimp only; omega)

set_option maxHeartbeats 2000000 in
theorem impl_copyNand (A : Option Addr) (n ca : Nat) (X : List Bk) (w : World) (hX : Small X) (hok : NdOk X) (hA : RdBk w w.heap.size A n X) :
    Calls Tryd.prog 94 #[.agg #[.slice A n ca]] w (RetNd w X) := by
  have HL := Lib.hid hA.1
  have hn12 : n ≤ 12 := by have := hok.1; have := hA.1; omega
  have HA := Lib.hid hA; have HX := Lib.hid hX; have HOK := Lib.hid hok; clear hA hX hok
  have hmk := fun W => run_makeN (P := Tryd.prog) 28 73 _ _ _ Tryd.underlying28 info_block n (by omega) (by omega) W
  go_enter Tryd.func94, Tryd.ntmps94
  go_wp2
  have k0 := (isBlk_new w 30 [.slice A n ca]).alloc (.cells #[.slice none 0 0] 30)
  have k1 := isBlk_new (w.alloc (.cells #[.slice A n ca] 30)) 30 [.slice none 0 0]
  have hb0 : Below w.heap.size w ((w.alloc (.cells #[.slice A n ca] 30)).alloc (.cells #[.slice none 0 0] 30)) := ((Below.refl _ _).alloc (Nat.le_refl _) _).alloc (by simp) _
  have hs0 : ((w.alloc (.cells #[.slice A n ca] 30)).alloc (.cells #[.slice none 0 0] 30)).heap.size = w.heap.size + 1 + 1 := by simp
  simp only [size_alloc] at k1
  change Code.wp _ _ _ _ (((w.alloc (.cells #[.slice A n ca] 30)).alloc (.cells #[.slice none 0 0] 30)).alloc _)
  generalize (w.alloc (.cells #[.slice A n ca] 30)).alloc (.cells #[.slice none 0 0] 30) = W at k0 k1 hb0 hs0 ⊢
  have hr := row_made W 73 #[.slice none 0 0, .int .i64 0, .bool false] (n * 3) (bkF (fun _ => none) (fun _ => 0) []) (fun i hi => by
    unfold bkF
    have h3 : i % 3 = 0 ∨ i % 3 = 1 ∨ i % 3 = 2 := by omega
    rcases h3 with h | h | h <;> simp [h, zeroBk])
  generalize hW : W.alloc (.cells (madeCells #[.slice none 0 0, .int .i64 0, .bool false] (n * 3)) 73) = w1 at hr
  have HB1 : Hid (Below W.heap.size W w1) := by rw [← hW]; exact (Below.refl _ _).alloc (Nat.le_refl _) _
  have HR := Lib.hid hr; have HK0 := Lib.hid k0; have HK1 := Lib.hid k1; have HB0 := Lib.hid hb0
  rw [← hs0]
  have HS0 := Lib.hid hs0
  clear hr hW k0 k1 hb0 hs0
  go_loopw [11] (fun i wr => ∃ k : Nat, k ≤ n ∧ i = .int .i64 (k : Nat) ∧ BkRel W wr W.heap.size n k X) (fun i _ => n - (intOf i).toNat)
  case atStart => exact ⟨0, by omega, rfl, ⟨fun _ => 0, fun _ => 0, HR.out.congr (fun i _ => (upto_zero i).symm), fun i hi => absurd hi (by omega), fun i j hi _ => absurd hi (by omega), HB1.out⟩⟩
  case round =>
    obtain ⟨k, hk, rfl, hrel⟩ := hrel
    have HREL := Lib.hid hrel
    have hbw := hrel.bel
    by_cases hlt : k < n
    · have hbel : Below w.heap.size w wr := HB0.out.trans (hbw.mono HB0.out.size)
      have hx0 : wr.cell? ⟨w.heap.size, 0, none⟩ = some (.slice A n ca) := (HK0.out.below hbw HK0.out.lt).cell rfl
      obtain ⟨g, off, pA, pc, rfl, hg, hc0, hc1, hc2, hpg⟩ := (HA.out.below hbel).at hlt
      have hkl : k < X.length := by have := HL.out; omega
      have h4 := (HOK.out.2 k hkl).1
      have hps := (HX.out.2 _ (getD_lt (z := zeroBk) hkl)).2
      have HPG := Lib.hid (hpg.mono hbel.size)
      have HMORE : Hid (∀ w2 p, Below wr.heap.size wr w2 → wr.heap.size ≤ p → OwPg w2 p (X.getD k zeroBk).pages → BkRel W (((w2.setCell ⟨W.heap.size, k * 3, none⟩ (.slice (some ⟨p, 0, none⟩) (X.getD k zeroBk).pages.length 4)).setCell ⟨W.heap.size, k * 3 + 1, none⟩ (.int .i64 (X.getD k zeroBk).erases)).setCell ⟨W.heap.size, k * 3 + 2, none⟩ (.bool (X.getD k zeroBk).bad)) W.heap.size n (k + 1) X) :=
        fun w2 p h1 h2 h3 => HREL.out.more hlt h1 h2 h3 h4.symm
      have HPS := Lib.hid hps
      clear hbel hrel hpg hps hbw
      generalize X.getD k zeroBk = b at hc0 hc1 hc2 HPG h4 HPS HMORE
      obtain ⟨ps, er, bd⟩ := b
      simp only at hc0 hc1 hc2 HPG h4 HPS HMORE
      obtain ⟨a, b, c, d, rfl⟩ := four_of_length h4
      clear h4
      go_wp2_with fail
      refine (copyBlock_any pA pc a b c d er bd wr (fun p hp => by have := HPS.out p hp; omega) HPG.out).mono ?_
      rintro e w2 ⟨p, rfl, hp2, ho2, hb2⟩
      obtain ⟨f, hf⟩ := HREL.out.row
      have hrow := hf.below hb2 hf.lt
      have HM := Lib.hid (HMORE.out w2 p hb2 hp2 ho2)
      have he0 := hrow.cell (i := k * 3) (by omega)
      have he1 := hrow.cell (i := k * 3 + 1) (by omega)
      have he2 := hrow.cell (i := k * 3 + 2) (by omega)
      have hf0 := hrow.free (k * 3)
      have hf1 := hrow.free (k * 3 + 1)
      have hf2 := hrow.free (k * 3 + 2)
      clear hb2 ho2 hf hrow HMORE
      go_wp2
      go_roundw
      case rel => exact ⟨k + 1, by omega, by go_num, HM.out⟩
      case measure => simp [intOf]; omega
    · obtain rfl : k = n := by omega
      have hk1 := HK1.out.below hbw HK1.out.lt
      have d0 : wr.cell? ⟨w.heap.size + 1, 0, none⟩ = some (.slice none 0 0) := hk1.cell rfl
      have fd0 : wr.frozen? ⟨w.heap.size + 1, 0, none⟩ = false := hk1.free
      clear hk1 hrel hbw
      go_wp2
      refine bodyPost_ret (v := .agg #[.slice (some ⟨W.heap.size, 0, none⟩) k k]) (by simp [results, Tryd.results94, go_sem, d0]) rfl ⟨some ⟨W.heap.size, 0, none⟩, k, by rw [HL.out], ?_, ?_⟩
      · have ho := HREL.out.own HL.out
        rw [HL.out]
        have hs := HS0.out
        refine (ho.same (w' := wr.setCell ⟨w.heap.size + 1, 0, none⟩ _) fun j h1 _ => Below.heap_setCell _ _ _ _ (by dsimp only; omega)).mono (by omega) (by simp [World.setCell])
      · have hs := HS0.out
        exact (HB0.out.trans (HREL.out.bel.mono (by omega))).setCell (by dsimp only; omega) _
end Go.Proofs.YtimlaeicbnnbdaaDoor
