/-
  What the laws' own copies make: pages, blocks, chips of the program's types in new memory.
-/
import Derived.Test.YtloaeglmngcenaaGreatDoorProg
import Derived.KernelRfl
import Derived.Test.YtloaeglmngcenaaGreatDoorNdMem
import Derived.StillTailTactics
import Derived.Deep.QuietTactic
import Derived.BigQuiet
import Derived.Lib.QuietBelow
import Derived.Laws.MakeOwn
namespace Go.Proofs.YtloaeglmngcenaaGreatDoor
open Go.RowKit

set_option maxHeartbeats 1000000 in
theorem toPage_any (u : Bool) (d : ByteArray) (w : World) :
    Calls Tryz.prog 275 #[.agg #[.bool u, .string d]] w fun e w' => e = .returned (.agg #[.bool u, .string d]) ∧ Below w.heap.size w w' := by
  go_enter Tryz.func275, Tryz.ntmps275
  go_wp2
  exact bodyPost_ret (v := .agg #[.bool u, .string d]) (by simp [results, Tryz.results275, go_sem]) rfl ⟨rfl, (((Below.refl _ _).alloc (Nat.le_refl _) _).alloc (by simp) _).alloc (by simp; omega) _⟩

theorem info_page : (Tryz.prog.info? 206).map (fun i => (i.zero, i.size, i.bytes)) = some (some (.agg #[.bool false, .string ⟨#[]⟩]), 2, 24) := by kernel_rfl
theorem info_block : (Tryz.prog.info? 128).map (fun i => (i.zero, i.size, i.bytes)) = some (some (.agg #[.slice none 0 0, .int .i64 0, .bool false]), 3, 40) := by kernel_rfl

set_option maxHeartbeats 1000000 in
theorem toPageS_any (A : Option Addr) (n ca : Nat) (X : List Pg) (w : World) (hn : n ≤ 2147483648) (hA : RdPg w w.heap.size A n X) :
    Calls Tryz.prog 252 #[.slice A n ca] w fun e w' => e = .returned (.slice (some ⟨w.heap.size, 0, none⟩) n n) ∧ OwPg w' w.heap.size X ∧ Below w.heap.size w w' := by
  have HA := Lib.hid hA; clear hA
  have hmk := fun W => run_makeN (P := Tryz.prog) 126 206 _ _ _ Tryz.underlying126 info_page n (by omega) (by omega) W
  go_enter Tryz.func252, Tryz.ntmps252
  go_wp2
  have hr := row_made w 206 #[.bool false, .string ⟨#[]⟩] (n * 2) (pgF []) (fun i hi => by
    unfold pgF
    rcases Nat.mod_two_eq_zero_or_one i with h | h <;> simp [h, zeroPg])
  generalize hW : w.alloc (.cells (madeCells #[.bool false, .string ⟨#[]⟩] (n * 2)) 206) = w1 at hr
  have HB1 : Hid (Below w.heap.size w w1) := by rw [← hW]; exact (Below.refl _ _).alloc (Nat.le_refl _) _
  have HR := Lib.hid hr
  clear hr hW
  go_loopw [4] (fun i wr => ∃ k : Nat, k ≤ n ∧ i = .int .i64 (k : Nat) ∧ Row wr w.heap.size (n * 2) (upto k 2 (pgF X) (pgF [])) ∧ Below w.heap.size w wr) (fun i _ => n - (intOf i).toNat)
  case atStart => exact ⟨0, by omega, rfl, HR.out.congr (fun i _ => (upto_zero i).symm), HB1.out⟩
  case round =>
    obtain ⟨k, hk, rfl, hrow, hbel⟩ := hrel
    have HW := Lib.hid hbel; have HRW := Lib.hid hrow
    by_cases hlt : k < n
    · obtain ⟨g, off, rfl, hg, hc0, hc1⟩ := (HA.out.below hbel).at hlt
      clear hbel hrow
      go_wp2_with fail
      refine (toPage_any _ _ _).mono ?_
      rintro e w2 ⟨rfl, hb2⟩
      have HR2 := Lib.hid (HRW.out.below hb2 HRW.out.lt)
      have HB2 := Lib.hid (HW.out.trans (hb2.mono HW.out.size))
      clear hb2
      have he0 := HR2.out.cell (i := k * 2) (by omega)
      have he1 := HR2.out.cell (i := k * 2 + 1) (by omega)
      have hf0 := HR2.out.free (k * 2)
      have hf1 := HR2.out.free (k * 2 + 1)
      go_wp2
      go_roundw
      case rel => exact ⟨k + 1, by omega, by go_num, ((HR2.out.set _ _).set _ _).congr (fun i _ => upto_set2 (pgF_0 X k) (pgF_1 X k)), (HB2.out.setCell (Nat.le_refl _) _).setCell (Nat.le_refl _) _⟩
      case measure => simp [intOf]; omega
    · clear hbel hrow
      obtain rfl : k = n := by omega
      go_wp2
      go_ret
      exact ⟨rfl, by rw [OwPg, HA.out.1]; exact HRW.out.congr (fun i hi => upto_lt hi), HW.out⟩

set_option maxHeartbeats 1000000 in
theorem toBlock_any (A : Option Addr) (n ca : Nat) (X : List Pg) (er : Int) (bad : Bool) (w : World) (hn : n ≤ 2147483648) (hA : RdPg w w.heap.size A n X) :
    Calls Tryz.prog 204 #[.agg #[.slice A n ca, .int .i64 er, .bool bad]] w fun e w' => e = .returned (.agg #[.slice (some ⟨w.heap.size + 3, 0, none⟩) n n, .int .i64 er, .bool bad]) ∧ OwPg w' (w.heap.size + 3) X ∧ Below w.heap.size w w' := by
  have HA := Lib.hid hA; clear hA
  go_enter Tryz.func204, Tryz.ntmps204
  go_wp2_with fail
  refine (toPageS_any A n ca X _ hn ?_).mono ?_
  · exact ((HA.out.below (((( Below.refl _ _).alloc (Nat.le_refl _) _).alloc (by simp) _).alloc (by simp; omega) _)).mono (by simp; omega))
  rintro e w4 ⟨rfl, ho, hb4⟩
  have hs : w.heap.size + 3 ≤ w4.heap.size := by have := hb4.size; simp at this; omega
  have k0 := ((((isBlk_new w 245 [Value.slice A n ca, .int .i64 er, .bool bad]).alloc _).alloc _).below hb4 (by simp; omega))
  have k1 := (((isBlk_new (w.alloc _) 128 [Value.slice none 0 0, .int .i64 0, .bool false]).alloc _).below hb4 (by simp))
  have k2 := ((isBlk_new ((w.alloc _).alloc _) 128 [Value.slice none 0 0, .int .i64 0, .bool false]).below hb4 (by simp))
  have HB4 := Lib.hid ((((( Below.refl w.heap.size w).alloc (Nat.le_refl _) _).alloc (by simp) _).alloc (by simp; omega) _).trans (hb4.mono (by simp; omega)))
  simp only [size_alloc] at k0 k1 k2 ho
  have HO := Lib.hid ho
  obtain ⟨c0, c1, c2, -, -, -⟩ := blk3 k0
  obtain ⟨d0, d1, d2, fd0, fd1, fd2⟩ := blk3 k1
  obtain ⟨e0, e1, e2, fe0, fe1, fe2⟩ := blk3 k2
  clear ho hb4 k0 k1 k2
  go_wp2
  refine bodyPost_ret (v := .agg #[.slice (some ⟨w.heap.size + 3, 0, none⟩) n n, .int .i64 er, .bool bad]) (by simp [results, Tryz.results204, go_sem, d0, d1, d2]) rfl ⟨rfl, ?_, ?_⟩
  · show Row _ _ _ _
    repeat (with_reducible refine Row.other ?_ ?_ _)
    all_goals first | exact HO.out | (dsimp only; omega)
  · repeat (with_reducible refine Below.setCell ?_ ?_ _)
    all_goals first | exact HB4.out | (dsimp only; omega)


/-- what the copying of the first k blocks has made: a row at g, the pages of each block behind it, one behind the other -/
def BkRel (w wr : World) (g n k : Nat) (X : List Bk) : Prop :=
  ∃ pa cp : Nat → Nat, Row wr g (n * 3) (upto k 3 (bkF (fun i => some ⟨pa i, 0, none⟩) cp X) (bkF (fun _ => none) (fun _ => 0) [])) ∧
    (∀ i, i < k → g < pa i ∧ pa i < wr.heap.size ∧ OwPg wr (pa i) (X.getD i zeroBk).pages ∧ cp i = (X.getD i zeroBk).pages.length) ∧ (∀ i j, i < k → j < i → pa j < pa i) ∧ Below g w wr
theorem BkRel.row {w wr : World} {g n k : Nat} {X : List Bk} (h : BkRel w wr g n k X) : ∃ f, Row wr g (n * 3) f := by obtain ⟨pa, cp, h, _⟩ := h; exact ⟨_, h⟩
theorem BkRel.bel {w wr : World} {g n k : Nat} {X : List Bk} (h : BkRel w wr g n k X) : Below g w wr := by obtain ⟨pa, cp, _, _, _, h⟩ := h; exact h
/-- one block more, its pages at p -/
theorem BkRel.more {w wr w2 : World} {g n k p c : Nat} {X : List Bk} (h : BkRel w wr g n k X) (hk : k < n) (hb : Below wr.heap.size wr w2) (hp : wr.heap.size ≤ p) (ho : OwPg w2 p (X.getD k zeroBk).pages) (hc : c = (X.getD k zeroBk).pages.length) :
    BkRel w (((w2.setCell ⟨g, k * 3, none⟩ (.slice (some ⟨p, 0, none⟩) (X.getD k zeroBk).pages.length c)).setCell ⟨g, k * 3 + 1, none⟩ (.int .i64 (X.getD k zeroBk).erases)).setCell ⟨g, k * 3 + 2, none⟩ (.bool (X.getD k zeroBk).bad)) g n (k + 1) X := by
  obtain ⟨pa, cp, hr, hpg, hap, hbel⟩ := h
  have hg := hr.lt
  have hp2 : p < w2.heap.size := Row.lt ho
  refine ⟨fun i => if i = k then p else pa i, fun i => if i = k then c else cp i, ?_, ?_, ?_, ?_⟩
  · refine ((((hr.below hb hg).set _ _).set _ _).set _ _).congr fun i hi => ?_
    rw [← upto_set3 (k := k) (u0 := .slice (some ⟨p, 0, none⟩) (X.getD k zeroBk).pages.length c) (u1 := .int .i64 (X.getD k zeroBk).erases) (u2 := .bool (X.getD k zeroBk).bad) (by rw [bkF_0]; simp) (by rw [bkF_1]) (by rw [bkF_2])]
    congr 1; congr 1; congr 1
    by_cases hik : i < k * 3
    · rw [upto_lt hik, upto_lt hik]
      unfold bkF
      dsimp only
      rw [if_neg (show ¬ i / 3 = k by omega), if_neg (show ¬ i / 3 = k by omega)]
    · rw [upto_ge (by omega), upto_ge (by omega)]
  · intro i hi
    dsimp only
    by_cases e : i = k
    · subst e
      rw [if_pos rfl]
      refine ⟨by omega, by simpa [World.setCell] using hp2, ?_, by rw [if_pos rfl]; exact hc⟩
      exact Row.other (Row.other (Row.other ho (by dsimp only; omega) _) (by dsimp only; omega) _) (by dsimp only; omega) _
    · rw [if_neg e]
      obtain ⟨h1, h2, h3, h4⟩ := hpg i (by omega)
      refine ⟨h1, by simp [World.setCell]; have := hb.size; omega, ?_, by rw [if_neg e]; exact h4⟩
      exact Row.other (Row.other (Row.other (Row.below h3 hb h2) (by dsimp only; omega) _) (by dsimp only; omega) _) (by dsimp only; omega) _
  · intro i j hi hj
    dsimp only
    by_cases e : i = k
    · subst e
      rw [if_pos rfl, if_neg (by omega)]
      have := hpg j (by omega); omega
    · rw [if_neg e, if_neg (by omega)]
      exact hap i j (by omega) hj
  · exact (((hbel.trans (hb.mono (by omega))).setCell (Nat.le_refl _) _).setCell (Nat.le_refl _) _).setCell (Nat.le_refl _) _
/-- one block more, where the row's cells of it are told by a law of their own -/
theorem BkRel.moreW {w wr w2 w3 : World} {g n k p c : Nat} {X : List Bk} (h : BkRel w wr g n k X) (hb : Below wr.heap.size wr w2) (hp : wr.heap.size ≤ p) (ho : OwPg w3 p (X.getD k zeroBk).pages) (hc : c = (X.getD k zeroBk).pages.length)
    (hr3 : ∀ f, Row w2 g (n * 3) f → f (k * 3) = .slice none 0 0 → f (k * 3 + 1) = .int .i64 0 → f (k * 3 + 2) = .bool false → Row w3 g (n * 3) (fun i => if i = k * 3 + 2 then .bool (X.getD k zeroBk).bad else if i = k * 3 + 1 then .int .i64 (X.getD k zeroBk).erases else if i = k * 3 then .slice (some ⟨p, 0, none⟩) (X.getD k zeroBk).pages.length c else f i))
    (h3 : ∀ j, j < w2.heap.size → j ≠ g → w3.heap[j]? = w2.heap[j]?) (_hs : w2.heap.size ≤ w3.heap.size) (hb3 : Below g w2 w3) :
    BkRel w w3 g n (k + 1) X := by
  obtain ⟨pa, cp, hr, hpg, hap, hbel⟩ := h
  have hg := hr.lt
  have hp3 : p < w3.heap.size := Row.lt ho
  have hz0 : upto k 3 (bkF (fun i => some ⟨pa i, 0, none⟩) cp X) (bkF (fun _ => none) (fun _ => 0) []) (k * 3) = .slice none 0 0 := by rw [upto_ge (by omega), bkF_0]; rfl
  have hz1 : upto k 3 (bkF (fun i => some ⟨pa i, 0, none⟩) cp X) (bkF (fun _ => none) (fun _ => 0) []) (k * 3 + 1) = .int .i64 0 := by rw [upto_ge (by omega), bkF_1]; rfl
  have hz2 : upto k 3 (bkF (fun i => some ⟨pa i, 0, none⟩) cp X) (bkF (fun _ => none) (fun _ => 0) []) (k * 3 + 2) = .bool false := by rw [upto_ge (by omega), bkF_2]; rfl
  refine ⟨fun i => if i = k then p else pa i, fun i => if i = k then c else cp i, ?_, ?_, ?_, ?_⟩
  · refine (hr3 _ (hr.below hb hg) hz0 hz1 hz2).congr fun i hi => ?_
    rw [← upto_set3 (k := k) (u0 := .slice (some ⟨p, 0, none⟩) (X.getD k zeroBk).pages.length c) (u1 := .int .i64 (X.getD k zeroBk).erases) (u2 := .bool (X.getD k zeroBk).bad) (by rw [bkF_0]; simp) (by rw [bkF_1]) (by rw [bkF_2])]
    congr 1; congr 1; congr 1
    by_cases hik : i < k * 3
    · rw [upto_lt hik, upto_lt hik]
      unfold bkF
      dsimp only
      rw [if_neg (show ¬ i / 3 = k by omega), if_neg (show ¬ i / 3 = k by omega)]
    · rw [upto_ge (by omega), upto_ge (by omega)]
  · intro i hi
    dsimp only
    by_cases e : i = k
    · subst e
      rw [if_pos rfl]
      exact ⟨by omega, hp3, ho, by rw [if_pos rfl]; exact hc⟩
    · rw [if_neg e]
      obtain ⟨h1, h2, h4, h5⟩ := hpg i (by omega)
      have hb2 := hb.size
      exact ⟨h1, by omega, Row.same (Row.below h4 hb h2) (h3 _ (by omega) (by omega)), by rw [if_neg e]; exact h5⟩
  · intro i j hi hj
    dsimp only
    by_cases e : i = k
    · subst e
      rw [if_pos rfl, if_neg (by omega)]
      have := hpg j (by omega); omega
    · rw [if_neg e, if_neg (by omega)]
      exact hap i j (by omega) hj
  · exact (hbel.trans (hb.mono (by omega))).trans hb3
theorem BkRel.own {w wr : World} {g n : Nat} {X : List Bk} (h : BkRel w wr g n n X) (hl : X.length = n) : OwNd wr g wr.heap.size (some ⟨g, 0, none⟩) n X := by
  obtain ⟨pa, cp, hr, hpg, hap, hbel⟩ := h
  subst hl
  refine ⟨rfl, fun _ => ⟨g, pa, cp, rfl, Nat.le_refl _, hr.lt, hr.congr (fun i hi => upto_lt hi), fun i hi => ?_, fun i j hi hj hne => ?_, fun i hi => (hpg i hi).2.2.1, fun i hi => by rw [(hpg i hi).2.2.2]; exact Room.full _ _ _⟩⟩
  · have := hpg i hi; omega
  · rcases Nat.lt_or_gt_of_ne hne with h | h
    · have := hap j i hj h; omega
    · have := hap i j hi h; omega

set_option maxHeartbeats 1000000 in
theorem toBlockS_any (A : Option Addr) (n ca : Nat) (X : List Bk) (w : World) (hn : n ≤ 2147483648) (hp : ∀ b ∈ X, b.pages.length ≤ 2147483648) (hA : RdBk w w.heap.size A n X) :
    Calls Tryz.prog 139 #[.slice A n ca] w fun e w' => e = .returned (.slice (some ⟨w.heap.size, 0, none⟩) n n) ∧ OwNd w' w.heap.size w'.heap.size (some ⟨w.heap.size, 0, none⟩) n X ∧ Below w.heap.size w w' := by
  have HA := Lib.hid hA; clear hA
  have HP := Lib.hid hp; clear hp
  have hmk := fun W => run_makeN (P := Tryz.prog) 23 128 _ _ _ Tryz.underlying23 info_block n (by omega) (by omega) W
  go_enter Tryz.func139, Tryz.ntmps139
  go_wp2
  have hr := row_made w 128 #[.slice none 0 0, .int .i64 0, .bool false] (n * 3) (bkF (fun _ => none) (fun _ => 0) []) (fun i hi => by
    unfold bkF
    have h3 : i % 3 = 0 ∨ i % 3 = 1 ∨ i % 3 = 2 := by omega
    rcases h3 with h | h | h <;> simp [h, zeroBk])
  generalize hW : w.alloc (.cells (madeCells #[.slice none 0 0, .int .i64 0, .bool false] (n * 3)) 128) = w1 at hr
  have HB1 : Hid (Below w.heap.size w w1) := by rw [← hW]; exact (Below.refl _ _).alloc (Nat.le_refl _) _
  have HR := Lib.hid hr
  clear hr hW
  go_loopw [4] (fun i wr => ∃ k : Nat, k ≤ n ∧ i = .int .i64 (k : Nat) ∧ BkRel w wr w.heap.size n k X) (fun i _ => n - (intOf i).toNat)
  case atStart => exact ⟨0, by omega, rfl, ⟨fun _ => 0, fun _ => 0, HR.out.congr (fun i _ => (upto_zero i).symm), fun i hi => absurd hi (by omega), fun i j hi _ => absurd hi (by omega), HB1.out⟩⟩
  case round =>
    obtain ⟨k, hk, rfl, hrel⟩ := hrel
    have HREL := Lib.hid hrel
    have hbel := hrel.bel
    by_cases hlt : k < n
    · obtain ⟨g, off, pA, pc, rfl, hg, hc0, hc1, hc2, hpg⟩ := (HA.out.below hbel).at hlt
      have hpl := HP.out _ (getD_lt (z := zeroBk) (show k < X.length by have := HA.out.1; omega))
      have HPG := Lib.hid (hpg.mono hbel.size)
      clear hbel hrel hpg
      go_wp2_with fail
      refine (toBlock_any _ _ _ _ _ _ _ hpl HPG.out).mono ?_
      rintro e w2 ⟨rfl, ho2, hb2⟩
      obtain ⟨f, hf⟩ := HREL.out.row
      have hrow := hf.below hb2 hf.lt
      have HO2 := Lib.hid ho2; have HB2 := Lib.hid hb2
      have he0 := hrow.cell (i := k * 3) (by omega)
      have he1 := hrow.cell (i := k * 3 + 1) (by omega)
      have he2 := hrow.cell (i := k * 3 + 2) (by omega)
      have hf0 := hrow.free (k * 3)
      have hf1 := hrow.free (k * 3 + 1)
      have hf2 := hrow.free (k * 3 + 2)
      clear hb2 ho2 hf hrow
      go_wp2
      go_roundw
      case rel => exact ⟨k + 1, by omega, by go_num, HREL.out.more hlt HB2.out (by omega) HO2.out rfl⟩
      case measure => simp [intOf]; omega
    · clear hbel hrel
      obtain rfl : k = n := by omega
      go_wp2
      go_ret
      exact ⟨rfl, HREL.out.own HA.out.1, HREL.out.bel⟩

set_option maxHeartbeats 1000000 in
theorem toNand_any (A : Option Addr) (n ca : Nat) (X : List Bk) (w : World) (hn : n ≤ 2147483648) (hp : ∀ b ∈ X, b.pages.length ≤ 2147483648) (hA : RdBk w w.heap.size A n X) :
    Calls Tryz.prog 62 #[.agg #[.slice A n ca]] w fun e w' => e = .returned (.agg #[.slice (some ⟨w.heap.size + 3, 0, none⟩) n n]) ∧ OwNd w' w.heap.size w'.heap.size (some ⟨w.heap.size + 3, 0, none⟩) n X ∧ Below w.heap.size w w' := by
  have HA := Lib.hid hA; clear hA
  have HP := Lib.hid hp; clear hp
  go_enter Tryz.func62, Tryz.ntmps62
  go_wp2_with fail
  refine (toBlockS_any A n ca X _ hn HP.out ?_).mono ?_
  · exact ((HA.out.below (((( Below.refl _ _).alloc (Nat.le_refl _) _).alloc (by simp) _).alloc (by simp; omega) _)).mono (by simp; omega))
  rintro e w4 ⟨rfl, ho, hb4⟩
  have hs : w.heap.size + 3 ≤ w4.heap.size := by have := hb4.size; simp at this; omega
  have k1 := (((isBlk_new (w.alloc _) 25 [Value.slice none 0 0]).alloc _).below hb4 (by simp))
  have k2 := ((isBlk_new ((w.alloc _).alloc _) 25 [Value.slice none 0 0]).below hb4 (by simp))
  have HB4 := Lib.hid ((((( Below.refl w.heap.size w).alloc (Nat.le_refl _) _).alloc (by simp) _).alloc (by simp; omega) _).trans (hb4.mono (by simp; omega)))
  simp only [size_alloc] at k1 k2 ho
  have HO := Lib.hid ho
  have d0 : w4.cell? ⟨_, 0, none⟩ = some _ := k1.cell rfl
  have fd0 : w4.frozen? ⟨_, 0, none⟩ = false := k1.free
  have e0 : w4.cell? ⟨_, 0, none⟩ = some _ := k2.cell rfl
  have fe0 : w4.frozen? ⟨_, 0, none⟩ = false := k2.free
  clear ho hb4 k1 k2
  go_wp2
  refine bodyPost_ret (v := .agg #[.slice (some ⟨w.heap.size + 3, 0, none⟩) n n]) (by simp [results, Tryz.results62, go_sem, d0]) rfl ⟨rfl, ?_, ?_⟩
  · refine (HO.out.mono (Nat.le_refl _) (by simp [World.setCell])).same ?_ |>.mono (by omega) (Nat.le_refl _)
    intro k h1 h2
    rw [Below.heap_setCell _ _ _ _ (by dsimp only; omega), Below.heap_setCell _ _ _ _ (by dsimp only; omega)]
  · repeat (with_reducible refine Below.setCell ?_ ?_ _)
    all_goals first | exact HB4.out | (dsimp only; omega)
end Go.Proofs.YtloaeglmngcenaaGreatDoor
