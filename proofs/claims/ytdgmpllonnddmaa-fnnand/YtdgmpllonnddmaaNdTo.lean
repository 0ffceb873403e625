/-
  What the laws' own copies make: pages, blocks, chips of the program's types in new memory.
-/
import Derived.Test.YtdgmpllonnddmaaChecked
import Derived.Test.YtdgmpllonnddmaaNdMem
import Derived.StillTailTactics
import Derived.Deep.QuietTactic
import Derived.BigQuiet
import Derived.Lib.QuietBelow
import Derived.Laws.MakeOwn
namespace Go.Proofs.Ytdgmpllonnddmaa
open Go.RowKit

theorem info_page : (Try.prog.info? 58).map (fun i => (i.zero, i.size, i.bytes)) = some (some (.agg #[.bool false, .string ⟨#[]⟩]), 2, 24) := by kernel_rfl
theorem info_block : (Try.prog.info? 47).map (fun i => (i.zero, i.size, i.bytes)) = some (some (.agg #[.slice none 0 0, .int .i64 0, .bool false]), 3, 40) := by kernel_rfl

/-- what the copying of the first k blocks has made: a row at g, the pages of each block behind it, one behind the other -/
def BkRel (w wr : World) (g n k : Nat) (X : List Bk) : Prop :=
  ∃ pa cp : Nat → Nat, Row wr g (n * 3) (upto k 3 (bkF (fun i => some ⟨pa i, 0, none⟩) cp X) (bkF (fun _ => none) (fun _ => 0) [])) ∧
    (∀ i, i < k → g < pa i ∧ pa i < wr.heap.size ∧ OwPg wr (pa i) (X.getD i zeroBk).pages ∧ cp i = (X.getD i zeroBk).pages.length) ∧ (∀ i j, i < k → j < i → pa j < pa i) ∧ Below g w wr
theorem BkRel.row {w wr : World} {g n k : Nat} {X : List Bk} (h : BkRel w wr g n k X) : ∃ f, Row wr g (n * 3) f := by obtain ⟨pa, cp, h, _⟩ := h; exact ⟨_, h⟩
theorem BkRel.bel {w wr : World} {g n k : Nat} {X : List Bk} (h : BkRel w wr g n k X) : Below g w wr := by obtain ⟨pa, cp, _, _, _, h⟩ := h; exact h
/-- one block more, its pages at p -/
theorem BkRel.more {w wr w2 : World} {g n k p c : Nat} {X : List Bk} (h : BkRel w wr g n k X) (hk : k < n) (hb : Below wr.heap.size wr w2) (hp : wr.heap.size ≤ p) (ho : OwPg w2 p (X.getD k zeroBk).pages) (hc : c = (X.getD k zeroBk).pages.length) :
    BkRel w (((w2.setCell ⟨g, k * 3, none⟩ (.slice (some ⟨p, 0, none⟩) (X.getD k zeroBk).pages.length c)).setCell ⟨g, k * 3 + 1, none⟩ (.int .i64 (X.getD k zeroBk).erases)).setCell ⟨g, k * 3 + 2, none⟩ (.bool (X.getD k zeroBk).bad)) g n (k + 1) X := by
  obtain ⟨pa, cp, hr, hpg, hap, hbel⟩ := h
  have hg := hr.lt
  have hp2 : p < w2.heap.size := Row.lt ho
  refine ⟨fun i => if i = k then p else pa i, fun i => if i = k then c else cp i, ?_, ?_, ?_, ?_⟩
  · refine ((((hr.below hb hg).set _ _).set _ _).set _ _).congr fun i hi => ?_
    rw [← upto_set3 (k := k) (u0 := .slice (some ⟨p, 0, none⟩) (X.getD k zeroBk).pages.length c) (u1 := .int .i64 (X.getD k zeroBk).erases) (u2 := .bool (X.getD k zeroBk).bad) (by rw [bkF_0]; simp) (by rw [bkF_1]) (by rw [bkF_2])]
    congr 1; congr 1; congr 1
    by_cases hik : i < k * 3
    · rw [upto_lt hik, upto_lt hik]
      unfold bkF
      dsimp only
      rw [if_neg (show ¬ i / 3 = k by omega), if_neg (show ¬ i / 3 = k by omega)]
    · rw [upto_ge (by omega), upto_ge (by omega)]
  · intro i hi
    dsimp only
    by_cases e : i = k
    · subst e
      rw [if_pos rfl]
      refine ⟨by omega, by simpa [World.setCell] using hp2, ?_, by rw [if_pos rfl]; exact hc⟩
      exact Row.other (Row.other (Row.other ho (by dsimp only; omega) _) (by dsimp only; omega) _) (by dsimp only; omega) _
    · rw [if_neg e]
      obtain ⟨h1, h2, h3, h4⟩ := hpg i (by omega)
      refine ⟨h1, by simp [World.setCell]; have := hb.size; omega, ?_, by rw [if_neg e]; exact h4⟩
      exact Row.other (Row.other (Row.other (Row.below h3 hb h2) (by dsimp only; omega) _) (by dsimp only; omega) _) (by dsimp only; omega) _
  · intro i j hi hj
    dsimp only
    by_cases e : i = k
    · subst e
      rw [if_pos rfl, if_neg (by omega)]
      have := hpg j (by omega); omega
    · rw [if_neg e, if_neg (by omega)]
      exact hap i j (by omega) hj
  · exact (((hbel.trans (hb.mono (by omega))).setCell (Nat.le_refl _) _).setCell (Nat.le_refl _) _).setCell (Nat.le_refl _) _
/-- one block more, where the row's cells of it are told by a law of their own -/
theorem BkRel.moreW {w wr w2 w3 : World} {g n k p c : Nat} {X : List Bk} (h : BkRel w wr g n k X) (hb : Below wr.heap.size wr w2) (hp : wr.heap.size ≤ p) (ho : OwPg w3 p (X.getD k zeroBk).pages) (hc : c = (X.getD k zeroBk).pages.length)
    (hr3 : ∀ f, Row w2 g (n * 3) f → f (k * 3) = .slice none 0 0 → f (k * 3 + 1) = .int .i64 0 → f (k * 3 + 2) = .bool false → Row w3 g (n * 3) (fun i => if i = k * 3 + 2 then .bool (X.getD k zeroBk).bad else if i = k * 3 + 1 then .int .i64 (X.getD k zeroBk).erases else if i = k * 3 then .slice (some ⟨p, 0, none⟩) (X.getD k zeroBk).pages.length c else f i))
    (h3 : ∀ j, j < w2.heap.size → j ≠ g → w3.heap[j]? = w2.heap[j]?) (_hs : w2.heap.size ≤ w3.heap.size) (hb3 : Below g w2 w3) :
    BkRel w w3 g n (k + 1) X := by
  obtain ⟨pa, cp, hr, hpg, hap, hbel⟩ := h
  have hg := hr.lt
  have hp3 : p < w3.heap.size := Row.lt ho
  have hz0 : upto k 3 (bkF (fun i => some ⟨pa i, 0, none⟩) cp X) (bkF (fun _ => none) (fun _ => 0) []) (k * 3) = .slice none 0 0 := by rw [upto_ge (by omega), bkF_0]; rfl
  have hz1 : upto k 3 (bkF (fun i => some ⟨pa i, 0, none⟩) cp X) (bkF (fun _ => none) (fun _ => 0) []) (k * 3 + 1) = .int .i64 0 := by rw [upto_ge (by omega), bkF_1]; rfl
  have hz2 : upto k 3 (bkF (fun i => some ⟨pa i, 0, none⟩) cp X) (bkF (fun _ => none) (fun _ => 0) []) (k * 3 + 2) = .bool false := by rw [upto_ge (by omega), bkF_2]; rfl
  refine ⟨fun i => if i = k then p else pa i, fun i => if i = k then c else cp i, ?_, ?_, ?_, ?_⟩
  · refine (hr3 _ (hr.below hb hg) hz0 hz1 hz2).congr fun i hi => ?_
    rw [← upto_set3 (k := k) (u0 := .slice (some ⟨p, 0, none⟩) (X.getD k zeroBk).pages.length c) (u1 := .int .i64 (X.getD k zeroBk).erases) (u2 := .bool (X.getD k zeroBk).bad) (by rw [bkF_0]; simp) (by rw [bkF_1]) (by rw [bkF_2])]
    congr 1; congr 1; congr 1
    by_cases hik : i < k * 3
    · rw [upto_lt hik, upto_lt hik]
      unfold bkF
      dsimp only
      rw [if_neg (show ¬ i / 3 = k by omega), if_neg (show ¬ i / 3 = k by omega)]
    · rw [upto_ge (by omega), upto_ge (by omega)]
  · intro i hi
    dsimp only
    by_cases e : i = k
    · subst e
      rw [if_pos rfl]
      exact ⟨by omega, hp3, ho, by rw [if_pos rfl]; exact hc⟩
    · rw [if_neg e]
      obtain ⟨h1, h2, h4, h5⟩ := hpg i (by omega)
      have hb2 := hb.size
      exact ⟨h1, by omega, Row.same (Row.below h4 hb h2) (h3 _ (by omega) (by omega)), by rw [if_neg e]; exact h5⟩
  · intro i j hi hj
    dsimp only
    by_cases e : i = k
    · subst e
      rw [if_pos rfl, if_neg (by omega)]
      have := hpg j (by omega); omega
    · rw [if_neg e, if_neg (by omega)]
      exact hap i j (by omega) hj
  · exact (hbel.trans (hb.mono (by omega))).trans hb3
theorem BkRel.own {w wr : World} {g n : Nat} {X : List Bk} (h : BkRel w wr g n n X) (hl : X.length = n) : OwNd wr g wr.heap.size (some ⟨g, 0, none⟩) n X := by
  obtain ⟨pa, cp, hr, hpg, hap, hbel⟩ := h
  subst hl
  refine ⟨rfl, fun _ => ⟨g, pa, cp, rfl, Nat.le_refl _, hr.lt, hr.congr (fun i hi => upto_lt hi), fun i hi => ?_, fun i j hi hj hne => ?_, fun i hi => (hpg i hi).2.2.1, fun i hi => by rw [(hpg i hi).2.2.2]; exact Room.full _ _ _⟩⟩
  · have := hpg i hi; omega
  · rcases Nat.lt_or_gt_of_ne hne with h | h
    · have := hap j i hj h; omega
    · have := hap i j hi h; omega

end Go.Proofs.Ytdgmpllonnddmaa
