/-
  Loads, the plain mathematics: the Seqs on the pages, where a record stands alone, and what a load is.
  loadsOf, of the program: the rows of the loads.
  Load, of the program.
  Load, of the document's model.
-/
import Derived.Test.YtfpibbhcecdbgaaGreatDoorLgPlaces
import Derived.Test.YtfpibbhcecdbgaaGreatDoorLgMountP
import Derived.Test.YtfpibbhcecdbgaaGreatDoorMgPrune
import Derived.Deep.AppendLies
import Derived.Test.YtfpibbhcecdbgaaGreatDoorProg
import Derived.KernelRfl
import Derived.Test.YtfpibbhcecdbgaaGreatDoorLgPut
import Derived.Test.YtfpibbhcecdbgaaGreatDoorMgMount
import Derived.Test.YtfpibbhcecdbgaaGreatDoorHsOne
import Derived.Deep.RegionHeld3
import Derived.Deep.DeepCutAuto
import Derived.Deep.CutBlock
import Derived.Test.YtfpibbhcecdbgaaGreatDoorLgMountS
namespace Go.Proofs.YtfpibbhcecdbgaaGreatDoor
open Bt (Rc)

/-- the Seq of the record on page k of a block; 0: there is none -/
def sqPg (ps : List Pg) (k : Nat) : Int := if k < uPre ps ∧ (Bt.recRead (ps.getD k zeroPg).data).2 = 0 then (Bt.recRead (ps.getD k zeroPg).data).1.q else 0
/-- those of the first blocks -/
def sqs (X : List Bk) : Nat → List Int
  | 0 => []
  | i + 1 => sqs X i ++ (List.range 4).map (sqPg (X.getD i zeroBk).pages)
theorem sqs_len (X : List Bk) : ∀ i, (sqs X i).length = 4 * i
  | 0 => rfl
  | i + 1 => by rw [sqs, List.length_append, sqs_len X i]; simp; omega
theorem sqs_at (X : List Bk) : ∀ (n i k : Nat), i < n → k < 4 → (sqs X n).getD (4 * i + k) 0 = sqPg (X.getD i zeroBk).pages k
  | 0, _, _, h, _ => absurd h (by omega)
  | n + 1, i, k, h, hk => by
    rw [sqs, List.getD_eq_getElem?_getD]
    by_cases hi : i < n
    · rw [List.getElem?_append_left (by rw [sqs_len]; omega), ← List.getD_eq_getElem?_getD]
      exact sqs_at X n i k hi hk
    · obtain rfl : i = n := by omega
      rw [List.getElem?_append_right (by rw [sqs_len]; omega), sqs_len, show 4 * i + k - 4 * i = k by omega, List.getElem?_map, List.getElem?_range hk]
      rfl
/-- a record stands in block b, and in no other one: the model's -/
def aloneB (L : List Int) (q b : Int) : Bool := (List.range L.length).any (fun i => L.getD i 0 == q) && (List.range L.length).all (fun i => L.getD i 0 != q || ((i : Int) / 4 == b))
theorem aloneB_iff {L : List Int} {q b : Int} : aloneB L q b = true ↔ (∃ i, i < L.length ∧ L.getD i 0 = q) ∧ ∀ i, i < L.length → L.getD i 0 = q → (i : Int) / 4 = b := by
  unfold aloneB
  rw [Bool.and_eq_true, List.any_eq_true, List.all_eq_true]
  constructor
  · rintro ⟨⟨i, h1, h2⟩, h3⟩
    refine ⟨⟨i, List.mem_range.1 h1, by simpa using h2⟩, fun j hj he => ?_⟩
    have := h3 j (List.mem_range.2 hj)
    rw [Bool.or_eq_true] at this
    rcases this with h | h
    · rw [he] at h; simp at h
    · simpa using h
  · rintro ⟨⟨i, h1, h2⟩, h3⟩
    refine ⟨⟨i, List.mem_range.2 h1, by simpa using h2⟩, fun j hj => ?_⟩
    rw [Bool.or_eq_true]
    by_cases he : L.getD j 0 = q
    · exact .inr (by simpa using h3 j (List.mem_range.1 hj) he)
    · exact .inl (by simpa using he)
/-- the block of places in increasing order, if it is one: the program's -/
def onb (l : List Int) : Option Int := if l.getD 0 0 / 4 = l.getD (l.length - 1) 0 / 4 then some (l.getD 0 0 / 4) else none
theorem getD_le {l : List Int} (hs : l.Pairwise (· < ·)) {i j : Nat} (hij : i ≤ j) (hj : j < l.length) : l.getD i 0 ≤ l.getD j 0 := by
  rcases Nat.lt_or_ge i j with h | h
  · have := List.pairwise_iff_getElem.1 hs i j (by omega) hj h
    rw [List.getD_eq_getElem?_getD, List.getD_eq_getElem?_getD, List.getElem?_eq_getElem (by omega), List.getElem?_eq_getElem hj]
    exact Int.le_of_lt this
  · obtain rfl : i = j := by omega
    exact Int.le_refl _
theorem onb_iff {l : List Int} {b : Int} (hne : 0 < l.length) (hs : l.Pairwise (· < ·)) : onb l = some b ↔ ∀ p ∈ l, p / 4 = b := by
  have hm : ∀ i, i < l.length → l.getD i 0 ∈ l := fun i hi => by rw [List.getD_eq_getElem?_getD, List.getElem?_eq_getElem hi]; exact List.getElem_mem hi
  unfold onb
  constructor
  · intro h p hp
    obtain ⟨j, hj, rfl⟩ := List.getElem_of_mem hp
    have e : l[j] = l.getD j 0 := by rw [List.getD_eq_getElem?_getD, List.getElem?_eq_getElem hj]; rfl
    have h1 := getD_le hs (Nat.zero_le j) hj
    have h2 := getD_le hs (show j ≤ l.length - 1 by omega) (by omega)
    split at h
    · rename_i he
      have := Option.some.inj h
      rw [e]; omega
    · cases h
  · intro h
    have h1 := h _ (hm 0 hne)
    have h2 := h _ (hm (l.length - 1) (by omega))
    rw [if_pos (h1.trans h2.symm), h1]

/-- what is on the chip, by block and page -/
theorem mem_pgs {i : Nat} {ps : List Pg} {x : Int × Rc} : ∀ m, x ∈ pgsRecs i ps m ↔ ∃ k, k < m ∧ (Bt.recRead (ps.getD k zeroPg).data).2 = 0 ∧ x = (4 * (i : Int) + (k : Int), (Bt.recRead (ps.getD k zeroPg).data).1)
  | 0 => by simp [pgsRecs]
  | m + 1 => by
    rw [pgsRecs, List.mem_append, mem_pgs m]
    constructor
    · rintro (⟨k, h1, h2⟩ | h)
      · exact ⟨k, by omega, h2⟩
      · by_cases hr : (Bt.recRead (ps.getD m zeroPg).data).2 = 0
        · rw [pgRec_yes hr] at h; exact ⟨m, by omega, hr, by simpa using h⟩
        · rw [pgRec_no hr] at h; cases h
    · rintro ⟨k, h1, h2, h3⟩
      rcases Nat.lt_or_ge k m with h | h
      · exact .inl ⟨k, h, h2, h3⟩
      · obtain rfl : k = m := by omega
        rw [pgRec_yes h2]; exact .inr (by simp [h3])
theorem mem_recs {X : List Bk} {x : Int × Rc} : ∀ n, x ∈ recsTo X n ↔ ∃ i, i < n ∧ ∃ k, k < uPre (X.getD i zeroBk).pages ∧ (Bt.recRead ((X.getD i zeroBk).pages.getD k zeroPg).data).2 = 0 ∧ x = (4 * (i : Int) + (k : Int), (Bt.recRead ((X.getD i zeroBk).pages.getD k zeroPg).data).1)
  | 0 => by simp [recsTo]
  | n + 1 => by
    rw [recsTo, List.mem_append, mem_recs n, mem_pgs]
    constructor
    · rintro (⟨i, h1, h2⟩ | h)
      · exact ⟨i, by omega, h2⟩
      · exact ⟨n, by omega, h⟩
    · rintro ⟨i, h1, h2⟩
      rcases Nat.lt_or_ge i n with h | h
      · exact .inl ⟨i, h, h2⟩
      · obtain rfl : i = n := by omega
        exact .inr h2
theorem pgs_inc (i : Nat) (ps : List Pg) : ∀ m, (pgsRecs i ps m).Pairwise (fun x y => x.1 < y.1)
  | 0 => by simp [pgsRecs]
  | m + 1 => by
    rw [pgsRecs, List.pairwise_append]
    refine ⟨pgs_inc i ps m, ?_, fun x hx y hy => ?_⟩
    · unfold pgRec; split <;> simp
    · obtain ⟨k, h1, -, rfl⟩ := (mem_pgs m).1 hx
      by_cases hr : (Bt.recRead (ps.getD m zeroPg).data).2 = 0
      · rw [pgRec_yes hr] at hy
        have : y = _ := List.mem_singleton.1 hy
        subst this
        show 4 * (i : Int) + (k : Int) < 4 * (i : Int) + (m : Int)
        omega
      · rw [pgRec_no hr] at hy; cases hy
theorem recs_inc {X : List Bk} (h : NdOk X) : ∀ n, n ≤ X.length → (recsTo X n).Pairwise (fun x y => x.1 < y.1)
  | 0, _ => by simp [recsTo]
  | n + 1, hn => by
    rw [recsTo, List.pairwise_append]
    refine ⟨recs_inc h n (by omega), pgs_inc _ _ _, fun x hx y hy => ?_⟩
    obtain ⟨i, h1, k, h2, -, rfl⟩ := (mem_recs n).1 hx
    obtain ⟨k', -, -, rfl⟩ := (mem_pgs _).1 hy
    have h4 := (h.2 i (by omega)).1
    have h5 := uPre_le (X.getD i zeroBk).pages
    show 4 * (i : Int) + (k : Int) < 4 * (n : Int) + (k' : Int)
    omega
theorem plc_inc {R : List (Int × Rc)} (h : R.Pairwise (fun x y => x.1 < y.1)) (q : Int) : (plc R q).Pairwise (· < ·) := by
  unfold plc
  rw [List.pairwise_map]
  exact h.filter _
theorem mem_plc {R : List (Int × Rc)} {q p : Int} : p ∈ plc R q ↔ ∃ x ∈ R, x.2.q = q ∧ x.1 = p := by
  unfold plc
  rw [List.mem_map]
  constructor
  · rintro ⟨x, hx, rfl⟩
    have := List.mem_filter.1 hx
    exact ⟨x, this.1, by simpa using this.2, rfl⟩
  · rintro ⟨x, hx, h1, rfl⟩
    exact ⟨x, List.mem_filter.2 ⟨hx, by simpa using h1⟩, rfl⟩

/-- the two agree: a record is on pages of block b alone -/
theorem alone_iff {X : List Bk} (h : NdOk X) {q b : Int} (hq : q ≠ 0) (hin : 0 < (plc (recsTo X X.length) q).length) : aloneB (sqs X X.length) q b = true ↔ onb (plc (recsTo X X.length) q) = some b := by
  have h4 : ∀ i, i < X.length → uPre (X.getD i zeroBk).pages ≤ 4 := fun i hi => by have := (h.2 i hi).1; have := uPre_le (X.getD i zeroBk).pages; omega
  have hsq : ∀ p, p < 4 * X.length → (sqs X X.length).getD p 0 = sqPg (X.getD (p / 4) zeroBk).pages (p % 4) := fun p hp => by
    have := sqs_at X X.length (p / 4) (p % 4) (by omega) (by omega)
    rw [show 4 * (p / 4) + p % 4 = p by omega] at this
    exact this
  have key : ∀ p, (p < 4 * X.length ∧ (sqs X X.length).getD p 0 = q) ↔ (p : Int) ∈ plc (recsTo X X.length) q := fun p => by
    rw [mem_plc]
    constructor
    · rintro ⟨hp, he⟩
      rw [hsq p hp] at he
      unfold sqPg at he
      split at he
      · rename_i hc
        exact ⟨_, (mem_recs X.length).2 ⟨p / 4, by omega, p % 4, hc.1, hc.2, rfl⟩, he, by show 4 * ((p / 4 : Nat) : Int) + ((p % 4 : Nat) : Int) = (p : Int); omega⟩
      · exact absurd he.symm hq
    · rintro ⟨x, hx, hxq, hxp⟩
      obtain ⟨i, hi, k, hk, hr, rfl⟩ := (mem_recs X.length).1 hx
      have hu := h4 i hi
      have hp : p = 4 * i + k := by simp only at hxp; omega
      subst hp
      refine ⟨by omega, ?_⟩
      rw [sqs_at X X.length i k hi (by omega)]
      unfold sqPg
      rw [if_pos ⟨hk, hr⟩]
      exact hxq
  rw [aloneB_iff, onb_iff hin (plc_inc (recs_inc h _ (Nat.le_refl _)) q), sqs_len]
  constructor
  · rintro ⟨-, h2⟩ p hp
    obtain ⟨x, hx, -, hxp⟩ := mem_plc.1 hp
    obtain ⟨i, hi, k, hk, hr, rfl⟩ := (mem_recs X.length).1 hx
    have e : p = ((4 * i + k : Nat) : Int) := by rw [← hxp]; simp
    subst e
    have := (key (4 * i + k)).2 hp
    exact h2 _ this.1 this.2
  · intro h2
    refine ⟨?_, fun p hp he => h2 _ ((key p).1 ⟨hp, he⟩)⟩
    obtain ⟨p, hp⟩ : ∃ p, p ∈ plc (recsTo X X.length) q := List.exists_mem_of_length_pos hin
    obtain ⟨x, hx, -, hxp⟩ := mem_plc.1 hp
    obtain ⟨i, hi, k, hk, hr, rfl⟩ := (mem_recs X.length).1 hx
    have e : p = ((4 * i + k : Nat) : Int) := by rw [← hxp]; simp
    subst e
    exact ⟨_, (key (4 * i + k)).2 hp⟩

/-- the load of a block: the program's -/
noncomputable def ldOf (X : List Bk) (b : Int) (P : List Rc) : List Rc := P.filter (fun r => onb (plc (recsTo X X.length) r.q) == some b)
theorem ldOf_snoc (X : List Bk) (b : Int) (P : List Rc) (r : Rc) : ldOf X b (P ++ [r]) = if onb (plc (recsTo X X.length) r.q) = some b then ldOf X b P ++ [r] else ldOf X b P := by
  unfold ldOf
  rw [List.filter_append]
  by_cases h : onb (plc (recsTo X X.length) r.q) = some b
  · rw [if_pos h]; simp [h]
  · rw [if_neg h]; simp [h]
theorem ldOf_len (X : List Bk) (b : Int) (P : List Rc) : (ldOf X b P).length ≤ P.length := List.length_filter_le _ _
/-- the places in a history of what is in a block alone, and is needed: the model's -/
noncomputable def ldTo (Y : List Rc) (L : List Int) (b : Int) : Nat → List Nat
  | 0 => []
  | k + 1 => if ((nd Y k || decide (k + 1 = Y.length)) && aloneB L (Y.getD k Rc.zero).q b) = true then ldTo Y L b k ++ [k] else ldTo Y L b k
theorem ldTo_mem {Y : List Rc} {L : List Int} {b : Int} : ∀ k i, i ∈ ldTo Y L b k → i < k
  | 0, i, h => by simp [ldTo] at h
  | k + 1, i, h => by
    rw [ldTo] at h
    split at h
    · rcases List.mem_append.1 h with h | h
      · have := ldTo_mem k i h; omega
      · have := List.mem_singleton.1 h; omega
    · have := ldTo_mem k i h; omega
theorem ldTo_len (Y : List Rc) (L : List Int) (b : Int) : ∀ k, (ldTo Y L b k).length ≤ k
  | 0 => by simp [ldTo]
  | k + 1 => by have := ldTo_len Y L b k; rw [ldTo]; split <;> (try rw [List.length_append, List.length_singleton]) <;> omega
theorem ldTo_yes {Y : List Rc} {L : List Int} {b : Int} {k : Nat} (h : ((nd Y k || decide (k + 1 = Y.length)) && aloneB L (Y.getD k Rc.zero).q b) = true) : ldTo Y L b (k + 1) = ldTo Y L b k ++ [k] := by rw [ldTo, if_pos h]
theorem ldTo_no {Y : List Rc} {L : List Int} {b : Int} {k : Nat} (h : ((nd Y k || decide (k + 1 = Y.length)) && aloneB L (Y.getD k Rc.zero).q b) = false) : ldTo Y L b (k + 1) = ldTo Y L b k := by rw [ldTo, if_neg (by rw [h]; simp)]
/-- the two loads are one -/
theorem loads_agree {X : List Bk} (h : NdOk X) {Y : List Rc} (hY : ∀ r ∈ Y, r.q ≠ 0 ∧ 0 < (plc (recsTo X X.length) r.q).length) (b : Int) : ∀ k, k ≤ Y.length → (ldTo Y (sqs X X.length) b k).map (fun i => Y.getD i Rc.zero) = ldOf X b (prTo Y k)
  | 0, _ => rfl
  | k + 1, hk => by
    have ih := loads_agree h hY b k (by omega)
    have hm : Y.getD k Rc.zero ∈ Y := getD_lt (by omega)
    obtain ⟨h1, h2⟩ := hY _ hm
    have ha := alone_iff h (q := (Y.getD k Rc.zero).q) (b := b) h1 h2
    cases hn : (nd Y k || decide (k + 1 = Y.length)) with
    | false => rw [prTo_no hn, ldTo_no (by rw [hn]; rfl), ih]
    | true =>
      rw [prTo_yes hn, ldOf_snoc]
      cases hal : aloneB (sqs X X.length) (Y.getD k Rc.zero).q b with
      | true => rw [ldTo_yes (by rw [hn, hal]; rfl), if_pos (ha.1 hal), List.map_append, ih]; rfl
      | false => rw [ldTo_no (by rw [hn, hal]; rfl), if_neg (fun e => by rw [ha.2 e] at hal; cases hal), ih]
theorem prTo_mem {Y : List Rc} {r : Rc} : ∀ k, k ≤ Y.length → r ∈ prTo Y k → r ∈ Y
  | 0, _, h => by simp [prTo] at h
  | k + 1, hk, h => by
    rw [prTo] at h
    split at h
    · rcases List.mem_append.1 h with h | h
      · exact prTo_mem k (by omega) h
      · rw [List.mem_singleton.1 h]; exact getD_lt (by omega)
    · exact prTo_mem k (by omega) h
theorem prune_mem {Y : List Rc} {r : Rc} (h : r ∈ pruneOf Y) : r ∈ Y := by
  unfold pruneOf at h
  split at h
  · exact prTo_mem _ (Nat.le_refl _) h
  · cases h
theorem ldOf_take {X : List Bk} {b : Int} {P : List Rc} {k : Nat} (hk : k < P.length) : ldOf X b (P.take (k + 1)) = if onb (plc (recsTo X X.length) (P.getD k Rc.zero).q) = some b then ldOf X b (P.take k) ++ [P.getD k Rc.zero] else ldOf X b (P.take k) := by
  rw [List.take_add_one, ← ldOf_snoc]
  have : P[k]?.toList = [P.getD k Rc.zero] := by rw [List.getD_eq_getElem?_getD, List.getElem?_eq_getElem hk]; rfl
  rw [this]
theorem plc_block {X : List Bk} (h : NdOk X) {q p : Int} (hp : p ∈ plc (recsTo X X.length) q) : 0 ≤ p / 4 ∧ p / 4 < (X.length : Int) := by
  obtain ⟨x, hx, -, rfl⟩ := mem_plc.1 hp
  obtain ⟨i, hi, k, hk, -, rfl⟩ := (mem_recs X.length).1 hx
  have := (h.2 i hi).1; have := uPre_le (X.getD i zeroBk).pages
  simp only
  omega
/-- every record of a mounted history is on a page -/
theorem mnt_placed {R : List (Int × Rc)} {r : Rc} (h : r ∈ mnt R) : 0 < (plc R r.q).length := by
  obtain ⟨x, hx, rfl⟩ := mnt_mem h
  exact List.length_pos_of_mem (mem_plc.2 ⟨x, hx, rfl, rfl⟩)
end Go.Proofs.YtfpibbhcecdbgaaGreatDoor

namespace Go.Proofs.YtfpibbhcecdbgaaGreatDoor
open Go.RowKit
open Bt (Rc)

theorem plc_good {X : List Bk} (h : NdOk X) {q p : Int} (hp : p ∈ plc (recsTo X X.length) q) : 0 ≤ p ∧ p < 48 := by
  obtain ⟨x, hx, -, rfl⟩ := mem_plc.1 hp
  exact (recsTo_good h X.length (Nat.le_refl _) x hx).1
set_option maxHeartbeats 1000000 in
/-- onlyBlock: the first place's block, and whether it is the last one's -/
theorem onlyBlock_any (A : Option Addr) (n ca : Nat) (L : List Int) (w : World) (hn0 : 0 < n) (hn : n ≤ 48) (hL : ∀ p ∈ L, 0 ≤ p ∧ p < 48) (hA : RdNs w w.heap.size A n L) :
    Calls Tryz.prog 157 #[.slice A n ca] w fun e w' => e = .returned (.tuple #[.int .i64 (L.getD 0 0 / 4), .bool (decide (L.getD 0 0 / 4 = L.getD (L.length - 1) 0 / 4))]) ∧ Below w.heap.size w w' := by
  obtain ⟨g, rfl, hg, hrow⟩ := hA.2 hn0
  have hLl := hA.1
  have h0 : w.cell? ⟨g, 0, none⟩ = some (.int .i64 (L.getD 0 0)) := hrow.cell hn0
  have h1 : w.cell? ⟨g, n - 1, none⟩ = some (.int .i64 (L.getD (n - 1) 0)) := hrow.cell (by omega)
  have hm : ∀ i, i < L.length → L.getD i 0 ∈ L := fun i hi => by rw [List.getD_eq_getElem?_getD, List.getElem?_eq_getElem hi]; exact List.getElem_mem hi
  have b0 := hL _ (hm 0 (by omega)); have b1 := hL _ (hm (n - 1) (by omega))
  rw [hLl]
  clear hrow hm hL hA hLl
  generalize L.getD 0 0 = a at *
  generalize L.getD (n - 1) 0 = b at *
  have q0 : a.tdiv 4 = a / 4 := Int.tdiv_eq_ediv_of_nonneg b0.1
  have q1 : b.tdiv 4 = b / 4 := Int.tdiv_eq_ediv_of_nonneg b1.1
  have w0 : IntKind.i64.wrap (a / 4) = a / 4 := IntWalk.i64_in _ (by omega)
  have w1 : IntKind.i64.wrap (b / 4) = b / 4 := IntWalk.i64_in _ (by omega)
  have wn : IntKind.i64.wrap ((n : Int) - 1) = (n : Int) - 1 := IntWalk.i64_in _ (by omega)
  have hi0 : (0 : Int) ≤ (n : Int) - 1 := by omega
  have hi1 : (n : Int) - 1 < (n : Int) := by omega
  have hi2 : ((n : Int) - 1).toNat = n - 1 := by omega
  have hi3 : (0 : Int) < (n : Int) := by omega
  go_enter Tryz.func157, Tryz.ntmps157
  go_wp2
  refine bodyPost_ret (v := .tuple #[.int .i64 (a / 4), .bool (decide (a / 4 = b / 4))]) (by simp [results, Tryz.results157, go_sem]; rfl) rfl ?_
  exact ⟨rfl, Below.refl _ _⟩

/-- the rows of the loads, while they are collected: the outer row lies in block g, the inner ones behind W -/
structure Lds (W wr : World) (g n : Nat) (f : Nat → Value) (L : Nat → List Rc) : Prop where
  gl : g < W.heap.size
  row : Row wr g n f
  own : ∀ j, j < n → wr.ownsRow W.heap.size 68 6 (f j) (L j).length (rcA (L j))
  apart : ∀ i j, i < n → j < n → i ≠ j → (f i).ownBlock = none ∨ (f i).ownBlock ≠ (f j).ownBlock
  btw : Btw g (g + 1) W wr
theorem gby_btw {g : Nat} {w w' : World} (h : Btw g (g + 1) w w') : w.grownBy w' (some g) := ⟨h.os, h.tape, h.output, h.size, fun k hk hne => h.block k hk (by have : k ≠ g := fun e => hne (by rw [e]); omega)⟩
theorem Lds.put {W wr U w9 : World} {g n b g2 c2 : Nat} {f : Nat → Value} {L : Nat → List Rc} {r : Rc} (h : Lds W wr g n f L) (hU : Below wr.heap.size wr U) (hb : b < n)
    (hown : w9.ownsRow W.heap.size 68 6 (.slice (some ⟨g2, 0, none⟩) ((L b).length + 1) c2) ((L b).length + 1) (rcA (L b) ++ recC r)) (hg : U.grownBy w9 (f b).ownBlock) (hat : (f b).ownBlock = some g2 ∨ g2 = U.heap.size) :
    Lds W (w9.setCell ⟨g, b, none⟩ (.slice (some ⟨g2, 0, none⟩) ((L b).length + 1) c2)) g n (fun j => if j = b then .slice (some ⟨g2, 0, none⟩) ((L b).length + 1) c2 else f j) (fun j => if j = b then L b ++ [r] else L j) := by
  have hgl := h.gl
  have hlb : ∀ j k, j < n → (f j).ownBlock = some k → W.heap.size ≤ k ∧ k < wr.heap.size := fun j k hj hk => own_block_ltR (h.own j hj) hk
  have hwr : W.heap.size ≤ wr.heap.size := h.btw.size
  have hgU : ∀ k, k < wr.heap.size → (f b).ownBlock ≠ some k → w9.heap[k]? = wr.heap[k]? := fun k hk hne => (hg.block k (Nat.lt_of_lt_of_le hk hU.size) (fun e => hne e.symm)).trans (hU.block k hk)
  have hgne : (f b).ownBlock ≠ some g := fun e => by have := (hlb b g hb e).1; omega
  refine ⟨hgl, ?_, fun j hj => ?_, fun i j hi hj hij => ?_, ?_⟩
  · exact (h.row.same (hgU g (Nat.lt_of_lt_of_le hgl hwr) hgne)).set b _
  · by_cases e : j = b
    · subst e
      simp only [if_true]
      rw [rcA_snoc, List.length_append]
      exact own_otherR hown (by dsimp only; omega) _
    · simp only [if_neg e]
      refine own_otherR (own_sameR (h.own j hj) fun k hk => hgU k (hlb j k hj hk).2 fun e2 => ?_) (by dsimp only; omega) _
      rcases h.apart j b hj hb e with h1 | h1
      · rw [h1] at hk; cases hk
      · exact h1 (hk.trans e2.symm)
  · have hnew : ∀ j, j < n → j ≠ b → (f j).ownBlock = none ∨ (f j).ownBlock ≠ some g2 := fun j hj hne => by
      rcases hat with e | e
      · rw [← e]; exact h.apart j b hj hb hne
      · cases hfj : (f j).ownBlock with
        | none => exact .inl rfl
        | some k => refine .inr fun e2 => ?_
                    have := (hlb j k hj hfj).2; have := hU.size; have := Option.some.inj e2; omega
    by_cases ei : i = b
    · subst ei
      have ej : ¬ j = i := fun e => hij e.symm
      simp only [if_true, if_neg ej]
      rcases hnew j hj ej with h1 | h1
      · refine .inr ?_; rw [h1]; simp [Value.ownBlock]
      · exact .inr fun e => h1 (e.symm.trans rfl)
    · simp only [if_neg ei]
      by_cases ej : j = b
      · subst ej
        simp only [if_true]
        exact hnew i hi ei
      · simp only [if_neg ej]
        exact h.apart i j hi hj hij
  · refine Btw.setCell (p := ⟨g, b, none⟩) ⟨hg.os.trans (hU.os.trans h.btw.os), hg.tape.trans (hU.tape.trans h.btw.tape), hg.output.trans (hU.output.trans h.btw.output), Nat.le_trans hwr (Nat.le_trans hU.size hg.size), fun k hk ho => ?_⟩ (.inl ⟨Nat.le_refl _, Nat.lt_succ_self _⟩) _
    exact (hgU k (Nat.lt_of_lt_of_le hk hwr) (fun e => by have := (hlb b k hb e).1; omega)).trans (h.btw.block k hk ho)
theorem Lds.below {W wr wr' : World} {g n : Nat} {f : Nat → Value} {L : Nat → List Rc} (h : Lds W wr g n f L) (hb : Below wr.heap.size wr wr') : Lds W wr' g n f L :=
  ⟨h.gl, h.row.below hb h.row.lt, fun j hj => own_belowR (h.own j hj) hb, h.apart, h.btw.trans (.of_below hb)⟩

/-- a map of rows through what others do, a row of another type among it -/
theorem groups_keptT {w w' : World} {row : Option Nat} {P : Program} {k e : TypeId} {base b n : Nat} {D : DataW Unit} (h : w.ownsGroups P k base e .i64 b n D) (hg : w.grownBy w' row) (hb : some b ≠ row) (hr : ∀ r, row = some r → ∃ o : Obj, w.heap[r]? = some o ∧ ∀ c z, o ≠ .cells c e z) : w'.ownsGroups P k base e .i64 b n D := by
  have h' := h
  refine h.kept hg hb (fun es clock hbb x hx => ?_)
  obtain ⟨es', clock', hb', F, -⟩ := h'
  obtain ⟨rfl, rfl⟩ : es' = es ∧ clock' = clock := by rw [hb'] at hbb; simpa using hbb
  obtain ⟨y, hy⟩ := F.reads x hx
  obtain ⟨z, hz, _⟩ := WideElems.rd_val hy
  obtain ⟨zs, hoi, _⟩ := rowElem_inv hz
  rcases hoi.1.2 with ⟨hv, -⟩ | ⟨g, cap, cur, hv, -, hgb, -⟩
  · rw [hv]; exact .inl rfl
  · refine .inr fun e' => ?_
    obtain ⟨o, ho, hc⟩ := hr g (by rw [hv] at e'; simpa [Value.ownBlock] using e'.symm)
    rw [hgb] at ho; cases ho; exact hc _ _ rfl
theorem hist_recs (A : Option Addr) (n c : Nat) (w : World) : (Instr.field 60 (.agg #[.slice A n c]) 0).run Tryz.prog w = .ok (.slice A n c) w := by
  simp [Instr.field, run_underlying Tryz.underlying60, part, asAgg, go_sem]
theorem info_rows : (Tryz.prog.info? 58).map (fun i => (i.zero, i.size, i.bytes)) = some (some (.slice none 0 0), 1, 24) := by kernel_rfl
/-- the loads, answered -/
def RetLd (w : World) (n : Nat) (L : Nat → List Rc) (e : Ending) (w' : World) : Prop :=
  ∃ (g : Nat) (f : Nat → Value), e = .returned (.slice (some ⟨g, 0, none⟩) n n) ∧ w.heap.size ≤ g ∧ Row w' g n f ∧ (∀ j, j < n → w'.ownsRow (g + 1) 68 6 (f j) (L j).length (rcA (L j))) ∧ Below w.heap.size w w'

set_option maxHeartbeats 8000000 in
set_option maxRecDepth 100000 in
theorem loadsOf_any (A B : Option Addr) (n ca m cb : Nat) (X : List Bk) (Y : List Rc) (w : World) (hok : NdOk X) (hG : ErrType w) (hS : SmallR Y) (hcb : m ≤ cb) (hY : ∀ r ∈ Y, 0 < (plc (recsTo X X.length) r.q).length ∧ (Lit.int .i64 r.q).wf = true) (hA : RdBk w w.heap.size A n X) (hB : RdRc w w.heap.size B m Y) :
    Calls Tryz.prog 81 #[.agg #[.slice A n ca], .agg #[.slice B m cb]] w (RetLd w n (fun j => ldOf X (j : Int) (pruneOf Y))) := by
  obtain ⟨i0, hi0, hiv⟩ := Option.map_eq_some_iff.1 info_recL
  have Hi := Lib.hid hi0; have Z0 := Lib.hid (congrArg (·.1) hiv); have Z1 := Lib.hid (congrArg (·.2.1) hiv); have Z2 := Lib.hid (congrArg (·.2.2) hiv)
  clear hi0 hiv
  have hNL : n = X.length := hA.1.symm
  have hn : n ≤ 12 := by rw [hNL]; exact hok.1.2
  have HPY0 : Hid (∀ r ∈ pruneOf Y, r ∈ Y) := fun r h => prune_mem h
  have hPl0 := pruneOf_len Y
  obtain ⟨P, hP⟩ : ∃ P, P = pruneOf Y := ⟨_, rfl⟩
  have HPE := Lib.hid hP
  rw [← hP] at HPY0 hPl0 ⊢
  have HPY : Hid (∀ r ∈ P, 0 < (plc (recsTo X X.length) r.q).length ∧ (Lit.int .i64 r.q).wf = true) := fun r h => hY r (HPY0.out r h)
  clear hP HPY0
  have HA := Lib.hid hA; have HB := Lib.hid hB; have HG := Lib.hid hG; have HOK := Lib.hid hok; have HS := Lib.hid hS; have HNL := Lib.hid hNL
  clear hA hB hG hok hS hY hNL
  have hmk := fun W => run_makeN (P := Tryz.prog) 109 58 _ _ _ Tryz.underlying109 info_rows n (by omega) (by omega) W
  go_enter Tryz.func81, Tryz.ntmps81
  go_wp2_with fail
  have hb0 : Below w.heap.size w (((w.alloc (.cells #[.slice A n ca] 28)).alloc (.cells #[.slice B m cb] 60)).alloc (.cells (madeCells #[Value.slice none 0 0] n) 58)) := (((Below.refl _ _).alloc (Nat.le_refl _) _).alloc (by simp) _).alloc (by simp; omega) _
  have k1 := (isBlk_new (w.alloc (.cells #[.slice A n ca] 28)) 60 [.slice B m cb]).alloc (.cells (madeCells #[Value.slice none 0 0] n) 58)
  have kg := row_made ((w.alloc (.cells #[.slice A n ca] 28)).alloc (.cells #[.slice B m cb] 60)) 58 #[Value.slice none 0 0] n (fun _ => .slice none 0 0) (fun i _ => by rw [show i % (#[Value.slice none 0 0] : Array Value).size = 0 from Nat.mod_one i]; rfl)
  have kt : (((w.alloc (.cells #[.slice A n ca] 28)).alloc (.cells #[.slice B m cb] 60)).alloc (.cells (madeCells #[Value.slice none 0 0] n) 58)).heap[w.heap.size + 1 + 1]? = some (.cells (madeCells #[Value.slice none 0 0] n) 58 (0, 0)) := by
    have h := heap_alloc_new ((w.alloc (.cells #[.slice A n ca] 28)).alloc (.cells #[.slice B m cb] 60)) (.cells (madeCells #[Value.slice none 0 0] n) 58)
    simpa using h
  simp only [size_alloc] at k1 kg
  change IsBlk (((w.alloc (.cells #[.slice A n ca] 28)).alloc (.cells #[.slice B m cb] 60)).alloc (.cells (madeCells #[Value.slice none 0 0] n) 58)) _ _ _ at k1
  generalize ((w.alloc (.cells #[.slice A n ca] 28)).alloc (.cells #[.slice B m cb] 60)).alloc (.cells (madeCells #[Value.slice none 0 0] n) 58) = W at hb0 k1 kg kt ⊢
  have hgW : w.heap.size + 1 + 1 < W.heap.size := kg.lt
  have HB0 := Lib.hid hb0; have HK1 := Lib.hid k1; have HKG := Lib.hid kg; have HKT := Lib.hid kt
  clear hb0 k1 kg kt hmk
  refine (placesBySeq_any A n ca X W HOK.out (HG.out.below HB0.out) ((HA.out.below HB0.out).mono HB0.out.size)).mono ?_
  rintro e w2 ⟨b, base, D, rfl, hgr, hT, hbb, hb2⟩
  have HGR := Lib.hid hgr; have HT := Lib.hid hT
  have HB2 := Lib.hid hb2
  have h2 := hb2.size
  have y1 : w2.cell? ⟨w.heap.size + 1, 0, none⟩ = some (.slice B m cb) := (HK1.out.below hb2 HK1.out.lt).cell rfl
  clear hgr hT hb2
  go_wp2_with fail
  refine (impl_prune B m cb Y w2 HS.out hcb ((HB.out.next HB0.out).next HB2.out)).mono ?_
  rintro e w3 ⟨Ap, cp, rfl, ho3, hb3⟩
  rw [← HPE.out] at ho3 ⊢
  have HO3 := Lib.hid ho3
  have HB3 := Lib.hid hb3
  have h3 := hb3.size
  clear ho3 hb3 y1
  have hPl : P.length ≤ 1048576 := by have := HS.out.1; omega
  have hfr := hist_recs
  obtain ⟨mp, hmp⟩ : ∃ mp, mp = P.length := ⟨_, rfl⟩
  have HMP := Lib.hid hmp
  rw [← hmp] at hPl ⊢
  clear hmp hPl0
  have HLD0 : Hid (Lds w3 w3 (w.heap.size + 1 + 1) n (fun _ => .slice none 0 0) (fun j => ldOf X (j : Int) (P.take 0))) := by
    refine ⟨by omega, (HKG.out.below HB2.out hgW).below HB3.out (by omega), fun j _ => ⟨rfl, .inl ⟨rfl, rfl⟩⟩, fun i j _ _ _ => .inl rfl, Btw.refl _ _ _⟩
  have HGR3 : Hid (w3.ownsGroups Tryz.prog 2 base 2 .i64 b (recsTo X n).length D) := groups_kept HGR.out (gby_below HB3.out) (by simp) (fun r e => by cases e)
  have HKT3 : Hid (w3.heap[w.heap.size + 1 + 1]? = some (.cells (madeCells #[Value.slice none 0 0] n) 58 (0, 0))) := (HB3.out.block _ (by omega)).trans ((HB2.out.block _ hgW).trans HKT.out)
  have HRD3 : Hid (RdRc w3 w3.heap.size Ap mp P) := by rw [HMP.out]; exact HO3.out.rd (Nat.le_refl _)
  have HBw3 := Lib.hid (HB0.out.trans ((HB2.out.trans (HB3.out.mono h2)).mono HB0.out.size))
  clear HKG HKT HGR HB HK1
  go_wp2
  clear hfr
  go_loopw [21] (fun iv wr => ∃ (k : Nat) (f : Nat → Value), k ≤ mp ∧ iv = .int .i64 (k : Nat) ∧ Lds w3 wr (w.heap.size + 1 + 1) n f (fun j => ldOf X (j : Int) (P.take k))) (fun iv _ => mp - (intOf iv).toNat)
  case atStart => exact ⟨0, _, by omega, rfl, HLD0.out⟩
  case round =>
    obtain ⟨k, f, hk, rfl, hlds⟩ := hrel
    have HLD := Lib.hid hlds
    clear hlds
    by_cases hlt : k < mp
    · obtain ⟨p, hp⟩ : ∃ p, p = P.getD k Rc.zero := ⟨_, rfl⟩
      have hRP := ((HO3.out.btw HLD.out.btw (Nat.le_refl _) (.inr (by omega))).rd (B := wr.heap.size) HLD.out.btw.size)
      rw [← HMP.out] at hRP
      obtain ⟨gp, op, rfl, hgp, p0, p1, p2, p3, p4, p5⟩ := hRP.at hlt
      have hpP : p ∈ P := by rw [hp]; exact getD_lt (by have := HMP.out; omega)
      have hkP : k < P.length := by have := HMP.out; omega
      have HTK : Hid (∀ j : Int, ldOf X j (P.take (k + 1)) = if onb (plc (recsTo X X.length) p.q) = some j then ldOf X j (P.take k) ++ [p] else ldOf X j (P.take k)) := fun j => by rw [hp]; exact ldOf_take hkP
      rw [← hp] at p0 p1 p2 p3 p4 p5
      clear hp hRP
      have hgr4 := groups_alloc (groups_keptT HGR3.out (gby_btw HLD.out.btw) (by intro e; have := Option.some.inj e; omega) (fun r e => by cases e; exact ⟨_, HKT3.out, fun c z h => by cases h⟩)) (.cells (recC p).toArray 68)
      have hlen : (recsTo X n).length < maxLen := by
        have h1 := recsTo_len HOK.out n (by rw [HNL.out]; exact Nat.le_refl _); unfold maxLen; omega
      obtain ⟨v, zs, hrun, hat, hoi, -, -⟩ := hgr4.at (Maps.int_keyed Tryz.underlying2) Tryz.underlying156 (zeroRow _) hlen (Maps.keyOf_int_mk Tryz.underlying2 (HPY.out p hpP).2)
      have hzs := row_is hoi ((HT.out.2 p.q).symm.trans hat)
      rw [HNL.out] at hzs
      have hz0 : 0 < zs.length := by rw [hzs]; exact (HPY.out p hpP).1
      have hz48 : zs.length ≤ 48 := by rw [hzs]; have h1 := plc_len (recsTo X X.length) p.q; have h2 := recsTo_len HOK.out X.length (Nat.le_refl _); have h3 := HOK.out.1.2; omega
      have hzg : ∀ x ∈ zs, 0 ≤ x ∧ x < 48 := fun x hx => plc_good HOK.out (by rw [← hzs]; exact hx)
      have hbk : 0 ≤ zs.getD 0 0 / 4 ∧ zs.getD 0 0 / 4 < (X.length : Int) := plc_block HOK.out (q := p.q) (by rw [← hzs, List.getD_eq_getElem?_getD, List.getElem?_eq_getElem hz0]; exact List.getElem_mem hz0)
      obtain ⟨Av, cv, rfl⟩ := own_slice hoi.1
      have HRN := Lib.hid ((owNs_of_own hoi.1).rd (Nat.le_refl _))
      have HZG := Lib.hid hzg
      rw [← hzs] at HTK
      clear hzs hat hoi hgr4 hzg
      go_wp2_with fail
      have k4 := isBlk_new wr 68 (recC p)
      have hb4 : Below wr.heap.size wr (wr.alloc (.cells (recC p).toArray 68)) := (Below.refl _ _).alloc (Nat.le_refl _) _
      change Calls _ _ _ (wr.alloc (.cells (recC p).toArray 68)) _
      generalize wr.alloc (.cells (recC p).toArray 68) = w4 at hb4 k4 HRN ⊢
      refine (onlyBlock_any Av zs.length cv zs w4 hz0 hz48 HZG.out HRN.out).mono ?_
      rintro e w5 ⟨rfl, hb5⟩
      have HB5 := Lib.hid (hb4.trans (hb5.mono hb4.size))
      have HK5 := Lib.hid (k4.below hb5 k4.lt)
      have HONB : Hid (onb zs = if zs.getD 0 0 / 4 = zs.getD (zs.length - 1) 0 / 4 then some (zs.getD 0 0 / 4) else none) := Lib.hid rfl
      clear hb4 hb5 k4 HRN HZG hrun hz0 hz48 p0 p1 p2 p3 p4 p5
      obtain ⟨bn, hbn⟩ : ∃ bn : Nat, (bn : Int) = zs.getD 0 0 / 4 := ⟨(zs.getD 0 0 / 4).toNat, by omega⟩
      rw [← hbn] at HONB hbk ⊢
      have hbnn : bn < n := by have := HNL.out; omega
      clear hbn hbk
      by_cases hsame : (bn : Int) = zs.getD (zs.length - 1) 0 / 4
      case neg =>
        have HT' : Hid (∀ j : Int, ldOf X j (P.take (k + 1)) = ldOf X j (P.take k)) := fun j => by rw [HTK.out, HONB.out, if_neg hsame, if_neg (by simp)]
        rw [decide_eq_false hsame]
        clear HTK HONB hsame
        go_wp2
        go_roundw
        case rel => exact ⟨k + 1, f, by omega, by go_num, by simp only [HT'.out]; exact HLD.out.below HB5.out⟩
        case measure => simp [intOf]; omega
      have HT' : Hid (∀ j : Int, ldOf X j (P.take (k + 1)) = if (bn : Int) = j then ldOf X j (P.take k) ++ [p] else ldOf X j (P.take k)) := fun j => by
        rw [HTK.out, HONB.out, if_pos hsame]
        by_cases e : (bn : Int) = j
        · rw [if_pos (by rw [e]), if_pos e]
        · rw [if_neg (fun h => e (Option.some.inj h)), if_neg e]
      rw [decide_eq_true hsame]
      clear HTK HONB hsame
      have HLD5 := Lib.hid (HLD.out.below HB5.out)
      have hPl2 := ldOf_len X (bn : Int) (P.take k)
      rw [List.length_take] at hPl2
      have hlb : (ldOf X (bn : Int) (P.take k)).length ≤ 1048576 := by omega
      clear hPl2
      obtain ⟨Ab, cbb, hfb⟩ := own_slice (HLD5.out.own bn hbnn)
      have HFB := Lib.hid hfb
      have x5 : w5.cell? ⟨w.heap.size + 1 + 1, bn, none⟩ = some (f bn) := HLD5.out.row.cell hbnn
      rw [hfb] at x5
      have fx5 : w5.frozen? ⟨w.heap.size + 1 + 1, bn, none⟩ = false := HLD5.out.row.free bn
      obtain ⟨r0, r1, r2, r3, r4, r5⟩ := rcCells HK5.out
      have hzr : wr.heap.size < w5.heap.size := HK5.out.lt
      have hzg : w.heap.size + 1 + 1 < w5.heap.size := HLD5.out.row.lt
      have hz3 : w3.heap.size ≤ w5.heap.size := HLD5.out.btw.size
      have hbi0 : (0 : Int) ≤ (bn : Int) := by omega
      have hbi1 : (bn : Int) < (n : Int) := by omega
      have HB8 : Hid (Below w5.heap.size w5 (w5.alloc (.cells (recC p).toArray 68)).drew) := ((Below.refl _ _).alloc (Nat.le_refl _) _).drew
      have HOWN8 := Lib.hid (own_belowR (HLD5.out.own bn hbnn) HB8.out)
      rw [hfb] at HOWN8
      clear hfb
      have HNEWS8 := Lib.hid (fun j u (hj : (recC p)[j]? = some u) => (show (w5.alloc (.cells (recC p).toArray 68)).drew.cell? ((⟨w5.heap.size, 0, none⟩ : Addr).add j) = some u by rw [add_plain]; exact (isBlk_new w5 68 (recC p)).cell hj))
      obtain ⟨lb, hlbe⟩ : ∃ lb, lb = (ldOf X (bn : Int) (P.take k)).length := ⟨_, rfl⟩
      rw [← hlbe] at x5 hlb HFB HOWN8
      have HLB := Lib.hid hlbe
      clear hlbe
      go_wp2
      go_region_law (refine step_append_lies _ rfl (.tmp 39) (.tmp 41) 58 rfl w3.heap.size 68 i0 _ 6 56 Tryz.underlying58 Hi.out Z0.out Z1.out Z2.out rfl (by omega) (.slice Ab lb cbb) lb _ (by rfl) HOWN8.out ⟨w5.heap.size, 0, none⟩ 1 1 (recC p) (by rfl) (by rfl) HNEWS8.out (recC_one p) (by omega) (by unfold maxLen; omega) (by omega) (by show w3.heap.size ≤ (w5.alloc _).heap.size; simp; omega) (w5.heap.size + 1) (by show (w5.alloc _).heap.size = _; simp) ?_
                     intro g2 cap2 w9 hown9 hgrow9 hat9 hlt9
                     have hgne : (Value.slice Ab lb cbb).ownBlock ≠ some (w.heap.size + 1 + 1) := fun e => by have := (own_block_ltR HOWN8.out e).1; have := HLD5.out.gl; omega
                     have hx9 : w9.heap[w.heap.size + 1 + 1]? = w5.heap[w.heap.size + 1 + 1]? := (hgrow9.block _ (by show _ < (w5.alloc _).heap.size; simp; omega) (fun e => hgne e.symm)).trans (HB8.out.block _ hzg)
                     have krow := (HLD5.out.row.same hx9)
                     have x9 : w9.cell? ⟨w.heap.size + 1 + 1, bn, none⟩ = some (f bn) := krow.cell hbnn
                     have fx9 : w9.frozen? ⟨w.heap.size + 1 + 1, bn, none⟩ = false := krow.free bn
                     have HPUT := Lib.hid (Lds.put (b := bn) (r := p) HLD5.out HB8.out hbnn (by rw [← HLB.out]; exact hown9) (by rw [HFB.out]; exact hgrow9) (by rw [HFB.out]; rcases hat9 with e | e; exact .inl e; exact .inr (e.trans (by show _ = (w5.alloc _).heap.size; simp))))
                     rw [HFB.out] at x9
                     clear hown9 hgrow9 hat9 hlt9 hgne hx9 krow)
      all_goals
        go_wp2
        go_roundw
        case rel =>
          refine ⟨k + 1, (fun j => if j = bn then .slice (some ⟨g2, 0, none⟩) (lb + 1) cap2 else f j), by omega, by go_num, ?_⟩
          have h := HPUT.out
          rw [← HLB.out] at h
          have e : (fun j : Nat => ldOf X (j : Int) (P.take (k + 1))) = fun j => if j = bn then ldOf X (bn : Int) (P.take k) ++ [p] else ldOf X (j : Int) (P.take k) := funext fun j => by
            rw [HT'.out]
            by_cases e : j = bn
            · subst e; rw [if_pos rfl, if_pos rfl]
            · rw [if_neg (fun h => e (by omega)), if_neg e]
          rw [e]
          exact h
        case measure => simp [intOf]; omega
    · obtain rfl : k = mp := by omega
      go_wp2
      go_ret
      refine ⟨w.heap.size + 1 + 1, f, rfl, by omega, HLD.out.row, fun j hj => ?_, ?_⟩
      · have h := HLD.out.own j hj
        rw [HMP.out, List.take_length] at h
        exact own_monoR h (by omega)
      · exact HBw3.out.trans ((HLD.out.btw.below (by omega)).mono (by omega))
end Go.Proofs.YtfpibbhcecdbgaaGreatDoor

namespace Go.Proofs.YtfpibbhcecdbgaaGreatDoor
open Go.RowKit
open Bt (Rc)

theorem num_oneL : OneInfo Tryz.prog 79 2 (.int .i64 0) 8 := ⟨Tryz.underlying79, info_i64, rfl⟩
/-- what Load answers -/
noncomputable def loadAns (X : List Bk) (bi : Int) : List Int := if mntCode X = 0 ∧ 0 ≤ bi ∧ bi < X.length then (ldOf X bi (pruneOf (mntList X))).map (·.q) else []
theorem loadAns_no {X : List Bk} {bi : Int} (h : ¬ (mntCode X = 0 ∧ 0 ≤ bi ∧ bi < X.length)) : loadAns X bi = [] := by unfold loadAns; rw [if_neg h]
theorem loadAns_yes {X : List Bk} {bi : Int} (h : mntCode X = 0 ∧ 0 ≤ bi ∧ bi < X.length) : loadAns X bi = (ldOf X bi (pruneOf (mntList X))).map (·.q) := by unfold loadAns; rw [if_pos h]
theorem loadAns_len (X : List Bk) (bi : Int) : (loadAns X bi).length ≤ 48 := by
  unfold loadAns
  split
  · rw [List.length_map]; have h1 := ldOf_len X bi (pruneOf (mntList X)); have h2 := pruneOf_len (mntList X); have h3 := mntList_len X; omega
  · simp
/-- a mounted history's records: on pages, with Seqs that are numbers -/
theorem mnt_seqs {X : List Bk} (h : mntCode X = 0) : ∀ r ∈ mntList X, r.q ≠ 0 ∧ 0 < (plc (recsTo X X.length) r.q).length ∧ (Lit.int .i64 r.q).wf = true := by
  obtain ⟨ho, he, -⟩ := mnt_zero h
  intro r hr
  rw [he] at hr
  have hk := (mnt_upto ho X.length (Nat.le_refl _)).2 r hr
  have h1 := hk.2.2.2.2.1; have h2 := hk.2.2.2.2.2.1
  exact ⟨by omega, mnt_placed hr, WalkArith.wf_i64 (by omega)⟩
theorem mnt_smallL {X : List Bk} (h : mntCode X = 0) : SmallR (mntList X) := by
  obtain ⟨ho, he, -⟩ := mnt_zero h
  rw [he]; exact mnt_smallR ho
theorem numV_q (r : Rc) : numV r.q = .int .i64 r.q := rfl

end Go.Proofs.YtfpibbhcecdbgaaGreatDoor

namespace Go.Proofs.YtfpibbhcecdbgaaGreatDoor
open Go.RowKit
open Bt (Rc)

/-- the Seqs of the first blocks and of the first pages of the next -/
def sqk (X : List Bk) (i : Nat) (ps : List Pg) (k : Nat) : List Int := sqs X i ++ (List.range k).map (sqPg ps)
theorem sqk_zero (X : List Bk) (i : Nat) (ps : List Pg) : sqk X i ps 0 = sqs X i := by simp [sqk]
theorem sqk_end (X : List Bk) (i : Nat) : sqk X i (X.getD i zeroBk).pages 4 = sqs X (i + 1) := rfl
theorem sqk_succ (X : List Bk) (i : Nat) (ps : List Pg) (k : Nat) : sqk X i ps (k + 1) = sqk X i ps k ++ [sqPg ps k] := by
  unfold sqk; rw [List.range_succ, List.map_append, ← List.append_assoc]; rfl
theorem sqk_len {X : List Bk} (hok : NdOk X) {i : Nat} (hi : i ≤ X.length) (ps : List Pg) (k : Nat) : (sqk X i ps k).length ≤ 48 + k := by
  unfold sqk; rw [List.length_append, sqs_len, List.length_map, List.length_range]; have := hok.1.2; omega
theorem sqPg_unused {ps : List Pg} {k : Nat} (h : (ps.getD k zeroPg).used = false) : sqPg ps k = 0 := by
  unfold sqPg
  refine if_neg fun hc => ?_
  rw [uPre_lt hc.1] at h; cases h
theorem sqPg_yes {ps : List Pg} {k : Nat} (hk : k < 4) (hok : PgsOk ps) (h : (ps.getD k zeroPg).used = true) (hr : (Bt.recRead (ps.getD k zeroPg).data).2 = 0) : sqPg ps k = (Bt.recRead (ps.getD k zeroPg).data).1.q := by
  have hu : k < uPre ps := by
    rcases Nat.lt_or_ge k (uPre ps) with h' | h'
    · exact h'
    · rw [((hok k hk).1 h').1] at h; cases h
  unfold sqPg
  exact if_pos ⟨hu, hr⟩
theorem sqPg_no {ps : List Pg} {k : Nat} (hr : (Bt.recRead (ps.getD k zeroPg).data).2 ≠ 0) : sqPg ps k = 0 := by
  unfold sqPg; exact if_neg fun hc => hr hc.2

set_option maxHeartbeats 4000000 in
set_option maxRecDepth 100000 in
theorem l06Seqs_any (A : Option Addr) (n ca : Nat) (X : List Bk) (w : World) (hok : NdOk X) (hA : RdBk w w.heap.size A n X) :
    Calls Tryz.prog 147 #[.agg #[.slice A n ca]] w (RetNs w (sqs X n)) := by
  have hNL : n = X.length := hA.1.symm
  have hn : n ≤ 12 := by rw [hNL]; exact hok.1.2
  have HNL := Lib.hid hNL
  have HA := Lib.hid hA; have HOK := Lib.hid hok; clear hA hok hNL
  go_enter Tryz.func147, Tryz.ntmps147
  go_wp2
  have hb0 : Below w.heap.size w ((w.alloc (.cells #[.slice A n ca] 28)).alloc (.cells #[] 2)) := ((Below.refl _ _).alloc (Nat.le_refl _) _).alloc (by simp) _
  have k0 := (isBlk_new w 28 [.slice A n ca]).alloc (.cells #[] 2)
  have k1 := isBlk_new (w.alloc (.cells #[.slice A n ca] 28)) 2 []
  rw [size_alloc] at k1
  change IsBlk ((w.alloc (.cells #[.slice A n ca] 28)).alloc (.cells #[] 2)) _ _ _ at k0
  change IsBlk ((w.alloc (.cells #[.slice A n ca] 28)).alloc (.cells #[] 2)) _ _ _ at k1
  generalize (w.alloc (.cells #[.slice A n ca] 28)).alloc (.cells #[] 2) = W at hb0 k0 k1 ⊢
  have HB0 := Lib.hid hb0; have HK0 := Lib.hid k0; have HK1 := Lib.hid k1
  have hz1 : w.heap.size + 1 < W.heap.size := k1.lt
  clear hb0 k0 k1
  go_loopw [3, 4] (fun out iv wr => ∃ (i : Nat) (v : Value), i ≤ n ∧ iv = .int .i64 (i : Nat) ∧ v = out ∧ wr.ownsRow (w.heap.size + 1) 2 1 v (sqs X i).length ((sqs X i).map numV) ∧ Below (w.heap.size + 1) W wr) (fun _ iv _ => n - (intOf iv).toNat)
  case atStart => exact ⟨0, _, by omega, rfl, rfl, ⟨rfl, .inr ⟨w.heap.size + 1, 0, #[], rfl, Nat.le_refl _, HK1.out, Nat.le_refl _, by simp [maxLen], rfl, rfl⟩⟩, Below.refl _ _⟩
  case round =>
    obtain ⟨i, v, hi, rfl, rfl, hown, hbel⟩ := hrel
    have HOW := Lib.hid hown; have HW := Lib.hid hbel
    have hzr : w.heap.size + 1 < wr.heap.size := Nat.lt_of_lt_of_le hz1 hbel.size
    have hx : wr.cell? ⟨w.heap.size, 0, none⟩ = some (.slice A n ca) := (HK0.out.below hbel (by omega)).cell rfl
    obtain ⟨Av, cv, rfl⟩ := own_slice HOW.out
    clear hown
    by_cases hlt : i < n
    · have hil : i < X.length := by rw [← HNL.out]; exact hlt
      have HBO := Lib.hid (HOK.out.2 i hil)
      have HEND := Lib.hid (sqk_end X i)
      have HPO : Hid (PgsOk (X.getD i zeroBk).pages) := (pgsOk_iff HBO.out.1).2 HBO.out.2.2
      have HPL : Hid (∀ k, (sqk X i (X.getD i zeroBk).pages k).length ≤ 48 + k) := fun k => sqk_len HOK.out (by omega) _ k
      have HOW0 : Hid (wr.ownsRow (w.heap.size + 1) 2 1 (.slice Av (sqs X i).length cv) (sqk X i (X.getD i zeroBk).pages 0).length ((sqk X i (X.getD i zeroBk).pages 0).map numV)) := by show World.ownsRow _ _ _ _ _ _ _; rw [sqk_zero]; exact HOW.out
      clear hbel
      go_wp2
      clear hx
      go_loopw [3, 5] (fun out jv wq => ∃ (j : Nat) (v : Value), j ≤ 4 ∧ jv = .int .i64 (j : Nat) ∧ v = out ∧ wq.ownsRow (w.heap.size + 1) 2 1 v (sqk X i (X.getD i zeroBk).pages j).length ((sqk X i (X.getD i zeroBk).pages j).map numV) ∧ Below (w.heap.size + 1) W wq) (fun _ jv _ => 4 - (intOf jv).toNat)
      case atStart => exact ⟨0, _, by omega, rfl, rfl, HOW0.out, HW.out⟩
      case round =>
        clear HOW0 HOW HW hzr
        obtain ⟨j, v, hj, rfl, rfl, hown, hbel⟩ := hrel
        have HOWq := Lib.hid hown; have HWq := Lib.hid hbel
        have hzq : w.heap.size + 1 < wr.heap.size := Nat.lt_of_lt_of_le hz1 hbel.size
        have hx : wr.cell? ⟨w.heap.size, 0, none⟩ = some (.slice A n ca) := (HK0.out.below hbel (by omega)).cell rfl
        obtain ⟨g, off, pA, pc, rfl, hg, hc0, -, -, hpg⟩ := (HA.out.below (HB0.out.trans (hbel.mono (by omega)))).at hlt
        rw [HBO.out.1] at hc0 hpg
        obtain ⟨Aq, cq, rfl⟩ := own_slice HOWq.out
        clear hown
        by_cases hj4 : j < 4
        · obtain ⟨g2, off2, rfl, hg2, d0, d1⟩ := hpg.at hj4
          have HSM := Lib.hid ((HPO.out j hj4).2)
          have HSC := Lib.hid (sqk_succ X i (X.getD i zeroBk).pages j)
          have HUN := Lib.hid (fun h => sqPg_unused (ps := (X.getD i zeroBk).pages) (k := j) h)
          have HYE := Lib.hid (fun h h1 => sqPg_yes (ps := (X.getD i zeroBk).pages) (k := j) hj4 HPO.out h h1)
          have HNO := Lib.hid (fun h => sqPg_no (ps := (X.getD i zeroBk).pages) (k := j) h)
          have hTl := HPL.out j
          clear hbel hpg
          generalize sqPg (X.getD i zeroBk).pages j = sq at *
          generalize (X.getD i zeroBk).pages.getD j zeroPg = pg at *
          generalize sqk X i (X.getD i zeroBk).pages j = T at *
          obtain ⟨us, sd⟩ := pg
          simp only at d0 d1 HSM HUN HYE HNO
          go_wp2_with fail
          have hb5 := box_below wr (.cells #[.bool us, .string sd] 184)
          have k5 := isBlk_new wr 184 [.bool us, .string sd]
          change Calls _ _ _ (wr.alloc (.cells #[.bool us, .string sd] 184)) _
          change IsBlk (wr.alloc (.cells #[.bool us, .string sd] 184)) _ _ _ at k5
          generalize wr.alloc (.cells #[.bool us, .string sd] 184) = w5 at hb5 k5 ⊢
          refine (spec_recRead_any sd w5 (by have := HSM.out; unfold maxLen; omega)).mono ?_
          rintro e w6 ⟨rfl, hb6⟩
          generalize Bt.recRead sd = RR at *
          obtain ⟨⟨rk, rs, rq, rt, ro, rd⟩, c⟩ := RR
          simp only at HYE HNO
          have hb7 : Below wr.heap.size wr (w6.alloc (.cells #[.int .i64 rk, .int .i64 rs, .int .i64 rq, .int .i64 rt, .int .i64 ro, .string rd, .int .i64 c] 83)) := (hb5.trans (hb6.mono hb5.size)).alloc (Nat.le_trans hb5.size hb6.size) _
          have k7 := (k5.below hb6 k5.lt).alloc (.cells #[.int .i64 rk, .int .i64 rs, .int .i64 rq, .int .i64 rt, .int .i64 ro, .string rd, .int .i64 c] 83)
          have hu7 : (w6.alloc (.cells #[.int .i64 rk, .int .i64 rs, .int .i64 rq, .int .i64 rt, .int .i64 ro, .string rd, .int .i64 c] 83)).cell? ⟨wr.heap.size, 0, none⟩ = some (.bool us) := k7.cell rfl
          have HOW7 := Lib.hid (own_belowR HOWq.out hb7)
          have HW7 := Lib.hid (HWq.out.trans (hb7.mono (by omega)))
          have hz7 : w.heap.size + 1 ≤ (w6.alloc (.cells #[.int .i64 rk, .int .i64 rs, .int .i64 rq, .int .i64 rt, .int .i64 ro, .string rd, .int .i64 c] 83)).heap.size := by have := hb7.size; omega
          have HZ7 := Lib.hid hz7
          clear hb5 k5 hb6 hb7 k7 hx hc0 d0 d1 hz7
          cases us with
          | false =>
            have HT : Hid (sqk X i (X.getD i zeroBk).pages (j + 1) = T ++ [0]) := by show _ = _; rw [HSC.out, HUN.out rfl]
            clear HUN HYE HNO HSC
            go_wp2_with (at_builtin; refine wpList_append_oneG numV (fun _ => rfl) rfl _ _ 79 2 _ 8 num_oneL rfl HOW7.out HW7.out HZ7.out (g0 := w6.heap.size + 1) (by simp) rfl rfl (0) rfl (by omega) (by omega) ?_; intro g8 cap8 w8 ho8 hb8 hk8 hz8; have HO8 := Lib.hid ho8; have HB8 := Lib.hid hb8; clear ho8 hb8 hk8 hz8)
            go_roundw
            case rel => exact ⟨j + 1, _, by omega, by go_num, rfl, by rw [HT.out]; simpa using HO8.out, HB8.out⟩
            case measure => simp [intOf]; omega
          | true =>
            by_cases h0c : c = 0
            case neg =>
              have hc' : (c == 0) = false := by simpa using h0c
              have HT : Hid (sqk X i (X.getD i zeroBk).pages (j + 1) = T ++ [0]) := by show _ = _; rw [HSC.out, HNO.out h0c]
              clear HUN HYE HNO HSC h0c
              go_wp2_with (at_builtin; refine wpList_append_oneG numV (fun _ => rfl) rfl _ _ 79 2 _ 8 num_oneL rfl HOW7.out HW7.out HZ7.out (g0 := w6.heap.size + 1) (by simp) rfl rfl (0) rfl (by omega) (by omega) ?_; intro g8 cap8 w8 ho8 hb8 hk8 hz8; have HO8 := Lib.hid ho8; have HB8 := Lib.hid hb8; clear ho8 hb8 hk8 hz8)
              go_roundw
              case rel => exact ⟨j + 1, _, by omega, by go_num, rfl, by rw [HT.out]; simpa using HO8.out, HB8.out⟩
              case measure => simp [intOf]; omega
            subst h0c
            have HT : Hid (sqk X i (X.getD i zeroBk).pages (j + 1) = T ++ [rq]) := by show _ = _; rw [HSC.out, HYE.out rfl rfl]
            clear HUN HYE HNO HSC
            go_wp2_with (at_builtin; refine wpList_append_oneG numV (fun _ => rfl) rfl _ _ 79 2 _ 8 num_oneL rfl HOW7.out HW7.out HZ7.out (g0 := w6.heap.size + 1) (by simp) rfl rfl (rq) rfl (by omega) (by omega) ?_; intro g8 cap8 w8 ho8 hb8 hk8 hz8; have HO8 := Lib.hid ho8; have HB8 := Lib.hid hb8; clear ho8 hb8 hk8 hz8)
            go_roundw
            case rel => exact ⟨j + 1, _, by omega, by go_num, rfl, by rw [HT.out]; simpa using HO8.out, HB8.out⟩
            case measure => simp [intOf]; omega
        · obtain rfl : j = 4 := by omega
          clear hbel hpg
          go_wp2
          go_roundw
          case rel => exact ⟨i + 1, _, by omega, by go_num, rfl, by rw [← HEND.out]; exact HOWq.out, HWq.out⟩
          case measure => simp [intOf]; omega
    · obtain rfl : i = n := by omega
      clear hbel
      go_wp2
      go_ret
      exact ⟨Av, cv, rfl, (owNs_of_own HOW.out).mono (by omega) (Nat.le_refl _), HB0.out.trans (HW.out.mono (by omega))⟩


theorem rdNs_next {w w' : World} {A : Option Addr} {n : Nat} {L : List Int} (h : RdNs w w.heap.size A n L) (hb : Below w.heap.size w w') : RdNs w' w'.heap.size A n L :=
  ⟨h.1, fun hn => by obtain ⟨g, hA, hg, hr⟩ := h.2 hn; exact ⟨g, hA, Nat.lt_of_lt_of_le hg hb.size, hr.below hb hg⟩⟩
/-- whether a Seq is among the first -/
def inTo (L : List Int) (q : Int) (i : Nat) : Bool := (List.range i).any (fun j => L.getD j 0 == q)
theorem inTo_succ (L : List Int) (q : Int) (i : Nat) : inTo L q (i + 1) = (inTo L q i || L.getD i 0 == q) := by unfold inTo; rw [List.range_succ, List.any_append]; simp
theorem alone_end {L : List Int} {q b : Int} (h : ∀ j, j < L.length → L.getD j 0 = q → (j : Int) / 4 = b) : aloneB L q b = inTo L q L.length := by
  rw [Bool.eq_iff_iff, aloneB_iff]
  unfold inTo
  rw [List.any_eq_true]
  constructor
  · rintro ⟨⟨i, h1, h2⟩, -⟩; exact ⟨i, List.mem_range.2 h1, by simpa using h2⟩
  · rintro ⟨i, h1, h2⟩; exact ⟨⟨i, List.mem_range.1 h1, by simpa using h2⟩, h⟩
theorem alone_not {L : List Int} {q b : Int} {j : Nat} (hj : j < L.length) (he : L.getD j 0 = q) (hb : (j : Int) / 4 ≠ b) : aloneB L q b = false := by
  rw [Bool.eq_false_iff]
  intro h
  exact hb ((aloneB_iff.1 h).2 j hj he)

set_option maxHeartbeats 2000000 in
set_option maxRecDepth 100000 in
theorem l06Alone_any (A : Option Addr) (n ca : Nat) (L : List Int) (q b : Int) (w : World) (hn : n ≤ 48) (hA : RdNs w w.heap.size A n L) :
    Calls Tryz.prog 211 #[.slice A n ca, .int .i64 q, .int .i64 b] w fun e w' => e = .returned (.bool (aloneB L q b)) ∧ Below w.heap.size w w' := by
  have HL := Lib.hid hA.1
  have HA := Lib.hid hA; clear hA
  go_enter Tryz.func211, Tryz.ntmps211
  go_wp2
  go_loopw [7, 8] (fun s iv wr => ∃ k : Nat, k ≤ n ∧ iv = .int .i64 (k : Nat) ∧ s = .bool (inTo L q k) ∧ (∀ j, j < k → L.getD j 0 = q → (j : Int) / 4 = b) ∧ wr = w) (fun _ iv _ => n - (intOf iv).toNat)
  case atStart => exact ⟨0, by omega, rfl, rfl, fun j h => absurd h (by omega), rfl⟩
  case round =>
    obtain ⟨k, hk, rfl, rfl, hall, rfl⟩ := hrel
    have HALL := Lib.hid hall
    clear hall
    by_cases hlt : k < n
    · obtain ⟨g, rfl, hg, hrow⟩ := HA.out.2 (by omega)
      have hc : wr.cell? ⟨g, k, none⟩ = some (.int .i64 (L.getD k 0)) := hrow.cell hlt
      have HIN := Lib.hid (inTo_succ L q k)
      have HNOT := Lib.hid (fun h h1 => alone_not (L := L) (q := q) (b := b) (j := k) (by have := HL.out; omega) h h1)
      have HNX : Hid (L.getD k 0 ≠ q ∨ (k : Int) / 4 = b → ∀ j, j < k + 1 → L.getD j 0 = q → (j : Int) / 4 = b) := fun h j hj he => by
        rcases Nat.lt_or_ge j k with h1 | h1
        · exact HALL.out j h1 he
        · obtain rfl : j = k := by omega
          rcases h with h | h
          · exact absurd he h
          · exact h
      clear hrow
      generalize L.getD k 0 = y at *
      have hq4 : (k : Int).tdiv 4 = (k : Int) / 4 := Int.tdiv_eq_ediv_of_nonneg (by omega)
      have hw4 : IntKind.i64.wrap ((k : Int) / 4) = (k : Int) / 4 := IntWalk.i64_in _ (by omega)
      by_cases hy : y = q
      case neg =>
        have hb1 : (y == q) = false := by simpa using hy
        have HT : Hid (inTo L q (k + 1) = inTo L q k) := by show _ = _; rw [HIN.out, hb1, Bool.or_false]
        have HN := Lib.hid (HNX.out (.inl hy))
        clear HIN HNOT HNX
        go_wp2
        go_roundw
        case rel => exact ⟨k + 1, by omega, by go_num, by rw [HT.out], HN.out, by first | trivial | rfl⟩
        case measure => simp [intOf]; omega
      subst hy
      by_cases hbk : (k : Int) / 4 = b
      case neg =>
        have hb2 : ((k : Int) / 4 == b) = false := by simpa using hbk
        have HC := Lib.hid (HNOT.out rfl hbk)
        clear HIN HNOT HNX
        go_wp2
        go_ret
        exact ⟨ret_b HC.out.symm, Below.refl _ _⟩
      have hb2 : ((k : Int) / 4 == b) = true := by simpa using hbk
      have HT : Hid (inTo L y (k + 1) = true) := by show _ = _; rw [HIN.out]; simp
      have HN := Lib.hid (HNX.out (.inr hbk))
      clear HIN HNOT HNX
      go_wp2
      go_roundw
      case rel => exact ⟨k + 1, by omega, by go_num, by rw [HT.out], HN.out, by first | trivial | rfl⟩
      case measure => simp [intOf]; omega
    · obtain rfl : k = n := by omega
      have HC : Hid (aloneB L q b = inTo L q k) := by show _ = _; rw [← HL.out]; exact alone_end (by rw [HL.out]; exact HALL.out)
      go_wp2
      go_ret
      exact ⟨ret_b HC.out.symm, Below.refl _ _⟩

theorem int_oneL : OneInfo Tryz.prog 118 3 (.int .i64 0) 8 := ⟨Tryz.underlying118, by kernel_rfl, rfl⟩
def natI (l : List Nat) : List Int := l.map (fun (i : Nat) => (i : Int))
theorem natI_len (l : List Nat) : (natI l).length = l.length := by simp [natI]
set_option maxHeartbeats 4000000 in
set_option maxRecDepth 100000 in
theorem l06Load_any (A B : Option Addr) (n ca m cb g : Nat) (L : List Int) (Y : List Rc) (b : Int) (w : World) (hn : n ≤ 48) (hm : m ≤ 48) (hA : RdNs w w.heap.size A n L) (hB : RdRc w w.heap.size B m Y) (hN : BRow w g m (nd Y)) :
    Calls Tryz.prog 146 #[.slice A n ca, .agg #[.slice B m cb], .slice (some ⟨g, 0, none⟩) m m, .int .i64 b] w (RetNs w (natI (ldTo Y L b m))) := by
  have hYl : Y.length = m := hB.1
  have hgl : g < w.heap.size := Row.lt hN
  have HYL := Lib.hid hYl
  have HA := Lib.hid hA; have HB := Lib.hid hB; have HN := Lib.hid hN; clear hA hB hN hYl
  go_enter Tryz.func146, Tryz.ntmps146
  go_wp2
  have hb0 : Below w.heap.size w ((w.alloc (.cells #[.slice B m cb] 60)).alloc (.cells #[] 3)) := ((Below.refl _ _).alloc (Nat.le_refl _) _).alloc (by simp) _
  have k0 := (isBlk_new w 60 [.slice B m cb]).alloc (.cells #[] 3)
  have k1 := isBlk_new (w.alloc (.cells #[.slice B m cb] 60)) 3 []
  rw [size_alloc] at k1
  change IsBlk ((w.alloc (.cells #[.slice B m cb] 60)).alloc (.cells #[] 3)) _ _ _ at k0
  change IsBlk ((w.alloc (.cells #[.slice B m cb] 60)).alloc (.cells #[] 3)) _ _ _ at k1
  generalize (w.alloc (.cells #[.slice B m cb] 60)).alloc (.cells #[] 3) = W at hb0 k0 k1 ⊢
  have HB0 := Lib.hid hb0; have HK0 := Lib.hid k0; have HK1 := Lib.hid k1
  have hz1 : w.heap.size + 1 < W.heap.size := k1.lt
  clear hb0 k0 k1
  go_loopw [9, 10] (fun out iv wr => ∃ (k : Nat) (v : Value), k ≤ m ∧ iv = .int .i64 (k : Nat) ∧ v = out ∧ wr.ownsRow (w.heap.size + 1) 3 1 v (ldTo Y L b k).length ((natI (ldTo Y L b k)).map numV) ∧ Below (w.heap.size + 1) W wr) (fun _ iv _ => m - (intOf iv).toNat)
  case atStart => exact ⟨0, _, by omega, rfl, rfl, show World.ownsRow _ _ _ _ _ ([] : List Nat).length ((natI []).map numV) from ⟨rfl, .inr ⟨w.heap.size + 1, 0, #[], rfl, Nat.le_refl _, HK1.out, Nat.le_refl _, by simp [maxLen], rfl, rfl⟩⟩, Below.refl _ _⟩
  case round =>
    obtain ⟨k, v, hk, rfl, rfl, hown, hbel⟩ := hrel
    have HOW := Lib.hid hown; have HW := Lib.hid hbel
    have hzr : w.heap.size + 1 < wr.heap.size := Nat.lt_of_lt_of_le hz1 hbel.size
    have hbw := HB0.out.trans (hbel.mono (by omega))
    have HBW := Lib.hid hbw
    have hx : wr.cell? ⟨w.heap.size, 0, none⟩ = some (.slice B m cb) := (HK0.out.below hbel (by omega)).cell rfl
    obtain ⟨Av, cv, rfl⟩ := own_slice HOW.out
    clear hown
    by_cases hlt : k < m
    · obtain ⟨gp, op, rfl, hgp, -, -, p2, -, -, -⟩ := (HB.out.below hbw).at hlt
      have hnd : wr.cell? ⟨g, k, none⟩ = some (.bool (nd Y k)) := (Row.below HN.out hbw hgl).cell hlt
      have HYES := Lib.hid (fun h => ldTo_yes (Y := Y) (L := L) (b := b) (k := k) h); have HNO := Lib.hid (fun h => ldTo_no (Y := Y) (L := L) (b := b) (k := k) h)
      have hll := ldTo_len Y L b k
      rw [HYL.out] at HYES HNO
      have HNA : Hid (natI (ldTo Y L b k ++ [k]) = natI (ldTo Y L b k) ++ [(k : Int)]) := by show _ = _; unfold natI; rw [List.map_append]; rfl
      clear hbel hbw
      generalize (Y.getD k Rc.zero).q = yq at *
      generalize nd Y k = nb at *
      generalize hT : ldTo Y L b k = T at *
      clear hT
      have hk1 : IntKind.i64.wrap ((m : Int) - 1) = (m : Int) - 1 := IntWalk.i64_in _ (by omega)
      by_cases hnb : (nb || decide (k + 1 = m)) = true
      case neg =>
        have hnf : (nb || decide (k + 1 = m)) = false := by simpa using hnb
        have hb1 : nb = false := by cases nb <;> simp_all
        have hb2 : ((k : Int) == (m : Int) - 1) = false := by
          have : ¬ k + 1 = m := by rw [hb1] at hnf; simpa using hnf
          simp; omega
        have HT := Lib.hid (HNO.out (by rw [hnf]; rfl))
        subst hb1
        clear HYES HNO hnb hnf
        go_wp2
        go_roundw
        case rel => exact ⟨k + 1, _, by omega, by go_num, rfl, by rw [HT.out]; exact HOW.out, HW.out⟩
        case measure => simp [intOf]; omega
      rw [hnb, Bool.true_and] at HYES HNO
      have HE : Hid (nb = false → ((k : Int) == (m : Int) - 1) = true) := fun h => by
        rw [h] at hnb
        have : k + 1 = m := by simpa using hnb
        simp; omega
      cases nb
      · have he := HE.out rfl
        clear HE hnb
        go_wp2_with fail
        refine (l06Alone_any A n ca L yq b wr hn (rdNs_next HA.out HBW.out)).mono ?_
        rintro e w5 ⟨rfl, hb5⟩
        have HOW5 := Lib.hid (own_belowR HOW.out hb5)
        have HW5 := Lib.hid (HW.out.trans (hb5.mono (by omega)))
        have hz5 : w.heap.size + 1 ≤ w5.heap.size := by have := hb5.size; omega
        have HZ5 := Lib.hid hz5
        clear hb5 hz5
        cases hal : aloneB L yq b with
        | false =>
          have HT := Lib.hid (HNO.out hal)
          clear HYES HNO
          go_wp2
          go_roundw
          case rel => exact ⟨k + 1, _, by omega, by go_num, rfl, by rw [HT.out]; exact HOW5.out, HW5.out⟩
          case measure => simp [intOf]; omega
        | true =>
          have HT := Lib.hid (HYES.out hal)
          clear HYES HNO
          go_wp2_with (at_builtin; refine wpList_append_oneG numV (fun _ => rfl) rfl _ _ 118 3 _ 8 int_oneL rfl HOW5.out HW5.out HZ5.out (g0 := w5.heap.size) rfl rfl rfl (k : Int) rfl (by omega) (by omega) ?_; intro g8 cap8 w8 ho8 hb8 hk8 hz8; have HO8 := Lib.hid ho8; have HB8 := Lib.hid hb8; clear ho8 hb8 hk8 hz8)
          go_roundw
          case rel => exact ⟨k + 1, _, by omega, by go_num, rfl, by rw [HT.out, HNA.out, List.length_append, List.length_singleton]; exact HO8.out, HB8.out⟩
          case measure => simp [intOf]; omega
      · clear HE hnb
        go_wp2_with fail
        refine (l06Alone_any A n ca L yq b wr hn (rdNs_next HA.out HBW.out)).mono ?_
        rintro e w5 ⟨rfl, hb5⟩
        have HOW5 := Lib.hid (own_belowR HOW.out hb5)
        have HW5 := Lib.hid (HW.out.trans (hb5.mono (by omega)))
        have hz5 : w.heap.size + 1 ≤ w5.heap.size := by have := hb5.size; omega
        have HZ5 := Lib.hid hz5
        clear hb5 hz5
        cases hal : aloneB L yq b with
        | false =>
          have HT := Lib.hid (HNO.out hal)
          clear HYES HNO
          go_wp2
          go_roundw
          case rel => exact ⟨k + 1, _, by omega, by go_num, rfl, by rw [HT.out]; exact HOW5.out, HW5.out⟩
          case measure => simp [intOf]; omega
        | true =>
          have HT := Lib.hid (HYES.out hal)
          clear HYES HNO
          go_wp2_with (at_builtin; refine wpList_append_oneG numV (fun _ => rfl) rfl _ _ 118 3 _ 8 int_oneL rfl HOW5.out HW5.out HZ5.out (g0 := w5.heap.size) rfl rfl rfl (k : Int) rfl (by omega) (by omega) ?_; intro g8 cap8 w8 ho8 hb8 hk8 hz8; have HO8 := Lib.hid ho8; have HB8 := Lib.hid hb8; clear ho8 hb8 hk8 hz8)
          go_roundw
          case rel => exact ⟨k + 1, _, by omega, by go_num, rfl, by rw [HT.out, HNA.out, List.length_append, List.length_singleton]; exact HO8.out, HB8.out⟩
          case measure => simp [intOf]; omega
    · obtain rfl : k = m := by omega
      clear hbel
      go_wp2
      go_ret
      refine ⟨Av, cv, ?_, ?_, HBW.out⟩
      · rw [natI_len]; rfl
      · have h := HOW.out
        rw [← natI_len] at h
        exact (owNs_of_own h).mono (by omega) (Nat.le_refl _)

theorem two_keep {u w' : World} {b0 b1 : Nat} {e0 e1 : TypeId} {A B : Option Addr} {n c m d : Nat} {z : Value} (h0 : IsBlk u b0 e0 [.slice A n c]) (h1 : IsBlk u b1 e1 [.slice B m d, z]) (hb : Below u.heap.size u w') :
    w'.cell? ⟨b0, 0, none⟩ = some (.slice A n c) ∧ w'.cell? ⟨b1, 0, none⟩ = some (.slice B m d) ∧ Hid (Below u.heap.size u w') := ⟨(h0.below hb h0.lt).cell rfl, (h1.below hb h1.lt).cell rfl, hb⟩
theorem two_of {u w' : World} {b0 b1 : Nat} {A B : Option Addr} {n c m d : Nat} (h : w'.cell? ⟨b0, 0, none⟩ = some (.slice A n c) ∧ w'.cell? ⟨b1, 0, none⟩ = some (.slice B m d) ∧ Hid (Below u.heap.size u w')) : Below u.heap.size u w' := h.2.2.out
theorem brow_next {w w' : World} {g m : Nat} {f : Nat → Bool} (h : BRow w g m f) (hb : Below w.heap.size w w') : BRow w' g m f := Row.below h hb (Row.lt h)
end Go.Proofs.YtfpibbhcecdbgaaGreatDoor
