/-
  One page more behind the four of a block: where the row of pages grows, in its place or elsewhere.
-/
import Derived.Test.YtdgmpllonnddmaaNdSpec
import Derived.Deep.AppendLies
import Derived.Deep.RegionLawGrows
namespace Go.Proofs.Ytdgmpllonnddmaa
open Go.RowKit

theorem pgF_five (a b c d : Pg) (j : Nat) (h : j < 10) : (pcells a b c d ++ [.bool false, .string ⟨#[]⟩])[j]? = some (pgF [a, b, c, d, zeroPg] j) := by
  match j, h with
  | 0, _ | 1, _ | 2, _ | 3, _ | 4, _ | 5, _ | 6, _ | 7, _ | 8, _ | 9, _ => rfl
theorem page_news : ∀ u ∈ [Value.bool false, .string ⟨#[]⟩], u.oneCell' = true := by
  intro u hu
  simp at hu
  rcases hu with rfl | rfl <;> rfl
theorem own_of_room {w : World} {p cap : Nat} {a b c d : Pg} (hr : OwPg w p [a, b, c, d]) {cs : Array Value} (hle : 4 ≤ cap) (h1 : w.heap[p]? = some (.cells cs 58 (0, 0))) (h2 : cs.size = cap * 2) (h3 : cap ≤ maxLen) :
    w.ownsRow 0 58 2 (.slice (some ⟨p, 0, none⟩) 4 cap) 4 (pcells a b c d) := by
  refine ⟨rfl, Or.inr ⟨p, cap, cs, rfl, Nat.zero_le _, h1, hle, h3, h2, ?_⟩⟩
  apply List.ext_getElem?
  intro i
  rcases Nat.lt_or_ge i 8 with hi | hi
  · rw [List.getElem?_take_of_lt hi, pgF_four a b c d i hi]
    have := Row.cell hr (i := i) (by simpa using hi)
    rw [cell_of_row w p i _ _ _ h1] at this
    simpa using this
  · rw [List.getElem?_eq_none (by simp; omega), List.getElem?_eq_none (by simp [pcells]; omega)]
theorem btw_grown {w w' : World} {row : Option Nat} {p : Nat} (h : w.grownBy w' row) (hr : ∀ g, row = some g → g = p) : Btw p (p + 1) w w' :=
  ⟨h.os, h.tape, h.output, h.size, fun k hk ho => h.block k hk (fun e => by have := hr k e.symm; omega)⟩
theorem step_append_page {ops : Array Oper} {o : Oper} {act : Act} {w : World} {K : Act → World → Prop} {Q : Exit → Act → World → Prop} {E : Prop} (hgd : o.guard = none) (s x : Operand)
    (ho : o.op = .call { callee := .builtin .append, args := #[s, x], argTypes := #[45, 45] }) {p cap : Nat} {a b c d : Pg} (hs : act.eval s = .slice (some ⟨p, 0, none⟩) 4 cap) (hr : OwPg w p [a, b, c, d]) (hm : Room w p cap 4)
    {ad : Addr} {cx : Nat} (hx : act.eval x = .slice (some ad) 1 cx) (hn : ∀ j u, [Value.bool false, .string ⟨#[]⟩][j]? = some u → w.cell? (ad.add j) = some u)
    (h : ∀ g cap' w', OwPg w' g [a, b, c, d, zeroPg] → Room w' g cap' 5 → Btw p (p + 1) w w' → (g = p ∨ w.heap.size ≤ g) → K (act.put o.dst (.slice (some ⟨g, 0, none⟩) 5 cap')) w') :
    if Region.wanted o (yielded ops act.tmps) = true then Oper.wp Try.prog o act w K Q else E := by
  obtain ⟨ip, hip, zp0, zp1, zp2⟩ := info_parts info_page
  obtain ⟨h5, rfl | ⟨cs, h1, h2, h3⟩⟩ := hm
  · refine step_append_grows hgd s x 45 ho 58 ip _ 2 24 Try.underlying45 hip zp0 zp1 zp2 rfl (by omega) (some ⟨p, 0, none⟩) 4 4 (pcells a b c d) hs (fun h => by cases h) rfl ?_ ad 1 cx _ hx rfl hn page_news (by omega) (by unfold maxLen; omega) (by omega) ?_
    · intro q hq j u hj
      cases hq
      rw [add_plain]
      have h8 : j < 8 := by
        rcases Nat.lt_or_ge j 8 with h | h
        · exact h
        · rw [List.getElem?_eq_none (by simp [pcells]; omega)] at hj; cases hj
      rw [pgF_four a b c d j h8] at hj
      rw [Row.cell hr (i := j) (by simpa using h8)]; exact hj
    · intro v' w' hown hg
      obtain ⟨g, cap', rfl, hb, hlt⟩ := hown.form (by omega)
      exact h g cap' w' (row_of_own (n := 5) (size := 2) hown (fun i hi => pgF_five a b c d i hi)) (room_of_own hown) (btw_grown hg (fun g h => by cases h)) (Or.inr hb)
  · refine step_append_lies w hgd s x 45 ho 0 58 ip _ 2 24 Try.underlying45 hip zp0 zp1 zp2 rfl (by omega) _ 4 (pcells a b c d) hs (own_of_room hr h5 h1 h2 h3) ad 1 cx _ hx rfl hn page_news (by omega) (by unfold maxLen; omega) (by omega) (Nat.zero_le _) w.heap.size rfl ?_
    intro g cap' w' hown hg hat hlt
    refine h g cap' w' (row_of_own (n := 5) (size := 2) hown (fun i hi => pgF_five a b c d i hi)) (room_of_own hown) (btw_grown hg (fun q hq => by simpa [Value.ownBlock] using hq.symm)) ?_
    rcases hat with hat | hat
    · exact Or.inl (by simpa [Value.ownBlock] using hat.symm)
    · exact Or.inr (by omega)
/-- other pages for a block, in their place or elsewhere -/
theorem OwBk.grow {w w' : World} {lo hi hi' g k p c : Nat} {pa cp : Nat → Nat} {X : List Bk} {Y : List Pg} (h : OwBk w lo hi g pa cp X) (hk : k < X.length) (hsame : ∀ q, lo ≤ q → q < hi → q ≠ pa k → w'.heap[q]? = w.heap[q]?) (hhi : hi ≤ hi')
    (hp : lo ≤ p ∧ p < hi' ∧ p ≠ g) (hpa : ∀ i, i < X.length → i ≠ k → pa i ≠ p) (ho : OwPg w' p Y) (hrm : Room w' p c Y.length) :
    OwBk (w'.setCell ⟨g, k * 3, none⟩ (.slice (some ⟨p, 0, none⟩) Y.length c)) lo hi' g (fun i => if i = k then p else pa i) (fun i => if i = k then c else cp i) (X.set k ⟨Y, (X.getD k zeroBk).erases, (X.getD k zeroBk).bad⟩) := by
  have hgk := (h.lo' k hk).2.2
  have hrow : Row w' g _ _ := h.row.same (hsame g h.at_lo h.at_hi (fun e => hgk e.symm))
  refine ⟨h.at_lo, Nat.lt_of_lt_of_le h.at_hi hhi, ?_, ?_, ?_, ?_, fun i hi' => ?_⟩
  · rw [List.length_set]
    refine (hrow.set _ _).congr fun c' hc => ?_
    by_cases e0 : c' = k * 3
    · rw [if_pos e0, e0, bkF_0, set_getD hk, if_pos rfl, if_pos rfl, if_pos rfl]
    · rw [if_neg e0]
      by_cases e1 : c' = k * 3 + 1
      · rw [e1, bkF_1, bkF_1, set_getD hk, if_pos rfl]
      · by_cases e2 : c' = k * 3 + 2
        · rw [e2, bkF_2, bkF_2, set_getD hk, if_pos rfl]
        · exact bkF_other (by rw [if_neg (by omega)]) (by rw [if_neg (by omega)]) (by rw [set_getD hk, if_neg (by omega)])
  · intro i hi''
    rw [List.length_set] at hi''
    by_cases e : i = k
    · rw [if_pos e]; exact hp
    · rw [if_neg e]; have := h.lo' i hi''; exact ⟨this.1, by omega, this.2.2⟩
  · intro i j hi'' hj hne
    rw [List.length_set] at hi'' hj
    by_cases e : i = k
    · rw [if_pos e, if_neg (by omega)]; exact (hpa j hj (by omega)).symm
    · rw [if_neg e]
      by_cases e' : j = k
      · rw [if_pos e']; exact hpa i hi'' e
      · rw [if_neg e']; exact h.apart i j hi'' hj hne
  · intro i hi''
    rw [List.length_set] at hi''
    rw [set_getD hk]
    have := h.lo' i hi''
    by_cases e : i = k
    · rw [if_pos e, if_pos e]; exact Row.other ho (by dsimp only; omega) _
    · rw [if_neg e, if_neg e]
      have ha := h.apart i k hi'' hk e
      exact Row.other (Row.same (h.pages i hi'') (hsame _ this.1 this.2.1 ha)) (by dsimp only; omega) _
  · rw [List.length_set] at hi'
    rw [set_getD hk]
    have := h.lo' i hi'
    by_cases e : i = k
    · rw [if_pos e, if_pos e, if_pos e]; exact hrm.set _ _ _
    · rw [if_neg e, if_neg e, if_neg e]
      exact ((h.room i hi').same (hsame _ this.1 this.2.1 (h.apart i k hi' hk e))).set _ _ _
/-- other contents of a block's pages, in their place -/
theorem OwBk.repage {w w' : World} {lo hi g k : Nat} {pa cp : Nat → Nat} {X : List Bk} {Y : List Pg} (h : OwBk w lo hi g pa cp X) (hk : k < X.length) (hsame : ∀ q, lo ≤ q → q < hi → q ≠ pa k → w'.heap[q]? = w.heap[q]?) (hl : Y.length = (X.getD k zeroBk).pages.length)
    (ho : OwPg w' (pa k) Y) (hrm : Room w' (pa k) (cp k) Y.length) : OwBk w' lo hi g pa cp (X.set k ⟨Y, (X.getD k zeroBk).erases, (X.getD k zeroBk).bad⟩) := by
  have hgk := (h.lo' k hk).2.2
  have hrow : Row w' g _ _ := h.row.same (hsame g h.at_lo h.at_hi (fun e => hgk e.symm))
  refine ⟨h.at_lo, h.at_hi, ?_, by simpa using h.lo', by simpa using h.apart, ?_, fun i hi' => ?_⟩
  · rw [List.length_set]
    refine hrow.congr fun c hc => ?_
    by_cases e : c / 3 = k
    · have h3 : c = k * 3 ∨ c = k * 3 + 1 ∨ c = k * 3 + 2 := by omega
      rcases h3 with e | e | e
      · rw [e, bkF_0, bkF_0, set_getD hk, if_pos rfl, hl]
      · rw [e, bkF_1, bkF_1, set_getD hk, if_pos rfl]
      · rw [e, bkF_2, bkF_2, set_getD hk, if_pos rfl]
    · exact bkF_other rfl rfl (by rw [set_getD hk, if_neg e])
  · intro i hi''
    rw [List.length_set] at hi''
    rw [set_getD hk]
    have := h.lo' i hi''
    by_cases e : i = k
    · rw [if_pos e, e]; exact ho
    · rw [if_neg e]
      exact Row.same (h.pages i hi'') (hsame _ this.1 this.2.1 (h.apart i k hi'' hk e))
  · rw [List.length_set] at hi'
    rw [set_getD hk]
    have := h.lo' i hi'
    by_cases e : i = k
    · rw [if_pos e, e]; exact hrm
    · rw [if_neg e]
      exact (h.room i hi').same (hsame _ this.1 this.2.1 (h.apart i k hi' hk e))
theorem four_used {w : World} {p : Nat} {a b c d : Pg} (h : OwPg w p [a, b, c, d]) (v : Bool) : OwPg (w.setCell ⟨p, 2, none⟩ (.bool v)) p [a, ⟨v, b.data⟩, c, d] := by
  refine (Row.set h 2 (.bool v)).congr fun j hj => ?_
  have hj' : j < 8 := by simpa using hj
  match j, hj' with
  | 0, _ | 1, _ | 2, _ | 3, _ | 4, _ | 5, _ | 6, _ | 7, _ => rfl
theorem four_data {w : World} {p : Nat} {a b c d : Pg} (h : OwPg w p [a, b, c, d]) (t : ByteArray) : OwPg (w.setCell ⟨p, 1, none⟩ (.string t)) p [⟨a.used, t⟩, b, c, d] := by
  refine (Row.set h 1 (.string t)).congr fun j hj => ?_
  have hj' : j < 8 := by simpa using hj
  match j, hj' with
  | 0, _ | 1, _ | 2, _ | 3, _ | 4, _ | 5, _ | 6, _ | 7, _ => rfl
end Go.Proofs.Ytdgmpllonnddmaa
