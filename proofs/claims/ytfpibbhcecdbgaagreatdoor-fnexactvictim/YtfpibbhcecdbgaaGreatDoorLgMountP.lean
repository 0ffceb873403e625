/-
  Mount, the plain mathematics: records put in order of their Seqs, the first of each.
-/
import Derived.Test.YtfpibbhcecdbgaaGreatDoorRcPure
namespace Go.Proofs.YtfpibbhcecdbgaaGreatDoor
open Bt (Rc)

/-- a record in its place, if its Seq is not there: the model's -/
def put : List Rc → Rc → List Rc
  | [], r => [r]
  | a :: l, r => if a.q < r.q then a :: put l r else if a.q = r.q then a :: l else r :: a :: l
def mnt (R : List (Int × Rc)) : List Rc := R.foldl (fun l x => put l x.2) []
theorem mnt_snoc (R : List (Int × Rc)) (x : Int × Rc) : mnt (R ++ [x]) = put (mnt R) x.2 := by simp [mnt]
/-- the first record of each Seq, in the order in which they come: the program's -/
def fstStep (l : List Rc) (x : Int × Rc) : List Rc := if ∀ a ∈ l, a.q ≠ x.2.q then l ++ [x.2] else l
def fsts (R : List (Int × Rc)) : List Rc := R.foldl fstStep []
theorem fsts_snoc (R : List (Int × Rc)) (x : Int × Rc) : fsts (R ++ [x]) = fstStep (fsts R) x := by simp [fsts]

abbrev Inc (l : List Rc) : Prop := l.Pairwise (fun a b => a.q < b.q)
theorem mem_put {l : List Rc} {r : Rc} (h : Inc l) (x : Rc) : x ∈ put l r ↔ x ∈ l ∨ (x = r ∧ ∀ a ∈ l, a.q ≠ r.q) := by
  induction l with
  | nil => simp [put]
  | cons a l ih =>
    have hp := List.pairwise_cons.1 h
    unfold put
    split
    · rename_i h1
      rw [List.mem_cons, ih hp.2, List.mem_cons]
      constructor
      · rintro (rfl | h2 | ⟨rfl, h2⟩)
        · exact .inl (.inl rfl)
        · exact .inl (.inr h2)
        · exact .inr ⟨rfl, fun b hb => (List.mem_cons.1 hb).elim (fun e => by rw [e]; omega) (h2 b)⟩
      · rintro ((rfl | h2) | ⟨rfl, h2⟩)
        · exact .inl rfl
        · exact .inr (.inl h2)
        · exact .inr (.inr ⟨rfl, fun b hb => h2 b (List.mem_cons_of_mem _ hb)⟩)
    · split
      · rename_i h1 h2
        constructor
        · exact fun h3 => .inl h3
        · rintro (h3 | ⟨-, h3⟩)
          · exact h3
          · exact absurd h2 (h3 a (by simp))
      · rename_i h1 h2
        rw [List.mem_cons]
        constructor
        · rintro (rfl | h3)
          · refine .inr ⟨rfl, fun b hb => ?_⟩
            rcases List.mem_cons.1 hb with rfl | hb
            · exact h2
            · have := hp.1 b hb; omega
          · exact .inl h3
        · rintro (h3 | ⟨h3, -⟩)
          · exact .inr h3
          · exact .inl h3
theorem put_inc {l : List Rc} {r : Rc} (h : Inc l) : Inc (put l r) := by
  induction l with
  | nil => simp [put, Inc]
  | cons a l ih =>
    have hp := List.pairwise_cons.1 h
    unfold put
    split
    · rename_i h1
      refine List.pairwise_cons.2 ⟨fun b hb => ?_, ih hp.2⟩
      rcases (mem_put hp.2 b).1 hb with hb | ⟨rfl, -⟩
      · exact hp.1 b hb
      · exact h1
    · split
      · exact h
      · rename_i h1 h2
        refine List.pairwise_cons.2 ⟨fun b hb => ?_, h⟩
        rcases List.mem_cons.1 hb with rfl | hb
        · omega
        · have := hp.1 b hb; omega
/-- induction from the end -/
theorem snoc_ind {α : Type} {P : List α → Prop} (h0 : P []) (h1 : ∀ l x, P l → P (l ++ [x])) (l : List α) : P l := by
  rw [← List.reverse_reverse l]
  induction l.reverse with
  | nil => exact h0
  | cons x l ih => rw [List.reverse_cons]; exact h1 _ _ ih
theorem mnt_inc (R : List (Int × Rc)) : Inc (mnt R) := by
  induction R using snoc_ind with
  | h0 => simp [mnt, Inc]
  | h1 R x ih => rw [mnt_snoc]; exact put_inc ih
theorem mem_fstStep (l : List Rc) (x : Int × Rc) (y : Rc) : y ∈ fstStep l x ↔ y ∈ l ∨ (y = x.2 ∧ ∀ a ∈ l, a.q ≠ x.2.q) := by
  unfold fstStep
  split
  · rename_i h; rw [List.mem_append, List.mem_singleton]; exact ⟨fun h1 => h1.imp id (fun e => ⟨e, h⟩), fun h1 => h1.imp id (·.1)⟩
  · rename_i h; exact ⟨.inl, fun h1 => h1.elim id (fun h2 => absurd h2.2 h)⟩
theorem mem_mnt (R : List (Int × Rc)) : ∀ y, y ∈ mnt R ↔ y ∈ fsts R := by
  induction R using snoc_ind with
  | h0 => simp [mnt, fsts]
  | h1 R x ih =>
    intro y
    rw [mnt_snoc, fsts_snoc, mem_put (mnt_inc R), mem_fstStep, ih y]
    exact ⟨fun h => h.imp id (fun h => ⟨h.1, fun a ha => h.2 a ((ih a).2 ha)⟩), fun h => h.imp id (fun h => ⟨h.1, fun a ha => h.2 a ((ih a).1 ha)⟩)⟩
theorem fsts_apart (R : List (Int × Rc)) : (fsts R).Pairwise (fun a b => a.q ≠ b.q) := by
  induction R using snoc_ind with
  | h0 => simp [fsts]
  | h1 R x ih =>
    rw [fsts_snoc]
    unfold fstStep
    split
    · rename_i h
      refine List.pairwise_append.2 ⟨ih, by simp, fun a ha b hb => ?_⟩
      rw [List.mem_singleton] at hb; subst hb
      exact h a ha
    · exact ih
theorem inc_ext : ∀ {l m : List Rc}, Inc l → Inc m → (∀ x, x ∈ l ↔ x ∈ m) → l = m
  | [], [], _, _, _ => rfl
  | [], b :: m, _, _, h => by have := (h b).2 (by simp); cases this
  | a :: l, [], _, _, h => by have := (h a).1 (by simp); cases this
  | a :: l, b :: m, hl, hm, h => by
    have pl := List.pairwise_cons.1 hl; have pm := List.pairwise_cons.1 hm
    have hab : a = b := by
      rcases List.mem_cons.1 ((h a).1 (by simp)) with e | h1
      · exact e
      · rcases List.mem_cons.1 ((h b).2 (by simp)) with e | h2
        · exact e.symm
        · have := pm.1 a h1; have := pl.1 b h2; omega
    subst hab
    refine congrArg _ (inc_ext pl.2 pm.2 (fun x => ?_))
    constructor
    · intro hx
      rcases List.mem_cons.1 ((h x).1 (List.mem_cons_of_mem _ hx)) with e | h1
      · subst e; have := pl.1 x hx; omega
      · exact h1
    · intro hx
      rcases List.mem_cons.1 ((h x).2 (List.mem_cons_of_mem _ hx)) with e | h1
      · subst e; have := pm.1 x hx; omega
      · exact h1
/-- **What the program sorts is what the model has put in order.** -/
theorem sorted_mnt {R : List (Int × Rc)} {l : List Rc} (hp : l.Perm (fsts R)) (hs : l.Pairwise (fun a b => a.q ≤ b.q)) : l = mnt R := by
  have ha : l.Pairwise (fun a b => a.q ≠ b.q) := (hp.pairwise_iff (fun {_ _} h => Ne.symm h)).2 (fsts_apart R)
  refine inc_ext ?_ (mnt_inc R) (fun x => (hp.mem_iff).trans (mem_mnt R x).symm)
  exact (hs.and ha).imp (fun h => by have := h.1; have := h.2; omega)
/-- how long it is -/
theorem put_len (l : List Rc) (r : Rc) : (put l r).length ≤ l.length + 1 := by
  induction l with
  | nil => simp [put]
  | cons a l ih => unfold put; split <;> (try split) <;> simp <;> omega
theorem mnt_len (R : List (Int × Rc)) : (mnt R).length ≤ R.length := by
  induction R using snoc_ind with
  | h0 => simp [mnt]
  | h1 R x ih => rw [mnt_snoc, List.length_append]; have := put_len (mnt R) x.2; simp; omega
theorem mnt_mem {R : List (Int × Rc)} {y : Rc} (h : y ∈ mnt R) : ∃ x ∈ R, x.2 = y := by
  rw [mem_mnt] at h
  induction R using snoc_ind with
  | h0 => simp [fsts] at h
  | h1 R x ih =>
    rw [fsts_snoc, mem_fstStep] at h
    rcases h with h | ⟨rfl, -⟩
    · obtain ⟨z, hz, e⟩ := ih h; exact ⟨z, List.mem_append_left _ hz, e⟩
    · exact ⟨x, by simp, rfl⟩
end Go.Proofs.YtfpibbhcecdbgaaGreatDoor
