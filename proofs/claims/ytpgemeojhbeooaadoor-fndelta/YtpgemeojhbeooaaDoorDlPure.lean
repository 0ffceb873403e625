/-
  Plain mathematics of chapter 10 (deltas): operations, their forms, what they make of a base, their encoding and its reading, the longest match and the delta of a text. No condition.
-/
import Derived.Test.YtpgemeojhbeooaaDoorRcPure
namespace Go.Proofs.YtpgemeojhbeooaaDoor.Bt

structure Dop where
  f : Int
  c : Int
  x : ByteArray
def Dop.zero : Dop := ⟨0, 0, ⟨#[]⟩⟩
/-- the form of an operation -/
def Dop.Ok (o : Dop) : Prop := if o.c = 0 then o.f = 0 ∧ 1 ≤ o.x.size ∧ o.x.size ≤ 200 else 1 ≤ o.c ∧ o.c ≤ 200 ∧ 0 ≤ o.f ∧ o.x.size = 0
instance (o : Dop) : Decidable o.Ok := by unfold Dop.Ok; infer_instance
def dok (o : Dop) : Bool := decide o.Ok
theorem dok_ins {o : Dop} (h0 : o.c = 0) : dok o = decide (o.f = 0 ∧ 1 ≤ o.x.size ∧ o.x.size ≤ 200) := by
  unfold dok Dop.Ok; simp [h0]
theorem dok_cp {o : Dop} (h0 : o.c ≠ 0) : dok o = decide (1 ≤ o.c ∧ o.c ≤ 200 ∧ 0 ≤ o.f ∧ o.x.size = 0) := by
  unfold dok Dop.Ok; simp [h0]
theorem ok_cases {o : Dop} (h : dok o = true) : (o.c = 0 ∧ o.f = 0 ∧ 1 ≤ o.x.size ∧ o.x.size ≤ 200) ∨ (1 ≤ o.c ∧ o.c ≤ 200 ∧ 0 ≤ o.f ∧ o.x.size = 0) := by
  by_cases h0 : o.c = 0
  · rw [dok_ins h0] at h; exact .inl ⟨h0, of_decide_eq_true h⟩
  · rw [dok_cp h0] at h; exact .inr (of_decide_eq_true h)

/-- all forms are right -/
def okL (l : List Dop) : Bool := decide (l.length ≤ 40) && l.all dok
theorem okL_long {l : List Dop} (h : 40 < l.length) : okL l = false := by unfold okL; simp; omega
theorem all_at {p : Dop → Bool} {l : List Dop} {k : Nat} (hk : k < l.length) (h : p (l.getD k Dop.zero) = false) : l.all p = false := by
  rw [Bool.eq_false_iff]
  intro h'
  rw [List.all_eq_true] at h'
  have := h' (l.getD k Dop.zero) (by rw [List.getD_eq_getElem?_getD, List.getElem?_eq_getElem hk]; exact List.getElem_mem hk)
  rw [h] at this; cases this
theorem all_take_succ {p : Dop → Bool} {l : List Dop} {k : Nat} (hk : k < l.length) (h : (l.take k).all p = true) (h1 : p (l.getD k Dop.zero) = true) : (l.take (k + 1)).all p = true := by
  rw [List.take_succ_eq_append_getElem hk, List.all_append, h]
  rw [List.getD_eq_getElem?_getD, List.getElem?_eq_getElem hk] at h1
  simpa using h1
theorem okL_bad {l : List Dop} {k : Nat} (hk : k < l.length) (h : dok (l.getD k Dop.zero) = false) : okL l = false := by
  unfold okL; rw [all_at hk h]; simp
theorem okL_good {l : List Dop} (h1 : l.length ≤ 40) (h : (l.take l.length).all dok = true) : okL l = true := by
  unfold okL; rw [List.take_length] at h; rw [h]; simpa using h1
theorem okL_len {l : List Dop} (h : okL l = true) : l.length ≤ 40 := by
  unfold okL at h; simp at h; exact h.1
theorem okL_mem {l : List Dop} (h : okL l = true) {o : Dop} (ho : o ∈ l) : dok o = true := by
  unfold okL at h; simp only [Bool.and_eq_true, List.all_eq_true] at h; exact h.2 o ho
theorem okL_at {l : List Dop} (h : okL l = true) {k : Nat} (hk : k < l.length) : dok (l.getD k Dop.zero) = true :=
  okL_mem h (by rw [List.getD_eq_getElem?_getD, List.getElem?_eq_getElem hk]; exact List.getElem_mem hk)

/-! what operations make of a base -/
/-- the operation's bytes are in a base of n bytes -/
def inB (n : Nat) (o : Dop) : Bool := decide (o.c = 0 ∨ o.f ≤ (n : Int) - o.c)
def Dop.part (base : ByteArray) (o : Dop) : ByteArray := if o.c = 0 then o.x else base.extract o.f.toNat (o.f + o.c).toNat
/-- the sizes of what operations add -/
def szL (base : ByteArray) (l : List Dop) : Nat := (l.map fun o => (o.part base).size).sum
def dRight (base : ByteArray) (l : List Dop) : Bool := decide (base.size ≤ 200) && (okL l && (l.all (inB base.size) && decide (szL base l ≤ 200)))
theorem dRight_long {base : ByteArray} {l : List Dop} (h : 200 < base.size) : dRight base l = false := by
  unfold dRight; rw [decide_eq_false (by omega)]; rfl
theorem dRight_ok {base : ByteArray} {l : List Dop} (h : okL l = false) : dRight base l = false := by
  unfold dRight; rw [h]; simp
theorem dRight_in {base : ByteArray} {l : List Dop} {k : Nat} (hk : k < l.length) (h : inB base.size (l.getD k Dop.zero) = false) : dRight base l = false := by
  unfold dRight; rw [all_at hk h]; simp
theorem dRight_yes {base : ByteArray} {l : List Dop} (h0 : base.size ≤ 200) (h1 : okL l = true) (h2 : (l.take l.length).all (inB base.size) = true) : dRight base l = decide (szL base l ≤ 200) := by
  rw [List.take_length] at h2
  unfold dRight; rw [h1, h2, decide_eq_true h0]; simp
theorem part_size {base : ByteArray} {o : Dop} (h : dok o = true) (hi : inB base.size o = true) : (o.part base).size = o.c.toNat + o.x.size := by
  unfold Dop.part
  rcases ok_cases h with ⟨h0, -⟩ | ⟨h1, h2, h3, h4⟩
  · simp [h0]
  · have hi' : o.c = 0 ∨ o.f ≤ (base.size : Int) - o.c := of_decide_eq_true hi
    rw [if_neg (by omega), h4, ByteArray.size_extract]; omega
theorem part_bytes {base : ByteArray} {o : Dop} (h : dok o = true) : (o.part base).data.toList = o.x.data.toList ++ (base.extract o.f.toNat (o.f + o.c).toNat).data.toList := by
  unfold Dop.part
  rcases ok_cases h with ⟨h0, h1, -⟩ | ⟨h1, h2, h3, h4⟩
  · rw [if_pos h0, h0, h1]; simp
  · rw [if_neg (by omega)]
    have : o.x.data.toList = [] := List.eq_nil_of_length_eq_zero h4
    rw [this]; rfl
theorem part_le {base : ByteArray} {o : Dop} (h : dok o = true) : (o.part base).size ≤ 200 := by
  unfold Dop.part
  rcases ok_cases h with ⟨h0, -, -, h3⟩ | ⟨h1, h2, h3, h4⟩
  · rw [if_pos h0]; exact h3
  · rw [if_neg (by omega), ByteArray.size_extract]; omega
theorem szL_nil (base : ByteArray) : szL base [] = 0 := rfl
theorem szL_snoc (base : ByteArray) (l : List Dop) (o : Dop) : szL base (l ++ [o]) = szL base l + (o.part base).size := by unfold szL; simp
theorem take_getD {l : List Dop} {k : Nat} (hk : k < l.length) : l.take (k + 1) = l.take k ++ [l.getD k Dop.zero] := by
  rw [List.take_succ_eq_append_getElem hk, List.getD_eq_getElem?_getD, List.getElem?_eq_getElem hk]; rfl
theorem szL_take {base : ByteArray} {l : List Dop} (h : okL l = true) : ∀ k, k ≤ l.length → szL base (l.take k) ≤ 200 * k
  | 0, _ => by simp [szL]
  | k + 1, hk => by
    have := szL_take (base := base) h k (by omega)
    rw [take_getD (by omega), szL_snoc]
    have := part_le (base := base) (okL_at h (k := k) (by omega))
    omega
/-- the bytes that operations make -/
def dFlat (base : ByteArray) (l : List Dop) : List UInt8 := l.flatMap fun o => (o.part base).data.toList
theorem dFlat_snoc (base : ByteArray) (l : List Dop) (o : Dop) : dFlat base (l ++ [o]) = dFlat base l ++ (o.part base).data.toList := by unfold dFlat; simp
theorem dFlat_len (base : ByteArray) (l : List Dop) : (dFlat base l).length = szL base l := by
  induction l with
  | nil => rfl
  | cons o l ih => unfold dFlat szL at *; simp only [List.flatMap_cons, List.length_append, ih, List.map_cons, List.sum_cons]; rfl

/-! encoding -/
def Dop.enc (o : Dop) : List UInt8 := if o.c = 0 then putNum 0 ++ putText o.x else putNum o.c ++ putNum o.f
theorem enc_ins {o : Dop} (h : o.c = 0) : o.enc = putNum 0 ++ putText o.x := by simp [Dop.enc, h]
theorem enc_cp {o : Dop} (h : o.c ≠ 0) : o.enc = putNum o.c ++ putNum o.f := by simp [Dop.enc, h]
theorem enc_len {o : Dop} (h : dok o = true) : o.enc.length ≤ 220 := by
  rcases ok_cases h with ⟨h0, -, -, h3⟩ | ⟨h1, -⟩
  · rw [enc_ins h0, putText_ok (by omega)]
    have := (putNum_length 0).2; have := (putNum_length (o.x.size : Int)).2
    have hl : o.x.data.toList.length = o.x.size := rfl
    simp only [List.length_append, hl]; omega
  · rw [enc_cp (by omega)]
    have := (putNum_length o.c).2; have := (putNum_length o.f).2
    simp only [List.length_append]; omega
def encTo (n : Nat) (l : List Dop) : List UInt8 := putNum (n : Int) ++ l.flatMap Dop.enc
theorem encTo_snoc (n : Nat) (l : List Dop) (o : Dop) : encTo n (l ++ [o]) = encTo n l ++ o.enc := by unfold encTo; simp
theorem encTo_nil (n : Nat) : encTo n [] = putNum (n : Int) := by simp [encTo]
theorem encTo_take_len {l : List Dop} (h : okL l = true) (n : Nat) : ∀ k, k ≤ l.length → (encTo n (l.take k)).length ≤ 10 + 220 * k
  | 0, _ => by have := (putNum_length (n : Int)).2; simpa [encTo] using this
  | k + 1, hk => by
    have := encTo_take_len h n k (by omega)
    rw [take_getD (by omega), encTo_snoc, List.length_append]
    have := enc_len (okL_at h (k := k) (by omega))
    omega
def dBody (l : List Dop) : List UInt8 := encTo l.length l
theorem dBody_len {l : List Dop} (h : okL l = true) : (dBody l).length ≤ 8810 := by
  have h1 := encTo_take_len h l.length l.length (Nat.le_refl _)
  have h2 := okL_len h
  rw [List.take_length] at h1
  unfold dBody; omega
def dBytes (l : List Dop) : List UInt8 := if okL l = true then sealed (bstr (dBody l)) else []
theorem dBytes_no {l : List Dop} (h : okL l = false) : dBytes l = [] := by simp [dBytes, h]
theorem dBytes_ok {l : List Dop} (h : okL l = true) : dBytes l = sealed (bstr (dBody l)) := by simp [dBytes, h]

/-! the longest match -/
def pre : List UInt8 → List UInt8 → Nat
  | a :: l, b :: m => if a = b then pre l m + 1 else 0
  | _, _ => 0
theorem pre_le : ∀ (a b : List UInt8), pre a b ≤ a.length ∧ pre a b ≤ b.length
  | [], _ => by simp [pre]
  | _ :: _, [] => by simp [pre]
  | a :: l, b :: m => by
    have := pre_le l m
    unfold pre; split
    · simp; omega
    · simp
theorem pre_step : ∀ (k : Nat) (a b : List UInt8), k ≤ pre a b → (h1 : k < a.length) → (h2 : k < b.length) → a[k] = b[k] → k + 1 ≤ pre a b
  | 0, a :: l, b :: m, _, _, _, h => by simp at h; simp [pre, h]
  | k + 1, a :: l, b :: m, h, h1, h2, he => by
    unfold pre at h ⊢
    split
    · rename_i e
      rw [if_pos e] at h
      have := pre_step k l m (by omega) (by simpa using h1) (by simpa using h2) (by simpa using he)
      omega
    · rename_i e; rw [if_neg e] at h; omega
  | 0, [], _, _, h1, _, _ => by simp at h1
  | 0, _ :: _, [], _, _, h2, _ => by simp at h2
  | _ + 1, [], _, _, h1, _, _ => by simp at h1
  | _ + 1, _ :: _, [], _, _, h2, _ => by simp at h2
theorem pre_stop : ∀ (k : Nat) (a b : List UInt8), k ≤ pre a b → (∀ (h1 : k < a.length) (h2 : k < b.length), a[k] ≠ b[k]) → pre a b = k
  | 0, a :: l, b :: m, _, h => by
    have := h (by simp) (by simp)
    simp at this; simp [pre, this]
  | k + 1, a :: l, b :: m, h, hs => by
    unfold pre at h ⊢
    split
    · rename_i e
      rw [if_pos e] at h
      have := pre_stop k l m (by omega) (fun h1 h2 => by have := hs (by simpa using h1) (by simpa using h2); simpa using this)
      omega
    · rename_i e; rw [if_neg e] at h; omega
  | 0, [], b, _, _ => by simp [pre]
  | 0, _ :: _, [], _, _ => by simp [pre]
  | _ + 1, [], _, h, _ => by simp [pre] at h
  | _ + 1, _ :: _, [], h, _ => by simp [pre] at h
/-- the longest match among the first k places: where, how long -/
def lgTo (base x : List UInt8) : Nat → Nat × Nat
  | 0 => (0, 0)
  | k + 1 => if (lgTo base x k).2 < pre (base.drop k) x then (k, pre (base.drop k) x) else lgTo base x k
theorem lgTo_yes {base x : List UInt8} {k : Nat} (h : (lgTo base x k).2 < pre (base.drop k) x) : lgTo base x (k + 1) = (k, pre (base.drop k) x) := by rw [lgTo, if_pos h]
theorem lgTo_no {base x : List UInt8} {k : Nat} (h : ¬ (lgTo base x k).2 < pre (base.drop k) x) : lgTo base x (k + 1) = lgTo base x k := by rw [lgTo, if_neg h]
theorem lgTo_le (base x : List UInt8) : ∀ k, k ≤ base.length → (lgTo base x k).1 + (lgTo base x k).2 ≤ base.length ∧ (lgTo base x k).2 ≤ x.length
  | 0, _ => by simp [lgTo]
  | k + 1, hk => by
    by_cases h : (lgTo base x k).2 < pre (base.drop k) x
    · rw [lgTo_yes h]
      have := pre_le (base.drop k) x
      simp only [List.length_drop] at this ⊢
      omega
    · rw [lgTo_no h]; exact lgTo_le base x k (by omega)
def lg (base x : List UInt8) : Nat × Nat := lgTo base x base.length
theorem lg_le (base x : List UInt8) : (lg base x).1 + (lg base x).2 ≤ base.length ∧ (lg base x).2 ≤ x.length := lgTo_le base x _ (Nat.le_refl _)

/-! the delta of a text -/
def insOf (t : List UInt8) : List Dop := if t = [] then [] else [⟨0, 0, bstr t⟩]
theorem insOf_nil : insOf [] = [] := rfl
theorem insOf_some {t : List UInt8} (h : t ≠ []) : insOf t = [⟨0, 0, bstr t⟩] := by simp [insOf, h]
theorem insOf_len (t : List UInt8) : (insOf t).length ≤ t.length := by
  unfold insOf; split
  · simp
  · cases t with
    | nil => contradiction
    | cons a t => simp
/-- the bytes of a text from place a to before place b -/
def cutL (text : List UInt8) (a b : Nat) : List UInt8 := (text.take b).drop a
theorem cutL_len {text : List UInt8} {a b : Nat} (hb : b ≤ text.length) : (cutL text a b).length = b - a := by unfold cutL; simp; omega
theorem cutL_same (text : List UInt8) (a : Nat) : cutL text a a = [] := by unfold cutL; simp
theorem cutL_succ {text : List UInt8} {a b : Nat} (h : b < text.length) (hab : a ≤ b) : cutL text a (b + 1) = cutL text a b ++ [text[b]] := by
  unfold cutL
  rw [List.take_succ_eq_append_getElem h, List.drop_append_of_le_length (by simp; omega)]
theorem cutL_all (text : List UInt8) (a : Nat) : cutL text a text.length = text.drop a := by unfold cutL; rw [List.take_length]
/-- the steps from place 'at' on, the bytes from 'made' on not in a step yet -/
def dlRun (base text : List UInt8) (at_ made : Nat) (st : List Dop) : List Dop :=
  if h : at_ < text.length then
    if 3 ≤ (lg base (text.drop at_)).2 then dlRun base text (at_ + (lg base (text.drop at_)).2) (at_ + (lg base (text.drop at_)).2) (st ++ insOf (cutL text made at_) ++ [⟨(lg base (text.drop at_)).1, (lg base (text.drop at_)).2, ⟨#[]⟩⟩])
    else dlRun base text (at_ + 1) made st
  else st ++ insOf (cutL text made text.length)
termination_by text.length - at_
theorem dlRun_copy {base text : List UInt8} {at_ made : Nat} {st : List Dop} (h : at_ < text.length) (h3 : 3 ≤ (lg base (text.drop at_)).2) :
    dlRun base text at_ made st = dlRun base text (at_ + (lg base (text.drop at_)).2) (at_ + (lg base (text.drop at_)).2) (st ++ insOf (cutL text made at_) ++ [⟨(lg base (text.drop at_)).1, (lg base (text.drop at_)).2, ⟨#[]⟩⟩]) := by
  rw [dlRun, dif_pos h, if_pos h3]
theorem dlRun_byte {base text : List UInt8} {at_ made : Nat} {st : List Dop} (h : at_ < text.length) (h3 : ¬ 3 ≤ (lg base (text.drop at_)).2) : dlRun base text at_ made st = dlRun base text (at_ + 1) made st := by
  rw [dlRun, dif_pos h, if_neg h3]
theorem dlRun_end {base text : List UInt8} {at_ made : Nat} {st : List Dop} (h : ¬ at_ < text.length) : dlRun base text at_ made st = st ++ insOf (cutL text made text.length) := by
  rw [dlRun, dif_neg h]
def dlOf (base text : List UInt8) : List Dop := dlRun base text 0 0 []
/-- a property of the steps so far that every new step keeps is one of all -/
theorem dlRun_all {base text : List UInt8} (p : Dop → Prop) (hi : ∀ t : List UInt8, t ≠ [] → t.length ≤ text.length → p ⟨0, 0, bstr t⟩) (hc : ∀ i n : Nat, 3 ≤ n → i + n ≤ base.length → n ≤ text.length → p ⟨i, n, ⟨#[]⟩⟩) :
    ∀ m at_ made st, text.length - at_ = m → (∀ o ∈ st, p o) → ∀ o ∈ dlRun base text at_ made st, p o := by
  have hins : ∀ a b, ∀ o ∈ insOf (cutL text a b), p o := by
    intro a b o ho
    by_cases e : cutL text a b = []
    · rw [e, insOf_nil] at ho; cases ho
    · rw [insOf_some e] at ho
      simp at ho; subst ho
      exact hi _ e (by unfold cutL; simp; omega)
  intro m
  induction m using Nat.strongRecOn with
  | ind m ih =>
    intro at_ made st hm hst
    by_cases h : at_ < text.length
    · by_cases h3 : 3 ≤ (lg base (text.drop at_)).2
      · rw [dlRun_copy h h3]
        refine ih _ (by omega) _ _ _ rfl ?_
        intro o ho
        simp only [List.mem_append, List.mem_singleton] at ho
        rcases ho with (ho | ho) | ho
        · exact hst o ho
        · exact hins _ _ o ho
        · subst ho
          have := lg_le base (text.drop at_)
          simp only [List.length_drop] at this
          exact hc _ _ h3 (by omega) (by omega)
      · rw [dlRun_byte h h3]
        exact ih _ (by omega) _ _ _ rfl hst
    · rw [dlRun_end h]
      intro o ho
      simp only [List.mem_append] at ho
      rcases ho with ho | ho
      · exact hst o ho
      · exact hins _ _ o ho
theorem dlOf_ok {base text : List UInt8} (ht : text.length ≤ 200) : ∀ o ∈ dlOf base text, dok o = true := by
  refine dlRun_all (fun o => dok o = true) ?_ ?_ _ _ _ _ rfl (by simp)
  · intro t h1 h2
    rw [dok_ins rfl]
    have : t.length ≠ 0 := fun e => h1 (List.eq_nil_of_length_eq_zero e)
    exact decide_eq_true ⟨rfl, by show 1 ≤ (bstr t).size; rw [bstr_size]; omega, by show (bstr t).size ≤ 200; rw [bstr_size]; omega⟩
  · intro i n h1 h2 h3
    rw [dok_cp (by simp only; omega)]
    exact decide_eq_true ⟨by simp only; omega, by simp only; omega, by simp only; omega, rfl⟩
/-- what DeltaOf answers -/
def dOfCode (base text : ByteArray) : Int :=
  if 8000 < base.size ∨ 8000 < text.size then 2 else if 200 < base.size ∨ 200 < text.size then 1 else if 40 < (dlOf base.data.toList text.data.toList).length then 9 else 0
def dOfList (base text : ByteArray) : List Dop := if dOfCode base text = 0 then dlOf base.data.toList text.data.toList else []
theorem dOf_size {base text : ByteArray} (h : 8000 < base.size ∨ 8000 < text.size) : dOfCode base text = 2 ∧ dOfList base text = [] := by
  have e : dOfCode base text = 2 := by unfold dOfCode; rw [if_pos h]
  exact ⟨e, by unfold dOfList; rw [e, if_neg (by decide)]⟩
theorem dOf_form {base text : ByteArray} (h0 : ¬ (8000 < base.size ∨ 8000 < text.size)) (h : 200 < base.size ∨ 200 < text.size) : dOfCode base text = 1 ∧ dOfList base text = [] := by
  have e : dOfCode base text = 1 := by unfold dOfCode; rw [if_neg h0, if_pos h]
  exact ⟨e, by unfold dOfList; rw [e, if_neg (by decide)]⟩
theorem dOf_full {base text : ByteArray} (h0 : ¬ (200 < base.size ∨ 200 < text.size)) (h : 40 < (dlOf base.data.toList text.data.toList).length) : dOfCode base text = 9 ∧ dOfList base text = [] := by
  have e : dOfCode base text = 9 := by unfold dOfCode; rw [if_neg (by omega), if_neg h0, if_pos h]
  exact ⟨e, by unfold dOfList; rw [e, if_neg (by decide)]⟩
theorem dOf_ok {base text : ByteArray} (h0 : ¬ (200 < base.size ∨ 200 < text.size)) (h : ¬ 40 < (dlOf base.data.toList text.data.toList).length) : dOfCode base text = 0 ∧ dOfList base text = dlOf base.data.toList text.data.toList := by
  have e : dOfCode base text = 0 := by unfold dOfCode; rw [if_neg (by omega), if_neg h0, if_neg h]
  exact ⟨e, by unfold dOfList; rw [e, if_pos rfl]⟩
theorem dOfList_ok (base text : ByteArray) : okL (dOfList base text) = true := by
  unfold dOfList
  split
  · rename_i h
    unfold dOfCode at h
    by_cases h1 : 8000 < base.size ∨ 8000 < text.size
    · rw [if_pos h1] at h; cases h
    rw [if_neg h1] at h
    by_cases h2 : 200 < base.size ∨ 200 < text.size
    · rw [if_pos h2] at h; cases h
    rw [if_neg h2] at h
    by_cases h3 : 40 < (dlOf base.data.toList text.data.toList).length
    · rw [if_pos h3] at h; cases h
    unfold okL
    rw [decide_eq_true (by omega), Bool.true_and, List.all_eq_true]
    exact dlOf_ok (show text.size ≤ 200 by omega)
  · rfl
/-- what DeltaGain answers -/
def dGain (base text : ByteArray) : Int := if dOfCode base text = 0 then (text.size : Int) - ((dBytes (dOfList base text)).length : Int) else 0

/-! reading -/
/-- an operation as the model's reader takes it: the operation, and the reader behind it -/
def drOp (s : ByteArray) (x : Int × Bool) : Dop × (Int × Bool) :=
  if (rdNum s x).1 = 0 then (⟨0, 0, bstr (rdText s (rdNum s x).2).1⟩, (rdText s (rdNum s x).2).2)
  else (⟨(rdNum s (rdNum s x).2).1, (rdNum s x).1, ⟨#[]⟩⟩, (rdNum s (rdNum s x).2).2)
/-- the first k operations, and the reader behind them -/
def drTo (s : ByteArray) : Nat → List Dop × (Int × Bool)
  | 0 => ([], (rdNum s (0, false)).2)
  | k + 1 => ((drTo s k).1 ++ [(drOp s (drTo s k).2).1], (drOp s (drTo s k).2).2)
theorem drTo_len (s : ByteArray) : ∀ k, (drTo s k).1.length = k
  | 0 => rfl
  | k + 1 => by rw [drTo]; simp [drTo_len s k]
theorem rdNum_stuck {s : ByteArray} {x : Int × Bool} (h : x.2 = true) : rdNum s x = (0, (x.1, true)) := rdNum_bad (.inl h)
theorem rdText_stuck {s : ByteArray} {x : Int × Bool} (h : x.2 = true) : rdText s x = ([], (x.1, true)) := rdText_bad (.inl h)
theorem drOp_stuck {s : ByteArray} {x : Int × Bool} (h : x.2 = true) : (drOp s x).2.2 = true := by
  unfold drOp
  rw [rdNum_stuck h]
  simp only [if_true]
  rw [rdText_stuck rfl]
theorem drTo_stuck {s : ByteArray} {k : Nat} (h : (drTo s k).2.2 = true) : ∀ m, (drTo s (k + m)).2.2 = true
  | 0 => h
  | m + 1 => by rw [show k + (m + 1) = k + m + 1 by omega, drTo]; exact drOp_stuck (drTo_stuck h m)
theorem drTo_bad {s : ByteArray} {k n : Nat} (h : (drTo s k).2.2 = true) (hn : k ≤ n) : (drTo s n).2.2 = true := by
  have := drTo_stuck h (n - k)
  rwa [show k + (n - k) = n by omega] at this
theorem rdNum_good {s : ByteArray} {x : Int × Bool} (h : (rdNum s x).2.2 = false) : x.2 = false ∧ (getNum s x.1).2.2 = 0 ∧ rdNum s x = ((getNum s x.1).1, ((getNum s x.1).2.1, false)) := by
  by_cases hc : x.2 = true ∨ (getNum s x.1).2.2 ≠ 0
  · rw [rdNum_bad hc] at h; cases h
  · refine ⟨?_, ?_, rdNum_ok hc⟩
    · cases e : x.2
      · rfl
      · exact absurd (.inl e) hc
    · by_cases e : (getNum s x.1).2.2 = 0
      · exact e
      · exact absurd (.inr e) hc
theorem rdText_good {s : ByteArray} {x : Int × Bool} (h : (rdText s x).2.2 = false) : x.2 = false ∧ (getText s x.1).2.2 = 0 ∧ rdText s x = ((getText s x.1).1, ((getText s x.1).2.1, false)) := by
  by_cases hc : x.2 = true ∨ (getText s x.1).2.2 ≠ 0
  · rw [rdText_bad hc] at h; cases h
  · refine ⟨?_, ?_, rdText_ok hc⟩
    · cases e : x.2
      · rfl
      · exact absurd (.inl e) hc
    · by_cases e : (getText s x.1).2.2 = 0
      · exact e
      · exact absurd (.inr e) hc
/-- the bytes between two places -/
theorem take_more {l : List UInt8} {p m : Nat} {y : List UInt8} (h : (l.drop p).take m = y) : l.take (p + m) = l.take p ++ y := by rw [List.take_add, h]
theorem rdNum_bytes {s : ByteArray} {x : Int × Bool} (h : (rdNum s x).2.2 = false) : 0 ≤ x.1 ∧ x.1 ≤ (rdNum s x).2.1 ∧ (rdNum s x).2.1 ≤ s.size ∧ s.data.toList.take (rdNum s x).2.1.toNat = s.data.toList.take x.1.toNat ++ putNum (rdNum s x).1 := by
  obtain ⟨-, h0, e⟩ := rdNum_good h
  obtain ⟨hp, -, m, hm, hpm, ha, hl⟩ := getNum_canon h0
  rw [e]; simp only
  rw [ha]
  refine ⟨hp, by omega, by omega, ?_⟩
  rw [Int.toNat_natCast, take_more hl]
theorem rdText_bytes {s : ByteArray} {x : Int × Bool} (h : (rdText s x).2.2 = false) : 0 ≤ x.1 ∧ x.1 ≤ (rdText s x).2.1 ∧ (rdText s x).2.1 ≤ s.size ∧ s.data.toList.take (rdText s x).2.1.toNat = s.data.toList.take x.1.toNat ++ putText (bstr (rdText s x).1) := by
  obtain ⟨-, h0, e⟩ := rdText_good h
  obtain ⟨hp, -, m, hm, hpm, ha, hl⟩ := getText_canon h0
  rw [e]; simp only
  rw [ha]
  refine ⟨hp, by omega, by omega, ?_⟩
  rw [Int.toNat_natCast, take_more hl]
theorem drOp_bytes {s : ByteArray} {x : Int × Bool} (h : (drOp s x).2.2 = false) : x.2 = false ∧ 0 ≤ x.1 ∧ x.1 ≤ (drOp s x).2.1 ∧ (drOp s x).2.1 ≤ s.size ∧ s.data.toList.take (drOp s x).2.1.toNat = s.data.toList.take x.1.toNat ++ (drOp s x).1.enc := by
  unfold drOp at h ⊢
  by_cases h0 : (rdNum s x).1 = 0
  · rw [if_pos h0] at h ⊢
    simp only at h ⊢
    have hx := (rdText_good h).1
    obtain ⟨a1, a2, a3, a4⟩ := rdText_bytes h
    obtain ⟨b1, b2, b3, b4⟩ := rdNum_bytes hx
    refine ⟨(rdNum_good hx).1, b1, by omega, a3, ?_⟩
    rw [a4, b4, enc_ins rfl, h0, List.append_assoc]
  · rw [if_neg h0] at h ⊢
    simp only at h ⊢
    have hx := (rdNum_good h).1
    obtain ⟨a1, a2, a3, a4⟩ := rdNum_bytes h
    obtain ⟨b1, b2, b3, b4⟩ := rdNum_bytes hx
    refine ⟨(rdNum_good hx).1, b1, by omega, a3, ?_⟩
    rw [a4, b4, enc_cp (by simpa using h0), List.append_assoc]
/-- the number of operations as it is read -/
def drN (s : ByteArray) : Int := (rdNum s (0, false)).1
theorem drTo_bytes {s : ByteArray} : ∀ k, (drTo s k).2.2 = false → (drTo s 0).2.2 = false ∧ 0 ≤ (drTo s k).2.1 ∧ (drTo s k).2.1 ≤ s.size ∧ s.data.toList.take (drTo s k).2.1.toNat = putNum (drN s) ++ (drTo s k).1.flatMap Dop.enc
  | 0, h => by
    obtain ⟨a1, a2, a3, a4⟩ := rdNum_bytes (show (rdNum s (0, false)).2.2 = false from h)
    exact ⟨h, by rw [drTo]; simp only; simp only at a2; omega, a3, by rw [drTo]; simp only; rw [a4]; simp [drN]⟩
  | k + 1, h => by
    have h' : (drOp s (drTo s k).2).2.2 = false := h
    obtain ⟨b1, b2, b3, b4, b5⟩ := drOp_bytes h'
    obtain ⟨a1, a2, a3, a4⟩ := drTo_bytes k b1
    refine ⟨a1, by rw [drTo]; simp only; omega, b4, ?_⟩
    rw [drTo]; simp only
    rw [b5, a4, List.flatMap_append]
    simp
/-- what DeltaRead answers to the text under the seal -/
def drAcc (s : ByteArray) : Prop := (drTo s 0).2.2 = false ∧ 0 ≤ drN s ∧ drN s ≤ 40 ∧ (drTo s (drN s).toNat).2.2 = false ∧ (drTo s (drN s).toNat).2.1 = s.size ∧ okL (drTo s (drN s).toNat).1 = true
instance (s : ByteArray) : Decidable (drAcc s) := by unfold drAcc; infer_instance
def dReadCode (t : ByteArray) : Int := if (opened t).2 ≠ 0 then (opened t).2 else if drAcc (bstr (opened t).1) then 0 else 3
def dReadList (t : ByteArray) : List Dop := if dReadCode t = 0 then (drTo (bstr (opened t).1) (drN (bstr (opened t).1)).toNat).1 else []
theorem dRead_seal {t : ByteArray} (h : (opened t).2 ≠ 0) : dReadCode t = (opened t).2 ∧ dReadList t = [] := by
  have e : dReadCode t = (opened t).2 := by unfold dReadCode; rw [if_pos h]
  exact ⟨e, by unfold dReadList; rw [e, if_neg h]⟩
theorem dRead_no {t : ByteArray} (h : (opened t).2 = 0) (ha : ¬ drAcc (bstr (opened t).1)) : dReadCode t = 3 ∧ dReadList t = [] := by
  have e : dReadCode t = 3 := by unfold dReadCode; rw [if_neg (by simp [h]), if_neg ha]
  exact ⟨e, by unfold dReadList; rw [e, if_neg (by decide)]⟩
theorem dRead_ok {t : ByteArray} (h : (opened t).2 = 0) (ha : drAcc (bstr (opened t).1)) : dReadCode t = 0 ∧ dReadList t = (drTo (bstr (opened t).1) (drN (bstr (opened t).1)).toNat).1 := by
  have e : dReadCode t = 0 := by unfold dReadCode; rw [if_neg (by simp [h]), if_pos ha]
  exact ⟨e, by unfold dReadList; rw [e, if_pos rfl]⟩

theorem opened_sealed {t : ByteArray} (h : (opened t).2 = 0) : sealed (bstr (opened t).1) = t.data.toList ∧ (opened t).1.length + 4 = t.size ∧ t.size ≤ 8000 := by
  by_cases h1 : 8000 < t.size
  · rw [opened_long h1] at h; cases h
  by_cases h2 : t.size < 4
  · rw [opened_short h2] at h; cases h
  by_cases h3 : sum (t.data.toList.take (t.size - 4)) = t.data.toList.drop (t.size - 4)
  · rw [opened_ok h1 h2 h3]
    have hl : t.data.toList.length = t.size := rfl
    have hs : (bstr (t.data.toList.take (t.size - 4))).size = t.size - 4 := by rw [bstr_size, List.length_take, hl]; omega
    refine ⟨?_, by simp only [List.length_take, hl]; omega, by omega⟩
    rw [seal_ok (by rw [hs]; omega), bstr_list, h3, List.take_append_drop]
  · rw [opened_bad h1 h2 h3] at h; cases h
theorem sealed_inj {a b : ByteArray} (ha : a.size ≤ 7996) (hb : b.size ≤ 7996) (h : sealed a = sealed b) : a.data.toList = b.data.toList := by
  rw [seal_ok (by omega), seal_ok (by omega)] at h
  have hla : a.data.toList.length = a.size := rfl
  have hlb : b.data.toList.length = b.size := rfl
  have hl := congrArg List.length h
  simp only [List.length_append, sum_length, hla, hlb] at hl
  exact (List.append_inj h (by rw [hla, hlb]; omega)).1
/-- the model's loop ends with k operations; it accepts them where their encoding is the text -/
theorem drAcc_iff {t : ByteArray} (h : (opened t).2 = 0) {k : Nat} (hk : k ≤ 40) :
    (drAcc (bstr (opened t).1) ∧ (k : Int) = drN (bstr (opened t).1)) ↔ ((drTo (bstr (opened t).1) k).2.2 = false ∧ dBytes (drTo (bstr (opened t).1) k).1 = t.data.toList) := by
  obtain ⟨hs, hlen, hsz⟩ := opened_sealed h
  generalize hS : bstr (opened t).1 = S at *
  have hSl : S.data.toList = (opened t).1 := by rw [← hS, bstr_list]
  have hSz : S.size ≤ 7996 := by rw [← hS, bstr_size]; omega
  have hSsz : S.data.toList.length = S.size := rfl
  constructor
  · rintro ⟨⟨a1, a2, a3, a4, a5, a6⟩, hkn⟩
    have e : (drN S).toNat = k := by omega
    rw [e] at a4 a5 a6
    refine ⟨a4, ?_⟩
    obtain ⟨-, -, -, b4⟩ := drTo_bytes k a4
    rw [a5, Int.toNat_natCast, ← hSsz, List.take_length, ← hkn] at b4
    rw [dBytes_ok a6, ← hs]
    have : dBody (drTo S k).1 = S.data.toList := by rw [b4]; unfold dBody encTo; rw [drTo_len]
    rw [this, bstr_of]
  · rintro ⟨hg, hb⟩
    have hok : okL (drTo S k).1 = true := by
      cases e : okL (drTo S k).1
      · rw [dBytes_no e] at hb
        have : t.data.toList.length = t.size := rfl
        rw [← hb] at this
        simp at this; omega
      · rfl
    rw [dBytes_ok hok, ← hs] at hb
    have hbl : (dBody (drTo S k).1).length ≤ 7996 := by
      by_cases e : (dBody (drTo S k).1).length ≤ 7996
      · exact e
      · rw [seal_long (by rw [bstr_size]; omega)] at hb
        rw [hs] at hb
        have : t.data.toList.length = t.size := rfl
        rw [← hb] at this
        simp at this; omega
    have hbody := sealed_inj (by rw [bstr_size]; exact hbl) hSz hb
    rw [bstr_list] at hbody
    have hlk := drTo_len S k
    have hput : getNum S ((0 : Nat) : Int) = ((k : Int), ((0 + (putNum (k : Int)).length : Nat) : Int), 0) := by
      refine getNum_put (by omega) (by omega) (by omega) ⟨(drTo S k).1.flatMap Dop.enc, ?_⟩
      rw [List.drop_zero, ← hbody]; unfold dBody encTo; rw [hlk]
    have h0 : (drTo S 0).2.2 = false := (drTo_bytes k hg).1
    have hn : drN S = (k : Int) := by
      obtain ⟨-, -, e⟩ := rdNum_good (show (rdNum S (0, false)).2.2 = false from h0)
      rw [drN, e]
      show (getNum S 0).1 = _
      rw [show (0 : Int) = ((0 : Nat) : Int) from rfl, hput]
    have e : (drN S).toNat = k := by omega
    refine ⟨⟨h0, by omega, by omega, by rw [e]; exact hg, ?_, by rw [e]; exact hok⟩, hn.symm⟩
    rw [e]
    obtain ⟨-, b2, b3, b4⟩ := drTo_bytes k hg
    rw [hn] at b4
    have hL := congrArg List.length b4
    rw [List.length_take, hSsz] at hL
    have hL2 := congrArg List.length hbody
    unfold dBody encTo at hL2
    rw [hlk, hSsz] at hL2
    omega
end Go.Proofs.YtpgemeojhbeooaaDoor.Bt
