/-
  Plain mathematics of chapter 13 (checkpoints): the encoding of a checkpoint and its reading, the better of two slots, what is written. No condition.
-/
import Derived.Test.YtloaeglmngcenaaGreatDoorRcBack
import Derived.Test.YtloaeglmngcenaaGreatDoorHsPure
namespace Go.Proofs.YtloaeglmngcenaaGreatDoor
open Bt (Rc)

/-! encoding -/
def ckEnc (X : List Rc) : List UInt8 := X.flatMap fun r => Bt.putText (bstr r.bytes)
def ckTo (num : Int) (n : Nat) (X : List Rc) : List UInt8 := Bt.putNum num ++ Bt.putNum (n : Int) ++ ckEnc X
theorem ckEnc_snoc (X : List Rc) (r : Rc) : ckEnc (X ++ [r]) = ckEnc X ++ Bt.putText (bstr r.bytes) := by simp [ckEnc]
theorem ckTo_nil (num : Int) (n : Nat) : ckTo num n [] = Bt.putNum num ++ Bt.putNum (n : Int) := by simp [ckTo, ckEnc]
theorem ckTo_snoc (num : Int) (n : Nat) (X : List Rc) (r : Rc) : ckTo num n (X ++ [r]) = ckTo num n X ++ Bt.putText (bstr r.bytes) := by simp [ckTo, ckEnc_snoc]
theorem ck_take {X : List Rc} {k : Nat} (hk : k < X.length) : X.take (k + 1) = X.take k ++ [X.getD k Rc.zero] := by
  rw [List.take_succ_eq_append_getElem hk, List.getD_eq_getElem?_getD, List.getElem?_eq_getElem hk]; rfl
theorem ck_one {r : Rc} (h : r.Ok) : (Bt.putText (bstr r.bytes)).length ≤ 50 := by
  have h1 := Bt.Rc.bytes_short h
  have h2 := (Bt.putNum_length ((bstr r.bytes).size : Int)).2
  rw [Bt.putText_ok (by rw [bstr_size]; omega), List.length_append, bstr_list]
  omega
theorem ckTo_take_len {X : List Rc} (h : hRight X = true) (num : Int) (n : Nat) : ∀ k, k ≤ X.length → (ckTo num n (X.take k)).length ≤ 20 + 50 * k
  | 0, _ => by
    have h1 := (Bt.putNum_length num).2; have h2 := (Bt.putNum_length (n : Int)).2
    rw [List.take_zero, ckTo_nil, List.length_append]; omega
  | k + 1, hk => by
    have := ckTo_take_len h num n k (by omega)
    rw [ck_take (by omega), ckTo_snoc, List.length_append]
    have := ck_one (hRight_at h (k := k) (by omega)).1
    omega
def ckB (num : Int) (X : List Rc) : Bool := decide (1 ≤ num ∧ num ≤ 1000000) && hRight X
theorem ckB_num {num : Int} {X : List Rc} (h : ¬ (1 ≤ num ∧ num ≤ 1000000)) : ckB num X = false := by unfold ckB; rw [decide_eq_false h]; rfl
theorem ckB_in {num : Int} {X : List Rc} (h : 1 ≤ num ∧ num ≤ 1000000) : ckB num X = hRight X := by unfold ckB; rw [decide_eq_true h]; rfl
theorem ckB_iff {num : Int} {X : List Rc} : ckB num X = true ↔ (1 ≤ num ∧ num ≤ 1000000) ∧ hRight X = true := by unfold ckB; simp [and_assoc]
theorem ckTo_len {num : Int} {X : List Rc} (h : hRight X = true) : (ckTo num X.length X).length ≤ 2420 := by
  have h1 := ckTo_take_len h num X.length X.length (Nat.le_refl _)
  have h2 := hRight_len h
  rw [List.take_length] at h1
  omega
/-- the text of a checkpoint whose parts are right -/
def ckText (num : Int) (X : List Rc) : List UInt8 := Bt.sealed (bstr (ckTo num X.length X))
theorem ckText_len {num : Int} {X : List Rc} (h : hRight X = true) : (ckText num X).length ≤ 2424 := by
  have := ckTo_len (num := num) h
  unfold ckText
  rw [Bt.seal_ok (by rw [bstr_size]; omega), bstr_list, List.length_append, Bt.sum_length]
  omega
def ckBytes (num : Int) (X : List Rc) : List UInt8 := if ckB num X = true then ckText num X else []
theorem ckBytes_no {num : Int} {X : List Rc} (h : ckB num X = false) : ckBytes num X = [] := by simp [ckBytes, h]
theorem ckBytes_ok {num : Int} {X : List Rc} (h : ckB num X = true) : ckBytes num X = Bt.sealed (bstr (ckTo num X.length X)) := by simp [ckBytes, h, ckText]

/-! reading -/
/-- one record as it is read: the record, and the reader behind it -/
def ckRec (s : ByteArray) (x : Int × Bool) : Rc × (Int × Bool) :=
  ((Bt.recRead (bstr (Bt.rdText s x).1)).1, ((Bt.rdText s x).2.1, (Bt.rdText s x).2.2 || decide ((Bt.recRead (bstr (Bt.rdText s x).1)).2 ≠ 0)))
def ckNum (s : ByteArray) : Int := (Bt.rdNum s (0, false)).1
def ckN (s : ByteArray) : Int := (Bt.rdNum s (Bt.rdNum s (0, false)).2).1
/-- the first k records, and the reader behind them -/
def ckSt (s : ByteArray) : Nat → List Rc × (Int × Bool)
  | 0 => ([], (Bt.rdNum s (Bt.rdNum s (0, false)).2).2)
  | k + 1 => ((ckSt s k).1 ++ [(ckRec s (ckSt s k).2).1], (ckRec s (ckSt s k).2).2)
theorem ckSt_len (s : ByteArray) : ∀ k, (ckSt s k).1.length = k
  | 0 => rfl
  | k + 1 => by rw [ckSt]; simp [ckSt_len s k]
theorem ckRec_stuck {s : ByteArray} {x : Int × Bool} (h : x.2 = true) : (ckRec s x).2.2 = true := by
  unfold ckRec
  rw [Bt.rdText_bad (.inl h)]; rfl
theorem ckSt_stuck {s : ByteArray} {k : Nat} (h : (ckSt s k).2.2 = true) : ∀ m, (ckSt s (k + m)).2.2 = true
  | 0 => h
  | m + 1 => by rw [show k + (m + 1) = k + m + 1 by omega, ckSt]; exact ckRec_stuck (ckSt_stuck h m)
theorem ckSt_bad {s : ByteArray} {k n : Nat} (h : (ckSt s k).2.2 = true) (hn : k ≤ n) : (ckSt s n).2.2 = true := by
  have := ckSt_stuck h (n - k)
  rwa [show k + (n - k) = n by omega] at this
theorem ckNum_good {s : ByteArray} {x : Int × Bool} (h : (Bt.rdNum s x).2.2 = false) : x.2 = false ∧ (Bt.getNum s x.1).2.2 = 0 ∧ Bt.rdNum s x = ((Bt.getNum s x.1).1, ((Bt.getNum s x.1).2.1, false)) := by
  by_cases hc : x.2 = true ∨ (Bt.getNum s x.1).2.2 ≠ 0
  · rw [Bt.rdNum_bad hc] at h; cases h
  · refine ⟨?_, ?_, Bt.rdNum_ok hc⟩
    · cases e : x.2
      · rfl
      · exact absurd (.inl e) hc
    · by_cases e : (Bt.getNum s x.1).2.2 = 0
      · exact e
      · exact absurd (.inr e) hc
theorem ckText_good {s : ByteArray} {x : Int × Bool} (h : (Bt.rdText s x).2.2 = false) : x.2 = false ∧ (Bt.getText s x.1).2.2 = 0 ∧ Bt.rdText s x = ((Bt.getText s x.1).1, ((Bt.getText s x.1).2.1, false)) := by
  by_cases hc : x.2 = true ∨ (Bt.getText s x.1).2.2 ≠ 0
  · rw [Bt.rdText_bad hc] at h; cases h
  · refine ⟨?_, ?_, Bt.rdText_ok hc⟩
    · cases e : x.2
      · rfl
      · exact absurd (.inl e) hc
    · by_cases e : (Bt.getText s x.1).2.2 = 0
      · exact e
      · exact absurd (.inr e) hc
theorem ck_more {l : List UInt8} {p m : Nat} {y : List UInt8} (h : (l.drop p).take m = y) : l.take (p + m) = l.take p ++ y := by rw [List.take_add, h]
theorem ckNum_bytes {s : ByteArray} {x : Int × Bool} (h : (Bt.rdNum s x).2.2 = false) : 0 ≤ x.1 ∧ x.1 ≤ (Bt.rdNum s x).2.1 ∧ (Bt.rdNum s x).2.1 ≤ s.size ∧ s.data.toList.take (Bt.rdNum s x).2.1.toNat = s.data.toList.take x.1.toNat ++ Bt.putNum (Bt.rdNum s x).1 := by
  obtain ⟨-, h0, e⟩ := ckNum_good h
  obtain ⟨hp, -, m, hm, hpm, ha, hl⟩ := Bt.getNum_canon h0
  rw [e]; simp only
  rw [ha]
  refine ⟨hp, by omega, by omega, ?_⟩
  rw [Int.toNat_natCast, ck_more hl]
theorem ckText_bytes {s : ByteArray} {x : Int × Bool} (h : (Bt.rdText s x).2.2 = false) : 0 ≤ x.1 ∧ x.1 ≤ (Bt.rdText s x).2.1 ∧ (Bt.rdText s x).2.1 ≤ s.size ∧ s.data.toList.take (Bt.rdText s x).2.1.toNat = s.data.toList.take x.1.toNat ++ Bt.putText (bstr (Bt.rdText s x).1) := by
  obtain ⟨-, h0, e⟩ := ckText_good h
  obtain ⟨hp, -, m, hm, hpm, ha, hl⟩ := Bt.getText_canon h0
  rw [e]; simp only
  rw [ha]
  refine ⟨hp, by omega, by omega, ?_⟩
  rw [Int.toNat_natCast, ck_more hl]
theorem recRead_ok_of {t : ByteArray} (h : (Bt.recRead t).2 = 0) : (Bt.recRead t).1.Ok := by
  by_cases h1 : (Bt.opened t).2 ≠ 0
  · rw [Bt.recRead_code h1] at h; exact absurd h h1
  by_cases h2 : (Bt.rdEnd (bstr (Bt.opened t).1)).2.2 = false ∧ (Bt.rdEnd (bstr (Bt.opened t).1)).2.1 = ((bstr (Bt.opened t).1).size : Int) ∧ (Bt.rdRec (bstr (Bt.opened t).1)).Ok
  · rw [Bt.recRead_ok h1 h2]; exact h2.2.2
  · rw [Bt.recRead_bad h1 h2] at h; cases h
theorem recRead_zero {t : ByteArray} (h : (Bt.recRead t).2 ≠ 0) : (Bt.recRead t).1 = Rc.zero := by
  by_cases h1 : (Bt.opened t).2 ≠ 0
  · rw [Bt.recRead_code h1]
  by_cases h2 : (Bt.rdEnd (bstr (Bt.opened t).1)).2.2 = false ∧ (Bt.rdEnd (bstr (Bt.opened t).1)).2.1 = ((bstr (Bt.opened t).1).size : Int) ∧ (Bt.rdRec (bstr (Bt.opened t).1)).Ok
  · rw [Bt.recRead_ok h1 h2] at h; exact absurd rfl h
  · rw [Bt.recRead_bad h1 h2]
theorem recRead_dsz (t : ByteArray) : (Bt.recRead t).1.d.size ≤ 16 := by
  by_cases h : (Bt.recRead t).2 = 0
  · exact (recRead_ok_of h).2.2.2.2.2.2.2.2.2.2.1
  · rw [recRead_zero h]; show (0 : Nat) ≤ 16; omega
theorem ckRec_bytes {s : ByteArray} {x : Int × Bool} (h : (ckRec s x).2.2 = false) : x.2 = false ∧ 0 ≤ x.1 ∧ x.1 ≤ (ckRec s x).2.1 ∧ (ckRec s x).2.1 ≤ s.size ∧ s.data.toList.take (ckRec s x).2.1.toNat = s.data.toList.take x.1.toNat ++ Bt.putText (bstr (ckRec s x).1.bytes) := by
  unfold ckRec at h ⊢
  simp only [Bool.or_eq_false_iff, decide_eq_false_iff_not, Decidable.not_not] at h ⊢
  obtain ⟨h1, h2⟩ := h
  obtain ⟨b1, b2, b3, b4⟩ := ckText_bytes h1
  refine ⟨(ckText_good h1).1, b1, b2, b3, ?_⟩
  rw [b4, Bt.recRead_back h2, bstr_list]
theorem ckSt_bytes {s : ByteArray} : ∀ k, (ckSt s k).2.2 = false → (ckSt s 0).2.2 = false ∧ 0 ≤ (ckSt s k).2.1 ∧ (ckSt s k).2.1 ≤ s.size ∧ s.data.toList.take (ckSt s k).2.1.toNat = Bt.putNum (ckNum s) ++ Bt.putNum (ckN s) ++ ckEnc (ckSt s k).1
  | 0, h => by
    have h' : (Bt.rdNum s (Bt.rdNum s (0, false)).2).2.2 = false := h
    obtain ⟨a1, a2, a3, a4⟩ := ckNum_bytes h'
    have h'' := (ckNum_good h').1
    obtain ⟨b1, b2, b3, b4⟩ := ckNum_bytes h''
    refine ⟨h, by rw [ckSt]; simp only; simp only at b2; omega, by rw [ckSt]; exact a3, ?_⟩
    rw [ckSt]; simp only
    rw [a4, b4]; simp [ckNum, ckN, ckEnc]
  | k + 1, h => by
    have h' : (ckRec s (ckSt s k).2).2.2 = false := h
    obtain ⟨b1, b2, b3, b4, b5⟩ := ckRec_bytes h'
    obtain ⟨a1, a2, a3, a4⟩ := ckSt_bytes k b1
    refine ⟨a1, by rw [ckSt]; simp only; omega, b4, ?_⟩
    rw [ckSt]; simp only
    rw [b5, a4, ckEnc_snoc]
    simp [List.append_assoc]
theorem ckSt_small (s : ByteArray) : ∀ k, ∀ r ∈ (ckSt s k).1, r.d.size ≤ 16
  | 0, r, h => by cases h
  | k + 1, r, h => by
    rw [ckSt] at h
    simp only [List.mem_append, List.mem_singleton] at h
    rcases h with h | h
    · exact ckSt_small s k r h
    · subst h; exact recRead_dsz _
/-- what was read is whole: as the program reads -/
def ckWhole (s : ByteArray) : Prop := (ckSt s 0).2.2 = false ∧ 0 ≤ ckN s ∧ ckN s ≤ 48 ∧ (ckSt s (ckN s).toNat).2.2 = false ∧ (ckSt s (ckN s).toNat).2.1 = s.size
/-- what CkptRead accepts under the seal -/
def ckAcc (s : ByteArray) : Prop := ckWhole s ∧ ckB (ckNum s) (ckSt s (ckN s).toNat).1 = true
instance (s : ByteArray) : Decidable (ckAcc s) := by unfold ckAcc ckWhole; infer_instance
def ckCode (t : ByteArray) : Int := if (Bt.opened t).2 ≠ 0 then (Bt.opened t).2 else if ckAcc (bstr (Bt.opened t).1) then 0 else 3
def ckRNum (t : ByteArray) : Int := if ckCode t = 0 then ckNum (bstr (Bt.opened t).1) else 0
def ckList (t : ByteArray) : List Rc := if ckCode t = 0 then (ckSt (bstr (Bt.opened t).1) (ckN (bstr (Bt.opened t).1)).toNat).1 else []
theorem ck_seal {t : ByteArray} (h : (Bt.opened t).2 ≠ 0) : ckCode t = (Bt.opened t).2 ∧ ckRNum t = 0 ∧ ckList t = [] := by
  have e : ckCode t = (Bt.opened t).2 := by unfold ckCode; rw [if_pos h]
  exact ⟨e, by unfold ckRNum; rw [e, if_neg h], by unfold ckList; rw [e, if_neg h]⟩
theorem ck_no {t : ByteArray} (h : (Bt.opened t).2 = 0) (ha : ¬ ckAcc (bstr (Bt.opened t).1)) : ckCode t = 3 ∧ ckRNum t = 0 ∧ ckList t = [] := by
  have e : ckCode t = 3 := by unfold ckCode; rw [if_neg (by simp [h]), if_neg ha]
  exact ⟨e, by unfold ckRNum; rw [e, if_neg (by decide)], by unfold ckList; rw [e, if_neg (by decide)]⟩
theorem ck_ok {t : ByteArray} (h : (Bt.opened t).2 = 0) (ha : ckAcc (bstr (Bt.opened t).1)) : ckCode t = 0 ∧ ckRNum t = ckNum (bstr (Bt.opened t).1) ∧ ckList t = (ckSt (bstr (Bt.opened t).1) (ckN (bstr (Bt.opened t).1)).toNat).1 := by
  have e : ckCode t = 0 := by unfold ckCode; rw [if_neg (by simp [h]), if_pos ha]
  exact ⟨e, by unfold ckRNum; rw [e, if_pos rfl], by unfold ckList; rw [e, if_pos rfl]⟩
/-- what a code says of the others -/
theorem ck_facts (t : ByteArray) : (ckCode t = 0 → 1 ≤ ckRNum t ∧ ckRNum t ≤ 1000000 ∧ hRight (ckList t) = true) ∧ (ckCode t ≠ 0 → ckRNum t = 0 ∧ ckList t = []) := by
  by_cases h : (Bt.opened t).2 = 0
  · by_cases ha : ckAcc (bstr (Bt.opened t).1)
    · obtain ⟨e1, e2, e3⟩ := ck_ok h ha
      have hb := ckB_iff.1 ha.2
      rw [e1, e2, e3]
      exact ⟨fun _ => ⟨hb.1.1, hb.1.2, hb.2⟩, fun h => absurd rfl h⟩
    · obtain ⟨e1, e2, e3⟩ := ck_no h ha
      rw [e1, e2, e3]
      exact ⟨fun h' => absurd h' (by decide), fun _ => ⟨rfl, rfl⟩⟩
  · obtain ⟨e1, e2, e3⟩ := ck_seal h
    rw [e1, e2, e3]
    exact ⟨fun h' => absurd h' h, fun _ => ⟨rfl, rfl⟩⟩
theorem ck_sealed {t : ByteArray} (h : (Bt.opened t).2 = 0) : Bt.sealed (bstr (Bt.opened t).1) = t.data.toList ∧ (Bt.opened t).1.length + 4 = t.size ∧ t.size ≤ 8000 := by
  obtain ⟨h1, h2, h3, h4⟩ := Bt.opened_split h
  refine ⟨?_, by omega, h1⟩
  rw [Bt.seal_ok (by rw [bstr_size]; omega), bstr_list, ← h4]
theorem ck_inj {a b : ByteArray} (ha : a.size ≤ 7996) (hb : b.size ≤ 7996) (h : Bt.sealed a = Bt.sealed b) : a.data.toList = b.data.toList := by
  rw [Bt.seal_ok (by omega), Bt.seal_ok (by omega)] at h
  have hla : a.data.toList.length = a.size := rfl
  have hlb : b.data.toList.length = b.size := rfl
  have hl := congrArg List.length h
  simp only [List.length_append, Bt.sum_length, hla, hlb] at hl
  exact (List.append_inj h (by rw [hla, hlb]; omega)).1
/-- the model's loop ends with k records; it accepts them where their encoding is the text -/
theorem ckAcc_iff {t : ByteArray} (h : (Bt.opened t).2 = 0) {k : Nat} (hk : k ≤ 48) :
    (ckAcc (bstr (Bt.opened t).1) ∧ (k : Int) = ckN (bstr (Bt.opened t).1)) ↔ ((ckSt (bstr (Bt.opened t).1) k).2.2 = false ∧ ckBytes (ckNum (bstr (Bt.opened t).1)) (ckSt (bstr (Bt.opened t).1) k).1 = t.data.toList) := by
  obtain ⟨hs, hlen, hsz⟩ := ck_sealed h
  generalize hS : bstr (Bt.opened t).1 = S at *
  have hSl : S.data.toList = (Bt.opened t).1 := by rw [← hS, bstr_list]
  have hSz : S.size ≤ 7996 := by rw [← hS, bstr_size]; omega
  have hSsz : S.data.toList.length = S.size := rfl
  constructor
  · rintro ⟨⟨⟨a1, a2, a3, a4, a5⟩, a6⟩, hkn⟩
    have e : (ckN S).toNat = k := by omega
    rw [e] at a4 a5 a6
    refine ⟨a4, ?_⟩
    obtain ⟨-, -, -, b4⟩ := ckSt_bytes k a4
    rw [a5, Int.toNat_natCast, ← hSsz, List.take_length, ← hkn] at b4
    rw [ckBytes_ok a6, ← hs]
    have : ckTo (ckNum S) (ckSt S k).1.length (ckSt S k).1 = S.data.toList := by rw [b4]; unfold ckTo; rw [ckSt_len]
    rw [this, bstr_of]
  · rintro ⟨hg, hb⟩
    have hok : ckB (ckNum S) (ckSt S k).1 = true := by
      cases e : ckB (ckNum S) (ckSt S k).1
      · rw [ckBytes_no e] at hb
        have : t.data.toList.length = t.size := rfl
        rw [← hb] at this
        simp at this; omega
      · rfl
    rw [ckBytes_ok hok, ← hs] at hb
    have hbl := ckTo_len (num := ckNum S) (ckB_iff.1 hok).2
    have hbody := ck_inj (by rw [bstr_size]; omega) hSz hb
    rw [bstr_list] at hbody
    have hlk := ckSt_len S k
    have h0 : (ckSt S 0).2.2 = false := (ckSt_bytes k hg).1
    have h01 : (Bt.rdNum S (Bt.rdNum S (0, false)).2).2.2 = false := h0
    obtain ⟨h02, -, e2⟩ := ckNum_good h01
    obtain ⟨-, h03, e1⟩ := ckNum_good h02
    obtain ⟨_, _, m, hm, hpm, ha, hl⟩ := Bt.getNum_canon h03
    have hnumr := ckB_iff.1 hok
    have hput1 : Bt.getNum S ((0 : Nat) : Int) = (ckNum S, ((0 + (Bt.putNum (ckNum S)).length : Nat) : Int), 0) := by
      refine Bt.getNum_put (by omega) (by omega) (by omega) ⟨Bt.putNum ((ckSt S k).1.length : Int) ++ ckEnc (ckSt S k).1, ?_⟩
      rw [List.drop_zero, ← hbody]; unfold ckTo; rw [List.append_assoc]
    have hp1 : (Bt.rdNum S (0, false)).2.1 = ((0 + (Bt.putNum (ckNum S)).length : Nat) : Int) := by
      rw [e1]; show (Bt.getNum S 0).2.1 = _; rw [show (0 : Int) = ((0 : Nat) : Int) from rfl, hput1]
    have hput2 : Bt.getNum S (((Bt.putNum (ckNum S)).length : Nat) : Int) = ((k : Int), (((Bt.putNum (ckNum S)).length + (Bt.putNum (k : Int)).length : Nat) : Int), 0) := by
      refine Bt.getNum_put (by omega) (by omega) (by omega) ⟨ckEnc (ckSt S k).1, ?_⟩
      rw [← hbody]; unfold ckTo; rw [hlk, List.append_assoc, List.drop_left]
    have hn : ckN S = (k : Int) := by
      unfold ckN
      rw [e2, hp1, Nat.zero_add, hput2]
    have e : (ckN S).toNat = k := by omega
    refine ⟨⟨⟨h0, by omega, by omega, by rw [e]; exact hg, ?_⟩, by rw [e]; exact hok⟩, hn.symm⟩
    rw [e]
    obtain ⟨-, b2, b3, b4⟩ := ckSt_bytes k hg
    rw [hn] at b4
    have hL := congrArg List.length b4
    rw [List.length_take, hSsz] at hL
    have hL2 := congrArg List.length hbody
    unfold ckTo at hL2
    rw [hlk, hSsz] at hL2
    omega

/-! reading, as the program does -/
def ckR (s : ByteArray) (p : Int) : Rc × Int × Bool := ((Bt.recRead (bstr (Bt.getText s p).1)).1, (Bt.getText s p).2.1, decide ((Bt.recRead (bstr (Bt.getText s p).1)).2 = 0))
theorem ck_noText {s : ByteArray} {p : Int} (h : (Bt.getText s p).2.2 ≠ 0) : (Bt.getText s p).1 = [] := by
  by_cases h1 : (Bt.getNum s p).2.2 ≠ 0
  · rw [Bt.getText_code h1]
  by_cases h2 : (Bt.getNum s p).1 < 0 ∨ 8000 < (Bt.getNum s p).1
  · rw [Bt.getText_size h1 h2]
  by_cases h3 : (s.size : Int) < (Bt.getNum s p).2.1 + (Bt.getNum s p).1
  · rw [Bt.getText_short h1 h2 h3]
  rw [Bt.getText_ok h1 h2 h3] at h
  exact absurd rfl h
theorem ck_noRec : (Bt.recRead (bstr [])).2 ≠ 0 := by
  have h : (Bt.opened (bstr [])).2 ≠ 0 := by
    rw [Bt.opened_short (by rw [bstr_size]; simp)]; decide
  rw [Bt.recRead_code h]; exact h
theorem ckR_ok {s : ByteArray} {p : Int} (h : (ckR s p).2.2 = true) : ckRec s (p, false) = ((ckR s p).1, ((ckR s p).2.1, false)) := by
  have h0 : (Bt.recRead (bstr (Bt.getText s p).1)).2 = 0 := of_decide_eq_true h
  have hc : (Bt.getText s p).2.2 = 0 := by
    by_cases e : (Bt.getText s p).2.2 = 0
    · exact e
    · rw [ck_noText e] at h0; exact absurd h0 ck_noRec
  unfold ckRec ckR
  rw [Bt.rdText_ok (by simp [hc])]
  simp [h0]
theorem ckR_no {s : ByteArray} {p : Int} (h : (ckR s p).2.2 = false) : (ckRec s (p, false)).2.2 = true := by
  have h0 : (Bt.recRead (bstr (Bt.getText s p).1)).2 ≠ 0 := of_decide_eq_false h
  unfold ckRec
  by_cases hc : (Bt.getText s p).2.2 = 0
  · rw [Bt.rdText_ok (by simp [hc])]
    simp [h0]
  · rw [Bt.rdText_bad (.inr hc)]; rfl
theorem ckRec_wf {s : ByteArray} {x : Int × Bool} (h : x.1 ≤ 9223372036854775807) : (ckRec s x).2.1 ≤ 9223372036854775807 := by
  show (Bt.rdText s x).2.1 ≤ _
  by_cases hc : x.2 = true ∨ (Bt.getText s x.1).2.2 ≠ 0
  · rw [Bt.rdText_bad hc]; exact h
  · rw [Bt.rdText_ok hc]
    have hc : (Bt.getText s x.1).2.2 = 0 := by
      by_cases e : (Bt.getText s x.1).2.2 = 0
      · exact e
      · exact absurd (.inr e) hc
    obtain ⟨-, h8, m, -, hpm, ha, -⟩ := Bt.getText_canon hc
    simp only; omega

/-! the better of two slots -/
/-- the checkpoint that counts is that of A -/
def ckSel (a b : ByteArray) : Bool := decide (ckRNum b ≤ ckRNum a) && decide (ckCode a = 0)
/-- the slot that is read -/
def ckTxt (a b : ByteArray) : ByteArray := if ckRNum b ≤ ckRNum a then a else b
theorem ckTxt_a {a b : ByteArray} (h : ckRNum b ≤ ckRNum a) : ckTxt a b = a ∧ ckSel a b = decide (ckCode a = 0) := by
  unfold ckTxt ckSel; rw [if_pos h, decide_eq_true h]; exact ⟨rfl, by simp⟩
theorem ckTxt_b {a b : ByteArray} (h : ¬ ckRNum b ≤ ckRNum a) : ckTxt a b = b ∧ ckSel a b = false ∧ ckCode b = 0 := by
  unfold ckTxt ckSel; rw [if_neg h, decide_eq_false h]
  refine ⟨rfl, rfl, ?_⟩
  by_cases hb : ckCode b = 0
  · exact hb
  · have h1 := ((ck_facts b).2 hb).1
    exfalso
    by_cases ha : ckCode a = 0
    · have := ((ck_facts a).1 ha).1; omega
    · have := ((ck_facts a).2 ha).1; omega
/-- the model's choice is this one -/
theorem ckPick_a {a b : ByteArray} (ha : ckCode a = 0) (h : ckCode b ≠ 0 ∨ ckRNum b ≤ ckRNum a) : ckTxt a b = a ∧ ckSel a b = true := by
  have h1 : ckRNum b ≤ ckRNum a := by
    rcases h with h | h
    · have h2 := ((ck_facts b).2 h).1; have h3 := ((ck_facts a).1 ha).1; omega
    · exact h
  obtain ⟨e1, e2⟩ := ckTxt_a h1
  exact ⟨e1, by rw [e2, decide_eq_true ha]⟩
theorem ckPick_b {a b : ByteArray} (hn : ¬ (ckCode a = 0 ∧ (ckCode b ≠ 0 ∨ ckRNum b ≤ ckRNum a))) (hb : ckCode b = 0) : ckTxt a b = b ∧ ckSel a b = false := by
  have h1 : ¬ ckRNum b ≤ ckRNum a := by
    intro h
    by_cases ha : ckCode a = 0
    · exact hn ⟨ha, .inr h⟩
    · have h2 := ((ck_facts a).2 ha).1; have h3 := ((ck_facts b).1 hb).1; omega
  exact ⟨(ckTxt_b h1).1, (ckTxt_b h1).2.1⟩
theorem ckPick_no {a b : ByteArray} (hn : ¬ (ckCode a = 0 ∧ (ckCode b ≠ 0 ∨ ckRNum b ≤ ckRNum a))) (hb : ckCode b ≠ 0) : ckCode (ckTxt a b) ≠ 0 ∧ ckSel a b = false := by
  have ha : ckCode a ≠ 0 := fun ha => hn ⟨ha, .inl hb⟩
  have h1 : ckRNum b ≤ ckRNum a := by rw [((ck_facts a).2 ha).1, ((ck_facts b).2 hb).1]; omega
  obtain ⟨e1, e2⟩ := ckTxt_a h1
  exact ⟨by rw [e1]; exact ha, by rw [e2, decide_eq_false ha]⟩
def slotB (a b : ByteArray) : Bool := decide (a.size ≤ 4000) && decide (b.size ≤ 4000)
/-- what CkptBest answers -/
def cbCode (a b : ByteArray) : Int := if slotB a b = true then (if ckCode (ckTxt a b) = 0 then 0 else 6) else 1
def cbNum (a b : ByteArray) : Int := if cbCode a b = 0 then ckRNum (ckTxt a b) else 0
def cbList (a b : ByteArray) : List Rc := if cbCode a b = 0 then ckList (ckTxt a b) else []
theorem cb_form {a b : ByteArray} (h : slotB a b = false) : cbCode a b = 1 ∧ cbNum a b = 0 ∧ cbList a b = [] := by
  have e : cbCode a b = 1 := by unfold cbCode; rw [h]; rfl
  exact ⟨e, by unfold cbNum; rw [e, if_neg (by decide)], by unfold cbList; rw [e, if_neg (by decide)]⟩
theorem cb_none {a b : ByteArray} (h : slotB a b = true) (h1 : ckCode (ckTxt a b) ≠ 0) : cbCode a b = 6 ∧ cbNum a b = 0 ∧ cbList a b = [] := by
  have e : cbCode a b = 6 := by unfold cbCode; rw [if_pos h, if_neg h1]
  exact ⟨e, by unfold cbNum; rw [e, if_neg (by decide)], by unfold cbList; rw [e, if_neg (by decide)]⟩
theorem cb_ok {a b : ByteArray} (h : slotB a b = true) (h1 : ckCode (ckTxt a b) = 0) : cbCode a b = 0 ∧ cbNum a b = ckRNum (ckTxt a b) ∧ cbList a b = ckList (ckTxt a b) := by
  have e : cbCode a b = 0 := by unfold cbCode; rw [if_pos h, if_pos h1]
  exact ⟨e, by unfold cbNum; rw [e, if_pos rfl], by unfold cbList; rw [e, if_pos rfl]⟩
end Go.Proofs.YtloaeglmngcenaaGreatDoor
