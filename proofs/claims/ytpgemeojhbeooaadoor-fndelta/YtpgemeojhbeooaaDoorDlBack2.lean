/-
  What the law of deltas says of a text's delta.
-/
import Derived.Test.YtpgemeojhbeooaaDoorDlBack
import Derived.Test.YtpgemeojhbeooaaDoorDlApply
namespace Go.Proofs.YtpgemeojhbeooaaDoor.Bt
open Go.RowKit

theorem enc_part (base : ByteArray) {o : Dop} (h : dok o = true) : o.enc.length ≤ 20 + (o.part base).size := by
  unfold Dop.enc Dop.part
  rcases ok_cases h with ⟨h0, h1, h2, h3⟩ | ⟨h1, h2, h3, h4⟩
  · rw [if_pos h0, if_pos h0, List.length_append]
    have a := (putNum_length 0).2
    rw [putText_ok (by omega)]
    have b := (putNum_length (o.x.size : Int)).2
    rw [List.length_append]
    have : o.x.data.toList.length = o.x.size := rfl
    omega
  · rw [if_neg (by omega), if_neg (by omega), List.length_append]
    have a := (putNum_length o.c).2
    have b := (putNum_length o.f).2
    omega
theorem enc_sum (base : ByteArray) : ∀ l : List Dop, (∀ o ∈ l, dok o = true) → (l.flatMap Dop.enc).length ≤ 20 * l.length + szL base l
  | [], _ => by simp
  | o :: l, h => by
    have ih := enc_sum base l fun p hp => h p (List.mem_cons_of_mem _ hp)
    have h1 := enc_part base (h o (List.mem_cons_self ..))
    have e : szL base (o :: l) = (o.part base).size + szL base l := by simp [szL]
    rw [List.flatMap_cons, List.length_append, e, List.length_cons]
    omega
theorem dBody_small {base : ByteArray} {l : List Dop} (h : dRight base l = true) : (dBody l).length ≤ 1010 := by
  unfold dRight at h
  simp only [Bool.and_eq_true, decide_eq_true_eq] at h
  obtain ⟨-, h1, -, h2⟩ := h
  have h3 := okL_len h1
  have h4 := enc_sum base l fun o ho => okL_mem h1 ho
  have h5 := (putNum_length (l.length : Int)).2
  unfold dBody encTo
  rw [List.length_append]
  omega
theorem drOp_from (s : ByteArray) (y : Int × Bool) : (drOp s y).1.f ≤ 9223372036854775807 := by
  unfold drOp
  split
  · simp only; omega
  · exact (rdNum_range _ _).2
theorem drTo_from (s : ByteArray) : ∀ k, ∀ o ∈ (drTo s k).1, o.f ≤ 9223372036854775807
  | 0, o, h => by simp [drTo] at h
  | k + 1, o, h => by
    rw [drTo] at h
    rcases List.mem_append.1 h with h1 | h1
    · exact drTo_from s k o h1
    · rw [List.mem_singleton.1 h1]; exact drOp_from _ _
theorem dReadList_fine (t : ByteArray) : ∀ o ∈ dReadList t, o.x.size ≤ 9223372036854775807 ∧ o.f ≤ 9223372036854775807 := by
  by_cases h : (opened t).2 = 0
  · by_cases ha : drAcc (bstr (opened t).1)
    · rw [(dRead_ok h ha).2]
      intro o ho
      refine ⟨?_, drTo_from _ _ o ho⟩
      rcases ok_cases (okL_mem ha.2.2.2.2.2 ho) with hh | hh <;> omega
    · rw [(dRead_no h ha).2]; simp
  · rw [(dRead_seal h).2]; simp
end Go.Proofs.YtpgemeojhbeooaaDoor.Bt
namespace Go.Proofs.YtpgemeojhbeooaaDoor
open Go.RowKit
open Bt (Dop)
/-- what is known of a delta that was told -/
structure Told (base text : ByteArray) (L : List Dop) : Prop where
  len : L.length ≤ 40
  fine : ∀ o ∈ L, o.x.size ≤ 9223372036854775807 ∧ o.f ≤ 9223372036854775807
  bsz : base.size ≤ 200
  apc : apCode base L = 0
  apl : apList base L = text.data.toList
  rdc : Bt.dReadCode (bstr (Bt.dBytes L)) = 0
  rdl : Bt.dReadList (bstr (Bt.dBytes L)) = L
  gain : Bt.dGain base text = (text.size : Int) - ((Bt.dBytes L).length : Int)
  self : 3 ≤ base.size → Bt.dOfCode base base = 0 ∧ Bt.dOfList base base = [⟨0, (base.size : Int), ⟨#[]⟩⟩]
theorem told {base text : ByteArray} (h : Bt.dOfCode base text = 0) : Told base text (Bt.dOfList base text) := by
  obtain ⟨h1, h2⟩ := Bt.dRight_of h
  have hs := Bt.dBody_small h1
  have hok := Bt.dOfList_ok base text
  have hsz : base.size ≤ 200 ∧ text.size ≤ 200 := by
    unfold Bt.dOfCode at h
    by_cases h1 : 8000 < base.size ∨ 8000 < text.size
    · rw [if_pos h1] at h; cases h
    rw [if_neg h1] at h
    by_cases h2 : 200 < base.size ∨ 200 < text.size
    · rw [if_pos h2] at h; cases h
    omega
  have hfine : ∀ o ∈ Bt.dOfList base text, o.x.size ≤ 9223372036854775807 ∧ o.f ≤ 9223372036854775807 := by
    intro o ho
    have ho2 := Bt.okL_mem hok ho
    have hin : (Bt.dOfList base text).all (Bt.inB base.size) = true := by
      unfold Bt.dRight at h1
      simp only [Bool.and_eq_true, decide_eq_true_eq] at h1
      exact h1.2.2.1
    have hi := of_decide_eq_true (List.all_eq_true.1 hin o ho)
    rcases Bt.ok_cases ho2 with hh | hh <;> omega
  have hlen := Bt.okL_len hok
  have hac : apCode base (Bt.dOfList base text) = 0 := by
    unfold apCode
    rw [if_neg (by omega), if_pos h1]
  obtain ⟨r1, r2⟩ := Bt.dRead_own hok (fun o ho => (hfine o ho).2) (by omega)
  refine ⟨hlen, hfine, hsz.1, hac, ?_, r1, r2, ?_, ?_⟩
  · unfold apList; rw [if_pos hac, h2]
  · unfold Bt.dGain; rw [if_pos h]
  · intro h3
    have hd := Bt.dlOf_self (b := base.data.toList) (show 3 ≤ base.data.toList.length from h3)
    have hc : Bt.dOfCode base base = 0 := by
      unfold Bt.dOfCode
      rw [if_neg (by omega), if_neg (by omega), if_neg (by rw [hd]; simp)]
    refine ⟨hc, ?_⟩
    unfold Bt.dOfList
    rw [if_pos hc, hd]; rfl
end Go.Proofs.YtpgemeojhbeooaaDoor
