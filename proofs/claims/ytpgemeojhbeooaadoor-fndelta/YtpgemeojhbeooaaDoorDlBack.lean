/-
  Promise 15's plain mathematics: a text comes back from its delta, a delta from its bytes, accepted bytes are those of their delta, and a text's delta to itself is one copy. No condition.
-/
import Derived.Test.YtpgemeojhbeooaaDoorDlPure2
namespace Go.Proofs.YtpgemeojhbeooaaDoor.Bt

/-! a text comes back from its delta -/
theorem pre_take : ∀ (a b : List UInt8), a.take (pre a b) = b.take (pre a b)
  | [], b => by simp [pre]
  | _ :: _, [] => by simp [pre]
  | a :: l, b :: m => by
    unfold pre
    split
    · rename_i e; subst e; simp [pre_take l m]
    · simp
theorem lgTo_match (base x : List UInt8) : ∀ k, (base.drop (lgTo base x k).1).take (lgTo base x k).2 = x.take (lgTo base x k).2
  | 0 => by simp [lgTo]
  | k + 1 => by
    by_cases h : (lgTo base x k).2 < pre (base.drop k) x
    · rw [lgTo_yes h]; exact pre_take _ _
    · rw [lgTo_no h]; exact lgTo_match base x k
theorem lg_match (base x : List UInt8) : (base.drop (lg base x).1).take (lg base x).2 = x.take (lg base x).2 := lgTo_match base x _
theorem dFlat_append (base : ByteArray) (l m : List Dop) : dFlat base (l ++ m) = dFlat base l ++ dFlat base m := by unfold dFlat; rw [List.flatMap_append]
theorem dFlat_ins (base : ByteArray) (t : List UInt8) : dFlat base (insOf t) = t := by
  by_cases h : t = []
  · subst h; rfl
  · rw [insOf_some h]
    simp [dFlat, Dop.part, bstr_list]
theorem part_cp (base : ByteArray) (i n : Nat) (hn : 1 ≤ n) : ((⟨i, n, ⟨#[]⟩⟩ : Dop).part base).data.toList = (base.data.toList.drop i).take n := by
  unfold Dop.part
  rw [if_neg (by simp only; omega)]
  have e1 : ((i : Nat) : Int).toNat = i := by omega
  have e2 : (((i : Nat) : Int) + ((n : Nat) : Int)).toNat = i + n := by omega
  simp only [e1, e2]
  simp [ByteArray.data_extract, Array.toList_extract, List.extract_eq_take_drop]
theorem cutL_join (text : List UInt8) {made at_ : Nat} (h : made ≤ at_) : text.take made ++ cutL text made at_ = text.take at_ := by
  unfold cutL
  have e : text.take made = (text.take at_).take made := by rw [List.take_take, Nat.min_eq_left h]
  rw [e, List.take_append_drop]
theorem dlRun_flat (base : ByteArray) (text : List UInt8) : ∀ m at_ made st, text.length - at_ = m → made ≤ at_ → at_ ≤ text.length → dFlat base st = text.take made → dFlat base (dlRun base.data.toList text at_ made st) = text := by
  intro m
  induction m using Nat.strongRecOn with
  | ind m ih =>
    intro at_ made st hm hma hat hst
    by_cases h : at_ < text.length
    · by_cases h3 : 3 ≤ (lg base.data.toList (text.drop at_)).2
      · rw [dlRun_copy h h3]
        have hle := lg_le base.data.toList (text.drop at_)
        rw [List.length_drop] at hle
        refine ih _ (by omega) _ _ _ rfl (Nat.le_refl _) (by omega) ?_
        rw [dFlat_append, dFlat_append, hst, dFlat_ins, cutL_join _ hma]
        have e : dFlat base [(⟨(lg base.data.toList (text.drop at_)).1, (lg base.data.toList (text.drop at_)).2, ⟨#[]⟩⟩ : Dop)] = (text.drop at_).take (lg base.data.toList (text.drop at_)).2 := by
          have := part_cp base (lg base.data.toList (text.drop at_)).1 (lg base.data.toList (text.drop at_)).2 (by omega)
          unfold dFlat
          simp only [List.flatMap_cons, List.flatMap_nil, List.append_nil]
          rw [this, lg_match]
        rw [e, ← List.take_add]
      · rw [dlRun_byte h h3]
        exact ih _ (by omega) _ _ _ rfl (by omega) (by omega) hst
    · rw [dlRun_end h, dFlat_append, hst, dFlat_ins, cutL_join _ (by omega), List.take_length]
theorem dlOf_flat (base : ByteArray) (text : List UInt8) : dFlat base (dlOf base.data.toList text) = text :=
  dlRun_flat base text _ _ _ _ rfl (Nat.le_refl _) (Nat.zero_le _) rfl
theorem dlOf_in (base : ByteArray) (text : List UInt8) : ∀ o ∈ dlOf base.data.toList text, inB base.size o = true := by
  refine dlRun_all (fun o => inB base.size o = true) ?_ ?_ _ _ _ _ rfl (by simp)
  · intro t _ _; exact decide_eq_true (.inl rfl)
  · intro i n h1 h2 _
    have hl : base.data.toList.length = base.size := rfl
    exact decide_eq_true (.inr (by simp only; omega))
theorem dRight_of {base text : ByteArray} (h : dOfCode base text = 0) : dRight base (dOfList base text) = true ∧ dFlat base (dOfList base text) = text.data.toList := by
  have hok := dOfList_ok base text
  have e : dOfList base text = dlOf base.data.toList text.data.toList := by unfold dOfList; rw [if_pos h]
  unfold dOfCode at h
  by_cases h1 : 8000 < base.size ∨ 8000 < text.size
  · rw [if_pos h1] at h; cases h
  rw [if_neg h1] at h
  by_cases h2 : 200 < base.size ∨ 200 < text.size
  · rw [if_pos h2] at h; cases h
  have hf := dlOf_flat base text.data.toList
  have hin := dlOf_in base text.data.toList
  rw [e] at hok ⊢
  refine ⟨?_, hf⟩
  unfold dRight
  rw [hok, decide_eq_true (by omega : base.size ≤ 200), ← dFlat_len, hf]
  have hall : (dlOf base.data.toList text.data.toList).all (inB base.size) = true := by rw [List.all_eq_true]; exact hin
  rw [hall]
  have : text.data.toList.length = text.size := rfl
  simp; omega

/-! a delta comes back from its bytes -/
theorem opened_of_sealed {s : ByteArray} (h : ¬ 7996 < s.size) : opened (bstr (sealed s)) = (s.data.toList, 0) := by
  have hsz : (bstr (sealed s)).size = s.size + 4 := by rw [bstr_size, seal_ok h, List.length_append, sum_length]; rfl
  have hl : s.data.toList.length = s.size := rfl
  have ht : (bstr (sealed s)).data.toList.take ((bstr (sealed s)).size - 4) = s.data.toList := by
    rw [hsz, bstr_list, seal_ok h, Nat.add_sub_cancel, ← hl, List.take_left]
  have hd : (bstr (sealed s)).data.toList.drop ((bstr (sealed s)).size - 4) = sum s.data.toList := by
    rw [hsz, bstr_list, seal_ok h, Nat.add_sub_cancel, ← hl, List.drop_left]
  rw [opened_ok (by omega) (by omega) (by rw [ht, hd]), ht]
theorem drOp_own {s : ByteArray} {p : Nat} {o : Dop} (hs : s.size ≤ 8000) (hd : dok o = true) (hf : o.f ≤ 9223372036854775807) (hr : ∃ rest, s.data.toList.drop p = o.enc ++ rest) :
    drOp s ((p : Int), false) = (o, (((p + o.enc.length : Nat) : Int), false)) := by
  obtain ⟨rest, hr⟩ := hr
  rcases ok_cases hd with ⟨h0, h1, h2, h3⟩ | ⟨h1, h2, h3, h4⟩
  · rw [enc_ins h0] at hr ⊢
    have g1 := getNum_put (s := s) (p := p) (n := 0) hs (by omega) (by omega) ⟨putText o.x ++ rest, by rw [hr, List.append_assoc]⟩
    have g2 := getText_put (s := s) (d := o.x) (p := p + (putNum 0).length) hs (by omega) ⟨rest, by rw [← List.drop_drop, hr, List.append_assoc, List.drop_left]⟩
    have e1 : rdNum s ((p : Int), false) = (0, (((p + (putNum 0).length : Nat) : Int), false)) := by
      rw [rdNum_ok (by simp [g1])]; rw [g1]
    have e2 : rdText s (((p + (putNum 0).length : Nat) : Int), false) = (o.x.data.toList, (((p + (putNum 0).length + (putText o.x).length : Nat) : Int), false)) := by
      rw [rdText_ok (by simp only [g2]; simp)]; simp only [g2]
    unfold drOp
    rw [e1]
    simp only [if_true]
    rw [e2]
    simp only [bstr_of, List.length_append, Nat.add_assoc]
    obtain ⟨f, c, x⟩ := o
    simp only at h0 h1
    subst h0 h1
    rfl
  · rw [enc_cp (by omega)] at hr ⊢
    have g1 := getNum_put (s := s) (p := p) (n := o.c) hs (by omega) (by omega) ⟨putNum o.f ++ rest, by rw [hr, List.append_assoc]⟩
    have g2 := getNum_put (s := s) (n := o.f) (p := p + (putNum o.c).length) hs (by omega) (by omega) ⟨rest, by rw [← List.drop_drop, hr, List.append_assoc, List.drop_left]⟩
    have e1 : rdNum s ((p : Int), false) = (o.c, (((p + (putNum o.c).length : Nat) : Int), false)) := by
      rw [rdNum_ok (by simp [g1])]; rw [g1]
    have e2 : rdNum s (((p + (putNum o.c).length : Nat) : Int), false) = (o.f, (((p + (putNum o.c).length + (putNum o.f).length : Nat) : Int), false)) := by
      rw [rdNum_ok (by simp only [g2]; simp)]; simp only [g2]
    unfold drOp
    rw [e1]
    simp only [if_neg (show ¬ o.c = 0 by omega)]
    rw [e2]
    simp only [List.length_append, Nat.add_assoc]
    obtain ⟨f, c, x⟩ := o
    have hx : x = ⟨#[]⟩ := by
      obtain ⟨⟨l⟩⟩ := x
      have : l.length = 0 := h4
      rw [List.eq_nil_of_length_eq_zero this]
    subst hx
    rfl
theorem drTo_own {L : List Dop} (hok : okL L = true) (hf : ∀ o ∈ L, o.f ≤ 9223372036854775807) (hb : (dBody L).length ≤ 8000) : ∀ k, k ≤ L.length →
    drTo (bstr (dBody L)) k = (L.take k, ((((encTo L.length (L.take k)).length : Nat) : Int), false))
  | 0, _ => by
    have hsz : (bstr (dBody L)).size ≤ 8000 := by rw [bstr_size]; exact hb
    have hl := okL_len hok
    have g1 := getNum_put (s := bstr (dBody L)) (p := 0) (n := (L.length : Int)) hsz (by omega) (by omega) ⟨L.flatMap Dop.enc, by rw [bstr_list, List.drop_zero]; rfl⟩
    have e1 : rdNum (bstr (dBody L)) (0, false) = ((L.length : Int), (((0 + (putNum (L.length : Int)).length : Nat) : Int), false)) := by
      have g1' : getNum (bstr (dBody L)) 0 = ((L.length : Int), ((0 + (putNum (L.length : Int)).length : Nat) : Int), 0) := g1
      rw [rdNum_ok (by simp [g1'])]; rw [g1']
    rw [drTo, e1, List.take_zero, encTo_nil, Nat.zero_add]
  | k + 1, hk => by
    have hsz : (bstr (dBody L)).size ≤ 8000 := by rw [bstr_size]; exact hb
    have ih := drTo_own hok hf hb k (by omega)
    have hg := take_getD (l := L) (k := k) (by omega)
    have ho := okL_at hok (k := k) (by omega)
    have hm : L.getD k Dop.zero ∈ L := by rw [List.getD_eq_getElem?_getD, List.getElem?_eq_getElem (by omega)]; exact List.getElem_mem _
    have hsplit : dBody L = encTo L.length (L.take k) ++ ((L.getD k Dop.zero).enc ++ (L.drop (k + 1)).flatMap Dop.enc) := by
      have : L = L.take k ++ (L.getD k Dop.zero :: L.drop (k + 1)) := by
        have h2 := (List.take_append_drop (k + 1) L).symm
        rw [hg, List.append_assoc] at h2
        exact h2
      conv => lhs; unfold dBody encTo; rw [this]
      simp only [encTo, List.flatMap_append, List.flatMap_cons, List.append_assoc]
      have hl2 : (L.take k ++ (L.getD k Dop.zero :: L.drop (k + 1))).length = L.length := by rw [← this]
      rw [hl2]
    have hdr : (bstr (dBody L)).data.toList.drop (encTo L.length (L.take k)).length = (L.getD k Dop.zero).enc ++ (L.drop (k + 1)).flatMap Dop.enc := by
      rw [bstr_list, hsplit, List.drop_left]
    have hd := drOp_own (s := bstr (dBody L)) (p := (encTo L.length (L.take k)).length) hsz ho (hf _ hm) ⟨_, hdr⟩
    rw [drTo, ih]
    simp only
    rw [hd, hg, encTo_snoc, List.length_append]
theorem dRead_own {L : List Dop} (hok : okL L = true) (hf : ∀ o ∈ L, o.f ≤ 9223372036854775807) (hb : (dBody L).length ≤ 7996) : dReadCode (bstr (dBytes L)) = 0 ∧ dReadList (bstr (dBytes L)) = L := by
  have ho : opened (bstr (dBytes L)) = (dBody L, 0) := by
    rw [dBytes_ok hok]
    have := opened_of_sealed (s := bstr (dBody L)) (by rw [bstr_size]; omega)
    rwa [bstr_list] at this
  have hl := okL_len hok
  have h0 := drTo_own hok hf (by omega) 0 (Nat.zero_le _)
  have hN := drTo_own hok hf (by omega) L.length (Nat.le_refl _)
  rw [List.take_length] at hN
  have hn : drN (bstr (dBody L)) = (L.length : Int) := by
    have g1 := getNum_put (s := bstr (dBody L)) (p := 0) (n := (L.length : Int)) (by rw [bstr_size]; omega) (by omega) (by omega) ⟨L.flatMap Dop.enc, by rw [bstr_list, List.drop_zero]; rfl⟩
    have g1' : getNum (bstr (dBody L)) 0 = ((L.length : Int), ((0 + (putNum (L.length : Int)).length : Nat) : Int), 0) := g1
    rw [drN, rdNum_ok (by simp [g1'])]; rw [g1']
  have hacc : drAcc (bstr (opened (bstr (dBytes L))).1) := by
    rw [ho]
    refine ⟨by rw [h0], by rw [hn]; omega, by rw [hn]; omega, ?_, ?_, ?_⟩
    · rw [hn, Int.toNat_natCast, hN]
    · rw [hn, Int.toNat_natCast, hN, bstr_size]; rfl
    · rw [hn, Int.toNat_natCast, hN]; exact hok
  have hz : (opened (bstr (dBytes L))).2 = 0 := by rw [ho]
  obtain ⟨e1, e2⟩ := dRead_ok hz hacc
  refine ⟨e1, ?_⟩
  rw [e2, ho, hn, Int.toNat_natCast, hN]

/-- accepted bytes are those of their delta -/
theorem dRead_bytes {u : ByteArray} (h : dReadCode u = 0) : dBytes (dReadList u) = u.data.toList := by
  have h0 : (opened u).2 = 0 := by
    unfold dReadCode at h
    by_cases e : (opened u).2 = 0
    · exact e
    · rw [if_pos e] at h; exact absurd h e
  have ha : drAcc (bstr (opened u).1) := by
    unfold dReadCode at h
    rw [if_neg (by simp [h0])] at h
    by_cases e : drAcc (bstr (opened u).1)
    · exact e
    · rw [if_neg e] at h; cases h
  rw [(dRead_ok h0 ha).2]
  have hk : (((drN (bstr (opened u).1)).toNat : Nat) : Int) = drN (bstr (opened u).1) := by have := ha.2.1; omega
  exact ((drAcc_iff h0 (k := (drN (bstr (opened u).1)).toNat) (by have := ha.2.2.1; omega)).1 ⟨ha, hk⟩).2

/-! a text's delta to itself -/
theorem pre_self : ∀ a : List UInt8, pre a a = a.length
  | [] => rfl
  | a :: l => by unfold pre; rw [if_pos rfl, pre_self l]; rfl
theorem lgTo_self {b : List UInt8} (hb : 0 < b.length) : ∀ k, 1 ≤ k → lgTo b b k = (0, b.length)
  | 0, h => by omega
  | k + 1, _ => by
    by_cases h : k = 0
    · subst h
      have : (lgTo b b 0).2 < pre (b.drop 0) b := by rw [List.drop_zero, pre_self]; exact hb
      rw [lgTo_yes this, List.drop_zero, pre_self]
    · have ih := lgTo_self hb k (by omega)
      rw [lgTo_no (by rw [ih]; have := (pre_le (b.drop k) b).1; rw [List.length_drop] at this; simp only; omega), ih]
theorem dlOf_self {b : List UInt8} (hb : 3 ≤ b.length) : dlOf b b = [⟨0, (b.length : Int), ⟨#[]⟩⟩] := by
  have hl : lg b (b.drop 0) = (0, b.length) := by rw [List.drop_zero]; exact lgTo_self (by omega) _ (by omega)
  unfold dlOf
  rw [dlRun_copy (by omega) (by rw [hl]; exact hb), hl]
  simp only [Nat.zero_add]
  rw [dlRun_end (by omega), cutL_same, cutL_same, insOf_nil]
  rfl
end Go.Proofs.YtpgemeojhbeooaaDoor.Bt
