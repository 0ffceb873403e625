/-
  DeltaOf of the model.
-/
import Derived.Test.YtpgemeojhbeooaaDoorProg
import Derived.KernelRfl
import Derived.Test.YtpgemeojhbeooaaDoorDlOfI
import Derived.Test.YtpgemeojhbeooaaDoorDlLongS
import Derived.Test.YtpgemeojhbeooaaDoorBtSeal
import Derived.StillTailTactics
namespace Go.Proofs.YtpgemeojhbeooaaDoor
open Go.RowKit
open Bt (Dop dok)

theorem own_setD {w : World} {lo n size g cap : Nat} {e : TypeId} {xs : List Value} (h : w.ownsRow lo e size (.slice (some ⟨g, 0, none⟩) n cap) n xs) (i : Nat) (u : Value) :
    (w.setCell ⟨g, i, none⟩ u).ownsRow lo e size (.slice (some ⟨g, 0, none⟩) n cap) n (xs.set i u) := by
  refine ⟨by rw [List.length_set]; exact h.1, ?_⟩
  rcases h.2 with ⟨hv, -⟩ | ⟨g', cap', cur, hv, hlo, hh, hn, hm, hs, ht⟩
  · cases hv
  · simp only [Value.slice.injEq, Option.some.injEq, Addr.mk.injEq] at hv
    obtain ⟨⟨rfl, -⟩, -, rfl⟩ := hv
    refine .inr ⟨g, cap, cur.setIfInBounds i u, rfl, hlo, ?_, hn, hm, by simpa using hs, ?_⟩
    · have hlt := lt_of_block hh
      have h' : w.heap[g] = .cells cur e (0, 0) := by simpa [Array.getElem?_eq_getElem hlt] using hh
      show (w.heap.modify g _)[g]? = _
      rw [Array.getElem?_eq_getElem (by simpa using hlt), Array.getElem_modify_self, h']
      simp
    · rw [Array.toList_setIfInBounds, List.take_set, ht]
theorem doA_len (Y : List Dop) : (doA Y).length = Y.length * 3 := by
  induction Y with
  | nil => rfl
  | cons r Y ih => simp [doA] at ih ⊢; omega
theorem doA_set (st : List Dop) (a : Dop) (x : ByteArray) : (doA (st ++ [a])).set (st.length * 3 + 2) (.string x) = doA (st ++ [⟨a.f, a.c, x⟩]) := by
  rw [doA_snoc, doA_snoc, List.set_append_right _ _ (by rw [doA_len]; omega), doA_len, show st.length * 3 + 2 - st.length * 3 = 2 by omega]
  rfl
theorem doA_last (st : List Dop) (a : Dop) : (doA (st ++ [a]))[st.length * 3 + 1]? = some (.int .i64 a.c) ∧ (doA (st ++ [a]))[st.length * 3 + 2]? = some (.string a.x) := by
  rw [doA_snoc]
  constructor
  · rw [List.getElem?_append_right (by rw [doA_len]; omega), doA_len, show st.length * 3 + 1 - st.length * 3 = 1 by omega]; rfl
  · rw [List.getElem?_append_right (by rw [doA_len]; omega), doA_len, show st.length * 3 + 2 - st.length * 3 = 2 by omega]; rfl
theorem cut_byte (text : ByteArray) (k : Nat) (h : k < text.size) : text.extract k (k + 1) = bstr [text[k]] := by
  have : (text.extract k (k + 1)).data.toList = [text[k]] := by
    simp [ByteArray.data_extract, Array.toList_extract, List.extract_eq_take_drop]
    rw [List.drop_eq_getElem_cons (by simpa using h)]
    simp [ByteArray.getElem_eq_getElem_data]
  rw [← bstr_of (text.extract k (k + 1)), this]
theorem own_emptyD {w : World} {base : Nat} {e : TypeId} {k : Nat} (hb : base ≤ w.heap.size) : (w.alloc (.cells #[] e)).ownsRow base e k (.slice (some ⟨w.heap.size, 0, none⟩) 0 0) 0 [] :=
  ⟨by simp, .inr ⟨w.heap.size, 0, #[], rfl, hb, isBlk_new w e [], Nat.le_refl _, by simp [maxLen], by simp, by simp⟩⟩
/-- a row of operations that is owned and not empty: its slice, and what its last one reads as -/
theorem own_lastD {w : World} {lo : Nat} {e : TypeId} {v : Value} {st : List Dop} {a : Dop} {n : Nat} (h : w.ownsRow lo e 3 v n (doA (st ++ [a]))) (hn : n = st.length + 1) :
    ∃ g cap, v = .slice (some ⟨g, 0, none⟩) n cap ∧ lo ≤ g ∧ w.cell? ⟨g, st.length * 3 + 1, none⟩ = some (.int .i64 a.c) ∧ w.cell? ⟨g, st.length * 3 + 2, none⟩ = some (.string a.x) ∧ (∀ j, w.frozen? ⟨g, j, none⟩ = false) := by
  rcases h.2 with ⟨rfl, h0⟩ | ⟨g, cap, cur, rfl, hb, hh, hnc, -, hs, ht⟩
  · exfalso
    have := h.1; rw [doA_len] at this; simp at this; omega
  · obtain ⟨l1, l2⟩ := doA_last st a
    have c1 := h.cells (g := g) rfl _ _ l1
    have c2 := h.cells (g := g) rfl _ _ l2
    refine ⟨g, cap, rfl, hb, by simpa [add_plain] using c1, by simpa [add_plain] using c2, fun j => ?_⟩
    simp [World.frozen?, hh]

theorem slice_byte (s : ByteArray) (k : Nat) (h : k < s.size) (W : World) : (Instr.slice 9 (.string s) (some (.int .i64 (k : Int))) (some (.int .i64 ((k : Int) + 1))) none).run Tryd.prog W = .ok (.string (s.extract k (k + 1))) W := by
  rw [run_slice_string W 9 s .i64 .i64 (k : Int) ((k : Int) + 1) Tryd.underlying9 (by omega) (by omega) (by omega)]
  have e : ((k : Int) + 1).toNat = k + 1 := by omega
  rw [e, Int.toNat_natCast]

/-- an answer with operations, in a row of the call's own with all its room -/
def RetDOw (w : World) (Y : List Dop) (code : Int) (e : Ending) (w' : World) : Prop :=
  ∃ (A : Option Addr) (ca : Nat), e = .returned (.agg #[.slice A Y.length ca, .int .i64 code]) ∧ w'.ownsRow w.heap.size 41 3 (.slice A Y.length ca) Y.length (doA Y) ∧ Below w.heap.size w w'
theorem RetDOw.plain {w w' : World} {Y : List Dop} {code : Int} {e : Ending} (h : RetDOw w Y code e w') : RetDO w Y code e w' := by
  obtain ⟨A, ca, he, ho, hb⟩ := h
  obtain ⟨A', ca', hv, ho'⟩ := ow_of_ownD ho rfl
  simp only [Value.slice.injEq] at hv
  obtain ⟨rfl, -, rfl⟩ := hv
  exact ⟨A, ca, he, ho', hb⟩
theorem own_lowD {w : World} {lo n size : Nat} {e : TypeId} {v : Value} {xs : List Value} (h : w.ownsRow lo e size v n xs) {a : Addr} (ha : a.block < lo) (u : Value) : (w.setCell a u).ownsRow lo e size v n xs := by
  refine ⟨h.1, ?_⟩
  rcases h.2 with h0 | ⟨g', cap, cur, hv, hl, hh, r⟩
  · exact .inl h0
  · exact .inr ⟨g', cap, cur, hv, hl, (Below.heap_setCell _ _ _ _ (by omega)).trans hh, r⟩

set_option maxHeartbeats 8000000 in
set_option maxRecDepth 100000 in
theorem spec_deltaOfW (base text : ByteArray) (w : World) (hb9 : base.size ≤ 9223372036854775807) (ht9 : text.size ≤ 9223372036854775807) :
    Calls Tryd.prog 7 #[.string base, .string text] w (RetDOw w (Bt.dOfList base text) (Bt.dOfCode base text)) := by
  generalize hC : Bt.dOfCode base text = C
  generalize hR : Bt.dOfList base text = R
  have HC := Lib.hid hC; have HR := Lib.hid hR; clear hC hR
  have hfin : ∀ c : Int, Hid (C = c) → Hid (R = []) → ∀ w', Below w.heap.size w w' → RetDOw w R C (.returned (.agg #[.slice none 0 0, .int .i64 c])) w' := by
    intro c E1 E2 w' hb
    refine ⟨none, 0, by rw [E1.out, E2.out]; rfl, ?_, hb⟩
    rw [E2.out]; exact ⟨rfl, .inl ⟨rfl, rfl⟩⟩
  have HFIN := Lib.hid hfin; clear hfin
  by_cases h1 : 8000 < base.size ∨ 8000 < text.size
  · obtain ⟨e1, e2⟩ := Bt.dOf_size h1
    have E1 := Lib.hid (HC.out.symm.trans e1); have E2 := Lib.hid (HR.out.symm.trans e2)
    clear e1 e2
    by_cases h1a : 8000 < base.size
    · clear h1
      go_enter Tryd.func7, Tryd.ntmps7
      go_wp2
      exact bodyPost_ret (v := .agg #[.slice none 0 0, .int .i64 2]) (by simp [results, Tryd.results7, go_sem]) rfl (HFIN.out 2 E1 E2 _ ((Below.refl _ _).alloc (Nat.le_refl _) _))
    · have h1b : 8000 < text.size := by omega
      clear h1
      go_enter Tryd.func7, Tryd.ntmps7
      go_wp2
      exact bodyPost_ret (v := .agg #[.slice none 0 0, .int .i64 2]) (by simp [results, Tryd.results7, go_sem]) rfl (HFIN.out 2 E1 E2 _ ((Below.refl _ _).alloc (Nat.le_refl _) _))
  by_cases h2 : 200 < base.size ∨ 200 < text.size
  · obtain ⟨e1, e2⟩ := Bt.dOf_form h1 h2
    have E1 := Lib.hid (HC.out.symm.trans e1); have E2 := Lib.hid (HR.out.symm.trans e2)
    have h1a : base.size ≤ 8000 := by omega
    have h1b : text.size ≤ 8000 := by omega
    clear e1 e2 h1
    by_cases h2a : 200 < base.size
    · clear h2
      go_enter Tryd.func7, Tryd.ntmps7
      go_wp2
      exact bodyPost_ret (v := .agg #[.slice none 0 0, .int .i64 1]) (by simp [results, Tryd.results7, go_sem]) rfl (HFIN.out 1 E1 E2 _ ((Below.refl _ _).alloc (Nat.le_refl _) _))
    · have h2b : 200 < text.size := by omega
      clear h2
      go_enter Tryd.func7, Tryd.ntmps7
      go_wp2
      exact bodyPost_ret (v := .agg #[.slice none 0 0, .int .i64 1]) (by simp [results, Tryd.results7, go_sem]) rfl (HFIN.out 1 E1 E2 _ ((Below.refl _ _).alloc (Nat.le_refl _) _))
  have h2a : base.size ≤ 200 := by omega
  have h2b : text.size ≤ 200 := by omega
  have HF := fun h => Lib.hid (Bt.dOf_full h2 h)
  have HO := fun h => Lib.hid (Bt.dOf_ok h2 h)
  clear h1 h2
  obtain ⟨b, hb⟩ : ∃ b, b = base.data.toList := ⟨_, rfl⟩
  obtain ⟨t, ht⟩ : ∃ t, t = text.data.toList := ⟨_, rfl⟩
  rw [← hb, ← ht] at HF HO
  have HLONG : Hid (∀ (at_ : Nat) (W : World), at_ ≤ text.size → Calls Tryd.prog 27 #[.string base, .string text, .int .i64 (at_ : Nat)] W fun e w' => e = .returned (.tuple #[.int .i64 (((Bt.lg b (t.drop at_)).1 : Nat) : Int), .int .i64 (((Bt.lg b (t.drop at_)).2 : Nat) : Int)]) ∧ Below W.heap.size W w') := fun at_ W h => by
    rw [hb, ht]; exact l09Longest_any base text at_ W h2a h2b h
  have HTL : Hid (t.length = text.size) := by show _ = _; rw [ht]; rfl
  have HTG : Hid (∀ k (h : k < text.size) (h' : k < t.length), t[k] = text[k]) := by intro k h h'; subst ht; simp [ByteArray.getElem_eq_getElem_data]
  clear hb ht
  have hb0 : Below w.heap.size w (w.alloc (.cells #[.slice none 0 0, .int .i64 0] 27)) := (Below.refl _ _).alloc (Nat.le_refl _) _
  have k0 := isBlk_new w 27 [.slice none 0 0, .int .i64 0]
  change IsBlk (w.alloc (.cells #[.slice none 0 0, .int .i64 0] 27)) _ _ _ at k0
  obtain ⟨i0, hi, hz0, hz1, hz2⟩ := info_parts info_dop
  have Hi := Lib.hid hi; have Z0 := Lib.hid hz0; have Z1 := Lib.hid hz1; have Z2 := Lib.hid hz2
  clear hi hz0 hz1 hz2
  go_enter Tryd.func7, Tryd.ntmps7
  go_wp2_with fail
  have hlo : (w.alloc (.cells #[.slice none 0 0, .int .i64 0] 27)).heap.size = w.heap.size + 1 := size_alloc _ _
  have hown0 : ((w.alloc (.cells #[.slice none 0 0, .int .i64 0] 27)).alloc (.cells #[] 41)).ownsRow (w.heap.size + 1) 41 3 (.slice (some ⟨w.heap.size + 1, 0, none⟩) 0 0) 0 (doA []) := by
    have h := own_emptyD (w := w.alloc (.cells #[.slice none 0 0, .int .i64 0] 27)) (base := w.heap.size + 1) (e := 41) (k := 3) (by omega)
    rw [hlo] at h; exact h
  have hbw : Below w.heap.size w ((w.alloc (.cells #[.slice none 0 0, .int .i64 0] 27)).alloc (.cells #[] 41)) := hb0.alloc hb0.size _
  have kw : IsBlk ((w.alloc (.cells #[.slice none 0 0, .int .i64 0] 27)).alloc (.cells #[] 41)) w.heap.size 27 [.slice none 0 0, .int .i64 0] := k0.alloc _
  have hszw : w.heap.size + 1 ≤ ((w.alloc (.cells #[.slice none 0 0, .int .i64 0] 27)).alloc (.cells #[] 41)).heap.size := by simp
  generalize (w.alloc (.cells #[.slice none 0 0, .int .i64 0] 27)).alloc (.cells #[] 41) = W1 at *
  have HOW0 := Lib.hid hown0; have HBW := Lib.hid hbw; have HKW := Lib.hid kw
  clear hlo hown0 hbw kw hb0 k0
  go_loopw [5, 6] (fun s i wr => ∃ (at_ md n : Nat) (st : List Dop) (v : Value), at_ ≤ text.size ∧ md ≤ at_ ∧ st.length ≤ at_ ∧ v = s ∧ i = .int .i64 (at_ : Nat) ∧ Hid (n = (st ++ Bt.insOf (Bt.cutL t md at_)).length) ∧ Hid (Bt.dlRun b t at_ md st = Bt.dlOf b t) ∧ Hid (st = [] ∨ ∃ st' a, st = st' ++ [a] ∧ a.c ≠ 0) ∧ Hid (wr.ownsRow (w.heap.size + 1) 41 3 v n (doA (st ++ Bt.insOf (Bt.cutL t md at_)))) ∧ Hid (Below (w.heap.size + 1) W1 wr)) (fun _ i wr => text.size - (intOf i).toNat)
  case atStart => exact ⟨0, 0, 0, [], _, Nat.zero_le _, Nat.zero_le _, Nat.zero_le _, rfl, rfl, (by rw [Bt.cutL_same]; rfl : 0 = _), rfl, .inl rfl, (by rw [Bt.cutL_same]; exact HOW0.out : World.ownsRow _ _ _ _ _ _ _), Below.refl _ _⟩
  case round =>
    obtain ⟨at_, md, n, st, v, hat, hmd, hst, rfl, rfl, HN, HRUN, HLAST, HOW, HW⟩ := hrel
    have hsz := HW.out.size
    have hio := insOf_one (Bt.cutL t md at_)
    have hnl : n ≤ at_ + 1 := by have := HN.out; rw [List.length_append] at this; omega
    by_cases hlt : at_ < text.size
    · have hatl : at_ < t.length := by have := HTL.out; omega
      have hlg := (Bt.lg_le b (t.drop at_)).2
      rw [List.length_drop] at hlg
      have HBY := fun h => Lib.hid (Bt.dlRun_byte (base := b) (made := md) (st := st) hatl h)
      have HCP := fun h => Lib.hid (Bt.dlRun_copy (base := b) (made := md) (st := st) hatl h)
      have HLM := Lib.hid (HLONG.out at_ wr hat)
      generalize Bt.lg b (t.drop at_) = L at HLM hlg HBY HCP
      obtain ⟨l1, l2⟩ := L
      simp only at HLM hlg HBY HCP
      have hl2m : at_ + l2 ≤ text.size := by have := HTL.out; omega
      clear hio
      go_wp2_with fail
      with_reducible refine HLM.out.mono ?_
      rintro e w2 ⟨rfl, hb2⟩
      have HB2 : Hid (Below (w.heap.size + 1) W1 w2) := HW.out.trans (hb2.mono (by omega))
      have HOW2 := Lib.hid (own_belowD HOW.out hb2)
      have hsz2 : w.heap.size + 1 ≤ w2.heap.size := by have := hb2.size; omega
      clear hb2 HLM
      by_cases hc : 3 ≤ l2
      · have HS := HCP hc
        clear HBY HCP
        have HNEW : Hid ((st ++ Bt.insOf (Bt.cutL t md at_) ++ [(⟨l1, l2, ⟨#[]⟩⟩ : Dop)]) ++ Bt.insOf (Bt.cutL t (at_ + l2) (at_ + l2)) = st ++ Bt.insOf (Bt.cutL t md at_) ++ [(⟨l1, l2, ⟨#[]⟩⟩ : Dop)]) := by show _ = _; rw [Bt.cutL_same, Bt.insOf_nil, List.append_nil]
        have hl3 : (st ++ Bt.insOf (Bt.cutL t md at_) ++ [(⟨l1, l2, ⟨#[]⟩⟩ : Dop)]).length ≤ at_ + l2 := by rw [List.length_append, ← HN.out]; simp only [List.length_cons, List.length_nil]; omega
        go_wp2_with (at_builtin; refine wpList_append_kD rfl _ _ 25 41 i0 _ 3 32 Tryd.underlying25 Hi.out Z0.out Z1.out Z2.out rfl (by omega) rfl HOW2.out HB2.out hsz2 rfl rfl rfl (dopC ⟨l1, l2, ⟨#[]⟩⟩) rfl rfl (dopC_one _) (by omega) (by omega) ?_; intro v' w5 ho5 hb5; have HB5 := Lib.hid hb5; have HO5 := Lib.hid ho5; clear hb5 ho5)
        go_roundw
        case rel =>
          refine ⟨at_ + l2, at_ + l2, n + 1, st ++ Bt.insOf (Bt.cutL t md at_) ++ [(⟨l1, l2, ⟨#[]⟩⟩ : Dop)], _, hl2m, Nat.le_refl _, hl3, rfl, by go_num, ?_, HS.out.symm.trans HRUN.out, .inr ⟨_, _, rfl, by simp only; omega⟩, ?_, HB5⟩
          · show _ = _; rw [HNEW.out, List.length_append, ← HN.out]; rfl
          · show World.ownsRow _ _ _ _ _ _ _; rw [HNEW.out, doA_snoc]; exact HO5.out
        case measure => simp [intOf]; omega
      · have HS := HBY hc
        have hc' : l2 < 3 := by omega
        clear HBY HCP
        have HCUT := Lib.hid (Bt.cutL_succ (a := md) hatl hmd)
        have HB1 := Lib.hid (HTG.out at_ hlt hatl)
        have HCB := Lib.hid (cut_byte text at_ hlt)
        have hsl := slice_byte text at_ hlt
        by_cases hmd2 : md < at_
        · have hcl : (Bt.cutL t md at_).length = at_ - md := Bt.cutL_len (by omega)
          have hne : Bt.cutL t md at_ ≠ [] := fun e => by rw [e] at hcl; simp at hcl; omega
          have HI1 := Lib.hid (Bt.insOf_some hne)
          have HI2 := Lib.hid (Bt.insOf_some (t := Bt.cutL t md at_ ++ [t[at_]]) (by simp))
          rw [HI1.out] at HOW2 HN
          have hn : n = st.length + 1 := by have := HN.out; rw [List.length_append] at this; exact this
          obtain ⟨g, cap, rfl, hgl, c1, c2, hfz⟩ := own_lastD HOW2.out hn
          have f2 := hfz (st.length * 3 + 2)
          have q := fun W => add_str (P := Tryd.prog) W (bstr (Bt.cutL t md at_)) (text.extract at_ (at_ + 1)) (by rw [bstr_size, HCB.out, bstr_size, hcl]; simp; omega)
          have HX : Hid (strV ((bstr (Bt.cutL t md at_)).data.toList ++ (text.extract at_ (at_ + 1)).data.toList) = .string (bstr (Bt.cutL t md at_ ++ [t[at_]]))) := by show _ = _; rw [HCB.out, bstr_list, bstr_list, HB1.out]
          rw [HX.out] at q
          clear HX
          have HSET := Lib.hid (own_setD HOW2.out (st.length * 3 + 2) (.string (bstr (Bt.cutL t md at_ ++ [t[at_]]))))
          rw [doA_set] at HSET
          have HLEN : Hid (n = st.length + 1) := hn
          obtain ⟨K, hK⟩ : ∃ K, K = st.length := ⟨_, rfl⟩
          rw [← hK] at hn c1 c2 f2 HSET hst
          have HK := Lib.hid hK
          clear hK hcl hne hfz
          subst hn
          have hgne : g ≠ w.heap.size := by omega
          go_wp2
          have hw3 : IntKind.i64.wrap ((at_ : Int) + 1) = (at_ : Int) + 1 := IntWalk.i64_in _ (by omega)
          have hw4 : IntKind.i64.wrap (K : Int) = (K : Int) := IntWalk.i64_in _ (by omega)
          have hkk : (K : Int) < (K : Int) + 1 := by omega
          go_still_tail 19, (by kernel_rfl)
          clear hw3 hw4 hkk
          change wpList _ _ _ _ _ w2.drew
          go_wp2
          go_roundw
          case rel =>
            refine ⟨at_ + 1, md, K + 1, st, _, by omega, by omega, by have := HK.out; omega, rfl, by go_num, ?_, HS.out.symm.trans HRUN.out, HLAST, ?_, ?_⟩
            · show _ = _; rw [HCUT.out, HI2.out, List.length_append, ← HK.out]; rfl
            · show World.ownsRow _ _ _ _ _ _ _; rw [HCUT.out, HI2.out]; exact own_belowD HSET.out ((Below.refl _ _).drew)
            · exact (HB2.out.setCell (by dsimp only; omega) _).drew
          case measure => simp [intOf]; omega
        · obtain rfl : md = at_ := by omega
          have HI0 : Hid (Bt.insOf (Bt.cutL t md md) = []) := by show _ = _; rw [Bt.cutL_same]; rfl
          have HI2 : Hid (Bt.insOf (Bt.cutL t md (md + 1)) = [⟨0, 0, text.extract md (md + 1)⟩]) := by
            show _ = _; rw [HCUT.out, Bt.cutL_same, HCB.out, HB1.out]; exact Bt.insOf_some (by simp)
          rw [HI0.out, List.append_nil] at HOW2 HN
          have HNEW : Hid ((n + 1 : Nat) = (st ++ Bt.insOf (Bt.cutL t md (md + 1))).length) := by show _ = _; rw [HI2.out, List.length_append, ← HN.out]; rfl
          rcases HLAST.out with h0 | ⟨st', a, h0, hac⟩
          · have hn : n = 0 := by have := HN.out; rw [h0] at this; exact this
            obtain ⟨Ao, co, rfl, -⟩ := ow_of_ownD HOW2.out HN.out.symm
            subst hn
            clear h0
            go_wp2_with (at_builtin; refine wpList_append_kD rfl _ _ 25 41 i0 _ 3 32 Tryd.underlying25 Hi.out Z0.out Z1.out Z2.out rfl (by omega) rfl HOW2.out HB2.out hsz2 rfl rfl rfl (dopC ⟨0, 0, text.extract md (md + 1)⟩) rfl rfl (dopC_one _) (by omega) (by omega) ?_; intro v' w5 ho5 hb5; have HB5 := Lib.hid hb5; have HO5 := Lib.hid ho5; clear hb5 ho5)
            go_roundw
            case rel =>
              refine ⟨md + 1, md, 0 + 1, st, _, by omega, by omega, by omega, rfl, by go_num, HNEW, HS.out.symm.trans HRUN.out, HLAST, ?_, HB5⟩
              show World.ownsRow _ _ _ _ _ _ _; rw [HI2.out, doA_snoc]; exact HO5.out
            case measure => simp [intOf]; omega
          · have hn : n = st'.length + 1 := by have := HN.out; rw [h0] at this; simpa using this
            have HOW3 := HOW2.out
            rw [h0] at HOW3
            obtain ⟨g, cap, rfl, hgl, c1, -, -⟩ := own_lastD HOW3 hn
            have hq : (a.c == 0) = false := by simpa using hac
            generalize st'.length = K at hn c1
            subst hn
            clear h0 hac HOW3
            go_wp2_with (at_builtin; refine wpList_append_kD rfl _ _ 25 41 i0 _ 3 32 Tryd.underlying25 Hi.out Z0.out Z1.out Z2.out rfl (by omega) rfl HOW2.out HB2.out hsz2 rfl rfl rfl (dopC ⟨0, 0, text.extract md (md + 1)⟩) rfl rfl (dopC_one _) (by omega) (by omega) ?_; intro v' w5 ho5 hb5; have HB5 := Lib.hid hb5; have HO5 := Lib.hid ho5; clear hb5 ho5)
            go_roundw
            case rel =>
              refine ⟨md + 1, md, K + 1 + 1, st, _, by omega, by omega, by omega, rfl, by go_num, HNEW, HS.out.symm.trans HRUN.out, HLAST, ?_, HB5⟩
              show World.ownsRow _ _ _ _ _ _ _; rw [HI2.out, doA_snoc]; exact HO5.out
            case measure => simp [intOf]; omega
    · obtain rfl : at_ = text.size := by omega
      have HEND : Hid (Bt.dlOf b t = st ++ Bt.insOf (Bt.cutL t md text.size)) := by
        show _ = _
        rw [← HRUN.out, Bt.dlRun_end (by have := HTL.out; omega), show t.length = text.size from HTL.out]
      rw [← HEND.out] at HN HOW
      have HBF := Lib.hid (HBW.out.trans (HW.out.mono (by omega)))
      obtain ⟨c0, c1, f0, f1⟩ := blk2D (HKW.out.below HW.out (by omega))
      obtain ⟨Ao, co, rfl, hoo⟩ := ow_of_ownD HOW.out HN.out.symm
      rw [← HN.out] at HF HO
      clear hoo HLAST
      by_cases h40 : 40 < n
      · obtain ⟨e1, e2⟩ := (HF h40).out
        have E1 := Lib.hid (HC.out.symm.trans e1); have E2 := Lib.hid (HR.out.symm.trans e2)
        clear e1 e2 HF HO
        go_wp2
        exact bodyPost_ret (v := .agg #[.slice none 0 0, .int .i64 9]) (by simp [results, Tryd.results7, go_sem, c0, c1]) rfl (HFIN.out 9 E1 E2 _ ((HBF.out.setCell (Nat.le_refl _) _).setCell (Nat.le_refl _) _))
      · obtain ⟨e1, e2⟩ := (HO h40).out
        have E1 := Lib.hid (HC.out.symm.trans e1); have E2 := Lib.hid (HR.out.symm.trans e2)
        have hn40 : n ≤ 40 := by omega
        clear e1 e2 HF HO h40
        go_wp2
        refine bodyPost_ret (v := .agg #[.slice Ao n co, .int .i64 0]) (by simp [results, Tryd.results7, go_sem, c0, c1]) rfl ⟨Ao, co, by rw [E1.out, E2.out, HN.out], ?_, (HBF.out.setCell (Nat.le_refl _) _).setCell (Nat.le_refl _) _⟩
        rw [E2.out, ← HN.out]
        exact own_moreD (own_lowD (own_lowD HOW.out (by dsimp only; omega) _) (by dsimp only; omega) _) (by omega)
theorem spec_deltaOf (base text : ByteArray) (w : World) (hb9 : base.size ≤ 9223372036854775807) (ht9 : text.size ≤ 9223372036854775807) :
    Calls Tryd.prog 7 #[.string base, .string text] w (RetDO w (Bt.dOfList base text) (Bt.dOfCode base text)) :=
  (spec_deltaOfW base text w hb9 ht9).mono fun _ _ h => h.plain
end Go.Proofs.YtpgemeojhbeooaaDoor
