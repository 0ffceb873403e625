/-
  CkptRead of the model.
-/
import Derived.Test.YtloaeglmngcenaaGreatDoorProg
import Derived.KernelRfl
import Derived.Test.YtloaeglmngcenaaGreatDoorCkReadJ
import Derived.Test.YtloaeglmngcenaaGreatDoorCkBytesS
import Derived.Test.YtloaeglmngcenaaGreatDoorRcRead2
namespace Go.Proofs.YtloaeglmngcenaaGreatDoor
open Go.RowKit
open Bt (Rc)

theorem some_ofK {x : ByteArray} (h : x.size ≠ 0) : x.toList.isEmpty = false ∧ (x.toList == []) = false := by
  rw [ByteArray.toList_eq]
  have h2 : x.data.toList ≠ [] := fun e => h (by have := congrArg List.length e; exact this)
  exact ⟨by simpa using h2, by simpa using h2⟩
theorem ckSt_wf (s : ByteArray) : ∀ k, (ckSt s k).2.1 ≤ 9223372036854775807
  | 0 => rdNum_wf (rdNum_wf (by simp))
  | k + 1 => ckRec_wf (ckSt_wf s k)
theorem own_btwK {w w' : World} {lo n size g : Nat} {e : TypeId} {v : Value} {xs : List Value} (h : w.ownsRow lo e size v n xs) (hb : Btw g (g + 1) w w') (hg : g < lo) : w'.ownsRow lo e size v n xs := by
  refine ⟨h.1, ?_⟩
  rcases h.2 with h0 | ⟨g', cap, cur, hv, hl, hh, r⟩
  · exact .inl h0
  · exact .inr ⟨g', cap, cur, hv, hl, (hb.block g' (lt_of_block hh) (.inr (by omega))).trans hh, r⟩
theorem rdText_sizeK (s : ByteArray) (x : Int × Bool) : (bstr (Bt.rdText s x).1).size ≤ maxLen := by
  by_cases hc : x.2 = true ∨ (Bt.getText s x.1).2.2 ≠ 0
  · rw [Bt.rdText_bad hc]; unfold maxLen; rw [bstr_size]; simp
  · rw [Bt.rdText_ok hc]; exact getText_lenC s x.1
theorem rdText_wfK {s : ByteArray} {x : Int × Bool} (h : x.1 ≤ 9223372036854775807) : (Bt.rdText s x).2.1 ≤ 9223372036854775807 := ckRec_wf h
/-- the model's loop: what stands while it reads -/
structure RkSt (w wr : World) (g hb : Nat) (x : Int × Bool) (s : ByteArray) (k : Nat) (L : List Rc) (v : Value) : Prop where
  box : IsBlk wr w.heap.size 175 [.int .i64 0, .slice none 0 0, .int .i64 0]
  rdr : IsBlk wr g 135 (rdC s x)
  hst : IsBlk wr hb 29 [v]
  own : wr.ownsRow (hb + 1) 34 6 v k (rcA L)
  bel : Below w.heap.size w wr
  lt : w.heap.size < g
  gh : g < hb
theorem RkSt.call {w wr w' : World} {g hb : Nat} {x x' : Int × Bool} {s : ByteArray} {k : Nat} {L : List Rc} {v : Value} (h : RkSt w wr g hb x s k L v) (hk : IsBlk w' g 135 (rdC s x')) (hbt : Btw g (g + 1) wr w') : RkSt w w' g hb x' s k L v :=
  ⟨(hbt.block _ h.box.lt (.inl h.lt)).trans h.box, hk, (hbt.block _ h.hst.lt (.inr (by have := h.gh; omega))).trans h.hst, own_btwK h.own hbt (by have := h.gh; omega),
    h.bel.trans ((hbt.below (Nat.le_of_lt h.rdr.lt)).mono (Nat.le_of_lt h.lt)), h.lt, h.gh⟩
theorem RkSt.below {w wr w' : World} {g hb : Nat} {x : Int × Bool} {s : ByteArray} {k : Nat} {L : List Rc} {v : Value} (h : RkSt w wr g hb x s k L v) (hbt : Below wr.heap.size wr w') : RkSt w w' g hb x s k L v :=
  ⟨h.box.below hbt h.box.lt, h.rdr.below hbt h.rdr.lt, h.hst.below hbt h.hst.lt, own_belowR h.own hbt, h.bel.trans (hbt.mono h.bel.size), h.lt, h.gh⟩
theorem RkSt.bad {w wr : World} {g hb : Nat} {p : Int} {b : Bool} {s : ByteArray} {k : Nat} {L : List Rc} {v : Value} (h : RkSt w wr g hb (p, b) s k L v) (b' : Bool) : RkSt w (wr.setCell ⟨g, 2, none⟩ (.bool b')) g hb (p, b') s k L v := by
  have h1 := h.lt; have h2 := h.gh
  exact ⟨h.box.other (by dsimp only; omega) _, h.rdr.set (j := 2) (.bool b'), h.hst.other (by dsimp only; omega) _, own_otherR h.own (by dsimp only; omega) _, h.bel.setCell (by dsimp only; omega) _, h.lt, h.gh⟩
theorem RkSt.more {w wr w' : World} {g hb : Nat} {x : Int × Bool} {s : ByteArray} {k : Nat} {L : List Rc} {v v' : Value} {r : Rc} (h : RkSt w wr g hb x s k L v) (hb' : Below (hb + 1) wr w') (ho : w'.ownsRow (hb + 1) 34 6 v' (k + 1) (rcA L ++ recC r)) : RkSt w (w'.setCell ⟨hb, 0, none⟩ v') g hb x s (k + 1) (L ++ [r]) v' := by
  have h1 := h.lt; have h2 := h.gh
  refine ⟨(h.box.below hb' (by omega)).other (by dsimp only; omega) _, (h.rdr.below hb' (by omega)).other (by dsimp only; omega) _, (h.hst.below hb' (by omega)).set (j := 0) v', ?_, (h.bel.trans (hb'.mono (by omega))).setCell (by dsimp only; omega) _, h.lt, h.gh⟩
  rw [rcA_snoc]
  exact own_otherR ho (by dsimp only; omega) _

set_option maxHeartbeats 8000000 in
set_option maxRecDepth 100000 in
theorem spec_ckptRead (t : ByteArray) (w : World) (ht : t.size ≤ maxLen) :
    Calls Tryz.prog 192 #[.string t] w (RetCk w (ckRNum t) (ckList t) (ckCode t)) := by
  have hb0 : Below w.heap.size w (w.alloc (.cells #[.int .i64 0, .slice none 0 0, .int .i64 0] 175)) := (Below.refl _ _).alloc (Nat.le_refl _) _
  have k0 := isBlk_new w 175 [.int .i64 0, .slice none 0 0, .int .i64 0]
  change IsBlk (w.alloc (.cells #[.int .i64 0, .slice none 0 0, .int .i64 0] 175)) _ _ _ at k0
  have HUN := Lib.hid (spec_unseal_any t (w.alloc (.cells #[.int .i64 0, .slice none 0 0, .int .i64 0] 175)) ht)
  generalize hC : ckCode t = C
  generalize hR : ckList t = R
  generalize hQ : ckRNum t = Q
  have hsea := fun h => ck_seal (t := t) h
  have hno := fun h ha => ck_no (t := t) h ha
  have hok := fun h ha => ck_ok (t := t) h ha
  have hiff := fun (h : (Bt.opened t).2 = 0) (k : Nat) (hk : k ≤ 48) => ckAcc_iff (t := t) h hk
  have hts := fun (h : (Bt.opened t).2 = 0) => (ck_sealed h).2.1
  rw [hC, hR, hQ] at hsea hno hok
  clear hC hR hQ
  have hol := opened_lenK t
  generalize Bt.opened t = O at HUN hsea hno hok hol hiff hts
  obtain ⟨sl, oc⟩ := O
  simp only at HUN hsea hno hok hol hiff hts
  have HFIN : Hid (∀ c : Int, Hid (C = c) → Hid (Q = 0) → Hid (R = []) → ∀ w', Below w.heap.size w w' → RetCk w Q R C (.returned (.agg #[.int .i64 0, .slice none 0 0, .int .i64 c])) w') := by
    intro c E1 E2 E3 w' hb
    rw [E1.out, E2.out]; exact ret_ckNone E3.out hb
  obtain ⟨i0, hi, hz0, hz1, hz2⟩ := info_parts info_recK
  have Hi := Lib.hid hi; have Z0 := Lib.hid hz0; have Z1 := Lib.hid hz1; have Z2 := Lib.hid hz2
  clear hi hz0 hz1 hz2
  go_enter Tryz.func192, Tryz.ntmps192
  go_wp2_with fail
  refine HUN.out.mono ?_
  rintro e w1 ⟨rfl, hb1⟩
  have HB1 : Hid (Below w.heap.size w w1) := hb0.trans (hb1.mono hb0.size)
  have HK1 := Lib.hid (k0.below hb1 k0.lt)
  clear hb1 k0 hb0 HUN
  by_cases h0 : oc = 0
  case neg =>
    obtain ⟨e1, e2, e3⟩ := hsea h0
    have E1 := Lib.hid e1; have E2 := Lib.hid e2; have E3 := Lib.hid e3
    have hcc : (oc != 0) = true := by simpa using h0
    obtain ⟨c0, c1, c2, f0, f1, f2⟩ := blk3k HK1.out
    have hlt := HK1.out.lt
    clear e1 e2 e3 h0 hsea hno hok hiff hts
    go_wp2
    refine bodyPost_ret (v := .agg #[.int .i64 0, .slice none 0 0, .int .i64 oc]) (by simp [results, Tryz.results192, go_sem, c0, c1, c2, hlt]) rfl (HFIN.out oc E1 E2 E3 _ ?_)
    exact (((HB1.out.setCell (Nat.le_refl _) _).setCell (Nat.le_refl _) _).setCell (Nat.le_refl _) _).alloc (by simpa [World.setCell] using HB1.out.size) _
  subst h0
  have HNO := Lib.hid (fun ha => hno rfl ha)
  have HOK := Lib.hid (fun ha => hok rfl ha)
  have HIFF := Lib.hid (fun k hk => hiff rfl k hk)
  have HTS : Hid (sl.length + 4 = t.size) := hts rfl
  clear hsea hno hok hiff hts
  obtain ⟨s, hs⟩ : ∃ s, s = bstr sl := ⟨_, rfl⟩
  have hssz : s.size ≤ maxLen := by rw [hs, bstr_size]; unfold maxLen; omega
  rw [← hs] at HNO HOK HIFF
  rw [show toutV sl 0 0 = Value.agg #[.string s, .int .i64 0, .int .i64 0] by rw [hs]]
  clear hs
  go_wp2_with fail
  have kb : IsBlk ((w1.alloc (.cells #[.string s, .int .i64 0, .int .i64 0] 131)).alloc (.cells #[.string s, .int .i64 0, .bool false] 135)) w.heap.size 175 [.int .i64 0, .slice none 0 0, .int .i64 0] := (HK1.out.alloc _).alloc _
  have kr : IsBlk ((w1.alloc (.cells #[.string s, .int .i64 0, .int .i64 0] 131)).alloc (.cells #[.string s, .int .i64 0, .bool false] 135)) (w1.heap.size + 1) 135 (rdC s (0, false)) := by
    have h := isBlk_new (w1.alloc (.cells #[.string s, .int .i64 0, .int .i64 0] 131)) 135 (rdC s (0, false))
    rw [size_alloc] at h; exact h
  have kl : Below w.heap.size w ((w1.alloc (.cells #[.string s, .int .i64 0, .int .i64 0] 131)).alloc (.cells #[.string s, .int .i64 0, .bool false] 135)) := by
    have h := HB1.out.size
    exact (HB1.out.alloc h _).alloc (by simp; omega) _
  have hgw : w.heap.size < w1.heap.size + 1 := by have := HB1.out.size; omega
  change Calls _ _ _ ((w1.alloc (.cells #[.string s, .int .i64 0, .int .i64 0] 131)).alloc (.cells #[.string s, .int .i64 0, .bool false] 135)) _
  generalize (w1.alloc (.cells #[.string s, .int .i64 0, .int .i64 0] 131)).alloc (.cells #[.string s, .int .i64 0, .bool false] 135) = W at kb kr kl ⊢
  generalize w1.heap.size + 1 = g at kr hgw ⊢
  refine (reader_num_any g s (0, false) W hssz (by simp) kr).mono ?_
  rintro e w2 ⟨rfl, kr2, hb2⟩
  have kb2 : IsBlk w2 w.heap.size 175 [.int .i64 0, .slice none 0 0, .int .i64 0] := (hb2.block _ kb.lt (.inl hgw)).trans kb
  have kl2 : Below w.heap.size w w2 := kl.trans ((hb2.below (Nat.le_of_lt kr.lt)).mono (by omega))
  have HQD : Hid ((Bt.rdNum s (0, false)).1 = ckNum s) := rfl
  rw [HQD.out]
  have hlg2 : g < w2.heap.size := kr2.lt
  have HX0 : Hid ((Bt.rdNum s (0, false)).2.1 ≤ 9223372036854775807) := rdNum_wf (by simp)
  have HST0 : Hid (RkSt w (w2.alloc (.cells #[.slice none 0 0] 29)) g w2.heap.size (Bt.rdNum s (0, false)).2 s 0 [] (.slice none 0 0)) :=
    ⟨kb2.alloc _, kr2.alloc _, isBlk_new w2 29 [.slice none 0 0], ⟨rfl, .inl ⟨rfl, rfl⟩⟩, kl2.alloc kl2.size _, hgw, hlg2⟩
  clear kb kr kl kr2 hb2 kb2 kl2 HQD HK1
  go_wp2_with fail
  generalize w2.alloc (.cells #[.slice none 0 0] 29) = v2 at HST0 ⊢
  generalize w2.heap.size = hb at *
  refine (reader_num_any g s (Bt.rdNum s (0, false)).2 v2 hssz HX0.out HST0.out.rdr).mono ?_
  rintro e w3 ⟨rfl, kr3, hb3⟩
  have HST : Hid (RkSt w w3 g hb (ckSt s 0).2 s 0 (ckSt s 0).1 (.slice none 0 0)) := HST0.out.call (x' := (ckSt s 0).2) kr3 hb3
  have HND : Hid ((Bt.rdNum s (Bt.rdNum s (0, false)).2).1 = ckN s) := rfl
  rw [HND.out]
  generalize hNd : ckN s = N at *
  have HNd := Lib.hid hNd
  clear kr3 hb3 HND hNd HST0 HX0
  go_wp2_with fail
  go_loopw [8] (fun i wr => ∃ (k : Nat) (v' : Value), k ≤ 48 ∧ (k = 0 ∨ (k : Int) ≤ N) ∧ i = .int .i64 (k : Nat) ∧ Hid (RkSt w wr g hb (ckSt s k).2 s k (ckSt s k).1 v')) (fun i wr => 48 - (intOf i).toNat)
  case atStart => exact ⟨0, _, Nat.zero_le _, .inl rfl, rfl, HST⟩
  case round =>
    clear HST
    obtain ⟨k, v, hk, hkN, rfl, HS⟩ := hrel
    have hx2 : wr.cell? ⟨g, 2, none⟩ = some (.bool (ckSt s k).2.2) := HS.out.rdr.cell rfl
    have hwf := ckSt_wf s k
    have hlg := HS.out.rdr.lt
    by_cases hgo : (k : Int) < N ∧ k < 48 ∧ (ckSt s k).2.2 = false
    · obtain ⟨hg1, hg2, hg3⟩ := hgo
      rw [hg3] at hx2
      have HNX : Hid (ckSt s (k + 1) = ((ckSt s k).1 ++ [(ckRec s (ckSt s k).2).1], (ckRec s (ckSt s k).2).2)) := rfl
      have HRN := Lib.hid (reader_text_any g s (ckSt s k).2 wr hssz hwf HS.out.rdr)
      have HCR : Hid (ckRec s (ckSt s k).2 = ((Bt.recRead (bstr (Bt.rdText s (ckSt s k).2).1)).1, ((Bt.rdText s (ckSt s k).2).2.1, (Bt.rdText s (ckSt s k).2).2.2 || decide ((Bt.recRead (bstr (Bt.rdText s (ckSt s k).2).1)).2 ≠ 0)))) := rfl
      have htz := rdText_sizeK s (ckSt s k).2
      rw [HCR.out] at HNX
      clear HCR
      generalize Bt.rdText s (ckSt s k).2 = RT at HRN HNX htz
      obtain ⟨T, x1, bd⟩ := RT
      simp only at HRN HNX htz
      have HRR := Lib.hid (fun W => spec_recRead_any (bstr T) W htz)
      generalize Bt.recRead (bstr T) = RR at HRR HNX
      obtain ⟨⟨rk, rs, rq, rt, ro, rd⟩, rc⟩ := RR
      simp only at HNX
      clear hg3 hwf htz
      go_wp2_with fail
      with_reducible refine HRN.out.mono ?_
      rintro e w4 ⟨rfl, kr4, hb4⟩
      have HS4 : Hid (RkSt w w4 g hb (x1, bd) s k (ckSt s k).1 v) := HS.out.call kr4 hb4
      clear kr4 hb4 HRN HS hx2
      go_wp2_with fail
      with_reducible refine (HRR.out _).mono ?_
      rintro e w5 ⟨rfl, hb5⟩
      have hs5 := HS4.out.below hb5
      have b2 : w5.cell? ⟨g, 2, none⟩ = some (.bool bd) := hs5.rdr.cell rfl
      have fb2 : w5.frozen? ⟨g, 2, none⟩ = false := hs5.rdr.free
      have hv0 : w5.cell? ⟨hb, 0, none⟩ = some v := hs5.hst.cell rfl
      have fv0 : w5.frozen? ⟨hb, 0, none⟩ = false := hs5.hst.free
      have hglt := hs5.rdr.lt
      have hHlt := hs5.hst.lt
      have hghb := hs5.gh
      have hne : hb ≠ g := by omega
      have hne2 : g ≠ hb := by omega
      have HS5 := Lib.hid hs5
      clear hb5 HS4 HRR hs5
      cases bd with
      | true =>
        have HB7 : Hid (RkSt w ((w5.setCell ⟨g, 2, none⟩ (.bool true)).alloc (.cells #[.int .i64 rk, .int .i64 rs, .int .i64 rq, .int .i64 rt, .int .i64 ro, .string rd, .int .i64 rc] 53)) g hb (x1, true) s k (ckSt s k).1 v) := (HS5.out.bad true).below ((Below.refl _ _).alloc (Nat.le_refl _) _)
        have hz7 : hb + 1 ≤ ((w5.setCell ⟨g, 2, none⟩ (.bool true)).alloc (.cells #[.int .i64 rk, .int .i64 rs, .int .i64 rq, .int .i64 rt, .int .i64 ro, .string rd, .int .i64 rc] 53)).heap.size := by simp [World.setCell]; omega
        have HNX2 : Hid (ckSt s (k + 1) = ((ckSt s k).1 ++ [⟨rk, rs, rq, rt, ro, rd⟩], (x1, true))) := by show _ = _; rw [HNX.out]; rfl
        clear HNX HS5
        go_wp2_with (at_builtin; refine wpList_append_rec (w0 := (w5.setCell ⟨g, 2, none⟩ (.bool true)).alloc (.cells #[.int .i64 rk, .int .i64 rs, .int .i64 rq, .int .i64 rt, .int .i64 ro, .string rd, .int .i64 rc] 53)) rfl _ _ 27 34 i0 _ 6 56 Tryz.underlying27 Hi.out Z0.out Z1.out Z2.out rfl (by omega) rfl HB7.out.own (Below.refl _ _) hz7 (by first | rfl | simp [World.setCell]) rfl rfl (recC ⟨rk, rs, rq, rt, ro, rd⟩) rfl rfl (recC_one _) (by omega) (by omega) ?_; intro v' w8 ho8 hb8; obtain ⟨A8, c8, rfl⟩ := own_slK ho8; have k8 := HB7.out.hst.below hb8 (by omega); have hv8 : w8.cell? ⟨hb, 0, none⟩ = some v := k8.cell rfl; have fv8 : w8.frozen? ⟨hb, 0, none⟩ = false := k8.free; have HB8 := Lib.hid hb8; have HO8 := Lib.hid ho8; clear hb8 ho8 k8)
        go_roundw
        case rel => exact ⟨k + 1, _, by omega, .inr (by omega), by go_num, by rw [HNX2.out]; exact Lib.hid (HB7.out.more HB8.out HO8.out)⟩
        case measure => simp [intOf]; omega
      | false =>
        have HB7 : Hid (RkSt w ((w5.setCell ⟨g, 2, none⟩ (.bool (rc != 0))).alloc (.cells #[.int .i64 rk, .int .i64 rs, .int .i64 rq, .int .i64 rt, .int .i64 ro, .string rd, .int .i64 rc] 53)) g hb (x1, (rc != 0)) s k (ckSt s k).1 v) := (HS5.out.bad (rc != 0)).below ((Below.refl _ _).alloc (Nat.le_refl _) _)
        have hz7 : hb + 1 ≤ ((w5.setCell ⟨g, 2, none⟩ (.bool (rc != 0))).alloc (.cells #[.int .i64 rk, .int .i64 rs, .int .i64 rq, .int .i64 rt, .int .i64 ro, .string rd, .int .i64 rc] 53)).heap.size := by simp [World.setCell]; omega
        have HNX2 : Hid (ckSt s (k + 1) = ((ckSt s k).1 ++ [⟨rk, rs, rq, rt, ro, rd⟩], (x1, (rc != 0)))) := by show _ = _; rw [HNX.out]; by_cases e : rc = 0 <;> simp [e]
        clear HNX HS5
        go_wp2_with (at_builtin; refine wpList_append_rec (w0 := (w5.setCell ⟨g, 2, none⟩ (.bool (rc != 0))).alloc (.cells #[.int .i64 rk, .int .i64 rs, .int .i64 rq, .int .i64 rt, .int .i64 ro, .string rd, .int .i64 rc] 53)) rfl _ _ 27 34 i0 _ 6 56 Tryz.underlying27 Hi.out Z0.out Z1.out Z2.out rfl (by omega) rfl HB7.out.own (Below.refl _ _) hz7 (by first | rfl | simp [World.setCell]) rfl rfl (recC ⟨rk, rs, rq, rt, ro, rd⟩) rfl rfl (recC_one _) (by omega) (by omega) ?_; intro v' w8 ho8 hb8; obtain ⟨A8, c8, rfl⟩ := own_slK ho8; have k8 := HB7.out.hst.below hb8 (by omega); have hv8 : w8.cell? ⟨hb, 0, none⟩ = some v := k8.cell rfl; have fv8 : w8.frozen? ⟨hb, 0, none⟩ = false := k8.free; have HB8 := Lib.hid hb8; have HO8 := Lib.hid ho8; clear hb8 ho8 k8)
        go_roundw
        case rel => exact ⟨k + 1, _, by omega, .inr (by omega), by go_num, by rw [HNX2.out]; exact Lib.hid (HB7.out.more HB8.out HO8.out)⟩
        case measure => simp [intOf]; omega
    · have hbox := HS.out.box
      obtain ⟨c0, c1, c2, f0, f1, f2⟩ := blk3k hbox
      have HBL := Lib.hid HS.out.bel
      have hwlt := HS.out.lt
      have hlw := hbox.lt
      have HNN : Hid (ckAcc s → 0 ≤ N ∧ N ≤ 48 ∧ (ckSt s N.toNat).2.2 = false) := fun h => by
        have := HNd.out
        obtain ⟨⟨-, a2, a3, a4, -⟩, -⟩ := h
        rw [this] at a2 a3 a4
        exact ⟨a2, a3, a4⟩
      cases hbad : (ckSt s k).2.2 with
      | true =>
        have hna : ¬ ckAcc s := by
          intro h
          obtain ⟨b1, b2, b3⟩ := HNN.out h
          rw [ckSt_bad (n := N.toNat) hbad (by omega)] at b3
          cases b3
        obtain ⟨e1, e2, e3⟩ := HNO.out hna
        have E1 := Lib.hid e1; have E2 := Lib.hid e2; have E3 := Lib.hid e3
        rw [hbad] at hx2
        clear hbox hbad hgo e1 e2 e3 hna hwf
        by_cases g1 : (k : Int) < N
        · by_cases g2 : k < 48
          · go_wp2
            exact bodyPost_ret (v := .agg #[.int .i64 0, .slice none 0 0, .int .i64 3]) (by simp [results, Tryz.results192, go_sem, c0, c1, c2]) rfl (HFIN.out 3 E1 E2 E3 _ (((HBL.out.setCell (Nat.le_refl _) _).setCell (Nat.le_refl _) _).setCell (Nat.le_refl _) _))
          · have g2' : 48 ≤ k := by omega
            go_wp2
            exact bodyPost_ret (v := .agg #[.int .i64 0, .slice none 0 0, .int .i64 3]) (by simp [results, Tryz.results192, go_sem, c0, c1, c2]) rfl (HFIN.out 3 E1 E2 E3 _ (((HBL.out.setCell (Nat.le_refl _) _).setCell (Nat.le_refl _) _).setCell (Nat.le_refl _) _))
        · have g1' : N ≤ (k : Int) := by omega
          go_wp2
          exact bodyPost_ret (v := .agg #[.int .i64 0, .slice none 0 0, .int .i64 3]) (by simp [results, Tryz.results192, go_sem, c0, c1, c2]) rfl (HFIN.out 3 E1 E2 E3 _ (((HBL.out.setCell (Nat.le_refl _) _).setCell (Nat.le_refl _) _).setCell (Nat.le_refl _) _))
      | false =>
        rw [hbad] at hx2
        have HBD := Lib.hid hbad
        have HOWN := Lib.hid HS.out.own
        have hv0 : wr.cell? ⟨hb, 0, none⟩ = some v := HS.out.hst.cell rfl
        have hLk := ckSt_len s k
        obtain ⟨A, ca, rfl⟩ := own_slK HOWN.out
        have hoo : OwRc wr (hb + 1) wr.heap.size A k (ckSt s k).1 := by
          have h := HOWN.out
          have h2 : wr.ownsRow (hb + 1) 34 6 (.slice A (ckSt s k).1.length ca) (ckSt s k).1.length (rcA (ckSt s k).1) := by rw [hLk]; exact h
          have h3 := ow_of_own h2
          rwa [hLk] at h3
        have HOO := Lib.hid hoo
        have HSM := Lib.hid (ckSt_small s k)
        have HKB := Lib.hid hbox
        have HAK : Hid (ckAcc s → (k : Int) = N) := fun h => by
          obtain ⟨b1, b2, -⟩ := HNN.out h
          rcases Classical.em ((k : Int) < N) with q | q
          · exact absurd ⟨q, by omega, hbad⟩ hgo
          · omega
        have hfin : ¬ ((k : Int) < N ∧ k < 48) := fun h => hgo ⟨h.1, h.2, hbad⟩
        have HBY := Lib.hid (spec_ckptBytes (ckNum s) A k ca (ckSt s k).1 wr ⟨by omega, fun r hr => by have := HSM.out r hr; omega⟩ (hoo.rd (Nat.le_refl _)))
        have HIK := Lib.hid (HIFF.out k hk)
        have HLN : Hid ((ckSt s k).1.length = k) := hLk
        obtain ⟨n1, n2⟩ := some_ofK (x := t) (by have := HTS.out; omega)
        generalize hL : (ckSt s k).1 = L at *
        have HLL := Lib.hid hL
        have hsz := HBL.out.size
        have hgh := HS.out.gh
        have HHB := Lib.hid HS.out.hst
        have hhl := HS.out.hst.lt
        by_cases heq : ckBytes (ckNum s) L = t.data.toList
        · obtain ⟨hacc, hkN2⟩ := HIK.out.2 ⟨HBD.out, heq⟩
          obtain ⟨e1, e2, e3⟩ := HOK.out hacc
          have E1 := Lib.hid e1; have E2 := Lib.hid e2
          have E3 : Hid (R = L) := by show _ = _; rw [e3, ← hkN2, Int.toNat_natCast, hL]
          have hq : ((bstr (ckBytes (ckNum s) L)).toList == t.toList) = true := str_eq (by rw [bstr_list]; exact heq)
          clear hbox hgo hbad hoo hL hacc e1 e2 e3 heq hwf c0 c1 c2 f0 f1 f2 HS HOWN
          generalize ckBytes (ckNum s) L = BY at HBY hq
          by_cases g1 : (k : Int) < N
          · exact absurd g1 (by omega)
          · have g1' : N ≤ (k : Int) := by omega
            go_wp2_with fail
            with_reducible refine HBY.out.mono ?_
            rintro e w6 ⟨rfl, hb6⟩
            have HB6 := Lib.hid (HBL.out.trans (hb6.mono hsz))
            have HO6 := Lib.hid (HOO.out.below hb6 (Nat.le_refl _))
            obtain ⟨c0, c1, c2, f0, f1, f2⟩ := blk3k (HKB.out.below hb6 hlw)
            have hsz6 := hb6.size
            have hv6 : w6.cell? ⟨hb, 0, none⟩ = some (.slice A k ca) := (HHB.out.below hb6 hhl).cell rfl
            clear hb6
            go_wp2
            refine bodyPost_ret (v := .agg #[.int .i64 (ckNum s), .slice A k ca, .int .i64 0]) (by simp [results, Tryz.results192, go_sem, c0, c1, c2]) rfl ?_
            rw [E1.out, E2.out, E3.out]
            refine ⟨A, ca, by rw [HLN.out], ?_, ((HB6.out.setCell (Nat.le_refl _) _).setCell (Nat.le_refl _) _).setCell (Nat.le_refl _) _⟩
            rw [HLN.out]
            exact (((HO6.out.otherK (by dsimp only; omega) _).otherK (by dsimp only; omega) _).otherK (by dsimp only; omega) _).mono (by omega) (by simp [World.setCell]; omega)
        · have hna : ¬ ckAcc s := fun h => heq (HIK.out.1 ⟨h, HAK.out h⟩).2
          obtain ⟨e1, e2, e3⟩ := HNO.out hna
          have E1 := Lib.hid e1; have E2 := Lib.hid e2; have E3 := Lib.hid e3
          have hq : ((bstr (ckBytes (ckNum s) L)).toList == t.toList) = false := str_ne (by rw [bstr_list]; exact heq)
          clear hbox hgo hbad hoo hL hna e1 e2 e3 heq hwf c0 c1 c2 f0 f1 f2 HS HOWN
          generalize ckBytes (ckNum s) L = BY at HBY hq
          by_cases g1 : (k : Int) < N
          · have g2 : 48 ≤ k := by omega
            go_wp2_with fail
            with_reducible refine HBY.out.mono ?_
            rintro e w6 ⟨rfl, hb6⟩
            have HB6 := Lib.hid (HBL.out.trans (hb6.mono hsz))
            obtain ⟨c0, c1, c2, f0, f1, f2⟩ := blk3k (HKB.out.below hb6 hlw)
            clear hb6
            go_wp2
            exact bodyPost_ret (v := .agg #[.int .i64 0, .slice none 0 0, .int .i64 3]) (by simp [results, Tryz.results192, go_sem, c0, c1, c2]) rfl (HFIN.out 3 E1 E2 E3 _ (((HB6.out.setCell (Nat.le_refl _) _).setCell (Nat.le_refl _) _).setCell (Nat.le_refl _) _))
          · have g1' : N ≤ (k : Int) := by omega
            go_wp2_with fail
            with_reducible refine HBY.out.mono ?_
            rintro e w6 ⟨rfl, hb6⟩
            have HB6 := Lib.hid (HBL.out.trans (hb6.mono hsz))
            obtain ⟨c0, c1, c2, f0, f1, f2⟩ := blk3k (HKB.out.below hb6 hlw)
            clear hb6
            go_wp2
            exact bodyPost_ret (v := .agg #[.int .i64 0, .slice none 0 0, .int .i64 3]) (by simp [results, Tryz.results192, go_sem, c0, c1, c2]) rfl (HFIN.out 3 E1 E2 E3 _ (((HB6.out.setCell (Nat.le_refl _) _).setCell (Nat.le_refl _) _).setCell (Nat.le_refl _) _))
end Go.Proofs.YtloaeglmngcenaaGreatDoor
