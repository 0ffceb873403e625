/-
  DeltaRead of the model.
-/
import Derived.Test.YtpgemeojhbeooaaDoorProg
import Derived.KernelRfl
import Derived.Test.YtpgemeojhbeooaaDoorDlReadJ
import Derived.Test.YtpgemeojhbeooaaDoorDlBytesS
import Derived.Test.YtpgemeojhbeooaaDoorRcRead2
namespace Go.Proofs.YtpgemeojhbeooaaDoor
open Go.RowKit
open Bt (Dop dok)

theorem rdText_wf {s : ByteArray} {x : Int × Bool} (h : x.1 ≤ 9223372036854775807) : (Bt.rdText s x).2.1 ≤ 9223372036854775807 := by
  by_cases hc : x.2 = true ∨ (Bt.getText s x.1).2.2 ≠ 0
  · rw [Bt.rdText_bad hc]; exact h
  · rw [Bt.rdText_ok hc]
    have hc : (Bt.getText s x.1).2.2 = 0 := by
      by_cases e : (Bt.getText s x.1).2.2 = 0
      · exact e
      · exact absurd (.inr e) hc
    obtain ⟨-, h8, m, -, hpm, ha, -⟩ := Bt.getText_canon hc
    simp only; omega
theorem drOp_wf {s : ByteArray} {x : Int × Bool} (h : x.1 ≤ 9223372036854775807) : (Bt.drOp s x).2.1 ≤ 9223372036854775807 := by
  unfold Bt.drOp
  split
  · exact rdText_wf (rdNum_wf h)
  · exact rdNum_wf (rdNum_wf h)
theorem drTo_wf (s : ByteArray) : ∀ k, (Bt.drTo s k).2.1 ≤ 9223372036854775807
  | 0 => rdNum_wf (by simp)
  | k + 1 => drOp_wf (drTo_wf s k)
theorem own_btwD {w w' : World} {lo n size g : Nat} {e : TypeId} {v : Value} {xs : List Value} (h : w.ownsRow lo e size v n xs) (hb : Btw g (g + 1) w w') (hg : g < lo) : w'.ownsRow lo e size v n xs := by
  refine ⟨h.1, ?_⟩
  rcases h.2 with h0 | ⟨g', cap, cur, hv, hl, hh, r⟩
  · exact .inl h0
  · exact .inr ⟨g', cap, cur, hv, hl, (hb.block g' (lt_of_block hh) (.inr (by omega))).trans hh, r⟩
theorem own_setOther {w : World} {lo n size : Nat} {e : TypeId} {v : Value} {xs : List Value} (h : w.ownsRow lo e size v n xs) {B : Nat} (hB : ∀ g, v.ownBlock = some g → g < B) {a : Addr} (ha : B ≤ a.block) (u : Value) : (w.setCell a u).ownsRow lo e size v n xs := by
  refine ⟨h.1, ?_⟩
  rcases h.2 with h0 | ⟨g', cap, cur, hv, hl, hh, r⟩
  · exact .inl h0
  · exact .inr ⟨g', cap, cur, hv, hl, (Below.heap_setCell _ _ _ _ (by have := hB g' (by rw [hv]; rfl); omega)).trans hh, r⟩
theorem own_blockD {w : World} {lo n size : Nat} {e : TypeId} {v : Value} {xs : List Value} (h : w.ownsRow lo e size v n xs) {g : Nat} (hg : v.ownBlock = some g) : g < w.heap.size := by
  rcases h.2 with ⟨rfl, -⟩ | ⟨g', cap, cur, rfl, hb, hh, -⟩
  · cases hg
  · have : g' = g := by simpa [Value.ownBlock] using hg
    subst this
    exact lt_of_block hh
/-- the model's loop: what stands while it reads -/
structure RdSt (w wr : World) (g : Nat) (s : ByteArray) (k : Nat) (v : Value) : Prop where
  box : IsBlk wr w.heap.size 27 [.slice none 0 0, .int .i64 0]
  rdr : IsBlk wr g 66 (rdC s (Bt.drTo s k).2)
  own : wr.ownsRow (g + 1) 41 3 v k (doA (Bt.drTo s k).1)
  bel : Below w.heap.size w wr
  lt : w.heap.size < g

set_option maxHeartbeats 8000000 in
set_option maxRecDepth 100000 in
theorem spec_deltaRead (t : ByteArray) (w : World) (ht : t.size ≤ maxLen) :
    Calls Tryd.prog 11 #[.string t] w (RetDO w (Bt.dReadList t) (Bt.dReadCode t)) := by
  have hb0 : Below w.heap.size w (w.alloc (.cells #[.slice none 0 0, .int .i64 0] 27)) := (Below.refl _ _).alloc (Nat.le_refl _) _
  have k0 := isBlk_new w 27 [.slice none 0 0, .int .i64 0]
  change IsBlk (w.alloc (.cells #[.slice none 0 0, .int .i64 0] 27)) _ _ _ at k0
  have HUN := Lib.hid (spec_unseal_any t (w.alloc (.cells #[.slice none 0 0, .int .i64 0] 27)) ht)
  generalize hC : Bt.dReadCode t = C
  generalize hR : Bt.dReadList t = R
  have hsea := fun h => Bt.dRead_seal (t := t) h
  have hno := fun h ha => Bt.dRead_no (t := t) h ha
  have hok := fun h ha => Bt.dRead_ok (t := t) h ha
  have hiff := fun (h : (Bt.opened t).2 = 0) (k : Nat) (hk : k ≤ 40) => Bt.drAcc_iff (t := t) h hk
  have hts := fun (h : (Bt.opened t).2 = 0) => (Bt.opened_sealed h).2.1
  rw [hC, hR] at hsea hno hok
  clear hC hR
  have hol := opened_len t
  generalize Bt.opened t = O at HUN hsea hno hok hol hiff hts
  obtain ⟨sl, oc⟩ := O
  simp only at HUN hsea hno hok hol hiff hts
  have HFIN : Hid (∀ c : Int, Hid (C = c) → Hid (R = []) → ∀ w', Below w.heap.size w w' → RetDO w R C (.returned (.agg #[.slice none 0 0, .int .i64 c])) w') := by
    intro c E1 E2 w' hb
    refine ⟨none, 0, by rw [E1.out, E2.out]; rfl, ?_, hb⟩
    rw [E2.out]; exact ow_nilD _ _ _ _
  obtain ⟨i0, hi, hz0, hz1, hz2⟩ := info_parts info_dop
  have Hi := Lib.hid hi; have Z0 := Lib.hid hz0; have Z1 := Lib.hid hz1; have Z2 := Lib.hid hz2
  clear hi hz0 hz1 hz2
  go_enter Tryd.func11, Tryd.ntmps11
  go_wp2_with fail
  refine HUN.out.mono ?_
  rintro e w1 ⟨rfl, hb1⟩
  have HB1 : Hid (Below w.heap.size w w1) := hb0.trans (hb1.mono hb0.size)
  have HK1 := Lib.hid (k0.below hb1 k0.lt)
  clear hb1 k0 hb0 HUN
  by_cases h0 : oc = 0
  case neg =>
    obtain ⟨e1, e2⟩ := hsea h0
    have E1 := Lib.hid e1; have E2 := Lib.hid e2
    have hcc : (oc != 0) = true := by simpa using h0
    obtain ⟨c0, c1, f0, f1⟩ := blk2R HK1.out
    have hlt := HK1.out.lt
    clear e1 e2 h0 hsea hno hok hiff hts
    go_wp2
    refine bodyPost_ret (v := .agg #[.slice none 0 0, .int .i64 oc]) (by simp [results, Tryd.results11, go_sem, c0, c1, hlt]) rfl (HFIN.out oc E1 E2 _ ?_)
    first | exact ((HB1.out.alloc HB1.out.size _).setCell (Nat.le_refl _) _).setCell (Nat.le_refl _) _ | exact ((HB1.out.setCell (Nat.le_refl _) _).setCell (Nat.le_refl _) _).alloc (by simpa [World.setCell] using HB1.out.size) _
  subst h0
  have HNO := Lib.hid (fun ha => hno rfl ha)
  have HOK := Lib.hid (fun ha => hok rfl ha)
  have HIFF := Lib.hid (fun k hk => hiff rfl k hk)
  have HTS : Hid (sl.length + 4 = t.size) := hts rfl
  clear hsea hno hok hiff hts
  obtain ⟨s, hs⟩ : ∃ s, s = bstr sl := ⟨_, rfl⟩
  have HSS : Hid (strV sl = .string s) := by show _ = _; rw [hs]
  have hssz : s.size ≤ maxLen := by rw [hs, bstr_size]; unfold maxLen; omega
  rw [← hs] at HNO HOK HIFF
  rw [show toutV sl 0 0 = Value.agg #[.string s, .int .i64 0, .int .i64 0] by rw [hs]]
  clear hs HSS
  go_wp2_with fail
  have kb : IsBlk (((w1.alloc (.cells #[.string s, .int .i64 0, .int .i64 0] 35)).alloc (.cells #[.string s, .int .i64 0, .bool false] 66)).alloc (.cells #[] 41)) w.heap.size 27 [.slice none 0 0, .int .i64 0] := ((HK1.out.alloc _).alloc _).alloc _
  have kr : IsBlk (((w1.alloc (.cells #[.string s, .int .i64 0, .int .i64 0] 35)).alloc (.cells #[.string s, .int .i64 0, .bool false] 66)).alloc (.cells #[] 41)) (w1.heap.size + 1) 66 (rdC s (0, false)) := by
    have h := (isBlk_new (w1.alloc (.cells #[.string s, .int .i64 0, .int .i64 0] 35)) 66 (rdC s (0, false))).alloc (.cells #[] 41)
    rw [size_alloc] at h; exact h
  have ko : (((w1.alloc (.cells #[.string s, .int .i64 0, .int .i64 0] 35)).alloc (.cells #[.string s, .int .i64 0, .bool false] 66)).alloc (.cells #[] 41)).ownsRow (w1.heap.size + 1 + 1) 41 3 (.slice (some ⟨w1.heap.size + 1 + 1, 0, none⟩) 0 0) 0 (doA []) :=
    ⟨by simp [doA], .inr ⟨w1.heap.size + 1 + 1, 0, #[], rfl, Nat.le_refl _, (by
      have h := isBlk_new ((w1.alloc (.cells #[.string s, .int .i64 0, .int .i64 0] 35)).alloc (.cells #[.string s, .int .i64 0, .bool false] 66)) 41 []
      rw [size_alloc, size_alloc] at h; exact h), Nat.le_refl _, by simp [maxLen], by simp, by simp [doA]⟩⟩
  have kl : Below w.heap.size w (((w1.alloc (.cells #[.string s, .int .i64 0, .int .i64 0] 35)).alloc (.cells #[.string s, .int .i64 0, .bool false] 66)).alloc (.cells #[] 41)) := by
    have h := HB1.out.size
    exact ((HB1.out.alloc h _).alloc (by simp; omega) _).alloc (by simp; omega) _
  have hgw : w.heap.size < w1.heap.size + 1 := by have := HB1.out.size; omega
  change Calls _ _ _ (((w1.alloc (.cells #[.string s, .int .i64 0, .int .i64 0] 35)).alloc (.cells #[.string s, .int .i64 0, .bool false] 66)).alloc (.cells #[] 41)) _
  generalize ((w1.alloc (.cells #[.string s, .int .i64 0, .int .i64 0] 35)).alloc (.cells #[.string s, .int .i64 0, .bool false] 66)).alloc (.cells #[] 41) = W at kb kr ko kl ⊢
  generalize w1.heap.size + 1 = g at kr ko hgw ⊢
  refine (reader_num_any g s (0, false) W hssz (by simp) kr).mono ?_
  rintro e w2 ⟨rfl, kr2, hb2⟩
  have HST : Hid (RdSt w w2 g s 0 (.slice (some ⟨g + 1, 0, none⟩) 0 0)) :=
    ⟨(hb2.block _ kb.lt (.inl hgw)).trans kb, kr2, own_btwD ko hb2 (by omega), kl.trans ((hb2.below (Nat.le_of_lt kr.lt)).mono (by omega)), hgw⟩
  have HND : Hid ((Bt.rdNum s (0, false)).1 = Bt.drN s) := rfl
  rw [HND.out]
  have hNr : -9223372036854775808 ≤ Bt.drN s ∧ Bt.drN s ≤ 9223372036854775807 := Bt.rdNum_range s _
  obtain ⟨hNr1, hNr2⟩ := hNr
  generalize hNd : Bt.drN s = N at *
  have HNd := Lib.hid hNd
  clear kb kr ko kl kr2 hb2 HND hNd HK1
  go_wp2_with fail
  go_loopw [5, 7] (fun v i wr => ∃ (k : Nat) (v' : Value), k ≤ 40 ∧ (k = 0 ∨ (k : Int) ≤ N) ∧ i = .int .i64 (k : Nat) ∧ v' = v ∧ Hid (RdSt w wr g s k v')) (fun _ i wr => 40 - (intOf i).toNat)
  case atStart => exact ⟨0, _, Nat.zero_le _, .inl rfl, rfl, rfl, HST⟩
  case round =>
    clear HST
    obtain ⟨k, v, hk, hkN, rfl, rfl, HS⟩ := hrel
    have hx2 : wr.cell? ⟨g, 2, none⟩ = some (.bool (Bt.drTo s k).2.2) := HS.out.rdr.cell rfl
    have hwf := drTo_wf s k
    have hlg := HS.out.rdr.lt
    by_cases hgo : (k : Int) < N ∧ k < 40 ∧ (Bt.drTo s k).2.2 = false
    · obtain ⟨hg1, hg2, hg3⟩ := hgo
      rw [hg3] at hx2
      have HNX : Hid (Bt.drTo s (k + 1) = ((Bt.drTo s k).1 ++ [(Bt.drOp s (Bt.drTo s k).2).1], (Bt.drOp s (Bt.drTo s k).2).2)) := rfl
      have HRN := Lib.hid (reader_num_any g s (Bt.drTo s k).2 wr hssz hwf HS.out.rdr)
      have hwf1 := rdNum_wf (s := s) hwf
      have HDI : Hid ((Bt.rdNum s (Bt.drTo s k).2).1 = 0 → Bt.drOp s (Bt.drTo s k).2 = (⟨0, 0, bstr (Bt.rdText s (Bt.rdNum s (Bt.drTo s k).2).2).1⟩, (Bt.rdText s (Bt.rdNum s (Bt.drTo s k).2).2).2)) := fun h => by unfold Bt.drOp; rw [if_pos h]
      have HDC : Hid ((Bt.rdNum s (Bt.drTo s k).2).1 ≠ 0 → Bt.drOp s (Bt.drTo s k).2 = (⟨(Bt.rdNum s (Bt.rdNum s (Bt.drTo s k).2).2).1, (Bt.rdNum s (Bt.drTo s k).2).1, ⟨#[]⟩⟩, (Bt.rdNum s (Bt.rdNum s (Bt.drTo s k).2).2).2)) := fun h => by unfold Bt.drOp; rw [if_neg h]
      generalize Bt.rdNum s (Bt.drTo s k).2 = RN at HRN hwf1 HDI HDC
      obtain ⟨c, x1⟩ := RN
      simp only at HRN hwf1 HDI HDC
      clear hg3 hwf
      go_wp2_with fail
      with_reducible refine HRN.out.mono ?_
      rintro e w3 ⟨rfl, kr3, hb3⟩
      have k3b : IsBlk w3 w.heap.size 27 [.slice none 0 0, .int .i64 0] := (hb3.block _ HS.out.box.lt (.inl HS.out.lt)).trans HS.out.box
      have k3o := own_btwD HS.out.own hb3 (by omega)
      have k3l : Below w.heap.size w w3 := HS.out.bel.trans ((hb3.below (Nat.le_of_lt hlg)).mono (by have := HS.out.lt; omega))
      have hg3' : g < w3.heap.size := kr3.lt
      have hwlt := HS.out.lt
      have kop := isBlk_new w3 41 [.int .i64 0, .int .i64 c, .string ⟨#[]⟩]
      have k3b' := k3b.alloc (.cells #[.int .i64 0, .int .i64 c, .string ⟨#[]⟩] 41)
      have kr3' := kr3.alloc (.cells #[.int .i64 0, .int .i64 c, .string ⟨#[]⟩] 41)
      have k3o' := k3o.alloc (.cells #[.int .i64 0, .int .i64 c, .string ⟨#[]⟩] 41)
      have k3l' := k3l.alloc k3l.size (.cells #[.int .i64 0, .int .i64 c, .string ⟨#[]⟩] 41)
      have hob := fun gg hgg => own_blockD k3o (g := gg) hgg
      change IsBlk (w3.alloc (.cells #[.int .i64 0, .int .i64 c, .string ⟨#[]⟩] 41)) _ _ _ at kop
      have HOB := Lib.hid hob
      clear hb3 kr3 k3b k3o k3l hob HRN hx2
      by_cases hc : c = 0
      · subst hc
        have HT := Lib.hid (fun W h => reader_text_any g s x1 W hssz hwf1 h)
        have HDD := Lib.hid (HDI.out rfl)
        generalize Bt.rdText s x1 = RT at HT HDD
        obtain ⟨tt, x2⟩ := RT
        simp only at HT HDD
        have KOP := Lib.hid kop; have KB := Lib.hid k3b'; have KR := Lib.hid kr3'; have KO := Lib.hid k3o'; have KL := Lib.hid k3l'
        clear kop k3b' kr3' k3o' k3l' HDI HDC
        go_wp2_with fail
        with_reducible refine (HT.out _ KR.out).mono ?_
        rintro e w4 ⟨rfl, kr4, hb4⟩
        have hnb : g < w3.heap.size := hg3'
        have KOP4 : IsBlk w4 w3.heap.size 41 [.int .i64 0, .int .i64 0, .string ⟨#[]⟩] := (hb4.block _ KOP.out.lt (.inr (by omega))).trans KOP.out
        have KB4 : IsBlk w4 w.heap.size 27 [.slice none 0 0, .int .i64 0] := (hb4.block _ KB.out.lt (.inl hwlt)).trans KB.out
        have KO4 := own_btwD KO.out hb4 (by omega)
        have KL4 : Below w.heap.size w w4 := KL.out.trans ((hb4.below (by simp; omega)).mono (by omega))
        have hs4 : w3.heap.size < w4.heap.size := KOP4.lt
        have KBS : Hid (IsBlk (w4.setCell ⟨w3.heap.size, 2, none⟩ (strV tt)) w.heap.size 27 [.slice none 0 0, .int .i64 0]) := KB4.other (by dsimp only; omega) _
        have KRS : Hid (IsBlk (w4.setCell ⟨w3.heap.size, 2, none⟩ (strV tt)) g 66 (rdC s x2)) := kr4.other (by dsimp only; omega) _
        have KOS : Hid ((w4.setCell ⟨w3.heap.size, 2, none⟩ (strV tt)).ownsRow (g + 1) 41 3 v k (doA (Bt.drTo s k).1)) := own_setOther KO4 HOB.out (Nat.le_refl _) _
        have KLS : Hid (Below w.heap.size w (w4.setCell ⟨w3.heap.size, 2, none⟩ (strV tt))) := KL4.setCell (by dsimp only; omega) _
        have hsS : g + 1 ≤ (w4.setCell ⟨w3.heap.size, 2, none⟩ (strV tt)).heap.size := by simp [World.setCell]; omega
        obtain ⟨d0, d1, d2, f0, f1, f2⟩ := blk3 KOP4
        clear hb4 kr4 KOP4 KB4 KO4 KL4 KOP KB KR KO KL HT
        generalize hnbd : w3.heap.size = nb at *
        go_wp2_with (at_builtin; refine wpList_append_kD (w0 := w4.setCell ⟨nb, 2, none⟩ (strV tt)) rfl _ _ 25 41 i0 _ 3 32 Tryd.underlying25 Hi.out Z0.out Z1.out Z2.out rfl (by omega) rfl KOS.out (Below.refl _ _) hsS (by first | rfl | simp [World.setCell]) rfl rfl (dopC ⟨0, 0, bstr tt⟩) rfl rfl (dopC_one _) (by omega) (by omega) ?_; intro v' w5 ho5 hb5; have HB5 := Lib.hid hb5; have HO5 := Lib.hid ho5; clear hb5 ho5)
        go_roundw
        case rel =>
          refine ⟨k + 1, v', by omega, .inr (by omega), by go_num, rfl, ⟨KBS.out.below HB5.out (by omega), ?_, ?_, KLS.out.trans (HB5.out.mono (by omega)), hwlt⟩⟩
          · rw [HNX.out, HDD.out]; exact KRS.out.below HB5.out (by omega)
          · rw [HNX.out, HDD.out, doA_snoc]; exact HO5.out
        case measure => simp [intOf]; omega
      · have HT := Lib.hid (fun W h => reader_num_any g s x1 W hssz hwf1 h)
        have HDD := Lib.hid (HDC.out hc)
        have hcc : (c == 0) = false := by simpa using hc
        generalize Bt.rdNum s x1 = RT at HT HDD
        obtain ⟨tt, x2⟩ := RT
        simp only at HT HDD
        have KOP := Lib.hid kop; have KB := Lib.hid k3b'; have KR := Lib.hid kr3'; have KO := Lib.hid k3o'; have KL := Lib.hid k3l'
        clear kop k3b' kr3' k3o' k3l' HDI HDC hc
        go_wp2_with fail
        with_reducible refine (HT.out _ KR.out).mono ?_
        rintro e w4 ⟨rfl, kr4, hb4⟩
        have hnb : g < w3.heap.size := hg3'
        have KOP4 : IsBlk w4 w3.heap.size 41 [.int .i64 0, .int .i64 c, .string ⟨#[]⟩] := (hb4.block _ KOP.out.lt (.inr (by omega))).trans KOP.out
        have KB4 : IsBlk w4 w.heap.size 27 [.slice none 0 0, .int .i64 0] := (hb4.block _ KB.out.lt (.inl hwlt)).trans KB.out
        have KO4 := own_btwD KO.out hb4 (by omega)
        have KL4 : Below w.heap.size w w4 := KL.out.trans ((hb4.below (by simp; omega)).mono (by omega))
        have hs4 : w3.heap.size < w4.heap.size := KOP4.lt
        have KBS : Hid (IsBlk (w4.setCell ⟨w3.heap.size, 0, none⟩ (.int .i64 tt)) w.heap.size 27 [.slice none 0 0, .int .i64 0]) := KB4.other (by dsimp only; omega) _
        have KRS : Hid (IsBlk (w4.setCell ⟨w3.heap.size, 0, none⟩ (.int .i64 tt)) g 66 (rdC s x2)) := kr4.other (by dsimp only; omega) _
        have KOS : Hid ((w4.setCell ⟨w3.heap.size, 0, none⟩ (.int .i64 tt)).ownsRow (g + 1) 41 3 v k (doA (Bt.drTo s k).1)) := own_setOther KO4 HOB.out (Nat.le_refl _) _
        have KLS : Hid (Below w.heap.size w (w4.setCell ⟨w3.heap.size, 0, none⟩ (.int .i64 tt))) := KL4.setCell (by dsimp only; omega) _
        have hsS : g + 1 ≤ (w4.setCell ⟨w3.heap.size, 0, none⟩ (.int .i64 tt)).heap.size := by simp [World.setCell]; omega
        obtain ⟨d0, d1, d2, f0, f1, f2⟩ := blk3 KOP4
        clear hb4 kr4 KOP4 KB4 KO4 KL4 KOP KB KR KO KL HT
        generalize hnbd : w3.heap.size = nb at *
        go_wp2_with (at_builtin; refine wpList_append_kD (w0 := w4.setCell ⟨nb, 0, none⟩ (.int .i64 tt)) rfl _ _ 25 41 i0 _ 3 32 Tryd.underlying25 Hi.out Z0.out Z1.out Z2.out rfl (by omega) rfl KOS.out (Below.refl _ _) hsS (by first | rfl | simp [World.setCell]) rfl rfl (dopC ⟨tt, c, ⟨#[]⟩⟩) rfl rfl (dopC_one _) (by omega) (by omega) ?_; intro v' w5 ho5 hb5; have HB5 := Lib.hid hb5; have HO5 := Lib.hid ho5; clear hb5 ho5)
        go_roundw
        case rel =>
          refine ⟨k + 1, v', by omega, .inr (by omega), by go_num, rfl, ⟨KBS.out.below HB5.out (by omega), ?_, ?_, KLS.out.trans (HB5.out.mono (by omega)), hwlt⟩⟩
          · rw [HNX.out, HDD.out]; exact KRS.out.below HB5.out (by omega)
          · rw [HNX.out, HDD.out, doA_snoc]; exact HO5.out
        case measure => simp [intOf]; omega
    · have hbox := HS.out.box
      obtain ⟨c0, c1, f0, f1⟩ := blk2R hbox
      have HBL := Lib.hid HS.out.bel
      have hwlt := HS.out.lt
      have hlw := hbox.lt
      have HNN : Hid (Bt.drAcc s → 0 ≤ N ∧ N ≤ 40 ∧ (Bt.drTo s N.toNat).2.2 = false) := fun h => by
        have := HNd.out
        obtain ⟨-, a2, a3, a4, -⟩ := h
        rw [this] at a2 a3 a4
        exact ⟨a2, a3, a4⟩
      cases hbad : (Bt.drTo s k).2.2 with
      | true =>
        have hna : ¬ Bt.drAcc s := by
          intro h
          obtain ⟨b1, b2, b3⟩ := HNN.out h
          rw [Bt.drTo_bad (n := N.toNat) hbad (by omega)] at b3
          cases b3
        obtain ⟨e1, e2⟩ := HNO.out hna
        have E1 := Lib.hid e1; have E2 := Lib.hid e2
        rw [hbad] at hx2
        clear hbox hbad hgo e1 e2 hna hwf
        by_cases g1 : (k : Int) < N
        · by_cases g2 : k < 40
          · go_wp2
            exact bodyPost_ret (v := .agg #[.slice none 0 0, .int .i64 3]) (by simp [results, Tryd.results11, go_sem, c0, c1]) rfl (HFIN.out 3 E1 E2 _ ((HBL.out.setCell (Nat.le_refl _) _).setCell (Nat.le_refl _) _))
          · have g2' : 40 ≤ k := by omega
            go_wp2
            exact bodyPost_ret (v := .agg #[.slice none 0 0, .int .i64 3]) (by simp [results, Tryd.results11, go_sem, c0, c1]) rfl (HFIN.out 3 E1 E2 _ ((HBL.out.setCell (Nat.le_refl _) _).setCell (Nat.le_refl _) _))
        · have g1' : N ≤ (k : Int) := by omega
          go_wp2
          exact bodyPost_ret (v := .agg #[.slice none 0 0, .int .i64 3]) (by simp [results, Tryd.results11, go_sem, c0, c1]) rfl (HFIN.out 3 E1 E2 _ ((HBL.out.setCell (Nat.le_refl _) _).setCell (Nat.le_refl _) _))
      | false =>
        rw [hbad] at hx2
        have HBD := Lib.hid hbad
        obtain ⟨A, ca, rfl, hoo⟩ := ow_of_ownD HS.out.own (Bt.drTo_len s k)
        have HOO := Lib.hid hoo
        have HSM := Lib.hid (Bt.drTo_small s k)
        have HKB := Lib.hid hbox
        have HAK : Hid (Bt.drAcc s → (k : Int) = N) := fun h => by
          obtain ⟨b1, b2, -⟩ := HNN.out h
          rcases Classical.em ((k : Int) < N) with q | q
          · exact absurd ⟨q, by omega, hbad⟩ hgo
          · omega
        have hfin : ¬ ((k : Int) < N ∧ k < 40) := fun h => hgo ⟨h.1, h.2, hbad⟩
        have HBY := Lib.hid (spec_deltaBytes A k ca (Bt.drTo s k).1 wr (fun o ho => by have := HSM.out o ho; omega) (fun o ho => (HSM.out o ho).2) (by omega) (hoo.rd (Nat.le_refl _)))
        have HIK := Lib.hid (HIFF.out k hk)
        have HLN : Hid ((Bt.drTo s k).1.length = k) := Bt.drTo_len s k
        obtain ⟨n1, n2⟩ := some_of (x := t) (by have := HTS.out; omega)
        generalize hL : (Bt.drTo s k).1 = L at *
        have HLL := Lib.hid hL
        have hsz := HBL.out.size
        by_cases heq : Bt.dBytes L = t.data.toList
        · obtain ⟨hacc, hkN2⟩ := HIK.out.2 ⟨HBD.out, heq⟩
          obtain ⟨e1, e2⟩ := HOK.out hacc
          have E1 := Lib.hid e1
          have E2 : Hid (R = L) := by show _ = _; rw [e2, ← hkN2, Int.toNat_natCast, hL]
          have hq : ((bstr (Bt.dBytes L)).toList == t.toList) = true := str_eq (by rw [bstr_list]; exact heq)
          clear hbox hgo hbad hoo hL hacc e1 e2 heq hwf c0 c1 f0 f1
          generalize Bt.dBytes L = BY at HBY hq
          by_cases g1 : (k : Int) < N
          · exact absurd g1 (by omega)
          · have g1' : N ≤ (k : Int) := by omega
            go_wp2_with fail
            with_reducible refine HBY.out.mono ?_
            rintro e w6 ⟨rfl, hb6⟩
            have HB6 := Lib.hid (HBL.out.trans (hb6.mono hsz))
            have HO6 := Lib.hid (HOO.out.below hb6 (Nat.le_refl _))
            obtain ⟨c0, c1, f0, f1⟩ := blk2R (HKB.out.below hb6 hlw)
            have hsz6 := hb6.size
            clear hb6
            go_wp2
            refine bodyPost_ret (v := .agg #[.slice A k ca, .int .i64 0]) (by simp [results, Tryd.results11, go_sem, c0, c1]) rfl ⟨A, ca, by rw [E1.out, E2.out, HLN.out], ?_, (HB6.out.setCell (Nat.le_refl _) _).setCell (Nat.le_refl _) _⟩
            rw [E2.out, HLN.out]
            exact ((HO6.out.otherR (by dsimp only; omega) _).otherR (by dsimp only; omega) _).mono (by omega) (by simp [World.setCell]; omega)
        · have hna : ¬ Bt.drAcc s := fun h => heq (HIK.out.1 ⟨h, HAK.out h⟩).2
          obtain ⟨e1, e2⟩ := HNO.out hna
          have E1 := Lib.hid e1; have E2 := Lib.hid e2
          have hq : ((bstr (Bt.dBytes L)).toList == t.toList) = false := str_ne (by rw [bstr_list]; exact heq)
          clear hbox hgo hbad hoo hL hna e1 e2 heq hwf c0 c1 f0 f1
          generalize Bt.dBytes L = BY at HBY hq
          by_cases g1 : (k : Int) < N
          · have g2 : 40 ≤ k := by omega
            go_wp2_with fail
            with_reducible refine HBY.out.mono ?_
            rintro e w6 ⟨rfl, hb6⟩
            have HB6 := Lib.hid (HBL.out.trans (hb6.mono hsz))
            obtain ⟨c0, c1, f0, f1⟩ := blk2R (HKB.out.below hb6 hlw)
            clear hb6
            go_wp2
            exact bodyPost_ret (v := .agg #[.slice none 0 0, .int .i64 3]) (by simp [results, Tryd.results11, go_sem, c0, c1]) rfl (HFIN.out 3 E1 E2 _ ((HB6.out.setCell (Nat.le_refl _) _).setCell (Nat.le_refl _) _))
          · have g1' : N ≤ (k : Int) := by omega
            go_wp2_with fail
            with_reducible refine HBY.out.mono ?_
            rintro e w6 ⟨rfl, hb6⟩
            have HB6 := Lib.hid (HBL.out.trans (hb6.mono hsz))
            obtain ⟨c0, c1, f0, f1⟩ := blk2R (HKB.out.below hb6 hlw)
            clear hb6
            go_wp2
            exact bodyPost_ret (v := .agg #[.slice none 0 0, .int .i64 3]) (by simp [results, Tryd.results11, go_sem, c0, c1]) rfl (HFIN.out 3 E1 E2 _ ((HB6.out.setCell (Nat.le_refl _) _).setCell (Nat.le_refl _) _))
end Go.Proofs.YtpgemeojhbeooaaDoor
