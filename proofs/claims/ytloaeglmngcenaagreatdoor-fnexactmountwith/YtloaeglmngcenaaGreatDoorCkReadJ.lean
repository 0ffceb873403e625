/-
  CkptRead of the program.
-/
import Derived.Test.YtloaeglmngcenaaGreatDoorProg
import Derived.KernelRfl
import Derived.Test.YtloaeglmngcenaaGreatDoorCkReadI
import Derived.Test.YtloaeglmngcenaaGreatDoorCkMark
import Derived.Test.YtloaeglmngcenaaGreatDoorHsRight
import Derived.Test.YtloaeglmngcenaaGreatDoorCkRight
import Derived.Test.YtloaeglmngcenaaGreatDoorBtSeal
namespace Go.Proofs.YtloaeglmngcenaaGreatDoor
open Go.RowKit
open Bt (Rc)

theorem opened_lenK (t : ByteArray) : (Bt.opened t).1.length ≤ 8000 := by
  by_cases h : (Bt.opened t).2 = 0
  · have := ck_sealed h; omega
  · by_cases h1 : 8000 < t.size
    · rw [Bt.opened_long h1]; simp
    by_cases h2 : t.size < 4
    · rw [Bt.opened_short h2]; simp
    by_cases h3 : Bt.sum (t.data.toList.take (t.size - 4)) = t.data.toList.drop (t.size - 4)
    · rw [Bt.opened_ok h1 h2 h3] at h; exact absurd rfl h
    · rw [Bt.opened_bad h1 h2 h3]; simp
theorem ckList_len (t : ByteArray) : (ckList t).length ≤ 48 := by
  by_cases h : ckCode t = 0
  · exact hRight_len ((ck_facts t).1 h).2.2
  · rw [((ck_facts t).2 h).2]; simp
theorem OwRc.otherK {w : World} {lo hi n : Nat} {A : Option Addr} {X : List Rc} (h : OwRc w lo hi A n X) {a : Addr} (ha : a.block < lo) (u : Value) : OwRc (w.setCell a u) lo hi A n X :=
  h.same fun k hk _ => Below.heap_setCell _ _ _ _ (by omega)
/-- a checkpoint that was read, its records in memory of the call's own, and whether it is whole -/
def RetRC (s : ByteArray) (w : World) (e : Ending) (w' : World) : Prop :=
  ∃ (num : Int) (A : Option Addr) (ca : Nat) (L : List Rc) (b : Bool), e = .returned (.tuple #[.int .i64 num, .agg #[.slice A L.length ca], .bool b]) ∧ OwRc w' w.heap.size w'.heap.size A L.length L ∧ L.length ≤ ca ∧ L.length ≤ 48 ∧ (∀ r ∈ L, r.d.size ≤ 16) ∧
    (b = true → ckWhole s ∧ L = (ckSt s (ckN s).toNat).1 ∧ num = ckNum s) ∧ (b = false → ¬ ckWhole s) ∧ Below w.heap.size w w'

set_option maxHeartbeats 4000000 in
set_option maxRecDepth 100000 in
theorem readCkpt_any (s : ByteArray) (w : World) (hs : s.size ≤ maxLen) (hg : ErrType w) :
    Calls Tryz.prog 244 #[.string s] w (RetRC s w) := by
  have HG := Lib.hid hg
  have HNUM := Lib.hid (fun W h => impl_getNum_any s 0 W hs (by omega) h)
  have hat := (Bt.getNum_at s 0).2
  have hr0 : (Bt.getNum s 0).2.2 = 0 → (Bt.rdNum s (0, false)).2 = ((Bt.getNum s 0).2.1, false) ∧ ckNum s = (Bt.getNum s 0).1 := by
    intro h
    have e : Bt.rdNum s (0, false) = ((Bt.getNum s 0).1, ((Bt.getNum s 0).2.1, false)) := Bt.rdNum_ok (by simp [h])
    exact ⟨by rw [e], by rw [ckNum, e]⟩
  have hr1 : (Bt.getNum s 0).2.2 ≠ 0 → (ckSt s 0).2.2 = true := by
    intro h
    rw [ckSt, Bt.rdNum_bad (x := (0, false)) (.inr h), Bt.rdNum_bad (.inl rfl)]
  clear hg
  generalize Bt.getNum s 0 = G at HNUM hr0 hr1 hat
  obtain ⟨n, a, c⟩ := G
  simp only at hr0 hr1 hat
  go_enter Tryz.func244, Tryz.ntmps244
  go_wp2_with fail
  have hb0 : Below w.heap.size w (w.alloc (.cells #[.slice none 0 0] 29)) := (Below.refl _ _).alloc (Nat.le_refl _) _
  have k0 := isBlk_new w 29 [.slice none 0 0]
  change IsBlk (w.alloc (.cells #[.slice none 0 0] 29)) _ _ _ at k0
  generalize w.alloc (.cells #[.slice none 0 0] 29) = w0 at hb0 k0 ⊢
  refine (HNUM.out w0 (HG.out.below hb0)).mono ?_
  rintro e w1 ⟨rfl, hb1⟩
  have hb2 : Below w.heap.size w (w1.alloc (.cells #[.int .i64 n, .int .i64 a, .int .i64 c] 218)) := (hb0.trans (hb1.mono hb0.size)).alloc (Nat.le_trans hb0.size hb1.size) _
  have k2 := (k0.below hb1 k0.lt).alloc (.cells #[.int .i64 n, .int .i64 a, .int .i64 c] 218)
  have kn := isBlk_new w1 218 [.int .i64 n, .int .i64 a, .int .i64 c]
  change IsBlk (w1.alloc (.cells #[.int .i64 n, .int .i64 a, .int .i64 c] 218)) _ _ _ at kn
  have hl1 : w.heap.size < w1.heap.size := Nat.lt_of_lt_of_le k0.lt hb1.size
  have HB2 := Lib.hid hb2; have HK2 := Lib.hid k2; have HN2 := Lib.hid kn
  have HB1 := Lib.hid (hb0.trans (hb1.mono hb0.size)); have HK1 := Lib.hid (k0.below hb1 k0.lt)
  clear hb0 k0 hb1 hb2 k2 kn HNUM
  by_cases h0 : c = 0
  case neg =>
    have HNW : Hid (¬ ckWhole s) := fun h => by have := hr1 h0; rw [h.1] at this; cases this
    have hcc : (c != 0) = true := by simpa using h0
    have d0 : w1.cell? ⟨w.heap.size, 0, none⟩ = some (.slice none 0 0) := HK1.out.cell rfl
    have f0 : w1.frozen? ⟨w.heap.size, 0, none⟩ = false := HK1.out.free
    clear hr0 hr1 h0 hat
    go_wp2
    refine bodyPost_ret (v := .tuple #[.int .i64 0, .agg #[.slice none 0 0], .bool false]) (by simp [results, Tryz.results244, go_sem, d0, hl1]) rfl ⟨0, none, 0, [], false, rfl, ow_nilR _ _ _ _, by simp, by simp, by simp, by simp, fun _ => HNW.out, ?_⟩
    exact (HB1.out.setCell (Nat.le_refl _) _).alloc (by simpa [World.setCell] using HB1.out.size) _
  obtain ⟨e1, e2⟩ := hr0 h0
  subst h0
  have E1 := Lib.hid e1; have E2 := Lib.hid e2
  have ha : a ≤ 9223372036854775807 := by have := hat rfl; unfold maxLen at hs; omega
  clear hr0 hr1 e1 e2 hat
  go_wp2_with fail
  have hgb := HG.out.below HB2.out
  generalize w1.alloc (.cells #[.int .i64 n, .int .i64 a, .int .i64 0] 218) = v1 at HB2 HK2 HN2 hgb ⊢
  generalize w1.heap.size = nb at *
  refine (readList_any s a v1 hs ha E1.out hgb).mono ?_
  rintro e w3 ⟨A, ca, L, b, rfl, ho3, hca, h48, hsm, hbt, hbf, hb3⟩
  have HB3 := Lib.hid (HB2.out.trans (hb3.mono HB2.out.size))
  have HO3 := Lib.hid ho3; have HSM := Lib.hid hsm; have HBT := Lib.hid hbt; have HBF := Lib.hid hbf; have HCA := Lib.hid hca
  have k3 := HK2.out.below hb3 HK2.out.lt
  have kn3 := HN2.out.below hb3 HN2.out.lt
  have hv13 := hb3.size
  have hvw : w.heap.size < v1.heap.size := HK2.out.lt
  have hwv := HB2.out.size
  have d0 : w3.cell? ⟨w.heap.size, 0, none⟩ = some (.slice none 0 0) := k3.cell rfl
  have f0 : w3.frozen? ⟨w.heap.size, 0, none⟩ = false := k3.free
  have n0 : w3.cell? ⟨nb, 0, none⟩ = some (.int .i64 n) := kn3.cell rfl
  have hne : nb ≠ w.heap.size := by omega
  have hne2 : w.heap.size ≠ nb := by omega
  have hl3 := k3.lt; have hl3n := kn3.lt
  clear ho3 hsm hbt hbf hca hb3 k3 kn3 hgb
  go_wp2
  all_goals
    refine bodyPost_ret (v := .tuple #[.int .i64 n, .agg #[.slice A L.length ca], .bool b]) (by simp [results, Tryz.results244, go_sem, d0]) rfl ⟨n, A, ca, L, b, rfl, ?_, HCA.out, h48, HSM.out, fun h => ⟨(HBT.out h).1, (HBT.out h).2, E2.out.symm⟩, HBF.out, ?_⟩
    first | exact ((HO3.out.otherK (by dsimp only; omega) _).mono (by omega) (by simp [World.setCell])) | (refine ((HO3.out.otherK (a := ⟨w.heap.size, 0, none⟩) (by dsimp only; omega) (.slice A L.length ca)).same fun _ _ _ => rfl).mono (by omega) (by simp [World.setCell]))
    first | exact (HB3.out.setCell (Nat.le_refl _) _).drew | exact HB3.out.setCell (Nat.le_refl _) _

set_option maxHeartbeats 4000000 in
set_option maxRecDepth 100000 in
theorem impl_ckptReadC (t : ByteArray) (w : World) (ht : t.size ≤ maxLen) (hg : ErrType w) :
    Calls Tryz.prog 196 #[.string t] w (RetCkC w (ckRNum t) (ckList t) (ckCode t)) := by
  have hb0 : Below w.heap.size w (w.alloc (.cells #[.int .i64 0, .slice none 0 0, .int .i64 0] 175)) := (Below.refl _ _).alloc (Nat.le_refl _) _
  have k0 := isBlk_new w 175 [.int .i64 0, .slice none 0 0, .int .i64 0]
  change IsBlk (w.alloc (.cells #[.int .i64 0, .slice none 0 0, .int .i64 0] 175)) _ _ _ at k0
  have HUN := Lib.hid (impl_unseal_any t (w.alloc (.cells #[.int .i64 0, .slice none 0 0, .int .i64 0] 175)) ht)
  have HG := Lib.hid hg; clear hg
  generalize hC : ckCode t = C
  generalize hR : ckList t = R
  generalize hQ : ckRNum t = Q
  have hsea := fun h => ck_seal (t := t) h
  have hno := fun h ha => ck_no (t := t) h ha
  have hok := fun h ha => ck_ok (t := t) h ha
  rw [hC, hR, hQ] at hsea hno hok
  clear hC hR hQ
  have hol := opened_lenK t
  generalize Bt.opened t = O at HUN hsea hno hok hol
  obtain ⟨s, oc⟩ := O
  simp only at HUN hsea hno hok hol
  have HFIN : Hid (∀ c : Int, Hid (C = c) → Hid (Q = 0) → Hid (R = []) → ∀ w', Below w.heap.size w w' → RetCkC w Q R C (.returned (.agg #[.int .i64 0, .slice none 0 0, .int .i64 c])) w') := by
    intro c E1 E2 E3 w' hb
    rw [E1.out, E2.out]; exact ret_ckNoneC E3.out hb
  go_enter Tryz.func196, Tryz.ntmps196
  go_wp2_with fail
  refine HUN.out.mono ?_
  rintro e w1 ⟨rfl, hb1⟩
  have HB1 : Hid (Below w.heap.size w w1) := hb0.trans (hb1.mono hb0.size)
  have HK1 := Lib.hid (k0.below hb1 k0.lt)
  clear hb1 k0 hb0 HUN
  by_cases h0 : oc = 0
  case neg =>
    obtain ⟨e1, e2, e3⟩ := hsea h0
    have E1 := Lib.hid e1; have E2 := Lib.hid e2; have E3 := Lib.hid e3
    have hcc : (oc != 0) = true := by simpa using h0
    obtain ⟨c0, c1, c2, f0, f1, f2⟩ := blk3k HK1.out
    have hlt := HK1.out.lt
    clear e1 e2 e3 h0 hsea hno hok
    go_wp2
    refine bodyPost_ret (v := .agg #[.int .i64 0, .slice none 0 0, .int .i64 oc]) (by simp [results, Tryz.results196, go_sem, c0, c1, c2, hlt]) rfl (HFIN.out oc E1 E2 E3 _ ?_)
    exact (((HB1.out.setCell (Nat.le_refl _) _).setCell (Nat.le_refl _) _).setCell (Nat.le_refl _) _).alloc (by simpa [World.setCell] using HB1.out.size) _
  subst h0
  have HNO := Lib.hid (fun ha => hno rfl ha)
  have HOK := Lib.hid (fun ha => hok rfl ha)
  clear hsea hno hok
  have hb2 : Below w.heap.size w (w1.alloc (.cells #[strV s, .int .i64 0, .int .i64 0] 131)) := HB1.out.alloc HB1.out.size _
  have k2 := HK1.out.alloc (.cells #[strV s, .int .i64 0, .int .i64 0] 131)
  go_wp2_with fail
  change Calls _ _ _ (w1.alloc (.cells #[strV s, .int .i64 0, .int .i64 0] 131)) _
  generalize w1.alloc (.cells #[strV s, .int .i64 0, .int .i64 0] 131) = v1 at hb2 k2 ⊢
  have hg2 := HG.out.below hb2
  refine (readCkpt_any (bstr s) v1 (by rw [bstr_size]; unfold maxLen; omega) hg2).mono ?_
  rintro e w3 ⟨num, A, ca, L, b, rfl, ho3, hca, h48, hsm, hbt, hbf, hb3⟩
  have HB3 : Hid (Below w.heap.size w w3) := hb2.trans (hb3.mono hb2.size)
  have HK3 := Lib.hid (k2.below hb3 k2.lt)
  have hlv : w.heap.size < v1.heap.size := k2.lt
  have HCA := Lib.hid hca
  have HO3 := Lib.hid ho3; have HBT := Lib.hid hbt; have HBF := Lib.hid hbf
  have HS3 : Hid (SmallR L) := ⟨by omega, fun r hr => by have := hsm r hr; omega⟩
  have hsz3 := hb3.size
  clear hb3 hb2 k2 hg2 ho3 hsm hbt hbf
  cases b with
  | false =>
    have hna : ¬ ckAcc (bstr s) := fun h => HBF.out rfl h.1
    obtain ⟨e1, e2, e3⟩ := HNO.out hna
    have E1 := Lib.hid e1; have E2 := Lib.hid e2; have E3 := Lib.hid e3
    obtain ⟨c0, c1, c2, f0, f1, f2⟩ := blk3k HK3.out
    have hlt := HK3.out.lt
    clear e1 e2 e3 hna
    go_wp2
    refine bodyPost_ret (v := .agg #[.int .i64 0, .slice none 0 0, .int .i64 3]) (by simp [results, Tryz.results196, go_sem, c0, c1, c2, hlt]) rfl (HFIN.out 3 E1 E2 E3 _ ?_)
    exact (((HB3.out.setCell (Nat.le_refl _) _).setCell (Nat.le_refl _) _).setCell (Nat.le_refl _) _).alloc (by simpa [World.setCell] using HB3.out.size) _
  | true =>
    obtain ⟨hwh, hL, hq⟩ := HBT.out rfl
    have HWH := Lib.hid hwh; have HLL := Lib.hid hL; have HQ := Lib.hid hq
    clear hwh hL hq HBT HBF
    go_wp2_with fail
    have hb4 : Below w.heap.size w (w3.alloc (.cells #[.slice A L.length ca] 29)) := HB3.out.alloc HB3.out.size _
    have k4 := HK3.out.alloc (.cells #[.slice A L.length ca] 29)
    have kh := isBlk_new w3 29 [.slice A L.length ca]
    have ho4 := HO3.out.below ((Below.refl w3.heap.size w3).alloc (Nat.le_refl _) (.cells #[.slice A L.length ca] 29)) (Nat.le_refl _)
    change IsBlk (w3.alloc (.cells #[.slice A L.length ca] 29)) _ _ _ at kh
    change Calls _ _ _ (w3.alloc (.cells #[.slice A L.length ca] 29)) _
    have hz4 : (w3.alloc (.cells #[.slice A L.length ca] 29)).heap.size = w3.heap.size + 1 := by simp
    generalize w3.alloc (.cells #[.slice A L.length ca] 29) = w4 at hb4 k4 kh ho4 hz4 ⊢
    refine (ckptRight_any num A L.length ca L w4 HS3.out (ho4.rd (by omega))).mono ?_
    rintro e w5 ⟨rfl, hb5⟩
    have HB5 : Hid (Below w.heap.size w w5) := hb4.trans (hb5.mono hb4.size)
    have HK5 := Lib.hid (k4.below hb5 k4.lt)
    have HH5 := Lib.hid (kh.below hb5 kh.lt)
    have HO5 := Lib.hid (ho4.below hb5 (by omega))
    have hsz5 := hb5.size
    clear hb4 k4 kh ho4 hb5 HK3 HO3
    obtain ⟨c0, c1, c2, f0, f1, f2⟩ := blk3k HK5.out
    have h0 : w5.cell? ⟨w3.heap.size, 0, none⟩ = some (.slice A L.length ca) := HH5.out.cell rfl
    have hlt := HK5.out.lt
    have hlt2 := HH5.out.lt
    by_cases hacc : ckB num L = true
    · obtain ⟨e1, e2, e3⟩ := HOK.out ⟨HWH.out, by rw [← HLL.out, ← HQ.out]; exact hacc⟩
      rw [← HLL.out] at e3
      rw [← HQ.out] at e2
      have E1 := Lib.hid e1; have E2 := Lib.hid e2; have E3 := Lib.hid e3
      rw [hacc]
      clear e1 e2 e3 hacc
      go_wp2
      refine bodyPost_ret (v := .agg #[.int .i64 num, .slice A L.length ca, .int .i64 0]) (by simp [results, Tryz.results196, go_sem, c0, c1, c2]) rfl ?_
      rw [E1.out, E2.out, E3.out]
      refine ⟨A, ca - L.length, by rw [show L.length + (ca - L.length) = ca by have := HCA.out; omega], ?_, ((HB5.out.setCell (Nat.le_refl _) _).setCell (Nat.le_refl _) _).setCell (Nat.le_refl _) _⟩
      exact (((HO5.out.otherK (by dsimp only; omega) _).otherK (by dsimp only; omega) _).otherK (by dsimp only; omega) _).mono (by omega) (by simp [World.setCell]; omega)
    · have hna : ¬ ckAcc (bstr s) := fun h => hacc (by rw [HLL.out, HQ.out]; exact h.2)
      obtain ⟨e1, e2, e3⟩ := HNO.out hna
      have E1 := Lib.hid e1; have E2 := Lib.hid e2; have E3 := Lib.hid e3
      have hacc : ckB num L = false := by simpa using hacc
      rw [hacc]
      clear e1 e2 e3 hna hacc
      go_wp2
      refine bodyPost_ret (v := .agg #[.int .i64 0, .slice none 0 0, .int .i64 3]) (by simp [results, Tryz.results196, go_sem, c0, c1, c2]) rfl (HFIN.out 3 E1 E2 E3 _ ?_)
      exact ((HB5.out.setCell (Nat.le_refl _) _).setCell (Nat.le_refl _) _).setCell (Nat.le_refl _) _
theorem impl_ckptRead (t : ByteArray) (w : World) (ht : t.size ≤ maxLen) (hg : ErrType w) :
    Calls Tryz.prog 196 #[.string t] w (RetCk w (ckRNum t) (ckList t) (ckCode t)) :=
  (impl_ckptReadC t w ht hg).mono fun _ _ h => h.weak
end Go.Proofs.YtloaeglmngcenaaGreatDoor
