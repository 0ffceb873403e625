/-
  DeltaRead of the program.
-/
import Derived.Test.YtpgemeojhbeooaaDoorProg
import Derived.KernelRfl
import Derived.Test.YtpgemeojhbeooaaDoorDlReadI
namespace Go.Proofs.YtpgemeojhbeooaaDoor
open Go.RowKit
open Bt (Dop dok)

theorem opened_len (t : ByteArray) : (Bt.opened t).1.length ≤ 8000 := by
  by_cases h : (Bt.opened t).2 = 0
  · have := Bt.opened_sealed h; omega
  · unfold Bt.opened at h ⊢
    split
    · simp
    · split
      · simp
      · split
        · simp
        · simp; omega
theorem OwDo.otherR {w : World} {lo hi n : Nat} {A : Option Addr} {X : List Dop} (h : OwDo w lo hi A n X) {a : Addr} (ha : a.block < lo) (u : Value) : OwDo (w.setCell a u) lo hi A n X :=
  h.same fun k hk _ => Below.heap_setCell _ _ _ _ (by omega)

set_option maxHeartbeats 4000000 in
set_option maxRecDepth 100000 in
theorem impl_deltaRead (t : ByteArray) (w : World) (ht : t.size ≤ maxLen) (hg : ErrType w) :
    Calls Tryd.prog 10 #[.string t] w (RetDO w (Bt.dReadList t) (Bt.dReadCode t)) := by
  have hb0 : Below w.heap.size w (w.alloc (.cells #[.slice none 0 0, .int .i64 0] 27)) := (Below.refl _ _).alloc (Nat.le_refl _) _
  have k0 := isBlk_new w 27 [.slice none 0 0, .int .i64 0]
  change IsBlk (w.alloc (.cells #[.slice none 0 0, .int .i64 0] 27)) _ _ _ at k0
  have HUN := Lib.hid (impl_unseal_any t (w.alloc (.cells #[.slice none 0 0, .int .i64 0] 27)) ht)
  have HG := Lib.hid hg; clear hg
  generalize hC : Bt.dReadCode t = C
  generalize hR : Bt.dReadList t = R
  have hsea := fun h => Bt.dRead_seal (t := t) h
  have hno := fun h ha => Bt.dRead_no (t := t) h ha
  have hok := fun h ha => Bt.dRead_ok (t := t) h ha
  rw [hC, hR] at hsea hno hok
  clear hC hR
  have hol := opened_len t
  generalize Bt.opened t = O at HUN hsea hno hok hol
  obtain ⟨s, oc⟩ := O
  simp only at HUN hsea hno hok hol
  have HFIN : Hid (∀ c : Int, Hid (C = c) → Hid (R = []) → ∀ w', Below w.heap.size w w' → RetDO w R C (.returned (.agg #[.slice none 0 0, .int .i64 c])) w') := by
    intro c E1 E2 w' hb
    refine ⟨none, 0, by rw [E1.out, E2.out]; rfl, ?_, hb⟩
    rw [E2.out]; exact ow_nilD _ _ _ _
  go_enter Tryd.func10, Tryd.ntmps10
  go_wp2_with fail
  refine HUN.out.mono ?_
  rintro e w1 ⟨rfl, hb1⟩
  have HB1 : Hid (Below w.heap.size w w1) := hb0.trans (hb1.mono hb0.size)
  have HK1 := Lib.hid (k0.below hb1 k0.lt)
  clear hb1 k0 hb0 HUN
  by_cases h0 : oc = 0
  case neg =>
    obtain ⟨e1, e2⟩ := hsea h0
    have E1 := Lib.hid e1; have E2 := Lib.hid e2
    have hcc : (oc != 0) = true := by simpa using h0
    obtain ⟨c0, c1, f0, f1⟩ := blk2R HK1.out
    have hlt := HK1.out.lt
    clear e1 e2 h0 hsea hno hok
    go_wp2
    refine bodyPost_ret (v := .agg #[.slice none 0 0, .int .i64 oc]) (by simp [results, Tryd.results10, go_sem, c0, c1, hlt]) rfl (HFIN.out oc E1 E2 _ ?_)
    first | exact ((HB1.out.alloc HB1.out.size _).setCell (Nat.le_refl _) _).setCell (Nat.le_refl _) _ | exact ((HB1.out.setCell (Nat.le_refl _) _).setCell (Nat.le_refl _) _).alloc (by simpa [World.setCell] using HB1.out.size) _
  subst h0
  have HNO := Lib.hid (fun ha => hno rfl ha)
  have HOK := Lib.hid (fun ha => hok rfl ha)
  clear hsea hno hok
  have hb2 : Below w.heap.size w (w1.alloc (.cells #[strV s, .int .i64 0, .int .i64 0] 35)) := HB1.out.alloc HB1.out.size _
  have k2 := HK1.out.alloc (.cells #[strV s, .int .i64 0, .int .i64 0] 35)
  go_wp2_with fail
  change Calls _ _ _ (w1.alloc (.cells #[strV s, .int .i64 0, .int .i64 0] 35)) _
  generalize w1.alloc (.cells #[strV s, .int .i64 0, .int .i64 0] 35) = v1 at hb2 k2 ⊢
  have hg2 := HG.out.below hb2
  refine (readOps_any (bstr s) v1 (by rw [bstr_size]; unfold maxLen; omega) hg2).mono ?_
  rintro e w3 ⟨A, ca, n, L, b, rfl, ho3, hn40, hsm, hbt, hbf, hb3⟩
  have HB3 : Hid (Below w.heap.size w w3) := hb2.trans (hb3.mono hb2.size)
  have HK3 := Lib.hid (k2.below hb3 k2.lt)
  have hlv : w.heap.size < v1.heap.size := k2.lt
  have HO3 := Lib.hid ho3; have HSM := Lib.hid hsm; have HBT := Lib.hid hbt; have HBF := Lib.hid hbf
  have HLN : Hid (L.length = n) := ho3.1
  have hsz3 := hb3.size
  clear hb3 hb2 k2 hg2 ho3 hsm hbt hbf
  go_wp2_with fail
  refine (stepsOf_any A n ca L w3 (fun o ho => by have := HSM.out o ho; omega) (by omega) (HO3.out.rd (Nat.le_refl _))).mono ?_
  rintro e w4 ⟨v4, rfl, -, hb4⟩
  have HB4 : Hid (Below w.heap.size w w4) := HB3.out.trans (hb4.mono HB3.out.size)
  have HK4 := Lib.hid (HK3.out.below hb4 HK3.out.lt)
  have HO4 := Lib.hid (HO3.out.below hb4 (Nat.le_refl _))
  have hsz4 := hb4.size
  obtain ⟨c0, c1, f0, f1⟩ := blk2R HK4.out
  have hlt := HK4.out.lt
  clear hb4
  by_cases hacc : b = true ∧ Bt.okL L = true
  · obtain ⟨rfl, hokL⟩ := hacc
    obtain ⟨hwh, hL⟩ := HBT.out rfl
    obtain ⟨e1, e2⟩ := HOK.out ((drAcc_whole _).2 ⟨hwh, by rw [← hL]; exact hokL⟩)
    rw [← hL] at e2
    have E1 := Lib.hid e1; have E2 := Lib.hid e2
    rw [hokL]
    clear hwh hL e1 e2
    go_wp2
    refine bodyPost_ret (v := .agg #[.slice A n ca, .int .i64 0]) (by simp [results, Tryd.results10, go_sem, c0, c1]) rfl ⟨A, ca, by rw [E1.out, E2.out, HLN.out], ?_, (HB4.out.setCell (Nat.le_refl _) _).setCell (Nat.le_refl _) _⟩
    rw [E2.out, HLN.out]
    exact ((HO4.out.otherR hlv _).otherR hlv _).mono (by omega) (by simp [World.setCell]; omega)
  · have hna : ¬ Bt.drAcc (bstr s) := by
      intro h
      obtain ⟨h1, h2⟩ := (drAcc_whole _).1 h
      cases hbb : b with
      | false => exact HBF.out hbb h1
      | true =>
        have hL := (HBT.out hbb).2
        exact hacc ⟨hbb, by rw [hL]; exact h2⟩
    obtain ⟨e1, e2⟩ := HNO.out hna
    have E1 := Lib.hid e1; have E2 := Lib.hid e2
    clear e1 e2 hna
    cases b with
    | false =>
      clear hacc
      go_wp2
      exact bodyPost_ret (v := .agg #[.slice none 0 0, .int .i64 3]) (by simp [results, Tryd.results10, go_sem, c0, c1]) rfl (HFIN.out 3 E1 E2 _ ((HB4.out.setCell (Nat.le_refl _) _).setCell (Nat.le_refl _) _))
    | true =>
      have hokf : Bt.okL L = false := by
        cases h : Bt.okL L
        · rfl
        · exact absurd ⟨rfl, h⟩ hacc
      rw [hokf]
      clear hacc
      go_wp2
      exact bodyPost_ret (v := .agg #[.slice none 0 0, .int .i64 3]) (by simp [results, Tryd.results10, go_sem, c0, c1]) rfl (HFIN.out 3 E1 E2 _ ((HB4.out.setCell (Nat.le_refl _) _).setCell (Nat.le_refl _) _))
end Go.Proofs.YtpgemeojhbeooaaDoor
