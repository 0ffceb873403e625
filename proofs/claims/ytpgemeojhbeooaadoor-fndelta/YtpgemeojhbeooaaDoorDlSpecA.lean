/-
  DeltaApply of the model.
-/
import Derived.Test.YtpgemeojhbeooaaDoorProg
import Derived.KernelRfl
import Derived.Test.YtpgemeojhbeooaaDoorDlSpec
import Derived.IntWalk
namespace Go.Proofs.YtpgemeojhbeooaaDoor
open Go.RowKit
open Bt (Dop dok inB)

theorem right_parts {base : ByteArray} {X : List Dop} (h : Bt.dRight base X = true) : base.size ≤ 200 ∧ Bt.okL X = true ∧ (∀ o ∈ X, inB base.size o = true) ∧ Bt.szL base X ≤ 200 := by
  unfold Bt.dRight at h
  simp only [Bool.and_eq_true, decide_eq_true_eq, List.all_eq_true] at h
  exact ⟨h.1, h.2.1, h.2.2.1, h.2.2.2⟩
theorem szL_split (base : ByteArray) (X : List Dop) (k : Nat) : Bt.szL base (X.take k) ≤ Bt.szL base X := by
  have : Bt.szL base X = Bt.szL base (X.take k) + Bt.szL base (X.drop k) := by
    unfold Bt.szL; rw [← List.sum_append, ← List.map_append, List.take_append_drop]
  omega

set_option maxHeartbeats 4000000 in
set_option maxRecDepth 100000 in
theorem spec_deltaApply (base : ByteArray) (A : Option Addr) (n ca : Nat) (X : List Dop) (w : World) (hbs : base.size ≤ 9223372036854775807) (hX : ∀ o ∈ X, o.x.size ≤ 9223372036854775807) (hn : n ≤ 9223372036854775807) (hA : RdDo w w.heap.size A n X) :
    Calls Tryd.prog 14 #[.string base, .slice A n ca] w fun e w' => e = .returned (toutV (apList base X) 0 (apCode base X)) ∧ Below w.heap.size w w' := by
  have HL : Hid (X.length = n) := hA.1
  have HA := Lib.hid hA
  have hb0 : Below w.heap.size w (w.alloc (.cells #[.string ⟨#[]⟩, .int .i64 0, .int .i64 0] 35)) := (Below.refl _ _).alloc (Nat.le_refl _) _
  have H := Lib.hid (spec_deltaRight base A n ca X _ hbs hX hn (hA.next hb0))
  clear hX hA
  generalize hC : apCode base X = C
  generalize hR : apList base X = R
  have HC := Lib.hid hC; have HR := Lib.hid hR; clear hC hR
  by_cases h1 : 8000 < base.size
  · obtain ⟨e1, e2⟩ := ap_size (base := base) (X := X) (.inl h1)
    have E1 := Lib.hid (HC.out.symm.trans e1); have E2 := Lib.hid (HR.out.symm.trans e2)
    clear e1 e2
    go_enter Tryd.func14, Tryd.ntmps14
    go_wp2
    exact bodyPost_ret (v := toutV [] 0 2) (by simp [results, Tryd.results14, go_sem]; rfl) rfl ⟨by rw [E1.out, E2.out], (Below.refl _ _).alloc (Nat.le_refl _) _⟩
  by_cases h2 : 400 < n
  · obtain ⟨e1, e2⟩ := ap_size (base := base) (X := X) (.inr (by have := HL.out; omega))
    have E1 := Lib.hid (HC.out.symm.trans e1); have E2 := Lib.hid (HR.out.symm.trans e2)
    clear e1 e2
    go_enter Tryd.func14, Tryd.ntmps14
    go_wp2
    exact bodyPost_ret (v := toutV [] 0 2) (by simp [results, Tryd.results14, go_sem]; rfl) rfl ⟨by rw [E1.out, E2.out], (Below.refl _ _).alloc (Nat.le_refl _) _⟩
  have h12 : ¬ (8000 < base.size ∨ 400 < X.length) := by have := HL.out; omega
  go_enter Tryd.func14, Tryd.ntmps14
  go_wp2_with fail
  refine H.out.mono ?_
  rintro e w1 ⟨rfl, hb1⟩
  have k1 := (isBlk_new w 35 [Value.string ⟨#[]⟩, .int .i64 0, .int .i64 0]).below hb1 (by simp)
  have HB1 : Hid (Below w.heap.size w w1) := hb0.trans (hb1.mono hb0.size)
  have HK1 := Lib.hid k1
  obtain ⟨c0, c1, c2, f0, f1, f2⟩ := blk3 k1
  clear hb1 k1 hb0 H
  by_cases hd : Bt.dRight base X = true
  case neg =>
    have hd' : Bt.dRight base X = false := by simpa using hd
    obtain ⟨e1, e2⟩ := ap_no h12 hd'
    have E1 := Lib.hid (HC.out.symm.trans e1); have E2 := Lib.hid (HR.out.symm.trans e2)
    clear e1 e2 hd
    go_wp2
    exact bodyPost_ret (v := toutV [] 0 1) (by simp [results, Tryd.results14, go_sem, c0, c1, c2]; rfl) rfl ⟨by rw [E1.out, E2.out], ((HB1.out.setCell (Nat.le_refl _) _).setCell (Nat.le_refl _) _).setCell (Nat.le_refl _) _⟩
  obtain ⟨e1, e2⟩ := ap_ok h12 hd
  have E1 := Lib.hid (HC.out.symm.trans e1); have E2 := Lib.hid (HR.out.symm.trans e2)
  obtain ⟨hb200, hok, hin, hs200⟩ := right_parts hd
  have HOK := Lib.hid hok; have HIN := Lib.hid hin
  rw [hd]
  clear e1 e2 hd hok hin c0 c1 c2 f0 f1 f2 h12
  go_wp2
  go_loopw [5, 6] (fun z i wr => ∃ (k : Nat), k ≤ n ∧ i = .int .i64 (k : Nat) ∧ z = strV (Bt.dFlat base (X.take k)) ∧ Below w1.heap.size w1 wr) (fun _ i wr => n - (intOf i).toNat)
  case atStart => exact ⟨0, by omega, rfl, rfl, Below.refl _ _⟩
  case round =>
    obtain ⟨k, hk, rfl, rfl, hbel⟩ := hrel
    have HW := Lib.hid hbel
    have hsz := hbel.size
    by_cases hlt : k < n
    · obtain ⟨g, off, rfl, hg, hc0, hc1, hc2⟩ := ((HA.out.below HB1.out).below (hbel.mono HB1.out.size)).at hlt
      have hdok := Bt.okL_at HOK.out (k := k) (by have := HL.out; omega)
      have hinb := HIN.out _ (getD_lt (z := Dop.zero) (show k < X.length by have := HL.out; omega))
      have HT := Lib.hid (Bt.take_getD (l := X) (k := k) (by have := HL.out; omega))
      have hFl : (Bt.dFlat base (X.take k)).length ≤ 200 := by rw [Bt.dFlat_len]; have := szL_split base X k; omega
      clear hbel
      generalize X.getD k Dop.zero = o at hc0 hc1 hc2 hdok hinb HT
      have HF : Hid (Bt.dFlat base (X.take (k + 1)) = Bt.dFlat base (X.take k) ++ (o.x.data.toList ++ (base.extract o.f.toNat (o.f + o.c).toNat).data.toList)) := by show _ = _; rw [HT.out, Bt.dFlat_snoc, Bt.part_bytes hdok]
      generalize Bt.dFlat base (X.take k) = F at hFl HF ⊢
      have hxs : o.x.size ≤ 200 := by rcases Bt.ok_cases hdok with h | h <;> omega
      have hcf : 0 ≤ o.f ∧ 0 ≤ o.c ∧ o.f + o.c ≤ (base.size : Int) ∧ o.c ≤ 200 := by
        have := of_decide_eq_true hinb
        rcases Bt.ok_cases hdok with h | h <;> omega
      obtain ⟨hf1, hf2, hf3, hf4⟩ := hcf
      clear hdok hinb
      have q1 := fun W => add_str (P := Tryd.prog) W (bstr F) o.x (by rw [bstr_size]; omega)
      have hel : (base.extract o.f.toNat (o.f + o.c).toNat).size ≤ 200 := by rw [ByteArray.size_extract]; omega
      have q2 := fun W => add_str (P := Tryd.prog) W (bstr (F ++ o.x.data.toList)) (base.extract o.f.toNat (o.f + o.c).toNat) (by rw [bstr_size, List.length_append, len_list]; omega)
      simp only [bstr_list] at q1 q2
      have hw1 : IntKind.i64.wrap (o.f + o.c) = o.f + o.c := IntWalk.i64_in _ (by omega)
      have hlt5 : o.f ≤ o.f + o.c := by omega
      have hc0' := cell_regrown hc0; have hc1' := cell_regrown hc1; have hc2' := cell_regrown hc2
      clear hel
      go_wp2
      refine wp_region_quiet_below (by kernel_rfl) (by kernel_rfl) ?_
      repeat (go_big_quiet_step (fail))
      refine wpQuiet_nil ?_
      intro w3 hw'
      have hb3 : Below wr.heap.size wr w3 := by obtain ⟨⟨dq, osq⟩, rfl⟩ := hw'; exact below_regrown wr dq osq
      clear hw' hw1
      have HB3 := Lib.hid (HW.out.trans (hb3.mono HW.out.size))
      clear hb3
      go_wp2
      go_roundw
      case rel => exact ⟨k + 1, by omega, by go_num, by rw [HF.out]; simp, HB3.out⟩
      case measure => simp [intOf]; omega
    · obtain rfl : k = n := by omega
      have e : X.take k = X := by rw [← HL.out]; exact List.take_length
      rw [e]
      obtain ⟨d0, d1, d2, g0, g1, g2⟩ := blk3 (HK1.out.below hbel HK1.out.lt)
      clear hbel e
      have HWW := Lib.hid (HB1.out.trans (HW.out.mono HB1.out.size))
      go_wp2
      exact bodyPost_ret (v := toutV (Bt.dFlat base X) 0 0) (by simp [results, Tryd.results14, go_sem, d0, d1, d2]) rfl ⟨by rw [E1.out, E2.out], ((HWW.out.setCell (Nat.le_refl _) _).setCell (Nat.le_refl _) _).setCell (Nat.le_refl _) _⟩
end Go.Proofs.YtpgemeojhbeooaaDoor
