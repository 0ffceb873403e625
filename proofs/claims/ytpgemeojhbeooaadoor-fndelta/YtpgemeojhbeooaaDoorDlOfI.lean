/-
  DeltaOf of the program.
-/
import Derived.Test.YtpgemeojhbeooaaDoorProg
import Derived.KernelRfl
import Derived.Test.YtpgemeojhbeooaaDoorDlOf
import Derived.OwnWalk
namespace Go.Proofs.YtpgemeojhbeooaaDoor
open Go.RowKit
open Bt (Dop dok)

theorem blk2D {w : World} {g : Nat} {e : TypeId} {a b : Value} (h : IsBlk w g e [a, b]) : w.cell? ⟨g, 0, none⟩ = some a ∧ w.cell? ⟨g, 1, none⟩ = some b ∧ w.frozen? ⟨g, 0, none⟩ = false ∧ w.frozen? ⟨g, 1, none⟩ = false :=
  ⟨h.cell rfl, h.cell rfl, h.free, h.free⟩
theorem OwDo.otherD {w : World} {lo hi n : Nat} {A : Option Addr} {X : List Dop} (h : OwDo w lo hi A n X) {a : Addr} (ha : a.block < lo) (u : Value) : OwDo (w.setCell a u) lo hi A n X :=
  h.same fun k hk _ => Below.heap_setCell _ _ _ _ (by omega)

set_option maxHeartbeats 4000000 in
set_option maxRecDepth 100000 in
theorem impl_deltaOf (base text : ByteArray) (w : World) (hb9 : base.size ≤ 9223372036854775807) (ht9 : text.size ≤ 9223372036854775807) :
    Calls Tryd.prog 6 #[.string base, .string text] w (RetDO w (Bt.dOfList base text) (Bt.dOfCode base text)) := by
  generalize hC : Bt.dOfCode base text = C
  generalize hR : Bt.dOfList base text = R
  have HC := Lib.hid hC; have HR := Lib.hid hR; clear hC hR
  have hfin : ∀ c : Int, Hid (C = c) → Hid (R = []) → ∀ w', Below w.heap.size w w' → RetDO w R C (.returned (.agg #[.slice none 0 0, .int .i64 c])) w' := by
    intro c E1 E2 w' hb
    refine ⟨none, 0, by rw [E1.out, E2.out]; rfl, ?_, hb⟩
    rw [E2.out]; exact ow_nilD _ _ _ _
  have HFIN := Lib.hid hfin; clear hfin
  by_cases h1 : 8000 < base.size ∨ 8000 < text.size
  · obtain ⟨e1, e2⟩ := Bt.dOf_size h1
    have E1 := Lib.hid (HC.out.symm.trans e1); have E2 := Lib.hid (HR.out.symm.trans e2)
    clear e1 e2
    by_cases h1a : 8000 < base.size
    · clear h1
      go_enter Tryd.func6, Tryd.ntmps6
      go_wp2
      exact bodyPost_ret (v := .agg #[.slice none 0 0, .int .i64 2]) (by simp [results, Tryd.results6, go_sem]) rfl (HFIN.out 2 E1 E2 _ ((Below.refl _ _).alloc (Nat.le_refl _) _))
    · have h1b : 8000 < text.size := by omega
      clear h1
      go_enter Tryd.func6, Tryd.ntmps6
      go_wp2
      exact bodyPost_ret (v := .agg #[.slice none 0 0, .int .i64 2]) (by simp [results, Tryd.results6, go_sem]) rfl (HFIN.out 2 E1 E2 _ ((Below.refl _ _).alloc (Nat.le_refl _) _))
  by_cases h2 : 200 < base.size ∨ 200 < text.size
  · obtain ⟨e1, e2⟩ := Bt.dOf_form h1 h2
    have E1 := Lib.hid (HC.out.symm.trans e1); have E2 := Lib.hid (HR.out.symm.trans e2)
    have h1a : base.size ≤ 8000 := by omega
    have h1b : text.size ≤ 8000 := by omega
    clear e1 e2 h1
    by_cases h2a : 200 < base.size
    · clear h2
      go_enter Tryd.func6, Tryd.ntmps6
      go_wp2
      exact bodyPost_ret (v := .agg #[.slice none 0 0, .int .i64 1]) (by simp [results, Tryd.results6, go_sem]) rfl (HFIN.out 1 E1 E2 _ ((Below.refl _ _).alloc (Nat.le_refl _) _))
    · have h2b : 200 < text.size := by omega
      clear h2
      go_enter Tryd.func6, Tryd.ntmps6
      go_wp2
      exact bodyPost_ret (v := .agg #[.slice none 0 0, .int .i64 1]) (by simp [results, Tryd.results6, go_sem]) rfl (HFIN.out 1 E1 E2 _ ((Below.refl _ _).alloc (Nat.le_refl _) _))
  have h2a : base.size ≤ 200 := by omega
  have h2b : text.size ≤ 200 := by omega
  have HF := fun h => Lib.hid (Bt.dOf_full h2 h)
  have HO := fun h => Lib.hid (Bt.dOf_ok h2 h)
  have hdk := Bt.dlOf_ok (base := base.data.toList) (text := text.data.toList) h2b
  clear h1 h2
  have hb0 : Below w.heap.size w (w.alloc (.cells #[.slice none 0 0, .int .i64 0] 27)) := (Below.refl _ _).alloc (Nat.le_refl _) _
  have k0 := isBlk_new w 27 [.slice none 0 0, .int .i64 0]
  change IsBlk (w.alloc (.cells #[.slice none 0 0, .int .i64 0] 27)) _ _ _ at k0
  obtain ⟨cap1, W1, hc1, hle1, hz1, hb1, hr1⟩ := bytes_made base (w.alloc (.cells #[.slice none 0 0, .int .i64 0] 27))
  obtain ⟨cap2, W2, hc2, hle2, hz2, hb2, hr2⟩ := bytes_made text W1
  have HB2 : Hid (Below w.heap.size w W2) := (hb0.trans (hb1.mono hb0.size)).trans (hb2.mono (by have := hb0.size; have := hb1.size; omega))
  have HK2 := Lib.hid ((k0.below hb1 k0.lt).below hb2 (Nat.lt_of_lt_of_le k0.lt hb1.size))
  rw [size_alloc] at hc1 hr1
  have HRUN := Lib.hid (stepsTo_any _ _ base.size text.size cap1 cap2 base.data.toList text.data.toList W2 (by omega) (by omega) hle1 hle2 ((hr1.below hb2).mono (by omega)) hr2)
  clear hb1 hb2 hr1 hr2 hz1 hz2 hle1 hle2 hb0 k0
  generalize hT : Bt.dlOf base.data.toList text.data.toList = T at HF HO hdk
  have HDK := Lib.hid hdk
  have HRUN2 : Hid (Calls Tryd.prog 26 #[.slice (some ⟨w.heap.size + 1, 0, none⟩) base.size cap1, .slice (some ⟨W1.heap.size, 0, none⟩) text.size cap2] W2 fun e w' => ∃ v, e = .returned v ∧ w'.ownsRow W2.heap.size 52 1 v T.length (T.map stepV) ∧ Below W2.heap.size W2 w') := by
    have h := HRUN.out
    unfold RetRun at h
    rw [hT] at h
    exact h
  clear HRUN hT hdk
  go_enter Tryd.func6, Tryd.ntmps6
  go_wp2_with fail
  with_reducible refine HRUN2.out.mono ?_
  rintro e w3 ⟨v3, rfl, ho3, hb3⟩
  have HB3 : Hid (Below w.heap.size w w3) := HB2.out.trans (hb3.mono HB2.out.size)
  have HK3 := Lib.hid (HK2.out.below hb3 (by have := HK2.out.lt; omega))
  obtain ⟨n, hn⟩ : ∃ n, n = T.length := ⟨_, rfl⟩
  rw [← hn] at ho3
  obtain ⟨Av, cv, rfl, hrv⟩ := own_slice Dop.zero ho3
  have HRV := Lib.hid hrv
  have HL : Hid (T.length = n) := hn.symm
  rw [← hn] at HF HO
  clear hc1 hc2 ho3 hb3 hrv hn HRUN2 HB2 HK2
  by_cases h40 : 40 < n
  · obtain ⟨e1, e2⟩ := (HF h40).out
    have E1 := Lib.hid (HC.out.symm.trans e1); have E2 := Lib.hid (HR.out.symm.trans e2)
    clear e1 e2 HF HO
    obtain ⟨c0, c1, f0, f1⟩ := blk2D HK3.out
    go_wp2
    exact bodyPost_ret (v := .agg #[.slice none 0 0, .int .i64 9]) (by simp [results, Tryd.results6, go_sem, c0, c1]) rfl (HFIN.out 9 E1 E2 _ ((HB3.out.setCell (Nat.le_refl _) _).setCell (Nat.le_refl _) _))
  obtain ⟨e1, e2⟩ := (HO h40).out
  have E1 := Lib.hid (HC.out.symm.trans e1); have E2 := Lib.hid (HR.out.symm.trans e2)
  have hn40 : n ≤ 40 := by omega
  clear e1 e2 HF HO h40
  obtain ⟨i0, hi, hz0, hz1, hz2⟩ := info_parts info_dop
  have Hi := Lib.hid hi; have Z0 := Lib.hid hz0; have Z1 := Lib.hid hz1; have Z2 := Lib.hid hz2
  clear hi hz0 hz1 hz2
  have hlt3 := HK3.out.lt
  go_wp2
  go_loopw [6, 38] (fun s i wr => ∃ (k : Nat) (v : Value), k ≤ n ∧ i = .int .i64 (k : Nat) ∧ v = s ∧ Hid (wr.ownsRow w3.heap.size 41 3 v k (doA (T.take k))) ∧ Hid (Below w3.heap.size w3 wr)) (fun _ i wr => n - (intOf i).toNat)
  case atStart => exact ⟨0, _, by omega, rfl, rfl, ⟨rfl, .inl ⟨rfl, rfl⟩⟩, Below.refl _ _⟩
  case round =>
    obtain ⟨k, v, hk, rfl, rfl, HOW, HW⟩ := hrel
    by_cases hlt : k < n
    · obtain ⟨g, rfl, hg1, hg, hc0⟩ := HRV.out k hlt
      replace hc0 := (HW.out.cell (p := ⟨g, k, none⟩) hg).trans hc0
      have hdok := HDK.out _ (getD_lt (z := Dop.zero) (show k < T.length by have := HL.out; omega))
      have HT := Lib.hid (Bt.take_getD (l := T) (k := k) (by have := HL.out; omega))
      generalize T.getD k Dop.zero = o at hc0 hdok HT
      have hcases := step_op o hdok
      clear hdok
      rcases hcases with ⟨y, hy, hcall⟩ | ⟨y, hy, hcall⟩
      all_goals
        rw [hy] at hc0
        have HCALL := Lib.hid hcall
        have hm1 := meth_op_ins y
        have hm2 := meth_op_cp y
        clear hy hcall
        go_wp2_with fail
        with_reducible refine (HCALL.out _).mono ?_
        rintro e w4 ⟨rfl, hb4⟩
        have HB4 : Hid (Below w3.heap.size w3 w4) := HW.out.trans (hb4.mono HW.out.size)
        have HOW4 := Lib.hid (own_belowD HOW.out hb4)
        have hsz4 := HB4.out.size
        clear hb4
        go_wp2_with (at_builtin; refine wpList_append_kD rfl _ _ 25 41 i0 _ 3 32 Tryd.underlying25 Hi.out Z0.out Z1.out Z2.out rfl (by omega) rfl HOW4.out HB4.out hsz4 rfl rfl rfl (dopC o) rfl rfl (dopC_one o) (by omega) (by omega) ?_; intro v' w5 ho5 hb5; have HB5 := Lib.hid hb5; have HO5 := Lib.hid ho5; clear hb5 ho5)
        go_roundw
        case rel => exact ⟨k + 1, _, by omega, by go_num, rfl, by rw [HT.out, doA_snoc]; exact HO5, HB5⟩
        case measure => simp [intOf]; omega
    · obtain rfl : k = n := by omega
      have e : T.take k = T := by rw [← HL.out]; exact List.take_length
      rw [e] at HOW
      obtain ⟨Ao, co, rfl, hoo⟩ := ow_of_ownD HOW.out HL.out
      have HOO := Lib.hid hoo
      obtain ⟨c0, c1, f0, f1⟩ := blk2D (HK3.out.below HW.out hlt3)
      have HWW := Lib.hid (HB3.out.trans (HW.out.mono HB3.out.size))
      have hszw := HW.out.size
      clear e hoo
      go_wp2
      refine bodyPost_ret (v := .agg #[.slice Ao k co, .int .i64 0]) (by simp [results, Tryd.results6, go_sem, c0, c1]) rfl ⟨Ao, co, by rw [E1.out, E2.out, HL.out], ?_, (HWW.out.setCell (Nat.le_refl _) _).setCell (Nat.le_refl _) _⟩
      rw [E2.out, HL.out]
      exact ((HOO.out.otherD hlt3 _).otherD hlt3 _).mono (by omega) (by simp [World.setCell])
end Go.Proofs.YtpgemeojhbeooaaDoor
