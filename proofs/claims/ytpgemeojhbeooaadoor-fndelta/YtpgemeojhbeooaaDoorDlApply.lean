/-
  DeltaRight and DeltaApply of the program.
-/
import Derived.Test.YtpgemeojhbeooaaDoorProg
import Derived.KernelRfl
import Derived.Test.YtpgemeojhbeooaaDoorDlPart
import Derived.Test.YtpgemeojhbeooaaDoorBtSeal
import Derived.OwnWalk
namespace Go.Proofs.YtpgemeojhbeooaaDoor
open Go.RowKit
open Bt (Dop dok inB)

set_option maxHeartbeats 1000000 in
theorem impl_deltaRight (base : ByteArray) (A : Option Addr) (n ca : Nat) (X : List Dop) (w : World) (hbs : base.size ≤ 9223372036854775807) (hX : ∀ o ∈ X, o.x.size ≤ 9223372036854775807) (hn : n ≤ 9223372036854775807) (hA : RdDo w w.heap.size A n X) :
    Calls Tryd.prog 15 #[.string base, .slice A n ca] w fun e w' => e = .returned (.bool (Bt.dRight base X)) ∧ Below w.heap.size w w' := by
  have H := Lib.hid (partsOf_any base A n ca X w hbs hX hn hA)
  clear hX hA
  go_enter Tryd.func15, Tryd.ntmps15
  go_wp2_with fail
  refine H.out.mono ?_
  rintro e w1 ⟨v, rfl, -, hb⟩
  have HB := Lib.hid hb; clear hb
  go_wp2
  go_ret
  exact ⟨rfl, HB.out⟩

set_option maxHeartbeats 1000000 in
set_option maxRecDepth 100000 in
theorem assemble_zero (A : Option Addr) (cap : Nat) (w : World) :
    Calls Tryd.prog 39 #[.slice A 0 cap] w fun e w' => e = .returned (strV []) ∧ Below w.heap.size w w' := by
  have hz : madeCells (Value.int .u8 0).cells (0 * 1) = #[] := by simp [madeCells]
  have hmk : ∀ W : World, (Instr.makeSlice 22 (.int .i64 0) (.int .i64 0)).run Tryd.prog W = .ok (.slice (some ⟨W.heap.size, 0, none⟩) 0 0) (W.alloc (.cells #[] 5)) :=
    fun W => by
      have h := run_makeN (P := Tryd.prog) 22 5 _ _ _ Tryd.underlying22 info_byte 0 (by omega) (by omega) W
      rw [hz] at h; exact h
  have hconv : ∀ W : World, (convert 22 9 (.slice (some ⟨W.heap.size, 0, none⟩) 0 0)).run Tryd.prog (W.alloc (.cells #[] 5)) = .ok (strV []) (W.alloc (.cells #[] 5)) :=
    fun W => conv_blk (l := []) Tryd.underlying22 Tryd.underlying5 Tryd.underlying9 (isBlk_new W 5 []) ⟨[], rfl⟩ rfl
  clear hz
  go_enter Tryd.func39, Tryd.ntmps39
  go_wp2
  refine wp_loop_rounds 1 ?_
  rw [rounds_succ]
  go_wp2
  refine wp_loop_rounds 1 ?_
  rw [rounds_succ]
  go_wp2
  go_ret
  exact ⟨rfl, (Below.refl _ _).alloc (Nat.le_refl _) _⟩

/-- what DeltaApply answers -/
def apCode (base : ByteArray) (X : List Dop) : Int := if 8000 < base.size ∨ 400 < X.length then 2 else if Bt.dRight base X = true then 0 else 1
def apList (base : ByteArray) (X : List Dop) : List UInt8 := if apCode base X = 0 then Bt.dFlat base X else []
theorem ap_size {base : ByteArray} {X : List Dop} (h : 8000 < base.size ∨ 400 < X.length) : apCode base X = 2 ∧ apList base X = [] := by
  have e : apCode base X = 2 := by unfold apCode; rw [if_pos h]
  exact ⟨e, by unfold apList; rw [e, if_neg (by decide)]⟩
theorem ap_no {base : ByteArray} {X : List Dop} (h0 : ¬ (8000 < base.size ∨ 400 < X.length)) (h : Bt.dRight base X = false) : apCode base X = 1 ∧ apList base X = [] := by
  have e : apCode base X = 1 := by unfold apCode; rw [if_neg h0, h, if_neg (by decide)]
  exact ⟨e, by unfold apList; rw [e, if_neg (by decide)]⟩
theorem ap_ok {base : ByteArray} {X : List Dop} (h0 : ¬ (8000 < base.size ∨ 400 < X.length)) (h : Bt.dRight base X = true) : apCode base X = 0 ∧ apList base X = Bt.dFlat base X := by
  have e : apCode base X = 0 := by unfold apCode; rw [if_neg h0, if_pos h]
  exact ⟨e, by unfold apList; rw [e, if_pos rfl]⟩
theorem flat_parts (base : ByteArray) (X : List Dop) : flat (X.map (fun o => o.part base)) = Bt.dFlat base X := by
  unfold flat Bt.dFlat; rw [List.flatMap_map]
theorem right_len {base : ByteArray} {X : List Dop} (h : Bt.dRight base X = true) : (Bt.dFlat base X).length ≤ 200 ∧ X.length ≤ 40 := by
  rw [Bt.dFlat_len]
  unfold Bt.dRight at h
  simp only [Bool.and_eq_true, decide_eq_true_eq] at h
  exact ⟨h.2.2.2, Bt.okL_len h.2.1⟩

set_option maxHeartbeats 2000000 in
theorem impl_deltaApply (base : ByteArray) (A : Option Addr) (n ca : Nat) (X : List Dop) (w : World) (hbs : base.size ≤ 9223372036854775807) (hX : ∀ o ∈ X, o.x.size ≤ 9223372036854775807) (hn : n ≤ 9223372036854775807) (hA : RdDo w w.heap.size A n X) :
    Calls Tryd.prog 13 #[.string base, .slice A n ca] w fun e w' => e = .returned (toutV (apList base X) 0 (apCode base X)) ∧ Below w.heap.size w w' := by
  have HL : Hid (X.length = n) := hA.1
  have hb0 : Below w.heap.size w (w.alloc (.cells #[.string ⟨#[]⟩, .int .i64 0, .int .i64 0] 35)) := (Below.refl _ _).alloc (Nat.le_refl _) _
  have H := Lib.hid (partsOf_any base A n ca X _ hbs hX hn (hA.next hb0))
  clear hX hA
  generalize hC : apCode base X = C
  generalize hR : apList base X = R
  have HC := Lib.hid hC; have HR := Lib.hid hR; clear hC hR
  by_cases h1 : 8000 < base.size
  · obtain ⟨e1, e2⟩ := ap_size (base := base) (X := X) (.inl h1)
    have E1 := Lib.hid (HC.out.symm.trans e1); have E2 := Lib.hid (HR.out.symm.trans e2)
    clear e1 e2
    go_enter Tryd.func13, Tryd.ntmps13
    go_wp2
    exact bodyPost_ret (v := toutV [] 0 2) (by simp [results, Tryd.results13, go_sem]; rfl) rfl ⟨by rw [E1.out, E2.out], (Below.refl _ _).alloc (Nat.le_refl _) _⟩
  by_cases h2 : 400 < n
  · obtain ⟨e1, e2⟩ := ap_size (base := base) (X := X) (.inr (by have := HL.out; omega))
    have E1 := Lib.hid (HC.out.symm.trans e1); have E2 := Lib.hid (HR.out.symm.trans e2)
    clear e1 e2
    go_enter Tryd.func13, Tryd.ntmps13
    go_wp2
    exact bodyPost_ret (v := toutV [] 0 2) (by simp [results, Tryd.results13, go_sem]; rfl) rfl ⟨by rw [E1.out, E2.out], (Below.refl _ _).alloc (Nat.le_refl _) _⟩
  have h12 : ¬ (8000 < base.size ∨ 400 < X.length) := by have := HL.out; omega
  go_enter Tryd.func13, Tryd.ntmps13
  go_wp2_with fail
  refine H.out.mono ?_
  rintro e w1 ⟨v, rfl, ho1, hb1⟩
  have k1 := (isBlk_new w 35 [Value.string ⟨#[]⟩, .int .i64 0, .int .i64 0]).below hb1 (by simp)
  have HB1 : Hid (Below w.heap.size w w1) := hb0.trans (hb1.mono hb0.size)
  have HOW1 := Lib.hid ho1; have HK1 := Lib.hid k1
  obtain ⟨c0, c1, c2, f0, f1, f2⟩ := blk3 k1
  clear hb1 ho1 k1 hb0 H
  by_cases hd : Bt.dRight base X = true
  case neg =>
    have hd' : Bt.dRight base X = false := by simpa using hd
    obtain ⟨e1, e2⟩ := ap_no h12 hd'
    have E1 := Lib.hid (HC.out.symm.trans e1); have E2 := Lib.hid (HR.out.symm.trans e2)
    clear e1 e2 hd
    go_wp2
    exact bodyPost_ret (v := toutV [] 0 1) (by simp [results, Tryd.results13, go_sem, c0, c1, c2]; rfl) rfl ⟨by rw [E1.out, E2.out], ((HB1.out.setCell (Nat.le_refl _) _).setCell (Nat.le_refl _) _).setCell (Nat.le_refl _) _⟩
  obtain ⟨e1, e2⟩ := ap_ok h12 hd
  have E1 := Lib.hid (HC.out.symm.trans e1); have E2 := Lib.hid (HR.out.symm.trans e2)
  obtain ⟨hl1, hl2⟩ := right_len hd
  have HOW := Lib.hid (HOW1.out hd)
  rw [HL.out] at HOW
  clear e1 e2 HOW1
  obtain ⟨Av, cv, rfl, hrv⟩ := own_slice ⟨#[]⟩ HOW.out
  have HASM : Hid (Calls Tryd.prog 39 #[.slice Av n cv] w1 fun e w' => e = .returned (strV (Bt.dFlat base X)) ∧ Below w1.heap.size w1 w') := by
    by_cases h0 : n = 0
    · subst h0
      have : X = [] := List.eq_nil_of_length_eq_zero HL.out
      subst this
      exact assemble_zero Av cv w1
    · obtain ⟨g, rfl, -, hg, -⟩ := hrv 0 (by omega)
      have h := assemble_any (X.map (fun o => o.part base)) g 0 cv w1 (fun i hi => by
        obtain ⟨g', hg', -, -, hc⟩ := hrv i (by simpa [HL.out] using hi)
        cases hg'
        rw [Nat.zero_add]
        have e : (X.map (fun o => o.part base)).getD i ⟨#[]⟩ = (X.map (fun o => o.part base)).getD i ByteArray.empty := rfl
        rw [← e]; exact hc) hg (by rw [List.length_map, HL.out]; omega) (by rw [flat_parts]; omega)
      rw [flat_parts, List.length_map, HL.out] at h
      exact h
  clear hrv HOW
  rw [hd]
  go_wp2_with fail
  refine HASM.out.mono ?_
  rintro e w2 ⟨rfl, hb2⟩
  have HB2 : Hid (Below w.heap.size w w2) := HB1.out.trans (hb2.mono HB1.out.size)
  obtain ⟨d0, d1, d2, g0, g1, g2⟩ := blk3 (HK1.out.below hb2 HK1.out.lt)
  clear hb2 c0 c1 c2 f0 f1 f2
  go_wp2
  exact bodyPost_ret (v := toutV (Bt.dFlat base X) 0 0) (by simp [results, Tryd.results13, go_sem, d0, d1, d2]) rfl ⟨by rw [E1.out, E2.out], ((HB2.out.setCell (Nat.le_refl _) _).setCell (Nat.le_refl _) _).setCell (Nat.le_refl _) _⟩
end Go.Proofs.YtpgemeojhbeooaaDoor
