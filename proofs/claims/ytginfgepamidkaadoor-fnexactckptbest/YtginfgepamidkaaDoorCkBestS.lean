/-
  The better of two slots, of the model.
-/
import Derived.Test.YtginfgepamidkaaDoorProg
import Derived.KernelRfl
import Derived.Test.YtginfgepamidkaaDoorCkReadS
import Derived.Test.YtginfgepamidkaaDoorCkBest
import Derived.BigRegion
import Derived.Deep.DeepCutAuto
import Derived.Deep.CutBlock
namespace Go.Proofs.YtginfgepamidkaaDoor
open Go.RowKit
open Bt (Rc)

/-- the better of two right slots, as CkptBest answers it, and whether it is A's -/
def RetBestS (a b : ByteArray) (w : World) (e : Ending) (w' : World) : Prop :=
  ∃ (A : Option Addr) (c : Nat), e = .returned (.tuple #[ckV (cbNum a b) A (cbList a b).length c (cbCode a b), .bool (ckSel a b)]) ∧ OwRc w' w.heap.size w'.heap.size A (cbList a b).length (cbList a b) ∧ Below w.heap.size w w'

set_option maxHeartbeats 8000000 in
set_option maxRecDepth 100000 in
theorem l12Best_any (a b : ByteArray) (w : World) (ha : a.size ≤ maxLen) (hb : b.size ≤ maxLen) (hs : slotB a b = true) :
    Calls Tryd.prog 12 #[slotsV a b] w (RetBestS a b w) := by
  have HSL := Lib.hid hs; clear hs
  have HC1 := Lib.hid (fun W (_ : True) => spec_ckptRead a W ha)
  have HC2 := Lib.hid (fun W (_ : True) => spec_ckptRead b W hb)
  go_enter Tryd.func12, Tryd.ntmps12
  go_wp2_with fail
  have hb0 : Below w.heap.size w ((w.alloc (.cells #[.string a, .string b] 31)).alloc (.cells #[.int .i64 0, .slice none 0 0, .int .i64 0] 29)) := ((Below.refl _ _).alloc (Nat.le_refl _) _).alloc (by simp) _
  have ks := (isBlk_new w 31 [.string a, .string b]).alloc (.cells #[.int .i64 0, .slice none 0 0, .int .i64 0] 29)
  have ko := isBlk_new (w.alloc (.cells #[.string a, .string b] 31)) 29 [.int .i64 0, .slice none 0 0, .int .i64 0]
  rw [size_alloc] at ko
  change IsBlk ((w.alloc (.cells #[.string a, .string b] 31)).alloc (.cells #[.int .i64 0, .slice none 0 0, .int .i64 0] 29)) _ _ _ at ks ko
  have hz : ((w.alloc (.cells #[.string a, .string b] 31)).alloc (.cells #[.int .i64 0, .slice none 0 0, .int .i64 0] 29)).heap.size = w.heap.size + 2 := by simp
  generalize (w.alloc (.cells #[.string a, .string b] 31)).alloc (.cells #[.int .i64 0, .slice none 0 0, .int .i64 0] 29) = W at hb0 ks ko hz ⊢
  have c0 : W.cell? ⟨w.heap.size, 0, none⟩ = some (.string a) := ks.cell rfl
  have c1 : W.cell? ⟨w.heap.size, 1, none⟩ = some (.string b) := ks.cell rfl
  have hl0 := ks.lt
  have HB0 := Lib.hid hb0; have HKO := Lib.hid ko
  clear hb0 ks ko
  go_cut [4, 5] (fun v4 v5 u => ∃ A1 A2 n1 n2 l1 h1 l2 h2 ga gb, v4 = .pointer (some ⟨ga, 0, none⟩) ∧ v5 = .pointer (some ⟨gb, 0, none⟩) ∧ BsD W u a b A1 A2 n1 n2 l1 h1 l2 h2 ga gb)
  case first =>
    rename_i J K hJ hK
    refine wp_region_any (by kernel_rfl) (wpAny_inv (BtInv (fun s4 s5 s6 s7 s8 s9 s10 s11 => { tmps := #[slotsV a b, .pointer (some ⟨w.heap.size, 0, none⟩), .pointer (some ⟨w.heap.size + 1, 0, none⟩), .bool false, s4, s5, s6, s7, s8, s9, s10, s11, undef, undef, undef, undef, undef, undef, undef, undef, undef, undef, undef, undef, undef, undef, undef, undef, undef, undef, undef, undef, undef, undef, undef], defers := [] }) w W a b) ?sz ?step ?rend _ _ _ _ (by decide) ?start)
    case sz => intro L x u h; exact h.1
    case start =>
      refine ⟨by simp, fun h => ?_, fun h => ?_, _, _, _, _, _, _, _, _, rfl, fun h => ?_, fun h => ?_, fun h => ?_, fun h => ?_, none, none, 0, 0, 0, 0, 0, 0, 0, 0, ?_⟩
      rotate_right
      · simp only [dn_zero]
        exact BsI.start (Below.refl _ W).drew a b _ _ _ _
      all_goals (simp only [dn_zero] at h)
    case step =>
      intro L x u hI i o ho hi hL hd
      obtain ⟨hsz, k8, k9, s4, s5, s6, s7, s8, s9, s10, s11, rfl, e0, e1, e3, e4, A1, A2, n1, n2, l1, h1, l2, h2, ga, gb, hS⟩ := hI
      have hcase : i = 0 ∨ i = 1 ∨ i = 2 ∨ i = 3 ∨ i = 4 ∨ i = 5 ∨ i = 6 ∨ i = 7 ∨ i = 8 ∨ i = 9 := by omega
      rcases hcase with rfl | rfl | rfl | rfl | rfl | rfl | rfl | rfl | rfl | rfl
      · -- operation 0
        refine wpOp_of_list ho (by cases ho; rfl) ?_
        cases ho
        go_wp2_with fail
        refine ⟨by simp [hsz], fun h => (k8 ((h.set).resolve_left (by decide))).imp Dn.stay Dn.stay, fun h => (k9 ((h.set).resolve_left (by decide))).imp Dn.stay Dn.stay, _, _, _, _, _, _, _, _, rfl, fun _ => rfl, fun h => e1 ((h.set).resolve_left (by decide)), fun h => e3 ((h.set).resolve_left (by decide)), fun h => e4 ((h.set).resolve_left (by decide)), A1, A2, n1, n2, l1, h1, l2, h2, ga, gb, ?_⟩
        simp only [dn_not (L := L) (i := 0) (j := 2) (by decide), dn_not (L := L) (i := 0) (j := 5) (by decide), dn_not (L := L) (i := 0) (j := 6) (by decide), dn_not (L := L) (i := 0) (j := 7) (by decide), dn_not (L := L) (i := 0) (j := 8) (by decide), dn_not (L := L) (i := 0) (j := 9) (by decide)]
        exact hS
      · -- operation 1
        refine wpOp_of_list ho (by cases ho; rfl) ?_
        cases ho
        obtain rfl := e0 (hd ⟨0, .data⟩ (by simp) rfl)
        have hc : u.cell? ⟨w.heap.size, 0, none⟩ = some (.string a) := (hS.bel.cell (p := ⟨w.heap.size, 0, none⟩) hl0).trans c0
        go_wp2_with fail
        refine ⟨by simp [hsz], fun h => (k8 ((h.set).resolve_left (by decide))).imp Dn.stay Dn.stay, fun h => (k9 ((h.set).resolve_left (by decide))).imp Dn.stay Dn.stay, _, _, _, _, _, _, _, _, rfl, fun _ => rfl, fun _ => rfl, fun h => e3 ((h.set).resolve_left (by decide)), fun h => e4 ((h.set).resolve_left (by decide)), A1, A2, n1, n2, l1, h1, l2, h2, ga, gb, ?_⟩
        simp only [dn_not (L := L) (i := 1) (j := 2) (by decide), dn_not (L := L) (i := 1) (j := 5) (by decide), dn_not (L := L) (i := 1) (j := 6) (by decide), dn_not (L := L) (i := 1) (j := 7) (by decide), dn_not (L := L) (i := 1) (j := 8) (by decide), dn_not (L := L) (i := 1) (j := 9) (by decide)]
        exact hS
      · -- operation 2
        refine wpOp_of_list ho (by cases ho; rfl) ?_
        cases ho
        obtain rfl := e1 (hd ⟨1, .data⟩ (by simp) rfl)
        have hn8 : ¬ Dn L 8 := fun h => Dn.not hi hL (k8 h).1
        go_wp2_with fail
        refine Calls.mono (HC1.out u (trivial)) ?_
        rintro e w1 ⟨A, ca, rfl, ho, hb⟩
        go_wp2_with fail
        refine ⟨by simp [hsz], fun h => (k8 ((h.set).resolve_left (by decide))).imp Dn.stay Dn.stay, fun h => (k9 ((h.set).resolve_left (by decide))).imp Dn.stay Dn.stay, _, _, _, _, _, _, _, _, rfl, fun h => e0 ((h.set).resolve_left (by decide)), fun _ => rfl, fun h => e3 ((h.set).resolve_left (by decide)), fun h => e4 ((h.set).resolve_left (by decide)), A, A2, ca, n2, u.heap.size, w1.heap.size, l2, h2, ga, gb, ?_⟩
        simp only [dn_not (L := L) (i := 2) (j := 5) (by decide), dn_not (L := L) (i := 2) (j := 6) (by decide), dn_not (L := L) (i := 2) (j := 7) (by decide), dn_not (L := L) (i := 2) (j := 8) (by decide), dn_not (L := L) (i := 2) (j := 9) (by decide), dn_yes (L := L) (i := 2) hi]
        exact hS.call1 hn8 hb ho
      · -- operation 3
        refine wpOp_of_list ho (by cases ho; rfl) ?_
        cases ho
        go_wp2_with fail
        refine ⟨by simp [hsz], fun h => (k8 ((h.set).resolve_left (by decide))).imp Dn.stay Dn.stay, fun h => (k9 ((h.set).resolve_left (by decide))).imp Dn.stay Dn.stay, _, _, _, _, _, _, _, _, rfl, fun h => e0 ((h.set).resolve_left (by decide)), fun h => e1 ((h.set).resolve_left (by decide)), fun _ => rfl, fun h => e4 ((h.set).resolve_left (by decide)), A1, A2, n1, n2, l1, h1, l2, h2, ga, gb, ?_⟩
        simp only [dn_not (L := L) (i := 3) (j := 2) (by decide), dn_not (L := L) (i := 3) (j := 5) (by decide), dn_not (L := L) (i := 3) (j := 6) (by decide), dn_not (L := L) (i := 3) (j := 7) (by decide), dn_not (L := L) (i := 3) (j := 8) (by decide), dn_not (L := L) (i := 3) (j := 9) (by decide)]
        exact hS
      · -- operation 4
        refine wpOp_of_list ho (by cases ho; rfl) ?_
        cases ho
        obtain rfl := e3 (hd ⟨3, .data⟩ (by simp) rfl)
        have hc : u.cell? ⟨w.heap.size, 1, none⟩ = some (.string b) := (hS.bel.cell (p := ⟨w.heap.size, 1, none⟩) hl0).trans c1
        go_wp2_with fail
        refine ⟨by simp [hsz], fun h => (k8 ((h.set).resolve_left (by decide))).imp Dn.stay Dn.stay, fun h => (k9 ((h.set).resolve_left (by decide))).imp Dn.stay Dn.stay, _, _, _, _, _, _, _, _, rfl, fun h => e0 ((h.set).resolve_left (by decide)), fun h => e1 ((h.set).resolve_left (by decide)), fun _ => rfl, fun _ => rfl, A1, A2, n1, n2, l1, h1, l2, h2, ga, gb, ?_⟩
        simp only [dn_not (L := L) (i := 4) (j := 2) (by decide), dn_not (L := L) (i := 4) (j := 5) (by decide), dn_not (L := L) (i := 4) (j := 6) (by decide), dn_not (L := L) (i := 4) (j := 7) (by decide), dn_not (L := L) (i := 4) (j := 8) (by decide), dn_not (L := L) (i := 4) (j := 9) (by decide)]
        exact hS
      · -- operation 5
        refine wpOp_of_list ho (by cases ho; rfl) ?_
        cases ho
        obtain rfl := e4 (hd ⟨4, .data⟩ (by simp) rfl)
        have hn9 : ¬ Dn L 9 := fun h => Dn.not hi hL (k9 h).1
        go_wp2_with fail
        refine Calls.mono (HC2.out u (trivial)) ?_
        rintro e w1 ⟨A, ca, rfl, ho, hb⟩
        go_wp2_with fail
        refine ⟨by simp [hsz], fun h => (k8 ((h.set).resolve_left (by decide))).imp Dn.stay Dn.stay, fun h => (k9 ((h.set).resolve_left (by decide))).imp Dn.stay Dn.stay, _, _, _, _, _, _, _, _, rfl, fun h => e0 ((h.set).resolve_left (by decide)), fun h => e1 ((h.set).resolve_left (by decide)), fun h => e3 ((h.set).resolve_left (by decide)), fun _ => rfl, A1, A, n1, ca, l1, h1, u.heap.size, w1.heap.size, ga, gb, ?_⟩
        simp only [dn_not (L := L) (i := 5) (j := 2) (by decide), dn_not (L := L) (i := 5) (j := 6) (by decide), dn_not (L := L) (i := 5) (j := 7) (by decide), dn_not (L := L) (i := 5) (j := 8) (by decide), dn_not (L := L) (i := 5) (j := 9) (by decide), dn_yes (L := L) (i := 5) hi]
        exact hS.call2 hn9 hb ho
      · -- operation 6
        refine wpOp_of_list ho (by cases ho; rfl) ?_
        cases ho
        have hn8 : ¬ Dn L 8 := fun h => Dn.not hi hL (k8 h).2
        go_wp2_with fail
        refine ⟨by simp [hsz], fun h => (k8 ((h.set).resolve_left (by decide))).imp Dn.stay Dn.stay, fun h => (k9 ((h.set).resolve_left (by decide))).imp Dn.stay Dn.stay, _, _, _, _, _, _, _, _, rfl, fun h => e0 ((h.set).resolve_left (by decide)), fun h => e1 ((h.set).resolve_left (by decide)), fun h => e3 ((h.set).resolve_left (by decide)), fun h => e4 ((h.set).resolve_left (by decide)), A1, A2, n1, n2, l1, h1, l2, h2, u.heap.size, gb, ?_⟩
        simp only [dn_not (L := L) (i := 6) (j := 2) (by decide), dn_not (L := L) (i := 6) (j := 5) (by decide), dn_not (L := L) (i := 6) (j := 7) (by decide), dn_not (L := L) (i := 6) (j := 8) (by decide), dn_not (L := L) (i := 6) (j := 9) (by decide), dn_yes (L := L) (i := 6) hi]
        exact hS.new4 hn8
      · -- operation 7
        refine wpOp_of_list ho (by cases ho; rfl) ?_
        cases ho
        have hn9 : ¬ Dn L 9 := fun h => Dn.not hi hL (k9 h).2
        go_wp2_with fail
        refine ⟨by simp [hsz], fun h => (k8 ((h.set).resolve_left (by decide))).imp Dn.stay Dn.stay, fun h => (k9 ((h.set).resolve_left (by decide))).imp Dn.stay Dn.stay, _, _, _, _, _, _, _, _, rfl, fun h => e0 ((h.set).resolve_left (by decide)), fun h => e1 ((h.set).resolve_left (by decide)), fun h => e3 ((h.set).resolve_left (by decide)), fun h => e4 ((h.set).resolve_left (by decide)), A1, A2, n1, n2, l1, h1, l2, h2, ga, u.heap.size, ?_⟩
        simp only [dn_not (L := L) (i := 7) (j := 2) (by decide), dn_not (L := L) (i := 7) (j := 5) (by decide), dn_not (L := L) (i := 7) (j := 6) (by decide), dn_not (L := L) (i := 7) (j := 8) (by decide), dn_not (L := L) (i := 7) (j := 9) (by decide), dn_yes (L := L) (i := 7) hi]
        exact hS.new5 hn9
      · -- operation 8
        refine wpOp_of_list ho (by cases ho; rfl) ?_
        cases ho
        have d6 : Dn L 6 := hd ⟨6, .data⟩ (by simp) rfl
        have d2 : Dn L 2 := hd ⟨2, .data⟩ (by simp) rfl
        obtain ⟨rfl, hga, -⟩ := hS.box4 d6
        obtain ⟨rfl, -, -, -⟩ := hS.ans1 d2
        have hn8 : ¬ Dn L 8 := Dn.not hi hL
        obtain ⟨p0, p1, p2, f0, f1, f2⟩ := blk3k (hS.z4 d6 hn8)
        go_wp2_with fail
        refine ⟨by simp [hsz], fun _ => ⟨d2.stay, d6.stay⟩, fun h => (k9 ((h.set).resolve_left (by decide))).imp Dn.stay Dn.stay, _, _, _, _, _, _, _, _, rfl, fun h => e0 ((h.set).resolve_left (by decide)), fun h => e1 ((h.set).resolve_left (by decide)), fun h => e3 ((h.set).resolve_left (by decide)), fun h => e4 ((h.set).resolve_left (by decide)), A1, A2, n1, n2, l1, h1, l2, h2, ga, gb, ?_⟩
        simp only [dn_not (L := L) (i := 8) (j := 2) (by decide), dn_not (L := L) (i := 8) (j := 5) (by decide), dn_not (L := L) (i := 8) (j := 6) (by decide), dn_not (L := L) (i := 8) (j := 7) (by decide), dn_not (L := L) (i := 8) (j := 9) (by decide), dn_yes (L := L) (i := 8) hi]
        exact hS.put4 d6 hn8
      · -- operation 9
        refine wpOp_of_list ho (by cases ho; rfl) ?_
        cases ho
        have d7 : Dn L 7 := hd ⟨7, .data⟩ (by simp) rfl
        have d5 : Dn L 5 := hd ⟨5, .data⟩ (by simp) rfl
        obtain ⟨rfl, hga, -⟩ := hS.box5 d7
        obtain ⟨rfl, -, -, -⟩ := hS.ans2 d5
        have hn9 : ¬ Dn L 9 := Dn.not hi hL
        obtain ⟨p0, p1, p2, f0, f1, f2⟩ := blk3k (hS.z5 d7 hn9)
        go_wp2_with fail
        refine ⟨by simp [hsz], fun h => (k8 ((h.set).resolve_left (by decide))).imp Dn.stay Dn.stay, fun _ => ⟨d5.stay, d7.stay⟩, _, _, _, _, _, _, _, _, rfl, fun h => e0 ((h.set).resolve_left (by decide)), fun h => e1 ((h.set).resolve_left (by decide)), fun h => e3 ((h.set).resolve_left (by decide)), fun h => e4 ((h.set).resolve_left (by decide)), A1, A2, n1, n2, l1, h1, l2, h2, ga, gb, ?_⟩
        simp only [dn_not (L := L) (i := 9) (j := 2) (by decide), dn_not (L := L) (i := 9) (j := 5) (by decide), dn_not (L := L) (i := 9) (j := 6) (by decide), dn_not (L := L) (i := 9) (j := 7) (by decide), dn_not (L := L) (i := 9) (j := 8) (by decide), dn_yes (L := L) (i := 9) hi]
        exact hS.put5 d7 hn9
    case rend =>
      intro L x u hI hr
      obtain ⟨hsz, -, -, s4, s5, s6, s7, s8, s9, s10, s11, rfl, -, -, -, -, A1, A2, n1, n2, l1, h1, l2, h2, ga, gb, hS⟩ := hI
      have d0 : Dn L 0 := ready_nil hr hsz (i := 0) rfl (by simp)
      have d1 : Dn L 1 := ready_nil hr hsz (i := 1) rfl (by simpa using d0)
      have d2 : Dn L 2 := ready_nil hr hsz (i := 2) rfl (by simpa using d1)
      have d3 : Dn L 3 := ready_nil hr hsz (i := 3) rfl (by simp)
      have d4 : Dn L 4 := ready_nil hr hsz (i := 4) rfl (by simpa using d3)
      have d5 : Dn L 5 := ready_nil hr hsz (i := 5) rfl (by simp; exact ⟨d4, d2⟩)
      have d6 : Dn L 6 := ready_nil hr hsz (i := 6) rfl (by simp)
      have d7 : Dn L 7 := ready_nil hr hsz (i := 7) rfl (by simp)
      have d8 : Dn L 8 := ready_nil hr hsz (i := 8) rfl (by simp [d0, d1, d2, d3, d4, d5, d6, d7])
      have d9 : Dn L 9 := ready_nil hr hsz (i := 9) rfl (by simp [d0, d1, d2, d3, d4, d5, d6, d7, d8])
      obtain ⟨rfl, -, -⟩ := hS.box4 d6
      obtain ⟨rfl, -, -⟩ := hS.box5 d7
      refine Met.intro (hK _ _ (Met.intro (hJ _ _ ?_)))
      repeat apply Exists.intro
      refine ⟨⟨A1, A2, n1, n2, l1, h1, l2, h2, ga, gb, rfl, rfl, ?_⟩, rfl⟩
      exact hS.all d2 d5 d6 d7 d8 d9
  case rest =>
    obtain ⟨A1, A2, n1, n2, l1, h1, l2, h2, ga, gb, rfl, rfl, hD⟩ := hcut
    obtain ⟨r0, r1, r2, q0, q1, q2⟩ := blk3k (HKO.out.below hD.bel HKO.out.lt)
    obtain ⟨a0, a1, a2, -, -, -⟩ := blk3k hD.b1
    obtain ⟨b0, b1, b2, -, -, -⟩ := blk3k hD.b2
    have HD := Lib.hid hD
    have HBW : Hid (Below w.heap.size w wc) := HB0.out.trans (hD.bel.mono (by omega))
    have hg1 : ¬ ga = w.heap.size + 1 := by have := hD.g1; omega
    have hg2 : ¬ gb = w.heap.size + 1 := by have := hD.g2; omega
    have hg1' : ¬ w.heap.size + 1 = ga := by have := hD.g1; omega
    have hg2' : ¬ w.heap.size + 1 = gb := by have := hD.g2; omega
    clear hD c0 c1
    by_cases hA : ckCode a = 0
    · by_cases hB : ckCode b = 0
      · by_cases hle : ckRNum b ≤ ckRNum a
        · skip
          have HF : Hid (ckTxt a b = a ∧ ckSel a b = true) := ckPick_a hA (.inr hle)
          have HCB : Hid (cbCode a b = 0 ∧ cbNum a b = ckRNum a ∧ cbList a b = ckList a) := by have h := cb_ok HSL.out (by rw [HF.out.1]; assumption); rw [HF.out.1] at h; exact h
          have qa : (ckCode a == 0) = true := by simpa using hA
          have qb : (ckCode b == 0) = true := by simpa using hB
          have qb' : (ckCode b != 0) = false := by simpa using hB
          go_wp2
          refine bodyPost_ret (v := .tuple #[ckV (ckRNum a) A1 (ckList a).length n1 0, .bool true]) (by simp [results, Tryd.results12, go_sem, r0, r1, r2]) rfl ?_
          unfold RetBestS
          rw [HCB.out.1, HCB.out.2.1, HCB.out.2.2, HF.out.2]
          exact ⟨A1, n1, rfl, (HD.out.o1.same fun k h1 h2 => set3_other _ _ _ (by have := HD.out.p1.1; omega)).mono (by have := HD.out.p1.1; omega) (by have := HD.out.p1.2; simp [World.setCell]; omega), set3_bel HBW.out (by omega) _ _ _⟩
        · skip
          have HF : Hid (ckTxt a b = b ∧ ckSel a b = false) := ckPick_b (fun h => h.2.elim (fun h' => h' hB) hle) hB
          have HCB : Hid (cbCode a b = 0 ∧ cbNum a b = ckRNum b ∧ cbList a b = ckList b) := by have h := cb_ok HSL.out (by rw [HF.out.1]; assumption); rw [HF.out.1] at h; exact h
          have qa : (ckCode a == 0) = true := by simpa using hA
          have qb : (ckCode b == 0) = true := by simpa using hB
          have qb' : (ckCode b != 0) = false := by simpa using hB
          have hle' : ckRNum a < ckRNum b := by omega
          go_wp2
          refine bodyPost_ret (v := .tuple #[ckV (ckRNum b) A2 (ckList b).length n2 0, .bool false]) (by simp [results, Tryd.results12, go_sem, r0, r1, r2]) rfl ?_
          unfold RetBestS
          rw [HCB.out.1, HCB.out.2.1, HCB.out.2.2, HF.out.2]
          exact ⟨A2, n2, rfl, (HD.out.o2.same fun k h1 h2 => set3_other _ _ _ (by have := HD.out.p2.1; omega)).mono (by have := HD.out.p2.1; omega) (by have := HD.out.p2.2; simp [World.setCell]; omega), set3_bel HBW.out (by omega) _ _ _⟩
      · skip
        have HF : Hid (ckTxt a b = a ∧ ckSel a b = true) := ckPick_a hA (.inl hB)
        have HCB : Hid (cbCode a b = 0 ∧ cbNum a b = ckRNum a ∧ cbList a b = ckList a) := by have h := cb_ok HSL.out (by rw [HF.out.1]; assumption); rw [HF.out.1] at h; exact h
        have qa : (ckCode a == 0) = true := by simpa using hA
        have qb : (ckCode b == 0) = false := by simpa using hB
        have qb' : (ckCode b != 0) = true := by simpa using hB
        go_wp2
        refine bodyPost_ret (v := .tuple #[ckV (ckRNum a) A1 (ckList a).length n1 0, .bool true]) (by simp [results, Tryd.results12, go_sem, r0, r1, r2]) rfl ?_
        unfold RetBestS
        rw [HCB.out.1, HCB.out.2.1, HCB.out.2.2, HF.out.2]
        exact ⟨A1, n1, rfl, (HD.out.o1.same fun k h1 h2 => set3_other _ _ _ (by have := HD.out.p1.1; omega)).mono (by have := HD.out.p1.1; omega) (by have := HD.out.p1.2; simp [World.setCell]; omega), set3_bel HBW.out (by omega) _ _ _⟩
    · by_cases hB : ckCode b = 0
      · skip
        have HF : Hid (ckTxt a b = b ∧ ckSel a b = false) := ckPick_b (fun h => hA h.1) hB
        have HCB : Hid (cbCode a b = 0 ∧ cbNum a b = ckRNum b ∧ cbList a b = ckList b) := by have h := cb_ok HSL.out (by rw [HF.out.1]; assumption); rw [HF.out.1] at h; exact h
        have qa : (ckCode a == 0) = false := by simpa using hA
        have qb : (ckCode b == 0) = true := by simpa using hB
        have qb' : (ckCode b != 0) = false := by simpa using hB
        go_wp2
        refine bodyPost_ret (v := .tuple #[ckV (ckRNum b) A2 (ckList b).length n2 0, .bool false]) (by simp [results, Tryd.results12, go_sem, r0, r1, r2]) rfl ?_
        unfold RetBestS
        rw [HCB.out.1, HCB.out.2.1, HCB.out.2.2, HF.out.2]
        exact ⟨A2, n2, rfl, (HD.out.o2.same fun k h1 h2 => set3_other _ _ _ (by have := HD.out.p2.1; omega)).mono (by have := HD.out.p2.1; omega) (by have := HD.out.p2.2; simp [World.setCell]; omega), set3_bel HBW.out (by omega) _ _ _⟩
      · skip
        have HF : Hid (ckCode (ckTxt a b) ≠ 0 ∧ ckSel a b = false) := ckPick_no (fun h => hA h.1) hB
        have HCB : Hid (cbCode a b = 6 ∧ cbNum a b = 0 ∧ cbList a b = []) := cb_none HSL.out HF.out.1
        have qa : (ckCode a == 0) = false := by simpa using hA
        have qb : (ckCode b == 0) = false := by simpa using hB
        have qb' : (ckCode b != 0) = true := by simpa using hB
        go_wp2
        refine bodyPost_ret (v := .tuple #[ckV 0 none 0 0 6, .bool false]) (by simp [results, Tryd.results12, go_sem, r0, r1, r2]) rfl ?_
        unfold RetBestS
        rw [HCB.out.1, HCB.out.2.1, HCB.out.2.2, HF.out.2]
        exact ⟨none, 0, rfl, ow_nilR _ _ _ _, set3_bel HBW.out (by omega) _ _ _⟩

end Go.Proofs.YtginfgepamidkaaDoor
