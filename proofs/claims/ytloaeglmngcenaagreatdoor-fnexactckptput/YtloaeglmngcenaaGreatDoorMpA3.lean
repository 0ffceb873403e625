/-
  CkptPut, of the model.
  What stands inside the two regions of free order of FnExactCkptPut.
-/
import Derived.Test.YtloaeglmngcenaaGreatDoorProg
import Derived.KernelRfl
import Derived.Test.YtloaeglmngcenaaGreatDoorMpA2
import Derived.Test.YtloaeglmngcenaaGreatDoorMpA1
import Derived.Test.YtloaeglmngcenaaGreatDoorHsKeep
import Derived.Test.YtloaeglmngcenaaGreatDoorBtSeal
import Derived.Test.YtloaeglmngcenaaGreatDoorCkSlots
import Derived.Test.YtloaeglmngcenaaGreatDoorHsLaw
namespace Go.Proofs.YtloaeglmngcenaaGreatDoor
open Go.RowKit
open Bt (Rc)

/-- what stands while the model writes slots -/
structure PsSt (w u : World) (a b : ByteArray) (A : Option Addr) (n ca : Nat) : Prop where
  bel : Below w.heap.size w u
  ks : IsBlk u w.heap.size 88 [.string a, .string b]
  kh : IsBlk u (w.heap.size + 1) 29 [.slice A n ca]
  kr : IsBlk u (w.heap.size + 1 + 1) 88 [.string ⟨#[]⟩, .string ⟨#[]⟩]
theorem PsSt.below {w u u' : World} {a b : ByteArray} {A : Option Addr} {n ca : Nat} (h : PsSt w u a b A n ca) (hb : Below u.heap.size u u') : PsSt w u' a b A n ca :=
  ⟨bel_thru h.bel hb, h.ks.below hb h.ks.lt, h.kh.below hb h.kh.lt, h.kr.below hb h.kr.lt⟩
theorem ps_fin {w u : World} {n ca : Nat} {a b : ByteArray} {X : List Rc} {p : Int} {A : Option Addr} (hc : cpA a b X p = a ∧ cpB a b X p = b) (h : PsSt w u a b A n ca) (x y : Value) :
    Ending.returned (slotsV a b) = .returned (slotsV (cpA a b X p) (cpB a b X p)) ∧ Below w.heap.size w ((u.setCell ⟨w.heap.size + 1 + 1, 0, none⟩ x).setCell ⟨w.heap.size + 1 + 1, 1, none⟩ y) :=
  ⟨by rw [hc.1, hc.2], (h.bel.setCell (by dsimp only; omega) _).setCell (by dsimp only; omega) _⟩
theorem cbNum_eq {a b : ByteArray} (h : slotB a b = true) : cbNum a b = ckRNum (ckTxt a b) := by
  by_cases hc : ckCode (ckTxt a b) = 0
  · exact (cb_ok h hc).2.1
  · rw [(cb_none h hc).2.1, ((ck_facts _).2 hc).1]
def CpInvS (Fr : Value → Value → Value → Value → Value → Value → Value → Act) (W : World) (A : Option Addr) (n ca : Nat) (X : List Rc) (m : Int) (g8 : Nat) (L : Array Bool) (x : Act) (u : World) : Prop :=
  L.size = 7 ∧ ∃ (s9 s32 s33 s34 s35 s36 s37 : Value), x = Fr s9 s32 s33 s34 s35 s36 s37 ∧ Below W.heap.size W u ∧
    (Dn L 0 → s32 = .pointer (some ⟨g8, 0, none⟩)) ∧
    (Dn L 1 → s33 = .int .i64 m) ∧
    (Dn L 2 → s34 = .int .i64 (m + 1)) ∧
    (Dn L 3 → s35 = .agg #[.slice A n ca]) ∧
    (Dn L 4 → (∃ (A' : Option Addr) (c' : Nat), s36 = .agg #[.slice A' (pruneOf X).length c'] ∧ RdRc u u.heap.size A' (pruneOf X).length (pruneOf X))) ∧
    (Dn L 5 → s37 = strV (ckText (m + 1) (pruneOf X))) ∧
    (Dn L 6 → s9 = strV (ckText (m + 1) (pruneOf X)))

set_option maxHeartbeats 8000000 in
set_option maxRecDepth 100000 in
theorem spec_ckptPut (A : Option Addr) (n ca : Nat) (X : List Rc) (a b : ByteArray) (p : Int) (w : World) (ha : a.size ≤ 1048576) (hb : b.size ≤ 1048576) (hX : SmallR X) (hA : RdRc w w.heap.size A n X) (hp : p ≤ 9223372036854775807) :
    Calls Tryz.prog 54 #[slotsV a b, .agg #[.slice A n ca], .int .i64 p] w fun e w' => e = .returned (slotsV (cpA a b X p) (cpB a b X p)) ∧ Below w.heap.size w w' := by
  have HX := Lib.hid hX; have HA := Lib.hid hA; clear hX hA
  go_enter Tryz.func54, Tryz.ntmps54
  go_wp2_with fail
  have hb0 : Below w.heap.size w (((w.alloc (.cells #[.string a, .string b] 88)).alloc (.cells #[.slice A n ca] 29)).alloc (.cells #[.string ⟨#[]⟩, .string ⟨#[]⟩] 88)) := (((Below.refl _ _).alloc (Nat.le_refl _) _).alloc (by simp) _).alloc (by simp; omega) _
  have k0 := ((isBlk_new w 88 [.string a, .string b]).alloc (.cells #[.slice A n ca] 29)).alloc (.cells #[.string ⟨#[]⟩, .string ⟨#[]⟩] 88)
  have k1 := (isBlk_new (w.alloc (.cells #[.string a, .string b] 88)) 29 [.slice A n ca]).alloc (.cells #[.string ⟨#[]⟩, .string ⟨#[]⟩] 88)
  have k2 := isBlk_new ((w.alloc (.cells #[.string a, .string b] 88)).alloc (.cells #[.slice A n ca] 29)) 88 [.string ⟨#[]⟩, .string ⟨#[]⟩]
  simp only [size_alloc] at k1 k2
  have hz : (((w.alloc (.cells #[.string a, .string b] 88)).alloc (.cells #[.slice A n ca] 29)).alloc (.cells #[.string ⟨#[]⟩, .string ⟨#[]⟩] 88)).heap.size = w.heap.size + 3 := by simp
  change IsBlk (((w.alloc (.cells #[.string a, .string b] 88)).alloc (.cells #[.slice A n ca] 29)).alloc (.cells #[.string ⟨#[]⟩, .string ⟨#[]⟩] 88)) _ _ _ at k0 k1 k2
  generalize ((w.alloc (.cells #[.string a, .string b] 88)).alloc (.cells #[.slice A n ca] 29)).alloc (.cells #[.string ⟨#[]⟩, .string ⟨#[]⟩] 88) = W at hb0 k0 k1 k2 hz ⊢
  have H1 : Hid (PsSt w W a b A n ca) := ⟨hb0, k0, k1, k2⟩
  clear hb0 k0 k1 k2
  refine (spec_slotsRight a b W (by unfold maxLen; omega) (by unfold maxLen; omega)).mono ?_
  rintro e w1 ⟨rfl, hb1⟩
  have H2 := Lib.hid (H1.out.below hb1)
  clear hb1 H1 hz
  obtain ⟨c0, c1, -, -⟩ := blk2 H2.out.ks
  obtain ⟨r0, r1, f0, f1⟩ := blk2 H2.out.kr
  cases hs : slotB a b with
  | false =>
      have HC := Lib.hid (cp_no (a := a) (b := b) (X := X) (p := p) (fun h => by have h' := h.1; rw [hs] at h'; cases h'))
      go_wp2_with fail
      refine bodyPost_ret (v := slotsV a b) (by simp [results, Tryz.results54, go_sem, r0, r1]) rfl ?_
      exact ps_fin HC.out H2.out _ _
  | true =>
    have hh0 : w1.cell? ⟨w.heap.size + 1, 0, none⟩ = some (.slice A n ca) := H2.out.kh.cell rfl
    go_wp2_with fail
    refine (spec_histRight_any A n ca X w1 HX.out (HA.out.next H2.out.bel)).mono ?_
    rintro e w2 ⟨rfl, hb2⟩
    have H3 := Lib.hid (H2.out.below hb2)
    clear hb2 hh0 c0 c1 r0 r1 f0 f1
    obtain ⟨c0, c1, -, -⟩ := blk2 H3.out.ks
    obtain ⟨r0, r1, f0, f1⟩ := blk2 H3.out.kr
    cases hr : hRight X with
    | false =>
      have HC := Lib.hid (cp_no (a := a) (b := b) (X := X) (p := p) (fun h => by have h' := h.2.1; rw [hr] at h'; cases h'))
      go_wp2_with fail
      refine bodyPost_ret (v := slotsV a b) (by simp [results, Tryz.results54, go_sem, r0, r1]) rfl ?_
      exact ps_fin HC.out H3.out _ _
    | true =>
    by_cases hp1 : p < -1
    · have HC := Lib.hid (cp_no (a := a) (b := b) (X := X) (p := p) (fun h => by have := h.2.2.1; omega))
      go_wp2_with fail
      refine bodyPost_ret (v := slotsV a b) (by simp [results, Tryz.results54, go_sem, r0, r1]) rfl ?_
      exact ps_fin HC.out H3.out _ _
    have hp1' : -1 ≤ p := by omega
    go_wp2_with fail
    refine (l12Best_any a b w2 (by unfold maxLen; omega) (by unfold maxLen; omega) hs).mono ?_
    rintro e w3 ⟨Ab, cb, rfl, -, hb3⟩
    have H4 := Lib.hid (H3.out.below hb3)
    clear hb3 c0 c1 r0 r1 f0 f1
    rw [cbNum_eq hs]
    have hrange := ckRNum_range (ckTxt a b)
    have HGO := Lib.hid (fun (h : ckRNum (ckTxt a b) ≠ 1000000) => (show cpGo a b X p from ⟨hs, hr, hp1', h⟩))
    have HNG := Lib.hid (fun (h : ckRNum (ckTxt a b) = 1000000) => cp_no (a := a) (b := b) (X := X) (p := p) (fun h' => h'.2.2.2 h))
    have HTX : Hid (cpNew a b X p = cutTo p (ckText (ckRNum (ckTxt a b) + 1) (pruneOf X))) := rfl
    obtain ⟨m, hm⟩ : ∃ m, m = ckRNum (ckTxt a b) := ⟨_, rfl⟩
    rw [← hm] at hrange HGO HNG HTX ⊢
    generalize cbList a b = Lb at *
    generalize cbCode a b = Cb at *
    clear hm
    have hbx := box_belK w3 (.cells #[.int .i64 m, .slice Ab Lb.length cb, .int .i64 Cb] 175)
    have k8 := isBlk_new w3 175 [.int .i64 m, .slice Ab Lb.length cb, .int .i64 Cb]
    change IsBlk (w3.alloc (.cells #[.int .i64 m, .slice Ab Lb.length cb, .int .i64 Cb] 175)) _ _ _ at k8
    have H5 := Lib.hid (H4.out.below hbx)
    have hl8 := k8.lt
    have q0 : (w3.alloc (.cells #[.int .i64 m, .slice Ab Lb.length cb, .int .i64 Cb] 175)).cell? ⟨w3.heap.size, 0, none⟩ = some (.int .i64 m) := k8.cell rfl
    clear hbx k8
    by_cases hm : m = 1000000
    · have HC := Lib.hid (HNG.out hm)
      subst hm
      obtain ⟨c0, c1, -, -⟩ := blk2 H5.out.ks
      obtain ⟨r0, r1, f0, f1⟩ := blk2 H5.out.kr
      go_wp2_with fail
      refine bodyPost_ret (v := slotsV a b) (by simp [results, Tryz.results54, go_sem, r0, r1]) rfl ?_
      exact ps_fin HC.out H5.out _ _
    have HGO2 := Lib.hid (HGO.out hm)
    have hmq : m < 1000000 := by omega
    have hwm : IntKind.i64.wrap (m + 1) = m + 1 := IntWalk.i64_in _ (by omega)
    clear HGO HNG
    go_wp2_with fail
    generalize w3.alloc (.cells #[.int .i64 m, .slice Ab Lb.length cb, .int .i64 Cb] 175) = WB at H5 hl8 q0 ⊢
    have qh : WB.cell? ⟨w.heap.size + 1, 0, none⟩ = some (.slice A n ca) := H5.out.kh.cell rfl
    have hlh := H5.out.kh.lt
    generalize w3.heap.size = g8 at *
    have HAB : Hid (∀ u, Below WB.heap.size WB u → RdRc u u.heap.size A n X) := fun u h => HA.out.next (bel_thru H5.out.bel h)
    have HPR := Lib.hid (ckPrune_right hr)
    have HPT : Hid (prTo X n = pruneOf X) := by show _ = _; rw [pruneOf_yes hr, ← HA.out.1]
    have HCB := Lib.hid (fun h => cp_a (a := a) (b := b) (X := X) (p := p) HGO2.out h); have HCA := Lib.hid (fun h => cp_b (a := a) (b := b) (X := X) (p := p) HGO2.out h)
    rw [HTX.out] at HCB HCA
    have HTL : Hid ((ckText (m + 1) (pruneOf X)).length ≤ 2424) := ckText_len HPR.out
    go_cut [9] (fun v9 u => v9 = strV (ckText (m + 1) (pruneOf X)) ∧ Below WB.heap.size WB u)
    case first =>
      rename_i J K hJ hK
      refine wp_region_any (by kernel_rfl) (wpAny_inv (CpInvS (fun s9 s32 s33 s34 s35 s36 s37 => { tmps := #[slotsV a b, .agg #[.slice A n ca], .int .i64 p, .pointer (some ⟨w.heap.size, 0, none⟩), .pointer (some ⟨w.heap.size + 1, 0, none⟩), undef, .pointer (some ⟨w.heap.size + 1 + 1, 0, none⟩), .pointer (some ⟨g8, 0, none⟩), .bool (ckSel a b), s9, .agg #[.string a, .string b], .bool true, .bool false, .bool false, .agg #[.slice A n ca], .bool true, .bool false, .bool false, .bool false, .int .i64 p, .bool (decide (p < -1)), .bool (decide (p < -1)), undef, .tuple #[ckV m Ab Lb.length cb Cb, .bool (ckSel a b)], .agg #[.string a, .string b], .tuple #[ckV m Ab Lb.length cb Cb, .bool (ckSel a b)], ckV m Ab Lb.length cb Cb, .bool (ckSel a b), .pointer (some ⟨g8, 0, none⟩), .int .i64 m, .bool (decide (m ≥ 1000000)), undef, s32, s33, s34, s35, s36, s37, undef, undef, undef, undef, undef, undef, undef, undef, undef, undef, undef, undef, undef, undef, undef, undef, undef], defers := [] }) WB A n ca X m g8) ?sz ?step ?rend _ _ _ _ (by decide) ?start)
      case sz => intro L x u h; exact h.1
      case start =>
        refine ⟨by simp, _, _, _, _, _, _, _, rfl, (Below.refl _ WB).drew, fun h => ?_, fun h => ?_, fun h => ?_, fun h => ?_, fun h => ?_, fun h => ?_, fun h => ?_⟩
        all_goals (simp only [dn_zero] at h)
      case step =>
        intro L x u hI i o ho hi hL hd
        obtain ⟨hsz, s9, s32, s33, s34, s35, s36, s37, rfl, hB, e0, e1, e2, e3, e4, e5, e6⟩ := hI
        have hcase : i = 0 ∨ i = 1 ∨ i = 2 ∨ i = 3 ∨ i = 4 ∨ i = 5 ∨ i = 6 := by omega
        rcases hcase with rfl | rfl | rfl | rfl | rfl | rfl | rfl
        · -- operation 0
          refine wpOp_of_list ho (by cases ho; rfl) ?_
          cases ho
          go_wp2_with fail
          exact ⟨by simp [hsz], _, _, _, _, _, _, _, rfl, hB, fun _ => rfl, fun h => e1 ((h.set).resolve_left (by decide)), fun h => e2 ((h.set).resolve_left (by decide)), fun h => e3 ((h.set).resolve_left (by decide)), fun h => e4 ((h.set).resolve_left (by decide)), fun h => e5 ((h.set).resolve_left (by decide)), fun h => e6 ((h.set).resolve_left (by decide))⟩
        · -- operation 1
          refine wpOp_of_list ho (by cases ho; rfl) ?_
          cases ho
          obtain rfl := e0 (hd ⟨0, .data⟩ (by simp) rfl)
          have hc := (hB.cell (p := ⟨g8, 0, none⟩) hl8).trans q0
          go_wp2_with fail
          exact ⟨by simp [hsz], _, _, _, _, _, _, _, rfl, hB, fun _ => rfl, fun _ => rfl, fun h => e2 ((h.set).resolve_left (by decide)), fun h => e3 ((h.set).resolve_left (by decide)), fun h => e4 ((h.set).resolve_left (by decide)), fun h => e5 ((h.set).resolve_left (by decide)), fun h => e6 ((h.set).resolve_left (by decide))⟩
        · -- operation 2
          refine wpOp_of_list ho (by cases ho; rfl) ?_
          cases ho
          obtain rfl := e1 (hd ⟨1, .data⟩ (by simp) rfl)
          go_wp2_with fail
          exact ⟨by simp [hsz], _, _, _, _, _, _, _, rfl, hB, fun h => e0 ((h.set).resolve_left (by decide)), fun _ => rfl, fun _ => rfl, fun h => e3 ((h.set).resolve_left (by decide)), fun h => e4 ((h.set).resolve_left (by decide)), fun h => e5 ((h.set).resolve_left (by decide)), fun h => e6 ((h.set).resolve_left (by decide))⟩
        · -- operation 3
          refine wpOp_of_list ho (by cases ho; rfl) ?_
          cases ho
          have hc := (hB.cell (p := ⟨w.heap.size + 1, 0, none⟩) hlh).trans qh
          go_wp2_with fail
          exact ⟨by simp [hsz], _, _, _, _, _, _, _, rfl, hB, fun h => e0 ((h.set).resolve_left (by decide)), fun h => e1 ((h.set).resolve_left (by decide)), fun h => e2 ((h.set).resolve_left (by decide)), fun _ => rfl, fun h => e4 ((h.set).resolve_left (by decide)), fun h => e5 ((h.set).resolve_left (by decide)), fun h => e6 ((h.set).resolve_left (by decide))⟩
        · -- operation 4
          refine wpOp_of_list ho (by cases ho; rfl) ?_
          cases ho
          obtain rfl := e3 (hd ⟨3, .data⟩ (by simp) rfl)
          go_wp2_with fail
          refine (l04Prune_any A n ca X u hr (HAB.out u hB)).mono ?_
          rw [HPT.out]
          rintro e w9 ⟨A9, c9, rfl, ho9, hb⟩
          go_wp2_with fail
          exact ⟨by simp [hsz], _, _, _, _, _, _, _, rfl, hB.trans (hb.mono hB.size), fun h => e0 ((h.set).resolve_left (by decide)), fun h => e1 ((h.set).resolve_left (by decide)), fun h => e2 ((h.set).resolve_left (by decide)), fun _ => rfl, fun _ => ⟨A9, c9, rfl, ho9.rd (Nat.le_refl _)⟩, fun h => e5 ((h.set).resolve_left (by decide)), fun h => e6 ((h.set).resolve_left (by decide))⟩
        · -- operation 5
          refine wpOp_of_list ho (by cases ho; rfl) ?_
          cases ho
          obtain rfl := e2 (hd ⟨2, .data⟩ (by simp) rfl)
          obtain ⟨A9, c9, rfl, hr9⟩ := e4 (hd ⟨4, .data⟩ (by simp) rfl)
          go_wp2_with fail
          refine (l12Bytes_any (m + 1) A9 _ c9 (pruneOf X) u (by omega) (by omega) HPR.out hr9).mono ?_
          rintro e w9 ⟨rfl, hb⟩
          go_wp2_with fail
          exact ⟨by simp [hsz], _, _, _, _, _, _, _, rfl, hB.trans (hb.mono hB.size), fun h => e0 ((h.set).resolve_left (by decide)), fun h => e1 ((h.set).resolve_left (by decide)), fun _ => rfl, fun h => e3 ((h.set).resolve_left (by decide)), fun _ => ⟨A9, c9, rfl, hr9.next hb⟩, fun _ => rfl, fun h => e6 ((h.set).resolve_left (by decide))⟩
        · -- operation 6
          refine wpOp_of_list ho (by cases ho; rfl) ?_
          cases ho
          obtain rfl := e5 (hd ⟨5, .data⟩ (by simp) rfl)
          go_wp2_with fail
          exact ⟨by simp [hsz], _, _, _, _, _, _, _, rfl, hB, fun h => e0 ((h.set).resolve_left (by decide)), fun h => e1 ((h.set).resolve_left (by decide)), fun h => e2 ((h.set).resolve_left (by decide)), fun h => e3 ((h.set).resolve_left (by decide)), fun h => e4 ((h.set).resolve_left (by decide)), fun _ => rfl, fun _ => rfl⟩
      case rend =>
        intro L x u hI hr
        obtain ⟨hsz, s9, s32, s33, s34, s35, s36, s37, rfl, hB, e0, e1, e2, e3, e4, e5, e6⟩ := hI
        have d0 : Dn L 0 := ready_nil hr hsz (i := 0) rfl (by simp)
        have d1 : Dn L 1 := ready_nil hr hsz (i := 1) rfl (by simp [d0])
        have d2 : Dn L 2 := ready_nil hr hsz (i := 2) rfl (by simp [d1])
        have d3 : Dn L 3 := ready_nil hr hsz (i := 3) rfl (by simp)
        have d4 : Dn L 4 := ready_nil hr hsz (i := 4) rfl (by simp [d3])
        have d5 : Dn L 5 := ready_nil hr hsz (i := 5) rfl (by simp [d2, d4])
        have d6 : Dn L 6 := ready_nil hr hsz (i := 6) rfl (by simp [d0, d1, d2, d3, d4, d5])
        obtain rfl := e6 d6
        refine Met.intro (hK _ _ (Met.intro (hJ _ _ ?_)))
        repeat apply Exists.intro
        refine ⟨?_, rfl⟩
        exact ⟨rfl, hB⟩
    case rest =>
      obtain ⟨rfl, hbw⟩ := hcut
      have H6 := Lib.hid (H5.out.below hbw)
      clear H5 hbw q0 qh HAB HPT
      generalize ckText (m + 1) (pruneOf X) = D at *
      obtain ⟨n0, n1, g0, g1⟩ := blk2 H6.out.ks
      obtain ⟨r0, r1, f0, f1⟩ := blk2 H6.out.kr
      obtain ⟨S, hS⟩ : ∃ S, S = bstr D := ⟨_, rfl⟩
      have hSl : S.size = D.length := by rw [hS, bstr_size]
      have hSS : strV D = .string S := by unfold strV; rw [hS]
      have HEX : Hid (∀ q : Nat, S.extract 0 q = bstr (D.take q)) := fun q => by
        have h := bstr_of (S.extract 0 q)
        rw [ext_take, hS, bstr_list] at h
        rw [hS]; exact h.symm
      have HS := Lib.hid hS
      rw [hSS]
      clear hS hSS
      have hTL := HTL.out
      by_cases hp0 : 0 ≤ p
      · by_cases hp2 : p < (S.size : Int)
        · have HCT : Hid (cutTo p D = D.take p.toNat) := cutTo_in ⟨hp0, by omega⟩
          rw [HCT.out, ← HEX.out] at HCB HCA
          obtain ⟨Z, hZ⟩ : ∃ Z, Z = S.extract 0 p.toNat := ⟨_, rfl⟩
          rw [← hZ] at HCB HCA
          have hsl : ∀ W, (Instr.slice 9 (.string S) none (some (.int .i64 p)) none).run Tryz.prog W = .ok (.string Z) W := fun W => by
            rw [hZ, run_slice_string_to_if W 9 S .i64 p Tryz.underlying9, if_pos ⟨hp0, by omega⟩]
          clear hZ HEX HCT HS
          cases hsel : ckSel a b with
          | true =>
            have HC := Lib.hid (HCB.out hsel)
            clear HCA HCB
            go_wp2_with fail
            refine bodyPost_ret (v := slotsV a Z) (by simp [results, Tryz.results54, go_sem, r0, r1]) rfl ?_
            exact ⟨by rw [HC.out.1, HC.out.2], ((H6.out.bel.setCell (by dsimp only; omega) _).setCell (by dsimp only; omega) _).setCell (by dsimp only; omega) _⟩
          | false =>
            have HC := Lib.hid (HCA.out hsel)
            clear HCA HCB
            go_wp2_with fail
            refine bodyPost_ret (v := slotsV Z b) (by simp [results, Tryz.results54, go_sem, r0, r1]) rfl ?_
            exact ⟨by rw [HC.out.1, HC.out.2], ((H6.out.bel.setCell (by dsimp only; omega) _).setCell (by dsimp only; omega) _).setCell (by dsimp only; omega) _⟩
        · have HCT : Hid (bstr (cutTo p D) = S) := by show _ = _; rw [cutTo_all (fun h => by omega), HS.out]
          rw [HCT.out] at HCB HCA
          have hp2' : (S.size : Int) ≤ p := by omega
          clear HEX HCT HS
          cases hsel : ckSel a b with
          | true =>
            have HC := Lib.hid (HCB.out hsel)
            clear HCA HCB
            go_wp2_with fail
            refine bodyPost_ret (v := slotsV a S) (by simp [results, Tryz.results54, go_sem, r0, r1]) rfl ?_
            exact ⟨by rw [HC.out.1, HC.out.2], ((H6.out.bel.setCell (by dsimp only; omega) _).setCell (by dsimp only; omega) _).setCell (by dsimp only; omega) _⟩
          | false =>
            have HC := Lib.hid (HCA.out hsel)
            clear HCA HCB
            go_wp2_with fail
            refine bodyPost_ret (v := slotsV S b) (by simp [results, Tryz.results54, go_sem, r0, r1]) rfl ?_
            exact ⟨by rw [HC.out.1, HC.out.2], ((H6.out.bel.setCell (by dsimp only; omega) _).setCell (by dsimp only; omega) _).setCell (by dsimp only; omega) _⟩
      · have HCT : Hid (bstr (cutTo p D) = S) := by show _ = _; rw [cutTo_all (fun h => by omega), HS.out]
        rw [HCT.out] at HCB HCA
        have hp0' : p < 0 := by omega
        clear HEX HCT HS
        cases hsel : ckSel a b with
        | true =>
          have HC := Lib.hid (HCB.out hsel)
          clear HCA HCB
          go_wp2_with fail
          refine bodyPost_ret (v := slotsV a S) (by simp [results, Tryz.results54, go_sem, r0, r1]) rfl ?_
          exact ⟨by rw [HC.out.1, HC.out.2], ((H6.out.bel.setCell (by dsimp only; omega) _).setCell (by dsimp only; omega) _).setCell (by dsimp only; omega) _⟩
        | false =>
          have HC := Lib.hid (HCA.out hsel)
          clear HCA HCB
          go_wp2_with fail
          refine bodyPost_ret (v := slotsV S b) (by simp [results, Tryz.results54, go_sem, r0, r1]) rfl ?_
          exact ⟨by rw [HC.out.1, HC.out.2], ((H6.out.bel.setCell (by dsimp only; omega) _).setCell (by dsimp only; omega) _).setCell (by dsimp only; omega) _⟩
end Go.Proofs.YtloaeglmngcenaaGreatDoor

namespace Go.Proofs.YtloaeglmngcenaaGreatDoor
open Go.RowKit
open Bt (Rc)

def CkL8 (Fr : Value → Value → Value → Value → Value → Value → Value → Act) (U : World) (a0 b0 RA RB : ByteArray) (a2 : Int) (A1 : Option Addr) (n1 c1 : Nat) (X1 : List Rc) (L : Array Bool) (x : Act) (u : World) : Prop :=
  L.size = 8 ∧ (Dn L 7 → ∀ j, j < 7 → Dn L j) ∧ ∃ (s8 s21 s22 s23 s24 s25 s26 : Value) (gn : Nat), x = Fr s8 s21 s22 s23 s24 s25 s26 ∧ Below U.heap.size U u ∧
    (Dn L 0 → s21 = slotsV a0 b0) ∧
    (Dn L 1 → s22 = slotsV a0 b0) ∧
    (Dn L 2 → s23 = .agg #[.slice A1 n1 c1]) ∧
    (Dn L 3 → ¬ Dn L 7 → (∃ A' : Option Addr, s24 = .agg #[.slice A' n1 n1] ∧ RdRc u u.heap.size A' n1 X1)) ∧
    (Dn L 4 → s25 = .int .i64 a2) ∧
    (Dn L 5 → s26 = slotsV RA RB) ∧
    (Dn L 6 → (s8 = .pointer (some ⟨gn, 0, none⟩) ∧ U.heap.size ≤ gn)) ∧
    (Dn L 6 → ¬ Dn L 7 → IsBlk u gn 88 [.string ⟨#[]⟩, .string ⟨#[]⟩]) ∧
    (Dn L 7 → IsBlk u gn 88 [.string RA, .string RB])
def CkL10 (Fr : Value → Value → Value → Value → Value → Value → Act) (U : World) (a0 b0 RA RB : ByteArray) (a2 : Int) (A1 : Option Addr) (n1 : Nat) (L : Array Bool) (x : Act) (u : World) : Prop :=
  L.size = 7 ∧ (Dn L 6 → ∀ j, j < 6 → Dn L j) ∧ ∃ (s10 s29 s30 s31 s32 s33 : Value) (gn : Nat), x = Fr s10 s29 s30 s31 s32 s33 ∧ Below U.heap.size U u ∧
    (Dn L 0 → s29 = slotsV a0 b0) ∧
    (Dn L 1 → s30 = slotsV a0 b0) ∧
    (Dn L 2 → s31 = .agg #[.slice A1 n1 n1]) ∧
    (Dn L 3 → s32 = .int .i64 a2) ∧
    (Dn L 4 → s33 = slotsV RA RB) ∧
    (Dn L 5 → (s10 = .pointer (some ⟨gn, 0, none⟩) ∧ U.heap.size ≤ gn)) ∧
    (Dn L 5 → ¬ Dn L 6 → IsBlk u gn 88 [.string ⟨#[]⟩, .string ⟨#[]⟩]) ∧
    (Dn L 6 → IsBlk u gn 88 [.string RA, .string RB])
end Go.Proofs.YtloaeglmngcenaaGreatDoor
