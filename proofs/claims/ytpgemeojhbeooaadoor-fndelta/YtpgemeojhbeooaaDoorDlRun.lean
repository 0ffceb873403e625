/-
  The steps of a delta, found: withInsertion and stepsTo of the program.
-/
import Derived.Test.YtpgemeojhbeooaaDoorProg
import Derived.KernelRfl
import Derived.Test.YtpgemeojhbeooaaDoorDlMatch
import Derived.Test.YtpgemeojhbeooaaDoorDlStepsB
import Derived.OwnWalk
namespace Go.Proofs.YtpgemeojhbeooaaDoor
open Go.RowKit
open Bt (Dop)

theorem conv_rdl {w : World} {B n c : Nat} {A : Option Addr} {l : List UInt8} (h : RdL w B A n l) (hn : 0 < n) : (convert 22 9 (.slice A n c)).run Tryd.prog w = .ok (strV l) w := by
  obtain ⟨hl, hr⟩ := h
  obtain ⟨g, off, rfl, -, hc⟩ := hr hn
  subst hl
  refine run_convert_bytes_back w 22 9 5 _ c l Tryd.underlying22 Tryd.underlying5 Tryd.underlying9 fun j hj => ?_
  rw [add_off]
  exact hc j hj

set_option maxHeartbeats 2000000 in
theorem withInsertion_any (lo : Nat) (w0 : World) (st : List Dop) (v : Value) (A : Option Addr) (m c : Nat) (t : List UInt8) (w : World) (hown : w.ownsRow lo 52 1 v st.length (st.map stepV)) (hbel : Below lo w0 w) (hlo : lo ≤ w.heap.size)
    (hst : st.length ≤ 1000000) (hm : m ≤ 100000) (hR : RdL w w.heap.size A m t) :
    Calls Tryd.prog 52 #[v, .slice A m c] w fun e w' => ∃ v', e = .returned v' ∧ w'.ownsRow lo 52 1 v' (st ++ Bt.insOf t).length ((st ++ Bt.insOf t).map stepV) ∧ Below lo w0 w' := by
  have HOW := Lib.hid hown; have HB := Lib.hid hbel
  by_cases h0 : m = 0
  · subst h0
    have ht : t = [] := List.eq_nil_of_length_eq_zero hR.1
    subst ht
    have HE : Hid (st ++ Bt.insOf [] = st) := by show _ = _; rw [Bt.insOf_nil, List.append_nil]
    clear hown hbel hR
    rw [HE.out]
    go_enter Tryd.func52, Tryd.ntmps52
    go_wp2
    go_ret
    exact ⟨v, rfl, HOW.out, HB.out⟩
  · have hconv := conv_rdl (c := c) hR (by omega)
    have ht : t ≠ [] := fun e => h0 (by rw [← hR.1, e]; rfl)
    have HE : Hid (st ++ Bt.insOf t = st ++ [⟨0, 0, bstr t⟩]) := by show _ = _; rw [Bt.insOf_some ht]
    have hz : (((m : Nat) : Int) == 0) = false := by simp; omega
    clear hown hbel hR ht
    rw [HE.out]
    have HY : Hid (Value.iface 104 (.agg #[strV t]) = stepV ⟨0, 0, bstr t⟩) := (stepV_ins (o := ⟨0, 0, bstr t⟩) rfl).symm
    go_enter Tryd.func52, Tryd.ntmps52
    go_wp2_with (at_builtin; refine wpList_append_one stepV stepV_one rfl _ _ 49 52 _ 16 step_one rfl HOW.out HB.out hlo rfl rfl ⟨0, 0, bstr t⟩ HY.out (by omega) (by omega) ?_; intro v' w3 ho3 hb3; have HB3 := Lib.hid hb3; have HO3 := Lib.hid ho3; clear hb3 ho3)
    go_ret
    refine ⟨v', rfl, ?_, HB3.out⟩
    rw [List.length_append]
    exact HO3.out

theorem insOf_one (t : List UInt8) : (Bt.insOf t).length ≤ 1 := by unfold Bt.insOf; split <;> simp
/-- what stepsTo answers -/
def RetRun (b t : List UInt8) (w : World) (e : Ending) (w' : World) : Prop :=
  ∃ v, e = .returned v ∧ w'.ownsRow w.heap.size 52 1 v (Bt.dlOf b t).length ((Bt.dlOf b t).map stepV) ∧ Below w.heap.size w w'

set_option maxHeartbeats 4000000 in
set_option maxRecDepth 100000 in
theorem stepsTo_any (A1 A2 : Option Addr) (n m ca cb : Nat) (b t : List UInt8) (w : World) (hn : n ≤ 1000) (hm : m ≤ 1000) (hca : n ≤ ca) (hcb : m ≤ cb) (h1 : RdL w w.heap.size A1 n b) (h2 : RdL w w.heap.size A2 m t) :
    Calls Tryd.prog 26 #[.slice A1 n ca, .slice A2 m cb] w (RetRun b t w) := by
  have H1 := Lib.hid h1; have H2 := Lib.hid h2
  have HL2 := Lib.hid h2.1
  clear h1 h2
  go_enter Tryd.func26, Tryd.ntmps26
  go_wp2
  go_loopw [5, 6, 7] (fun s d i wr => ∃ (at_ md : Nat) (st : List Dop) (v : Value), at_ ≤ m ∧ md ≤ at_ ∧ st.length ≤ at_ ∧ v = s ∧ d = .int .i64 (md : Nat) ∧ i = .int .i64 (at_ : Nat) ∧ Hid (Bt.dlRun b t at_ md st = Bt.dlOf b t) ∧ Hid (wr.ownsRow w.heap.size 52 1 v st.length (st.map stepV)) ∧ Hid (Below w.heap.size w wr)) (fun _ _ i wr => m - (intOf i).toNat)
  case atStart => exact ⟨0, 0, [], _, Nat.zero_le _, Nat.zero_le _, Nat.zero_le _, rfl, rfl, rfl, rfl, own_noneD _ _ _, Below.refl _ _⟩
  case round =>
    obtain ⟨at_, md, st, v, hat, hmd, hst, rfl, rfl, rfl, HRUN, HOW, HW⟩ := hrel
    by_cases hlt : at_ < m
    · obtain ⟨g2, o2, hA2, hg2, -⟩ := (H2.out.below HW.out).2 (by omega)
      subst hA2
      have HR1 := Lib.hid ((H1.out.below HW.out).mono HW.out.size)
      have HR2 := Lib.hid ((H2.out.below HW.out).mono HW.out.size)
      have hatl : at_ < t.length := by have := HL2.out; omega
      have hck : ¬ cb = at_ := by omega
      have hckd : ¬ cb = md := by omega
      have HLM := Lib.hid (longestMatch_any A1 (some ⟨g2, o2 + at_, none⟩) n (m - at_) ca (cb - at_) b (t.drop at_) wr (by omega) (by omega) hca HR1.out (HR2.out.drop at_))
      have hlg := (Bt.lg_le b (t.drop at_)).2
      rw [List.length_drop] at hlg
      have HBY := fun h => Lib.hid (Bt.dlRun_byte (base := b) (made := md) (st := st) hatl h)
      have HCP := fun h => Lib.hid (Bt.dlRun_copy (base := b) (made := md) (st := st) hatl h)
      generalize Bt.lg b (t.drop at_) = L at HLM hlg HBY HCP
      obtain ⟨l1, l2⟩ := L
      simp only at HLM hlg HBY HCP
      have hl2m : at_ + l2 ≤ m := by have := HL2.out; omega
      go_wp2_with fail
      with_reducible refine HLM.out.mono ?_
      rintro e w2 ⟨rfl, hb2⟩
      have HB2 := Lib.hid (HW.out.trans (hb2.mono HW.out.size))
      have HOW2 := Lib.hid (own_belowD HOW.out hb2)
      have HR2' := Lib.hid ((HR2.out.below hb2).mono hb2.size)
      clear hb2 HLM
      by_cases hc : 3 ≤ l2
      · have HS := HCP hc
        clear HBY HCP
        have HCUT : Hid (RdL w2 w2.heap.size (some ⟨g2, o2 + md, none⟩) (at_ - md) (Bt.cutL t md at_)) := (HR2'.out.take (show at_ ≤ m by omega)).drop md
        have HIN := Lib.hid (withInsertion_any w.heap.size w st v (some ⟨g2, o2 + md, none⟩) (at_ - md) (cb - md) (Bt.cutL t md at_) w2 HOW2.out HB2.out HB2.out.size (by omega) (by omega) HCUT.out)
        have hio := insOf_one (Bt.cutL t md at_)
        have hst2 : (st ++ Bt.insOf (Bt.cutL t md at_)).length ≤ at_ + 1 := by rw [List.length_append]; omega
        have hl3 : (st ++ Bt.insOf (Bt.cutL t md at_) ++ [(⟨l1, l2, ⟨#[]⟩⟩ : Dop)]).length ≤ at_ + l2 := by rw [List.length_append]; simp only [List.length_cons, List.length_nil]; omega
        have HY : Hid (Value.iface 84 (.agg #[.int .i64 ((l1 : Nat) : Int), .int .i64 ((l2 : Nat) : Int)]) = stepV ⟨l1, l2, ⟨#[]⟩⟩) := (stepV_cp (o := ⟨l1, l2, ⟨#[]⟩⟩) (by simp only; omega)).symm
        generalize st ++ Bt.insOf (Bt.cutL t md at_) = st2 at HS HIN hst2 hl3
        clear hio
        go_wp2_with fail
        with_reducible refine HIN.out.mono ?_
        rintro e w3 ⟨v3, rfl, ho3, hb3⟩
        have HB3 := Lib.hid hb3; have HOW3 := Lib.hid ho3
        have hsz3 := hb3.size
        clear hb3 ho3
        go_wp2_with (at_builtin; refine wpList_append_one stepV stepV_one rfl _ _ 49 52 _ 16 step_one rfl HOW3.out HB3.out hsz3 rfl rfl ⟨l1, l2, ⟨#[]⟩⟩ HY.out (by omega) (by omega) ?_; intro v' w4 ho4 hb4; have HB4 := Lib.hid hb4; have HO4 := Lib.hid ho4; clear hb4 ho4)
        go_roundw
        case rel => exact ⟨at_ + l2, at_ + l2, _, _, hl2m, Nat.le_refl _, hl3, rfl, by go_num, by go_num, HS.out.symm.trans HRUN.out, by rw [List.length_append]; exact HO4, HB4⟩
        case measure => simp [intOf]; omega
      · have HS := HBY hc
        have hc' : l2 < 3 := by omega
        clear HBY HCP
        go_wp2
        go_roundw
        case rel => exact ⟨at_ + 1, md, st, v, by omega, by omega, by omega, rfl, rfl, by go_num, HS.out.symm.trans HRUN.out, HOW2, HB2⟩
        case measure => simp [intOf]; omega
    · obtain rfl : at_ = m := by omega
      have HEND : Hid (Bt.dlOf b t = st ++ Bt.insOf (Bt.cutL t md t.length)) := HRUN.out.symm.trans (Bt.dlRun_end (by have := HL2.out; omega))
      by_cases hmd2 : md < at_
      · obtain ⟨g2, o2, hA2, hg2, -⟩ := (H2.out.below HW.out).2 (by omega)
        subst hA2
        have HR2 := Lib.hid ((H2.out.below HW.out).mono HW.out.size)
        have hckd : ¬ cb = md := by omega
        have HCUT : Hid (RdL wr wr.heap.size (some ⟨g2, o2 + md, none⟩) (at_ - md) (Bt.cutL t md t.length)) := by
          show RdL _ _ _ _ _
          rw [Bt.cutL_all]; exact HR2.out.drop md
        have HIN := Lib.hid (withInsertion_any w.heap.size w st v (some ⟨g2, o2 + md, none⟩) (at_ - md) (cb - md) (Bt.cutL t md t.length) wr HOW.out HW.out HW.out.size (by omega) (by omega) HCUT.out)
        go_wp2_with fail
        with_reducible refine HIN.out.mono ?_
        rintro e w3 ⟨v3, rfl, ho3, hb3⟩
        have HB3 := Lib.hid hb3; have HOW3 := Lib.hid ho3
        clear hb3 ho3
        go_wp2
        go_ret
        exact ⟨v3, rfl, by rw [HEND.out]; exact HOW3.out, HB3.out⟩
      · obtain rfl : md = at_ := by omega
        have HE2 : Hid (Bt.dlOf b t = st ++ Bt.insOf []) := by show _ = _; rw [HEND.out, show t.length = md from HL2.out, Bt.cutL_same]
        have HIN : Hid (∀ (A : Option Addr) (c : Nat), Calls Tryd.prog 52 #[v, .slice A 0 c] wr fun e w' => ∃ v', e = .returned v' ∧ w'.ownsRow w.heap.size 52 1 v' (st ++ Bt.insOf []).length ((st ++ Bt.insOf []).map stepV) ∧ Below w.heap.size w w') := fun A c =>
          withInsertion_any w.heap.size w st v A 0 c [] wr HOW.out HW.out HW.out.size (by omega) (by omega) ⟨rfl, fun h => absurd h (by omega)⟩
        by_cases hcc : cb = md
        all_goals
          rcases A2 with _ | ⟨g2, o2, sp⟩
          all_goals
            go_wp2_with fail
            refine (HIN.out _ _).mono ?_
            rintro e w3 ⟨v3, rfl, ho3, hb3⟩
            have HB3 := Lib.hid hb3; have HOW3 := Lib.hid ho3
            clear hb3 ho3
            go_wp2
            go_ret
            exact ⟨v3, rfl, by rw [HE2.out]; exact HOW3.out, HB3.out⟩
end Go.Proofs.YtpgemeojhbeooaaDoor
