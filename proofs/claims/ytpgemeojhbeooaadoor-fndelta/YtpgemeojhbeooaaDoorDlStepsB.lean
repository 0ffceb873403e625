/-
  The steps of a delta, of the program: a list of operations as steps; what a step adds to the result.
-/
import Derived.Test.YtpgemeojhbeooaaDoorProg
import Derived.KernelRfl
import Derived.Test.YtpgemeojhbeooaaDoorDlSteps
import Derived.OwnWalk
namespace Go.Proofs.YtpgemeojhbeooaaDoor
open Go.RowKit
open Bt (Dop dok inB)

theorem step_one : OneInfo Tryd.prog 49 52 .nilIface 16 := ⟨Tryd.underlying49, by kernel_rfl, rfl⟩
theorem stepV_form (o : Dop) : ∃ T y, stepV o = .iface T y := by unfold stepV; split <;> exact ⟨_, _, rfl⟩
/-- steps in memory of the call's own, where the operations have the right forms -/
def RetSteps (w : World) (X : List Dop) (e : Ending) (w' : World) : Prop :=
  ∃ v, e = .returned (.tuple #[v, .bool (Bt.okL X)]) ∧ (Bt.okL X = true → w'.ownsRow w.heap.size 52 1 v X.length (X.map stepV)) ∧ Below w.heap.size w w'
theorem own_belowD {w w' : World} {lo n size : Nat} {e : TypeId} {v : Value} {xs : List Value} (h : w.ownsRow lo e size v n xs) (hb : Below w.heap.size w w') : w'.ownsRow lo e size v n xs := by
  refine ⟨h.1, ?_⟩
  rcases h.2 with h0 | ⟨g, cap, cur, hv, hl, hh, r⟩
  · exact .inl h0
  · exact .inr ⟨g, cap, cur, hv, hl, (hb.block g (lt_of_block hh)).trans hh, r⟩
theorem own_noneD (w : World) (lo : Nat) (e : TypeId) : w.ownsRow lo e 1 (.slice none 0 0) 0 [] := ⟨rfl, .inl ⟨rfl, rfl⟩⟩

set_option maxHeartbeats 2000000 in
theorem stepsOf_any (A : Option Addr) (n ca : Nat) (X : List Dop) (w : World) (hX : ∀ o ∈ X, o.x.size ≤ 9223372036854775807) (hn : n ≤ 9223372036854775807) (hA : RdDo w w.heap.size A n X) :
    Calls Tryd.prog 35 #[.slice A n ca] w (RetSteps w X) := by
  have HA := Lib.hid hA; have HX := Lib.hid hX; clear hA hX
  have HL : Hid (X.length = n) := HA.out.1
  generalize hO : Bt.okL X = O
  have HO := Lib.hid hO; clear hO
  by_cases h40 : n ≤ 40
  case neg =>
    have HF : Hid (O = false) := by show O = false; rw [← HO.out]; exact Bt.okL_long (by have := HL.out; omega)
    have h40' : 40 < n := by omega
    go_enter Tryd.func35, Tryd.ntmps35
    go_wp2
    go_ret2
    exact ⟨.slice none 0 0, by rw [HO.out, HF.out]; rfl, fun h => absurd (HO.out.symm.trans h) (by rw [HF.out]; decide), Below.refl _ _⟩
  go_enter Tryd.func35, Tryd.ntmps35
  go_wp2
  go_loopw [4, 14] (fun s i wr => ∃ (k : Nat) (v : Value), k ≤ n ∧ i = .int .i64 (k : Nat) ∧ v = s ∧ (X.take k).all Bt.dok = true ∧ wr.ownsRow w.heap.size 52 1 v k ((X.take k).map stepV) ∧ Below w.heap.size w wr) (fun _ i _ => n - (intOf i).toNat)
  case atStart => exact ⟨0, _, by omega, rfl, rfl, rfl, own_noneD _ _ _, Below.refl _ _⟩
  case round =>
    obtain ⟨k, v, hk, rfl, rfl, hall, hown, hbel⟩ := hrel
    have HW := Lib.hid hbel; have HALL := Lib.hid hall; have HOW := Lib.hid hown
    clear hall hown
    by_cases hlt : k < n
    · obtain ⟨g, off, rfl, hg, hc0, hc1, hc2⟩ := (HA.out.below hbel).at hlt
      have hds := HX.out _ (getD_lt (z := Dop.zero) (show k < X.length by have := HL.out; omega))
      have HT := Lib.hid (Bt.take_getD (l := X) (k := k) (by have := HL.out; omega))
      have HBAD := fun h => Lib.hid (Bt.okL_bad (l := X) (k := k) (by have := HL.out; omega) h)
      have HSUC := fun h => Lib.hid (Bt.all_take_succ (l := X) (p := Bt.dok) (k := k) (by have := HL.out; omega) HALL.out h)
      clear hbel
      generalize X.getD k Dop.zero = o at hc0 hc1 hc2 hds HT HBAD HSUC
      obtain ⟨T, y, hy⟩ := stepV_form o
      have HCALL := Lib.hid (fun W => stepOf_any o W hds)
      rw [hy] at HCALL
      have HY := Lib.hid hy; clear hy
      go_wp2_with fail
      refine (HCALL.out _).mono ?_
      rintro e w2 ⟨rfl, hb2⟩
      have HB2 : Hid (Below w.heap.size w w2) := (HW.out.alloc HW.out.size _).trans (hb2.mono (by have := HW.out.size; simp; omega))
      have HOW2 : Hid (w2.ownsRow w.heap.size 52 1 v k ((X.take k).map stepV)) := own_belowD (HOW.out.alloc _) hb2
      have hsz := HB2.out.size
      clear hb2
      by_cases hd : Bt.dok o = true
      · go_wp2_with (at_builtin; refine wpList_append_one stepV stepV_one rfl _ _ 49 52 _ 16 step_one rfl HOW2.out HB2.out hsz rfl rfl o HY.out.symm (by omega) (by omega) ?_; intro v' w3 ho3 hb3; have HB3 := Lib.hid hb3; have HO3 := Lib.hid ho3; clear hb3 ho3)
        go_roundw
        case rel => exact ⟨k + 1, _, by omega, by go_num, rfl, (HSUC hd).out, by rw [HT.out]; exact HO3.out, HB3.out⟩
        case measure => simp [intOf]; omega
      · have hd' : Bt.dok o = false := by simpa using hd
        have HF : Hid (O = false) := HO.out.symm.trans (HBAD hd').out
        clear hd HBAD HSUC
        go_wp2
        go_ret2
        exact ⟨.slice none 0 0, by rw [HO.out, HF.out]; rfl, fun h => absurd (HO.out.symm.trans h) (by rw [HF.out]; decide), HB2.out⟩
    · clear hbel
      obtain rfl : k = n := by omega
      have HT : Hid (O = true) := HO.out.symm.trans (Bt.okL_good (by rw [HL.out]; exact h40) (by rw [HL.out]; exact HALL.out))
      go_wp2
      go_ret2
      refine ⟨v, by rw [HO.out, HT.out]; rfl, fun _ => ?_, HW.out⟩
      have h := HOW.out
      have e : X.take k = X := by rw [← HL.out]; exact List.take_length
      rw [e] at h
      rw [HL.out]
      exact h
end Go.Proofs.YtpgemeojhbeooaaDoor
