/-
  l01Split of the model: a text cut at each byte.
-/
import Derived.Test.YtdeagcdafcfimaaGreatDoorProg
import Derived.KernelRfl
import Derived.Test.YtdeagcdafcfimaaGreatDoorBtMem
import Derived.Test.YtdeagcdafcfimaaGreatDoorDkText
import Derived.Test.YtdeagcdafcfimaaGreatDoorDkStr
import Derived.Test.YtdeagcdafcfimaaGreatDoorLgPut
import Derived.Test.YtdeagcdafcfimaaGreatDoorNdUse
import Derived.WalkKit
import Derived.Lib.Hide
namespace Go.Proofs.YtdeagcdafcfimaaGreatDoor
open Go.RowKit

theorem ext_bstr (s : ByteArray) (a b : Nat) : s.extract a b = bstr ((s.data.toList.take b).drop a) := by
  have h : (s.extract a b).data.toList = (s.data.toList.take b).drop a := by
    rw [Lib.extract_data]; simp [List.drop_take]
  rw [← bstr_of (s.extract a b), h]
theorem one_string : OneInfo Tryz.prog 27 9 (.string ByteArray.empty) 16 := ⟨Tryz.underlying27, info_string, rfl⟩
/-- the pieces of the first k bytes, and where the next one begins -/
structure Cutting (c : UInt8) (l : List UInt8) (k f : Nat) (P : List (List UInt8)) : Prop where
  fk : f ≤ k
  kl : k ≤ l.length
  len : P.length ≤ k
  whole : pcs c l = P ++ pcs c (l.drop f)
  clean : c ∉ (l.take k).drop f
theorem Cutting.zero (c : UInt8) (l : List UInt8) : Cutting c l 0 0 [] := ⟨Nat.le_refl _, Nat.zero_le _, by simp, by simp, by simp⟩
theorem Cutting.other {c : UInt8} {l : List UInt8} {k f : Nat} {P : List (List UInt8)} (h : Cutting c l k f P) (hk : k < l.length) (hc : l[k] ≠ c) : Cutting c l (k + 1) f P := by
  refine ⟨by have := h.fk; omega, hk, by have := h.len; omega, h.whole, ?_⟩
  rw [List.take_succ_eq_append_getElem hk, List.drop_append, List.length_take]
  have hz : f - min k l.length = 0 := by have := h.fk; omega
  rw [hz, List.drop_zero]
  intro hm
  rcases List.mem_append.1 hm with hm | hm
  · exact h.clean hm
  · exact hc (List.mem_singleton.1 hm).symm
theorem Cutting.cut {c : UInt8} {l : List UInt8} {k f : Nat} {P : List (List UInt8)} (h : Cutting c l k f P) (hk : k < l.length) (hc : l[k] = c) : Cutting c l (k + 1) (k + 1) (P ++ [(l.take k).drop f]) := by
  refine ⟨Nat.le_refl _, hk, by have := h.len; simp; omega, ?_, by simp⟩
  have e : l.drop f = (l.take k).drop f ++ c :: l.drop (k + 1) := by
    have h1 : l = l.take k ++ (l[k] :: l.drop (k + 1)) := by rw [List.getElem_cons_drop, List.take_append_drop]
    conv => lhs; rw [h1]
    rw [List.drop_append, List.length_take]
    have hz : f - min k l.length = 0 := by have := h.fk; omega
    rw [hz, List.drop_zero, hc]
  rw [h.whole, e, pcs_append c _ _ h.clean]
  simp
theorem Cutting.done {c : UInt8} {l : List UInt8} {f : Nat} {P : List (List UInt8)} (h : Cutting c l l.length f P) : pcs c l = P ++ [l.drop f] := by
  have := h.clean
  rw [List.take_length] at this
  rw [h.whole, pcs_none c _ this]

theorem oneCell_str (x : ByteArray) : (Value.string x).oneCell' = true := rfl
set_option maxHeartbeats 2000000 in
set_option maxRecDepth 100000 in
theorem l01Split_any (s : ByteArray) (c : UInt8) (w : World) (hs : s.size ≤ 1048576) :
    Calls Tryz.prog 22 #[.string s, .int .u8 c.toNat] w fun e w' => ∃ v, e = .returned v ∧ w'.ownsRow w.heap.size 9 1 v (pcs c s.data.toList).length ((pcs c s.data.toList).map strV) ∧ Below w.heap.size w w' := by
  go_enter Tryz.func22, Tryz.ntmps22
  go_wp2_with fail
  have hown0 := own_empty (w := w) (e := 9) (k := 1) (Nat.le_refl w.heap.size)
  have hb0 := box_below w (.cells #[] 9)
  generalize w.alloc (.cells #[] 9) = W at *
  have HO0 := Lib.hid hown0; have HB0 := Lib.hid hb0
  clear hown0 hb0
  go_loopw [5, 6, 7] (fun v f i wr => ∃ (k fr : Nat) (P : List (List UInt8)) (vv : Value), i = .int .i64 (k : Nat) ∧ f = .int .i64 (fr : Nat) ∧ vv = v ∧ Cutting c s.data.toList k fr P ∧ Hid (wr.ownsRow w.heap.size 9 1 vv P.length ((P.map bstr).map Value.string)) ∧ Hid (Below w.heap.size w wr)) (fun _ _ i _ => s.size - (intOf i).toNat)
  case atStart => exact ⟨0, 0, [], _, rfl, rfl, rfl, Cutting.zero c _, HO0, HB0⟩
  case round =>
    obtain ⟨k, fr, P, vv, rfl, rfl, rfl, HC, HO, HW⟩ := hrel
    have hsz := HW.out.size
    have hkl : k ≤ s.size := HC.kl
    have hfk := HC.fk
    have hPl := HC.len
    by_cases hlt : k < s.size
    · have hb : s[k].toNat < 256 := s[k].toNat_lt
      have hcb : c.toNat < 256 := c.toNat_lt
      have he : s.data.toList[k]'hlt = s[k] := by simp [ByteArray.getElem_eq_getElem_data]
      by_cases hc : s[k] = c
      · have hq : ((s[k].toNat : Int) == (c.toNat : Int)) = true := by rw [hc]; simp
        have HN := Lib.hid (HC.cut hlt (he.trans hc))
        rw [show (s.data.toList.take k).drop fr = (s.data.toList.take k).drop fr from rfl] at HN
        have HX : Hid (Value.string (s.extract fr k) = Value.string (bstr ((s.data.toList.take k).drop fr))) := by show _ = _; rw [ext_bstr]
        go_wp2_with (at_builtin; refine wpList_append_one Value.string oneCell_str rfl _ _ 27 9 _ 16 one_string rfl HO.out HW.out hsz rfl rfl (bstr ((s.data.toList.take k).drop fr)) HX.out (by omega) (by omega) ?_; intro v' w1 ho1 hb1; have HB1 := Lib.hid hb1; have HO1 := Lib.hid ho1; clear hb1 ho1)
        go_roundw
        case rel => exact ⟨k + 1, k + 1, _, _, by go_num, by go_num, rfl, HN.out, by simpa using HO1, HB1⟩
        case measure => simp [intOf]; omega
      · have hq : ((s[k].toNat : Int) == (c.toNat : Int)) = false := by
          have : s[k].toNat ≠ c.toNat := fun e => hc (UInt8.toNat_inj.1 e)
          simp; omega
        have HN := Lib.hid (HC.other hlt (by rw [he]; exact hc))
        go_wp2
        go_roundw
        case rel => exact ⟨k + 1, fr, P, _, by go_num, rfl, rfl, HN.out, HO, HW⟩
        case measure => simp [intOf]; omega
    · obtain rfl : k = s.size := by omega
      have HD := Lib.hid HC.done
      have HX : Hid (Value.string (s.extract fr s.size) = Value.string (bstr (s.data.toList.drop fr))) := by
        show _ = _
        rw [ext_bstr]
        rw [List.take_of_length_le (l := s.data.toList) (i := s.size) (Nat.le_refl _)]
      go_wp2_with (at_builtin; refine wpList_append_one Value.string oneCell_str rfl _ _ 27 9 _ 16 one_string rfl HO.out HW.out hsz rfl rfl (bstr (s.data.toList.drop fr)) HX.out (by omega) (by omega) ?_; intro v' w1 ho1 hb1; have HB1 := Lib.hid hb1; have HO1 := Lib.hid ho1; clear hb1 ho1)
      go_ret
      refine ⟨_, rfl, ?_, HB1.out⟩
      have h := HO1.out
      rw [HD.out]
      simpa [Function.comp_def] using h
end Go.Proofs.YtdeagcdafcfimaaGreatDoor
