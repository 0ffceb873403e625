/-
  The contracts of Unseal, of the program and of the model, and of the law's comparison of two results.
-/
import Derived.Test.YtloaeglmngcenaaGreatDoorProg
import Derived.KernelRfl
import Derived.Test.YtloaeglmngcenaaGreatDoorBtText
import Derived.WalkKit
import Derived.Lib.Hide
import Derived.Lib.QuietBelow
import Derived.BigQuiet
namespace Go.Proofs.YtloaeglmngcenaaGreatDoor
open Go.RowKit

/-- a TextOut as a value -/
abbrev toutV (t : List UInt8) (at_ code : Int) : Value := .agg #[strV t, .int .i64 at_, .int .i64 code]

theorem str_eq {a b : ByteArray} (h : a.data.toList = b.data.toList) : (a.toList == b.toList) = true := by rw [ByteArray.toList_eq, ByteArray.toList_eq, h]; simp
theorem str_ne {a b : ByteArray} (h : ¬ a.data.toList = b.data.toList) : (a.toList == b.toList) = false := by rw [ByteArray.toList_eq, ByteArray.toList_eq]; simpa using h
theorem ext_take (s : ByteArray) (k : Nat) : (s.extract 0 k).data.toList = s.data.toList.take k := by simp
theorem ext_drop (s : ByteArray) (k : Nat) : (s.extract k s.size).data.toList = s.data.toList.drop k := by
  have : s.data.size = s.size := rfl
  simp [List.take_of_length_le, this]
theorem ext_size {s : ByteArray} {k : Nat} (h : k ≤ s.size) : (s.extract 0 k).size = k := by
  have : (s.extract 0 k).data.toList.length = k := by rw [ext_take, List.length_take, len_list]; omega
  exact this

set_option maxHeartbeats 2000000 in
theorem impl_unseal_any (s : ByteArray) (w : World) (hs : s.size ≤ maxLen) :
    Calls Tryz.prog 243 #[.string s] w fun e w' => e = .returned (toutV (Bt.opened s).1 0 (Bt.opened s).2) ∧ Below w.heap.size w w' := by
  unfold maxLen at hs
  by_cases h1 : 8000 < s.size
  · rw [Bt.opened_long h1]
    go_enter Tryz.func243, Tryz.ntmps243
    go_wp2
    exact bodyPost_ret (v := toutV [] 0 2) (by simp [results, Tryz.results243, go_sem]; rfl) rfl ⟨rfl, (Below.refl _ _).alloc (Nat.le_refl _) _⟩
  by_cases h2 : s.size < 4
  · rw [Bt.opened_short h2]
    go_enter Tryz.func243, Tryz.ntmps243
    go_wp2
    exact bodyPost_ret (v := toutV [] 0 4) (by simp [results, Tryz.results243, go_sem]; rfl) rfl ⟨rfl, (Below.refl _ _).alloc (Nat.le_refl _) _⟩
  by_cases h3 : Bt.sum (s.data.toList.take (s.size - 4)) = s.data.toList.drop (s.size - 4)
  · rw [Bt.opened_ok h1 h2 h3]
    have hq : ((bstr (Bt.sum (List.take (s.size - 4) s.data.toList))).toList == (s.extract (s.size - 4) s.size).toList) = true := str_eq (by rw [bstr_list, ext_drop, h3])
    clear h3
    go_enter Tryz.func243, Tryz.ntmps243
    go_wp2
    generalize hW : w.alloc (Obj.cells #[Value.string { data := #[] }, Value.int IntKind.i64 0, Value.int IntKind.i64 0] 131) = W
    have hbW : Below w.heap.size w W := by rw [← hW]; exact (Below.refl _ _).alloc (Nat.le_refl _) _
    have hkW : IsBlk W w.heap.size 131 [Value.string { data := #[] }, Value.int IntKind.i64 0, Value.int IntKind.i64 0] := by rw [← hW]; exact isBlk_new w _ _
    have HBW := Lib.hid hbW; have HKW := Lib.hid hkW
    clear hW hbW hkW
    refine wp_region_quiet_below (by kernel_rfl) (by kernel_rfl) ?_
    repeat (go_big_quiet_step ((go_at_call 222; exact Calls.regrown_of (sumOf_any _ _ (by rw [ext_size (by omega)]; omega)))))
    refine wpQuiet_nil ?_
    intro w2 hw'
    have hb2 : Below W.heap.size W w2 := by obtain ⟨⟨dq, osq⟩, rfl⟩ := hw'; exact below_regrown W dq osq
    clear hw'
    have HB2 := Lib.hid (HBW.out.trans (hb2.mono HBW.out.size))
    have hk2 := HKW.out.below hb2 HKW.out.lt
    have HK2 := Lib.hid hk2
    clear hb2 hk2
    go_wp2_with fail
    refine (assemble_any [s.extract 0 (s.size - 4)] _ 0 1 _ (parts_one w2 _ _) (by simp) (by simp) (by rw [flat_one, len_list, ext_size (by omega)]; omega)).mono ?_
    rintro e w3 ⟨rfl, hb3⟩
    have HB3 := Lib.hid (HB2.out.trans (((Below.refl _ _).alloc HB2.out.size _).trans (hb3.mono (by have := HB2.out.size; simp; omega))))
    have hk3 := (HK2.out.alloc _).below hb3 (by have := HK2.out.lt; simp; omega)
    have hc0 : w3.cell? ⟨w.heap.size, 0, none⟩ = some _ := hk3.cell rfl
    have hc1 : w3.cell? ⟨w.heap.size, 1, none⟩ = some _ := hk3.cell rfl
    have hc2 : w3.cell? ⟨w.heap.size, 2, none⟩ = some _ := hk3.cell rfl
    have hf0 : w3.frozen? ⟨w.heap.size, 0, none⟩ = false := hk3.free
    have hf1 : w3.frozen? ⟨w.heap.size, 1, none⟩ = false := hk3.free
    have hf2 : w3.frozen? ⟨w.heap.size, 2, none⟩ = false := hk3.free
    clear hb3 hk3
    go_wp2
    exact bodyPost_ret (v := toutV (flat [s.extract 0 (s.size - 4)]) 0 0) (by simp [results, Tryz.results243, go_sem, hc0, hc1, hc2]) rfl ⟨by rw [flat_one, ext_take], ((HB3.out.setCell (Nat.le_refl _) _).setCell (Nat.le_refl _) _).setCell (Nat.le_refl _) _⟩
  · rw [Bt.opened_bad h1 h2 h3]
    have hq : ((bstr (Bt.sum (List.take (s.size - 4) s.data.toList))).toList == (s.extract (s.size - 4) s.size).toList) = false := str_ne (by rw [bstr_list, ext_drop]; exact h3)
    clear h3
    go_enter Tryz.func243, Tryz.ntmps243
    go_wp2
    generalize hW : w.alloc (Obj.cells #[Value.string { data := #[] }, Value.int IntKind.i64 0, Value.int IntKind.i64 0] 131) = W
    have hbW : Below w.heap.size w W := by rw [← hW]; exact (Below.refl _ _).alloc (Nat.le_refl _) _
    have hkW : IsBlk W w.heap.size 131 [Value.string { data := #[] }, Value.int IntKind.i64 0, Value.int IntKind.i64 0] := by rw [← hW]; exact isBlk_new w _ _
    have HBW := Lib.hid hbW; have HKW := Lib.hid hkW
    clear hW hbW hkW
    refine wp_region_quiet_below (by kernel_rfl) (by kernel_rfl) ?_
    repeat (go_big_quiet_step ((go_at_call 222; exact Calls.regrown_of (sumOf_any _ _ (by rw [ext_size (by omega)]; omega)))))
    refine wpQuiet_nil ?_
    intro w2 hw'
    have hb2 : Below W.heap.size W w2 := by obtain ⟨⟨dq, osq⟩, rfl⟩ := hw'; exact below_regrown W dq osq
    clear hw'
    have HB2 := Lib.hid (HBW.out.trans (hb2.mono HBW.out.size))
    have hk2 := HKW.out.below hb2 HKW.out.lt
    have hc0 : w2.cell? ⟨w.heap.size, 0, none⟩ = some _ := hk2.cell rfl
    have hc1 : w2.cell? ⟨w.heap.size, 1, none⟩ = some _ := hk2.cell rfl
    have hc2 : w2.cell? ⟨w.heap.size, 2, none⟩ = some _ := hk2.cell rfl
    have hf0 : w2.frozen? ⟨w.heap.size, 0, none⟩ = false := hk2.free
    have hf1 : w2.frozen? ⟨w.heap.size, 1, none⟩ = false := hk2.free
    have hf2 : w2.frozen? ⟨w.heap.size, 2, none⟩ = false := hk2.free
    clear hb2 hk2
    go_wp2
    exact bodyPost_ret (v := toutV [] 0 5) (by simp [results, Tryz.results243, go_sem, hc0, hc1, hc2]; rfl) rfl ⟨rfl, ((HB2.out.setCell (Nat.le_refl _) _).setCell (Nat.le_refl _) _).setCell (Nat.le_refl _) _⟩

theorem Calls.regrown_same {P : Program} {f : FuncId} {args : Array Value} {w : World} {d : Nat} {os : Array Obj} {v : Value}
    (h : Calls P f args (Sort.grow (redrawn w d) os) fun e w' => e = .returned v ∧ (Sort.grow (redrawn w d) os) = w') : Calls P f args (Sort.grow (redrawn w d) os) fun e w'' => e = .returned v ∧ ∃ p : Regrown, w'' = Sort.grow (redrawn w p.d) p.os :=
  h.mono fun _ _ ⟨he, hb⟩ => ⟨he, ⟨⟨d, os⟩, hb.symm⟩⟩

set_option maxHeartbeats 2000000 in
theorem spec_unseal_any (s : ByteArray) (w : World) (hs : s.size ≤ maxLen) :
    Calls Tryz.prog 99 #[.string s] w fun e w' => e = .returned (toutV (Bt.opened s).1 0 (Bt.opened s).2) ∧ Below w.heap.size w w' := by
  unfold maxLen at hs
  by_cases h1 : 8000 < s.size
  · rw [Bt.opened_long h1]
    go_enter Tryz.func99, Tryz.ntmps99
    go_wp2
    exact bodyPost_ret (v := toutV [] 0 2) (by simp [results, Tryz.results99, go_sem]; rfl) rfl ⟨rfl, (Below.refl _ _).alloc (Nat.le_refl _) _⟩
  by_cases h2 : s.size < 4
  · rw [Bt.opened_short h2]
    go_enter Tryz.func99, Tryz.ntmps99
    go_wp2
    exact bodyPost_ret (v := toutV [] 0 4) (by simp [results, Tryz.results99, go_sem]; rfl) rfl ⟨rfl, (Below.refl _ _).alloc (Nat.le_refl _) _⟩
  by_cases h3 : Bt.sum (s.data.toList.take (s.size - 4)) = s.data.toList.drop (s.size - 4)
  · rw [Bt.opened_ok h1 h2 h3]
    have hq : ((bstr (Bt.four (Bt.crcMore 0 (List.take (s.size - 4) s.data.toList)))).toList == (s.extract (s.size - 4) s.size).toList) = true := str_eq (by rw [bstr_list, ext_drop]; exact h3)
    clear h3
    go_enter Tryz.func99, Tryz.ntmps99
    go_wp2
    generalize hW : w.alloc (Obj.cells #[Value.string { data := #[] }, Value.int IntKind.i64 0, Value.int IntKind.i64 0] 131) = W
    have hbW : Below w.heap.size w W := by rw [← hW]; exact (Below.refl _ _).alloc (Nat.le_refl _) _
    have hkW : IsBlk W w.heap.size 131 [Value.string { data := #[] }, Value.int IntKind.i64 0, Value.int IntKind.i64 0] := by rw [← hW]; exact isBlk_new w _ _
    have HBW := Lib.hid hbW; have HKW := Lib.hid hkW
    clear hW hbW hkW
    refine wp_region_quiet_below (by kernel_rfl) (by kernel_rfl) ?_
    repeat (go_big_quiet_step (first | (go_at_call 172; exact Calls.regrown_same (l01Crc_any 0 _ _ (by rw [ext_size (by omega)]; unfold maxLen; omega) (by omega))) | (go_at_call 171; exact Calls.regrown_of (l01Four_any _ _ (Bt.crcMore_lt (by omega))))))
    refine wpQuiet_nil ?_
    intro w2 hw'
    have hb2 : Below W.heap.size W w2 := by obtain ⟨⟨dq, osq⟩, rfl⟩ := hw'; exact below_regrown W dq osq
    clear hw'
    have HB2 := Lib.hid (HBW.out.trans (hb2.mono HBW.out.size))
    have hk2 := HKW.out.below hb2 HKW.out.lt
    have HK2 := Lib.hid hk2
    have hc0 : w2.cell? ⟨w.heap.size, 0, none⟩ = some _ := hk2.cell rfl
    have hc1 : w2.cell? ⟨w.heap.size, 1, none⟩ = some _ := hk2.cell rfl
    have hc2 : w2.cell? ⟨w.heap.size, 2, none⟩ = some _ := hk2.cell rfl
    have hf0 : w2.frozen? ⟨w.heap.size, 0, none⟩ = false := hk2.free
    have hf1 : w2.frozen? ⟨w.heap.size, 1, none⟩ = false := hk2.free
    have hf2 : w2.frozen? ⟨w.heap.size, 2, none⟩ = false := hk2.free
    clear hb2 hk2 HK2
    go_wp2
    exact bodyPost_ret (v := .agg #[.string (s.extract 0 (s.size - 4)), .int .i64 0, .int .i64 0]) (by simp [results, Tryz.results99, go_sem, hc0, hc1, hc2]) rfl ⟨by rw [← ext_take]; unfold toutV strV; rw [bstr_of], ((HB2.out.setCell (Nat.le_refl _) _).setCell (Nat.le_refl _) _).setCell (Nat.le_refl _) _⟩
  · rw [Bt.opened_bad h1 h2 h3]
    have hq : ((bstr (Bt.four (Bt.crcMore 0 (List.take (s.size - 4) s.data.toList)))).toList == (s.extract (s.size - 4) s.size).toList) = false := str_ne (by rw [bstr_list, ext_drop]; exact h3)
    clear h3
    go_enter Tryz.func99, Tryz.ntmps99
    go_wp2
    generalize hW : w.alloc (Obj.cells #[Value.string { data := #[] }, Value.int IntKind.i64 0, Value.int IntKind.i64 0] 131) = W
    have hbW : Below w.heap.size w W := by rw [← hW]; exact (Below.refl _ _).alloc (Nat.le_refl _) _
    have hkW : IsBlk W w.heap.size 131 [Value.string { data := #[] }, Value.int IntKind.i64 0, Value.int IntKind.i64 0] := by rw [← hW]; exact isBlk_new w _ _
    have HBW := Lib.hid hbW; have HKW := Lib.hid hkW
    clear hW hbW hkW
    refine wp_region_quiet_below (by kernel_rfl) (by kernel_rfl) ?_
    repeat (go_big_quiet_step (first | (go_at_call 172; exact Calls.regrown_same (l01Crc_any 0 _ _ (by rw [ext_size (by omega)]; unfold maxLen; omega) (by omega))) | (go_at_call 171; exact Calls.regrown_of (l01Four_any _ _ (Bt.crcMore_lt (by omega))))))
    refine wpQuiet_nil ?_
    intro w2 hw'
    have hb2 : Below W.heap.size W w2 := by obtain ⟨⟨dq, osq⟩, rfl⟩ := hw'; exact below_regrown W dq osq
    clear hw'
    have HB2 := Lib.hid (HBW.out.trans (hb2.mono HBW.out.size))
    have hk2 := HKW.out.below hb2 HKW.out.lt
    have hc0 : w2.cell? ⟨w.heap.size, 0, none⟩ = some _ := hk2.cell rfl
    have hc1 : w2.cell? ⟨w.heap.size, 1, none⟩ = some _ := hk2.cell rfl
    have hc2 : w2.cell? ⟨w.heap.size, 2, none⟩ = some _ := hk2.cell rfl
    have hf0 : w2.frozen? ⟨w.heap.size, 0, none⟩ = false := hk2.free
    have hf1 : w2.frozen? ⟨w.heap.size, 1, none⟩ = false := hk2.free
    have hf2 : w2.frozen? ⟨w.heap.size, 2, none⟩ = false := hk2.free
    clear hb2 hk2
    go_wp2
    exact bodyPost_ret (v := toutV [] 0 5) (by simp [results, Tryz.results99, go_sem, hc0, hc1, hc2]; rfl) rfl ⟨rfl, ((HB2.out.setCell (Nat.le_refl _) _).setCell (Nat.le_refl _) _).setCell (Nat.le_refl _) _⟩

end Go.Proofs.YtloaeglmngcenaaGreatDoor
