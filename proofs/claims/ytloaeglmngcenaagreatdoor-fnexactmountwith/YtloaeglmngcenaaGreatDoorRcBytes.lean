/-
  The contracts of RecBytes and of what it calls, of the program and of the model.
-/
import Derived.Test.YtloaeglmngcenaaGreatDoorProg
import Derived.KernelRfl
import Derived.Test.YtloaeglmngcenaaGreatDoorBtText
import Derived.Test.YtloaeglmngcenaaGreatDoorRcRight
import Derived.WalkKit
import Derived.Lib.Hide
import Derived.Laws.RangeString
import Derived.Lib.QuietBelow
import Derived.BigQuiet
namespace Go.Proofs.YtloaeglmngcenaaGreatDoor
open Go.RowKit
open Bt (Rc)

/-- the letters of the numbers of a record -/
def letterAt (j : Nat) : Int := match j with | 0 => 107 | 1 => 115 | 2 => 113 | 3 => 116 | _ => 111

set_option maxHeartbeats 2000000 in
theorem numberOf_any (g j : Nat) (w : World) (hj : j < 5) : Calls Tryz.prog 155 #[.pointer (some ⟨g, 0, none⟩), .int .i32 (letterAt j)] w fun e w' => e = .returned (.pointer (some ⟨g, j, none⟩)) ∧ w = w' := by
  match j, hj with
  | 0, _ | 1, _ | 2, _ | 3, _ | 4, _ =>
    all_goals
      go_enter Tryz.func155, Tryz.ntmps155
      go_wp2
      go_ret
      exact ⟨rfl, rfl⟩

/-- the numbers of a record in their order -/
def Bt.Rc.num (r : Rc) (j : Nat) : Int := match j with | 0 => r.k | 1 => r.s | 2 => r.q | 3 => r.t | _ => r.o
/-- the encodings of the first numbers -/
def headTo (r : Rc) : Nat → List UInt8
  | 0 => []
  | j + 1 => headTo r j ++ Bt.putNum (r.num j)
theorem headTo_length (r : Rc) (j : Nat) : (headTo r j).length ≤ 10 * j := by
  induction j with
  | zero => simp [headTo]
  | succ j ih => have := (Bt.putNum_length (r.num j)).2; simp only [headTo, List.length_append]; omega
theorem headTo_body (r : Rc) : headTo r 5 ++ Bt.putText r.d = r.body := by simp [headTo, Bt.Rc.body, Bt.Rc.num, List.append_assoc]

/-! a string that is ranged over, its reader in a block that need not be the newest -/
def setIter (w : World) (g : Nat) (s : ByteArray) (pos : Nat) : World := { w with heap := w.heap.setIfInBounds g (.stringIter s pos) }
def IterAt (w : World) (g : Nat) (s : ByteArray) (pos : Nat) : Prop := w.heap[g]? = some (.stringIter s pos)
def iterPos (w : World) (g : Nat) : Nat := match w.heap[g]? with | some (.stringIter _ p) => p | _ => 0
theorem IterAt.pos {w : World} {g : Nat} {s : ByteArray} {p : Nat} (h : IterAt w g s p) : iterPos w g = p := by unfold IterAt at h; simp [iterPos, h]
theorem IterAt.lt {w : World} {g : Nat} {s : ByteArray} {p : Nat} (h : IterAt w g s p) : g < w.heap.size := lt_of_block h
theorem IterAt.below {w w' : World} {g B : Nat} {s : ByteArray} {p : Nat} (h : IterAt w g s p) (hb : Below B w w') (hg : g < B) : IterAt w' g s p := (hb.block g hg).trans h
theorem IterAt.set {w : World} {g : Nat} {s : ByteArray} {p : Nat} (h : IterAt w g s p) (q : Nat) : IterAt (setIter w g s q) g s q := by
  have := h.lt
  unfold IterAt setIter
  simp [this]
theorem setIter_size (w : World) (g : Nat) (s : ByteArray) (p : Nat) : (setIter w g s p).heap.size = w.heap.size := by simp [setIter]
theorem setIter_block (w : World) (g : Nat) (s : ByteArray) (p k : Nat) (h : k ≠ g) : (setIter w g s p).heap[k]? = w.heap[k]? := by
  simp only [setIter]
  rw [Array.getElem?_setIfInBounds]
  rw [if_neg (fun e => h e.symm)]
theorem bel_setIter {B : Nat} {w0 w : World} (h : Below B w0 w) {g : Nat} (hg : B ≤ g) (s : ByteArray) (p : Nat) : Below B w0 (setIter w g s p) :=
  ⟨h.os, h.tape, h.output, by rw [setIter_size]; exact h.size, fun k hk => (setIter_block w g s p k (by omega)).trans (h.block k hk)⟩
theorem IsBlk.setIter' {w : World} {g : Nat} {e : TypeId} {cs : List Value} (h : IsBlk w g e cs) {k : Nat} (hk : g ≠ k) (s : ByteArray) (p : Nat) : IsBlk (setIter w k s p) g e cs := (setIter_block w k s p g hk).trans h
theorem run_next_in {P : Program} {w : World} {g : Nat} {s : ByteArray} {pos : Nat} (ty : TypeId) (hi : IterAt w g s pos) (h : pos < s.size) (ha : (s[pos]'h).toNat < 128) :
    (Instr.next (.pointer (some ⟨g, 0, none⟩)) true ty).run P w = .ok (.tuple #[.bool true, .int .i64 pos, .int .i32 (s[pos]'h).toNat]) (setIter w g s (pos + 1)) := by
  unfold IterAt at hi
  simp only [Instr.next, getObj, setObj, Sem.run_bind, Sem.run, hi, Result.andThen, h, if_true, decode_ascii s pos h ha]
  simp [goInt, setIter]
theorem run_next_out {P : Program} {w : World} {g : Nat} {s : ByteArray} {pos : Nat} (ty : TypeId) (hi : IterAt w g s pos) (h : ¬ pos < s.size) :
    (Instr.next (.pointer (some ⟨g, 0, none⟩)) true ty).run P w = .ok (.tuple #[.bool false]) w := by
  unfold IterAt at hi
  simp [Instr.next, getObj, Sem.run, hi, h]
/-- the text of the letters -/
def letters : ByteArray := ⟨#[107, 115, 113, 116, 111]⟩
theorem letters_at {j : Nat} (h : j < 5) : ∃ h' : j < letters.size, (letters[j]'h').toNat < 128 ∧ (((letters[j]'h').toNat : Nat) : Int) = letterAt j := by
  match j, h with
  | 0, _ => exact ⟨by decide, by decide, by decide⟩
  | 1, _ => exact ⟨by decide, by decide, by decide⟩
  | 2, _ => exact ⟨by decide, by decide, by decide⟩
  | 3, _ => exact ⟨by decide, by decide, by decide⟩
  | 4, _ => exact ⟨by decide, by decide, by decide⟩
/-- the next letter -/
theorem next_letter {P : Program} {w : World} {g j : Nat} (ty : TypeId) (hi : IterAt w g letters j) (h : j < 5) :
    (Instr.next (.pointer (some ⟨g, 0, none⟩)) true ty).run P w = .ok (.tuple #[.bool true, .int .i64 j, .int .i32 (letterAt j)]) (setIter w g letters (j + 1)) := by
  obtain ⟨h', ha, he⟩ := letters_at h
  rw [run_next_in ty hi h' ha, he]
theorem num_cell {w : World} {g : Nat} {e : TypeId} {r : Rc} (h : IsBlk w g e (recC r)) {j : Nat} (hj : j < 5) : w.cell? ⟨g, j, none⟩ = some (.int .i64 (r.num j)) := by
  match j, hj with
  | 0, _ => exact h.cell rfl
  | 1, _ => exact h.cell rfl
  | 2, _ => exact h.cell rfl
  | 3, _ => exact h.cell rfl
  | 4, _ => exact h.cell rfl
theorem num_small {r : Rc} (h : r.Ok) (j : Nat) : -9223372036854775808 ≤ r.num j ∧ r.num j ≤ 9223372036854775807 := by
  obtain ⟨h1, h2, h3, h4, h5, h6, h7, h8, h9, h10, -⟩ := h
  unfold Rc.num
  split <;> omega

set_option maxHeartbeats 8000000 in
theorem impl_recBytes_any (r : Rc) (w : World) (hd : r.d.size ≤ maxLen) : Calls Tryz.prog 78 #[recV r] w fun e w' => e = .returned (strV r.bytes) ∧ Below w.heap.size w w' := by
  generalize hbs : r.bytes = bs
  have HBS := Lib.hid hbs; clear hbs
  go_enter Tryz.func78, Tryz.ntmps78
  go_wp2_with fail
  refine (impl_recRight_any r _ hd).mono ?_
  rintro e w1 ⟨rfl, hb1⟩
  obtain ⟨HB1, HK1⟩ := rcStep ((Below.refl w.heap.size w).alloc (Nat.le_refl _) _) (isBlk_new w 34 (recC r)) hb1
  clear hb1
  by_cases hok : r.Ok
  case neg =>
    rw [decide_eq_false hok]
    go_wp2
    go_ret
    exact ⟨by rw [← HBS.out, Bt.Rc.bytes_bad hok]; rfl, HB1.out⟩
  rw [decide_eq_true hok]
  have HOk := Lib.hid hok
  clear hok
  go_wp2
  generalize hW : w1.iter _ 0 = W
  have HBW : Hid (Below w.heap.size w W) := by rw [← hW]; exact HB1.out.alloc HB1.out.size _
  have HKW : Hid (IsBlk W w.heap.size 34 (recC r)) := by rw [← hW]; exact HK1.out.alloc _
  have HIW : Hid (IterAt W w1.heap.size letters 0) := by rw [← hW]; exact World.iter_heap w1 _ 0
  have hlt1 : w.heap.size < w1.heap.size := HK1.out.lt
  clear hW
  go_loopw [3] (fun s wr => ∃ j : Nat, j ≤ 5 ∧ s = strV (headTo r j) ∧ IsBlk wr w.heap.size 34 (recC r) ∧ IterAt wr w1.heap.size letters j ∧ Below w.heap.size w wr) (fun _ wr => 5 - iterPos wr w1.heap.size)
  case atStart => exact ⟨0, by omega, rfl, HKW.out, HIW.out, HBW.out⟩
  case round =>
    obtain ⟨j, hj, rfl, hk, hi, hb⟩ := hrel
    have hpos := hi.pos
    have HK := Lib.hid hk; have HB := Lib.hid hb; have HI := Lib.hid hi
    clear hk hi hb
    by_cases hlt : j < 5
    · have hnext := next_letter (P := Tryz.prog) 0 HI.out hlt
      obtain ⟨wn, hwn⟩ : ∃ wn, wn = setIter wr w1.heap.size letters (j + 1) := ⟨_, rfl⟩
      rw [← hwn] at hnext
      have HKn : Hid (IsBlk wn w.heap.size 34 (recC r)) := by rw [hwn]; exact HK.out.setIter' (by omega) _ _
      have HIn : Hid (IterAt wn w1.heap.size letters (j + 1)) := by rw [hwn]; exact HI.out.set _
      have HBn : Hid (Below w.heap.size w wn) := by rw [hwn]; exact bel_setIter HB.out (by omega) _ _
      clear hwn
      go_wp2_with fail
      refine (numberOf_any _ j _ hlt).mono ?_
      rintro e w2 ⟨rfl, rfl⟩
      have hc := num_cell HKn.out hlt
      obtain ⟨hn1, hn2⟩ := num_small HOk.out j
      go_wp2_with fail
      refine (impl_putNum_any _ _ hn1 hn2).mono ?_
      rintro e w3 ⟨rfl, hb3⟩
      obtain ⟨HB3, HK3⟩ := rcStep HBn.out HKn.out hb3
      have HI3 := Lib.hid (HIn.out.below hb3 HIn.out.lt)
      clear hb3 hc
      have hl1 := headTo_length r j
      have hl2 := (Bt.putNum_length (r.num j)).2
      go_wp2_with fail
      refine (assemble_any [bstr (headTo r j), bstr (Bt.putNum (r.num j))] _ 0 2 _ (parts_two w3 _ _ _) (by simp) (by simp) (by rw [flat_two, bstr_list, bstr_list, List.length_append]; omega)).mono ?_
      rintro e w4 ⟨rfl, hb4⟩
      obtain ⟨HB4, HK4⟩ := rcStep (HB3.out.alloc HB3.out.size _) (HK3.out.alloc _) hb4
      have HI4 := Lib.hid (IterAt.below (HI3.out.below ((Below.refl _ _).alloc (Nat.le_refl _) _) HI3.out.lt) hb4 (by have := HI3.out.lt; simp; omega))
      clear hb4
      go_wp2
      go_roundw
      case rel => exact ⟨j + 1, by omega, by rw [flat_two, bstr_list, bstr_list]; rfl, HK4.out, HI4.out, HB4.out⟩
      case measure => rw [HI4.out.pos, hpos]; omega
    · obtain rfl : j = 5 := by omega
      have hend := run_next_out (P := Tryz.prog) 0 HI.out (by decide)
      obtain ⟨hc0, hc1, hc2, hc3, hc4, hc5⟩ := rcCells HK.out
      go_wp2_with fail
      refine (impl_putText_any _ _ hd).mono ?_
      rintro e w2 ⟨rfl, hb2⟩
      have HB2 := Lib.hid (HB.out.trans (hb2.mono HB.out.size))
      clear hb2 hc0 hc1 hc2 hc3 hc4 hc5
      have hbl := Bt.Rc.body_length HOk.out
      have hfl : flat [bstr (headTo r 5), bstr (Bt.putText r.d)] = r.body := by rw [flat_two, bstr_list, bstr_list, headTo_body]
      go_wp2_with fail
      refine (assemble_any [bstr (headTo r 5), bstr (Bt.putText r.d)] _ 0 2 _ (parts_two w2 _ _ _) (by simp) (by simp) (by rw [hfl]; omega)).mono ?_
      rintro e w3 ⟨rfl, hb3⟩
      rw [hfl]
      have HB3 := Lib.hid (HB2.out.trans (((Below.refl _ _).alloc HB2.out.size _).trans (hb3.mono (by have := HB2.out.size; simp; omega))))
      clear hb3 hfl
      go_wp2_with fail
      refine (impl_seal_any _ _ (by rw [bstr_size]; unfold maxLen; omega)).mono ?_
      rintro e w4 ⟨rfl, hb4⟩
      have HB4 := Lib.hid (HB3.out.trans (hb4.mono HB3.out.size))
      clear hb4
      go_wp2
      go_ret
      exact ⟨by rw [← HBS.out, Bt.Rc.bytes_ok HOk.out]; rfl, HB4.out⟩

set_option maxHeartbeats 8000000 in
theorem l03Bytes_any (r : Rc) (w : World) (hok : r.Ok) : Calls Tryz.prog 88 #[recV r] w fun e w' => e = .returned (strV r.bytes) ∧ Below w.heap.size w w' := by
  have HOk := Lib.hid hok
  have hbl := Bt.Rc.body_length hok
  obtain ⟨h1, h2, h3, h4, h5, h6, h7, h8, h9, h10, h11, -⟩ := hok
  have p1 := (Bt.putNum_length r.k).2; have p2 := (Bt.putNum_length r.s).2; have p3 := (Bt.putNum_length r.q).2; have p4 := (Bt.putNum_length r.t).2; have p5 := (Bt.putNum_length r.o).2
  have p6 : (Bt.putText r.d).length ≤ 30 := by
    rw [Bt.putText_ok (by omega), List.length_append, len_list]; have := (Bt.putNum_length (r.d.size : Int)).2; omega
  have hadd : ∀ (a b : List UInt8) (_ : a.length + b.length ≤ 1000) (w : World), (Op.stringOp .add (bstr a) (bstr b)).run Tryz.prog w = .ok (strV (a ++ b)) w := by
    intro a b h w
    have := add_str (P := Tryz.prog) w (bstr a) (bstr b) (by rw [bstr_size, bstr_size]; omega)
    rwa [bstr_list, bstr_list] at this
  have q1 := hadd (Bt.putNum r.k) (Bt.putNum r.s) (by omega)
  have q2 := hadd (Bt.putNum r.k ++ Bt.putNum r.s) (Bt.putNum r.q) (by simp only [List.length_append]; omega)
  have q3 := hadd (Bt.putNum r.k ++ Bt.putNum r.s ++ Bt.putNum r.q) (Bt.putNum r.t) (by simp only [List.length_append]; omega)
  have q4 := hadd (Bt.putNum r.k ++ Bt.putNum r.s ++ Bt.putNum r.q ++ Bt.putNum r.t) (Bt.putNum r.o) (by simp only [List.length_append]; omega)
  have q5 := hadd (Bt.putNum r.k ++ Bt.putNum r.s ++ Bt.putNum r.q ++ Bt.putNum r.t ++ Bt.putNum r.o) (Bt.putText r.d) (by simp only [List.length_append]; omega)
  have hfl : Bt.putNum r.k ++ Bt.putNum r.s ++ Bt.putNum r.q ++ Bt.putNum r.t ++ Bt.putNum r.o ++ Bt.putText r.d = r.body := by simp [Bt.Rc.body, List.append_assoc]
  rw [hfl] at q5
  clear hadd hfl
  generalize Bt.putNum r.k ++ Bt.putNum r.s = A1 at q1 q2 q3 q4 q5
  generalize A1 ++ Bt.putNum r.q = A2 at q2 q3 q4 q5
  generalize A2 ++ Bt.putNum r.t = A3 at q3 q4 q5
  generalize A3 ++ Bt.putNum r.o = A4 at q4 q5
  go_enter Tryz.func88, Tryz.ntmps88
  go_wp2_with fail
  generalize hW : w.alloc _ = W
  have HBW : Hid (Below w.heap.size w W) := by rw [← hW]; exact (Below.refl _ _).alloc (Nat.le_refl _) _
  have HKW : Hid (IsBlk W w.heap.size 34 (recC r)) := by rw [← hW]; exact isBlk_new w _ _
  clear hW
  obtain ⟨hc0, hc1, hc2, hc3, hc4, hc5⟩ := rcCells HKW.out
  have hc0' := cell_regrown hc0; have hc1' := cell_regrown hc1; have hc2' := cell_regrown hc2; have hc3' := cell_regrown hc3; have hc4' := cell_regrown hc4; have hc5' := cell_regrown hc5
  refine wp_region_quiet_below (by kernel_rfl) (by kernel_rfl) ?_
  repeat (go_big_quiet_step (first | (go_at_call 162; exact Calls.regrown_of (spec_putNum_any _ _ (by omega) (by omega))) | (go_at_call 163; exact Calls.regrown_of (spec_putText_any _ _ (by unfold maxLen; omega))) | (go_at_call 161; exact Calls.regrown_of (spec_seal_any _ _ (by rw [bstr_size]; unfold maxLen; omega)))))
  refine wpQuiet_nil ?_
  intro w2 hw'
  have hb2 : Below W.heap.size W w2 := by obtain ⟨⟨dq, osq⟩, rfl⟩ := hw'; exact below_regrown W dq osq
  clear hw'
  have HB2 := Lib.hid (HBW.out.trans (hb2.mono HBW.out.size))
  clear hb2
  go_wp2
  go_ret
  exact ⟨by rw [Bt.Rc.bytes_ok HOk.out]; rfl, HB2.out⟩

set_option maxHeartbeats 4000000 in
theorem spec_recBytes_any (r : Rc) (w : World) (hd : r.d.size ≤ maxLen) : Calls Tryz.prog 49 #[recV r] w fun e w' => e = .returned (strV r.bytes) ∧ Below w.heap.size w w' := by
  generalize hbs : r.bytes = bs
  have HBS := Lib.hid hbs; clear hbs
  go_enter Tryz.func49, Tryz.ntmps49
  go_wp2_with fail
  refine (spec_recRight_any r _ hd).mono ?_
  rintro e w1 ⟨rfl, hb1⟩
  obtain ⟨HB1, HK1⟩ := rcStep ((Below.refl w.heap.size w).alloc (Nat.le_refl _) _) (isBlk_new w 34 (recC r)) hb1
  clear hb1
  by_cases hok : r.Ok
  case neg =>
    rw [decide_eq_false hok]
    go_wp2
    go_ret
    exact ⟨by rw [← HBS.out, Bt.Rc.bytes_bad hok]; rfl, HB1.out⟩
  rw [decide_eq_true hok]
  have HOk := Lib.hid hok
  clear hok
  obtain ⟨hc0, hc1, hc2, hc3, hc4, hc5⟩ := rcCells HK1.out
  go_wp2_with fail
  refine (l03Bytes_any r _ HOk.out).mono ?_
  rintro e w2 ⟨rfl, hb2⟩
  have HB2 := Lib.hid (HB1.out.trans (hb2.mono HB1.out.size))
  clear hb2
  go_wp2
  go_ret
  exact ⟨by rw [← HBS.out]; rfl, HB2.out⟩
end Go.Proofs.YtloaeglmngcenaaGreatDoor
