/-
  deskTable, wordCount of the program; l08Shape of the model.
-/
import Derived.Test.YtdeagcdafcfimaaGreatDoorProg
import Derived.KernelRfl
import Derived.Test.YtdeagcdafcfimaaGreatDoorBtMem
import Derived.Test.YtdeagcdafcfimaaGreatDoorDkText
import Derived.WalkKit
import Derived.Lib.Hide
namespace Go.Proofs.YtdeagcdafcfimaaGreatDoor
open Go.RowKit

theorem wordCount_any (k : Nat) (w : World) (hk : k ≤ 3) : Calls Tryz.prog 171 #[.int .i64 (k : Nat)] w fun e w' => e = .returned (.int .i64 ((if k = 0 then 0 else if k = 1 then 1 else 2 : Nat) : Nat)) ∧ w' = w := by
  match k, hk with
  | 0, _ => go_enter Tryz.func171, Tryz.ntmps171; go_wp2; go_ret; exact ⟨rfl, rfl⟩
  | 1, _ => go_enter Tryz.func171, Tryz.ntmps171; go_wp2; go_ret; exact ⟨rfl, rfl⟩
  | 2, _ => go_enter Tryz.func171, Tryz.ntmps171; go_wp2; go_ret; exact ⟨rfl, rfl⟩
  | 3, _ => go_enter Tryz.func171, Tryz.ntmps171; go_wp2; go_ret; exact ⟨rfl, rfl⟩

/-- the method of each word -/
def dkFnNo : Nat → Nat
  | 0 => 71 | 1 => 72 | 2 => 73 | 3 => 74 | 4 => 75 | 5 => 76
  | 6 => 77 | 7 => 78 | 8 => 79 | 9 => 80 | 10 => 81 | _ => 82
def dkFn (k : Nat) : Value := .func (.func (dkFnNo k)) #[] #[]
def dkWord (k : Nat) : List UInt8 := dkWords.getD k []
def tblAt (k : Nat) : List Value := [strV (dkWord k), .int .i64 ((dkKind k : Nat) : Int), dkFn k]
def tbl : List Value := [0, 1, 2, 3, 4, 5, 6, 7, 8, 9, 10, 11].flatMap tblAt
theorem tbl_at {k : Nat} (hk : k < 12) : tbl[k * 3]? = some (strV (dkWord k)) ∧ tbl[k * 3 + 1]? = some (.int .i64 ((dkKind k : Nat) : Int)) ∧ tbl[k * 3 + 2]? = some (dkFn k) := by
  match k, hk with
  | 0, _ => exact ⟨rfl, rfl, rfl⟩ | 1, _ => exact ⟨rfl, rfl, rfl⟩ | 2, _ => exact ⟨rfl, rfl, rfl⟩ | 3, _ => exact ⟨rfl, rfl, rfl⟩
  | 4, _ => exact ⟨rfl, rfl, rfl⟩ | 5, _ => exact ⟨rfl, rfl, rfl⟩ | 6, _ => exact ⟨rfl, rfl, rfl⟩ | 7, _ => exact ⟨rfl, rfl, rfl⟩
  | 8, _ => exact ⟨rfl, rfl, rfl⟩ | 9, _ => exact ⟨rfl, rfl, rfl⟩ | 10, _ => exact ⟨rfl, rfl, rfl⟩ | 11, _ => exact ⟨rfl, rfl, rfl⟩
theorem deskTable_any (w : World) : Calls Tryz.prog 29 #[] w fun e w' => e = .returned (.slice (some ⟨w.heap.size, 0, none⟩) 12 12) ∧ w' = w.alloc (.cells tbl.toArray 72) := by
  go_enter Tryz.func29, Tryz.ntmps29
  go_wp2
  go_ret
  exact ⟨rfl, rfl⟩
/-- which word a text is, or none -/
theorem dkNo_cases (l : List UInt8) : (∃ k, k < 12 ∧ l = dkWord k ∧ dkNo l = some k) ∨ (dkNo l = none ∧ ∀ k, k < 12 → l ≠ dkWord k) := by
  unfold dkNo
  by_cases h : dkWords.idxOf l < 12
  · left
    refine ⟨_, h, ?_, by rw [if_pos h]⟩
    have hl : dkWords.idxOf l < dkWords.length := h
    have := List.getElem_idxOf hl
    unfold dkWord
    rw [List.getD_eq_getElem?_getD, List.getElem?_eq_getElem hl, Option.getD_some, this]
  · right
    refine ⟨by rw [if_neg h], fun k hk e => h ?_⟩
    have hm : l ∈ dkWords := by
      have hl : k < dkWords.length := hk
      rw [e]; unfold dkWord; rw [List.getD_eq_getElem?_getD, List.getElem?_eq_getElem hl, Option.getD_some]; exact List.getElem_mem hl
    exact List.idxOf_lt_length_of_mem hm
/-- the model's shapes -/
def shp : Nat → List UInt8
  | 0 => [] | 1 => [110] | 2 => [110, 110] | _ => [110, 119]
set_option maxHeartbeats 2000000 in
theorem l08Shape_yes (k : Nat) (hk : k < 12) (w : World) :
    Calls Tryz.prog 43 #[.string (bstr (dkWord k))] w fun e w' => e = .returned (.tuple #[strV (shp (dkKind k)), .bool true]) ∧ w' = w := by
  match k, hk with
  | 0, _ => change Calls Tryz.prog 43 #[.string ⟨#[119, 114, 105, 116, 101]⟩] w _; go_enter Tryz.func43, Tryz.ntmps43; go_wp2; go_ret2; exact ⟨rfl, rfl⟩
  | 1, _ => change Calls Tryz.prog 43 #[.string ⟨#[116, 114, 105, 109]⟩] w _; go_enter Tryz.func43, Tryz.ntmps43; go_wp2; go_ret2; exact ⟨rfl, rfl⟩
  | 2, _ => change Calls Tryz.prog 43 #[.string ⟨#[114, 111, 108, 108]⟩] w _; go_enter Tryz.func43, Tryz.ntmps43; go_wp2; go_ret2; exact ⟨rfl, rfl⟩
  | 3, _ => change Calls Tryz.prog 43 #[.string ⟨#[116, 105, 99, 107]⟩] w _; go_enter Tryz.func43, Tryz.ntmps43; go_wp2; go_ret2; exact ⟨rfl, rfl⟩
  | 4, _ => change Calls Tryz.prog 43 #[.string ⟨#[114, 101, 97, 100]⟩] w _; go_enter Tryz.func43, Tryz.ntmps43; go_wp2; go_ret2; exact ⟨rfl, rfl⟩
  | 5, _ => change Calls Tryz.prog 43 #[.string ⟨#[97, 116]⟩] w _; go_enter Tryz.func43, Tryz.ntmps43; go_wp2; go_ret2; exact ⟨rfl, rfl⟩
  | 6, _ => change Calls Tryz.prog 43 #[.string ⟨#[116, 105, 109, 101, 115]⟩] w _; go_enter Tryz.func43, Tryz.ntmps43; go_wp2; go_ret2; exact ⟨rfl, rfl⟩
  | 7, _ => change Calls Tryz.prog 43 #[.string ⟨#[114, 97, 105, 115, 101]⟩] w _; go_enter Tryz.func43, Tryz.ntmps43; go_wp2; go_ret2; exact ⟨rfl, rfl⟩
  | 8, _ => change Calls Tryz.prog 43 #[.string ⟨#[103, 99]⟩] w _; go_enter Tryz.func43, Tryz.ntmps43; go_wp2; go_ret2; exact ⟨rfl, rfl⟩
  | 9, _ => change Calls Tryz.prog 43 #[.string ⟨#[99, 117, 116]⟩] w _; go_enter Tryz.func43, Tryz.ntmps43; go_wp2; go_ret2; exact ⟨rfl, rfl⟩
  | 10, _ => change Calls Tryz.prog 43 #[.string ⟨#[116, 111, 114, 110]⟩] w _; go_enter Tryz.func43, Tryz.ntmps43; go_wp2; go_ret2; exact ⟨rfl, rfl⟩
  | 11, _ => change Calls Tryz.prog 43 #[.string ⟨#[114, 111, 111, 109]⟩] w _; go_enter Tryz.func43, Tryz.ntmps43; go_wp2; go_ret2; exact ⟨rfl, rfl⟩
theorem str_not {s : ByteArray} {l : List UInt8} (h : s.data.toList ≠ l) : (s.toList == l) = false := by rw [ByteArray.toList_eq]; simpa using h
theorem str_is {s : ByteArray} {l : List UInt8} (h : s.data.toList = l) : (s.toList == l) = true := by rw [ByteArray.toList_eq]; simpa using h
theorem l08Shape_no (s : ByteArray) (h : ∀ k, k < 12 → s.data.toList ≠ dkWord k) (w : World) :
    Calls Tryz.prog 43 #[.string s] w fun e w' => e = .returned (.tuple #[strV [], .bool false]) ∧ w' = w := by
  have b0 : (s.toList == [119, 114, 105, 116, 101]) = false := str_not (h 0 (by decide))
  have b1 : (s.toList == [116, 114, 105, 109]) = false := str_not (h 1 (by decide))
  have b2 : (s.toList == [114, 111, 108, 108]) = false := str_not (h 2 (by decide))
  have b3 : (s.toList == [116, 105, 99, 107]) = false := str_not (h 3 (by decide))
  have b4 : (s.toList == [114, 101, 97, 100]) = false := str_not (h 4 (by decide))
  have b5 : (s.toList == [97, 116]) = false := str_not (h 5 (by decide))
  have b6 : (s.toList == [116, 105, 109, 101, 115]) = false := str_not (h 6 (by decide))
  have b7 : (s.toList == [114, 97, 105, 115, 101]) = false := str_not (h 7 (by decide))
  have b8 : (s.toList == [103, 99]) = false := str_not (h 8 (by decide))
  have b9 : (s.toList == [99, 117, 116]) = false := str_not (h 9 (by decide))
  have b10 : (s.toList == [116, 111, 114, 110]) = false := str_not (h 10 (by decide))
  have b11 : (s.toList == [114, 111, 111, 109]) = false := str_not (h 11 (by decide))
  clear h
  go_enter Tryz.func43, Tryz.ntmps43
  go_wp2
  go_ret2
  exact ⟨rfl, rfl⟩
end Go.Proofs.YtdeagcdafcfimaaGreatDoor
