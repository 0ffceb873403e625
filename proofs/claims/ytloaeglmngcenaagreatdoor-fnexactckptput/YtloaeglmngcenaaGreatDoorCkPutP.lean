/-
  CkptPut and MountWith, the plain mathematics: what lies in the slots behind it, what MountWith answers. No condition.
-/
import Derived.Test.YtloaeglmngcenaaGreatDoorCkPure
import Derived.Test.YtloaeglmngcenaaGreatDoorHsKeep
namespace Go.Proofs.YtloaeglmngcenaaGreatDoor
open Bt (Rc)

theorem ckPrune_right {X : List Rc} (h : hRight X = true) : hRight (pruneOf X) = true := by
  rw [pruneOf_yes h]; exact (right_pre h X.length (Nat.le_refl _)).1
/-- what is written: as much of a text as the power lets -/
def cutTo (p : Int) (l : List UInt8) : List UInt8 := if 0 ≤ p ∧ p < l.length then l.take p.toNat else l
theorem cutTo_in {p : Int} {l : List UInt8} (h : 0 ≤ p ∧ p < l.length) : cutTo p l = l.take p.toNat := by unfold cutTo; rw [if_pos h]
theorem cutTo_all {p : Int} {l : List UInt8} (h : ¬ (0 ≤ p ∧ p < l.length)) : cutTo p l = l := by unfold cutTo; rw [if_neg h]
theorem cutTo_len (p : Int) (l : List UInt8) : (cutTo p l).length ≤ l.length := by
  unfold cutTo; split
  · simp; omega
  · exact Nat.le_refl _
/-- whether anything is written -/
def cpGo (a b : ByteArray) (X : List Rc) (p : Int) : Prop := slotB a b = true ∧ hRight X = true ∧ -1 ≤ p ∧ ckRNum (ckTxt a b) ≠ 1000000
instance (a b : ByteArray) (X : List Rc) (p : Int) : Decidable (cpGo a b X p) := by unfold cpGo; infer_instance
noncomputable def cpNew (a b : ByteArray) (X : List Rc) (p : Int) : List UInt8 := cutTo p (ckText (ckRNum (ckTxt a b) + 1) (pruneOf X))
/-- the slots behind it -/
noncomputable def cpA (a b : ByteArray) (X : List Rc) (p : Int) : ByteArray := if cpGo a b X p ∧ ckSel a b = false then bstr (cpNew a b X p) else a
noncomputable def cpB (a b : ByteArray) (X : List Rc) (p : Int) : ByteArray := if cpGo a b X p ∧ ckSel a b = true then bstr (cpNew a b X p) else b
theorem cp_no {a b : ByteArray} {X : List Rc} {p : Int} (h : ¬ cpGo a b X p) : cpA a b X p = a ∧ cpB a b X p = b := by
  unfold cpA cpB; rw [if_neg (fun h' => h h'.1), if_neg (fun h' => h h'.1)]; exact ⟨rfl, rfl⟩
theorem cp_a {a b : ByteArray} {X : List Rc} {p : Int} (h : cpGo a b X p) (hs : ckSel a b = true) : cpA a b X p = a ∧ cpB a b X p = bstr (cpNew a b X p) := by
  unfold cpA cpB; rw [if_neg (by rw [hs]; simp), if_pos ⟨h, hs⟩]; exact ⟨rfl, rfl⟩
theorem cp_b {a b : ByteArray} {X : List Rc} {p : Int} (h : cpGo a b X p) (hs : ckSel a b = false) : cpA a b X p = bstr (cpNew a b X p) ∧ cpB a b X p = b := by
  unfold cpA cpB; rw [if_pos ⟨h, hs⟩, if_neg (by rw [hs]; simp)]; exact ⟨rfl, rfl⟩
theorem ckRNum_range (t : ByteArray) : 0 ≤ ckRNum t ∧ ckRNum t ≤ 1000000 := by
  by_cases h : ckCode t = 0
  · have := (ck_facts t).1 h; omega
  · have := ((ck_facts t).2 h).1; omega
theorem ckBytes_text {num : Int} {X : List Rc} (h1 : 1 ≤ num ∧ num ≤ 1000000) (h : hRight X = true) : ckBytes num X = ckText num X := by
  unfold ckBytes; rw [if_pos (ckB_iff.2 ⟨h1, h⟩)]
end Go.Proofs.YtloaeglmngcenaaGreatDoor
