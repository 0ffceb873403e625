/-
  The laws' own steps over what CkptRead and CkptBest answer: comparing, marking, reading again.
-/
import Derived.Test.YtloaeglmngcenaaGreatDoorProg
import Derived.KernelRfl
import Derived.Test.YtloaeglmngcenaaGreatDoorHsMark
import Derived.Test.YtloaeglmngcenaaGreatDoorHsLaw
import Derived.Test.YtloaeglmngcenaaGreatDoorHsApp
namespace Go.Proofs.YtloaeglmngcenaaGreatDoor
open Go.RowKit
open Bt (Rc)

abbrev ckV (num : Int) (A : Option Addr) (n ca : Nat) (code : Int) : Value := .agg #[.int .i64 num, .slice A n ca, .int .i64 code]
/-- a checkpoint, its records in memory of the call's own -/
def RetCk (w : World) (num : Int) (Y : List Rc) (code : Int) (e : Ending) (w' : World) : Prop :=
  ∃ (A : Option Addr) (ca : Nat), e = .returned (ckV num A Y.length ca code) ∧ OwRc w' w.heap.size w'.heap.size A Y.length Y ∧ Below w.heap.size w w'
/-- the same, and its row is no longer than its capacity -/
def RetCkC (w : World) (num : Int) (Y : List Rc) (code : Int) (e : Ending) (w' : World) : Prop :=
  ∃ (A : Option Addr) (d : Nat), e = .returned (ckV num A Y.length (Y.length + d) code) ∧ OwRc w' w.heap.size w'.heap.size A Y.length Y ∧ Below w.heap.size w w'
theorem RetCkC.weak {w w' : World} {num code : Int} {Y : List Rc} {e : Ending} (h : RetCkC w num Y code e w') : RetCk w num Y code e w' := by
  obtain ⟨A, d, he, ho, hb⟩ := h; exact ⟨A, _, he, ho, hb⟩
theorem ret_ckNoneC {w w' : World} {num code : Int} {Y : List Rc} (h1 : Y = []) (hb : Below w.heap.size w w') : RetCkC w num Y code (.returned (ckV num none 0 0 code)) w' := by
  subst h1; exact ⟨none, 0, rfl, ow_nilR _ _ _ _, hb⟩
theorem ret_ckNone {w w' : World} {num code : Int} {Y : List Rc} (h1 : Y = []) (hb : Below w.heap.size w w') : RetCk w num Y code (.returned (ckV num none 0 0 code)) w' := by
  subst h1; exact ⟨none, 0, rfl, ow_nilR _ _ _ _, hb⟩
theorem blk3k {w : World} {g : Nat} {e : TypeId} {a b c : Value} (h : IsBlk w g e [a, b, c]) : w.cell? ⟨g, 0, none⟩ = some a ∧ w.cell? ⟨g, 1, none⟩ = some b ∧ w.cell? ⟨g, 2, none⟩ = some c ∧ w.frozen? ⟨g, 0, none⟩ = false ∧ w.frozen? ⟨g, 1, none⟩ = false ∧ w.frozen? ⟨g, 2, none⟩ = false :=
  ⟨h.cell rfl, h.cell rfl, h.cell rfl, h.free, h.free, h.free⟩
end Go.Proofs.YtloaeglmngcenaaGreatDoor
