/-
  ckptRight of the program.
-/
import Derived.Test.YtloaeglmngcenaaGreatDoorProg
import Derived.KernelRfl
import Derived.Test.YtloaeglmngcenaaGreatDoorCkPure
import Derived.Test.YtloaeglmngcenaaGreatDoorHsRight
namespace Go.Proofs.YtloaeglmngcenaaGreatDoor
open Go.RowKit
open Bt (Rc)

set_option maxHeartbeats 1000000 in
theorem ckptRight_any (num : Int) (A : Option Addr) (n ca : Nat) (X : List Rc) (w : World) (hS : SmallR X) (hA : RdRc w w.heap.size A n X) :
    Calls Tryz.prog 198 #[.int .i64 num, .agg #[.slice A n ca]] w fun e w' => e = .returned (.bool (ckB num X)) ∧ Below w.heap.size w w' := by
  have HA := Lib.hid hA; have HS := Lib.hid hS; clear hA hS
  by_cases h1 : 1 ≤ num
  · by_cases h2 : num ≤ 1000000
    · rw [ckB_in ⟨h1, h2⟩]
      go_enter Tryz.func198, Tryz.ntmps198
      go_wp2_with fail
      have hb0 : Below w.heap.size w (w.alloc (.cells #[.slice A n ca] 29)) := (Below.refl _ _).alloc (Nat.le_refl _) _
      refine (impl_histRight_any A n ca X _ HS.out (HA.out.next hb0)).mono ?_
      rintro e w1 ⟨rfl, hb1⟩
      have HB1 := Lib.hid (hb0.trans (hb1.mono hb0.size))
      clear hb0 hb1
      go_wp2
      go_ret
      exact ⟨rfl, HB1.out⟩
    · have h2' : 1000000 < num := by omega
      rw [ckB_num (by omega)]
      go_enter Tryz.func198, Tryz.ntmps198
      go_wp2
      go_ret
      exact ⟨rfl, (Below.refl _ _).alloc (Nat.le_refl _) _⟩
  · have h1' : num < 1 := by omega
    rw [ckB_num (by omega)]
    go_enter Tryz.func198, Tryz.ntmps198
    go_wp2
    go_ret
    exact ⟨rfl, (Below.refl _ _).alloc (Nat.le_refl _) _⟩
end Go.Proofs.YtloaeglmngcenaaGreatDoor
