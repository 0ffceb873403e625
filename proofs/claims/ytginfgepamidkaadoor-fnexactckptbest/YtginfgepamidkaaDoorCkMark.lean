/-
  The laws' own steps over what CkptRead and CkptBest answer: comparing, marking, reading again.
-/
import Derived.Test.YtginfgepamidkaaDoorProg
import Derived.KernelRfl
import Derived.Test.YtginfgepamidkaaDoorHsMark
import Derived.Test.YtginfgepamidkaaDoorHsLaw
import Derived.Test.YtginfgepamidkaaDoorHsApp
namespace Go.Proofs.YtginfgepamidkaaDoor
open Go.RowKit
open Bt (Rc)

abbrev ckV (num : Int) (A : Option Addr) (n ca : Nat) (code : Int) : Value := .agg #[.int .i64 num, .slice A n ca, .int .i64 code]
/-- a checkpoint, its records in memory of the call's own -/
def RetCk (w : World) (num : Int) (Y : List Rc) (code : Int) (e : Ending) (w' : World) : Prop :=
  ∃ (A : Option Addr) (ca : Nat), e = .returned (ckV num A Y.length ca code) ∧ OwRc w' w.heap.size w'.heap.size A Y.length Y ∧ Below w.heap.size w w'
theorem ret_ckNone {w w' : World} {num code : Int} {Y : List Rc} (h1 : Y = []) (hb : Below w.heap.size w w') : RetCk w num Y code (.returned (ckV num none 0 0 code)) w' := by
  subst h1; exact ⟨none, 0, rfl, ow_nilR _ _ _ _, hb⟩
theorem blk3k {w : World} {g : Nat} {e : TypeId} {a b c : Value} (h : IsBlk w g e [a, b, c]) : w.cell? ⟨g, 0, none⟩ = some a ∧ w.cell? ⟨g, 1, none⟩ = some b ∧ w.cell? ⟨g, 2, none⟩ = some c ∧ w.frozen? ⟨g, 0, none⟩ = false ∧ w.frozen? ⟨g, 1, none⟩ = false ∧ w.frozen? ⟨g, 2, none⟩ = false :=
  ⟨h.cell rfl, h.cell rfl, h.cell rfl, h.free, h.free, h.free⟩
set_option maxHeartbeats 1000000 in
theorem markCkOut_any (A : Option Addr) (lo hi n ca k : Nat) (X : List Rc) (num code : Int) (w : World) (hn : n ≤ 1048576) (hk : k ≤ 16777216) (hh : hi ≤ w.heap.size) (hA : OwRc w lo hi A n X) :
    Calls Tryd.prog 9 #[ckV num A n ca code, .int .i64 (k : Int)] w fun e w' => e = .returned (.int .i64 ((k + 6 * n : Nat) : Int)) ∧ MkRc w' lo hi A n k ∧ Btw lo hi w w' := by
  have HA := Lib.hid hA; clear hA
  go_enter Tryd.func9, Tryd.ntmps9
  go_wp2_with fail
  refine (markHist_any A lo hi n ca k X _ hn hk (by simp; omega) (HA.out.below ((Below.refl _ _).alloc (Nat.le_refl _) _) hh)).mono ?_
  rintro e w1 ⟨rfl, h1, hb⟩
  have H1 := Lib.hid h1; have HB := Lib.hid ((Btw.of_below (lo := lo) (hi := hi) ((Below.refl w.heap.size w).alloc (Nat.le_refl _) _)).trans hb)
  clear h1 hb
  go_wp2
  go_ret
  exact ⟨rfl, H1.out, HB.out⟩
set_option maxHeartbeats 1000000 in
theorem heldCkOut_any (A : Option Addr) (lo hi n ca k : Nat) (num code : Int) (w : World) (hn : n ≤ 1048576) (hk : k ≤ 16777216) (hh : hi ≤ w.heap.size) (hA : MkRc w lo hi A n k) :
    Calls Tryd.prog 10 #[ckV num A n ca code, .int .i64 (k : Int)] w fun e w' => e = .returned (.int .i64 ((k + 6 * n : Nat) : Int)) ∧ Below w.heap.size w w' := by
  have HA := Lib.hid hA; clear hA
  go_enter Tryd.func10, Tryd.ntmps10
  go_wp2_with fail
  refine (heldHist_any A lo hi n ca k _ hn hk (by simp; omega) (HA.out.below ((Below.refl _ _).alloc (Nat.le_refl _) _) hh)).mono ?_
  rintro e w1 ⟨rfl, hb⟩
  have HB := Lib.hid (((Below.refl w.heap.size w).alloc (Nat.le_refl _) _).trans (hb.mono (by simp)))
  clear hb
  go_wp2
  go_ret
  exact ⟨rfl, HB.out⟩
set_option maxHeartbeats 2000000 in
theorem eqCkOut_same (A B : Option Addr) (n ca cb : Nat) (X : List Rc) (num code : Int) (w : World) (hn : n ≤ 2147483648) (hA : RdRc w w.heap.size A n X) (hB : RdRc w w.heap.size B n X) :
    Calls Tryd.prog 8 #[ckV num A n ca code, ckV num B n cb code] w fun e w' => e = .returned (.bool true) ∧ Below w.heap.size w w' := by
  have HA := Lib.hid hA; have HB := Lib.hid hB; clear hA hB
  go_enter Tryd.func8, Tryd.ntmps8
  go_wp2_with fail
  have hb0 : Below w.heap.size w ((w.alloc (.cells #[.int .i64 num, .slice A n ca, .int .i64 code] 29)).alloc (.cells #[.int .i64 num, .slice B n cb, .int .i64 code] 29)) := ((Below.refl _ _).alloc (Nat.le_refl _) _).alloc (by simp) _
  have k0 := (isBlk_new w 29 [.int .i64 num, .slice A n ca, .int .i64 code]).alloc (.cells #[.int .i64 num, .slice B n cb, .int .i64 code] 29)
  have k1 := isBlk_new (w.alloc (.cells #[.int .i64 num, .slice A n ca, .int .i64 code] 29)) 29 [.int .i64 num, .slice B n cb, .int .i64 code]
  rw [size_alloc] at k1
  change IsBlk ((w.alloc (.cells #[.int .i64 num, .slice A n ca, .int .i64 code] 29)).alloc (.cells #[.int .i64 num, .slice B n cb, .int .i64 code] 29)) _ _ _ at k0
  change IsBlk ((w.alloc (.cells #[.int .i64 num, .slice A n ca, .int .i64 code] 29)).alloc (.cells #[.int .i64 num, .slice B n cb, .int .i64 code] 29)) _ _ _ at k1
  refine (eqHist_same A B n ca cb X _ hn (HA.out.next hb0) (HB.out.next hb0)).mono ?_
  rintro e w1 ⟨rfl, hb⟩
  have HB1 := Lib.hid (hb0.trans (hb.mono hb0.size))
  obtain ⟨a0, a1, a2, -⟩ := blk3k (k0.below hb k0.lt)
  obtain ⟨b0, b1, b2, -⟩ := blk3k (k1.below hb k1.lt)
  clear hb hb0 k0 k1
  go_wp2
  go_ret
  exact ⟨rfl, HB1.out⟩
end Go.Proofs.YtginfgepamidkaaDoor
