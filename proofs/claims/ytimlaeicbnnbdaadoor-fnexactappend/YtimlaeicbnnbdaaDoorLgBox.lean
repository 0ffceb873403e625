/-
  Answers with a chip that lie in a box, whatever the order in which box and answer were made.
-/
import Derived.Test.YtimlaeicbnnbdaaDoorChecked
import Derived.Test.YtimlaeicbnnbdaaDoorLgApp
namespace Go.Proofs.YtimlaeicbnnbdaaDoor
open Go.RowKit

theorem RdBk.next {w w' : World} {A : Option Addr} {n : Nat} {X : List Bk} (h : RdBk w w.heap.size A n X) (hb : Below w.heap.size w w') : RdBk w' w'.heap.size A n X := rd_step h hb
theorem RdBk.btw {w w' : World} {B lo hi n : Nat} {A : Option Addr} {X : List Bk} (h : RdBk w B A n X) (hb : Btw lo hi w w') (hB : B ≤ lo) (hs : B ≤ w.heap.size) : RdBk w' B A n X :=
  h.below ⟨hb.os, hb.tape, hb.output, hb.size, fun k hk => hb.block k (by omega) (by omega)⟩
def anC (A : Option Addr) (c : Nat) (R : NdAns) : List Value := [.slice A R.nd.length c, .string R.data, .int .i64 R.code]
/-- a box with an answer, made since u -/
structure AnBox (u w : World) (b lo hi : Nat) (A : Option Addr) (c : Nat) (R : NdAns) : Prop where
  bel : Below u.heap.size u w
  blk : IsBlk w b 41 [.slice A R.nd.length c, .string R.data, .int .i64 R.code]
  at_b : u.heap.size ≤ b
  own : OwNd w lo hi A R.nd.length R.nd
  at_lo : u.heap.size ≤ lo
  at_hi : hi ≤ w.heap.size
  apart : b < lo ∨ hi ≤ b
  lo_le : lo ≤ w.heap.size
/-- the box was there ahead of the answer -/
theorem an_first {u w4 w5 : World} {b : Nat} {A : Option Addr} {c : Nat} {R : NdAns} (hu : Below u.heap.size u w4) (hb : u.heap.size ≤ b) (hk : IsBlk w4 b 41 [.slice none 0 0, .string ⟨#[]⟩, .int .i64 0])
    (ho : OwNd w5 w4.heap.size w5.heap.size A R.nd.length R.nd) (h45 : Below w4.heap.size w4 w5) :
    AnBox u (((w5.setCell ⟨b, 0, none⟩ (.slice A R.nd.length c)).setCell ⟨b, 1, none⟩ (.string R.data)).setCell ⟨b, 2, none⟩ (.int .i64 R.code)) b w4.heap.size w5.heap.size A c R :=
  ⟨(((hu.trans (h45.mono hu.size)).setCell hb _).setCell hb _).setCell hb _, (((hk.below h45 hk.lt).set _).set _).set _, hb,
    ho.same fun k h1 _ => by have := hk.lt; rw [Below.heap_setCell _ _ _ _ (by dsimp only; omega), Below.heap_setCell _ _ _ _ (by dsimp only; omega), Below.heap_setCell _ _ _ _ (by dsimp only; omega)], hu.size, by simp [World.setCell], .inl hk.lt, by have := h45.size; simp [World.setCell]; omega⟩
/-- the box was made behind the answer -/
theorem an_last {u w4 w5 : World} {A : Option Addr} {c : Nat} {R : NdAns} (hu : Below u.heap.size u w4)
    (ho : OwNd w5 w4.heap.size w5.heap.size A R.nd.length R.nd) (h45 : Below w4.heap.size w4 w5) :
    AnBox u (w5.alloc (.cells #[.slice A R.nd.length c, .string R.data, .int .i64 R.code] 41)) w5.heap.size w4.heap.size w5.heap.size A c R :=
  ⟨(hu.trans (h45.mono hu.size)).alloc (Nat.le_trans hu.size h45.size) _, isBlk_new w5 41 [.slice A R.nd.length c, .string R.data, .int .i64 R.code], Nat.le_trans hu.size h45.size, ho.below ((Below.refl _ _).alloc (Nat.le_refl _) _) (Nat.le_refl _), hu.size, by simp, .inr (Nat.le_refl _), by have := h45.size; simp; omega⟩
theorem bel_allocN (w : World) (o : Obj) : Below w.heap.size w (w.alloc o) := (Below.refl _ _).alloc (Nat.le_refl _) _
end Go.Proofs.YtimlaeicbnnbdaaDoor
