/-
  Answers with a history that lie in a box, whatever the order in which box and answer were made.
-/
import Derived.Test.YtllpmflkcfnknaaChecked
import Derived.Test.YtllpmflkcfnknaaHsMark
import Derived.Test.YtllpmflkcfnknaaHsAddS
namespace Go.Proofs.Ytllpmflkcfnknaa
open Go.RowKit
open Bt (Rc)

theorem RdRc.btw {w w' : World} {B lo hi n : Nat} {A : Option Addr} {X : List Rc} (h : RdRc w B A n X) (hb : Btw lo hi w w') (hB : B ≤ lo) (hs : B ≤ w.heap.size) : RdRc w' B A n X :=
  h.below ⟨hb.os, hb.tape, hb.output, hb.size, fun k hk => hb.block k (by omega) (by omega)⟩
/-- a box with an answer, made since u -/
structure HoBox (u w : World) (b lo hi : Nat) (A : Option Addr) (c : Nat) (Y : List Rc) (code : Int) : Prop where
  bel : Below u.heap.size u w
  blk : IsBlk w b 31 [.slice A Y.length c, .int .i64 code]
  at_b : u.heap.size ≤ b
  own : OwRc w lo hi A Y.length Y
  at_lo : u.heap.size ≤ lo
  at_hi : hi ≤ w.heap.size
  apart : b < lo ∨ hi ≤ b
  lo_le : lo ≤ w.heap.size
/-- the box was there ahead of the answer -/
theorem box_first {u w4 w5 : World} {b : Nat} {A : Option Addr} {c : Nat} {Y : List Rc} {code : Int} (hu : Below u.heap.size u w4) (hb : u.heap.size ≤ b) (hk : IsBlk w4 b 31 [.slice none 0 0, .int .i64 0])
    (ho : OwRc w5 w4.heap.size w5.heap.size A Y.length Y) (h45 : Below w4.heap.size w4 w5) :
    HoBox u ((w5.setCell ⟨b, 0, none⟩ (.slice A Y.length c)).setCell ⟨b, 1, none⟩ (.int .i64 code)) b w4.heap.size w5.heap.size A c Y code :=
  ⟨((hu.trans (h45.mono hu.size)).setCell hb _).setCell hb _, ((hk.below h45 hk.lt).set _).set _, hb,
    ho.same fun k h1 _ => by have := hk.lt; rw [Below.heap_setCell _ _ _ _ (by dsimp only; omega), Below.heap_setCell _ _ _ _ (by dsimp only; omega)], hu.size, by simp [World.setCell], .inl hk.lt, by have := h45.size; simp [World.setCell]; omega⟩
/-- the box was made behind the answer -/
theorem box_last {u w4 w5 : World} {A : Option Addr} {c : Nat} {Y : List Rc} {code : Int} (hu : Below u.heap.size u w4)
    (ho : OwRc w5 w4.heap.size w5.heap.size A Y.length Y) (h45 : Below w4.heap.size w4 w5) :
    HoBox u (w5.alloc (.cells #[.slice A Y.length c, .int .i64 code] 31)) w5.heap.size w4.heap.size w5.heap.size A c Y code :=
  ⟨(hu.trans (h45.mono hu.size)).alloc (Nat.le_trans hu.size h45.size) _, isBlk_new w5 31 [.slice A Y.length c, .int .i64 code], Nat.le_trans hu.size h45.size, ho.below ((Below.refl _ _).alloc (Nat.le_refl _) _) (Nat.le_refl _), hu.size, by simp, .inr (Nat.le_refl _), by have := h45.size; simp; omega⟩
/-- the cells of the two arguments, in every later world -/
theorem args_keep {u w' : World} {b0 b1 : Nat} {e0 e1 : TypeId} {A : Option Addr} {n c : Nat} {r : Rc} (h0 : IsBlk u b0 e0 [.slice A n c]) (h1 : IsBlk u b1 e1 (recC r)) (hb : Below u.heap.size u w') :
    w'.cell? ⟨b0, 0, none⟩ = some (.slice A n c) ∧ w'.cell? ⟨b1, 0, none⟩ = some (.int .i64 r.k) ∧ w'.cell? ⟨b1, 1, none⟩ = some (.int .i64 r.s) ∧ w'.cell? ⟨b1, 2, none⟩ = some (.int .i64 r.q) ∧ w'.cell? ⟨b1, 3, none⟩ = some (.int .i64 r.t) ∧
      w'.cell? ⟨b1, 4, none⟩ = some (.int .i64 r.o) ∧ w'.cell? ⟨b1, 5, none⟩ = some (.string r.d) ∧ Hid (Below u.heap.size u w') := by
  obtain ⟨x0, x1, x2, x3, x4, x5⟩ := rcCells (h1.below hb h1.lt)
  exact ⟨(h0.below hb h0.lt).cell rfl, x0, x1, x2, x3, x4, x5, hb⟩
theorem args_of {u w' : World} {b0 b1 : Nat} {A : Option Addr} {n c : Nat} {r : Rc} (h : w'.cell? ⟨b0, 0, none⟩ = some (.slice A n c) ∧ w'.cell? ⟨b1, 0, none⟩ = some (.int .i64 r.k) ∧ w'.cell? ⟨b1, 1, none⟩ = some (.int .i64 r.s) ∧ w'.cell? ⟨b1, 2, none⟩ = some (.int .i64 r.q) ∧ w'.cell? ⟨b1, 3, none⟩ = some (.int .i64 r.t) ∧
      w'.cell? ⟨b1, 4, none⟩ = some (.int .i64 r.o) ∧ w'.cell? ⟨b1, 5, none⟩ = some (.string r.d) ∧ Hid (Below u.heap.size u w')) : Below u.heap.size u w' := h.2.2.2.2.2.2.2.out
theorem addList_len (X : List Rc) (r : Rc) : (addList X r).length ≤ 49 := by
  unfold addList
  split
  · rename_i h
    have hr : hRight X = true := by
      cases e : hRight X with
      | true => rfl
      | false => rw [(add_no (r := r) (by rw [e]; rfl)).1] at h; cases h
    have := hRight_len hr
    rw [List.length_append]; simp; omega
  · simp
theorem bel_alloc (w : World) (o : Obj) : Below w.heap.size w (w.alloc o) := (Below.refl _ _).alloc (Nat.le_refl _) _
end Go.Proofs.Ytllpmflkcfnknaa
