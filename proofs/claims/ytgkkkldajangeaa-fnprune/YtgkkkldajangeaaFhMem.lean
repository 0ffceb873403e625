/-
  Histories, records and answers in boxes of the laws' own.
-/
import Derived.Test.YtgkkkldajangeaaDrHist2
import Derived.Test.YtgkkkldajangeaaHsLw
import Derived.Test.YtgkkkldajangeaaHsAddI
namespace Go.Proofs.Ytgkkkldajangeaa
open Go.RowKit
open Bt (Rc)

/-- a drawn history in a box -/
structure Hx (W : World) (b : Nat) (A : Option Addr) (ca : Nat) (X : List Rc) : Prop where
  blk : IsBlk W b 25 [.slice A X.length ca]
  rd : RdRc W W.heap.size A X.length X
  cap : X.length ≤ ca
  fine : FineH X
theorem Hx.below {W W' : World} {b ca : Nat} {A : Option Addr} {X : List Rc} (h : Hx W b A ca X) (hb : Below W.heap.size W W') : Hx W' b A ca X := ⟨h.blk.below hb h.blk.lt, h.rd.next hb, h.cap, h.fine⟩
theorem Hx.small {W : World} {b ca : Nat} {A : Option Addr} {X : List Rc} (h : Hx W b A ca X) : SmallR X := ⟨by have := h.fine.len; omega, fun r hr => by have := h.fine.each r hr; omega⟩
theorem Hx.made {w W : World} {ca : Nat} {A : Option Addr} {X : List Rc} (h : DrewH w W A ca X) : Hx (W.alloc (.cells #[.slice A X.length ca] 25)) W.heap.size A ca X :=
  ⟨isBlk_new W _ _, (h.own.rd (Nat.le_refl _)).next ((Below.refl _ _).alloc (Nat.le_refl _) _), h.cap, h.fine⟩
/-- an answer of HistAdd in a box -/
structure Xx (W : World) (b : Nat) (A : Option Addr) (ca : Nat) (Y : List Rc) (C : Int) : Prop where
  blk : IsBlk W b 31 [.slice A Y.length ca, .int .i64 C]
  rd : RdRc W W.heap.size A Y.length Y
  cap : Y.length ≤ ca
theorem Xx.below {W W' : World} {b ca : Nat} {A : Option Addr} {Y : List Rc} {C : Int} (h : Xx W b A ca Y C) (hb : Below W.heap.size W W') : Xx W' b A ca Y C := ⟨h.blk.below hb h.blk.lt, h.rd.next hb, h.cap⟩
theorem rdBy_in {w W : World} {n : Nat} {A : Option Addr} (h : RdBy w w.heap.size A n) (hb : Below w.heap.size w W) : RdBy W W.heap.size A n := rdBy_hs h hb hb.size
theorem small_add {X : List Rc} {r : Rc} (h : FineH X) (hr : r.d.size ≤ 17) : SmallR (addList X r) := by
  unfold addList
  split
  · refine ⟨by have := h.len; simp; omega, fun p hp => ?_⟩
    rcases List.mem_append.1 hp with hp | hp
    · have := h.each p hp; omega
    · simp only [List.mem_singleton] at hp; subst hp; omega
  · exact ⟨by simp, fun p hp => by cases hp⟩
theorem tell_write2 {X : List Rc} {r : Rc} (h : addCode X r = 0) (hk : r.k = 1) : asOf (X ++ [r]) r.s r.t = ⟨true, r.d, 0⟩ ∨ (r.t < floorOf X ∧ asOf (X ++ [r]) r.s r.t = ⟨false, ⟨#[]⟩, 12⟩) := by
  rcases tell_write h hk with e | e
  · exact .inl e
  · right
    refine ⟨e, ?_⟩
    obtain ⟨hY, -, hok, hX, -⟩ := hRight_add h
    rw [floorOf_of hX] at e
    have hf := floorR_grows X r
    have ht : r.t ≤ 1000000 := hok.2.2.2.2.2.2.2.1
    have ht0 : 0 ≤ r.t := hok.2.2.2.2.2.2.1
    exact asOf_past ⟨hY, ⟨hok.2.2.1, hok.2.2.2.1⟩, ht0, ht⟩ (by omega)
set_option maxHeartbeats 2000000 in
theorem equalIn_vo_no (d : ByteArray) (w : World) : (Op.equalIn 10000 43 (.agg #[.bool false, .string ⟨#[]⟩, .int .i64 12]) (.agg #[.bool true, .string d, .int .i64 0])).run Try.prog w = .ok false w := by
  rw [run_equalIn_agg w 9999 _ _ _ vo_fields vo_held]
  simp [Program.fieldsOf, Try.underlying43, Op.eqFields, part, go_sem, Try.underlying2, Try.underlying9, Try.underlying4]
theorem rdNs_next {w w' : World} {A : Option Addr} {n : Nat} {L : List Int} (h : RdNs w w.heap.size A n L) (hb : Below w.heap.size w w') : RdNs w' w'.heap.size A n L := by
  have h' := h.below hb
  exact ⟨h'.1, fun hn => by obtain ⟨g, hA, hg, hr⟩ := h'.2 hn; exact ⟨g, hA, Nat.lt_of_lt_of_le hg hb.size, hr⟩⟩
end Go.Proofs.Ytgkkkldajangeaa
