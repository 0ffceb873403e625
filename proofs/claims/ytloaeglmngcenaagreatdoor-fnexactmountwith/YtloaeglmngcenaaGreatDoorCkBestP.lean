/-
  Two checkpoints read into two boxes, in whatever order: what stands of them. Over any program.
-/
import Derived.Test.YtloaeglmngcenaaGreatDoorCkMark
import Derived.Test.YtloaeglmngcenaaGreatDoorCkPure
import Derived.Test.YtloaeglmngcenaaGreatDoorLgRegion
namespace Go.Proofs.YtloaeglmngcenaaGreatDoor
open Go.RowKit
open Bt (Rc)

theorem dn_not {L : Array Bool} {i j : Nat} (h : j ≠ i) : Dn (L.setIfInBounds i true) j = Dn L j := propext ⟨fun h' => h'.set.resolve_left h, Dn.stay⟩
theorem dn_yes {L : Array Bool} {i : Nat} (h : i < L.size) : Dn (L.setIfInBounds i true) i = True := propext ⟨fun _ => trivial, fun _ => Dn.new h⟩
theorem dn_zero {n j : Nat} : Dn (Array.replicate n false) j = False := by
  unfold Dn
  refine propext ⟨fun h => ?_, False.elim⟩
  rw [Array.getD_eq_getD_getElem?] at h
  by_cases hj : j < n
  · simp [hj] at h
  · simp [hj] at h
abbrev zK : List Value := [.int .i64 0, .slice none 0 0, .int .i64 0]
abbrev ckL (t : ByteArray) (A : Option Addr) (c : Nat) : List Value := [.int .i64 (ckRNum t), .slice A (ckList t).length c, .int .i64 (ckCode t)]
abbrev set3W (W : World) (g : Nat) (a b c : Value) : World := ((W.setCell ⟨g, 0, none⟩ a).setCell ⟨g, 1, none⟩ b).setCell ⟨g, 2, none⟩ c
theorem set3_other {W : World} {g k : Nat} (a b c : Value) (h : k ≠ g) : (set3W W g a b c).heap[k]? = W.heap[k]? :=
  (Below.heap_setCell _ _ _ _ (by dsimp only; omega)).trans ((Below.heap_setCell _ _ _ _ (by dsimp only; omega)).trans (Below.heap_setCell _ _ _ _ (by dsimp only; omega)))
theorem set3_blk {W : World} {g : Nat} {e : TypeId} {x y z a b c : Value} (h : IsBlk W g e [x, y, z]) : IsBlk (set3W W g a b c) g e [a, b, c] :=
  ((h.set (j := 0) a).set (j := 1) b).set (j := 2) c
theorem set3_bel {w W : World} {B g : Nat} (h : Below B w W) (hg : B ≤ g) (a b c : Value) : Below B w (set3W W g a b c) :=
  ((h.setCell (p := ⟨g, 0, none⟩) hg a).setCell (p := ⟨g, 1, none⟩) hg b).setCell (p := ⟨g, 2, none⟩) hg c
theorem set3_size {W : World} {g : Nat} (a b c : Value) : (set3W W g a b c).heap.size = W.heap.size := by simp [World.setCell]

structure BsI (w W : World) (c1 c2 k4 k5 s4 s5 : Prop) (a b : ByteArray) (x1 x2 p4 p5 : Value) (A1 A2 : Option Addr) (n1 n2 l1 h1 l2 h2 ga gb : Nat) : Prop where
  bel : Below w.heap.size w W
  ans1 : c1 → x1 = ckV (ckRNum a) A1 (ckList a).length n1 (ckCode a) ∧ OwRc W l1 h1 A1 (ckList a).length (ckList a) ∧ w.heap.size ≤ l1 ∧ h1 ≤ W.heap.size
  ans2 : c2 → x2 = ckV (ckRNum b) A2 (ckList b).length n2 (ckCode b) ∧ OwRc W l2 h2 A2 (ckList b).length (ckList b) ∧ w.heap.size ≤ l2 ∧ h2 ≤ W.heap.size
  box4 : k4 → p4 = .pointer (some ⟨ga, 0, none⟩) ∧ w.heap.size ≤ ga ∧ ga < W.heap.size
  box5 : k5 → p5 = .pointer (some ⟨gb, 0, none⟩) ∧ w.heap.size ≤ gb ∧ gb < W.heap.size
  z4 : k4 → ¬ s4 → IsBlk W ga 175 zK
  z5 : k5 → ¬ s5 → IsBlk W gb 175 zK
  f4 : k4 → s4 → IsBlk W ga 175 (ckL a A1 n1)
  f5 : k5 → s5 → IsBlk W gb 175 (ckL b A2 n2)
  dif : k4 → k5 → ga ≠ gb
  o14 : c1 → k4 → ga < l1 ∨ h1 ≤ ga
  o15 : c1 → k5 → gb < l1 ∨ h1 ≤ gb
  o24 : c2 → k4 → ga < l2 ∨ h2 ≤ ga
  o25 : c2 → k5 → gb < l2 ∨ h2 ≤ gb
section
variable {w W W' : World} {c1 c2 k4 k5 s4 s5 : Prop} {a b : ByteArray} {x1 x2 p4 p5 : Value} {A1 A2 A : Option Addr} {n1 n2 l1 h1 l2 h2 ga gb n : Nat}
theorem BsI.start (hb : Below w.heap.size w W) (a b : ByteArray) (x1 x2 p4 p5 : Value) : BsI w W False False False False False False a b x1 x2 p4 p5 none none 0 0 0 0 0 0 0 0 :=
  ⟨hb, False.elim, False.elim, False.elim, False.elim, fun h => h.elim, fun h => h.elim, fun h => h.elim, fun h => h.elim, fun h => h.elim, fun h => h.elim, fun h => h.elim, fun h => h.elim, fun h => h.elim⟩
theorem BsI.call1 (h : BsI w W c1 c2 k4 k5 s4 s5 a b x1 x2 p4 p5 A1 A2 n1 n2 l1 h1 l2 h2 ga gb) (hs : ¬ s4) (hb : Below W.heap.size W W') (ho : OwRc W' W.heap.size W'.heap.size A (ckList a).length (ckList a)) :
    BsI w W' True c2 k4 k5 s4 s5 a b (ckV (ckRNum a) A (ckList a).length n (ckCode a)) x2 p4 p5 A A2 n n2 W.heap.size W'.heap.size l2 h2 ga gb where
  bel := h.bel.trans (hb.mono h.bel.size)
  ans1 := fun _ => ⟨rfl, ho, h.bel.size, Nat.le_refl _⟩
  ans2 := fun c => ⟨(h.ans2 c).1, (h.ans2 c).2.1.below hb (h.ans2 c).2.2.2, (h.ans2 c).2.2.1, Nat.le_trans (h.ans2 c).2.2.2 hb.size⟩
  box4 := fun k => ⟨(h.box4 k).1, (h.box4 k).2.1, Nat.lt_of_lt_of_le (h.box4 k).2.2 hb.size⟩
  box5 := fun k => ⟨(h.box5 k).1, (h.box5 k).2.1, Nat.lt_of_lt_of_le (h.box5 k).2.2 hb.size⟩
  z4 := fun k s => (h.z4 k s).below hb (h.box4 k).2.2
  z5 := fun k s => (h.z5 k s).below hb (h.box5 k).2.2
  f4 := fun _ s => absurd s hs
  f5 := fun k s => (h.f5 k s).below hb (h.box5 k).2.2
  dif := h.dif
  o14 := fun _ k => .inl (h.box4 k).2.2
  o15 := fun _ k => .inl (h.box5 k).2.2
  o24 := h.o24
  o25 := h.o25
theorem BsI.call2 (h : BsI w W c1 c2 k4 k5 s4 s5 a b x1 x2 p4 p5 A1 A2 n1 n2 l1 h1 l2 h2 ga gb) (hs : ¬ s5) (hb : Below W.heap.size W W') (ho : OwRc W' W.heap.size W'.heap.size A (ckList b).length (ckList b)) :
    BsI w W' c1 True k4 k5 s4 s5 a b x1 (ckV (ckRNum b) A (ckList b).length n (ckCode b)) p4 p5 A1 A n1 n l1 h1 W.heap.size W'.heap.size ga gb where
  bel := h.bel.trans (hb.mono h.bel.size)
  ans2 := fun _ => ⟨rfl, ho, h.bel.size, Nat.le_refl _⟩
  ans1 := fun c => ⟨(h.ans1 c).1, (h.ans1 c).2.1.below hb (h.ans1 c).2.2.2, (h.ans1 c).2.2.1, Nat.le_trans (h.ans1 c).2.2.2 hb.size⟩
  box4 := fun k => ⟨(h.box4 k).1, (h.box4 k).2.1, Nat.lt_of_lt_of_le (h.box4 k).2.2 hb.size⟩
  box5 := fun k => ⟨(h.box5 k).1, (h.box5 k).2.1, Nat.lt_of_lt_of_le (h.box5 k).2.2 hb.size⟩
  z4 := fun k s => (h.z4 k s).below hb (h.box4 k).2.2
  z5 := fun k s => (h.z5 k s).below hb (h.box5 k).2.2
  f4 := fun k s => (h.f4 k s).below hb (h.box4 k).2.2
  f5 := fun _ s => absurd s hs
  dif := h.dif
  o14 := h.o14
  o15 := h.o15
  o24 := fun _ k => .inl (h.box4 k).2.2
  o25 := fun _ k => .inl (h.box5 k).2.2
theorem BsI.new4 (h : BsI w W c1 c2 k4 k5 s4 s5 a b x1 x2 p4 p5 A1 A2 n1 n2 l1 h1 l2 h2 ga gb) (hs : ¬ s4) :
    BsI w (W.alloc (.cells #[.int .i64 0, .slice none 0 0, .int .i64 0] 175)) c1 c2 True k5 s4 s5 a b x1 x2 (.pointer (some ⟨W.heap.size, 0, none⟩)) p5 A1 A2 n1 n2 l1 h1 l2 h2 W.heap.size gb :=
  have hb : Below W.heap.size W (W.alloc (.cells #[.int .i64 0, .slice none 0 0, .int .i64 0] 175)) := (Below.refl _ _).alloc (Nat.le_refl _) _
  { bel := h.bel.trans (hb.mono h.bel.size)
    ans1 := fun c => ⟨(h.ans1 c).1, (h.ans1 c).2.1.below hb (h.ans1 c).2.2.2, (h.ans1 c).2.2.1, Nat.le_trans (h.ans1 c).2.2.2 hb.size⟩
    ans2 := fun c => ⟨(h.ans2 c).1, (h.ans2 c).2.1.below hb (h.ans2 c).2.2.2, (h.ans2 c).2.2.1, Nat.le_trans (h.ans2 c).2.2.2 hb.size⟩
    box4 := fun _ => ⟨rfl, h.bel.size, by simp⟩
    box5 := fun k => ⟨(h.box5 k).1, (h.box5 k).2.1, Nat.lt_of_lt_of_le (h.box5 k).2.2 hb.size⟩
    z4 := fun _ _ => isBlk_new W _ zK
    z5 := fun k s => (h.z5 k s).below hb (h.box5 k).2.2
    f4 := fun _ s => absurd s hs
    f5 := fun k s => (h.f5 k s).below hb (h.box5 k).2.2
    dif := fun _ k => Nat.ne_of_gt (h.box5 k).2.2
    o14 := fun c _ => .inr (h.ans1 c).2.2.2
    o15 := h.o15
    o24 := fun c _ => .inr (h.ans2 c).2.2.2
    o25 := h.o25 }
theorem BsI.new5 (h : BsI w W c1 c2 k4 k5 s4 s5 a b x1 x2 p4 p5 A1 A2 n1 n2 l1 h1 l2 h2 ga gb) (hs : ¬ s5) :
    BsI w (W.alloc (.cells #[.int .i64 0, .slice none 0 0, .int .i64 0] 175)) c1 c2 k4 True s4 s5 a b x1 x2 p4 (.pointer (some ⟨W.heap.size, 0, none⟩)) A1 A2 n1 n2 l1 h1 l2 h2 ga W.heap.size :=
  have hb : Below W.heap.size W (W.alloc (.cells #[.int .i64 0, .slice none 0 0, .int .i64 0] 175)) := (Below.refl _ _).alloc (Nat.le_refl _) _
  { bel := h.bel.trans (hb.mono h.bel.size)
    ans1 := fun c => ⟨(h.ans1 c).1, (h.ans1 c).2.1.below hb (h.ans1 c).2.2.2, (h.ans1 c).2.2.1, Nat.le_trans (h.ans1 c).2.2.2 hb.size⟩
    ans2 := fun c => ⟨(h.ans2 c).1, (h.ans2 c).2.1.below hb (h.ans2 c).2.2.2, (h.ans2 c).2.2.1, Nat.le_trans (h.ans2 c).2.2.2 hb.size⟩
    box4 := fun k => ⟨(h.box4 k).1, (h.box4 k).2.1, Nat.lt_of_lt_of_le (h.box4 k).2.2 hb.size⟩
    box5 := fun _ => ⟨rfl, h.bel.size, by simp⟩
    z4 := fun k s => (h.z4 k s).below hb (h.box4 k).2.2
    z5 := fun _ _ => isBlk_new W _ zK
    f4 := fun k s => (h.f4 k s).below hb (h.box4 k).2.2
    f5 := fun _ s => absurd s hs
    dif := fun k _ => Nat.ne_of_lt (h.box4 k).2.2
    o14 := h.o14
    o15 := fun c _ => .inr (h.ans1 c).2.2.2
    o24 := h.o24
    o25 := fun c _ => .inr (h.ans2 c).2.2.2 }
theorem OwRc.set3 {lo hi n g : Nat} {X : List Rc} (h : OwRc W lo hi A n X) (hg : g < lo ∨ hi ≤ g) (x y z : Value) : OwRc (set3W W g x y z) lo hi A n X :=
  h.same fun k h1 h2 => set3_other x y z (by omega)
theorem BsI.put4 (h : BsI w W c1 c2 k4 k5 s4 s5 a b x1 x2 p4 p5 A1 A2 n1 n2 l1 h1 l2 h2 ga gb) (hk : k4) (hs : ¬ s4) :
    BsI w (set3W W ga (.int .i64 (ckRNum a)) (.slice A1 (ckList a).length n1) (.int .i64 (ckCode a))) c1 c2 k4 k5 True s5 a b x1 x2 p4 p5 A1 A2 n1 n2 l1 h1 l2 h2 ga gb where
  bel := set3_bel h.bel (h.box4 hk).2.1 _ _ _
  ans1 := fun c => ⟨(h.ans1 c).1, (h.ans1 c).2.1.set3 (h.o14 c hk) _ _ _, (h.ans1 c).2.2.1, Nat.le_trans (h.ans1 c).2.2.2 (Nat.le_of_eq (set3_size _ _ _).symm)⟩
  ans2 := fun c => ⟨(h.ans2 c).1, (h.ans2 c).2.1.set3 (h.o24 c hk) _ _ _, (h.ans2 c).2.2.1, Nat.le_trans (h.ans2 c).2.2.2 (Nat.le_of_eq (set3_size _ _ _).symm)⟩
  box4 := fun k => ⟨(h.box4 k).1, (h.box4 k).2.1, Nat.lt_of_lt_of_le (h.box4 k).2.2 (Nat.le_of_eq (set3_size _ _ _).symm)⟩
  box5 := fun k => ⟨(h.box5 k).1, (h.box5 k).2.1, Nat.lt_of_lt_of_le (h.box5 k).2.2 (Nat.le_of_eq (set3_size _ _ _).symm)⟩
  z4 := fun _ s => absurd trivial s
  z5 := fun k s => (set3_other _ _ _ (Ne.symm (h.dif hk k))).trans (h.z5 k s)
  f4 := fun k _ => set3_blk (h.z4 k hs)
  f5 := fun k s => (set3_other _ _ _ (Ne.symm (h.dif hk k))).trans (h.f5 k s)
  dif := h.dif
  o14 := h.o14
  o15 := h.o15
  o24 := h.o24
  o25 := h.o25
theorem BsI.put5 (h : BsI w W c1 c2 k4 k5 s4 s5 a b x1 x2 p4 p5 A1 A2 n1 n2 l1 h1 l2 h2 ga gb) (hk : k5) (hs : ¬ s5) :
    BsI w (set3W W gb (.int .i64 (ckRNum b)) (.slice A2 (ckList b).length n2) (.int .i64 (ckCode b))) c1 c2 k4 k5 s4 True a b x1 x2 p4 p5 A1 A2 n1 n2 l1 h1 l2 h2 ga gb where
  bel := set3_bel h.bel (h.box5 hk).2.1 _ _ _
  ans1 := fun c => ⟨(h.ans1 c).1, (h.ans1 c).2.1.set3 (h.o15 c hk) _ _ _, (h.ans1 c).2.2.1, Nat.le_trans (h.ans1 c).2.2.2 (Nat.le_of_eq (set3_size _ _ _).symm)⟩
  ans2 := fun c => ⟨(h.ans2 c).1, (h.ans2 c).2.1.set3 (h.o25 c hk) _ _ _, (h.ans2 c).2.2.1, Nat.le_trans (h.ans2 c).2.2.2 (Nat.le_of_eq (set3_size _ _ _).symm)⟩
  box4 := fun k => ⟨(h.box4 k).1, (h.box4 k).2.1, Nat.lt_of_lt_of_le (h.box4 k).2.2 (Nat.le_of_eq (set3_size _ _ _).symm)⟩
  box5 := fun k => ⟨(h.box5 k).1, (h.box5 k).2.1, Nat.lt_of_lt_of_le (h.box5 k).2.2 (Nat.le_of_eq (set3_size _ _ _).symm)⟩
  z4 := fun k s => (set3_other _ _ _ (h.dif k hk)).trans (h.z4 k s)
  z5 := fun _ s => absurd trivial s
  f4 := fun k s => (set3_other _ _ _ (h.dif k hk)).trans (h.f4 k s)
  f5 := fun k _ => set3_blk (h.z5 k hs)
  dif := h.dif
  o14 := h.o14
  o15 := h.o15
  o24 := h.o24
  o25 := h.o25
end
end Go.Proofs.YtloaeglmngcenaaGreatDoor
