/-
  The iterator over a trail: what it hands to the body of a loop, round by round.
-/
import Derived.RangeFuncNested
import Derived.RangeFuncBound
import Derived.RangeFuncCalls
import Derived.RangeFuncLeaves
import Derived.Shelf.Abstract
import Derived.Shelf.RegionOpen
import Derived.WalkKit
import Derived.OwnWalkIn
import Derived.TacticsInMore
import Derived.LoopNIn
import Derived.LoopIn
import Derived.Test.YtloaeglmngcenaaGreatDoorProg
import Derived.KernelRfl
import Derived.Test.YtloaeglmngcenaaGreatDoorHsTouch
namespace Go.Proofs.YtloaeglmngcenaaGreatDoor
open Go.RowKit Go.Shelf
open Bt (Rc)
attribute [local go_sem] Oper.semAt_some

def lenOf : Value → Nat
  | .slice _ n _ => n
  | _ => 0
/-- what a round of the body keeps: old memory below n₀, and the block b -/
def KpB (n₀ b : Nat) (W W' : World) : Prop := Below n₀ W W' ∧ W'.heap[b]? = W.heap[b]?
theorem KpB.t {n₀ b : Nat} {A B C : World} (h : KpB n₀ b A B) (k : KpB n₀ b B C) : KpB n₀ b A C := ⟨h.1.trans k.1, k.2.trans h.2⟩
theorem KpB.b {n₀ b : Nat} {w : World} (hn : n₀ ≤ w.heap.size) (hb : b < w.heap.size) (W : World) (l : Nat) (o o' : Obj) (hl : w.heap.size ≤ l) (h : W.heap[l]? = some o) (h1 : o.isCells = false) (h2 : o.isWalk = false) : KpB n₀ b W (W.putObj l o') :=
  ⟨belowK_b hn W l o o' hl h h1 h2, World.putObj_heap_other (fun e => by omega)⟩
theorem grownBy_of_below {W W' : World} (h : Below W.heap.size W W') : W.grownBy W' none := ⟨h.os, h.tape, h.output, h.size, fun k hk _ => h.block k hk⟩

set_option maxHeartbeats 1000000 in
theorem trailOf_any (A : Option Addr) (n ca : Nat) (s a : Int) (w : World) :
    Calls Tryz.prog 247 #[.slice A n ca, .int .i64 s, .int .i64 a] w fun e w' =>
      e = .returned (.func (.func 270) #[] #[.pointer (some ⟨w.heap.size, 0, none⟩), .pointer (some ⟨w.heap.size + 1 + 1, 0, none⟩), .pointer (some ⟨w.heap.size + 1, 0, none⟩)]) ∧
      w' = ((w.alloc (.cells #[.slice A n ca] 27)).alloc (.cells #[.int .i64 s] 2)).alloc (.cells #[.int .i64 a] 2) := by
  go_enter Tryz.func247, Tryz.ntmps247
  go_wp2
  go_ret
  exact ⟨rfl, rfl⟩

set_option maxRecDepth 100000 in
set_option maxHeartbeats 4000000 in
theorem trail1_in (n : Nat) (l b0 ba bs n₀ : Nat) (A : Option Addr) (N ca : Nat) (X : List Rc) (s a : Int) (J Jx : List Rc → World → Prop) (W : World) (hn : 1 ≤ n) (hN : N ≤ 1048576) (hca : N ≤ ca) (hJ : AbidesFrom W.heap.size J)
    (hY : ∀ pre x W1, J pre W1 → pre.length < N → YieldAt Fence.wide (n - 1) Tryz.prog l #[recV x] W1 fun e W' =>
      (e = .returned (.bool true) ∧ J (pre ++ [x]) W' ∧ KpB n₀ bs W1 W') ∨ (e = .returned (.bool false) ∧ Jx (pre ++ [x]) W'))
    (hc0 : W.cell? ⟨b0, 0, none⟩ = some (.slice A N ca)) (hca' : W.cell? ⟨ba, 0, none⟩ = some (.int .i64 a)) (hbs : Boxed W bs 2 (.int .i64 s)) (hn₀ : n₀ ≤ W.heap.size) (hR : RdRc W n₀ A N X) (h0 : J [] W) :
    CallsIn Fence.wide n Tryz.prog 270 #[.func (.yield l) #[] #[], .pointer (some ⟨b0, 0, none⟩), .pointer (some ⟨ba, 0, none⟩), .pointer (some ⟨bs, 0, none⟩)] W fun e W' => (∃ v, e = .returned v) ∧
      ((∃ ys, ys = trlR X s N a ∧ J ys W') ∨ (∃ pre, True ∧ Jx pre W')) := by
  have HR := Lib.hid hR; have HBS := Lib.hid hbs; clear hR hbs
  refine callsIn_of_wp Tryz.func270 rfl trivial ?_ rfl
  simp only [Tryz.ntmps270, List.size_toArray, List.length_cons, List.length_nil, Nat.reduceAdd, Nat.reduceSub, Array.replicate_succ, Array.replicate_zero, List.push_toArray, List.append_toArray, List.nil_append, List.cons_append]
  gi_wp2
  gi_region
  all_goals
    have HR1 : Hid (RdRc W.drew n₀ A N X) := HR.out.below ((Below.refl _ _).drew)
    have HBS1 : Hid (Boxed W.drew bs 2 (.int .i64 s)) := HBS.out
    have H0 : Hid (J [] W.drew) := hJ [] W W.drew none h0 (grownBy_of_below ((Below.refl _ _).drew)) (fun r e => by cases e)
    have hz1 : W.heap.size ≤ W.drew.heap.size := Nat.le_refl _
    generalize W.drew = Wd at HR1 HBS1 H0 hz1 ⊢
    gi_wp2
    gi_loopw [5, 6] (fun rst tm wr => ∃ (pre : List Rc) (m c : Nat) (b : Int), rst = .slice A m c ∧ tm = .int .i64 b ∧ m ≤ N ∧ m ≤ c ∧ pre ++ trlR X s m b = trlR X s N a ∧ RdRc wr n₀ A N X ∧ Boxed wr bs 2 (.int .i64 s) ∧ W.heap.size ≤ wr.heap.size ∧ J pre wr) (fun rst _ _ => lenOf rst)
    case atStart => exact ⟨[], N, ca, a, rfl, rfl, Nat.le_refl _, hca, rfl, HR1.out, HBS1.out, hz1, H0.out⟩
    case round =>
      obtain ⟨pre, m, c, b, rfl, rfl, hm, hmc, htr, hrd, hbx, hsz, hJp⟩ := hrel
      have HTR := Lib.hid htr; have HRD := Lib.hid hrd; have HBX := Lib.hid hbx; have HJ := Lib.hid hJp
      have hcs := hbx.cell
      clear htr hrd hbx hJp
      gi_wp2_with fail
      refine ⟨trivial, ?_⟩
      refine (callsIn_wide.2 (lastTouch_any A N m c X s b wr hm hN (HRD.out.mono (Nat.le_trans hn₀ hsz)))).mono ?_
      rintro e w1 ⟨rfl, hb1⟩
      have HRD1 := Lib.hid (HRD.out.below (hb1.mono (Nat.le_trans hn₀ hsz)))
      have HBX1 : Hid (Boxed w1 bs 2 (.int .i64 s)) := (hb1.block bs HBX.out.lt).trans HBX.out
      have HJ1 : Hid (J pre w1) := hJ pre wr w1 none HJ.out (grownBy_of_below hb1) (fun r e => by cases e)
      have hsz1 : W.heap.size ≤ w1.heap.size := Nat.le_trans hsz hb1.size
      clear hb1 hcs
      rcases trlR_of_last X s b m with ⟨e1, e2⟩ | ⟨i, hi, e1, e2⟩
      · rw [e1]
        have E2 := Lib.hid e2
        clear e1 e2
        gi_wp2
        refine ⟨fun _ h => (by cases h), ?_⟩
        gi_wp2
        refine bodyPost_ret (results_none rfl _ _ _) rfl ?_
        refine ⟨⟨_, rfl⟩, .inl ⟨pre, ?_, HJ1.out⟩⟩
        rw [← HTR.out, E2.out, List.append_nil]
      · rw [e1]
        have E2 := Lib.hid e2
        clear e1 e2
        have hlen : pre.length < N := by
          have h1 := congrArg List.length HTR.out
          rw [List.length_append, E2.out, List.length_cons] at h1
          have h2 := trlR_len X s N a
          omega
        obtain ⟨g, off, rfl, hg, c0, c1, c2, c3, c4, c5⟩ := HRD1.out.at (show i < N by omega)
        obtain ⟨p, hp⟩ : ∃ p, p = X.getD i Rc.zero := ⟨_, rfl⟩
        rw [← hp] at c0 c1 c2 c3 c4 c5 E2
        clear hp
        obtain ⟨fn, tmps, assign, body, hy, hRo⟩ := hY pre p w1 HJ1.out hlen
        have hi0 : (0 : Int) ≤ (i : Int) := by omega
        have him : (i : Int) < (m : Int) := by omega
        gi_wp2
        refine hRo.mono ?_
        rintro e w3 (⟨rfl, hJ3, hk3⟩ | ⟨rfl, hJx3⟩)
        · have HRD3 := Lib.hid (HRD1.out.below hk3.1)
          have HBX3 : Hid (Boxed w3 bs 2 (.int .i64 s)) := hk3.2.trans HBX1.out
          have HJ3 := Lib.hid hJ3
          have hsz3 : W.heap.size ≤ w3.heap.size := Nat.le_trans hsz1 hk3.1.size
          have d0 : w3.cell? ⟨g, off + i * 6, none⟩ = some (.int .i64 p.k) := (hk3.1.cell (p := ⟨g, off + i * 6, none⟩) hg).trans c0
          have d4 : w3.cell? ⟨g, off + i * 6 + 4, none⟩ = some (.int .i64 p.o) := (hk3.1.cell (p := ⟨g, off + i * 6 + 4, none⟩) hg).trans c4
          clear hJ3 hk3 c0 c1 c2 c3 c4 c5
          by_cases hk : p.k = 3
          · have hk' : (p.k == 3) = true := by simpa using hk
            have hk'' : (p.k != 3) = false := by simpa using hk
            rw [if_pos hk] at E2
            clear hk
            have hic : (i : Int) ≤ (c : Int) := by omega
            gi_wp2
            gi_region
            all_goals
              gi_wp2
              go_roundw
              case rel => exact ⟨pre ++ [p], i, i, p.o, rfl, rfl, by omega, Nat.le_refl _, by rw [List.append_assoc, ← HTR.out, E2.out]; rfl, HRD3.out.below ((Below.refl _ _).drew), HBX3.out, hsz3, hJ (pre ++ [p]) w3 _ none HJ3.out (grownBy_of_below ((Below.refl _ _).drew)) (fun r e => by cases e)⟩
              case measure => simp [lenOf]; omega
          · have hk' : (p.k == 3) = false := by simpa using hk
            have hk'' : (p.k != 3) = true := by simpa using hk
            rw [if_neg hk] at E2
            clear hk
            gi_wp2
            refine bodyPost_ret (results_none rfl _ _ _) rfl ?_
            refine ⟨⟨_, rfl⟩, .inl ⟨pre ++ [p], ?_, HJ3.out⟩⟩
            rw [← HTR.out, E2.out]
        · gi_wp2
          refine bodyPost_ret (results_none rfl _ _ _) rfl ?_
          exact ⟨⟨_, rfl⟩, .inr ⟨pre ++ [p], trivial, hJx3⟩⟩

/-- **The iterator of a trail hands on its records, in its order; or the first of them, where a round has said 'no more'.** -/
theorem trail_stops (n : Nat) (hn : 1 ≤ n) (b0 ba bs n₀ : Nat) (A : Option Addr) (N ca : Nat) (X : List Rc) (s a : Int) (w : World) (hN : N ≤ 1048576) (hca : N ≤ ca) (hb0 : b0 < w.heap.size) (hba : ba < w.heap.size) (hn₀ : n₀ ≤ w.heap.size)
    (hc0 : w.cell? ⟨b0, 0, none⟩ = some (.slice A N ca)) (hc1 : w.cell? ⟨ba, 0, none⟩ = some (.int .i64 a)) (hbs : Boxed w bs 2 (.int .i64 s)) (hR : RdRc w n₀ A N X) :
    SeqStopsK Fence.wide n Tryz.prog 270 #[.pointer (some ⟨b0, 0, none⟩), .pointer (some ⟨ba, 0, none⟩), .pointer (some ⟨bs, 0, none⟩)] (fun r : Rc => #[recV r]) (KpB n₀ bs) (fun ys => ys = trlR X s N a) (fun _ => True) N w :=
  fun l J Jx W hW hJ _ hY h0 => trail1_in n l b0 ba bs n₀ A N ca X s a J Jx W hn hN hca hJ hY ((hW.cell (p := ⟨b0, 0, none⟩) hb0).trans hc0) ((hW.cell (p := ⟨ba, 0, none⟩) hba).trans hc1) ((hW.block bs hbs.lt).trans hbs) (Nat.le_trans hn₀ hW.size) (hR.below (hW.mono hn₀)) h0
end Go.Proofs.YtloaeglmngcenaaGreatDoor
