/-
  Plain mathematics of chapter 8 (drives): which are valid, and what each operation answers. No condition.
  require and attempt of the program: work that is given up by a panic, and the deferred function that recovers it.
  The checks of the operations on a drive at work.
  begin of the program: a drive at work, or the work given up.
  The methods of a drive at work that change it: become, add, log; and drive, which copies it out.
  The operations behind their interface: which method a call reaches, which branch of the type switch is taken.
  perform of the program: each operation carried out by a drive at work.
  changed of the program: an operation on a drive, or the code with which it was given up.
  Tick, Write, Trim, RollTo, Raise and Collect of the program.
  DriveRight, ReadAt, Read and Restart of the program.
-/
import Derived.Test.YtdeagcdafcfimaaGreatDoorProg
import Derived.KernelRfl
import Derived.Test.YtdeagcdafcfimaaGreatDoorLgMountA
import Derived.Test.YtdeagcdafcfimaaGreatDoorMgChip
import Derived.WalkKit
import Derived.WalkLawsBesides
import Derived.Defers
import Derived.Recover
import Derived.Test.YtdeagcdafcfimaaGreatDoorHsFloor
import Derived.Deep.RegionHeld2
import Derived.StillTailTactics
import Derived.Test.YtdeagcdafcfimaaGreatDoorMgMount
import Derived.Test.YtdeagcdafcfimaaGreatDoorHsLast
import Derived.Test.YtdeagcdafcfimaaGreatDoorMgGc
import Derived.Deep.RegionHeld3
import Derived.Deep.RegionWith
namespace Go.Proofs.YtdeagcdafcfimaaGreatDoor
open Go.RowKit
open Bt (Rc)

/-- a drive and a code: what an operation answers -/
structure Dv where
  nd : List Bk
  now : Int
  ret : Int
  code : Int
def dvIll (c : Int) : Dv := ⟨[], 0, 0, c⟩
/-- a valid drive -/
noncomputable def dvB (X : List Bk) (now ret : Int) : Bool := (rcIs 0 1000000 now && rcIs 0 1000000 ret) && (decide (mntCode X = 0) && decide ((lastR (mntList X)).t ≤ now))
/-- a drive with another chip -/
def dvWith (now ret : Int) (a : NdAns) : Dv := if a.code = 0 then ⟨a.nd, now, ret, 0⟩ else dvIll a.code
/-- a record as it is logged -/
def dvRec (Y : List Rc) (now : Int) (r : Rc) : Rc := ⟨r.k, r.s, (lastR Y).q + 1, now, r.o, r.d⟩
noncomputable def dvPut (X : List Bk) (now ret : Int) (r : Rc) : Dv :=
  if 1000000 ≤ (lastR (mntList X)).q ∨ 48 ≤ (mntList X).length then dvIll 9 else dvWith now ret (putAns X 1 (bstr (dvRec (mntList X) now r).bytes))
/-- what is asked of a valid drive alone -/
noncomputable def dvOn (X : List Bk) (now ret : Int) (R : Dv) : Dv := if dvB X now ret = true then R else dvIll 1
def tickIn (X : List Bk) (now ret bye : Int) : Dv := if 0 ≤ bye ∧ bye ≤ 1000000 - now then ⟨X, now + bye, ret, 0⟩ else dvIll 1
noncomputable def trimIn (X : List Bk) (now ret s : Int) : Dv := if rcIs 0 5 s = true then dvPut X now ret ⟨2, s, 0, 0, 0, ⟨#[]⟩⟩ else dvIll 1
noncomputable def writeIn (X : List Bk) (now ret s : Int) (d : ByteArray) : Dv := if rcIs 0 5 s = true ∧ d.size ≤ 16 then dvPut X now ret ⟨1, s, 0, 0, 0, d⟩ else dvIll 1
noncomputable def rollIn (X : List Bk) (now ret a : Int) : Dv :=
  if 0 ≤ a ∧ a ≤ now then (if a < floorR (mntList X) then dvIll 12 else dvPut X now ret ⟨3, 0, 0, 0, a, ⟨#[]⟩⟩) else dvIll 1
noncomputable def raiseIn (X : List Bk) (now ret : Int) : Dv := if now - ret ≤ floorR (mntList X) then dvIll 10 else dvPut X now ret ⟨4, 0, 0, 0, now - ret, ⟨#[]⟩⟩
noncomputable def dvTick (X : List Bk) (now ret bye : Int) : Dv := dvOn X now ret (tickIn X now ret bye)
noncomputable def dvTrim (X : List Bk) (now ret s : Int) : Dv := dvOn X now ret (trimIn X now ret s)
noncomputable def dvWrite (X : List Bk) (now ret s : Int) (d : ByteArray) : Dv := if 8000 < d.size then dvIll 2 else dvOn X now ret (writeIn X now ret s d)
noncomputable def dvRoll (X : List Bk) (now ret a : Int) : Dv := dvOn X now ret (rollIn X now ret a)
noncomputable def dvRaise (X : List Bk) (now ret : Int) : Dv := dvOn X now ret (raiseIn X now ret)
noncomputable def dvRestart (X : List Bk) (now ret : Int) : Dv := dvOn X now ret ⟨X, now, ret, 0⟩
theorem dvB_code {X : List Bk} {now ret : Int} (h : mntCode X ≠ 0) : dvB X now ret = false := by
  unfold dvB; rw [decide_eq_false h]; simp
theorem dvB_ok {X : List Bk} {now ret : Int} (h : mntCode X = 0) : dvB X now ret = (rcIs 0 1000000 now && rcIs 0 1000000 ret && decide ((lastR (mntList X)).t ≤ now)) := by
  unfold dvB; rw [decide_eq_true h]; simp
theorem dvB_yes {X : List Bk} {now ret : Int} (h : dvB X now ret = true) : mntCode X = 0 ∧ rcIs 0 1000000 now = true ∧ rcIs 0 1000000 ret = true ∧ (lastR (mntList X)).t ≤ now := by
  unfold dvB at h; simp only [Bool.and_eq_true, decide_eq_true_eq] at h; exact ⟨h.2.1, h.1.1, h.1.2, h.2.2⟩

theorem blk4 {w : World} {b : Nat} {e : TypeId} {v0 v1 v2 v3 : Value} (h : IsBlk w b e [v0, v1, v2, v3]) :
    w.cell? ⟨b, 0, none⟩ = some v0 ∧ w.cell? ⟨b, 1, none⟩ = some v1 ∧ w.cell? ⟨b, 2, none⟩ = some v2 ∧ w.cell? ⟨b, 3, none⟩ = some v3 ∧
    w.frozen? ⟨b, 0, none⟩ = false ∧ w.frozen? ⟨b, 1, none⟩ = false ∧ w.frozen? ⟨b, 2, none⟩ = false ∧ w.frozen? ⟨b, 3, none⟩ = false :=
  ⟨h.cell rfl, h.cell rfl, h.cell rfl, h.cell rfl, h.free, h.free, h.free, h.free⟩
/-- what a function that answers with a drive and a code gives back -/
def RetDv (w : World) (R : Dv) (e : Ending) (w' : World) : Prop :=
  ∃ (A : Option Addr) (c : Nat), e = .returned (.agg #[.slice A R.nd.length c, .int .i64 R.now, .int .i64 R.ret, .int .i64 R.code]) ∧ OwNd w' w.heap.size w'.heap.size A R.nd.length R.nd ∧ Below w.heap.size w w'
end Go.Proofs.YtdeagcdafcfimaaGreatDoor

namespace Go.Proofs.YtdeagcdafcfimaaGreatDoor
open Go.RowKit

/-- the panic of a violation -/
def viol (c : Int) : List PanicEntry := [{ v := .iface 194 (.int .i64 c), recovered := false }]

theorem require_yes (c : Int) (w : World) : Calls Tryz.prog 154 #[.bool true, .int .i64 c] w fun e w' => e = .returned (.tuple #[]) ∧ w = w' := by
  go_enter Tryz.func154, Tryz.ntmps154
  go_wp2
  go_end0
  exact ⟨rfl, rfl⟩
theorem require_no (c : Int) (w : World) : Calls Tryz.prog 154 #[.bool false, .int .i64 c] w fun e w' => e = .panicked (viol c) ∧ w = w' := by
  go_enter Tryz.func154, Tryz.ntmps154
  go_wp2
  exact ⟨rfl, rfl, rfl⟩
/-- both ways at once -/
theorem require_any (b : Bool) (c : Int) (w : World) : Calls Tryz.prog 154 #[.bool b, .int .i64 c] w fun e w' => (if b = true then e = .returned (.tuple #[]) else e = .panicked (viol c)) ∧ w = w' := by
  cases b with
  | true => exact (require_yes c w).mono fun e w' h => ⟨by rw [if_pos rfl]; exact h.1, h.2⟩
  | false => exact (require_no c w).mono fun e w' h => ⟨by rw [if_neg (by simp)]; exact h.1, h.2⟩

theorem as_none (w : World) : (Instr.typeAssert .nilIface 20 194 true).run Tryz.prog w = .ok (.tuple #[.int .i64 0, .bool false]) w := by kernel_rfl
theorem as_viol (v : Value) (w : World) : (Instr.typeAssert (.iface 194 v) 20 194 true).run Tryz.prog w = .ok (.tuple #[v, .bool true]) w := by kernel_rfl

theorem catch_idle (p : Addr) (w : World) :
    CallsD Tryz.prog 152 #[.pointer (some p)] .returning w fun e u' w' => e = .returned (.tuple #[]) ∧ u' = .returning ∧ w' = w := by
  refine callsD_of_wpS Tryz.func152 rfl fun c₀ cs hu => ?_
  apply wpS_seq
  apply wpS_region
  simp [wpOpsS, go_sem, recoverD, hu, Tryz.ntmps152, Exit.thenS, as_none]
  apply wpS_seq
  apply wpS_region
  simp [wpOpsS, go_sem, Exit.thenS]
  refine wpS_cond (t := false) (by simp [Act.eval, Array.replicate]) ?_
  simp only [Bool.false_eq_true, if_false]
  refine wpS_of_wp (wp_skip ?_)
  cases c₀
  simp_all [bodyPostS, results, Tryz.results152]

theorem catch_hit (p : Addr) (x c : Int) (w : World) (hc : w.cell? p = some (.int .i64 x)) (hz : w.frozen? p = false) :
    CallsD Tryz.prog 152 #[.pointer (some p)] (.panicking (viol c)) w fun e u' w' =>
      e = .returned (.tuple #[]) ∧ u' = .panicking [{ v := .iface 194 (.int .i64 c), recovered := true }] ∧ w' = w.setCell p (.int .i64 c) := by
  refine callsD_of_wpS Tryz.func152 rfl fun c₀ cs hu => ?_
  unfold viol at hu
  apply wpS_seq
  apply wpS_region
  simp [wpOpsS, go_sem, recoverD, hu, Tryz.ntmps152, Exit.thenS, as_viol]
  apply wpS_seq
  apply wpS_region
  simp [wpOpsS, go_sem, Exit.thenS]
  refine wpS_cond (t := true) (by simp [Act.eval, Array.replicate]) ?_
  simp only [if_true]
  apply wpS_region
  simp [wpOpsS, go_sem, hc, hz, bodyPostS, results, Tryz.results152]

set_option maxRecDepth 100000 in
/-- attempt at work that returns, or is given up with a code: the code is what it answers; the work's world behind it, the code's own box set -/
theorem attempt_any (f : Nat) (first cap : Array Value) (w : World) (R : Int → World → Prop) (hf : ∀ W : World, (callFunc f (first ++ cap)).run Tryz.prog W = .ok (.enter f (first ++ cap)) W)
    (hwork : Calls Tryz.prog f (first ++ cap) (w.alloc (.cells #[.int .i64 0] 2)) fun e w' => (w'.cell? ⟨w.heap.size, 0, none⟩ = some (.int .i64 0) ∧ w'.frozen? ⟨w.heap.size, 0, none⟩ = false) ∧ ∃ c : Int, (e = .returned (.tuple #[]) ∧ c = 0 ∨ e = .panicked (viol c)) ∧ R c w') :
    Calls Tryz.prog 88 #[.func (.func f) first cap] w fun e w' => ∃ (c : Int) (u : World), e = .returned (.int .i64 c) ∧ R c u ∧ w' = u.setCell ⟨w.heap.size, 0, none⟩ (.int .i64 c) := by
  have hmf : ∀ (fn : Fn) (first cap : Array Value) (w : World), (Instr.makeFunc fn first cap).run Tryz.prog w = .ok (.func fn first cap) w := fun _ _ _ _ => rfl
  go_enter_defers Tryz.func88, Tryz.ntmps88
  go_wp2_with fail
  refine hwork.mono ?_
  rintro e u ⟨⟨g0, g1⟩, c, he, hR⟩
  rcases he with ⟨rfl, rfl⟩ | rfl
  · go_wp2_with fail
    refine leaves_cons (f := 152) (args := #[.pointer (some ⟨w.heap.size, 0, none⟩)]) (by simp) (by simp [go_sem]) ?_
    refine (catch_idle ⟨w.heap.size, 0, none⟩ _).mono ?_
    rintro e u' w'' ⟨rfl, rfl, rfl⟩
    simp only [Leaves, settle]
    refine ⟨.int .i64 0, ?_, 0, u, rfl, hR, rfl⟩
    simp [results, Tryz.results88, go_sem, g0]
  · change bodyPostD _ _ _ (Exit.panic (viol c)) _ u
    refine leaves_cons (f := 152) (args := #[.pointer (some ⟨w.heap.size, 0, none⟩)]) (by simp) (by simp [go_sem]) ?_
    refine (catch_hit ⟨w.heap.size, 0, none⟩ 0 c _ g0 g1).mono ?_
    rintro e u' w'' ⟨rfl, rfl, rfl⟩
    simp only [settle]
    refine ⟨.int .i64 c, ?_, c, u, rfl, hR, rfl⟩
    simp [results, Tryz.results88, go_sem, g0]
end Go.Proofs.YtdeagcdafcfimaaGreatDoor

namespace Go.Proofs.YtdeagcdafcfimaaGreatDoor
open Go.RowKit
open Bt (Rc)

/-- the cells of a drive at work -/
abbrev wkC (A : Option Addr) (n ca : Nat) (Ah : Option Addr) (m ch : Nat) (now ret : Int) : List Value := [.slice A n ca, .slice Ah m ch, .int .i64 now, .int .i64 ret]
/-- what a check answers: nothing, or the work given up -/
def RetChk (w : World) (c : Int) (e : Ending) (w' : World) : Prop := Below w.heap.size w w' ∧ (c = 0 ∧ e = .returned (.tuple #[]) ∨ c ≠ 0 ∧ e = .panicked (viol c))

set_option maxHeartbeats 1000000 in
set_option maxRecDepth 100000 in
theorem wkFloor_any (b : Nat) (A Ah : Option Addr) (n ca m ch : Nat) (Y : List Rc) (now ret : Int) (w : World) (hk : IsBlk w b 202 (wkC A n ca Ah m ch now ret)) (hS : SmallR Y) (hr : hRight Y = true) (hA : RdRc w w.heap.size Ah m Y) :
    Calls Tryz.prog 371 #[.pointer (some ⟨b, 0, none⟩)] w fun e w' => e = .returned (.int .i64 (floorR Y)) ∧ Below w.heap.size w w' := by
  obtain ⟨c0, c1, c2, c3, -, -, -, -⟩ := blk4 hk
  have HA := Lib.hid hA; have HS := Lib.hid hS; have HR := Lib.hid hr; clear hA hS hr hk
  go_enter Tryz.func371, Tryz.ntmps371
  go_wp2_with fail
  refine (impl_floorOf_any Ah m ch Y w HS.out HA.out).mono ?_
  rintro e w1 ⟨rfl, hb⟩
  have HB := Lib.hid hb
  have HF : Hid (floorOf Y = floorR Y) := by show floorOf Y = floorR Y; unfold floorOf; rw [if_pos HR.out]
  rw [HF.out]
  clear hb
  go_wp2
  go_ret
  exact ⟨rfl, HB.out⟩

set_option maxHeartbeats 1000000 in
set_option maxRecDepth 100000 in
theorem wkHorizon_any (b : Nat) (A Ah : Option Addr) (n ca m ch : Nat) (now ret : Int) (w : World) (hk : IsBlk w b 202 (wkC A n ca Ah m ch now ret)) (h1 : 0 ≤ now ∧ now ≤ 1000000) (h2 : 0 ≤ ret ∧ ret ≤ 1000000) :
    Calls Tryz.prog 267 #[.pointer (some ⟨b, 0, none⟩)] w fun e w' => e = .returned (.int .i64 (now - ret)) ∧ Below w.heap.size w w' := by
  obtain ⟨c0, c1, c2, c3, -, -, -, -⟩ := blk4 hk
  clear hk
  have c2' := cell_regrown c2; have c3' := cell_regrown c3
  go_enter Tryz.func267, Tryz.ntmps267
  go_wp2
  go_region
  go_wp2
  go_ret
  exact ⟨rfl, (Below.refl _ _).drew⟩

set_option maxHeartbeats 1000000 in
set_option maxRecDepth 100000 in
theorem tickChk_any (bye : Int) (b : Nat) (A Ah : Option Addr) (n ca m ch : Nat) (now ret : Int) (w : World) (hk : IsBlk w b 202 (wkC A n ca Ah m ch now ret)) (h1 : 0 ≤ now ∧ now ≤ 1000000) :
    Calls Tryz.prog 376 #[.agg #[.int .i64 bye], .pointer (some ⟨b, 0, none⟩)] w (RetChk w (if 0 ≤ bye ∧ bye ≤ 1000000 - now then 0 else 1)) := by
  obtain ⟨c0, c1, c2, c3, -, -, -, -⟩ := blk4 hk
  have hbl := hk.lt
  clear hk
  obtain ⟨c, hc⟩ : ∃ c : Int, c = if 0 ≤ bye ∧ bye ≤ 1000000 - now then 0 else 1 := ⟨_, rfl⟩
  have HE : Hid (∀ u, Below w.heap.size w u → ¬ (0 ≤ bye ∧ bye ≤ 1000000 - now) → RetChk w c (.panicked (viol 1)) u) := fun u hb h => by rw [hc, if_neg h]; exact ⟨hb, .inr ⟨by decide, rfl⟩⟩
  have HD : Hid (∀ u, Below w.heap.size w u → (0 ≤ bye ∧ bye ≤ 1000000 - now) → RetChk w c (.returned (.tuple #[])) u) := fun u hb h => by rw [hc, if_pos h]; exact ⟨hb, .inl ⟨rfl, rfl⟩⟩
  rw [← hc]
  clear hc
  have hw : IntKind.i64.wrap (1000000 - now) = 1000000 - now := by rw [IntKind.wrap_i64]; omega
  go_enter Tryz.func376, Tryz.ntmps376
  go_wp2_with fail
  have hb0 := box_below w (.cells #[.int .i64 bye] 237)
  have k0 := isBlk_new w 237 [.int .i64 bye]
  change IsBlk (w.alloc (.cells #[.int .i64 bye] 237)) _ _ _ at k0
  have d2 : (w.alloc (.cells #[.int .i64 bye] 237)).cell? ⟨b, 2, none⟩ = some (.int .i64 now) := (hb0.cell (p := ⟨b, 2, none⟩) hbl).trans c2
  generalize w.alloc (.cells #[.int .i64 bye] 237) = W at hb0 k0 d2 ⊢
  have HB0 := Lib.hid hb0
  have x0 : W.cell? ⟨w.heap.size, 0, none⟩ = some (.int .i64 bye) := k0.cell rfl
  clear hb0 k0 c0 c1 c2 c3
  by_cases g1 : 0 ≤ bye
  case neg =>
    refine wp_region_still_tail 13 (by kernel_rfl) (by kernel_rfl) ?_
    simp only [List.take_succ_cons, List.take_zero, List.drop_succ_cons, List.drop_zero]
    simp [wpStill, go_sem, x0, g1, Oper.still, Oper.stillUpon]
    go_wp2_with fail
    refine (require_no 1 _).mono ?_
    rintro e u ⟨rfl, rfl⟩
    exact ⟨rfl, HE.out _ HB0.out.drew (by omega)⟩
  by_cases g2 : bye ≤ 1000000 - now
  · refine wp_region_still_tail 13 (by kernel_rfl) (by kernel_rfl) ?_
    simp only [List.take_succ_cons, List.take_zero, List.drop_succ_cons, List.drop_zero]
    simp [wpStill, go_sem, x0, d2, g1, g2, hw, Oper.still, Oper.stillUpon]
    go_wp2_with fail
    refine (require_yes 1 _).mono ?_
    rintro e u ⟨rfl, rfl⟩
    go_wp2
    go_end0
    exact HD.out _ HB0.out.drew ⟨g1, g2⟩
  · refine wp_region_still_tail 13 (by kernel_rfl) (by kernel_rfl) ?_
    simp only [List.take_succ_cons, List.take_zero, List.drop_succ_cons, List.drop_zero]
    simp [wpStill, go_sem, x0, d2, g1, g2, hw, Oper.still, Oper.stillUpon]
    go_wp2_with fail
    refine (require_no 1 _).mono ?_
    rintro e u ⟨rfl, rfl⟩
    exact ⟨rfl, HE.out _ HB0.out.drew (by omega)⟩

set_option maxHeartbeats 1000000 in
set_option maxRecDepth 100000 in
theorem writeChk_any (s : Int) (d : ByteArray) (p : Option Addr) (w : World) (hd : d.size ≤ 2147483648) :
    Calls Tryz.prog 373 #[.agg #[.int .i64 s, .string d], .pointer p] w (RetChk w (if rcIs 0 5 s = true ∧ d.size ≤ 16 then 0 else 1)) := by
  obtain ⟨c, hc⟩ : ∃ c : Int, c = if rcIs 0 5 s = true ∧ d.size ≤ 16 then 0 else 1 := ⟨_, rfl⟩
  have HE : Hid (∀ u, Below w.heap.size w u → ¬ (rcIs 0 5 s = true ∧ d.size ≤ 16) → RetChk w c (.panicked (viol 1)) u) := fun u hb h => by rw [hc, if_neg h]; exact ⟨hb, .inr ⟨by decide, rfl⟩⟩
  have HD : Hid (∀ u, Below w.heap.size w u → (rcIs 0 5 s = true ∧ d.size ≤ 16) → RetChk w c (.returned (.tuple #[])) u) := fun u hb h => by rw [hc, if_pos h]; exact ⟨hb, .inl ⟨rfl, rfl⟩⟩
  rw [← hc]
  clear hc
  have hb0 := box_below w (.cells #[.int .i64 s, .string d] 231)
  have HB0 := Lib.hid hb0
  clear hb0
  go_enter Tryz.func373, Tryz.ntmps373
  go_wp2_with fail
  refine (isSector_any s _).mono ?_
  rintro e u ⟨rfl, rfl⟩
  by_cases g1 : rcIs 0 5 s = true
  · rw [g1]
    by_cases g2 : d.size ≤ 16
    · have g2' : (d.size : Int) ≤ 16 := by omega
      go_wp2_with fail
      refine (require_yes 1 _).mono ?_
      rintro e u ⟨rfl, rfl⟩
      go_wp2
      go_end0
      exact HD.out _ HB0.out ⟨g1, g2⟩
    · have g2' : ¬ (d.size : Int) ≤ 16 := by omega
      go_wp2_with fail
      refine (require_any _ 1 _).mono ?_
      rintro e u ⟨he, rfl⟩
      rw [if_neg (by simpa using g2')] at he
      subst he
      exact ⟨rfl, HE.out _ HB0.out (fun h => by omega)⟩
  · rw [Bool.not_eq_true] at g1
    rw [g1]
    go_wp2_with fail
    refine (require_no 1 _).mono ?_
    rintro e u ⟨rfl, rfl⟩
    exact ⟨rfl, HE.out _ HB0.out (fun h => by rw [g1] at h; exact absurd h.1 (by simp))⟩

set_option maxHeartbeats 1000000 in
set_option maxRecDepth 100000 in
theorem trimChk_any (s : Int) (p : Option Addr) (w : World) :
    Calls Tryz.prog 374 #[.agg #[.int .i64 s], .pointer p] w (RetChk w (if rcIs 0 5 s = true then 0 else 1)) := by
  obtain ⟨c, hc⟩ : ∃ c : Int, c = if rcIs 0 5 s = true then 0 else 1 := ⟨_, rfl⟩
  have HE : Hid (∀ u, Below w.heap.size w u → rcIs 0 5 s = false → RetChk w c (.panicked (viol 1)) u) := fun u hb h => by rw [hc, h, if_neg (by simp)]; exact ⟨hb, .inr ⟨by decide, rfl⟩⟩
  have HD : Hid (∀ u, Below w.heap.size w u → rcIs 0 5 s = true → RetChk w c (.returned (.tuple #[])) u) := fun u hb h => by rw [hc, if_pos h]; exact ⟨hb, .inl ⟨rfl, rfl⟩⟩
  rw [← hc]
  clear hc
  have hb0 := box_below w (.cells #[.int .i64 s] 233)
  have HB0 := Lib.hid hb0
  clear hb0
  go_enter Tryz.func374, Tryz.ntmps374
  go_wp2_with fail
  refine (isSector_any s _).mono ?_
  rintro e u ⟨rfl, rfl⟩
  by_cases g1 : rcIs 0 5 s = true
  · rw [g1]
    go_wp2_with fail
    refine (require_yes 1 _).mono ?_
    rintro e u ⟨rfl, rfl⟩
    go_wp2
    go_end0
    exact HD.out _ HB0.out g1
  · rw [Bool.not_eq_true] at g1
    rw [g1]
    go_wp2_with fail
    refine (require_no 1 _).mono ?_
    rintro e u ⟨rfl, rfl⟩
    exact ⟨rfl, HE.out _ HB0.out g1⟩

set_option maxHeartbeats 1000000 in
set_option maxRecDepth 100000 in
theorem collChk_any (v : Int) (p : Option Addr) (w : World) :
    Calls Tryz.prog 378 #[.agg #[.int .i64 v], .pointer p] w (RetChk w 0) := by
  have hb0 := box_below w (.cells #[.int .i64 v] 249)
  have HB0 := Lib.hid hb0
  clear hb0
  go_enter Tryz.func378, Tryz.ntmps378
  go_wp2
  go_end0
  exact ⟨HB0.out, .inl ⟨rfl, rfl⟩⟩

/-- a box of one cell and the drive at work, kept -/
theorem rl_keep {u w' : World} {b0 b1 : Nat} {e0 e1 : TypeId} {v0 : Value} {A B : Option Addr} {n c m d : Nat} {now ret : Int} (h0 : IsBlk u b0 e0 [v0]) (h1 : IsBlk u b1 e1 (wkC A n c B m d now ret)) (hb : Below u.heap.size u w') :
    w'.cell? ⟨b0, 0, none⟩ = some v0 ∧ w'.cell? ⟨b1, 2, none⟩ = some (.int .i64 now) ∧ Hid (Below u.heap.size u w') :=
  ⟨(h0.below hb h0.lt).cell rfl, (h1.below hb h1.lt).cell rfl, hb⟩
theorem hb_of {w w' : World} (h : Hid (Below w.heap.size w w')) : Below w.heap.size w w' := h.out
theorem rl_of {u w' : World} {a b : Prop} (h : a ∧ b ∧ Hid (Below u.heap.size u w')) : Below u.heap.size u w' := h.2.2.out

set_option maxHeartbeats 2000000 in
set_option maxRecDepth 100000 in
theorem rollChk_any (a : Int) (b : Nat) (A Ah : Option Addr) (n ca m ch : Nat) (Y : List Rc) (now ret : Int) (w : World) (hk : IsBlk w b 202 (wkC A n ca Ah m ch now ret)) (hS : SmallR Y) (hr : hRight Y = true) (hA : RdRc w w.heap.size Ah m Y) :
    Calls Tryz.prog 375 #[.agg #[.int .i64 a], .pointer (some ⟨b, 0, none⟩)] w (RetChk w (if 0 ≤ a ∧ a ≤ now then (if a < floorR Y then 12 else 0) else 1)) := by
  obtain ⟨c, hc⟩ : ∃ c : Int, c = if 0 ≤ a ∧ a ≤ now then (if a < floorR Y then 12 else 0) else 1 := ⟨_, rfl⟩
  have HE : Hid (∀ u, Below w.heap.size w u → ¬ (0 ≤ a ∧ a ≤ now) → RetChk w c (.panicked (viol 1)) u) := fun u hb h => by rw [hc, if_neg h]; exact ⟨hb, .inr ⟨by decide, rfl⟩⟩
  have HP : Hid (∀ u, Below w.heap.size w u → (0 ≤ a ∧ a ≤ now) → a < floorR Y → RetChk w c (.panicked (viol 12)) u) := fun u hb h h' => by rw [hc, if_pos h, if_pos h']; exact ⟨hb, .inr ⟨by decide, rfl⟩⟩
  have HD : Hid (∀ u, Below w.heap.size w u → (0 ≤ a ∧ a ≤ now) → ¬ a < floorR Y → RetChk w c (.returned (.tuple #[])) u) := fun u hb h h' => by rw [hc, if_pos h, if_neg h']; exact ⟨hb, .inl ⟨rfl, rfl⟩⟩
  rw [← hc]
  clear hc
  have hb0 := box_below w (.cells #[.int .i64 a] 235)
  have k0 := isBlk_new w 235 [.int .i64 a]
  change IsBlk (w.alloc (.cells #[.int .i64 a] 235)) _ _ _ at k0
  have k1 := hk.below hb0 hk.lt
  have HFL : Hid (∀ u, Below w.heap.size w u → IsBlk u b 202 (wkC A n ca Ah m ch now ret) → Calls Tryz.prog 371 #[.pointer (some ⟨b, 0, none⟩)] u fun e w' => e = .returned (.int .i64 (floorR Y)) ∧ Below u.heap.size u w') := fun u hb hu => wkFloor_any b A Ah n ca m ch Y now ret u hu hS hr ((hA.below hb).mono hb.size)
  clear hk hS hr hA
  go_enter Tryz.func375, Tryz.ntmps375
  go_wp2_with fail
  generalize w.alloc (.cells #[.int .i64 a] 235) = W at hb0 k0 k1 ⊢
  have HB0 := Lib.hid hb0; have HK0 := Lib.hid k0; have HK1 := Lib.hid k1
  have x0 : W.cell? ⟨w.heap.size, 0, none⟩ = some (.int .i64 a) := k0.cell rfl
  have d2 : W.cell? ⟨b, 2, none⟩ = some (.int .i64 now) := k1.cell rfl
  clear hb0 k0 k1
  by_cases g1 : 0 ≤ a
  case neg =>
    refine wp_region_still_tail 12 (by kernel_rfl) (by kernel_rfl) ?_
    simp only [List.take_succ_cons, List.take_zero, List.drop_succ_cons, List.drop_zero]
    simp [wpStill, go_sem, x0, g1, Oper.still, Oper.stillUpon]
    go_wp2_with fail
    refine (require_no 1 _).mono ?_
    rintro e u ⟨rfl, rfl⟩
    exact ⟨rfl, HE.out _ HB0.out.drew (by omega)⟩
  by_cases g2 : a ≤ now
  case neg =>
    refine wp_region_still_tail 12 (by kernel_rfl) (by kernel_rfl) ?_
    simp only [List.take_succ_cons, List.take_zero, List.drop_succ_cons, List.drop_zero]
    simp [wpStill, go_sem, x0, d2, g1, g2, Oper.still, Oper.stillUpon]
    go_wp2_with fail
    refine (require_no 1 _).mono ?_
    rintro e u ⟨rfl, rfl⟩
    exact ⟨rfl, HE.out _ HB0.out.drew (by omega)⟩
  refine wp_region_still_tail 12 (by kernel_rfl) (by kernel_rfl) ?_
  simp only [List.take_succ_cons, List.take_zero, List.drop_succ_cons, List.drop_zero]
  simp [wpStill, go_sem, x0, d2, g1, g2, Oper.still, Oper.stillUpon]
  go_wp2_with fail
  refine (require_yes 1 _).mono ?_
  rintro e u ⟨rfl, rfl⟩
  have HB1 := Lib.hid HB0.out.drew
  have HK2 : Hid (IsBlk W.drew w.heap.size 235 [.int .i64 a]) := HK0.out
  have HK3 : Hid (IsBlk W.drew b 202 (wkC A n ca Ah m ch now ret)) := HK1.out
  generalize W.drew = W2 at *
  clear HB0 HK0 HK1 x0 d2
  go_wp2_with fail
  go_region_held2 (fun w' => w'.cell? ⟨w.heap.size, 0, none⟩ = some (.int .i64 a) ∧ w'.cell? ⟨b, 2, none⟩ = some (.int .i64 now) ∧ Hid (Below W2.heap.size W2 w'))
      (first | assumption | exact rl_keep HK2.out HK3.out (Below.refl _ _) | exact rl_keep HK2.out HK3.out (Below.refl _ _).drew)
      (first
        | (go_at_call 371
           refine (HFL.out _ (bel_step HB1.out (rl_of (by assumption))) (HK3.out.below (rl_of (by assumption)) HK3.out.lt)).mono ?_
           rintro e u ⟨rfl, hbu⟩
           have hsu := rl_keep HK2.out HK3.out (bel_step (rl_of (by assumption)) hbu)
           clear hbu)
        | (go_at_call 154
           refine (require_any _ 12 _).mono ?_
           rintro e u ⟨he, rfl⟩
           by_cases hlt : floorR Y ≤ a
           case neg =>
             rw [if_neg (by simpa using hlt)] at he
             subst he
             exact ⟨rfl, HP.out _ (bel_step HB1.out (rl_of (by assumption))) ⟨g1, g2⟩ (by omega)⟩
           rw [if_pos (by simpa using hlt)] at he
           subst he))
  go_wp2
  go_end0
  exact HD.out _ (bel_step HB1.out (rl_of hsu)) ⟨g1, g2⟩ (by omega)

set_option maxHeartbeats 2000000 in
set_option maxRecDepth 100000 in
theorem raiseChk_any (b : Nat) (A Ah : Option Addr) (n ca m ch : Nat) (Y : List Rc) (now ret : Int) (w : World) (hk : IsBlk w b 202 (wkC A n ca Ah m ch now ret)) (h1 : 0 ≤ now ∧ now ≤ 1000000) (h2 : 0 ≤ ret ∧ ret ≤ 1000000) (hS : SmallR Y) (hr : hRight Y = true) (hA : RdRc w w.heap.size Ah m Y) :
    Calls Tryz.prog 377 #[.agg #[], .pointer (some ⟨b, 0, none⟩)] w (RetChk w (if now - ret ≤ floorR Y then 10 else 0)) := by
  obtain ⟨c, hc⟩ : ∃ c : Int, c = if now - ret ≤ floorR Y then 10 else 0 := ⟨_, rfl⟩
  have HP : Hid (∀ u, Below w.heap.size w u → now - ret ≤ floorR Y → RetChk w c (.panicked (viol 10)) u) := fun u hb h => by rw [hc, if_pos h]; exact ⟨hb, .inr ⟨by decide, rfl⟩⟩
  have HD : Hid (∀ u, Below w.heap.size w u → ¬ now - ret ≤ floorR Y → RetChk w c (.returned (.tuple #[])) u) := fun u hb h => by rw [hc, if_neg h]; exact ⟨hb, .inl ⟨rfl, rfl⟩⟩
  rw [← hc]
  clear hc
  have hb0 := box_below w (.cells #[] 246)
  have k1 := hk.below hb0 hk.lt
  have HFL : Hid (∀ u, Below w.heap.size w u → Calls Tryz.prog 371 #[.pointer (some ⟨b, 0, none⟩)] u fun e w' => e = .returned (.int .i64 (floorR Y)) ∧ Below u.heap.size u w') := fun u hb => wkFloor_any b A Ah n ca m ch Y now ret u (hk.below hb hk.lt) hS hr ((hA.below hb).mono hb.size)
  have HHZ : Hid (∀ u, Below w.heap.size w u → Calls Tryz.prog 267 #[.pointer (some ⟨b, 0, none⟩)] u fun e w' => e = .returned (.int .i64 (now - ret)) ∧ Below u.heap.size u w') := fun u hb => wkHorizon_any b A Ah n ca m ch now ret u (hk.below hb hk.lt) h1 h2
  clear hk hS hr hA h1 h2
  go_enter Tryz.func377, Tryz.ntmps377
  go_wp2_with fail
  generalize w.alloc (.cells #[] 246) = W at hb0 k1 ⊢
  have HB0 := Lib.hid hb0
  clear hb0 k1
  go_region_held2 (fun w' => Hid (Below w.heap.size w w'))
      (first | assumption | exact HB0.out | exact HB0.out.drew)
      (first
        | (go_at_call 371
           refine (HFL.out _ (hb_of (by assumption))).mono ?_
           rintro e u ⟨rfl, hbu⟩
           have hsu := Lib.hid (bel_step (hb_of (by assumption)) hbu)
           clear hbu)
        | (go_at_call 267
           refine (HHZ.out _ (hb_of (by assumption))).mono ?_
           rintro e u ⟨rfl, hbu⟩
           have hsu := Lib.hid (bel_step (hb_of (by assumption)) hbu)
           clear hbu)
        | (go_at_call 154
           refine (require_any _ 10 _).mono ?_
           rintro e u ⟨he, rfl⟩
           by_cases hlt : floorR Y < now - ret
           case neg =>
             rw [if_neg (by simpa using hlt)] at he
             subst he
             exact ⟨rfl, HP.out _ (hb_of (by assumption)) (by omega)⟩
           rw [if_pos (by simpa using hlt)] at he
           subst he))
  all_goals
    go_wp2
    go_end0
    exact HD.out _ (hb_of (by assumption)) (by omega)
end Go.Proofs.YtdeagcdafcfimaaGreatDoor

namespace Go.Proofs.YtdeagcdafcfimaaGreatDoor
open Go.RowKit
open Bt (Rc)

/-- a drive at work lies in block b: its chip, its history (owned in [lo, b)), its numbers -/
structure Work (w : World) (lo b : Nat) (A : Option Addr) (n ca : Nat) (Ah : Option Addr) (ch : Nat) (Y : List Rc) (now ret : Int) : Prop where
  blk : IsBlk w b 202 [.slice A n ca, .slice Ah Y.length ch, .int .i64 now, .int .i64 ret]
  low : lo ≤ b
  cap : Y.length ≤ ch
  own : OwRc w lo b Ah Y.length Y
/-- what begin answers -/
def RetBeg (w : World) (A : Option Addr) (n ca : Nat) (X : List Bk) (now ret : Int) (e : Ending) (w' : World) : Prop :=
  Below w.heap.size w w' ∧ (dvB X now ret = false ∧ e = .panicked (viol 1) ∨
    dvB X now ret = true ∧ ∃ (b : Nat) (Ah : Option Addr) (ch : Nat), e = .returned (.pointer (some ⟨b, 0, none⟩)) ∧ Work w' w.heap.size b A n ca Ah ch (mntList X) now ret)

theorem bg_keep {u w' : World} {b0 b1 : Nat} {e0 e1 : TypeId} {A B : Option Addr} {n c m d : Nat} {now ret : Int} (h0 : IsBlk u b0 e0 [.slice A n c, .int .i64 now, .int .i64 ret]) (h1 : IsBlk u b1 e1 [.slice B m d]) (hb : Below u.heap.size u w') :
    w'.cell? ⟨b0, 1, none⟩ = some (.int .i64 now) ∧ w'.cell? ⟨b0, 2, none⟩ = some (.int .i64 ret) ∧ w'.cell? ⟨b1, 0, none⟩ = some (.slice B m d) ∧ Hid (Below u.heap.size u w') :=
  ⟨(h0.below hb h0.lt).cell rfl, (h0.below hb h0.lt).cell rfl, (h1.below hb h1.lt).cell rfl, hb⟩
theorem bg_of {u w' : World} {a b c : Prop} (h : a ∧ b ∧ c ∧ Hid (Below u.heap.size u w')) : Below u.heap.size u w' := h.2.2.2.out

set_option maxHeartbeats 4000000 in
set_option maxRecDepth 100000 in
theorem begin_any (A : Option Addr) (n ca : Nat) (X : List Bk) (now ret : Int) (a0 a2 : Addr) (w : World) (hG : ErrType w) (hS : Two w a0 a2) (hX : Small X) (hA : RdBk w w.heap.size A n X) :
    Calls Tryz.prog 90 #[.agg #[.slice A n ca, .int .i64 now, .int .i64 ret]] w (RetBeg w A n ca X now ret) := by
  have hI := error_iface
  have HA := Lib.hid hA; have HX := Lib.hid hX; have HS := Lib.hid hS; have HG := Lib.hid hG; clear hA hX hS hG
  go_enter Tryz.func90, Tryz.ntmps90
  go_wp2_with fail
  have hb0 := box_below w (.cells #[.slice A n ca, .int .i64 now, .int .i64 ret] 43)
  have k0 := isBlk_new w 43 [.slice A n ca, .int .i64 now, .int .i64 ret]
  change IsBlk (w.alloc (.cells #[.slice A n ca, .int .i64 now, .int .i64 ret] 43)) _ _ _ at k0
  generalize w.alloc (.cells #[.slice A n ca, .int .i64 now, .int .i64 ret] 43) = W at hb0 k0 ⊢
  refine (mounted_any A n ca X a0 a2 W (HG.out.below hb0) (HS.out.below hb0) HX.out (rd_step HA.out hb0)).mono ?_
  rintro e w2 ⟨Ar, cr, rfl, hcr, ho2, hb2⟩
  have HLT : Hid (mntCode X = 0 → ∀ (U : World) (A' : Option Addr) (c' : Nat), RdRc U U.heap.size A' (mntList X).length (mntList X) → Calls Tryz.prog 156 #[.agg #[.slice A' (mntList X).length c']] U fun e w' => e = .returned (.int .i64 (lastR (mntList X)).t) ∧ Below U.heap.size U w') := fun h U A' c' hr => by
    obtain ⟨h1, h2, h3⟩ := mnt_zero h
    have := impl_lastTime_any A' (mntList X).length c' (mntList X) U (by rw [h2]; exact mnt_smallR h1) hr
    unfold lastOf at this
    rwa [if_pos h3] at this
  have HN := Lib.hid (fun h => dvB_code (X := X) (now := now) (ret := ret) h); have HY := Lib.hid (fun h => dvB_ok (X := X) (now := now) (ret := ret) h)
  have HC := Lib.hid (mnt_codes X)
  have HE : Hid (∀ u : World, Below w.heap.size w u → dvB X now ret = false → RetBeg w A n ca X now ret (.panicked (viol 1)) u) := fun u hb h => ⟨hb, .inl ⟨h, rfl⟩⟩
  have HD : Hid (∀ (u : World) (b : Nat) (Ah : Option Addr) (ch : Nat), Below w.heap.size w u → dvB X now ret = true → Work u w.heap.size b A n ca Ah ch (mntList X) now ret → RetBeg w A n ca X now ret (.returned (.pointer (some ⟨b, 0, none⟩))) u) := fun u b Ah ch hb h hw => ⟨hb, .inr ⟨h, b, Ah, ch, rfl, hw⟩⟩
  have HK2 := Lib.hid (k0.below hb2 k0.lt)
  have HB2 := Lib.hid (bel_step hb0 hb2)
  have HCR := Lib.hid hcr
  have HO2 := Lib.hid ho2
  have hW : w.heap.size < W.heap.size := k0.lt
  have h2 := hb2.size
  clear hb0 k0 hb2 ho2 hcr
  by_cases hc : mntCode X = 0
  case neg =>
    obtain ⟨x, hx⟩ : ∃ x, errOf a0 a2 (mntCode X) = .iface 419 (.pointer (some x)) := by
      rcases HC.out with h | h | h
      · exact absurd h hc
      · exact ⟨a0, by rw [h]; rfl⟩
      · exact ⟨a2, by rw [h]; rfl⟩
    rw [hx]
    have HF := Lib.hid (HN.out hc)
    clear hx hc
    generalize (mntList X).length = yl
    go_wp2_with fail
    refine (require_no 1 _).mono ?_
    rintro e u ⟨rfl, rfl⟩
    exact ⟨rfl, HE.out _ (HB2.out.alloc HB2.out.size _) HF.out⟩
  rw [hc, errOf_0]
  replace HLT := Lib.hid (HLT.out hc)
  replace HY := Lib.hid (HY.out hc)
  obtain ⟨Y, hY⟩ : ∃ Y, Y = mntList X := ⟨_, rfl⟩
  rw [← hY] at HLT HY HD HCR HO2 ⊢
  obtain ⟨yl, hyl⟩ : ∃ yl, yl = Y.length := ⟨_, rfl⟩
  have HYL := Lib.hid hyl
  rw [← hyl] at HLT HO2 ⊢
  obtain ⟨T, hT⟩ : ∃ T, T = (lastR Y).t := ⟨_, rfl⟩
  rw [← hT] at HLT HY
  clear HN HC hc hY hyl hT
  go_wp2_with fail
  refine (require_yes 1 _).mono ?_
  rintro e u ⟨rfl, rfl⟩
  have hb3 := box_below w2 (.cells #[.slice Ar yl cr] 105)
  have k3 := isBlk_new w2 105 [.slice Ar yl cr]
  have hs3 := size_alloc w2 (.cells #[.slice Ar yl cr] 105)
  change IsBlk (w2.alloc (.cells #[.slice Ar yl cr] 105)) _ _ _ at k3
  go_wp2_with fail
  generalize w2.alloc (.cells #[.slice Ar yl cr] 105) = w3 at hb3 k3 hs3 ⊢
  have HK3 := Lib.hid (HK2.out.below hb3 HK2.out.lt)
  have HH3 := Lib.hid k3
  have HB3 := Lib.hid (bel_step HB2.out hb3)
  have HO3 := Lib.hid (HO2.out.below hb3 (Nat.le_refl _))
  have h23 : w2.heap.size < w3.heap.size := k3.lt
  clear hb3 k3 HK2 HB2 HO2
  have HR3 : Hid (∀ u : World, Below w3.heap.size w3 u → Calls Tryz.prog 156 #[.agg #[.slice Ar yl cr]] u fun e w' => e = .returned (.int .i64 T) ∧ Below u.heap.size u w') := fun u hb => HLT.out u Ar cr ((HO3.out.below hb (by omega)).rd (by have := hb.size; omega))
  by_cases h1 : 0 ≤ now ∧ now ≤ 1000000
  case neg =>
    have HT1 : Hid (∀ u : World, Calls Tryz.prog 155 #[.int .i64 now] u fun e w' => e = .returned (.bool false) ∧ w' = u) := fun u => by have := isTime_any now u; rw [rcIs_no h1] at this; exact this.mono fun e w' h => ⟨h.1, h.2.symm⟩
    have HF : Hid (dvB X now ret = false) := by show _ = false; rw [HY.out, rcIs_no h1]; rfl
    clear h1
    have x1 : w3.cell? ⟨w.heap.size, 1, none⟩ = some (.int .i64 now) := HK3.out.cell rfl
    refine wp_region_still_tail 15 (by kernel_rfl) (by kernel_rfl) ?_
    simp only [List.take_succ_cons, List.take_zero, List.drop_succ_cons, List.drop_zero]
    repeat still_step
    still_call (HT1.out _)
    repeat still_step
    refine wpStill_nil ?_
    change wpList _ _ _ _ _ w3.drew
    go_wp2_with fail
    refine (require_no 1 _).mono ?_
    rintro e u ⟨rfl, rfl⟩
    exact ⟨rfl, HE.out _ HB3.out.drew HF.out⟩
  by_cases h2 : 0 ≤ ret ∧ ret ≤ 1000000
  case neg =>
    have HT1 : Hid (∀ u : World, Calls Tryz.prog 155 #[.int .i64 now] u fun e w' => e = .returned (.bool true) ∧ w' = u) := fun u => by have := isTime_any now u; rw [rcIs_yes h1] at this; exact this.mono fun e w' h => ⟨h.1, h.2.symm⟩
    have HT2 : Hid (∀ u : World, Calls Tryz.prog 155 #[.int .i64 ret] u fun e w' => e = .returned (.bool false) ∧ w' = u) := fun u => by have := isTime_any ret u; rw [rcIs_no h2] at this; exact this.mono fun e w' h => ⟨h.1, h.2.symm⟩
    have HF : Hid (dvB X now ret = false) := by show _ = false; rw [HY.out, rcIs_no h2]; simp
    clear h1 h2
    have x1 : w3.cell? ⟨w.heap.size, 1, none⟩ = some (.int .i64 now) := HK3.out.cell rfl
    have x2 : w3.cell? ⟨w.heap.size, 2, none⟩ = some (.int .i64 ret) := HK3.out.cell rfl
    refine wp_region_still_tail 15 (by kernel_rfl) (by kernel_rfl) ?_
    simp only [List.take_succ_cons, List.take_zero, List.drop_succ_cons, List.drop_zero]
    repeat still_step
    still_call (HT1.out _)
    repeat still_step
    still_call (HT2.out _)
    repeat still_step
    refine wpStill_nil ?_
    change wpList _ _ _ _ _ w3.drew
    go_wp2_with fail
    refine (require_no 1 _).mono ?_
    rintro e u ⟨rfl, rfl⟩
    exact ⟨rfl, HE.out _ HB3.out.drew HF.out⟩
  have HT1 : Hid (∀ u : World, Calls Tryz.prog 155 #[.int .i64 now] u fun e w' => e = .returned (.bool true) ∧ u = w') := fun u => by have := isTime_any now u; rwa [rcIs_yes h1] at this
  have HT2 : Hid (∀ u : World, Calls Tryz.prog 155 #[.int .i64 ret] u fun e w' => e = .returned (.bool true) ∧ u = w') := fun u => by have := isTime_any ret u; rwa [rcIs_yes h2] at this
  have HF : Hid (dvB X now ret = decide (T ≤ now)) := by show _ = _; rw [HY.out, rcIs_yes h1, rcIs_yes h2]; rfl
  clear h1 h2
  go_region_held2 (fun w' => w'.cell? ⟨w.heap.size, 1, none⟩ = some (.int .i64 now) ∧ w'.cell? ⟨w.heap.size, 2, none⟩ = some (.int .i64 ret) ∧ w'.cell? ⟨w2.heap.size, 0, none⟩ = some (.slice Ar yl cr) ∧ Hid (Below w3.heap.size w3 w'))
      (first | assumption | exact bg_keep HK3.out HH3.out (Below.refl _ _) | exact bg_keep HK3.out HH3.out (Below.refl _ _).drew)
      (first
        | (go_at_call 155
           first | refine (HT1.out _).mono ?_ | refine (HT2.out _).mono ?_
           rintro e u ⟨rfl, rfl⟩)
        | (go_at_call 156
           refine (HR3.out _ (bg_of (by assumption))).mono ?_
           rintro e u ⟨rfl, hbu⟩
           have hsu := bg_keep HK3.out HH3.out (bel_step (bg_of (by assumption)) hbu)
           clear hbu)
        | (go_at_call 154
           refine (require_any _ 1 _).mono ?_
           rintro e u ⟨he, rfl⟩
           by_cases hlt : T ≤ now
           case neg =>
             rw [if_neg (by simpa using hlt)] at he
             subst he
             exact ⟨rfl, HE.out _ (bel_step HB3.out (bg_of (by assumption))) (by rw [HF.out]; exact decide_eq_false hlt)⟩
           rw [if_pos (by simpa using hlt)] at he
           subst he))
  have HB4 := Lib.hid (bel_step HB3.out (bg_of hsu))
  have HO4 := Lib.hid (HO3.out.below (bg_of hsu) (by omega))
  have h34 := (bg_of hsu).size
  obtain ⟨d0, d1, d2, -, -, -⟩ := blk3 (HK3.out.below (bg_of hsu) HK3.out.lt)
  have e0 : u.cell? ⟨w2.heap.size, 0, none⟩ = some (.slice Ar yl cr) := hsu.2.2.1
  have HL := Lib.hid hlt
  clear hsu hlt
  go_wp2
  go_ret
  refine HD.out _ u.heap.size Ar cr (HB4.out.alloc HB4.out.size _) (by rw [HF.out]; exact decide_eq_true HL.out) ⟨?_, HB4.out.size, HCR.out, ?_⟩
  · rw [← HYL.out]; exact isBlk_new _ _ _
  · rw [← HYL.out]; exact (HO4.out.below (box_below _ _) (by omega)).mono (by omega) (by omega)
end Go.Proofs.YtdeagcdafcfimaaGreatDoor

namespace Go.Proofs.YtdeagcdafcfimaaGreatDoor
open Go.RowKit
open Bt (Rc)

/-- what is done to a drive at work in block b: it is as R says, or the work is given up with R's code -/
def DoneTo (w : World) (b : Nat) (Ah : Option Addr) (m ch : Nat) (R : Dv) (e : Ending) (w' : World) : Prop :=
  Below b w w' ∧ w.heap.size ≤ w'.heap.size ∧ (R.code ≠ 0 ∧ e = .panicked (viol R.code) ∨
    R.code = 0 ∧ e = .returned (.tuple #[]) ∧ ∃ (A' : Option Addr) (c' : Nat), IsBlk w' b 202 (wkC A' R.nd.length c' Ah m ch R.now R.ret) ∧ RdBk w' w'.heap.size A' R.nd.length R.nd)

theorem DoneTo.back {w u w' : World} {b : Nat} {Ah : Option Addr} {m ch : Nat} {R : Dv} {e : Ending} (hb : Below w.heap.size w u) (hbw : b ≤ w.heap.size) (h : DoneTo u b Ah m ch R e w') : DoneTo w b Ah m ch R e w' :=
  ⟨(hb.mono hbw).trans h.1, Nat.le_trans hb.size h.2.1, h.2.2⟩

set_option maxHeartbeats 1000000 in
set_option maxRecDepth 100000 in
theorem wkBecome_any (b : Nat) (v0 : Value) (A : Option Addr) (n ca : Nat) (d : ByteArray) (code : Int) (w : World) (h0 : w.cell? ⟨b, 0, none⟩ = some v0) (hf : w.frozen? ⟨b, 0, none⟩ = false) :
    Calls Tryz.prog 268 #[.pointer (some ⟨b, 0, none⟩), .agg #[.slice A n ca, .string d, .int .i64 code]] w fun e w' =>
      (code ≠ 0 ∧ e = .panicked (viol code) ∧ w' = w.alloc (.cells #[.slice A n ca, .string d, .int .i64 code] 156) ∨
       code = 0 ∧ e = .returned (.tuple #[]) ∧ w' = (w.setCell ⟨b, 0, none⟩ (.slice A n ca)).alloc (.cells #[.slice A n ca, .string d, .int .i64 code] 156)) := by
  have hb : b < w.heap.size := World.block_lt_of_cell? _ _ h0
  go_enter Tryz.func268, Tryz.ntmps268
  by_cases hc : code = 0
  · subst hc
    go_wp2_with fail
    refine (require_yes _ _).mono ?_
    rintro e u ⟨rfl, rfl⟩
    go_wp2
    go_end0
    exact ⟨rfl, rfl⟩
  · have hd : (code == 0) = false := by simpa using hc
    go_wp2_with fail
    refine (require_no _ _).mono ?_
    rintro e u ⟨rfl, rfl⟩
    exact ⟨rfl, Or.inl ⟨hc, rfl, rfl⟩⟩
/-- become, at a drive at work whose chip's memory is newer -/
theorem wkBecome_done (b : Nat) (A Ah : Option Addr) (n ca m ch : Nat) (now ret : Int) (A' : Option Addr) (c' : Nat) (r : NdAns) (w u : World) (lo hi : Nat) (hk : IsBlk u b 202 (wkC A n ca Ah m ch now ret)) (hb : Below w.heap.size w u) (hbw : b < w.heap.size) (hlo : b < lo) (hhi : hi ≤ u.heap.size) (ho : OwNd u lo hi A' r.nd.length r.nd) :
    Calls Tryz.prog 268 #[.pointer (some ⟨b, 0, none⟩), .agg #[.slice A' r.nd.length c', .string r.data, .int .i64 r.code]] u (DoneTo w b Ah m ch (dvWith now ret r)) := by
  obtain ⟨c0, -, -, -, f0, -, -, -⟩ := blk4 hk
  refine (wkBecome_any b _ A' r.nd.length c' r.data r.code u c0 f0).mono ?_
  have hlt := hk.lt
  rintro e w' (⟨h, rfl, rfl⟩ | ⟨h, rfl, rfl⟩)
  · unfold dvWith; rw [if_neg h]
    exact ⟨(hb.alloc hb.size _).mono (by omega), by have := hb.size; simp; omega, .inl ⟨h, rfl⟩⟩
  · unfold dvWith; rw [if_pos h]
    refine ⟨?_, by have := hb.size; simp [World.setCell]; omega, .inr ⟨rfl, rfl, A', c', ?_, ?_⟩⟩
    · exact (((hb.mono (Nat.le_of_lt hbw)).setCell (p := ⟨b, 0, none⟩) (Nat.le_refl _) _).alloc (by have := hb.size; simp [World.setCell]; omega) _)
    · exact (hk.set (j := 0) (.slice A' r.nd.length c')).alloc _
    · have h1 : OwNd (u.setCell ⟨b, 0, none⟩ (.slice A' r.nd.length c')) lo hi A' r.nd.length r.nd := ho.same fun j hj _ => Below.heap_setCell _ _ _ _ (by dsimp only; omega)
      have hz : (u.setCell ⟨b, 0, none⟩ (.slice A' r.nd.length c')).heap.size = u.heap.size := by simp [World.setCell]
      exact (h1.below (box_below _ _) (by omega)).rd (by simp [World.setCell]; omega)

theorem lastR_q {Y : List Rc} (h : hRight Y = true) : 0 ≤ (lastR Y).q ∧ (lastR Y).q ≤ 1000000 := by
  unfold lastR
  by_cases hl : Y.length = 0
  · rw [List.getD_eq_getElem?_getD, List.getElem?_eq_none (by omega)]
    show (0 : Int) ≤ 0 ∧ (0 : Int) ≤ 1000000
    omega
  · obtain ⟨h1, -, -⟩ := hRight_at h (k := Y.length - 1) (by omega)
    obtain ⟨-, -, -, -, q1, q2, -⟩ := h1
    exact ⟨by omega, q2⟩

set_option maxHeartbeats 4000000 in
set_option maxRecDepth 100000 in
theorem wkAdd_any (b : Nat) (A Ah : Option Addr) (n ca ch : Nat) (X : List Bk) (r : Rc) (now ret : Int) (a0 a1 a2 : Addr) (w : World) (hk : IsBlk w b 202 (wkC A n ca Ah (mntList X).length ch now ret)) (hc : mntCode X = 0) (ht : r.t = now)
    (hOk : (lastR (mntList X)).q < 1000000 → (dvRec (mntList X) now r).Ok) (hd : r.d.size ≤ maxLen) (hX : Small X) (hS : Sents w a0 a1 a2) (hA : RdBk w w.heap.size A n X) (hR : RdRc w w.heap.size Ah (mntList X).length (mntList X)) :
    Calls Tryz.prog 293 #[.pointer (some ⟨b, 0, none⟩), recV r] w (DoneTo w b Ah (mntList X).length ch (dvPut X now ret r)) := by
  subst ht
  obtain ⟨z1, z2, z3⟩ := mnt_zero hc
  have HSM : Hid (SmallR (mntList X)) := by show SmallR _; rw [z2]; exact mnt_smallR z1
  have hq := lastR_q z3
  have hlen := mntList_len X
  have HLS : Hid (∀ u : World, Below w.heap.size w u → Calls Tryz.prog 133 #[.agg #[.slice Ah (mntList X).length ch]] u fun e w' => e = .returned (.int .i64 (lastR (mntList X)).q) ∧ Below u.heap.size u w') := fun u hb => by
    have := impl_lastSeq_any Ah (mntList X).length ch (mntList X) u HSM.out ((hR.below hb).mono hb.size)
    unfold lastOf at this
    rwa [if_pos z3] at this
  have HFULL : Hid (1000000 ≤ (lastR (mntList X)).q ∨ 48 ≤ (mntList X).length → dvPut X r.t ret r = dvIll 9) := fun h => by unfold dvPut; rw [if_pos h]
  have HPUT : Hid (¬ (1000000 ≤ (lastR (mntList X)).q ∨ 48 ≤ (mntList X).length) → dvPut X r.t ret r = dvWith r.t ret (putAns X 1 (bstr (dvRec (mntList X) r.t r).bytes))) := fun h => by unfold dvPut; rw [if_neg h]
  have HAPP : Hid ((lastR (mntList X)).q < 1000000 → ∀ u : World, Below w.heap.size w u → Calls Tryz.prog 316 #[.agg #[.slice A n ca], .agg #[.int .i64 r.k, .int .i64 r.s, .int .i64 ((lastR (mntList X)).q + 1), .int .i64 r.t, .int .i64 r.o, .string r.d], .int .i64 1] u (RetAns u (putAns X 1 (bstr (dvRec (mntList X) r.t r).bytes)))) := fun hl u hb => by
    have := impl_append A n ca X (dvRec (mntList X) r.t r) 1 a0 a1 a2 u hd hX (hS.below hb) (rd_step hA hb)
    have e : appAns X (decide (dvRec (mntList X) r.t r).Ok) (bstr (dvRec (mntList X) r.t r).bytes) 1 = putAns X 1 (bstr (dvRec (mntList X) r.t r).bytes) := by
      unfold appAns
      rw [if_pos ⟨z1, decide_eq_true (hOk hl), by omega, by omega⟩]
    rw [e] at this
    exact this
  have HK := Lib.hid hk
  have hbw := hk.lt
  obtain ⟨c0, c1, c2, c3, f0, -, -, -⟩ := blk4 hk
  generalize putAns X 1 (bstr (dvRec (mntList X) r.t r).bytes) = Q at *
  generalize dvPut X r.t ret r = R at *
  generalize (lastR (mntList X)).q = q at *
  generalize (mntList X).length = yl at *
  clear hk hc hOk hd hX hS hA hR z1 z2 z3 HSM
  obtain ⟨k, s, sq, ti, o, d⟩ := r
  simp only at *
  have hb0 := box_below w (.cells #[.int .i64 k, .int .i64 s, .int .i64 sq, .int .i64 ti, .int .i64 o, .string d] 148)
  have k0 := isBlk_new w 148 [.int .i64 k, .int .i64 s, .int .i64 sq, .int .i64 ti, .int .i64 o, .string d]
  change IsBlk (w.alloc (.cells #[.int .i64 k, .int .i64 s, .int .i64 sq, .int .i64 ti, .int .i64 o, .string d] 148)) _ _ _ at k0
  have e1 : (w.alloc (.cells #[.int .i64 k, .int .i64 s, .int .i64 sq, .int .i64 ti, .int .i64 o, .string d] 148)).cell? ⟨b, 1, none⟩ = some (.slice Ah yl ch) := (hb0.cell (p := ⟨b, 1, none⟩) hbw).trans c1
  go_enter Tryz.func293, Tryz.ntmps293
  go_wp2_with fail
  generalize w.alloc (.cells #[.int .i64 k, .int .i64 s, .int .i64 sq, .int .i64 ti, .int .i64 o, .string d] 148) = W at hb0 k0 e1 ⊢
  refine (HLS.out W hb0).mono ?_
  rintro e w2 ⟨rfl, hb2⟩
  have HB2 := Lib.hid (bel_step hb0 hb2)
  have HK2 := Lib.hid (k0.below hb2 k0.lt)
  have HW2 := Lib.hid (HK.out.below HB2.out hbw)
  have h2 := HB2.out.size
  have h2l := HK2.out.lt
  clear hb0 k0 hb2 e1 c0 c1 c2 c3 f0
  obtain ⟨c0, c1, c2, c3, f0, -, -, -⟩ := blk4 HW2.out
  have HNO : Hid (∀ u, Below w.heap.size w u → 1000000 ≤ q ∨ 48 ≤ yl → DoneTo w b Ah yl ch R (.panicked (viol 9)) u) := fun u hu h => by
    rw [HFULL.out h]; exact ⟨hu.mono (Nat.le_of_lt hbw), hu.size, .inl ⟨by decide, rfl⟩⟩
  by_cases g1 : q < 1000000
  case neg =>
    go_wp2_with fail
    refine (require_any _ 9 _).mono ?_
    rintro e u ⟨he, rfl⟩
    rw [if_neg (by simp)] at he
    subst he
    exact ⟨rfl, HNO.out _ HB2.out (by omega)⟩
  by_cases g2 : yl < 48
  case neg =>
    have g2' : ¬ (yl : Int) < 48 := by omega
    go_wp2_with fail
    refine (require_any _ 9 _).mono ?_
    rintro e u ⟨he, rfl⟩
    rw [if_neg (by simp; omega)] at he
    subst he
    exact ⟨rfl, HNO.out _ HB2.out (by omega)⟩
  have g2' : (yl : Int) < 48 := by omega
  go_wp2_with fail
  refine (require_any _ 9 _).mono ?_
  rintro e u ⟨he, rfl⟩
  rw [if_pos (by simp)] at he
  subst he
  replace HAPP := Lib.hid (HAPP.out g1)
  replace HPUT := HPUT.out (by omega)
  subst HPUT
  have r2 : w2.cell? ⟨w.heap.size, 2, none⟩ = some (.int .i64 sq) := HK2.out.cell rfl
  have rf : w2.frozen? ⟨w.heap.size, 2, none⟩ = false := HK2.out.free
  go_wp2_with fail
  have k3 := HK2.out.set (j := 2) (.int .i64 (q + 1))
  have kw3 := HW2.out.other (a := ⟨w.heap.size, 2, none⟩) (by dsimp only; omega) (.int .i64 (q + 1))
  have hb3 := HB2.out.setCell (p := ⟨w.heap.size, 2, none⟩) (Nat.le_refl _) (.int .i64 (q + 1))
  generalize w2.setCell ⟨w.heap.size, 2, none⟩ (.int .i64 (q + 1)) = w3 at k3 kw3 hb3 ⊢
  have HB3 := Lib.hid hb3
  have HB3d := Lib.hid hb3.drew
  have HW3 := Lib.hid kw3
  change IsBlk w3 w.heap.size _ [.int .i64 k, .int .i64 s, .int .i64 (q + 1), .int .i64 ti, .int .i64 o, .string d] at k3
  have r0 : w3.cell? ⟨w.heap.size, 0, none⟩ = some (.int .i64 k) := k3.cell rfl
  have r1 : w3.cell? ⟨w.heap.size, 1, none⟩ = some (.int .i64 s) := k3.cell rfl
  have r2' : w3.cell? ⟨w.heap.size, 2, none⟩ = some (.int .i64 (q + 1)) := k3.cell rfl
  have r3 : w3.cell? ⟨w.heap.size, 3, none⟩ = some (.int .i64 ti) := k3.cell rfl
  have r4 : w3.cell? ⟨w.heap.size, 4, none⟩ = some (.int .i64 o) := k3.cell rfl
  have r5 : w3.cell? ⟨w.heap.size, 5, none⟩ = some (.string d) := k3.cell rfl
  have x0 : w3.cell? ⟨b, 0, none⟩ = some (.slice A n ca) := kw3.cell rfl
  clear k3 kw3 hb3 r2 rf c0 c1 c2 c3 f0
  go_region_with (first
    | (go_at_call 316
       refine (HAPP.out _ HB3d.out).mono ?_
       rintro e w4 ⟨A4, c4, rfl, ho4, hb4⟩
       have HO4 := Lib.hid ho4
       have HB34 : Hid (Below w3.heap.size w3 w4) := bel_step (Below.refl _ _).drew hb4
       clear ho4 hb4)
    | (go_at_call 268
       refine (wkBecome_done b A Ah n ca yl ch ti ret A4 c4 Q w w4 _ _ (HW3.out.below HB34.out HW3.out.lt) (bel_step HB3.out HB34.out) hbw (by have := HB3.out.size; show b < w3.heap.size; omega) (Nat.le_refl _) HO4.out).mono ?_
       rintro e w5 ⟨hb5, hs5, h5⟩
       rcases h5 with ⟨hc5, rfl⟩ | ⟨hc5, rfl, h5⟩
       · exact ⟨rfl, hb5, hs5, .inl ⟨hc5, rfl⟩⟩
       have H5 := Lib.hid h5; have HB5 := Lib.hid hb5
       clear h5 hb5))
  all_goals
    go_wp2
    go_end0
    exact ⟨HB5.out, hs5, .inr ⟨hc5, rfl, H5.out⟩⟩

set_option maxHeartbeats 2000000 in
set_option maxRecDepth 100000 in
theorem wkLog_any (b : Nat) (A Ah : Option Addr) (n ca ch : Nat) (X : List Bk) (r : Rc) (now ret : Int) (a0 a1 a2 : Addr) (w : World) (hk : IsBlk w b 202 (wkC A n ca Ah (mntList X).length ch now ret)) (hc : mntCode X = 0)
    (hOk : (lastR (mntList X)).q < 1000000 → (dvRec (mntList X) now r).Ok) (hd : r.d.size ≤ maxLen) (hX : Small X) (hS : Sents w a0 a1 a2) (hA : RdBk w w.heap.size A n X) (hR : RdRc w w.heap.size Ah (mntList X).length (mntList X)) :
    Calls Tryz.prog 266 #[.pointer (some ⟨b, 0, none⟩), recV r] w (DoneTo w b Ah (mntList X).length ch (dvPut X now ret r)) := by
  have HADD : Hid (∀ u, Below w.heap.size w u → Calls Tryz.prog 293 #[.pointer (some ⟨b, 0, none⟩), .agg #[.int .i64 r.k, .int .i64 r.s, .int .i64 r.q, .int .i64 now, .int .i64 r.o, .string r.d]] u (DoneTo u b Ah (mntList X).length ch (dvPut X now ret r))) := fun u hb =>
    wkAdd_any b A Ah n ca ch X ⟨r.k, r.s, r.q, now, r.o, r.d⟩ now ret a0 a1 a2 u (hk.below hb hk.lt) hc rfl hOk hd hX (hS.below hb) (rd_step hA hb) ((hR.below hb).mono hb.size)
  have hbw := hk.lt
  obtain ⟨c0, c1, c2, c3, f0, -, -, -⟩ := blk4 hk
  generalize dvPut X now ret r = R at *
  generalize (mntList X).length = yl at *
  clear hk hc hOk hd hX hS hA hR
  obtain ⟨k, s, sq, ti, o, d⟩ := r
  simp only at *
  have hb0 := box_below w (.cells #[.int .i64 k, .int .i64 s, .int .i64 sq, .int .i64 now, .int .i64 o, .string d] 148)
  have k0 := isBlk_new w 148 [.int .i64 k, .int .i64 s, .int .i64 sq, .int .i64 now, .int .i64 o, .string d]
  change IsBlk (w.alloc (.cells #[.int .i64 k, .int .i64 s, .int .i64 sq, .int .i64 now, .int .i64 o, .string d] 148)) _ _ _ at k0
  go_enter Tryz.func266, Tryz.ntmps266
  go_wp2_with fail
  generalize w.alloc (.cells #[.int .i64 k, .int .i64 s, .int .i64 sq, .int .i64 now, .int .i64 o, .string d] 148) = W at hb0 k0 ⊢
  have HB0 := Lib.hid hb0
  have r0 : W.cell? ⟨w.heap.size, 0, none⟩ = some (.int .i64 k) := k0.cell rfl
  have r1 : W.cell? ⟨w.heap.size, 1, none⟩ = some (.int .i64 s) := k0.cell rfl
  have r2 : W.cell? ⟨w.heap.size, 2, none⟩ = some (.int .i64 sq) := k0.cell rfl
  have r3 : W.cell? ⟨w.heap.size, 3, none⟩ = some (.int .i64 now) := k0.cell rfl
  have r4 : W.cell? ⟨w.heap.size, 4, none⟩ = some (.int .i64 o) := k0.cell rfl
  have r5 : W.cell? ⟨w.heap.size, 5, none⟩ = some (.string d) := k0.cell rfl
  clear hb0 k0 c0 c1 c2 c3 f0
  refine wp_region_still_tail 4 (by kernel_rfl) (by kernel_rfl) ?_
  simp only [List.take_succ_cons, List.take_zero, List.drop_succ_cons, List.drop_zero]
  simp [wpStill, go_sem, r0, r1, r2, r3, r4, r5, Oper.still, Oper.stillUpon]
  go_wp2_with fail
  refine (HADD.out _ HB0.out.drew).mono ?_
  rintro e u h
  have h' := h.back HB0.out.drew (Nat.le_of_lt hbw)
  rcases h with ⟨-, -, h5⟩
  rcases h5 with ⟨hc5, rfl⟩ | ⟨hc5, rfl, -⟩
  · exact ⟨rfl, h'⟩
  · have H' := Lib.hid h'
    clear h'
    go_wp2
    go_end0
    exact H'.out

set_option maxHeartbeats 2000000 in
set_option maxRecDepth 100000 in
theorem wkDrive_any (b : Nat) (A Ah : Option Addr) (ca m ch : Nat) (Z : List Bk) (now ret : Int) (w : World) (hk : IsBlk w b 202 (wkC A Z.length ca Ah m ch now ret)) (hZ : Small Z) (hok : NdOk Z) (hA : RdBk w w.heap.size A Z.length Z) :
    Calls Tryz.prog 233 #[.pointer (some ⟨b, 0, none⟩)] w fun e w' => ∃ (A' : Option Addr) (c' : Nat), e = .returned (.agg #[.slice A' Z.length c', .int .i64 now, .int .i64 ret]) ∧ OwNd w' w.heap.size w'.heap.size A' Z.length Z ∧ Below w.heap.size w w' := by
  have HCP : Hid (∀ u, Below w.heap.size w u → Calls Tryz.prog 113 #[.agg #[.slice A Z.length ca]] u (RetNd u Z)) := fun u hb => impl_copyNand A Z.length ca Z u hZ hok (rd_step hA hb)
  have HK := Lib.hid hk
  have hbw := hk.lt
  obtain ⟨zl, hzl⟩ : ∃ zl, zl = Z.length := ⟨_, rfl⟩
  have HZL := Lib.hid hzl
  rw [← hzl] at HCP HK ⊢
  clear hk hZ hok hA hzl
  have hb0 := box_below w (.cells #[.slice none 0 0, .int .i64 0, .int .i64 0] 43)
  have k0 := isBlk_new w 43 [.slice none 0 0, .int .i64 0, .int .i64 0]
  change IsBlk (w.alloc (.cells #[.slice none 0 0, .int .i64 0, .int .i64 0] 43)) _ _ _ at k0
  go_enter Tryz.func233, Tryz.ntmps233
  go_wp2_with fail
  generalize w.alloc (.cells #[.slice none 0 0, .int .i64 0, .int .i64 0] 43) = W at hb0 k0 ⊢
  have HB0 := Lib.hid hb0; have HK0 := Lib.hid k0
  have HK1 := Lib.hid (HK.out.below hb0 hbw)
  have hlt0 := k0.lt
  obtain ⟨c0, c1, c2, c3, -, -, -, -⟩ := blk4 HK1.out
  have hne : ¬ b = w.heap.size := by omega
  have hne' : ¬ w.heap.size = b := by omega
  clear hb0 k0
  go_region_held3 (fun w' => w'.cell? ⟨b, 0, none⟩ = some (.slice A zl ca) ∧ w'.cell? ⟨b, 2, none⟩ = some (.int .i64 now) ∧ w'.cell? ⟨b, 3, none⟩ = some (.int .i64 ret))
    (first | exact ⟨c0, c2, c3⟩ | exact hsu | go_keep)
    ((go_at_call 113
      refine (HCP.out _ HB0.out.drew).mono ?_
      rintro e u ⟨A', c', rfl, hou, hbu⟩
      rw [← HZL.out] at hou ⊢
      have hbu' : Below W.heap.size W u := bel_step (Below.refl _ _).drew hbu
      have hsu : u.cell? ⟨b, 0, none⟩ = some (.slice A zl ca) ∧ u.cell? ⟨b, 2, none⟩ = some (.int .i64 now) ∧ u.cell? ⟨b, 3, none⟩ = some (.int .i64 ret) :=
        ⟨(HK1.out.below hbu' HK1.out.lt).cell rfl, (HK1.out.below hbu' HK1.out.lt).cell rfl, (HK1.out.below hbu' HK1.out.lt).cell rfl⟩
      obtain ⟨d0, d1, d2, fd0, fd1, fd2⟩ := blk3 (HK0.out.below hbu' HK0.out.lt)
      have HBu := Lib.hid hbu'
      have HOu : Hid (OwNd u W.heap.size u.heap.size A' zl Z) := hou
      clear hou hbu hbu'))
  all_goals
    go_wp2
    refine bodyPost_ret (v := .agg #[.slice A' zl c', .int .i64 now, .int .i64 ret]) (by simp [results, Tryz.results233, go_sem, d0, d1, d2]) rfl ?_
    refine ⟨A', c', rfl, ?_, ?_⟩
    · refine (HOu.out.mono (Nat.le_refl _) (by simp [World.setCell])).same ?_ |>.mono (by have := HB0.out.size; omega) (Nat.le_refl _)
      intro k h1 h2
      repeat rw [Below.heap_setCell _ _ _ _ (by dsimp only; omega)]
    · repeat (with_reducible refine Below.setCell ?_ ?_ _)
      all_goals first | exact bel_step HB0.out HBu.out | (dsimp only; omega)
end Go.Proofs.YtdeagcdafcfimaaGreatDoor

namespace Go.Proofs.YtdeagcdafcfimaaGreatDoor
open Go.RowKit

theorem meth_ticking (v : Value) (w : World) : (Go.method 549 237 v "loop.example/g00637/impl.check").run Tryz.prog w = .ok (376, v) w := by kernel_rfl
theorem sw_ticking (v : Value) (w : World) : (Instr.typeAssert (.iface 237 v) 289 237 true).run Tryz.prog w = .ok (.tuple #[v, .bool true]) w := by kernel_rfl
theorem meth_writing (v : Value) (w : World) : (Go.method 549 231 v "loop.example/g00637/impl.check").run Tryz.prog w = .ok (373, v) w := by kernel_rfl
theorem sw_writing_ticking (v : Value) (w : World) : (Instr.typeAssert (.iface 231 v) 289 237 true).run Tryz.prog w = .ok (.tuple #[.agg #[.int .i64 0], .bool false]) w := by kernel_rfl
theorem sw_writing (v : Value) (w : World) : (Instr.typeAssert (.iface 231 v) 289 231 true).run Tryz.prog w = .ok (.tuple #[v, .bool true]) w := by kernel_rfl
theorem meth_trimming (v : Value) (w : World) : (Go.method 549 233 v "loop.example/g00637/impl.check").run Tryz.prog w = .ok (374, v) w := by kernel_rfl
theorem sw_trimming_ticking (v : Value) (w : World) : (Instr.typeAssert (.iface 233 v) 289 237 true).run Tryz.prog w = .ok (.tuple #[.agg #[.int .i64 0], .bool false]) w := by kernel_rfl
theorem sw_trimming_writing (v : Value) (w : World) : (Instr.typeAssert (.iface 233 v) 289 231 true).run Tryz.prog w = .ok (.tuple #[.agg #[.int .i64 0, .string ⟨#[]⟩], .bool false]) w := by kernel_rfl
theorem sw_trimming (v : Value) (w : World) : (Instr.typeAssert (.iface 233 v) 289 233 true).run Tryz.prog w = .ok (.tuple #[v, .bool true]) w := by kernel_rfl
theorem meth_rolling (v : Value) (w : World) : (Go.method 549 235 v "loop.example/g00637/impl.check").run Tryz.prog w = .ok (375, v) w := by kernel_rfl
theorem sw_rolling_ticking (v : Value) (w : World) : (Instr.typeAssert (.iface 235 v) 289 237 true).run Tryz.prog w = .ok (.tuple #[.agg #[.int .i64 0], .bool false]) w := by kernel_rfl
theorem sw_rolling_writing (v : Value) (w : World) : (Instr.typeAssert (.iface 235 v) 289 231 true).run Tryz.prog w = .ok (.tuple #[.agg #[.int .i64 0, .string ⟨#[]⟩], .bool false]) w := by kernel_rfl
theorem sw_rolling_trimming (v : Value) (w : World) : (Instr.typeAssert (.iface 235 v) 289 233 true).run Tryz.prog w = .ok (.tuple #[.agg #[.int .i64 0], .bool false]) w := by kernel_rfl
theorem sw_rolling (v : Value) (w : World) : (Instr.typeAssert (.iface 235 v) 289 235 true).run Tryz.prog w = .ok (.tuple #[v, .bool true]) w := by kernel_rfl
theorem meth_raising (v : Value) (w : World) : (Go.method 549 246 v "loop.example/g00637/impl.check").run Tryz.prog w = .ok (377, v) w := by kernel_rfl
theorem sw_raising_ticking (v : Value) (w : World) : (Instr.typeAssert (.iface 246 v) 289 237 true).run Tryz.prog w = .ok (.tuple #[.agg #[.int .i64 0], .bool false]) w := by kernel_rfl
theorem sw_raising_writing (v : Value) (w : World) : (Instr.typeAssert (.iface 246 v) 289 231 true).run Tryz.prog w = .ok (.tuple #[.agg #[.int .i64 0, .string ⟨#[]⟩], .bool false]) w := by kernel_rfl
theorem sw_raising_trimming (v : Value) (w : World) : (Instr.typeAssert (.iface 246 v) 289 233 true).run Tryz.prog w = .ok (.tuple #[.agg #[.int .i64 0], .bool false]) w := by kernel_rfl
theorem sw_raising_rolling (v : Value) (w : World) : (Instr.typeAssert (.iface 246 v) 289 235 true).run Tryz.prog w = .ok (.tuple #[.agg #[.int .i64 0], .bool false]) w := by kernel_rfl
theorem sw_raising (v : Value) (w : World) : (Instr.typeAssert (.iface 246 v) 289 246 true).run Tryz.prog w = .ok (.tuple #[v, .bool true]) w := by kernel_rfl
theorem meth_collecting (v : Value) (w : World) : (Go.method 549 249 v "loop.example/g00637/impl.check").run Tryz.prog w = .ok (378, v) w := by kernel_rfl
theorem sw_collecting_ticking (v : Value) (w : World) : (Instr.typeAssert (.iface 249 v) 289 237 true).run Tryz.prog w = .ok (.tuple #[.agg #[.int .i64 0], .bool false]) w := by kernel_rfl
theorem sw_collecting_writing (v : Value) (w : World) : (Instr.typeAssert (.iface 249 v) 289 231 true).run Tryz.prog w = .ok (.tuple #[.agg #[.int .i64 0, .string ⟨#[]⟩], .bool false]) w := by kernel_rfl
theorem sw_collecting_trimming (v : Value) (w : World) : (Instr.typeAssert (.iface 249 v) 289 233 true).run Tryz.prog w = .ok (.tuple #[.agg #[.int .i64 0], .bool false]) w := by kernel_rfl
theorem sw_collecting_rolling (v : Value) (w : World) : (Instr.typeAssert (.iface 249 v) 289 235 true).run Tryz.prog w = .ok (.tuple #[.agg #[.int .i64 0], .bool false]) w := by kernel_rfl
theorem sw_collecting_raising (v : Value) (w : World) : (Instr.typeAssert (.iface 249 v) 289 246 true).run Tryz.prog w = .ok (.tuple #[.agg #[], .bool false]) w := by kernel_rfl
theorem sw_collecting (v : Value) (w : World) : (Instr.typeAssert (.iface 249 v) 289 249 true).run Tryz.prog w = .ok (.tuple #[v, .bool true]) w := by kernel_rfl
end Go.Proofs.YtdeagcdafcfimaaGreatDoor

namespace Go.Proofs.YtdeagcdafcfimaaGreatDoor
open Go.RowKit
open Bt (Rc)

/-- a valid drive at work in block b, its memory below that -/
structure OnWork (w : World) (b : Nat) (A : Option Addr) (n ca : Nat) (X : List Bk) (Ah : Option Addr) (ch : Nat) (now ret : Int) (a0 a1 a2 : Addr) : Prop where
  blk : IsBlk w b 202 (wkC A n ca Ah (mntList X).length ch now ret)
  chip : RdBk w b A n X
  hist : RdRc w b Ah (mntList X).length (mntList X)
  ok : dvB X now ret = true
  small : Small X
  sents : Sents w a0 a1 a2
  et : ErrType w
theorem OnWork.below {w u : World} {b : Nat} {A : Option Addr} {n ca : Nat} {X : List Bk} {Ah : Option Addr} {ch : Nat} {now ret : Int} {a0 a1 a2 : Addr} (h : OnWork w b A n ca X Ah ch now ret a0 a1 a2) (hb : Below w.heap.size w u) : OnWork u b A n ca X Ah ch now ret a0 a1 a2 :=
  ⟨h.blk.below hb h.blk.lt, h.chip.below (hb.mono (Nat.le_of_lt h.blk.lt)), h.hist.below (hb.mono (Nat.le_of_lt h.blk.lt)), h.ok, h.small, h.sents.below hb, h.et.below hb⟩
theorem OnWork.rd {w : World} {b : Nat} {A : Option Addr} {n ca : Nat} {X : List Bk} {Ah : Option Addr} {ch : Nat} {now ret : Int} {a0 a1 a2 : Addr} (h : OnWork w b A n ca X Ah ch now ret a0 a1 a2) : RdBk w w.heap.size A n X := h.chip.mono (Nat.le_of_lt h.blk.lt)
theorem OnWork.rdR {w : World} {b : Nat} {A : Option Addr} {n ca : Nat} {X : List Bk} {Ah : Option Addr} {ch : Nat} {now ret : Int} {a0 a1 a2 : Addr} (h : OnWork w b A n ca X Ah ch now ret a0 a1 a2) : RdRc w w.heap.size Ah (mntList X).length (mntList X) := h.hist.mono (Nat.le_of_lt h.blk.lt)
theorem OnWork.times {w : World} {b : Nat} {A : Option Addr} {n ca : Nat} {X : List Bk} {Ah : Option Addr} {ch : Nat} {now ret : Int} {a0 a1 a2 : Addr} (h : OnWork w b A n ca X Ah ch now ret a0 a1 a2) : (0 ≤ now ∧ now ≤ 1000000) ∧ (0 ≤ ret ∧ ret ≤ 1000000) := by
  obtain ⟨-, h1, h2, -⟩ := dvB_yes h.ok
  simp only [rcIs, decide_eq_true_eq] at h1 h2
  exact ⟨h1, h2⟩

set_option maxHeartbeats 2000000 in
set_option maxRecDepth 100000 in
theorem perf_tick (bye : Int) (b : Nat) (A : Option Addr) (n ca : Nat) (X : List Bk) (Ah : Option Addr) (ch : Nat) (now ret : Int) (a0 a1 a2 : Addr) (w : World) (hw : OnWork w b A n ca X Ah ch now ret a0 a1 a2) :
    Calls Tryz.prog 232 #[.pointer (some ⟨b, 0, none⟩), .iface 237 (.agg #[.int .i64 bye])] w (DoneTo w b Ah (mntList X).length ch (tickIn X now ret bye)) := by
  obtain rfl := hw.chip.1
  have ht := hw.times.1
  have HW := Lib.hid hw
  have hbw := hw.blk.lt
  have HCH := Lib.hid (tickChk_any bye b A Ah _ ca (mntList X).length ch now ret w hw.blk ht)
  have HNO : Hid (¬ (0 ≤ bye ∧ bye ≤ 1000000 - now) → tickIn X now ret bye = dvIll 1) := fun h => by unfold tickIn; rw [if_neg h]
  have HYES : Hid ((0 ≤ bye ∧ bye ≤ 1000000 - now) → tickIn X now ret bye = ⟨X, now + bye, ret, 0⟩) := fun h => by unfold tickIn; rw [if_pos h]
  have hm := meth_ticking; have hs := sw_ticking
  generalize tickIn X now ret bye = R at *
  clear hw
  go_enter Tryz.func232, Tryz.ntmps232
  go_wp2_with fail
  refine HCH.out.mono ?_
  rintro e u ⟨hbu, hu⟩
  by_cases g : 0 ≤ bye ∧ bye ≤ 1000000 - now
  case neg =>
    rw [if_neg g] at hu
    rcases hu with ⟨h, -⟩ | ⟨-, rfl⟩
    · exact absurd h (by decide)
    refine ⟨rfl, ?_⟩
    rw [HNO.out g]
    exact ⟨hbu.mono (Nat.le_of_lt hbw), hbu.size, .inl ⟨by decide, rfl⟩⟩
  rw [if_pos g] at hu
  rcases hu with ⟨-, rfl⟩ | ⟨h, -⟩
  case inr => exact absurd rfl h
  have HR := HYES.out g
  subst HR
  have HWu := Lib.hid (HW.out.below hbu)
  have HBu := Lib.hid hbu
  have hbl := HWu.out.blk.lt
  obtain ⟨c0, c1, c2, c3, f0, f1, f2, f3⟩ := blk4 HWu.out.blk
  have hwr : IntKind.i64.wrap (now + bye) = now + bye := IntWalk.i64_in _ (by omega)
  clear hbu HNO HYES HCH
  have k0 := isBlk_new u 237 [.int .i64 bye]
  have hb0 := box_below u (.cells #[.int .i64 bye] 237)
  change IsBlk (u.alloc (.cells #[.int .i64 bye] 237)) _ _ _ at k0
  go_wp2
  generalize u.alloc (.cells #[.int .i64 bye] 237) = U at k0 hb0 ⊢
  have HK := Lib.hid (HWu.out.blk.below hb0 hbl)
  have HC := Lib.hid ((HWu.out.below hb0).chip)
  have HB := Lib.hid (bel_step HBu.out hb0)
  have x0 : U.cell? ⟨u.heap.size, 0, none⟩ = some (.int .i64 bye) := k0.cell rfl
  clear k0 hb0 c0 c1 c2 c3 f0 f1 f2 f3
  obtain ⟨c0, c1, c2, c3, f0, f1, f2, f3⟩ := blk4 HK.out
  refine wp_region_still_tail 9 (by kernel_rfl) (by kernel_rfl) ?_
  simp only [List.take_succ_cons, List.take_zero, List.drop_succ_cons, List.drop_zero]
  simp [wpStill, go_sem, x0, c2, hwr, Oper.still, Oper.stillUpon]
  go_wp2
  go_end0
  refine ⟨((HB.out.mono (Nat.le_of_lt hbw)).setCell (p := ⟨b, 2, none⟩) (Nat.le_refl _) _).drew, by have := HB.out.size; show w.heap.size ≤ (U.setCell _ _).heap.size; simp [World.setCell]; omega, .inr ⟨rfl, rfl, A, ca, ?_, ?_⟩⟩
  · exact HK.out.set (j := 2) (.int .i64 (now + bye))
  · have h1 := (HC.out.below (((Below.refl b U).setCell (p := ⟨b, 2, none⟩) (Nat.le_refl _) (.int .i64 (now + bye))).drew)).mono (show b ≤ (U.setCell ⟨b, 2, none⟩ (.int .i64 (now + bye))).drew.heap.size by have := HK.out.lt; show b ≤ (U.setCell _ _).heap.size; simp [World.setCell]; omega)
    exact h1
/-- a record that is logged is valid -/
theorem rec_ok {Y : List Rc} (h : hRight Y = true) {now : Int} (ht : 0 ≤ now ∧ now ≤ 1000000) (hq : (lastR Y).q < 1000000) {k s o : Int} {d : ByteArray} (h1 : 1 ≤ k ∧ k ≤ 4) (h2 : 0 ≤ s ∧ s ≤ 5) (h3 : 0 ≤ o ∧ o ≤ now) (h4 : d.size ≤ 16) (h5 : k ≤ 2 → o = 0) (h6 : 2 ≤ k → d.size = 0) (h7 : 3 ≤ k → s = 0) : (dvRec Y now ⟨k, s, 0, 0, o, d⟩).Ok := by
  have := lastR_q h
  exact ⟨h1.1, h1.2, h2.1, h2.2, (by show (1 : Int) ≤ (lastR Y).q + 1; omega), (by show (lastR Y).q + 1 ≤ 1000000; omega), ht.1, ht.2, h3.1, h3.2, h4, h5, h6, h7⟩
theorem OnWork.right {w : World} {b : Nat} {A : Option Addr} {n ca : Nat} {X : List Bk} {Ah : Option Addr} {ch : Nat} {now ret : Int} {a0 a1 a2 : Addr} (h : OnWork w b A n ca X Ah ch now ret a0 a1 a2) : mntCode X = 0 ∧ hRight (mntList X) = true ∧ SmallR (mntList X) ∧ NdOk X := by
  obtain ⟨hc, -⟩ := dvB_yes h.ok
  obtain ⟨z1, z2, z3⟩ := mnt_zero hc
  exact ⟨hc, z3, (by rw [z2]; exact mnt_smallR z1), z1⟩

set_option maxHeartbeats 2000000 in
set_option maxRecDepth 100000 in
theorem perf_write (s : Int) (d : ByteArray) (b : Nat) (A : Option Addr) (n ca : Nat) (X : List Bk) (Ah : Option Addr) (ch : Nat) (now ret : Int) (a0 a1 a2 : Addr) (w : World) (hd : d.size ≤ 2147483648) (hw : OnWork w b A n ca X Ah ch now ret a0 a1 a2) :
    Calls Tryz.prog 232 #[.pointer (some ⟨b, 0, none⟩), .iface 231 (.agg #[.int .i64 s, .string d])] w (DoneTo w b Ah (mntList X).length ch (writeIn X now ret s d)) := by
  have ht := hw.times.1
  have ht2 := hw.times.2
  obtain ⟨hcd, hrt, hsm, hnd⟩ := hw.right
  have hbw := hw.blk.lt
  have HCH := Lib.hid (writeChk_any s d (some ⟨b, 0, none⟩) w hd)
  have HLOG : Hid ((rcIs 0 5 s = true ∧ d.size ≤ 16) → ∀ u, Below w.heap.size w u → Calls Tryz.prog 266 #[.pointer (some ⟨b, 0, none⟩), .agg #[.int .i64 1, .int .i64 s, .int .i64 0, .int .i64 0, .int .i64 0, .string d]] u (DoneTo u b Ah (mntList X).length ch (dvPut X now ret ⟨1, s, 0, 0, 0, d⟩))) := fun g u hb =>
    wkLog_any b A Ah n ca ch X ⟨1, s, 0, 0, 0, d⟩ now ret a0 a1 a2 u (hw.below hb).blk hcd (fun hq => rec_ok hrt ht hq (by omega) (by have := g.1; simpa [rcIs] using this) (by omega) g.2 (fun _ => rfl) (fun h => absurd h (by omega)) (fun h => absurd h (by omega))) (by show d.size ≤ maxLen; simp only [maxLen]; omega) hw.small (hw.below hb).sents (hw.below hb).rd (hw.below hb).rdR
  have HYES : Hid ((rcIs 0 5 s = true ∧ d.size ≤ 16) → writeIn X now ret s d = dvPut X now ret ⟨1, s, 0, 0, 0, d⟩) := fun g => by unfold writeIn; rw [if_pos g]
  have HN0 : Hid (¬ (rcIs 0 5 s = true ∧ d.size ≤ 16) → writeIn X now ret s d = dvIll 1) := fun g => by unfold writeIn; rw [if_neg g]
  have hm := meth_writing; have hs := sw_writing
  have hs_ticking := sw_writing_ticking
  generalize writeIn X now ret s d = R at *
  generalize dvPut X now ret ⟨1, s, 0, 0, 0, d⟩ = P at *
  generalize hyl : (mntList X).length = yl at *
  go_enter Tryz.func232, Tryz.ntmps232
  go_wp2_with fail
  refine HCH.out.mono ?_
  rintro e u ⟨hbu, hu⟩
  have HN : Hid (∀ c : Int, c ≠ 0 → R = dvIll c → DoneTo w b Ah yl ch R (.panicked (viol c)) u) := fun c h1 h2 => by rw [h2]; exact ⟨hbu.mono (Nat.le_of_lt hbw), hbu.size, .inl ⟨h1, rfl⟩⟩
  by_cases g0 : ¬ (rcIs 0 5 s = true ∧ d.size ≤ 16)
  · rw [if_neg g0] at hu
    rcases hu with ⟨h, -⟩ | ⟨-, rfl⟩
    · exact absurd h (by decide)
    exact ⟨rfl, HN.out 1 (by decide) (HN0.out g0)⟩
  have hy : (rcIs 0 5 s = true ∧ d.size ≤ 16) := Classical.byContradiction g0
  rw [if_pos hy] at hu
  rcases hu with ⟨-, rfl⟩ | ⟨h, -⟩
  case inr => exact absurd rfl h
  have hRP := HYES.out (by first | exact hy | exact ⟨hy.1, by omega⟩ | omega)
  subst hRP
  replace HLOG := Lib.hid (HLOG.out (by first | exact hy | exact ⟨hy.1, by omega⟩ | omega))
  have hb0 := box_below u (.cells #[.int .i64 s, .string d] 231)
  have HB := Lib.hid (bel_step hbu hb0)
  clear hw hb0 hbu HCH HN hcd hrt hsm hnd hyl hy HN0 HYES
  go_wp2_with fail
  refine (HLOG.out _ HB.out).mono ?_
  rintro e x h
  have h' := h.back HB.out (Nat.le_of_lt hbw)
  rcases h with ⟨-, -, h5⟩
  rcases h5 with ⟨hc5, rfl⟩ | ⟨hc5, rfl, -⟩
  · exact ⟨rfl, h'⟩
  · have H' := Lib.hid h'
    clear h'
    go_wp2
    go_end0
    exact H'.out

set_option maxHeartbeats 2000000 in
set_option maxRecDepth 100000 in
theorem perf_trim (s : Int) (b : Nat) (A : Option Addr) (n ca : Nat) (X : List Bk) (Ah : Option Addr) (ch : Nat) (now ret : Int) (a0 a1 a2 : Addr) (w : World) (hw : OnWork w b A n ca X Ah ch now ret a0 a1 a2) :
    Calls Tryz.prog 232 #[.pointer (some ⟨b, 0, none⟩), .iface 233 (.agg #[.int .i64 s])] w (DoneTo w b Ah (mntList X).length ch (trimIn X now ret s)) := by
  have ht := hw.times.1
  have ht2 := hw.times.2
  obtain ⟨hcd, hrt, hsm, hnd⟩ := hw.right
  have hbw := hw.blk.lt
  have HCH := Lib.hid (trimChk_any s (some ⟨b, 0, none⟩) w)
  have HLOG : Hid ((rcIs 0 5 s = true) → ∀ u, Below w.heap.size w u → Calls Tryz.prog 266 #[.pointer (some ⟨b, 0, none⟩), .agg #[.int .i64 2, .int .i64 s, .int .i64 0, .int .i64 0, .int .i64 0, .string ⟨#[]⟩]] u (DoneTo u b Ah (mntList X).length ch (dvPut X now ret ⟨2, s, 0, 0, 0, ⟨#[]⟩⟩))) := fun g u hb =>
    wkLog_any b A Ah n ca ch X ⟨2, s, 0, 0, 0, ⟨#[]⟩⟩ now ret a0 a1 a2 u (hw.below hb).blk hcd (fun hq => rec_ok hrt ht hq (by omega) (by simpa [rcIs] using g) (by omega) (by simp [ByteArray.size]) (fun _ => rfl) (fun _ => rfl) (fun h => absurd h (by omega))) (by simp [maxLen, ByteArray.size]) hw.small (hw.below hb).sents (hw.below hb).rd (hw.below hb).rdR
  have HYES : Hid ((rcIs 0 5 s = true) → trimIn X now ret s = dvPut X now ret ⟨2, s, 0, 0, 0, ⟨#[]⟩⟩) := fun g => by unfold trimIn; rw [if_pos g]
  have HN0 : Hid (¬ (rcIs 0 5 s = true) → trimIn X now ret s = dvIll 1) := fun g => by unfold trimIn; rw [if_neg g]
  have hm := meth_trimming; have hs := sw_trimming
  have hs_ticking := sw_trimming_ticking
  have hs_writing := sw_trimming_writing
  generalize trimIn X now ret s = R at *
  generalize dvPut X now ret ⟨2, s, 0, 0, 0, ⟨#[]⟩⟩ = P at *
  generalize hyl : (mntList X).length = yl at *
  go_enter Tryz.func232, Tryz.ntmps232
  go_wp2_with fail
  refine HCH.out.mono ?_
  rintro e u ⟨hbu, hu⟩
  have HN : Hid (∀ c : Int, c ≠ 0 → R = dvIll c → DoneTo w b Ah yl ch R (.panicked (viol c)) u) := fun c h1 h2 => by rw [h2]; exact ⟨hbu.mono (Nat.le_of_lt hbw), hbu.size, .inl ⟨h1, rfl⟩⟩
  by_cases g0 : ¬ (rcIs 0 5 s = true)
  · rw [if_neg g0] at hu
    rcases hu with ⟨h, -⟩ | ⟨-, rfl⟩
    · exact absurd h (by decide)
    exact ⟨rfl, HN.out 1 (by decide) (HN0.out g0)⟩
  have hy : (rcIs 0 5 s = true) := Classical.byContradiction g0
  rw [if_pos hy] at hu
  rcases hu with ⟨-, rfl⟩ | ⟨h, -⟩
  case inr => exact absurd rfl h
  have hRP := HYES.out (by first | exact hy | exact ⟨hy.1, by omega⟩ | omega)
  subst hRP
  replace HLOG := Lib.hid (HLOG.out (by first | exact hy | exact ⟨hy.1, by omega⟩ | omega))
  have hb0 := box_below u (.cells #[.int .i64 s] 233)
  have HB := Lib.hid (bel_step hbu hb0)
  clear hw hb0 hbu HCH HN hcd hrt hsm hnd hyl hy HN0 HYES
  go_wp2_with fail
  refine (HLOG.out _ HB.out).mono ?_
  rintro e x h
  have h' := h.back HB.out (Nat.le_of_lt hbw)
  rcases h with ⟨-, -, h5⟩
  rcases h5 with ⟨hc5, rfl⟩ | ⟨hc5, rfl, -⟩
  · exact ⟨rfl, h'⟩
  · have H' := Lib.hid h'
    clear h'
    go_wp2
    go_end0
    exact H'.out

set_option maxHeartbeats 2000000 in
set_option maxRecDepth 100000 in
theorem perf_roll (a : Int) (b : Nat) (A : Option Addr) (n ca : Nat) (X : List Bk) (Ah : Option Addr) (ch : Nat) (now ret : Int) (a0 a1 a2 : Addr) (w : World) (hw : OnWork w b A n ca X Ah ch now ret a0 a1 a2) :
    Calls Tryz.prog 232 #[.pointer (some ⟨b, 0, none⟩), .iface 235 (.agg #[.int .i64 a])] w (DoneTo w b Ah (mntList X).length ch (rollIn X now ret a)) := by
  have ht := hw.times.1
  have ht2 := hw.times.2
  obtain ⟨hcd, hrt, hsm, hnd⟩ := hw.right
  have hbw := hw.blk.lt
  have HCH := Lib.hid (rollChk_any a b A Ah n ca (mntList X).length ch (mntList X) now ret w hw.blk hsm hrt hw.rdR)
  have HLOG : Hid (((0 ≤ a ∧ a ≤ now) ∧ ¬ a < floorR (mntList X)) → ∀ u, Below w.heap.size w u → Calls Tryz.prog 266 #[.pointer (some ⟨b, 0, none⟩), .agg #[.int .i64 3, .int .i64 0, .int .i64 0, .int .i64 0, .int .i64 a, .string ⟨#[]⟩]] u (DoneTo u b Ah (mntList X).length ch (dvPut X now ret ⟨3, 0, 0, 0, a, ⟨#[]⟩⟩))) := fun g u hb =>
    wkLog_any b A Ah n ca ch X ⟨3, 0, 0, 0, a, ⟨#[]⟩⟩ now ret a0 a1 a2 u (hw.below hb).blk hcd (fun hq => rec_ok hrt ht hq (by omega) (by omega) g.1 (by simp [ByteArray.size]) (fun h => absurd h (by omega)) (fun _ => rfl) (fun _ => rfl)) (by simp [maxLen, ByteArray.size]) hw.small (hw.below hb).sents (hw.below hb).rd (hw.below hb).rdR
  have HYES : Hid (((0 ≤ a ∧ a ≤ now) ∧ ¬ a < floorR (mntList X)) → rollIn X now ret a = dvPut X now ret ⟨3, 0, 0, 0, a, ⟨#[]⟩⟩) := fun g => by unfold rollIn; rw [if_pos g.1, if_neg g.2]
  have HN0 : Hid (¬ (0 ≤ a ∧ a ≤ now) → rollIn X now ret a = dvIll 1) := fun g => by unfold rollIn; rw [if_neg g]
  have HN1 : Hid ((0 ≤ a ∧ a ≤ now) ∧ a < floorR (mntList X) → rollIn X now ret a = dvIll 12) := fun g => by unfold rollIn; rw [if_pos g.1, if_pos g.2]
  have hm := meth_rolling; have hs := sw_rolling
  have hs_ticking := sw_rolling_ticking
  have hs_writing := sw_rolling_writing
  have hs_trimming := sw_rolling_trimming
  generalize rollIn X now ret a = R at *
  generalize dvPut X now ret ⟨3, 0, 0, 0, a, ⟨#[]⟩⟩ = P at *
  generalize hyl : (mntList X).length = yl at *
  go_enter Tryz.func232, Tryz.ntmps232
  go_wp2_with fail
  refine HCH.out.mono ?_
  rintro e u ⟨hbu, hu⟩
  have HN : Hid (∀ c : Int, c ≠ 0 → R = dvIll c → DoneTo w b Ah yl ch R (.panicked (viol c)) u) := fun c h1 h2 => by rw [h2]; exact ⟨hbu.mono (Nat.le_of_lt hbw), hbu.size, .inl ⟨h1, rfl⟩⟩
  by_cases g0 : ¬ (0 ≤ a ∧ a ≤ now)
  · rw [if_neg g0] at hu
    rcases hu with ⟨h, -⟩ | ⟨-, rfl⟩
    · exact absurd h (by decide)
    exact ⟨rfl, HN.out 1 (by decide) (HN0.out g0)⟩
  by_cases g1 : (0 ≤ a ∧ a ≤ now) ∧ a < floorR (mntList X)
  · rw [if_pos g1.1, if_pos g1.2] at hu
    rcases hu with ⟨h, -⟩ | ⟨-, rfl⟩
    · exact absurd h (by decide)
    exact ⟨rfl, HN.out 12 (by decide) (HN1.out g1)⟩
  have hy : ((0 ≤ a ∧ a ≤ now) ∧ ¬ a < floorR (mntList X)) := ⟨Classical.byContradiction g0, fun h => g1 ⟨Classical.byContradiction g0, h⟩⟩
  rw [if_pos hy.1, if_neg hy.2] at hu
  rcases hu with ⟨-, rfl⟩ | ⟨h, -⟩
  case inr => exact absurd rfl h
  have hRP := HYES.out (by first | exact hy | exact ⟨hy.1, by omega⟩ | omega)
  subst hRP
  replace HLOG := Lib.hid (HLOG.out (by first | exact hy | exact ⟨hy.1, by omega⟩ | omega))
  have hb0 := box_below u (.cells #[.int .i64 a] 235)
  have HB := Lib.hid (bel_step hbu hb0)
  clear hw hb0 hbu HCH HN hcd hrt hsm hnd hyl hy HN0 HN1 HYES
  go_wp2_with fail
  refine (HLOG.out _ HB.out).mono ?_
  rintro e x h
  have h' := h.back HB.out (Nat.le_of_lt hbw)
  rcases h with ⟨-, -, h5⟩
  rcases h5 with ⟨hc5, rfl⟩ | ⟨hc5, rfl, -⟩
  · exact ⟨rfl, h'⟩
  · have H' := Lib.hid h'
    clear h'
    go_wp2
    go_end0
    exact H'.out

set_option maxHeartbeats 2000000 in
set_option maxRecDepth 100000 in
theorem perf_raise (b : Nat) (A : Option Addr) (n ca : Nat) (X : List Bk) (Ah : Option Addr) (ch : Nat) (now ret : Int) (a0 a1 a2 : Addr) (w : World) (hw : OnWork w b A n ca X Ah ch now ret a0 a1 a2) :
    Calls Tryz.prog 232 #[.pointer (some ⟨b, 0, none⟩), .iface 246 (.agg #[])] w (DoneTo w b Ah (mntList X).length ch (raiseIn X now ret)) := by
  have ht := hw.times.1
  have ht2 := hw.times.2
  obtain ⟨hcd, hrt, hsm, hnd⟩ := hw.right
  have hbw := hw.blk.lt
  have HCH := Lib.hid (raiseChk_any b A Ah n ca (mntList X).length ch (mntList X) now ret w hw.blk ht ht2 hsm hrt hw.rdR)
  have HLOG : Hid ((¬ now - ret ≤ floorR (mntList X)) → ∀ u, Below w.heap.size w u → Calls Tryz.prog 266 #[.pointer (some ⟨b, 0, none⟩), .agg #[.int .i64 4, .int .i64 0, .int .i64 0, .int .i64 0, .int .i64 (now - ret), .string ⟨#[]⟩]] u (DoneTo u b Ah (mntList X).length ch (dvPut X now ret ⟨4, 0, 0, 0, now - ret, ⟨#[]⟩⟩))) := fun g u hb =>
    wkLog_any b A Ah n ca ch X ⟨4, 0, 0, 0, now - ret, ⟨#[]⟩⟩ now ret a0 a1 a2 u (hw.below hb).blk hcd (fun hq => rec_ok hrt ht hq (by omega) (by omega) (by have := floorTo_nonneg (mntList X) (mntList X).length; unfold floorR at g; omega) (by simp [ByteArray.size]) (fun h => absurd h (by omega)) (fun _ => rfl) (fun _ => rfl)) (by simp [maxLen, ByteArray.size]) hw.small (hw.below hb).sents (hw.below hb).rd (hw.below hb).rdR
  have HHZ : Hid (∀ u, Below w.heap.size w u → Calls Tryz.prog 267 #[.pointer (some ⟨b, 0, none⟩)] u fun e w' => e = .returned (.int .i64 (now - ret)) ∧ Below u.heap.size u w') := fun u hb => wkHorizon_any b A Ah n ca (mntList X).length ch now ret u (hw.below hb).blk ht ht2
  have HYES : Hid ((¬ now - ret ≤ floorR (mntList X)) → raiseIn X now ret = dvPut X now ret ⟨4, 0, 0, 0, now - ret, ⟨#[]⟩⟩) := fun g => by unfold raiseIn; rw [if_neg g]
  have HN0 : Hid (now - ret ≤ floorR (mntList X) → raiseIn X now ret = dvIll 10) := fun g => by unfold raiseIn; rw [if_pos g]
  have hm := meth_raising; have hs := sw_raising
  have hs_ticking := sw_raising_ticking
  have hs_writing := sw_raising_writing
  have hs_trimming := sw_raising_trimming
  have hs_rolling := sw_raising_rolling
  generalize raiseIn X now ret = R at *
  generalize dvPut X now ret ⟨4, 0, 0, 0, now - ret, ⟨#[]⟩⟩ = P at *
  generalize hyl : (mntList X).length = yl at *
  go_enter Tryz.func232, Tryz.ntmps232
  go_wp2_with fail
  refine HCH.out.mono ?_
  rintro e u ⟨hbu, hu⟩
  have HN : Hid (∀ c : Int, c ≠ 0 → R = dvIll c → DoneTo w b Ah yl ch R (.panicked (viol c)) u) := fun c h1 h2 => by rw [h2]; exact ⟨hbu.mono (Nat.le_of_lt hbw), hbu.size, .inl ⟨h1, rfl⟩⟩
  by_cases g0 : now - ret ≤ floorR (mntList X)
  · rw [if_pos g0] at hu
    rcases hu with ⟨h, -⟩ | ⟨-, rfl⟩
    · exact absurd h (by decide)
    exact ⟨rfl, HN.out 10 (by decide) (HN0.out g0)⟩
  have hy : (¬ now - ret ≤ floorR (mntList X)) := g0
  rw [if_neg hy] at hu
  rcases hu with ⟨-, rfl⟩ | ⟨h, -⟩
  case inr => exact absurd rfl h
  have hRP := HYES.out (by first | exact hy | exact ⟨hy.1, by omega⟩ | omega)
  subst hRP
  replace HLOG := Lib.hid (HLOG.out (by first | exact hy | exact ⟨hy.1, by omega⟩ | omega))
  have hb0 := box_below u (.cells #[] 246)
  have HB := Lib.hid (bel_step hbu hb0)
  clear hw hb0 hbu HCH HN hcd hrt hsm hnd hyl hy HN0 HYES
  go_wp2_with fail
  refine (HHZ.out _ HB.out).mono ?_
  rintro e v ⟨rfl, hbv⟩
  have HBv := Lib.hid (bel_step HB.out hbv)
  clear hbv
  go_wp2_with fail
  refine (HLOG.out _ HBv.out).mono ?_
  rintro e x h
  have h' := h.back HBv.out (Nat.le_of_lt hbw)
  rcases h with ⟨-, -, h5⟩
  rcases h5 with ⟨hc5, rfl⟩ | ⟨hc5, rfl, -⟩
  · exact ⟨rfl, h'⟩
  · have H' := Lib.hid h'
    clear h'
    go_wp2
    go_end0
    exact H'.out

noncomputable def collIn (X : List Bk) (now ret steps : Int) : Dv := dvWith now ret (gcAns X steps)
noncomputable def dvColl (X : List Bk) (now ret steps : Int) : Dv := dvOn X now ret (collIn X now ret steps)

set_option maxHeartbeats 4000000 in
set_option maxRecDepth 100000 in
theorem perf_coll (v : Int) (b : Nat) (A : Option Addr) (n ca : Nat) (X : List Bk) (Ah : Option Addr) (ch : Nat) (now ret : Int) (a0 a1 a2 : Addr) (w : World) (hw : OnWork w b A n ca X Ah ch now ret a0 a1 a2) :
    Calls Tryz.prog 232 #[.pointer (some ⟨b, 0, none⟩), .iface 249 (.agg #[.int .i64 v])] w (DoneTo w b Ah (mntList X).length ch (collIn X now ret v)) := by
  have hbw := hw.blk.lt
  have HW := Lib.hid hw
  have HCH := Lib.hid (collChk_any v (some ⟨b, 0, none⟩) w)
  have HGC : Hid (∀ u, Below w.heap.size w u → Calls Tryz.prog 269 #[.agg #[.slice A n ca], .int .i64 v] u (RetAns u (gcAns X v))) := fun u hb => impl_gc A n ca X v a0 a1 a2 u (hw.below hb).et (hw.below hb).sents hw.small (hw.below hb).rd
  have hm := meth_collecting; have hs := sw_collecting
  have hs1 := sw_collecting_ticking; have hs2 := sw_collecting_writing; have hs3 := sw_collecting_trimming; have hs4 := sw_collecting_rolling; have hs5 := sw_collecting_raising
  unfold collIn
  generalize gcAns X v = Q at *
  clear hw
  go_enter Tryz.func232, Tryz.ntmps232
  go_wp2_with fail
  refine HCH.out.mono ?_
  rintro e u ⟨hbu, hu⟩
  rcases hu with ⟨-, rfl⟩ | ⟨h, -⟩
  case inr => exact absurd rfl h
  have k0 := isBlk_new u 249 [.int .i64 v]
  have hb0 := box_below u (.cells #[.int .i64 v] 249)
  change IsBlk (u.alloc (.cells #[.int .i64 v] 249)) _ _ _ at k0
  have HBu := Lib.hid hbu
  clear hbu HCH
  go_wp2
  generalize u.alloc (.cells #[.int .i64 v] 249) = U at k0 hb0 ⊢
  have HB := Lib.hid (bel_step HBu.out hb0)
  have HBd := Lib.hid HB.out.drew
  have HK := Lib.hid (HW.out.below HB.out).blk
  have hK := HK.out.lt
  have x0 : U.cell? ⟨u.heap.size, 0, none⟩ = some (.int .i64 v) := k0.cell rfl
  obtain ⟨c0, -, -, -, -, -, -, -⟩ := blk4 HK.out
  clear k0 hb0
  go_region_with (first
    | (go_at_call 269
       refine (HGC.out _ HBd.out).mono ?_
       rintro e w4 ⟨A4, c4, rfl, ho4, hb4⟩
       have HO4 := Lib.hid ho4
       have HB34 : Hid (Below U.heap.size U w4) := bel_step (Below.refl _ _).drew hb4
       clear ho4 hb4)
    | (go_at_call 268
       refine (wkBecome_done b A Ah n ca (mntList X).length ch now ret A4 c4 Q w w4 _ _ (HK.out.below HB34.out HK.out.lt) (bel_step HB.out HB34.out) hbw (by show b < U.heap.size; omega) (Nat.le_refl _) HO4.out).mono ?_
       rintro e w5 ⟨hb5, hs5, h5⟩
       rcases h5 with ⟨hc5, rfl⟩ | ⟨hc5, rfl, h5⟩
       · exact ⟨rfl, hb5, hs5, .inl ⟨hc5, rfl⟩⟩
       have H5 := Lib.hid h5; have HB5 := Lib.hid hb5
       clear h5 hb5))
  all_goals
    go_wp2
    go_end0
    exact ⟨HB5.out, hs5, .inr ⟨hc5, rfl, H5.out⟩⟩
end Go.Proofs.YtdeagcdafcfimaaGreatDoor

namespace Go.Proofs.YtdeagcdafcfimaaGreatDoor
open Go.RowKit
open Bt (Rc)

/-- an operation that every valid drive at work carries out as R says -/
def Does (A : Option Addr) (n ca : Nat) (X : List Bk) (now ret : Int) (a0 a1 a2 : Addr) (op : Value) (R : Dv) : Prop :=
  ∀ (u : World) (b : Nat) (Ah : Option Addr) (ch : Nat), OnWork u b A n ca X Ah ch now ret a0 a1 a2 → Calls Tryz.prog 232 #[.pointer (some ⟨b, 0, none⟩), op] u (DoneTo u b Ah (mntList X).length ch R)
/-- what the work answers: the next drive lies in block g, or the work was given up -/
def RetWork (w : World) (g : Nat) (R : Dv) (e : Ending) (w' : World) : Prop :=
  Btw g (g + 1) w w' ∧ (R.code ≠ 0 ∧ e = .panicked (viol R.code) ∧ IsBlk w' g 43 [.slice none 0 0, .int .i64 0, .int .i64 0] ∨
    R.code = 0 ∧ e = .returned (.tuple #[]) ∧ ∃ (A' : Option Addr) (c' : Nat), IsBlk w' g 43 [.slice A' R.nd.length c', .int .i64 R.now, .int .i64 R.ret] ∧ OwNd w' w.heap.size w'.heap.size A' R.nd.length R.nd)

set_option maxHeartbeats 2000000 in
set_option maxRecDepth 100000 in
theorem changed1_any (op : Value) (R : Dv) (gd go gn : Nat) (A : Option Addr) (n ca : Nat) (X : List Bk) (now ret : Int) (a0 a1 a2 : Addr) (w : World) (kd : IsBlk w gd 43 [.slice A n ca, .int .i64 now, .int .i64 ret]) (ko : IsBlk w go 289 [op]) (kn : IsBlk w gn 43 [.slice none 0 0, .int .i64 0, .int .i64 0])
    (hG : ErrType w) (hS : Sents w a0 a1 a2) (hX : Small X) (hA : RdBk w w.heap.size A n X) (hP : Does A n ca X now ret a0 a1 a2 op R) (hok : dvB X now ret = true → R.code = 0 → NdOk R.nd) :
    Calls Tryz.prog 231 #[.pointer (some ⟨gd, 0, none⟩), .pointer (some ⟨go, 0, none⟩), .pointer (some ⟨gn, 0, none⟩)] w (RetWork w gn (dvOn X now ret R)) := by
  have HBEG := Lib.hid (begin_any A n ca X now ret a0 a2 w hG hS.two hX hA)
  obtain ⟨c0, c1, c2, -, -, -⟩ := blk3 kd
  have hdl := kd.lt
  have HKO := Lib.hid ko; have HKN := Lib.hid kn
  have HG := Lib.hid hG; have HS := Lib.hid hS; have HX := Lib.hid hX; have HA := Lib.hid hA; have HP := Lib.hid hP; have HOK := Lib.hid hok
  have HON : Hid (dvB X now ret = true → dvOn X now ret R = R) := fun h => by unfold dvOn; rw [if_pos h]
  have HOF : Hid (dvB X now ret = false → dvOn X now ret R = dvIll 1) := fun h => by unfold dvOn; rw [h, if_neg (by simp)]
  generalize dvOn X now ret R = D at *
  clear kd ko kn hG hS hX hA hP hok
  go_enter Tryz.func231, Tryz.ntmps231
  go_wp2_with fail
  refine HBEG.out.mono ?_
  rintro e u ⟨hbu, hu⟩
  rcases hu with ⟨hf, rfl⟩ | ⟨hf, b, Ah, ch, rfl, hwk⟩
  · refine ⟨rfl, ?_⟩
    rw [HOF.out hf]
    exact ⟨Btw.of_below hbu, .inl ⟨by decide, rfl, HKN.out.below hbu HKN.out.lt⟩⟩
  have hDR := HON.out hf
  subst hDR
  have HOW : Hid (OnWork u b A n ca X Ah ch now ret a0 a1 a2) := ⟨hwk.blk, ((HA.out.below hbu).mono hwk.low), hwk.own.rd (Nat.le_refl _), hf, HX.out, HS.out.below hbu, HG.out.below hbu⟩
  have HBu := Lib.hid hbu
  have hlow := hwk.low
  have o0 : u.cell? ⟨go, 0, none⟩ = some op := (HKO.out.below hbu HKO.out.lt).cell rfl
  have HOKd := Lib.hid (HOK.out hf)
  clear hbu hwk HBEG c0 c1 c2 hf
  go_wp2_with fail
  refine (HP.out u b Ah ch HOW.out).mono ?_
  rintro e v ⟨hb5, hs5, h5⟩
  have hbv : Below w.heap.size w v := HBu.out.trans (hb5.mono hlow)
  have HBv := Lib.hid hbv
  rcases h5 with ⟨hc5, rfl⟩ | ⟨hc5, rfl, A', c', hk5, hr5⟩
  · exact ⟨rfl, Btw.of_below hbv, .inl ⟨hc5, rfl, HKN.out.below hbv HKN.out.lt⟩⟩
  have HDR := Lib.hid (wkDrive_any b A' Ah c' (mntList X).length ch D.nd D.now D.ret v hk5 (small_ok (HOKd.out hc5)) (HOKd.out hc5) hr5)
  have hvs := hbv.size
  clear hb5 hbv hk5 hr5 o0 hlow hs5
  go_wp2_with fail
  refine HDR.out.mono ?_
  rintro e x ⟨A2, c2, rfl, ho, hbx⟩
  have HBx := Lib.hid (bel_step HBv.out hbx)
  have HOx := Lib.hid ho
  have hxs := hbx.size
  have HKx := Lib.hid (HKN.out.below HBx.out HKN.out.lt)
  have hgn := HKN.out.lt
  obtain ⟨d0, d1, d2, fd0, fd1, fd2⟩ := blk3 HKx.out
  generalize hzl : D.nd.length = zl at *
  clear ho hbx HDR
  go_wp2
  go_end0
  refine ⟨(((Btw.of_below HBx.out).setCell (p := ⟨gn, 0, none⟩) (.inl ⟨Nat.le_refl _, Nat.lt_succ_self _⟩) _).setCell (p := ⟨gn, 1, none⟩) (.inl ⟨Nat.le_refl _, Nat.lt_succ_self _⟩) _).setCell (p := ⟨gn, 2, none⟩) (.inl ⟨Nat.le_refl _, Nat.lt_succ_self _⟩) _, .inr ⟨hc5, rfl, A2, c2, ?_, ?_⟩⟩
  · rw [hzl]; exact set3 HKx.out _ _ _
  · rw [hzl]
    exact (HOx.out.same fun j hj _ => off3 (by omega) _ _ _).mono hvs (by rw [size3]; exact Nat.le_refl _)

theorem callFunc_changed1 (args : Array Value) (W : World) : (callFunc 231 args).run Tryz.prog W = .ok (.enter 231 args) W := by kernel_rfl

set_option maxHeartbeats 2000000 in
set_option maxRecDepth 100000 in
theorem changed_any (op : Value) (R : Dv) (A : Option Addr) (n ca : Nat) (X : List Bk) (now ret : Int) (a0 a1 a2 : Addr) (w : World)
    (hG : ErrType w) (hS : Sents w a0 a1 a2) (hX : Small X) (hA : RdBk w w.heap.size A n X) (hP : Does A n ca X now ret a0 a1 a2 op R) (hok : dvB X now ret = true → R.code = 0 → NdOk R.nd) (hill : R.code ≠ 0 → R = dvIll R.code) (ht : ∃ T v, op = .iface T v) :
    Calls Tryz.prog 175 #[.agg #[.slice A n ca, .int .i64 now, .int .i64 ret], op] w (RetDv w (dvOn X now ret R)) := by
  obtain ⟨T, v, rfl⟩ := ht
  have hmf : ∀ (fn : Fn) (first cap : Array Value) (w : World), (Instr.makeFunc fn first cap).run Tryz.prog w = .ok (.func fn first cap) w := fun _ _ _ _ => rfl
  have hill' : (dvOn X now ret R).code ≠ 0 → dvOn X now ret R = dvIll (dvOn X now ret R).code := fun h => by
    unfold dvOn at h ⊢
    split
    · rename_i g; rw [if_pos g] at h; exact hill h
    · rfl
  have HILL := Lib.hid hill'
  have HA := Lib.hid hA; have HX := Lib.hid hX; have HS := Lib.hid hS; have HG := Lib.hid hG; have HP := Lib.hid hP; have HOK := Lib.hid hok
  clear hA hX hS hG hP hok hill hill'
  have hb0 : Below w.heap.size w ((((w.alloc (.cells #[.slice A n ca, .int .i64 now, .int .i64 ret] 43)).alloc (.cells #[.iface T v] 289)).alloc (.cells #[.slice none 0 0, .int .i64 0, .int .i64 0, .int .i64 0] 50)).alloc (.cells #[.slice none 0 0, .int .i64 0, .int .i64 0] 43)) := ((((Below.refl _ _).alloc (Nat.le_refl _) _).alloc (by simp) _).alloc (by simp; omega) _).alloc (by simp; omega) _
  have k0 := (((isBlk_new w 43 [.slice A n ca, .int .i64 now, .int .i64 ret]).alloc (.cells #[.iface T v] 289)).alloc (.cells #[.slice none 0 0, .int .i64 0, .int .i64 0, .int .i64 0] 50)).alloc (.cells #[.slice none 0 0, .int .i64 0, .int .i64 0] 43)
  have k1 := ((isBlk_new (w.alloc (.cells #[.slice A n ca, .int .i64 now, .int .i64 ret] 43)) 289 [.iface T v]).alloc (.cells #[.slice none 0 0, .int .i64 0, .int .i64 0, .int .i64 0] 50)).alloc (.cells #[.slice none 0 0, .int .i64 0, .int .i64 0] 43)
  have k2 := (isBlk_new ((w.alloc (.cells #[.slice A n ca, .int .i64 now, .int .i64 ret] 43)).alloc (.cells #[.iface T v] 289)) 50 [.slice none 0 0, .int .i64 0, .int .i64 0, .int .i64 0]).alloc (.cells #[.slice none 0 0, .int .i64 0, .int .i64 0] 43)
  have k3 := isBlk_new (((w.alloc (.cells #[.slice A n ca, .int .i64 now, .int .i64 ret] 43)).alloc (.cells #[.iface T v] 289)).alloc (.cells #[.slice none 0 0, .int .i64 0, .int .i64 0, .int .i64 0] 50)) 43 [.slice none 0 0, .int .i64 0, .int .i64 0]
  have hz : ((((w.alloc (.cells #[.slice A n ca, .int .i64 now, .int .i64 ret] 43)).alloc (.cells #[.iface T v] 289)).alloc (.cells #[.slice none 0 0, .int .i64 0, .int .i64 0, .int .i64 0] 50)).alloc (.cells #[.slice none 0 0, .int .i64 0, .int .i64 0] 43)).heap.size = w.heap.size + 4 := by simp
  change IsBlk ((((w.alloc (.cells #[.slice A n ca, .int .i64 now, .int .i64 ret] 43)).alloc (.cells #[.iface T v] 289)).alloc (.cells #[.slice none 0 0, .int .i64 0, .int .i64 0, .int .i64 0] 50)).alloc (.cells #[.slice none 0 0, .int .i64 0, .int .i64 0] 43)) _ _ _ at k0 k1 k2 k3
  simp only [size_alloc] at k0 k1 k2 k3
  go_enter Tryz.func175, Tryz.ntmps175
  go_wp2_with fail
  generalize ((((w.alloc (.cells #[.slice A n ca, .int .i64 now, .int .i64 ret] 43)).alloc (.cells #[.iface T v] 289)).alloc (.cells #[.slice none 0 0, .int .i64 0, .int .i64 0, .int .i64 0] 50)).alloc (.cells #[.slice none 0 0, .int .i64 0, .int .i64 0] 43)) = W at hb0 k0 k1 k2 k3 hz ⊢
  have HB0 := Lib.hid hb0; have HK2 := Lib.hid k2
  have HWORK : Hid (Calls Tryz.prog 231 (#[] ++ #[.pointer (some ⟨w.heap.size, 0, none⟩), .pointer (some ⟨w.heap.size + 1, 0, none⟩), .pointer (some ⟨w.heap.size + 1 + 1 + 1, 0, none⟩)]) (W.alloc (.cells #[.int .i64 0] 2)) fun e w' => (w'.cell? ⟨W.heap.size, 0, none⟩ = some (.int .i64 0) ∧ w'.frozen? ⟨W.heap.size, 0, none⟩ = false) ∧ ∃ c : Int, (e = .returned (.tuple #[]) ∧ c = 0 ∨ e = .panicked (viol c)) ∧ (c = (dvOn X now ret R).code ∧ IsBlk w' W.heap.size 2 [.int .i64 0] ∧ ∃ e', RetWork (W.alloc (.cells #[.int .i64 0] 2)) (w.heap.size + 1 + 1 + 1) (dvOn X now ret R) e' w')) := by
    have hb1 := box_below W (.cells #[.int .i64 0] 2)
    have hb2 := bel_step hb0 hb1
    have kc := isBlk_new W 2 [.int .i64 0]
    change IsBlk (W.alloc (.cells #[.int .i64 0] 2)) _ _ _ at kc
    have hz1 : (W.alloc (.cells #[.int .i64 0] 2)).heap.size = W.heap.size + 1 := by simp
    have key := changed1_any (.iface T v) R w.heap.size (w.heap.size + 1) (w.heap.size + 1 + 1 + 1) A n ca X now ret a0 a1 a2 _ (k0.below hb1 k0.lt) (k1.below hb1 k1.lt) (k3.below hb1 k3.lt) (HG.out.below hb2) (HS.out.below hb2) HX.out (rd_step HA.out hb2) HP.out HOK.out
    refine Calls.mono (by simpa using key) ?_
    rintro e w' h
    obtain ⟨hbt, h5⟩ := h
    have kc' : IsBlk w' W.heap.size 2 [.int .i64 0] := (hbt.block W.heap.size (by omega) (.inr (by omega))).trans kc
    refine ⟨⟨kc'.cell rfl, kc'.free⟩, (dvOn X now ret R).code, ?_, rfl, kc', e, hbt, h5⟩
    rcases h5 with ⟨-, rfl, -⟩ | ⟨hc, rfl, -⟩
    · exact .inr rfl
    · exact .inl ⟨rfl, hc⟩
  generalize dvOn X now ret R = D at *
  clear hb0 k0 k1 k2 k3 HG HS HX HA HP HOK
  refine (attempt_any 231 _ _ W _ (callFunc_changed1 _) HWORK.out).mono ?_
  rintro e V ⟨c, u, rfl, ⟨rfl, hkc, e', hbt, h5⟩, rfl⟩
  have hu : W.heap.size + 1 ≤ u.heap.size := by have := hbt.size; simpa using this
  have HB5 : Hid (Below w.heap.size w u) := by
    have h1 : Below w.heap.size (W.alloc (.cells #[.int .i64 0] 2)) u := (hbt.below (by simp; omega)).mono (by omega)
    exact (HB0.out.alloc HB0.out.size _).trans h1
  have HK5 : Hid (IsBlk u (w.heap.size + 1 + 1) 50 [.slice none 0 0, .int .i64 0, .int .i64 0, .int .i64 0]) := (hbt.block (w.heap.size + 1 + 1) (by simp; omega) (.inl (by omega))).trans (HK2.out.alloc _)
  have HKV : Hid (IsBlk (u.setCell ⟨W.heap.size, 0, none⟩ (.int .i64 D.code)) (w.heap.size + 1 + 1) 50 [.slice none 0 0, .int .i64 0, .int .i64 0, .int .i64 0]) := HK5.out.other (a := ⟨W.heap.size, 0, none⟩) (by dsimp only; omega) _
  have HBV : Hid (Below w.heap.size w (u.setCell ⟨W.heap.size, 0, none⟩ (.int .i64 D.code))) := HB5.out.setCell (p := ⟨W.heap.size, 0, none⟩) (by dsimp only; omega) _
  clear hbt
  obtain ⟨d0, d1, d2, d3, fd0, fd1, fd2, fd3⟩ := blk4 HKV.out
  rcases h5 with ⟨hc, -, hk5⟩ | ⟨hc, -, A', c', hk5, ho5⟩
  · have hkV := hk5.other (a := ⟨W.heap.size, 0, none⟩) (by dsimp only; omega) (.int .i64 D.code)
    have hDI := HILL.out hc
    generalize hDc : D.code = dc at *
    generalize u.setCell ⟨W.heap.size, 0, none⟩ (.int .i64 dc) = V at *
    obtain ⟨e0, e1, e2, -, -, -⟩ := blk3 hkV
    have HDI := Lib.hid hDI
    clear hDI hkV hk5 hkc
    go_wp2
    refine bodyPost_ret (v := .agg #[.slice none 0 0, .int .i64 0, .int .i64 0, .int .i64 dc]) (by simp [results, Tryz.results175, go_sem, d0, d1, d2, d3]) rfl ?_
    rw [HDI.out]
    refine ⟨none, 0, rfl, ow_nil _ _ _ _, ?_⟩
    repeat (with_reducible refine Below.setCell ?_ ?_ _)
    all_goals first | exact HBV.out | (dsimp only; omega)
  · have hkV := hk5.other (a := ⟨W.heap.size, 0, none⟩) (by dsimp only; omega) (.int .i64 D.code)
    have hoV : OwNd (u.setCell ⟨W.heap.size, 0, none⟩ (.int .i64 D.code)) (W.heap.size + 1) u.heap.size A' D.nd.length D.nd := by
      refine (ho5.same fun j hj _ => Below.heap_setCell _ _ _ _ ?_).mono (by simp) (Nat.le_refl _)
      have : W.heap.size + 1 ≤ j := by simpa using hj
      dsimp only; omega
    have hzV : (u.setCell ⟨W.heap.size, 0, none⟩ (.int .i64 D.code)).heap.size = u.heap.size := by simp [World.setCell]
    obtain ⟨nd, tn, tr, dc⟩ := D
    simp only at *
    generalize u.setCell ⟨W.heap.size, 0, none⟩ (.int .i64 dc) = V at *
    obtain ⟨e0, e1, e2, -, -, -⟩ := blk3 hkV
    have HOV := Lib.hid hoV
    have HZV := Lib.hid hzV
    clear hkV hk5 hoV ho5 hkc hzV
    subst hc
    generalize hzl : nd.length = zl at *
    go_wp2
    refine bodyPost_ret (v := .agg #[.slice A' zl c', .int .i64 tn, .int .i64 tr, .int .i64 0]) (by simp [results, Tryz.results175, go_sem, d0, d1, d2, d3]) rfl ?_
    subst hzl
    refine ⟨A', c', rfl, ?_, ?_⟩
    · refine (HOV.out.mono (Nat.le_refl _) (show u.heap.size ≤ _ by simp [World.setCell, ← HZV.out])).same ?_ |>.mono (by have := HB0.out.size; omega) (Nat.le_refl _)
      intro k h1 h2
      repeat rw [Below.heap_setCell _ _ _ _ (by dsimp only; omega)]
    · repeat (with_reducible refine Below.setCell ?_ ?_ _)
      all_goals first | exact HBV.out | (dsimp only; omega)

/-! what the operations answer is a drive or a code alone, and its chip is valid -/
theorem with_ill {now ret : Int} {a : NdAns} : (dvWith now ret a).code ≠ 0 → dvWith now ret a = dvIll (dvWith now ret a).code := fun h => by
  unfold dvWith at h ⊢
  split
  · rename_i g; rw [if_pos g] at h; exact absurd rfl h
  · rfl
theorem put_ill {X : List Bk} {now ret : Int} {r : Rc} : (dvPut X now ret r).code ≠ 0 → dvPut X now ret r = dvIll (dvPut X now ret r).code := fun h => by
  unfold dvPut at h ⊢
  split
  · rfl
  · rename_i g; rw [if_neg g] at h; exact with_ill h
theorem with_code {now ret : Int} {a : NdAns} (h : (dvWith now ret a).code = 0) : a.code = 0 ∧ dvWith now ret a = ⟨a.nd, now, ret, 0⟩ := by
  unfold dvWith at h ⊢
  by_cases g : a.code = 0
  · rw [if_pos g]; exact ⟨g, rfl⟩
  · rw [if_neg g] at h; exact absurd h g
end Go.Proofs.YtdeagcdafcfimaaGreatDoor

namespace Go.Proofs.YtdeagcdafcfimaaGreatDoor
open Go.RowKit
open Bt (Rc)

theorem put_right1 {X : List Bk} {r : Int} (h : NdOk X) {d : ByteArray} (hd : d.size ≤ 60) (hc : (putAns X r d).code = 0) : NdOk (putAns X r d).nd := by
  by_cases hn : nextR X r = -1
  · rw [putAns_full hn] at hc; cases hc
  · obtain ⟨k, hk, hkl, hb, hu⟩ := next_ready hn
    rw [putAns_at hk]
    exact late_right h hkl hb hu hd
theorem put_ok {X : List Bk} {now ret : Int} {r : Rc} (h : dvB X now ret = true) (hOk : (lastR (mntList X)).q < 1000000 → (dvRec (mntList X) now r).Ok) (hc : (dvPut X now ret r).code = 0) : NdOk (dvPut X now ret r).nd := by
  unfold dvPut at hc ⊢
  by_cases g : 1000000 ≤ (lastR (mntList X)).q ∨ 48 ≤ (mntList X).length
  · rw [if_pos g] at hc; exact absurd hc (by decide)
  · rw [if_neg g] at hc ⊢
    obtain ⟨h1, h2⟩ := with_code hc
    rw [h2]
    refine put_right1 (mnt_zero (dvB_yes h).1).1 ?_ h1
    have := Rc.bytes_short (hOk (by omega))
    have e : (bstr (dvRec (mntList X) now r).bytes).size = (dvRec (mntList X) now r).bytes.length := by simp [bstr, ByteArray.size]
    omega
theorem dvB_right {X : List Bk} {now ret : Int} (h : dvB X now ret = true) : (0 ≤ now ∧ now ≤ 1000000) ∧ (0 ≤ ret ∧ ret ≤ 1000000) ∧ hRight (mntList X) = true ∧ NdOk X := by
  obtain ⟨hc, h1, h2, -⟩ := dvB_yes h
  obtain ⟨z1, -, z3⟩ := mnt_zero hc
  simp only [rcIs, decide_eq_true_eq] at h1 h2
  exact ⟨h1, h2, z3, z1⟩
theorem tick_ill {X : List Bk} {now ret bye : Int} : (tickIn X now ret bye).code ≠ 0 → tickIn X now ret bye = dvIll (tickIn X now ret bye).code := fun h => by
  unfold tickIn at h ⊢
  split
  · rename_i g; rw [if_pos g] at h; exact absurd rfl h
  · rfl
theorem tick_ok {X : List Bk} {now ret bye : Int} (h : dvB X now ret = true) (hc : (tickIn X now ret bye).code = 0) : NdOk (tickIn X now ret bye).nd := by
  unfold tickIn at hc ⊢
  split
  · exact (dvB_right h).2.2.2
  · rename_i g; rw [if_neg g] at hc; exact absurd hc (by decide)
theorem trim_ill {X : List Bk} {now ret s : Int} : (trimIn X now ret s).code ≠ 0 → trimIn X now ret s = dvIll (trimIn X now ret s).code := fun h => by
  unfold trimIn at h ⊢
  split
  · rename_i g; rw [if_pos g] at h; exact put_ill h
  · rfl
theorem trim_ok {X : List Bk} {now ret s : Int} (h : dvB X now ret = true) (hc : (trimIn X now ret s).code = 0) : NdOk (trimIn X now ret s).nd := by
  obtain ⟨h1, -, h3, -⟩ := dvB_right h
  unfold trimIn at hc ⊢
  by_cases g : rcIs 0 5 s = true
  · rw [if_pos g] at hc ⊢
    exact put_ok h (fun hq => rec_ok h3 h1 hq (by omega) (by simpa [rcIs] using g) (by omega) (by simp [ByteArray.size]) (fun _ => rfl) (fun _ => rfl) (fun h => absurd h (by omega))) hc
  · rw [if_neg g] at hc; exact absurd hc (by decide)
theorem write_ill {X : List Bk} {now ret s : Int} {d : ByteArray} : (writeIn X now ret s d).code ≠ 0 → writeIn X now ret s d = dvIll (writeIn X now ret s d).code := fun h => by
  unfold writeIn at h ⊢
  split
  · rename_i g; rw [if_pos g] at h; exact put_ill h
  · rfl
theorem write_ok {X : List Bk} {now ret s : Int} {d : ByteArray} (h : dvB X now ret = true) (hc : (writeIn X now ret s d).code = 0) : NdOk (writeIn X now ret s d).nd := by
  obtain ⟨h1, -, h3, -⟩ := dvB_right h
  unfold writeIn at hc ⊢
  by_cases g : rcIs 0 5 s = true ∧ d.size ≤ 16
  · rw [if_pos g] at hc ⊢
    exact put_ok h (fun hq => rec_ok h3 h1 hq (by omega) (by simpa [rcIs] using g.1) (by omega) g.2 (fun _ => rfl) (fun h => absurd h (by omega)) (fun h => absurd h (by omega))) hc
  · rw [if_neg g] at hc; exact absurd hc (by decide)
theorem roll_ill {X : List Bk} {now ret a : Int} : (rollIn X now ret a).code ≠ 0 → rollIn X now ret a = dvIll (rollIn X now ret a).code := fun h => by
  unfold rollIn at h ⊢
  split
  · rename_i g
    rw [if_pos g] at h
    split
    · rfl
    · rename_i g2; rw [if_neg g2] at h; exact put_ill h
  · rfl
theorem roll_ok {X : List Bk} {now ret a : Int} (h : dvB X now ret = true) (hc : (rollIn X now ret a).code = 0) : NdOk (rollIn X now ret a).nd := by
  obtain ⟨h1, -, h3, -⟩ := dvB_right h
  unfold rollIn at hc ⊢
  by_cases g : 0 ≤ a ∧ a ≤ now
  · rw [if_pos g] at hc ⊢
    by_cases g2 : a < floorR (mntList X)
    · rw [if_pos g2] at hc; exact absurd hc (by decide)
    · rw [if_neg g2] at hc ⊢
      exact put_ok h (fun hq => rec_ok h3 h1 hq (by omega) (by omega) g (by simp [ByteArray.size]) (fun h => absurd h (by omega)) (fun _ => rfl) (fun _ => rfl)) hc
  · rw [if_neg g] at hc; exact absurd hc (by decide)
theorem raise_ill {X : List Bk} {now ret : Int} : (raiseIn X now ret).code ≠ 0 → raiseIn X now ret = dvIll (raiseIn X now ret).code := fun h => by
  unfold raiseIn at h ⊢
  split
  · rfl
  · rename_i g; rw [if_neg g] at h; exact put_ill h
theorem raise_ok {X : List Bk} {now ret : Int} (h : dvB X now ret = true) (hc : (raiseIn X now ret).code = 0) : NdOk (raiseIn X now ret).nd := by
  obtain ⟨h1, h2, h3, -⟩ := dvB_right h
  unfold raiseIn at hc ⊢
  by_cases g : now - ret ≤ floorR (mntList X)
  · rw [if_pos g] at hc; exact absurd hc (by decide)
  · rw [if_neg g] at hc ⊢
    exact put_ok h (fun hq => rec_ok h3 h1 hq (by omega) (by omega) (by have := floorTo_nonneg (mntList X) (mntList X).length; unfold floorR at g; omega) (by simp [ByteArray.size]) (fun h => absurd h (by omega)) (fun _ => rfl) (fun _ => rfl)) hc
theorem coll_ill {X : List Bk} {now ret v : Int} : (collIn X now ret v).code ≠ 0 → collIn X now ret v = dvIll (collIn X now ret v).code := fun h => with_ill h
theorem coll_ok {X : List Bk} {now ret v : Int} (h : dvB X now ret = true) (hc : (collIn X now ret v).code = 0) : NdOk (collIn X now ret v).nd := by
  obtain ⟨-, -, -, hn⟩ := dvB_right h
  have hm := (dvB_yes h).1
  unfold collIn at hc ⊢
  obtain ⟨h1, h2⟩ := with_code hc
  rw [h2]
  show NdOk (gcAns X v).nd
  by_cases hv : vicOf X = -1
  · rw [gcAns_none hm hv] at h1; exact absurd h1 (by decide)
  · rw [gcAns_run hm hv] at h1 ⊢
    unfold gcRun at h1 ⊢
    by_cases g : (gcTo X (ldOf X (vicOf X) (pruneOf (mntList X))) (min (ldOf X (vicOf X) (pruneOf (mntList X))).length v.toNat)).code ≠ 0
    · rw [if_pos g] at h1; exact absurd h1 g
    · rw [if_neg g] at h1 ⊢
      split
      · exact gcTo_right hn (ld_right hm _) _ (Nat.min_le_left _ _) (by simpa using g)
      · rename_i g2; rw [if_neg g2] at h1; exact erase_ok h1
theorem on_few {X : List Bk} {now ret : Int} {R : Dv} (h : dvB X now ret = true → R.code = 0 → NdOk R.nd) (hi : R.code ≠ 0 → R = dvIll R.code) : Few (dvOn X now ret R).nd := by
  unfold dvOn
  split
  · rename_i g
    by_cases hc : R.code = 0
    · exact few_ok (h g hc)
    · rw [hi hc]; exact few_nil
  · exact few_nil

set_option maxHeartbeats 1000000 in
set_option maxRecDepth 100000 in
theorem impl_dvTick (A : Option Addr) (n ca : Nat) (X : List Bk) (now ret : Int) (bye : Int) (a0 a1 a2 : Addr) (w : World) (hG : ErrType w) (hS : Sents w a0 a1 a2) (hX : Small X) (hA : RdBk w w.heap.size A n X) :
    Calls Tryz.prog 120 #[.agg #[.slice A n ca, .int .i64 now, .int .i64 ret], .int .i64 bye] w (RetDv w (dvTick X now ret bye)) := by
  have HCH : Hid (∀ u, Below w.heap.size w u → Calls Tryz.prog 175 #[.agg #[.slice A n ca, .int .i64 now, .int .i64 ret], .iface 237 (.agg #[.int .i64 bye])] u (RetDv u (dvOn X now ret (tickIn X now ret bye)))) := fun u hb =>
    changed_any _ _ A n ca X now ret a0 a1 a2 u (hG.below hb) (hS.below hb) hX (rd_step hA hb) (fun v' b Ah ch hw => perf_tick bye b A n ca X Ah ch now ret a0 a1 a2 v' hw) tick_ok tick_ill ⟨_, _, rfl⟩
  clear hG hS hX hA
  unfold dvTick
  have hb0 : Below w.heap.size w ((w.alloc (.cells #[.slice A n ca, .int .i64 now, .int .i64 ret] 43)).alloc (.cells #[.slice none 0 0, .int .i64 0, .int .i64 0, .int .i64 0] 50)) := ((Below.refl _ _).alloc (Nat.le_refl _) _).alloc (by simp) _
  have k1 := isBlk_new (w.alloc (.cells #[.slice A n ca, .int .i64 now, .int .i64 ret] 43)) 50 [.slice none 0 0, .int .i64 0, .int .i64 0, .int .i64 0]
  change IsBlk ((w.alloc (.cells #[.slice A n ca, .int .i64 now, .int .i64 ret] 43)).alloc (.cells #[.slice none 0 0, .int .i64 0, .int .i64 0, .int .i64 0] 50)) _ _ _ at k1
  simp only [size_alloc] at k1
  go_enter Tryz.func120, Tryz.ntmps120
  go_wp2_with fail
  generalize ((w.alloc (.cells #[.slice A n ca, .int .i64 now, .int .i64 ret] 43)).alloc (.cells #[.slice none 0 0, .int .i64 0, .int .i64 0, .int .i64 0] 50)) = W at hb0 k1 ⊢
  refine (HCH.out W hb0).mono ?_
  rintro e u ⟨A', c', rfl, ho, hb⟩
  generalize dvOn X now ret (tickIn X now ret bye) = D at *
  have HB := Lib.hid (bel_step hb0 hb)
  have HO := Lib.hid ho
  have hlt := k1.lt
  have hub := hb.size
  have hws := hb0.size
  obtain ⟨d0, d1, d2, d3, fd0, fd1, fd2, fd3⟩ := blk4 (k1.below hb k1.lt)
  obtain ⟨nd, tn, tr, dc⟩ := D
  simp only at *
  generalize hzl : nd.length = zl at *
  clear ho hb hb0 k1 HCH
  go_wp2
  refine bodyPost_ret (v := .agg #[.slice A' zl c', .int .i64 tn, .int .i64 tr, .int .i64 dc]) (by simp [results, Tryz.results120, go_sem, d0, d1, d2, d3]) rfl ?_
  subst hzl
  refine ⟨A', c', rfl, ?_, ?_⟩
  · refine (HO.out.mono (Nat.le_refl _) (by simp [World.setCell])).same ?_ |>.mono (by omega) (Nat.le_refl _)
    intro k h1 h2
    repeat rw [Below.heap_setCell _ _ _ _ (by dsimp only; omega)]
  · repeat (with_reducible refine Below.setCell ?_ ?_ _)
    all_goals first | exact HB.out | (dsimp only; omega)

set_option maxHeartbeats 1000000 in
set_option maxRecDepth 100000 in
theorem impl_dvTrim (A : Option Addr) (n ca : Nat) (X : List Bk) (now ret : Int) (s : Int) (a0 a1 a2 : Addr) (w : World) (hG : ErrType w) (hS : Sents w a0 a1 a2) (hX : Small X) (hA : RdBk w w.heap.size A n X) :
    Calls Tryz.prog 118 #[.agg #[.slice A n ca, .int .i64 now, .int .i64 ret], .int .i64 s] w (RetDv w (dvTrim X now ret s)) := by
  have HCH : Hid (∀ u, Below w.heap.size w u → Calls Tryz.prog 175 #[.agg #[.slice A n ca, .int .i64 now, .int .i64 ret], .iface 233 (.agg #[.int .i64 s])] u (RetDv u (dvOn X now ret (trimIn X now ret s)))) := fun u hb =>
    changed_any _ _ A n ca X now ret a0 a1 a2 u (hG.below hb) (hS.below hb) hX (rd_step hA hb) (fun v' b Ah ch hw => perf_trim s b A n ca X Ah ch now ret a0 a1 a2 v' hw) trim_ok trim_ill ⟨_, _, rfl⟩
  clear hG hS hX hA
  unfold dvTrim
  have hb0 : Below w.heap.size w ((w.alloc (.cells #[.slice A n ca, .int .i64 now, .int .i64 ret] 43)).alloc (.cells #[.slice none 0 0, .int .i64 0, .int .i64 0, .int .i64 0] 50)) := ((Below.refl _ _).alloc (Nat.le_refl _) _).alloc (by simp) _
  have k1 := isBlk_new (w.alloc (.cells #[.slice A n ca, .int .i64 now, .int .i64 ret] 43)) 50 [.slice none 0 0, .int .i64 0, .int .i64 0, .int .i64 0]
  change IsBlk ((w.alloc (.cells #[.slice A n ca, .int .i64 now, .int .i64 ret] 43)).alloc (.cells #[.slice none 0 0, .int .i64 0, .int .i64 0, .int .i64 0] 50)) _ _ _ at k1
  simp only [size_alloc] at k1
  go_enter Tryz.func118, Tryz.ntmps118
  go_wp2_with fail
  generalize ((w.alloc (.cells #[.slice A n ca, .int .i64 now, .int .i64 ret] 43)).alloc (.cells #[.slice none 0 0, .int .i64 0, .int .i64 0, .int .i64 0] 50)) = W at hb0 k1 ⊢
  refine (HCH.out W hb0).mono ?_
  rintro e u ⟨A', c', rfl, ho, hb⟩
  generalize dvOn X now ret (trimIn X now ret s) = D at *
  have HB := Lib.hid (bel_step hb0 hb)
  have HO := Lib.hid ho
  have hlt := k1.lt
  have hub := hb.size
  have hws := hb0.size
  obtain ⟨d0, d1, d2, d3, fd0, fd1, fd2, fd3⟩ := blk4 (k1.below hb k1.lt)
  obtain ⟨nd, tn, tr, dc⟩ := D
  simp only at *
  generalize hzl : nd.length = zl at *
  clear ho hb hb0 k1 HCH
  go_wp2
  refine bodyPost_ret (v := .agg #[.slice A' zl c', .int .i64 tn, .int .i64 tr, .int .i64 dc]) (by simp [results, Tryz.results118, go_sem, d0, d1, d2, d3]) rfl ?_
  subst hzl
  refine ⟨A', c', rfl, ?_, ?_⟩
  · refine (HO.out.mono (Nat.le_refl _) (by simp [World.setCell])).same ?_ |>.mono (by omega) (Nat.le_refl _)
    intro k h1 h2
    repeat rw [Below.heap_setCell _ _ _ _ (by dsimp only; omega)]
  · repeat (with_reducible refine Below.setCell ?_ ?_ _)
    all_goals first | exact HB.out | (dsimp only; omega)

set_option maxHeartbeats 1000000 in
set_option maxRecDepth 100000 in
theorem impl_dvRollTo (A : Option Addr) (n ca : Nat) (X : List Bk) (now ret : Int) (a : Int) (a0 a1 a2 : Addr) (w : World) (hG : ErrType w) (hS : Sents w a0 a1 a2) (hX : Small X) (hA : RdBk w w.heap.size A n X) :
    Calls Tryz.prog 119 #[.agg #[.slice A n ca, .int .i64 now, .int .i64 ret], .int .i64 a] w (RetDv w (dvRoll X now ret a)) := by
  have HCH : Hid (∀ u, Below w.heap.size w u → Calls Tryz.prog 175 #[.agg #[.slice A n ca, .int .i64 now, .int .i64 ret], .iface 235 (.agg #[.int .i64 a])] u (RetDv u (dvOn X now ret (rollIn X now ret a)))) := fun u hb =>
    changed_any _ _ A n ca X now ret a0 a1 a2 u (hG.below hb) (hS.below hb) hX (rd_step hA hb) (fun v' b Ah ch hw => perf_roll a b A n ca X Ah ch now ret a0 a1 a2 v' hw) roll_ok roll_ill ⟨_, _, rfl⟩
  clear hG hS hX hA
  unfold dvRoll
  have hb0 : Below w.heap.size w ((w.alloc (.cells #[.slice A n ca, .int .i64 now, .int .i64 ret] 43)).alloc (.cells #[.slice none 0 0, .int .i64 0, .int .i64 0, .int .i64 0] 50)) := ((Below.refl _ _).alloc (Nat.le_refl _) _).alloc (by simp) _
  have k1 := isBlk_new (w.alloc (.cells #[.slice A n ca, .int .i64 now, .int .i64 ret] 43)) 50 [.slice none 0 0, .int .i64 0, .int .i64 0, .int .i64 0]
  change IsBlk ((w.alloc (.cells #[.slice A n ca, .int .i64 now, .int .i64 ret] 43)).alloc (.cells #[.slice none 0 0, .int .i64 0, .int .i64 0, .int .i64 0] 50)) _ _ _ at k1
  simp only [size_alloc] at k1
  go_enter Tryz.func119, Tryz.ntmps119
  go_wp2_with fail
  generalize ((w.alloc (.cells #[.slice A n ca, .int .i64 now, .int .i64 ret] 43)).alloc (.cells #[.slice none 0 0, .int .i64 0, .int .i64 0, .int .i64 0] 50)) = W at hb0 k1 ⊢
  refine (HCH.out W hb0).mono ?_
  rintro e u ⟨A', c', rfl, ho, hb⟩
  generalize dvOn X now ret (rollIn X now ret a) = D at *
  have HB := Lib.hid (bel_step hb0 hb)
  have HO := Lib.hid ho
  have hlt := k1.lt
  have hub := hb.size
  have hws := hb0.size
  obtain ⟨d0, d1, d2, d3, fd0, fd1, fd2, fd3⟩ := blk4 (k1.below hb k1.lt)
  obtain ⟨nd, tn, tr, dc⟩ := D
  simp only at *
  generalize hzl : nd.length = zl at *
  clear ho hb hb0 k1 HCH
  go_wp2
  refine bodyPost_ret (v := .agg #[.slice A' zl c', .int .i64 tn, .int .i64 tr, .int .i64 dc]) (by simp [results, Tryz.results119, go_sem, d0, d1, d2, d3]) rfl ?_
  subst hzl
  refine ⟨A', c', rfl, ?_, ?_⟩
  · refine (HO.out.mono (Nat.le_refl _) (by simp [World.setCell])).same ?_ |>.mono (by omega) (Nat.le_refl _)
    intro k h1 h2
    repeat rw [Below.heap_setCell _ _ _ _ (by dsimp only; omega)]
  · repeat (with_reducible refine Below.setCell ?_ ?_ _)
    all_goals first | exact HB.out | (dsimp only; omega)

set_option maxHeartbeats 1000000 in
set_option maxRecDepth 100000 in
theorem impl_dvRaise (A : Option Addr) (n ca : Nat) (X : List Bk) (now ret : Int) (a0 a1 a2 : Addr) (w : World) (hG : ErrType w) (hS : Sents w a0 a1 a2) (hX : Small X) (hA : RdBk w w.heap.size A n X) :
    Calls Tryz.prog 128 #[.agg #[.slice A n ca, .int .i64 now, .int .i64 ret]] w (RetDv w (dvRaise X now ret)) := by
  have HCH : Hid (∀ u, Below w.heap.size w u → Calls Tryz.prog 175 #[.agg #[.slice A n ca, .int .i64 now, .int .i64 ret], .iface 246 (.agg #[])] u (RetDv u (dvOn X now ret (raiseIn X now ret)))) := fun u hb =>
    changed_any _ _ A n ca X now ret a0 a1 a2 u (hG.below hb) (hS.below hb) hX (rd_step hA hb) (fun v' b Ah ch hw => perf_raise b A n ca X Ah ch now ret a0 a1 a2 v' hw) raise_ok raise_ill ⟨_, _, rfl⟩
  clear hG hS hX hA
  unfold dvRaise
  have hb0 : Below w.heap.size w ((w.alloc (.cells #[.slice A n ca, .int .i64 now, .int .i64 ret] 43)).alloc (.cells #[.slice none 0 0, .int .i64 0, .int .i64 0, .int .i64 0] 50)) := ((Below.refl _ _).alloc (Nat.le_refl _) _).alloc (by simp) _
  have k1 := isBlk_new (w.alloc (.cells #[.slice A n ca, .int .i64 now, .int .i64 ret] 43)) 50 [.slice none 0 0, .int .i64 0, .int .i64 0, .int .i64 0]
  change IsBlk ((w.alloc (.cells #[.slice A n ca, .int .i64 now, .int .i64 ret] 43)).alloc (.cells #[.slice none 0 0, .int .i64 0, .int .i64 0, .int .i64 0] 50)) _ _ _ at k1
  simp only [size_alloc] at k1
  go_enter Tryz.func128, Tryz.ntmps128
  go_wp2_with fail
  generalize ((w.alloc (.cells #[.slice A n ca, .int .i64 now, .int .i64 ret] 43)).alloc (.cells #[.slice none 0 0, .int .i64 0, .int .i64 0, .int .i64 0] 50)) = W at hb0 k1 ⊢
  refine (HCH.out W hb0).mono ?_
  rintro e u ⟨A', c', rfl, ho, hb⟩
  generalize dvOn X now ret (raiseIn X now ret) = D at *
  have HB := Lib.hid (bel_step hb0 hb)
  have HO := Lib.hid ho
  have hlt := k1.lt
  have hub := hb.size
  have hws := hb0.size
  obtain ⟨d0, d1, d2, d3, fd0, fd1, fd2, fd3⟩ := blk4 (k1.below hb k1.lt)
  obtain ⟨nd, tn, tr, dc⟩ := D
  simp only at *
  generalize hzl : nd.length = zl at *
  clear ho hb hb0 k1 HCH
  go_wp2
  refine bodyPost_ret (v := .agg #[.slice A' zl c', .int .i64 tn, .int .i64 tr, .int .i64 dc]) (by simp [results, Tryz.results128, go_sem, d0, d1, d2, d3]) rfl ?_
  subst hzl
  refine ⟨A', c', rfl, ?_, ?_⟩
  · refine (HO.out.mono (Nat.le_refl _) (by simp [World.setCell])).same ?_ |>.mono (by omega) (Nat.le_refl _)
    intro k h1 h2
    repeat rw [Below.heap_setCell _ _ _ _ (by dsimp only; omega)]
  · repeat (with_reducible refine Below.setCell ?_ ?_ _)
    all_goals first | exact HB.out | (dsimp only; omega)

set_option maxHeartbeats 1000000 in
set_option maxRecDepth 100000 in
theorem impl_dvCollect (A : Option Addr) (n ca : Nat) (X : List Bk) (now ret : Int) (v : Int) (a0 a1 a2 : Addr) (w : World) (hG : ErrType w) (hS : Sents w a0 a1 a2) (hX : Small X) (hA : RdBk w w.heap.size A n X) :
    Calls Tryz.prog 130 #[.agg #[.slice A n ca, .int .i64 now, .int .i64 ret], .int .i64 v] w (RetDv w (dvColl X now ret v)) := by
  have HCH : Hid (∀ u, Below w.heap.size w u → Calls Tryz.prog 175 #[.agg #[.slice A n ca, .int .i64 now, .int .i64 ret], .iface 249 (.agg #[.int .i64 v])] u (RetDv u (dvOn X now ret (collIn X now ret v)))) := fun u hb =>
    changed_any _ _ A n ca X now ret a0 a1 a2 u (hG.below hb) (hS.below hb) hX (rd_step hA hb) (fun v' b Ah ch hw => perf_coll v b A n ca X Ah ch now ret a0 a1 a2 v' hw) coll_ok coll_ill ⟨_, _, rfl⟩
  clear hG hS hX hA
  unfold dvColl
  have hb0 : Below w.heap.size w ((w.alloc (.cells #[.slice A n ca, .int .i64 now, .int .i64 ret] 43)).alloc (.cells #[.slice none 0 0, .int .i64 0, .int .i64 0, .int .i64 0] 50)) := ((Below.refl _ _).alloc (Nat.le_refl _) _).alloc (by simp) _
  have k1 := isBlk_new (w.alloc (.cells #[.slice A n ca, .int .i64 now, .int .i64 ret] 43)) 50 [.slice none 0 0, .int .i64 0, .int .i64 0, .int .i64 0]
  change IsBlk ((w.alloc (.cells #[.slice A n ca, .int .i64 now, .int .i64 ret] 43)).alloc (.cells #[.slice none 0 0, .int .i64 0, .int .i64 0, .int .i64 0] 50)) _ _ _ at k1
  simp only [size_alloc] at k1
  go_enter Tryz.func130, Tryz.ntmps130
  go_wp2_with fail
  generalize ((w.alloc (.cells #[.slice A n ca, .int .i64 now, .int .i64 ret] 43)).alloc (.cells #[.slice none 0 0, .int .i64 0, .int .i64 0, .int .i64 0] 50)) = W at hb0 k1 ⊢
  refine (HCH.out W hb0).mono ?_
  rintro e u ⟨A', c', rfl, ho, hb⟩
  generalize dvOn X now ret (collIn X now ret v) = D at *
  have HB := Lib.hid (bel_step hb0 hb)
  have HO := Lib.hid ho
  have hlt := k1.lt
  have hub := hb.size
  have hws := hb0.size
  obtain ⟨d0, d1, d2, d3, fd0, fd1, fd2, fd3⟩ := blk4 (k1.below hb k1.lt)
  obtain ⟨nd, tn, tr, dc⟩ := D
  simp only at *
  generalize hzl : nd.length = zl at *
  clear ho hb hb0 k1 HCH
  go_wp2
  refine bodyPost_ret (v := .agg #[.slice A' zl c', .int .i64 tn, .int .i64 tr, .int .i64 dc]) (by simp [results, Tryz.results130, go_sem, d0, d1, d2, d3]) rfl ?_
  subst hzl
  refine ⟨A', c', rfl, ?_, ?_⟩
  · refine (HO.out.mono (Nat.le_refl _) (by simp [World.setCell])).same ?_ |>.mono (by omega) (Nat.le_refl _)
    intro k h1 h2
    repeat rw [Below.heap_setCell _ _ _ _ (by dsimp only; omega)]
  · repeat (with_reducible refine Below.setCell ?_ ?_ _)
    all_goals first | exact HB.out | (dsimp only; omega)

set_option maxHeartbeats 1000000 in
set_option maxRecDepth 100000 in
theorem impl_dvWrite (A : Option Addr) (n ca : Nat) (X : List Bk) (now ret : Int) (s : Int) (d : ByteArray) (a0 a1 a2 : Addr) (w : World) (hd : d.size ≤ 2147483648) (hG : ErrType w) (hS : Sents w a0 a1 a2) (hX : Small X) (hA : RdBk w w.heap.size A n X) :
    Calls Tryz.prog 117 #[.agg #[.slice A n ca, .int .i64 now, .int .i64 ret], .int .i64 s, .string d] w (RetDv w (dvWrite X now ret s d)) := by
  have HCH : Hid (∀ u, Below w.heap.size w u → Calls Tryz.prog 175 #[.agg #[.slice A n ca, .int .i64 now, .int .i64 ret], .iface 231 (.agg #[.int .i64 s, .string d])] u (RetDv u (dvOn X now ret (writeIn X now ret s d)))) := fun u hb =>
    changed_any _ _ A n ca X now ret a0 a1 a2 u (hG.below hb) (hS.below hb) hX (rd_step hA hb) (fun v' b Ah ch hw => perf_write s d b A n ca X Ah ch now ret a0 a1 a2 v' hd hw) write_ok write_ill ⟨_, _, rfl⟩
  clear hG hS hX hA
  unfold dvWrite
  have hb0 : Below w.heap.size w ((w.alloc (.cells #[.slice A n ca, .int .i64 now, .int .i64 ret] 43)).alloc (.cells #[.slice none 0 0, .int .i64 0, .int .i64 0, .int .i64 0] 50)) := ((Below.refl _ _).alloc (Nat.le_refl _) _).alloc (by simp) _
  have k1 := isBlk_new (w.alloc (.cells #[.slice A n ca, .int .i64 now, .int .i64 ret] 43)) 50 [.slice none 0 0, .int .i64 0, .int .i64 0, .int .i64 0]
  change IsBlk ((w.alloc (.cells #[.slice A n ca, .int .i64 now, .int .i64 ret] 43)).alloc (.cells #[.slice none 0 0, .int .i64 0, .int .i64 0, .int .i64 0] 50)) _ _ _ at k1
  simp only [size_alloc] at k1
  go_enter Tryz.func117, Tryz.ntmps117
  by_cases g : 8000 < d.size
  · rw [if_pos g]
    have g' : (8000 : Int) < (d.size : Int) := by omega
    clear HCH hb0 k1
    go_wp2
    refine bodyPost_ret (v := .agg #[.slice none 0 0, .int .i64 0, .int .i64 0, .int .i64 2]) (by simp [results, Tryz.results117, go_sem]) rfl ?_
    exact ⟨none, 0, rfl, ow_nil _ _ _ _, ((Below.refl _ _).alloc (Nat.le_refl _) _).alloc (by simp) _⟩
  rw [if_neg g]
  have g' : ¬ (8000 : Int) < (d.size : Int) := by omega
  go_wp2_with fail
  generalize ((w.alloc (.cells #[.slice A n ca, .int .i64 now, .int .i64 ret] 43)).alloc (.cells #[.slice none 0 0, .int .i64 0, .int .i64 0, .int .i64 0] 50)) = W at hb0 k1 ⊢
  refine (HCH.out W hb0).mono ?_
  rintro e u ⟨A', c', rfl, ho, hb⟩
  generalize dvOn X now ret (writeIn X now ret s d) = D at *
  have HB := Lib.hid (bel_step hb0 hb)
  have HO := Lib.hid ho
  have hlt := k1.lt
  have hub := hb.size
  have hws := hb0.size
  obtain ⟨d0, d1, d2, d3, fd0, fd1, fd2, fd3⟩ := blk4 (k1.below hb k1.lt)
  obtain ⟨nd, tn, tr, dc⟩ := D
  simp only at *
  generalize hzl : nd.length = zl at *
  clear ho hb hb0 k1 HCH
  go_wp2
  refine bodyPost_ret (v := .agg #[.slice A' zl c', .int .i64 tn, .int .i64 tr, .int .i64 dc]) (by simp [results, Tryz.results117, go_sem, d0, d1, d2, d3]) rfl ?_
  subst hzl
  refine ⟨A', c', rfl, ?_, ?_⟩
  · refine (HO.out.mono (Nat.le_refl _) (by simp [World.setCell])).same ?_ |>.mono (by omega) (Nat.le_refl _)
    intro k h1 h2
    repeat rw [Below.heap_setCell _ _ _ _ (by dsimp only; omega)]
  · repeat (with_reducible refine Below.setCell ?_ ?_ _)
    all_goals first | exact HB.out | (dsimp only; omega)

end Go.Proofs.YtdeagcdafcfimaaGreatDoor

namespace Go.Proofs.YtdeagcdafcfimaaGreatDoor
open Go.RowKit
open Bt (Rc)

theorem callFunc_right1 (args : Array Value) (W : World) : (callFunc 89 args).run Tryz.prog W = .ok (.enter 89 args) W := by kernel_rfl

set_option maxHeartbeats 1000000 in
set_option maxRecDepth 100000 in
theorem right1_any (g : Nat) (A : Option Addr) (n ca : Nat) (X : List Bk) (now ret : Int) (a0 a2 : Addr) (w : World) (kd : IsBlk w g 43 [.slice A n ca, .int .i64 now, .int .i64 ret]) (hG : ErrType w) (hS : Two w a0 a2) (hX : Small X) (hA : RdBk w w.heap.size A n X) :
    Calls Tryz.prog 89 #[.pointer (some ⟨g, 0, none⟩)] w fun e w' => Below w.heap.size w w' ∧ (dvB X now ret = true ∧ e = .returned (.tuple #[]) ∨ dvB X now ret = false ∧ e = .panicked (viol 1)) := by
  have HBEG := Lib.hid (begin_any A n ca X now ret a0 a2 w hG hS hX hA)
  obtain ⟨c0, c1, c2, -, -, -⟩ := blk3 kd
  clear kd hG hS hX hA
  go_enter Tryz.func89, Tryz.ntmps89
  go_wp2_with fail
  refine HBEG.out.mono ?_
  rintro e u ⟨hbu, hu⟩
  rcases hu with ⟨hf, rfl⟩ | ⟨hf, b, Ah, ch, rfl, -⟩
  · exact ⟨rfl, hbu, .inr ⟨hf, rfl⟩⟩
  · have HB := Lib.hid hbu
    clear hbu HBEG
    go_wp2
    go_end0
    exact ⟨HB.out, .inl ⟨hf, rfl⟩⟩

set_option maxHeartbeats 1000000 in
set_option maxRecDepth 100000 in
theorem impl_driveRight (A : Option Addr) (n ca : Nat) (X : List Bk) (now ret : Int) (a0 a2 : Addr) (w : World) (hG : ErrType w) (hS : Two w a0 a2) (hX : Small X) (hA : RdBk w w.heap.size A n X) :
    Calls Tryz.prog 36 #[.agg #[.slice A n ca, .int .i64 now, .int .i64 ret]] w fun e w' => e = .returned (.bool (dvB X now ret)) ∧ Below w.heap.size w w' := by
  have hmf : ∀ (fn : Fn) (first cap : Array Value) (w : World), (Instr.makeFunc fn first cap).run Tryz.prog w = .ok (.func fn first cap) w := fun _ _ _ _ => rfl
  have hb0 := box_below w (.cells #[.slice A n ca, .int .i64 now, .int .i64 ret] 43)
  have k0 := isBlk_new w 43 [.slice A n ca, .int .i64 now, .int .i64 ret]
  change IsBlk (w.alloc (.cells #[.slice A n ca, .int .i64 now, .int .i64 ret] 43)) _ _ _ at k0
  have HA := Lib.hid hA; have HX := Lib.hid hX; have HS := Lib.hid hS; have HG := Lib.hid hG; clear hA hX hS hG
  go_enter Tryz.func36, Tryz.ntmps36
  go_wp2_with fail
  generalize w.alloc (.cells #[.slice A n ca, .int .i64 now, .int .i64 ret] 43) = W at hb0 k0 ⊢
  have HB0 := Lib.hid hb0
  have HWORK : Hid (Calls Tryz.prog 89 (#[] ++ #[.pointer (some ⟨w.heap.size, 0, none⟩)]) (W.alloc (.cells #[.int .i64 0] 2)) fun e w' => (w'.cell? ⟨W.heap.size, 0, none⟩ = some (.int .i64 0) ∧ w'.frozen? ⟨W.heap.size, 0, none⟩ = false) ∧ ∃ c : Int, (e = .returned (.tuple #[]) ∧ c = 0 ∨ e = .panicked (viol c)) ∧ (dvB X now ret = (c == 0) ∧ Below (W.alloc (.cells #[.int .i64 0] 2)).heap.size (W.alloc (.cells #[.int .i64 0] 2)) w')) := by
    have hb1 := box_below W (.cells #[.int .i64 0] 2)
    have hb2 := bel_step hb0 hb1
    have kc := isBlk_new W 2 [.int .i64 0]
    change IsBlk (W.alloc (.cells #[.int .i64 0] 2)) _ _ _ at kc
    have key := right1_any w.heap.size A n ca X now ret a0 a2 _ (k0.below hb1 k0.lt) (HG.out.below hb2) (HS.out.below hb2) HX.out (rd_step HA.out hb2)
    rw [Array.empty_append]
    refine key.mono ?_
    rintro e w' ⟨hb, h⟩
    have kc' := kc.below hb kc.lt
    refine ⟨⟨kc'.cell rfl, kc'.free⟩, ?_⟩
    rcases h with ⟨h1, rfl⟩ | ⟨h1, rfl⟩
    · exact ⟨0, .inl ⟨rfl, rfl⟩, by rw [h1]; rfl, hb⟩
    · exact ⟨1, .inr rfl, by rw [h1]; rfl, hb⟩
  clear hb0 k0 HG HS HX HA
  refine (attempt_any 89 _ _ W _ (callFunc_right1 _) HWORK.out).mono ?_
  rintro e V ⟨c, u, rfl, ⟨hdc, hbu⟩, rfl⟩
  have HB : Hid (Below w.heap.size w (u.setCell ⟨W.heap.size, 0, none⟩ (.int .i64 c))) := ((bel_step (HB0.out.alloc HB0.out.size _) hbu).setCell (p := ⟨W.heap.size, 0, none⟩) HB0.out.size _)
  have HDC := Lib.hid hdc
  generalize u.setCell ⟨W.heap.size, 0, none⟩ (.int .i64 c) = V at *
  clear hbu hdc HWORK
  go_wp2
  go_ret
  exact ⟨by rw [HDC.out]; rfl, HB.out⟩
end Go.Proofs.YtdeagcdafcfimaaGreatDoor
