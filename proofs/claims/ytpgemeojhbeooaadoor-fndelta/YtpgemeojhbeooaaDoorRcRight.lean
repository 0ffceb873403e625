/-
  The contracts of RecRight and of what it calls, of the program and of the model.
-/
import Derived.Test.YtpgemeojhbeooaaDoorProg
import Derived.KernelRfl
import Derived.Test.YtpgemeojhbeooaaDoorBtPure
import Derived.Test.YtpgemeojhbeooaaDoorBtMem
import Derived.Test.YtpgemeojhbeooaaDoorRcPure
import Derived.WalkKit
import Derived.Lib.Hide
import Derived.BigRegion
import Derived.Laws.StructEq
import Derived.Lib.QuietBelow
import Derived.BigQuiet
namespace Go.Proofs.YtpgemeojhbeooaaDoor
open Go.RowKit
open Bt (Rc)

/-- a record as a value -/
abbrev recV (r : Rc) : Value := .agg #[.int .i64 r.k, .int .i64 r.s, .int .i64 r.q, .int .i64 r.t, .int .i64 r.o, .string r.d]
/-- a record as the cells of a block -/
abbrev recC (r : Rc) : List Value := [.int .i64 r.k, .int .i64 r.s, .int .i64 r.q, .int .i64 r.t, .int .i64 r.o, .string r.d]

/-- the six cells of a record's block -/
theorem rcCells {w : World} {g : Nat} {e : TypeId} {r : Rc} (h : IsBlk w g e (recC r)) : w.cell? ⟨g, 0, none⟩ = some (.int .i64 r.k) ∧ w.cell? ⟨g, 1, none⟩ = some (.int .i64 r.s) ∧ w.cell? ⟨g, 2, none⟩ = some (.int .i64 r.q) ∧
    w.cell? ⟨g, 3, none⟩ = some (.int .i64 r.t) ∧ w.cell? ⟨g, 4, none⟩ = some (.int .i64 r.o) ∧ w.cell? ⟨g, 5, none⟩ = some (.string r.d) := ⟨h.cell rfl, h.cell rfl, h.cell rfl, h.cell rfl, h.cell rfl, h.cell rfl⟩
/-- a call that left old memory alone, behind a walk that did -/
theorem rcStep {w w1 w2 : World} {g : Nat} {e : TypeId} {cs : List Value} (hb : Below w.heap.size w w1) (hk : IsBlk w1 g e cs) (h : Below w1.heap.size w1 w2) : Hid (Below w.heap.size w w2) ∧ Hid (IsBlk w2 g e cs) :=
  ⟨hb.trans (h.mono hb.size), hk.below h hk.lt⟩

def rcIs (lo hi n : Int) : Bool := decide (lo ≤ n ∧ n ≤ hi)
theorem rcIs_yes {lo hi n : Int} (h : lo ≤ n ∧ n ≤ hi) : rcIs lo hi n = true := by simpa [rcIs] using h
theorem rcIs_no {lo hi n : Int} (h : ¬ (lo ≤ n ∧ n ≤ hi)) : rcIs lo hi n = false := by simpa [rcIs] using h

set_option maxHeartbeats 2000000 in
theorem rcIs_any (n lo hi : Int) (w : World) :
    Calls Tryd.prog 63 #[.int .i64 n, .int .i64 lo, .int .i64 hi] w fun e w' => e = .returned (.bool (rcIs lo hi n)) ∧ w = w' := by
  by_cases h1 : lo ≤ n
  · by_cases h2 : n ≤ hi
    · rw [rcIs_yes ⟨h1, h2⟩]
      go_enter Tryd.func63, Tryd.ntmps63
      go_wp2
      go_ret
      exact ⟨rfl, rfl⟩
    · have h2' : hi < n := by omega
      rw [rcIs_no (by omega)]
      go_enter Tryd.func63, Tryd.ntmps63
      go_wp2
      go_ret
      exact ⟨rfl, rfl⟩
  · have h1' : n < lo := by omega
    rw [rcIs_no (by omega)]
    go_enter Tryd.func63, Tryd.ntmps63
    go_wp2
    go_ret
    exact ⟨rfl, rfl⟩
/-- a record without the fields that its kind does not use -/
def own (r : Rc) : Rc := if r.k = 1 then ⟨r.k, r.s, r.q, r.t, 0, r.d⟩ else if r.k = 2 then ⟨r.k, r.s, r.q, r.t, 0, ⟨#[]⟩⟩ else if r.k = 3 ∨ r.k = 4 then ⟨r.k, 0, r.q, r.t, r.o, ⟨#[]⟩⟩ else Rc.zero

/-- two records compared -/
def rcEq (a b : Rc) : Bool := (a.k == b.k) && ((a.s == b.s) && ((a.q == b.q) && ((a.t == b.t) && ((a.o == b.o) && (a.d.toList == b.d.toList)))))
theorem ok_own {r : Rc} (h : r.Ok) : rcEq r (own r) = true := by
  obtain ⟨k, s, q, t, o, d⟩ := r
  obtain ⟨h1, h2, h3, h4, h5, h6, h7, h8, h9, h10, h11, h12, h13, h14⟩ := h
  simp only at *
  have hd : d.size = 0 → d.toList = (⟨#[]⟩ : ByteArray).toList := by
    intro e
    rw [ByteArray.toList_eq, ByteArray.toList_eq]
    exact List.eq_nil_of_length_eq_zero e
  by_cases e1 : k = 1
  · subst e1; simp [own, rcEq, h12]
  by_cases e2 : k = 2
  · subst e2; simp [own, rcEq, h12, hd (h13 (by omega))]
  · have e3 : k = 3 ∨ k = 4 := by omega
    simp only [own, rcEq, e1, e2, e3, if_true, if_false]
    simp [h14 (by omega), hd (h13 (by omega))]
theorem own_ok {r : Rc} (h : rcEq r (own r) = true) (h3 : 0 ≤ r.s) (h4 : r.s ≤ 5) (h5 : 1 ≤ r.q) (h6 : r.q ≤ 1000000) (h7 : 0 ≤ r.t) (h8 : r.t ≤ 1000000) (h9 : 0 ≤ r.o) (h10 : r.o ≤ r.t) (h11 : r.d.size ≤ 16) : r.Ok := by
  obtain ⟨k, s, q, t, o, d⟩ := r
  simp only at *
  have hd : d.toList = [] → d.size = 0 := by
    intro e
    rw [ByteArray.toList_eq] at e
    have := congrArg List.length e
    exact this
  by_cases e1 : k = 1
  · subst e1
    simp [own, rcEq] at h
    exact ⟨by simp, by simp, h3, h4, h5, h6, h7, h8, h9, h10, h11, fun _ => h, fun hh => absurd hh (by simp), fun hh => absurd hh (by simp)⟩
  by_cases e2 : k = 2
  · subst e2
    simp [own, rcEq] at h
    exact ⟨by simp, by simp, h3, h4, h5, h6, h7, h8, h9, h10, h11, fun _ => h.1, fun _ => hd h.2, fun hh => absurd hh (by simp)⟩
  by_cases e3 : k = 3 ∨ k = 4
  · simp only [own, rcEq, e1, e2, e3, if_true, if_false] at h
    simp at h
    refine ⟨?_, ?_, h3, h4, h5, h6, h7, h8, h9, h10, h11, ?_, fun _ => hd h.2, fun _ => h.1⟩
    · show 1 ≤ k; omega
    · show k ≤ 4; omega
    · show k ≤ 2 → _; omega
  · simp only [own, rcEq, e1, e2, e3, if_false, Rc.zero] at h
    simp at h
    omega

end Go.Proofs.YtpgemeojhbeooaaDoor
