/-
  The contracts of RecRight and of what it calls, of the program and of the model.
-/
import Derived.Test.YtloaeglmngcenaaGreatDoorProg
import Derived.KernelRfl
import Derived.Test.YtloaeglmngcenaaGreatDoorBtPure
import Derived.Test.YtloaeglmngcenaaGreatDoorBtMem
import Derived.Test.YtloaeglmngcenaaGreatDoorRcPure
import Derived.WalkKit
import Derived.Lib.Hide
import Derived.BigRegion
import Derived.Laws.StructEq
import Derived.Lib.QuietBelow
import Derived.BigQuiet
namespace Go.Proofs.YtloaeglmngcenaaGreatDoor
open Go.RowKit
open Bt (Rc)

/-- a record as a value -/
abbrev recV (r : Rc) : Value := .agg #[.int .i64 r.k, .int .i64 r.s, .int .i64 r.q, .int .i64 r.t, .int .i64 r.o, .string r.d]
/-- a record as the cells of a block -/
abbrev recC (r : Rc) : List Value := [.int .i64 r.k, .int .i64 r.s, .int .i64 r.q, .int .i64 r.t, .int .i64 r.o, .string r.d]

/-- the six cells of a record's block -/
theorem rcCells {w : World} {g : Nat} {e : TypeId} {r : Rc} (h : IsBlk w g e (recC r)) : w.cell? ⟨g, 0, none⟩ = some (.int .i64 r.k) ∧ w.cell? ⟨g, 1, none⟩ = some (.int .i64 r.s) ∧ w.cell? ⟨g, 2, none⟩ = some (.int .i64 r.q) ∧
    w.cell? ⟨g, 3, none⟩ = some (.int .i64 r.t) ∧ w.cell? ⟨g, 4, none⟩ = some (.int .i64 r.o) ∧ w.cell? ⟨g, 5, none⟩ = some (.string r.d) := ⟨h.cell rfl, h.cell rfl, h.cell rfl, h.cell rfl, h.cell rfl, h.cell rfl⟩
/-- a call that left old memory alone, behind a walk that did -/
theorem rcStep {w w1 w2 : World} {g : Nat} {e : TypeId} {cs : List Value} (hb : Below w.heap.size w w1) (hk : IsBlk w1 g e cs) (h : Below w1.heap.size w1 w2) : Hid (Below w.heap.size w w2) ∧ Hid (IsBlk w2 g e cs) :=
  ⟨hb.trans (h.mono hb.size), hk.below h hk.lt⟩

def rcIs (lo hi n : Int) : Bool := decide (lo ≤ n ∧ n ≤ hi)
theorem rcIs_yes {lo hi n : Int} (h : lo ≤ n ∧ n ≤ hi) : rcIs lo hi n = true := by simpa [rcIs] using h
theorem rcIs_no {lo hi n : Int} (h : ¬ (lo ≤ n ∧ n ≤ hi)) : rcIs lo hi n = false := by simpa [rcIs] using h

set_option maxHeartbeats 2000000 in
theorem rcIs_any (n lo hi : Int) (w : World) :
    Calls Tryz.prog 110 #[.int .i64 n, .int .i64 lo, .int .i64 hi] w fun e w' => e = .returned (.bool (rcIs lo hi n)) ∧ w = w' := by
  by_cases h1 : lo ≤ n
  · by_cases h2 : n ≤ hi
    · rw [rcIs_yes ⟨h1, h2⟩]
      go_enter Tryz.func110, Tryz.ntmps110
      go_wp2
      go_ret
      exact ⟨rfl, rfl⟩
    · have h2' : hi < n := by omega
      rw [rcIs_no (by omega)]
      go_enter Tryz.func110, Tryz.ntmps110
      go_wp2
      go_ret
      exact ⟨rfl, rfl⟩
  · have h1' : n < lo := by omega
    rw [rcIs_no (by omega)]
    go_enter Tryz.func110, Tryz.ntmps110
    go_wp2
    go_ret
    exact ⟨rfl, rfl⟩
set_option maxHeartbeats 2000000 in
theorem rcTime_any (n : Int) (w : World) : Calls Tryz.prog 158 #[.int .i64 n] w fun e w' => e = .returned (.bool (rcIs 0 1000000 n)) ∧ w = w' := by
  go_enter Tryz.func158, Tryz.ntmps158
  go_wp2_with fail
  refine (rcIs_any _ _ _ _).mono ?_
  rintro e w1 ⟨rfl, rfl⟩
  go_wp2
  go_ret
  exact ⟨rfl, rfl⟩
set_option maxHeartbeats 2000000 in
theorem isTime_any (n : Int) (w : World) : Calls Tryz.prog 152 #[.int .i64 n] w fun e w' => e = .returned (.bool (rcIs 0 1000000 n)) ∧ w = w' := by
  by_cases h1 : 0 ≤ n
  · by_cases h2 : n ≤ 1000000
    · rw [rcIs_yes ⟨h1, h2⟩]
      go_enter Tryz.func152, Tryz.ntmps152
      go_wp2
      go_ret
      exact ⟨rfl, rfl⟩
    · have h2' : 1000000 < n := by omega
      rw [rcIs_no (by omega)]
      go_enter Tryz.func152, Tryz.ntmps152
      go_wp2
      go_ret
      exact ⟨rfl, rfl⟩
  · have h1' : n < 0 := by omega
    rw [rcIs_no (by omega)]
    go_enter Tryz.func152, Tryz.ntmps152
    go_wp2
    go_ret
    exact ⟨rfl, rfl⟩

set_option maxHeartbeats 2000000 in
theorem isSector_any (n : Int) (w : World) : Calls Tryz.prog 151 #[.int .i64 n] w fun e w' => e = .returned (.bool (rcIs 0 5 n)) ∧ w = w' := by
  by_cases h1 : 0 ≤ n
  · by_cases h2 : n ≤ 5
    · rw [rcIs_yes ⟨h1, h2⟩]
      have h2' : n < 6 := by omega
      clear h2
      go_enter Tryz.func151, Tryz.ntmps151
      go_wp2
      go_ret
      exact ⟨by first | rfl | (simp; omega), rfl⟩
    · have h2' : 6 ≤ n := by omega
      rw [rcIs_no (by omega)]
      go_enter Tryz.func151, Tryz.ntmps151
      go_wp2
      go_ret
      exact ⟨by first | rfl | (simp; omega), rfl⟩
  · have h1' : n < 0 := by omega
    rw [rcIs_no (by omega)]
    go_enter Tryz.func151, Tryz.ntmps151
    go_wp2
    go_ret
    exact ⟨by first | rfl | (simp; omega), rfl⟩

/-- a record without the fields that its kind does not use -/
def own (r : Rc) : Rc := if r.k = 1 then ⟨r.k, r.s, r.q, r.t, 0, r.d⟩ else if r.k = 2 then ⟨r.k, r.s, r.q, r.t, 0, ⟨#[]⟩⟩ else if r.k = 3 ∨ r.k = 4 then ⟨r.k, 0, r.q, r.t, r.o, ⟨#[]⟩⟩ else Rc.zero

set_option maxHeartbeats 4000000 in
theorem ownFields_any (r : Rc) (w : World) : Calls Tryz.prog 150 #[recV r] w fun e w' => e = .returned (recV (own r)) ∧ Below w.heap.size w w' := by
  obtain ⟨k, s, q, t, o, d⟩ := r
  by_cases h1 : k = 1
  · subst h1
    go_enter Tryz.func150, Tryz.ntmps150
    go_wp2
    go_region
    all_goals
      go_wp2
      exact bodyPost_ret (v := recV ⟨1, s, q, t, 0, d⟩) (by simp [results, Tryz.results150, go_sem]) rfl ⟨rfl, ((((Below.refl _ _).alloc (Nat.le_refl _) _).alloc (by simp) _).alloc (by simp; omega) _).drew⟩
  by_cases h2 : k = 2
  · subst h2
    go_enter Tryz.func150, Tryz.ntmps150
    go_wp2
    exact bodyPost_ret (v := recV ⟨2, s, q, t, 0, ⟨#[]⟩⟩) (by simp [results, Tryz.results150, go_sem]) rfl ⟨rfl, (((Below.refl _ _).alloc (Nat.le_refl _) _).alloc (by simp) _).alloc (by simp; omega) _⟩
  by_cases h3 : k = 3
  · subst h3
    go_enter Tryz.func150, Tryz.ntmps150
    go_wp2
    exact bodyPost_ret (v := recV ⟨3, 0, q, t, o, ⟨#[]⟩⟩) (by simp [results, Tryz.results150, go_sem]) rfl ⟨rfl, (((Below.refl _ _).alloc (Nat.le_refl _) _).alloc (by simp) _).alloc (by simp; omega) _⟩
  by_cases h4 : k = 4
  · subst h4
    go_enter Tryz.func150, Tryz.ntmps150
    go_wp2
    exact bodyPost_ret (v := recV ⟨4, 0, q, t, o, ⟨#[]⟩⟩) (by simp [results, Tryz.results150, go_sem]) rfl ⟨rfl, (((Below.refl _ _).alloc (Nat.le_refl _) _).alloc (by simp) _).alloc (by simp; omega) _⟩
  have e1 : (k == 1) = false := by simpa using h1
  have e2 : (k == 2) = false := by simpa using h2
  have e3 : (k == 3) = false := by simpa using h3
  have e4 : (k == 4) = false := by simpa using h4
  have HO : Hid (own ⟨k, s, q, t, o, d⟩ = Rc.zero) := by show _ = _; simp [own, h1, h2, h3, h4]
  clear h1 h2 h3 h4
  go_enter Tryz.func150, Tryz.ntmps150
  go_wp2
  exact bodyPost_ret (v := recV Rc.zero) (by simp [results, Tryz.results150, go_sem, Rc.zero]) rfl ⟨by rw [HO.out], (((Below.refl _ _).alloc (Nat.le_refl _) _).alloc (by simp) _).alloc (by simp; omega) _⟩

/-- two records compared -/
def rcEq (a b : Rc) : Bool := (a.k == b.k) && ((a.s == b.s) && ((a.q == b.q) && ((a.t == b.t) && ((a.o == b.o) && (a.d.toList == b.d.toList)))))
theorem rec_fields : Tryz.prog.underlying 34 = some (.struct (Tryz.prog.fieldsOf 34)) := by kernel_rfl
theorem rec_held : Tryz.prog.stoodInHeld 34 = false := by kernel_rfl
theorem rec_guard : Tryz.prog.eqGuardType Tryz.prog.depth 34 = false := by kernel_rfl
set_option maxHeartbeats 2000000 in
theorem equalIn_rec (a b : Rc) (w : World) : (Op.equalIn 10000 34 (recV a) (recV b)).run Tryz.prog w = .ok (rcEq a b) w := by
  obtain ⟨k, s, q, t, o, d⟩ := a
  obtain ⟨k', s', q', t', o', d'⟩ := b
  rw [run_equalIn_agg w 9999 _ _ _ rec_fields rec_held]
  simp [Program.fieldsOf, Tryz.underlying34, Op.eqFields, part, go_sem, rcEq, Tryz.underlying2, Tryz.underlying9]
  repeat' split
  all_goals simp_all
theorem ok_own {r : Rc} (h : r.Ok) : rcEq r (own r) = true := by
  obtain ⟨k, s, q, t, o, d⟩ := r
  obtain ⟨h1, h2, h3, h4, h5, h6, h7, h8, h9, h10, h11, h12, h13, h14⟩ := h
  simp only at *
  have hd : d.size = 0 → d.toList = (⟨#[]⟩ : ByteArray).toList := by
    intro e
    rw [ByteArray.toList_eq, ByteArray.toList_eq]
    exact List.eq_nil_of_length_eq_zero e
  by_cases e1 : k = 1
  · subst e1; simp [own, rcEq, h12]
  by_cases e2 : k = 2
  · subst e2; simp [own, rcEq, h12, hd (h13 (by omega))]
  · have e3 : k = 3 ∨ k = 4 := by omega
    simp only [own, rcEq, e1, e2, e3, if_true, if_false]
    simp [h14 (by omega), hd (h13 (by omega))]
theorem own_ok {r : Rc} (h : rcEq r (own r) = true) (h3 : 0 ≤ r.s) (h4 : r.s ≤ 5) (h5 : 1 ≤ r.q) (h6 : r.q ≤ 1000000) (h7 : 0 ≤ r.t) (h8 : r.t ≤ 1000000) (h9 : 0 ≤ r.o) (h10 : r.o ≤ r.t) (h11 : r.d.size ≤ 16) : r.Ok := by
  obtain ⟨k, s, q, t, o, d⟩ := r
  simp only at *
  have hd : d.toList = [] → d.size = 0 := by
    intro e
    rw [ByteArray.toList_eq] at e
    have := congrArg List.length e
    exact this
  by_cases e1 : k = 1
  · subst e1
    simp [own, rcEq] at h
    exact ⟨by simp, by simp, h3, h4, h5, h6, h7, h8, h9, h10, h11, fun _ => h, fun hh => absurd hh (by simp), fun hh => absurd hh (by simp)⟩
  by_cases e2 : k = 2
  · subst e2
    simp [own, rcEq] at h
    exact ⟨by simp, by simp, h3, h4, h5, h6, h7, h8, h9, h10, h11, fun _ => h.1, fun _ => hd h.2, fun hh => absurd hh (by simp)⟩
  by_cases e3 : k = 3 ∨ k = 4
  · simp only [own, rcEq, e1, e2, e3, if_true, if_false] at h
    simp at h
    refine ⟨?_, ?_, h3, h4, h5, h6, h7, h8, h9, h10, h11, ?_, fun _ => hd h.2, fun _ => h.1⟩
    · show 1 ≤ k; omega
    · show k ≤ 4; omega
    · show k ≤ 2 → _; omega
  · simp only [own, rcEq, e1, e2, e3, if_false, Rc.zero] at h
    simp at h
    omega

set_option maxHeartbeats 4000000 in
theorem impl_recRight_any (r : Rc) (w : World) (hd : r.d.size ≤ maxLen) : Calls Tryz.prog 76 #[recV r] w fun e w' => e = .returned (.bool (decide r.Ok)) ∧ Below w.heap.size w w' := by
  obtain ⟨k, s, q, t, o, d⟩ := r
  unfold maxLen at hd
  simp only at hd
  go_enter Tryz.func76, Tryz.ntmps76
  go_wp2_with fail
  generalize hW : w.alloc _ = W
  have hbW : Below w.heap.size w W := by rw [← hW]; exact (Below.refl _ _).alloc (Nat.le_refl _) _
  have hkW : IsBlk W w.heap.size 34 (recC ⟨k, s, q, t, o, d⟩) := by rw [← hW]; exact isBlk_new w _ _
  have HBW := Lib.hid hbW; have HKW := Lib.hid hkW
  have hc0 : W.cell? ⟨w.heap.size, 0, none⟩ = some _ := hkW.cell rfl
  have hc1 : W.cell? ⟨w.heap.size, 1, none⟩ = some _ := hkW.cell rfl
  have hc2 : W.cell? ⟨w.heap.size, 2, none⟩ = some _ := hkW.cell rfl
  have hc3 : W.cell? ⟨w.heap.size, 3, none⟩ = some _ := hkW.cell rfl
  have hc4 : W.cell? ⟨w.heap.size, 4, none⟩ = some _ := hkW.cell rfl
  have hc5 : W.cell? ⟨w.heap.size, 5, none⟩ = some _ := hkW.cell rfl
  have hc0' := cell_regrown hc0; have hc1' := cell_regrown hc1; have hc2' := cell_regrown hc2; have hc3' := cell_regrown hc3; have hc4' := cell_regrown hc4; have hc5' := cell_regrown hc5
  clear hW hbW hkW
  generalize hO : own ⟨k, s, q, t, o, d⟩ = O
  obtain ⟨k', s', q', t', o', d'⟩ := O
  have hne := equalIn_rec ⟨k, s, q, t, o, d⟩ ⟨k', s', q', t', o', d'⟩
  have hgu := rec_guard
  refine wp_region_quiet_below (by kernel_rfl) (by kernel_rfl) ?_
  repeat (go_big_quiet_step ((go_at_call 150; exact Calls.regrown_of ((ownFields_any ⟨k, s, q, t, o, d⟩ _).mono (fun e w' h => by rw [hO] at h; exact h)))))
  refine wpQuiet_nil ?_
  intro w2 hw'
  have hb2 : Below W.heap.size W w2 := by obtain ⟨⟨dq, osq⟩, rfl⟩ := hw'; exact below_regrown W dq osq
  clear hw' hc0 hc1 hc2 hc3 hc4 hc5 hc0' hc1' hc2' hc3' hc4' hc5' hne hgu
  have HB2 := Lib.hid (HBW.out.trans (hb2.mono HBW.out.size))
  have hk2 := HKW.out.below hb2 HKW.out.lt
  have HK2 := Lib.hid hk2
  have hc0 : w2.cell? ⟨w.heap.size, 0, none⟩ = some _ := hk2.cell rfl
  have hc1 : w2.cell? ⟨w.heap.size, 1, none⟩ = some _ := hk2.cell rfl
  have hc2 : w2.cell? ⟨w.heap.size, 2, none⟩ = some _ := hk2.cell rfl
  have hc3 : w2.cell? ⟨w.heap.size, 3, none⟩ = some _ := hk2.cell rfl
  have hc4 : w2.cell? ⟨w.heap.size, 4, none⟩ = some _ := hk2.cell rfl
  have hc5 : w2.cell? ⟨w.heap.size, 5, none⟩ = some _ := hk2.cell rfl
  clear hb2 hk2
  have HOK := fun h => Lib.hid (ok_own (r := ⟨k, s, q, t, o, d⟩) h)
  have HKO := fun h => Lib.hid (own_ok (r := ⟨k, s, q, t, o, d⟩) h)
  rw [hO] at HOK HKO
  clear hO
  by_cases he : rcEq ⟨k, s, q, t, o, d⟩ ⟨k', s', q', t', o', d'⟩ = true
  · rw [he] at HKO ⊢
    have HKO := HKO rfl
    clear HOK he
    go_wp2_with fail
    refine (isSector_any _ _).mono ?_
    rintro e w3 ⟨rfl, rfl⟩
    by_cases h12 : 0 ≤ s ∧ s ≤ 5
    case neg =>
      rw [rcIs_no h12]
      have HF : Hid (decide (Rc.Ok ⟨k, s, q, t, o, d⟩) = false) := decide_eq_false (fun h => by have := h.2.2.1; have := h.2.2.2.1; simp only at *; omega)
      go_wp2
      go_ret
      exact ⟨by rw [HF.out]; first | rfl | (simp; omega), HB2.out⟩
    rw [rcIs_yes h12]
    obtain ⟨h1, h2⟩ := h12
    by_cases h3 : q < 1
    · have HF : Hid (decide (Rc.Ok ⟨k, s, q, t, o, d⟩) = false) := decide_eq_false (fun h => by have := h.2.2.2.2.1; simp only at this; omega)
      go_wp2
      go_ret
      exact ⟨by rw [HF.out]; first | rfl | (simp; omega), HB2.out⟩
    by_cases h4 : 1000000 < q
    · have h3 : 1 ≤ q := by omega
      have HF : Hid (decide (Rc.Ok ⟨k, s, q, t, o, d⟩) = false) := decide_eq_false (fun h => by have := h.2.2.2.2.2.1; simp only at this; omega)
      go_wp2
      go_ret
      exact ⟨by rw [HF.out]; first | rfl | (simp; omega), HB2.out⟩
    have h3 : 1 ≤ q := by omega
    have h4 : q ≤ 1000000 := by omega
    go_wp2_with fail
    refine (isTime_any _ _).mono ?_
    rintro e w3 ⟨rfl, rfl⟩
    by_cases h5 : 0 ≤ t ∧ t ≤ 1000000
    · rw [rcIs_yes h5]
      obtain ⟨h5, h6⟩ := h5
      by_cases h7 : o < 0
      · have HF : Hid (decide (Rc.Ok ⟨k, s, q, t, o, d⟩) = false) := decide_eq_false (fun h => by have := h.2.2.2.2.2.2.2.2.1; simp only at this; omega)
        go_wp2
        all_goals first | (exfalso; omega) | skip
        go_ret
        exact ⟨by rw [HF.out]; first | rfl | (simp; omega), HB2.out⟩
      have h7 : 0 ≤ o := by omega
      by_cases h8 : t < o
      · have HF : Hid (decide (Rc.Ok ⟨k, s, q, t, o, d⟩) = false) := decide_eq_false (fun h => by have := h.2.2.2.2.2.2.2.2.2.1; simp only at this; omega)
        go_wp2
        all_goals first | (exfalso; omega) | skip
        go_ret
        exact ⟨by rw [HF.out]; first | rfl | (simp; omega), HB2.out⟩
      have h8 : o ≤ t := by omega
      by_cases h9 : d.size ≤ 16
      · have HT : Hid (decide (Rc.Ok ⟨k, s, q, t, o, d⟩) = true) := decide_eq_true ((HKO trivial).out h1 (by show s ≤ 5; omega) h3 h4 h5 h6 h7 h8 h9)
        go_wp2
        all_goals first | (exfalso; omega) | skip
        go_ret
        exact ⟨by rw [HT.out]; first | rfl | (simp; omega), HB2.out⟩
      · have HF : Hid (decide (Rc.Ok ⟨k, s, q, t, o, d⟩) = false) := decide_eq_false (fun h => by have := h.2.2.2.2.2.2.2.2.2.2.1; simp only at this; omega)
        go_wp2
        all_goals first | (exfalso; omega) | skip
        go_ret
        exact ⟨by rw [HF.out]; first | rfl | (simp; omega), HB2.out⟩
    · rw [rcIs_no h5]
      have HF : Hid (decide (Rc.Ok ⟨k, s, q, t, o, d⟩) = false) := decide_eq_false (fun h => by have := h.2.2.2.2.2.2.1; have := h.2.2.2.2.2.2.2.1; simp only at *; omega)
      go_wp2
      go_ret
      exact ⟨by rw [HF.out]; first | rfl | (simp; omega), HB2.out⟩
  · have he : rcEq ⟨k, s, q, t, o, d⟩ ⟨k', s', q', t', o', d'⟩ = false := by simpa using he
    rw [he]
    have HF : Hid (decide (Rc.Ok ⟨k, s, q, t, o, d⟩) = false) := decide_eq_false (fun h => by have := (HOK h).out; rw [he] at this; cases this)
    go_wp2
    go_ret
    exact ⟨by rw [HF.out]; first | rfl | (simp; omega), HB2.out⟩
set_option maxHeartbeats 4000000 in
theorem spec_recRight_any (r : Rc) (w : World) (hd : r.d.size ≤ maxLen) : Calls Tryz.prog 84 #[recV r] w fun e w' => e = .returned (.bool (decide r.Ok)) ∧ Below w.heap.size w w' := by
  obtain ⟨k, s, q, t, o, d⟩ := r
  unfold maxLen at hd
  simp only at hd
  have HB2 : Hid (∀ x, Below w.heap.size w (w.alloc x)) := fun _ => (Below.refl _ _).alloc (Nat.le_refl _) _
  go_enter Tryz.func84, Tryz.ntmps84
  go_wp2_with fail
  refine (rcIs_any _ _ _ _).mono ?_
  rintro e w3 ⟨rfl, rfl⟩
  by_cases h1 : 1 ≤ k ∧ k ≤ 4
  case neg =>
    rw [rcIs_no h1]
    have HF : Hid (decide (Rc.Ok ⟨k, s, q, t, o, d⟩) = false) := decide_eq_false (fun h => by have := h.1; have := h.2.1; simp only at *; omega)
    go_wp2
    go_ret
    exact ⟨by rw [HF.out]; first | rfl | (simp; omega), HB2.out _⟩
  rw [rcIs_yes h1]
  go_wp2_with fail
  refine (rcIs_any _ _ _ _).mono ?_
  rintro e w3 ⟨rfl, rfl⟩
  by_cases h2 : 0 ≤ s ∧ s ≤ 5
  case neg =>
    rw [rcIs_no h2]
    have HF : Hid (decide (Rc.Ok ⟨k, s, q, t, o, d⟩) = false) := decide_eq_false (fun h => by have := h.2.2.1; have := h.2.2.2.1; simp only at *; omega)
    go_wp2
    go_ret
    exact ⟨by rw [HF.out]; first | rfl | (simp; omega), HB2.out _⟩
  rw [rcIs_yes h2]
  go_wp2_with fail
  refine (rcIs_any _ _ _ _).mono ?_
  rintro e w3 ⟨rfl, rfl⟩
  by_cases h3 : 1 ≤ q ∧ q ≤ 1000000
  case neg =>
    rw [rcIs_no h3]
    have HF : Hid (decide (Rc.Ok ⟨k, s, q, t, o, d⟩) = false) := decide_eq_false (fun h => by have := h.2.2.2.2.1; have := h.2.2.2.2.2.1; simp only at *; omega)
    go_wp2
    go_ret
    exact ⟨by rw [HF.out]; first | rfl | (simp; omega), HB2.out _⟩
  rw [rcIs_yes h3]
  go_wp2_with fail
  refine (rcTime_any _ _).mono ?_
  rintro e w3 ⟨rfl, rfl⟩
  by_cases h4 : 0 ≤ t ∧ t ≤ 1000000
  case neg =>
    rw [rcIs_no h4]
    have HF : Hid (decide (Rc.Ok ⟨k, s, q, t, o, d⟩) = false) := decide_eq_false (fun h => by have := h.2.2.2.2.2.2.1; have := h.2.2.2.2.2.2.2.1; simp only at *; omega)
    go_wp2
    go_ret
    exact ⟨by rw [HF.out]; first | rfl | (simp; omega), HB2.out _⟩
  rw [rcIs_yes h4]
  go_wp2_with fail
  refine (rcIs_any _ _ _ _).mono ?_
  rintro e w3 ⟨rfl, rfl⟩
  by_cases h5 : 0 ≤ o ∧ o ≤ t
  case neg =>
    rw [rcIs_no h5]
    have HF : Hid (decide (Rc.Ok ⟨k, s, q, t, o, d⟩) = false) := decide_eq_false (fun h => by have := h.2.2.2.2.2.2.2.2.1; have := h.2.2.2.2.2.2.2.2.2.1; simp only at *; omega)
    go_wp2
    go_ret
    exact ⟨by rw [HF.out]; first | rfl | (simp; omega), HB2.out _⟩
  rw [rcIs_yes h5]
  by_cases h6 : 16 < d.size
  · have HF : Hid (decide (Rc.Ok ⟨k, s, q, t, o, d⟩) = false) := decide_eq_false (fun h => by have := h.2.2.2.2.2.2.2.2.2.2.1; simp only at *; omega)
    go_wp2
    go_ret
    exact ⟨by rw [HF.out]; first | rfl | (simp; omega), HB2.out _⟩
  have h6' : d.size ≤ 16 := by omega
  have HOk : Hid (((k ≤ 2 → o = 0) ∧ (2 ≤ k → d.size = 0) ∧ (3 ≤ k → s = 0)) ↔ Rc.Ok ⟨k, s, q, t, o, d⟩) := by
    show _ ↔ _
    unfold Rc.Ok
    simp only [h1, h2, h3, h4, h5, h6', true_and]
  obtain ⟨h1, h1'⟩ := h1
  have HE : Hid (d.toList.isEmpty = decide (d.size = 0)) := by
    show _ = _
    rw [ByteArray.toList_eq, show d.size = d.data.toList.length from rfl]
    cases d.data.toList <;> simp
  by_cases e1 : k = 1
  · subst e1
    have HD : Hid (decide (Rc.Ok ⟨1, s, q, t, o, d⟩) = (o == 0)) := by
      show _ = _
      by_cases e : o = 0
      · rw [decide_eq_true (HOk.out.1 ⟨fun _ => e, fun h => absurd h (by omega), fun h => absurd h (by omega)⟩)]; simp [e]
      · rw [decide_eq_false (fun h => e ((HOk.out.2 h).1 (by omega)))]; simp [e]
    go_wp2
    go_ret
    exact ⟨by rw [HD.out]; rfl, HB2.out _⟩
  by_cases e2 : k = 2
  · subst e2
    by_cases e3 : o = 0
    · subst e3
      have HD : Hid (decide (Rc.Ok ⟨2, s, q, t, 0, d⟩) = d.toList.isEmpty) := by
        show _ = _
        rw [HE.out]
        by_cases e : d.size = 0
        · rw [decide_eq_true (HOk.out.1 ⟨fun _ => rfl, fun _ => e, fun h => absurd h (by omega)⟩)]; simp [e]
        · rw [decide_eq_false (fun h => e ((HOk.out.2 h).2.1 (by omega)))]; simp [e]
      go_wp2
      go_ret
      exact ⟨by rw [HD.out]; rfl, HB2.out _⟩
    · have HD : Hid (decide (Rc.Ok ⟨2, s, q, t, o, d⟩) = false) := by
        show _ = _
        exact decide_eq_false (fun h => e3 ((HOk.out.2 h).1 (by omega)))
      have e3' : (o == 0) = false := by simpa using e3
      go_wp2
      go_ret
      exact ⟨by rw [HD.out]; rfl, HB2.out _⟩
  have e1' : (k == 1) = false := by simpa using e1
  have e2' : (k == 2) = false := by simpa using e2
  have hk : 3 ≤ k := by omega
  by_cases e3 : s = 0
  · subst e3
    have HD : Hid (decide (Rc.Ok ⟨k, 0, q, t, o, d⟩) = d.toList.isEmpty) := by
      show _ = _
      rw [HE.out]
      by_cases e : d.size = 0
      · rw [decide_eq_true (HOk.out.1 ⟨fun h => absurd h (by omega), fun _ => e, fun _ => rfl⟩)]; simp [e]
      · rw [decide_eq_false (fun h => e ((HOk.out.2 h).2.1 (by omega)))]; simp [e]
    go_wp2
    go_ret
    exact ⟨by rw [HD.out]; rfl, HB2.out _⟩
  · have HD : Hid (decide (Rc.Ok ⟨k, s, q, t, o, d⟩) = false) := by
      show _ = _
      exact decide_eq_false (fun h => e3 ((HOk.out.2 h).2.2 (by omega)))
    have e3' : (s == 0) = false := by simpa using e3
    go_wp2
    go_ret
    exact ⟨by rw [HD.out]; rfl, HB2.out _⟩
end Go.Proofs.YtloaeglmngcenaaGreatDoor
