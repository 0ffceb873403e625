/-
  A sorted list of numbers: the search in it, and what is added at its end.
-/
import Derived.Test.YtloaeglmngcenaaGreatDoorProg
import Derived.KernelRfl
import Derived.Test.YtloaeglmngcenaaGreatDoorHsNum
import Derived.Test.YtloaeglmngcenaaGreatDoorHsTrailI
namespace Go.Proofs.YtloaeglmngcenaaGreatDoor
open Go.RowKit

/-- place i parts what is less than x from what is not -/
structure Cut (L : List Int) (x : Int) (i : Nat) : Prop where
  le : i ≤ L.length
  lo : ∀ k, k < i → L.getD k 0 < x
  hi : ∀ k, i ≤ k → k < L.length → x ≤ L.getD k 0
/-- increasing -/
def Srt (L : List Int) : Prop := ∀ a b, a < b → b < L.length → L.getD a 0 < L.getD b 0
def RetCut (L : List Int) (x : Int) (w : World) (e : Ending) (w' : World) : Prop :=
  ∃ i, Cut L x i ∧ e = .returned (.tuple #[.int .i64 (i : Int), .bool (decide (i < L.length ∧ L.getD i 0 = x))]) ∧ w = w'

set_option maxHeartbeats 1000000 in
theorem cmpNaN_any (z : Int) (w : World) : Calls Tryz.prog 258 #[.int .i64 z] w fun e w' => e = .returned (.bool false) ∧ w = w' := by
  go_enter Tryz.func258, Tryz.ntmps258
  go_wp2
  go_ret
  exact ⟨by first | rfl | simp, rfl⟩
set_option maxHeartbeats 1000000 in
theorem slNaN_any (z : Int) (w : World) : Calls Tryz.prog 299 #[.int .i64 z] w fun e w' => e = .returned (.bool false) ∧ w = w' := by
  go_enter Tryz.func299, Tryz.ntmps299
  go_wp2
  go_ret
  exact ⟨by first | rfl | simp, rfl⟩
set_option maxHeartbeats 1000000 in
theorem less_any (a b : Int) (w : World) : Calls Tryz.prog 298 #[.int .i64 a, .int .i64 b] w fun e w' => e = .returned (.bool (decide (a < b))) ∧ w = w' := by
  go_enter Tryz.func298, Tryz.ntmps298
  go_wp2_with fail
  refine (cmpNaN_any a w).mono ?_
  rintro e w1 ⟨rfl, rfl⟩
  go_wp2
  go_ret
  exact ⟨rfl, rfl⟩

set_option maxHeartbeats 4000000 in
set_option maxRecDepth 100000 in
theorem search_any (A : Option Addr) (n ca : Nat) (L : List Int) (x : Int) (w : World) (hn : n ≤ 1048576) (hS : Srt L) (hA : RdNs w w.heap.size A n L) :
    Calls Tryz.prog 272 #[.slice A n ca, .int .i64 x] w (RetCut L x w) := by
  have HL := Lib.hid hA.1
  have HA := Lib.hid hA; have HS := Lib.hid hS; clear hA hS
  go_enter Tryz.func272, Tryz.ntmps272
  go_wp2
  go_loop [7, 8] (fun iv jv => ∃ (i j : Nat), iv = .int .i64 (i : Nat) ∧ jv = .int .i64 (j : Nat) ∧ i ≤ j ∧ j ≤ n ∧ (∀ k, k < i → L.getD k 0 < x) ∧ (∀ k, j ≤ k → k < n → x ≤ L.getD k 0)) (fun iv jv => (intOf jv - intOf iv).toNat)
  case atStart => exact ⟨0, n, rfl, rfl, by omega, by omega, fun k h => absurd h (by omega), fun k h1 h2 => absurd h2 (by omega)⟩
  case round =>
    obtain ⟨i, j, rfl, rfl, hij, hjn, h1, h2⟩ := hrel
    have H1 := Lib.hid h1; have H2 := Lib.hid h2
    clear h1 h2
    by_cases hlt : i < j
    · obtain ⟨g, rfl, hg, hr⟩ := HA.out.2 (by omega)
      have hc := hr.cell (i := (i + j) / 2) (by omega)
      simp only [nmF] at hc
      have HM : Hid (∀ k, k < n → (k ≤ (i + j) / 2 → L.getD k 0 ≤ L.getD ((i + j) / 2) 0) ∧ ((i + j) / 2 ≤ k → L.getD ((i + j) / 2) 0 ≤ L.getD k 0)) := fun k hk => by
        constructor
        · intro h
          rcases Nat.lt_or_eq_of_le h with h | h
          · exact Int.le_of_lt (HS.out _ _ h (by rw [HL.out]; omega))
          · rw [h]; exact Int.le_refl _
        · intro h
          rcases Nat.lt_or_eq_of_le h with h | h
          · exact Int.le_of_lt (HS.out _ _ h (by rw [HL.out]; omega))
          · rw [h]; exact Int.le_refl _
      generalize hy : L.getD ((i + j) / 2) 0 = y at hc HM
      have HY := Lib.hid hy
      clear hy hr
      by_cases hyx : y < x
      · go_wp2_with (go_at_call 298; refine (less_any _ _ _).mono ?_; rintro e w' ⟨rfl, rfl⟩)
        go_round
        case rel =>
          refine ⟨(i + j) / 2 + 1, j, by rw [show ((i : Int) + (j : Int)) / 2 + 1 = (((i + j) / 2 + 1 : Nat) : Int) by omega], rfl, by omega, hjn, fun k hk => ?_, H2.out⟩
          have := (HM.out k (by omega)).1 (by omega)
          omega
        case measure => simp [intOf]; omega
      · have hxy : x ≤ y := by omega
        go_wp2_with (go_at_call 298; refine (less_any _ _ _).mono ?_; rintro e w' ⟨rfl, rfl⟩)
        go_round
        case rel =>
          refine ⟨i, (i + j) / 2, rfl, by rw [show ((i : Int) + (j : Int)) / 2 = (((i + j) / 2 : Nat) : Int) by omega], by omega, by omega, H1.out, fun k hk1 hk2 => ?_⟩
          have := (HM.out k (by omega)).2 (by omega)
          omega
        case measure => simp [intOf]; omega
    · obtain rfl : i = j := by omega
      have HC : Hid (Cut L x i) := ⟨by rw [HL.out]; exact hjn, H1.out, fun k h1 h2 => H2.out k h1 (by rw [← HL.out]; exact h2)⟩
      by_cases hin : i < n
      · obtain ⟨g, rfl, hg, hr⟩ := HA.out.2 (by omega)
        have hc := hr.cell (i := i) hin
        simp only [nmF] at hc
        have HD : Hid (∀ v : Bool, decide (L.getD i 0 = x) = v → decide (i < L.length ∧ L.getD i 0 = x) = v) := fun v h => by rw [← h, HL.out]; simp [hin]
        obtain ⟨y, hy⟩ : ∃ y, y = L.getD i 0 := ⟨_, rfl⟩
        rw [← hy] at hc
        have HY := Lib.hid hy
        clear hr hy
        by_cases hyx : y = x
        · have e1 : (y == x) = true := by simpa using hyx
          have HD' := Lib.hid (HD.out true (decide_eq_true (HY.out ▸ hyx)))
          clear hyx HD
          go_wp2
          go_ret2
          exact ⟨i, HC.out, by rw [HD'.out]; rfl, rfl⟩
        · have e1 : (y == x) = false := by simpa using hyx
          have HD' := Lib.hid (HD.out false (decide_eq_false (HY.out ▸ hyx)))
          clear hyx HD
          go_wp2_with (go_at_call 299; refine (slNaN_any _ _).mono ?_; rintro e w' ⟨rfl, rfl⟩)
          go_ret2
          exact ⟨i, HC.out, by rw [HD'.out]; rfl, rfl⟩
      · have hni : n ≤ i := by omega
        have HD' : Hid (decide (i < L.length ∧ L.getD i 0 = x) = false) := decide_eq_false (by rw [HL.out]; omega)
        go_wp2
        go_ret2
        exact ⟨i, HC.out, by rw [HD'.out]; rfl, rfl⟩
end Go.Proofs.YtloaeglmngcenaaGreatDoor
