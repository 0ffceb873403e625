/-
  Lists of numbers in memory, and the laws' own steps over them: comparing, marking, looking at the marks.
-/
import Derived.Test.YtkiklcdkliebaaaGreatDoorChecked
import Derived.Test.YtkiklcdkliebaaaGreatDoorHsMem
import Derived.Test.YtkiklcdkliebaaaGreatDoorHsApp
import Derived.BigQuiet
import Derived.Lib.QuietBelow
namespace Go.Proofs.YtkiklcdkliebaaaGreatDoor
open Go.RowKit

abbrev numV (z : Int) : Value := .int .i64 z
def nmF (L : List Int) (c : Nat) : Value := .int .i64 (L.getD c 0)
def RdNs (w : World) (B : Nat) (A : Option Addr) (n : Nat) (L : List Int) : Prop :=
  L.length = n ∧ (0 < n → ∃ g, A = some ⟨g, 0, none⟩ ∧ g < B ∧ Row w g n (nmF L))
def OwNs (w : World) (lo hi : Nat) (A : Option Addr) (n : Nat) (L : List Int) : Prop :=
  L.length = n ∧ (0 < n → ∃ g, A = some ⟨g, 0, none⟩ ∧ lo ≤ g ∧ g < hi ∧ Row w g n (nmF L))
section
variable {w w' : World} {lo hi lo' hi' B B' n : Nat} {A : Option Addr} {L : List Int}
theorem RdNs.below (h : RdNs w B A n L) (hb : Below B w w') : RdNs w' B A n L :=
  ⟨h.1, fun hn => by obtain ⟨g, hA, hg, hr⟩ := h.2 hn; exact ⟨g, hA, hg, hr.below hb hg⟩⟩
theorem OwNs.same (h : OwNs w lo hi A n L) (hb : ∀ k, lo ≤ k → k < hi → w'.heap[k]? = w.heap[k]?) : OwNs w' lo hi A n L :=
  ⟨h.1, fun hn => by obtain ⟨g, hA, h1, h2, hr⟩ := h.2 hn; exact ⟨g, hA, h1, h2, hr.same (hb g h1 h2)⟩⟩
theorem OwNs.below (h : OwNs w lo hi A n L) (hb : Below B w w') (hB : hi ≤ B) : OwNs w' lo hi A n L := h.same fun k _ hk => hb.block k (by omega)
theorem OwNs.btw (h : OwNs w lo hi A n L) (hb : Btw lo' hi' w w') (hs : hi ≤ w.heap.size) (hd : hi ≤ lo' ∨ hi' ≤ lo) : OwNs w' lo hi A n L :=
  h.same fun k _ hk => hb.block k (by omega) (by omega)
theorem OwNs.mono (h : OwNs w lo hi A n L) (hl : lo' ≤ lo) (hh : hi ≤ hi') : OwNs w lo' hi' A n L :=
  ⟨h.1, fun hn => by obtain ⟨g, hA, h1, h2, hr⟩ := h.2 hn; exact ⟨g, hA, by omega, by omega, hr⟩⟩
theorem OwNs.rd (h : OwNs w lo hi A n L) (hB : hi ≤ B) : RdNs w B A n L :=
  ⟨h.1, fun hn => by obtain ⟨g, hA, h1, h2, hr⟩ := h.2 hn; exact ⟨g, hA, by omega, hr⟩⟩
end
theorem owNs_nil (w : World) (lo hi : Nat) (A : Option Addr) : OwNs w lo hi A 0 [] := ⟨rfl, fun h => absurd h (by omega)⟩
theorem nums_at (L : List Int) : ∀ i, i < L.length * 1 → (L.map numV)[i]? = some (nmF L i) := by
  intro i hi
  rw [Nat.mul_one] at hi
  simp [nmF, List.getD_eq_getElem?_getD, List.getElem?_eq_getElem hi]
theorem owNs_of_own {w : World} {lo cap : Nat} {e : TypeId} {A : Option Addr} {L : List Int} (h : w.ownsRow lo e 1 (.slice A L.length cap) L.length (L.map numV)) : OwNs w lo w.heap.size A L.length L := by
  refine ⟨rfl, fun hn => ?_⟩
  obtain ⟨g, cap', hv, hb, hlt⟩ := h.form hn
  simp only [Value.slice.injEq] at hv
  obtain ⟨rfl, -, rfl⟩ := hv
  have hr := row_of_ownR h (nums_at L)
  rw [Nat.mul_one] at hr
  exact ⟨g, rfl, hb, hlt, hr⟩
theorem own_slice {w : World} {lo n : Nat} {e : TypeId} {v : Value} {xs : List Value} {size : Nat} (h : w.ownsRow lo e size v n xs) : ∃ A cap, v = .slice A n cap := by
  rcases h.2 with ⟨rfl, rfl⟩ | ⟨g, cap, cur, rfl, -⟩
  · exact ⟨none, 0, rfl⟩
  · exact ⟨_, cap, rfl⟩
/-- an answer with a list of numbers, in memory of its own -/
def RetNs (w : World) (L : List Int) (e : Ending) (w' : World) : Prop :=
  ∃ (A : Option Addr) (ca : Nat), e = .returned (.slice A L.length ca) ∧ OwNs w' w.heap.size w'.heap.size A L.length L ∧ Below w.heap.size w w'

set_option maxHeartbeats 1000000 in
theorem eqInt64S_same (A B : Option Addr) (n ca cb : Nat) (L : List Int) (w : World) (hn : n ≤ 2147483648) (hA : RdNs w w.heap.size A n L) (hB : RdNs w w.heap.size B n L) :
    Calls Tryz.prog 19 #[.slice A n ca, .slice B n cb] w fun e w' => e = .returned (.bool true) ∧ Below w.heap.size w w' := by
  have HA := Lib.hid hA; have HB := Lib.hid hB; clear hA hB
  go_enter Tryz.func19, Tryz.ntmps19
  go_wp2
  go_loopw [5] (fun i wr => ∃ k : Nat, k ≤ n ∧ i = .int .i64 (k : Nat) ∧ Below w.heap.size w wr) (fun i _ => n - (intOf i).toNat)
  case atStart => exact ⟨0, by omega, rfl, Below.refl _ _⟩
  case round =>
    obtain ⟨k, hk, rfl, hbel⟩ := hrel
    have HW := Lib.hid hbel
    by_cases hlt : k < n
    · obtain ⟨g, rfl, hg, hr⟩ := (HA.out.below hbel).2 (by omega)
      obtain ⟨g', rfl, hg', hr'⟩ := (HB.out.below hbel).2 (by omega)
      have hc := hr.cell hlt
      have hd := hr'.cell hlt
      simp only [nmF] at hc hd
      generalize L.getD k 0 = z at *
      clear hbel hr hr'
      have hki : (k : Int) < (n : Int) := by omega
      have hk0 : (0 : Int) ≤ (k : Int) := by omega
      go_wp2
      refine wp_region_quiet_below (by kernel_rfl) (by kernel_rfl) ?_
      have hc' := cell_regrown hc; have hd' := cell_regrown hd
      repeat (go_big_quiet_step (fail))
      refine wpQuiet_nil ?_
      intro w2 hw'
      have hb2 : Below wr.heap.size wr w2 := by obtain ⟨⟨dq, osq⟩, rfl⟩ := hw'; exact below_regrown wr dq osq
      clear hw'
      have HB2 := Lib.hid (HW.out.trans (hb2.mono HW.out.size))
      clear hb2
      go_wp2
      go_roundw
      case rel => exact ⟨k + 1, by omega, by go_num, HB2.out⟩
      case measure => simp [intOf]; omega
    · clear hbel
      go_wp2
      go_ret
      exact ⟨rfl, HW.out⟩

/-! numbers marked from k on -/
def mkN (k c : Nat) : Value := .int .i64 ((k + c : Nat) : Int)
theorem upto_set1 {α : Type} {k c : Nat} {f z : Nat → α} {u : α} (h : f k = u) : (if c = k then u else upto k 1 f z c) = upto (k + 1) 1 f z c := by
  subst h
  by_cases e : c = k
  · rw [if_pos e, upto_lt (by omega), e]
  · rw [if_neg e]
    by_cases hc : c < k
    · rw [upto_lt (by omega), upto_lt (by omega)]
    · rw [upto_ge (by omega), upto_ge (by omega)]
set_option maxHeartbeats 1000000 in
theorem markInt64S_row (g n ca k : Nat) (f : Nat → Value) (w : World) (hn : n ≤ 1048576) (hk : k ≤ 16777216) (hA : Row w g n f) :
    Calls Tryz.prog 20 #[.slice (some ⟨g, 0, none⟩) n ca, .int .i64 (k : Int)] w fun e w' => e = .returned (.int .i64 ((k + n : Nat) : Int)) ∧ Row w' g n (mkN k) ∧ Btw g (g + 1) w w' := by
  have HA := Lib.hid hA; have hg := hA.lt; clear hA
  go_enter Tryz.func20, Tryz.ntmps20
  go_wp2
  go_loopw [1, 5] (fun l i wr => ∃ j : Nat, j ≤ n ∧ i = .int .i64 (j : Nat) ∧ l = .int .i64 ((k + j : Nat) : Int) ∧ Row wr g n (upto j 1 (mkN k) f) ∧ Btw g (g + 1) w wr) (fun _ i _ => n - (intOf i).toNat)
  case atStart => exact ⟨0, by omega, rfl, by simp, HA.out.congr (fun i _ => (upto_zero i).symm), Btw.refl _ _ _⟩
  case round =>
    obtain ⟨j, hj, rfl, rfl, hr, hbel⟩ := hrel
    have HR := Lib.hid hr; have HW := Lib.hid hbel
    have hgr : g < wr.heap.size := hr.lt
    by_cases hlt : j < n
    · have hc0 := hr.cell (i := j) (by omega)
      have hf0 := hr.free j
      clear hr hbel
      go_wp2
      go_roundw
      case rel => exact ⟨j + 1, by omega, by go_num, by go_num, (HR.out.set _ _).congr (fun i _ => upto_set1 (by unfold mkN; congr 1)), HW.out.setCell (.inl ⟨by simp, by simp⟩) _⟩
      case measure => simp [intOf]; omega
    · clear hr hbel
      obtain rfl : j = n := by omega
      go_wp2
      go_ret
      exact ⟨rfl, HR.out.congr (fun i hi => upto_lt (by omega)), HW.out⟩
set_option maxHeartbeats 1000000 in
theorem heldInt64S_row (g n ca k : Nat) (w : World) (hn : n ≤ 1048576) (hk : k ≤ 16777216) (hA : Row w g n (mkN k)) :
    Calls Tryz.prog 21 #[.slice (some ⟨g, 0, none⟩) n ca, .int .i64 (k : Int)] w fun e w' => e = .returned (.int .i64 ((k + n : Nat) : Int)) ∧ Below w.heap.size w w' := by
  have HA := Lib.hid hA; have hg := hA.lt; clear hA
  go_enter Tryz.func21, Tryz.ntmps21
  go_wp2
  go_loopw [1, 5] (fun l i wr => ∃ j : Nat, j ≤ n ∧ i = .int .i64 (j : Nat) ∧ l = .int .i64 ((k + j : Nat) : Int) ∧ Below w.heap.size w wr) (fun _ i _ => n - (intOf i).toNat)
  case atStart => exact ⟨0, by omega, rfl, by simp, Below.refl _ _⟩
  case round =>
    obtain ⟨j, hj, rfl, rfl, hbel⟩ := hrel
    have HW := Lib.hid hbel
    by_cases hlt : j < n
    · have hr := HA.out.below hbel hg
      have hc0 := hr.cell (i := j) (by omega)
      rw [show mkN k j = .int .i64 ((k + j : Nat) : Int) from rfl] at hc0
      clear hr hbel
      obtain ⟨m, hm⟩ : ∃ m, m = k + j := ⟨_, rfl⟩
      have HM := Lib.hid hm
      rw [← hm] at hc0 ⊢
      have hm2 : m ≤ 67108864 := by omega
      clear hm
      go_wp2
      go_roundw
      case rel => exact ⟨j + 1, by omega, by go_num, by have := HM.out; go_num, HW.out⟩
      case measure => simp [intOf]; omega
    · clear hbel
      obtain rfl : j = n := by omega
      go_wp2
      go_ret
      exact ⟨rfl, HW.out⟩
def MkNs (w : World) (lo hi : Nat) (A : Option Addr) (n k : Nat) : Prop := 0 < n → ∃ g, A = some ⟨g, 0, none⟩ ∧ lo ≤ g ∧ g < hi ∧ Row w g n (mkN k)
theorem MkNs.same {w w' : World} {lo hi n k : Nat} {A : Option Addr} (h : MkNs w lo hi A n k) (hb : ∀ j, lo ≤ j → j < hi → w'.heap[j]? = w.heap[j]?) : MkNs w' lo hi A n k :=
  fun hn => by obtain ⟨g, hA, h1, h2, hr⟩ := h hn; exact ⟨g, hA, h1, h2, hr.same (hb g h1 h2)⟩
theorem MkNs.below {w w' : World} {lo hi n k B : Nat} {A : Option Addr} (h : MkNs w lo hi A n k) (hb : Below B w w') (hB : hi ≤ B) : MkNs w' lo hi A n k :=
  h.same fun j _ hj => hb.block j (by omega)
set_option maxHeartbeats 1000000 in
theorem markInt64S_any (A : Option Addr) (lo hi n ca k : Nat) (L : List Int) (w : World) (hn : n ≤ 1048576) (hk : k ≤ 16777216) (hA : OwNs w lo hi A n L) :
    Calls Tryz.prog 20 #[.slice A n ca, .int .i64 (k : Int)] w fun e w' => e = .returned (.int .i64 ((k + n : Nat) : Int)) ∧ MkNs w' lo hi A n k ∧ Btw lo hi w w' := by
  by_cases h0 : n = 0
  · subst h0
    clear hA
    go_enter Tryz.func20, Tryz.ntmps20
    go_wp2
    refine wp_loop_rounds 1 ?_
    rw [rounds_succ]
    go_wp2
    go_ret
    exact ⟨ret_i (by omega), fun h => absurd h (by omega), Btw.refl _ _ _⟩
  · obtain ⟨g, rfl, h1, h2, hr⟩ := hA.2 (by omega)
    refine (markInt64S_row g n ca k _ w hn hk hr).mono ?_
    rintro e w' ⟨rfl, hr', hb⟩
    exact ⟨rfl, fun _ => ⟨g, rfl, h1, h2, hr'⟩, hb.mono (by omega) (by omega)⟩
set_option maxHeartbeats 1000000 in
theorem heldInt64S_any (A : Option Addr) (lo hi n ca k : Nat) (w : World) (hn : n ≤ 1048576) (hk : k ≤ 16777216) (hA : MkNs w lo hi A n k) :
    Calls Tryz.prog 21 #[.slice A n ca, .int .i64 (k : Int)] w fun e w' => e = .returned (.int .i64 ((k + n : Nat) : Int)) ∧ Below w.heap.size w w' := by
  by_cases h0 : n = 0
  · subst h0
    clear hA
    go_enter Tryz.func21, Tryz.ntmps21
    go_wp2
    refine wp_loop_rounds 1 ?_
    rw [rounds_succ]
    go_wp2
    go_ret
    exact ⟨ret_i (by omega), Below.refl _ _⟩
  · obtain ⟨g, rfl, h1, h2, hr⟩ := hA (by omega)
    exact heldInt64S_row g n ca k w hn hk hr
end Go.Proofs.YtkiklcdkliebaaaGreatDoor
