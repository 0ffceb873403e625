/-
  What a step adds to the result, of the program; the parts of all operations.
-/
import Derived.Test.YtpgemeojhbeooaaDoorProg
import Derived.KernelRfl
import Derived.Test.YtpgemeojhbeooaaDoorDlStepsB
import Derived.OwnWalk
namespace Go.Proofs.YtpgemeojhbeooaaDoor
open Go.RowKit
open Bt (Dop dok inB)

theorem sw_cp (v : Value) (w : World) : (Instr.typeAssert (.iface 84 v) 52 84 true).run Tryd.prog w = .ok (.tuple #[v, .bool true]) w := by kernel_rfl
theorem sw_ins_cp (v : Value) (w : World) : (Instr.typeAssert (.iface 104 v) 52 84 true).run Tryd.prog w = .ok (.tuple #[.agg #[.int .i64 0, .int .i64 0], .bool false]) w := by kernel_rfl
theorem sw_ins (v : Value) (w : World) : (Instr.typeAssert (.iface 104 v) 52 104 true).run Tryd.prog w = .ok (.tuple #[v, .bool true]) w := by kernel_rfl

/-- what a step adds, and whether it is in the base -/
def partS (base : ByteArray) (o : Dop) : ByteArray := if inB base.size o = true then o.part base else ⟨#[]⟩

set_option maxHeartbeats 2000000 in
theorem partOf_any (base : ByteArray) (o : Dop) (w : World) (hb : base.size ≤ 200) (hd : dok o = true) :
    Calls Tryd.prog 62 #[.string base, stepV o] w fun e w' => e = .returned (.tuple #[.string (partS base o), .bool (inB base.size o)]) ∧ Below w.heap.size w w' := by
  rcases Bt.ok_cases hd with ⟨h0, h1, h2, h3⟩ | ⟨h1, h2, h3, h4⟩
  · have hi : inB base.size o = true := decide_eq_true (.inl h0)
    have hp : partS base o = o.x := by unfold partS; rw [if_pos hi]; unfold Dop.part; rw [if_pos h0]
    rw [hi, hp, stepV_ins h0]
    have hs1 := sw_ins_cp (.agg #[.string o.x])
    have hs2 := sw_ins (.agg #[.string o.x])
    clear hi hp h0 h1 h2 h3 hd
    generalize o.x = x at *
    go_enter Tryd.func62, Tryd.ntmps62
    go_wp2
    go_ret2
    exact ⟨rfl, (Below.refl _ _).alloc (Nat.le_refl _) _⟩
  · have h0 : o.c ≠ 0 := by omega
    rw [stepV_cp h0]
    have hs1 := sw_cp (.agg #[.int .i64 o.f, .int .i64 o.c])
    by_cases hle : o.f ≤ (base.size : Int) - o.c
    · have hi : inB base.size o = true := decide_eq_true (.inr hle)
      have hp : partS base o = base.extract o.f.toNat (o.f + o.c).toNat := by unfold partS; rw [if_pos hi]; unfold Dop.part; rw [if_neg h0]
      rw [hi, hp]
      clear hi hp h0 h4 hd
      generalize o.f = f at *
      generalize o.c = c at *
      have h5 : f + c ≤ (base.size : Int) := by omega
      have h6 : f ≤ f + c := by omega
      go_enter Tryd.func62, Tryd.ntmps62
      go_wp2
      go_ret2
      exact ⟨rfl, (Below.refl _ _).alloc (Nat.le_refl _) _⟩
    · have hi : inB base.size o = false := decide_eq_false (by omega)
      have hp : partS base o = ⟨#[]⟩ := by unfold partS; rw [hi]; rfl
      rw [hi, hp]
      have hle' : (base.size : Int) - o.c < o.f := by omega
      clear hi hp h0 h4 hd
      generalize o.f = f at *
      generalize o.c = c at *
      go_enter Tryd.func62, Tryd.ntmps62
      go_wp2
      go_ret2
      exact ⟨rfl, (Below.refl _ _).alloc (Nat.le_refl _) _⟩

/-- a slice that owns a row of one-cell values: what it is, and what its cells read as -/
theorem own_slice {α : Type} {w : World} {lo n : Nat} {e : TypeId} {v : Value} {f : α → Value} {l : List α} (z : α) (h : w.ownsRow lo e 1 v n (l.map f)) :
    ∃ A cap, v = .slice A n cap ∧ ∀ k, k < n → ∃ g, A = some ⟨g, 0, none⟩ ∧ lo ≤ g ∧ g < w.heap.size ∧ w.cell? ⟨g, k, none⟩ = some (f (l.getD k z)) := by
  have hl : l.length = n := by have := h.1; simpa using this
  rcases h.2 with ⟨rfl, h0⟩ | ⟨g, cap, cur, rfl, hb, hh, -⟩
  · have hn : n = 0 := by first | exact h0 | omega
    subst hn
    exact ⟨none, 0, rfl, fun k hk => absurd hk (by omega)⟩
  · refine ⟨_, cap, rfl, fun k hk => ⟨g, rfl, hb, lt_of_block hh, ?_⟩⟩

    have h2 := h.cells (g := g) rfl k (f (l.getD k z)) (by rw [List.getElem?_map, List.getElem?_eq_getElem (by omega), List.getD_eq_getElem?_getD, List.getElem?_eq_getElem (by omega)]; rfl)
    simpa [add_plain] using h2
theorem oneCell_strD (x : ByteArray) : (Value.string x).oneCell' = true := rfl
theorem one_stringD : OneInfo Tryd.prog 69 9 (.string ByteArray.empty) 16 := ⟨Tryd.underlying69, by kernel_rfl, rfl⟩
theorem own_moreD {w : World} {lo lo' n size : Nat} {e : TypeId} {v : Value} {xs : List Value} (h : w.ownsRow lo e size v n xs) (hl : lo' ≤ lo) : w.ownsRow lo' e size v n xs := by
  refine ⟨h.1, ?_⟩
  rcases h.2 with h0 | ⟨g, cap, cur, hv, hb, r⟩
  · exact .inl h0
  · exact .inr ⟨g, cap, cur, hv, Nat.le_trans hl hb, r⟩
/-- the parts in memory of the call's own, where the operations are valid for the base -/
def RetParts (base : ByteArray) (w : World) (X : List Dop) (e : Ending) (w' : World) : Prop :=
  ∃ v, e = .returned (.tuple #[v, .bool (Bt.dRight base X)]) ∧ (Bt.dRight base X = true → w'.ownsRow w.heap.size 9 1 v X.length ((X.map (fun o => o.part base)).map Value.string)) ∧ Below w.heap.size w w'

set_option maxHeartbeats 2000000 in
theorem partsOf_any (base : ByteArray) (A : Option Addr) (n ca : Nat) (X : List Dop) (w : World) (hbs : base.size ≤ 9223372036854775807) (hX : ∀ o ∈ X, o.x.size ≤ 9223372036854775807) (hn : n ≤ 9223372036854775807) (hA : RdDo w w.heap.size A n X) :
    Calls Tryd.prog 38 #[.string base, .slice A n ca] w (RetParts base w X) := by
  have HL : Hid (X.length = n) := hA.1
  have HSTEPS := Lib.hid (stepsOf_any A n ca X w hX hn hA)
  clear hX hA
  generalize hD : Bt.dRight base X = D
  have HD := Lib.hid hD; clear hD
  go_enter Tryd.func38, Tryd.ntmps38
  go_wp2_with fail
  refine HSTEPS.out.mono ?_
  rintro e w1 ⟨v1, rfl, ho1, hb1⟩
  have HB1 := Lib.hid hb1; have HOW1 := Lib.hid ho1
  clear hb1 ho1 HSTEPS
  by_cases hok : Bt.okL X = true
  case neg =>
    have hok' : Bt.okL X = false := by simpa using hok
    have HF : Hid (D = false) := HD.out.symm.trans (Bt.dRight_ok hok')
    clear hok
    go_wp2
    go_ret2
    exact ⟨.slice none 0 0, by rw [HD.out, HF.out]; rfl, fun h => absurd (HD.out.symm.trans h) (by rw [HF.out]; decide), HB1.out⟩
  by_cases h2 : base.size ≤ 200
  case neg =>
    have HF : Hid (D = false) := HD.out.symm.trans (Bt.dRight_long (by omega))
    have h2' : 200 < base.size := by omega
    go_wp2
    go_ret2
    exact ⟨.slice none 0 0, by rw [HD.out, HF.out]; rfl, fun h => absurd (HD.out.symm.trans h) (by rw [HF.out]; decide), HB1.out⟩
  replace HOW1 := Lib.hid (HOW1.out hok)
  have HOK := Lib.hid hok
  have hn40 : n ≤ 40 := by have := HL.out; have := Bt.okL_len hok; omega
  rw [HL.out] at HOW1
  obtain ⟨A1, c1, rfl, hr1⟩ := own_slice Dop.zero HOW1.out
  have HR1 := Lib.hid hr1
  clear hr1 hok
  go_wp2
  go_loopw [8, 9, 28] (fun s z i wr => ∃ (k : Nat) (v : Value), k ≤ n ∧ i = .int .i64 (k : Nat) ∧ v = s ∧ z = .int .i64 ((Bt.szL base (X.take k) : Nat) : Int) ∧ (X.take k).all (inB base.size) = true ∧ wr.ownsRow w1.heap.size 9 1 v k (((X.take k).map (fun o => o.part base)).map Value.string) ∧ Below w1.heap.size w1 wr) (fun _ _ i _ => n - (intOf i).toNat)
  case atStart => exact ⟨0, _, by omega, rfl, rfl, rfl, rfl, own_noneD _ _ _, Below.refl _ _⟩
  case round =>
    obtain ⟨k, v, hk, rfl, rfl, rfl, hall, hown, hbel⟩ := hrel
    have HW := Lib.hid hbel; have HALL := Lib.hid hall; have HOW := Lib.hid hown
    clear hall hown
    have hszk := Bt.szL_take (base := base) HOK.out k (by have := HL.out; omega)
    by_cases hlt : k < n
    · obtain ⟨g, rfl, hg1, hg, hc0⟩ := HR1.out k hlt
      replace hc0 := (hbel.cell (p := ⟨g, k, none⟩) hg).trans hc0
      have hdok := Bt.okL_at HOK.out (k := k) (by have := HL.out; omega)
      have HT := Lib.hid (Bt.take_getD (l := X) (k := k) (by have := HL.out; omega))
      have HBAD := fun h => Lib.hid (Bt.dRight_in (base := base) (l := X) (k := k) (by have := HL.out; omega) h)
      have HSUC := fun h => Lib.hid (Bt.all_take_succ (l := X) (p := inB base.size) (k := k) (by have := HL.out; omega) HALL.out h)
      clear hbel
      generalize X.getD k Dop.zero = o at hc0 hdok HT HBAD HSUC
      have HZ : Hid (Bt.szL base (X.take (k + 1)) = Bt.szL base (X.take k) + (o.part base).size) := by show _ = _; rw [HT.out, Bt.szL_snoc]
      have hpl := Bt.part_le (base := base) hdok
      obtain ⟨T, y, hy⟩ := stepV_form o
      have HCALL := Lib.hid (fun W => partOf_any base o W h2 hdok)
      rw [hy] at HCALL hc0
      have HY := Lib.hid hy; clear hy
      generalize Bt.szL base (X.take k) = sz at hszk HZ ⊢
      go_wp2_with fail
      refine (HCALL.out _).mono ?_
      rintro e w2 ⟨rfl, hb2⟩
      have HB2 : Hid (Below w1.heap.size w1 w2) := HW.out.trans (hb2.mono HW.out.size)
      have HOW2 : Hid (w2.ownsRow w1.heap.size 9 1 v k (((X.take k).map (fun o => o.part base)).map Value.string)) := own_belowD HOW.out hb2
      have hsz := HB2.out.size
      clear hb2
      by_cases hd : inB base.size o = true
      · have HP : Hid (Value.string (partS base o) = Value.string (o.part base)) := by show _ = _; unfold partS; rw [if_pos hd]
        have hps : (partS base o).size ≤ 200 := by unfold partS; rw [if_pos hd]; exact hpl
        have HPS : Hid ((partS base o).size = (o.part base).size) := by show _ = _; unfold partS; rw [if_pos hd]
        go_wp2_with (at_builtin; refine wpList_append_one Value.string oneCell_strD rfl _ _ 69 9 _ 16 one_stringD rfl HOW2.out HB2.out hsz rfl rfl (o.part base) HP.out (by omega) (by omega) ?_; intro v' w3 ho3 hb3; have HB3 := Lib.hid hb3; have HO3 := Lib.hid ho3; clear hb3 ho3)
        go_roundw
        case rel => exact ⟨k + 1, _, by omega, by go_num, rfl, by rw [HZ.out, ← HPS.out]; go_num, (HSUC hd).out, by rw [HT.out, List.map_append]; exact HO3.out, HB3.out⟩
        case measure => simp [intOf]; omega
      · have hd' : inB base.size o = false := by simpa using hd
        have HF : Hid (D = false) := HD.out.symm.trans (HBAD hd').out
        clear hd HBAD HSUC
        go_wp2
        go_ret2
        exact ⟨.slice none 0 0, by rw [HD.out, HF.out]; rfl, fun h => absurd (HD.out.symm.trans h) (by rw [HF.out]; decide), HB1.out.trans (HB2.out.mono HB1.out.size)⟩
    · clear hbel
      obtain rfl : k = n := by omega
      have HT : Hid (D = decide (Bt.szL base X ≤ 200)) := HD.out.symm.trans (Bt.dRight_yes h2 HOK.out (by rw [HL.out]; exact HALL.out))
      have e : X.take k = X := by rw [← HL.out]; exact List.take_length
      rw [e] at HOW hszk ⊢
      clear HALL e
      have HWW := Lib.hid (HB1.out.trans (HW.out.mono HB1.out.size))
      generalize Bt.szL base X = sz at hszk HT ⊢
      by_cases h5 : sz ≤ 200
      · have HTT : Hid (D = true) := HT.out.trans (decide_eq_true h5)
        go_wp2
        go_ret2
        refine ⟨v, by rw [HD.out, HTT.out]; first | rfl | (simp; omega), fun _ => ?_, HWW.out⟩
        have h := HOW.out
        rw [HL.out]
        exact own_moreD h HB1.out.size
      · have HTT : Hid (D = false) := HT.out.trans (decide_eq_false h5)
        have h5' : 200 < sz := by omega
        go_wp2
        go_ret2
        exact ⟨v, by rw [HD.out, HTT.out]; first | rfl | (simp; omega), fun h => absurd (HD.out.symm.trans h) (by rw [HTT.out]; decide), HWW.out⟩
end Go.Proofs.YtpgemeojhbeooaaDoor
