/-
  DeltaRight and DeltaApply of the model.
-/
import Derived.Test.YtpgemeojhbeooaaDoorProg
import Derived.KernelRfl
import Derived.Test.YtpgemeojhbeooaaDoorDlApply
import Derived.Test.YtpgemeojhbeooaaDoorRcRight
import Derived.IntWalk
namespace Go.Proofs.YtpgemeojhbeooaaDoor
open Go.RowKit
open Bt (Dop dok inB)

set_option maxHeartbeats 2000000 in
theorem l09Op_any (o : Dop) (w : World) (hx : o.x.size ≤ 9223372036854775807) :
    Calls Tryd.prog 40 #[dopV o] w fun e w' => e = .returned (.bool (dok o)) ∧ Below w.heap.size w w' := by
  have HI := fun h => Lib.hid (Bt.dok_ins (o := o) h)
  have HC := fun h => Lib.hid (Bt.dok_cp (o := o) h)
  generalize dok o = D at HI HC ⊢
  obtain ⟨f, c, x⟩ := o
  simp only at hx HI HC ⊢
  by_cases h0 : c = 0
  · replace HI := HI h0
    clear HC
    subst h0
    by_cases h1 : f = 0
    · subst h1
      by_cases h2 : 1 ≤ x.size
      · by_cases h3 : x.size ≤ 200
        · have HD : Hid (D = true) := by show D = true; rw [HI.out]; exact decide_eq_true ⟨rfl, h2, h3⟩
          clear HI
          go_enter Tryd.func40, Tryd.ntmps40
          go_wp2
          go_ret
          exact ⟨by rw [HD.out]; first | rfl | (simp; omega), (Below.refl _ _).alloc (Nat.le_refl _) _⟩
        · have HD : Hid (D = false) := by show D = false; rw [HI.out]; exact decide_eq_false (by omega)
          clear HI
          go_enter Tryd.func40, Tryd.ntmps40
          go_wp2
          go_ret
          exact ⟨by rw [HD.out]; first | rfl | (simp; omega), (Below.refl _ _).alloc (Nat.le_refl _) _⟩
      · obtain rfl := empty_of (x := x) (by omega)
        have HD : Hid (D = false) := by show D = false; rw [HI.out]; exact decide_eq_false (by omega)
        clear HI h2
        go_enter Tryd.func40, Tryd.ntmps40
        go_wp2
        go_ret
        exact ⟨by rw [HD.out]; first | rfl | (simp; omega), (Below.refl _ _).alloc (Nat.le_refl _) _⟩
    · have HD : Hid (D = false) := by show D = false; rw [HI.out]; exact decide_eq_false (by omega)
      have e1 : (f == 0) = false := by simpa using h1
      clear HI
      go_enter Tryd.func40, Tryd.ntmps40
      go_wp2
      go_ret
      exact ⟨by rw [HD.out]; first | rfl | (simp; omega), (Below.refl _ _).alloc (Nat.le_refl _) _⟩
  · replace HC := HC h0
    clear HI
    have e0 : (c == 0) = false := by simpa using h0
    by_cases h1 : 1 ≤ c ∧ c ≤ 200
    · have hr := rcIs_yes h1
      by_cases h3 : 0 ≤ f
      · by_cases h4 : x.size = 0
        · obtain rfl := empty_of h4
          have HD : Hid (D = true) := by show D = true; rw [HC.out]; exact decide_eq_true ⟨h1.1, h1.2, h3, rfl⟩
          clear HC h0
          go_enter Tryd.func40, Tryd.ntmps40
          go_wp2_with fail
          refine (rcIs_any _ _ _ _).mono ?_
          rintro e w1 ⟨rfl, rfl⟩
          rw [hr]
          go_wp2
          go_ret
          exact ⟨by rw [HD.out]; first | rfl | (simp; omega), (Below.refl _ _).alloc (Nat.le_refl _) _⟩
        · obtain ⟨n1, n2⟩ := some_of h4
          have HD : Hid (D = false) := by show D = false; rw [HC.out]; exact decide_eq_false (by omega)
          clear HC h0 h4
          go_enter Tryd.func40, Tryd.ntmps40
          go_wp2_with fail
          refine (rcIs_any _ _ _ _).mono ?_
          rintro e w1 ⟨rfl, rfl⟩
          rw [hr]
          go_wp2
          go_ret
          exact ⟨by rw [HD.out]; first | rfl | (simp; omega), (Below.refl _ _).alloc (Nat.le_refl _) _⟩
      · have HD : Hid (D = false) := by show D = false; rw [HC.out]; exact decide_eq_false (by omega)
        have h3 : f < 0 := by omega
        clear HC h0
        go_enter Tryd.func40, Tryd.ntmps40
        go_wp2_with fail
        refine (rcIs_any _ _ _ _).mono ?_
        rintro e w1 ⟨rfl, rfl⟩
        rw [hr]
        go_wp2
        go_ret
        exact ⟨by rw [HD.out]; first | rfl | (simp; omega), (Below.refl _ _).alloc (Nat.le_refl _) _⟩
    · have hr := rcIs_no h1
      have HD : Hid (D = false) := by show D = false; rw [HC.out]; exact decide_eq_false (by omega)
      clear HC h0
      go_enter Tryd.func40, Tryd.ntmps40
      go_wp2_with fail
      refine (rcIs_any _ _ _ _).mono ?_
      rintro e w1 ⟨rfl, rfl⟩
      rw [hr]
      go_wp2
      go_ret
      exact ⟨by rw [HD.out]; first | rfl | (simp; omega), (Below.refl _ _).alloc (Nat.le_refl _) _⟩

theorem retb_false {D : Bool} (h : D = false) : Ending.returned (.bool false) = .returned (.bool D) := by rw [h]

set_option maxHeartbeats 4000000 in
set_option maxRecDepth 100000 in
theorem spec_deltaRight (base : ByteArray) (A : Option Addr) (n ca : Nat) (X : List Dop) (w : World) (hbs : base.size ≤ 9223372036854775807) (hX : ∀ o ∈ X, o.x.size ≤ 9223372036854775807) (hn : n ≤ 9223372036854775807) (hA : RdDo w w.heap.size A n X) :
    Calls Tryd.prog 16 #[.string base, .slice A n ca] w fun e w' => e = .returned (.bool (Bt.dRight base X)) ∧ Below w.heap.size w w' := by
  have HL : Hid (X.length = n) := hA.1
  have HA := Lib.hid hA; have HX := Lib.hid hX; clear hA hX
  generalize hD : Bt.dRight base X = D
  have HD := Lib.hid hD; clear hD
  by_cases h1 : base.size ≤ 200
  case neg =>
    have HF : Hid (D = false) := HD.out.symm.trans (Bt.dRight_long (by omega))
    have h1' : 200 < base.size := by omega
    go_enter Tryd.func16, Tryd.ntmps16
    go_wp2
    go_ret
    exact ⟨retb_false HF.out, Below.refl _ _⟩
  by_cases h2 : n ≤ 40
  case neg =>
    have HF : Hid (D = false) := HD.out.symm.trans (Bt.dRight_ok (Bt.okL_long (by have := HL.out; omega)))
    have h2' : 40 < n := by omega
    go_enter Tryd.func16, Tryd.ntmps16
    go_wp2
    go_ret
    exact ⟨retb_false HF.out, Below.refl _ _⟩
  go_enter Tryd.func16, Tryd.ntmps16
  go_wp2
  go_loopw [5, 6] (fun z i wr => ∃ (k : Nat), k ≤ n ∧ i = .int .i64 (k : Nat) ∧ z = .int .i64 ((Bt.szL base (X.take k) : Nat) : Int) ∧ Bt.szL base (X.take k) ≤ 200 * k ∧ (X.take k).all dok = true ∧ (X.take k).all (inB base.size) = true ∧ Below w.heap.size w wr) (fun _ i _ => n - (intOf i).toNat)
  case atStart => exact ⟨0, by omega, rfl, rfl, Nat.zero_le _, rfl, rfl, Below.refl _ _⟩
  case round =>
    obtain ⟨k, hk, rfl, rfl, hszk, hall1, hall2, hbel⟩ := hrel
    have HW := Lib.hid hbel; have HALL1 := Lib.hid hall1; have HALL2 := Lib.hid hall2
    clear hall1 hall2
    by_cases hlt : k < n
    · obtain ⟨g, off, rfl, hg, hc0, hc1, hc2⟩ := (HA.out.below hbel).at hlt
      have hds := HX.out _ (getD_lt (z := Dop.zero) (show k < X.length by have := HL.out; omega))
      have HT := Lib.hid (Bt.take_getD (l := X) (k := k) (by have := HL.out; omega))
      have HBAD1 := fun h => Lib.hid (Bt.okL_bad (l := X) (k := k) (by have := HL.out; omega) h)
      have HBAD2 := fun h => Lib.hid (Bt.dRight_in (base := base) (l := X) (k := k) (by have := HL.out; omega) h)
      have HSUC1 := fun h => Lib.hid (Bt.all_take_succ (l := X) (p := dok) (k := k) (by have := HL.out; omega) HALL1.out h)
      have HSUC2 := fun h => Lib.hid (Bt.all_take_succ (l := X) (p := inB base.size) (k := k) (by have := HL.out; omega) HALL2.out h)
      clear hbel
      generalize X.getD k Dop.zero = o at hc0 hc1 hc2 hds HT HBAD1 HBAD2 HSUC1 HSUC2
      have HZ : Hid (Bt.szL base (X.take (k + 1)) = Bt.szL base (X.take k) + (o.part base).size) := by show _ = _; rw [HT.out, Bt.szL_snoc]
      generalize Bt.szL base (X.take k) = sz at hszk HZ ⊢
      have HCALL := Lib.hid (fun W => l09Op_any o W hds)
      have HC1W := Lib.hid hc1; have HC2W := Lib.hid hc2
      have hc0' := cell_regrown hc0; have hc1' := cell_regrown hc1; have hc2' := cell_regrown hc2
      by_cases hd : dok o = true
      case neg =>
        have hd' : dok o = false := by simpa using hd
        have HF : Hid (D = false) := HD.out.symm.trans (Bt.dRight_ok (HBAD1 hd').out)
        rw [hd'] at HCALL
        clear hd hd' HBAD1 HBAD2 HSUC1 HSUC2
        go_wp2
        refine wp_region_quiet_below (by kernel_rfl) (by kernel_rfl) ?_
        repeat (go_big_quiet_step ((go_at_call 40; exact Calls.regrown_of (HCALL.out _))))
        refine wpQuiet_nil ?_
        intro w2 hw'
        have hb2 : Below wr.heap.size wr w2 := by obtain ⟨⟨dq, osq⟩, rfl⟩ := hw'; exact below_regrown wr dq osq
        clear hw'
        have HB2 := Lib.hid (HW.out.trans (hb2.mono HW.out.size))
        clear hb2
        go_wp2
        go_ret
        exact ⟨retb_false HF.out, HB2.out⟩
      rw [hd] at HCALL
      by_cases hi : inB base.size o = true
      · have hple : (o.part base).size ≤ 200 := Bt.part_le hd
        have HPS := Lib.hid (Bt.part_size hd hi)
        have hcs : 0 ≤ o.c ∧ o.c ≤ 200 := by rcases Bt.ok_cases hd with h | h <;> omega
        have hxs : o.x.size ≤ 200 := by rcases Bt.ok_cases hd with h | h <;> omega
        have hle : o.f ≤ (base.size : Int) - o.c := by
          have := of_decide_eq_true hi
          rcases Bt.ok_cases hd with h | h <;> omega
        obtain ⟨hcs1, hcs2⟩ := hcs
        have HS1 := (HSUC1 hd); have HS2 := (HSUC2 hi)
        clear hd hi HBAD1 HBAD2 HSUC1 HSUC2
        go_wp2
        have hw1 : IntKind.i64.wrap ((base.size : Int) - o.c) = (base.size : Int) - o.c := IntWalk.i64_in _ (by omega)
        have ht : decide ((base.size : Int) - o.c < o.f) = false := decide_eq_false (by omega)
        refine wp_region_quiet_below (by kernel_rfl) (by kernel_rfl) ?_
        repeat (go_big_quiet_step ((go_at_call 40; exact Calls.regrown_of (HCALL.out _))))
        refine wpQuiet_nil ?_
        intro w2 hw'
        have hb2 : Below wr.heap.size wr w2 := by obtain ⟨⟨dq, osq⟩, rfl⟩ := hw'; exact below_regrown wr dq osq
        clear hw'
        have HB2 := Lib.hid (HW.out.trans (hb2.mono HW.out.size))
        have hgr : g < wr.heap.size := Nat.lt_of_lt_of_le hg HW.out.size
        replace hc1 := (hb2.cell (p := ⟨g, off + k * 3 + 1, none⟩) hgr).trans HC1W.out
        replace hc2 := (hb2.cell (p := ⟨g, off + k * 3 + 2, none⟩) hgr).trans HC2W.out
        clear hb2
        clear hw1 ht
        go_wp2
        replace hc1' := cell_regrown hc1; replace hc2' := cell_regrown hc2
        have hw2 : IntKind.i64.wrap ((sz : Int) + o.c) = (sz : Int) + o.c := IntWalk.i64_in _ (by omega)
        have hw3 : IntKind.i64.wrap ((sz : Int) + o.c + (o.x.size : Int)) = (sz : Int) + o.c + (o.x.size : Int) := IntWalk.i64_in _ (by omega)
        refine wp_region_quiet_below (by kernel_rfl) (by kernel_rfl) ?_
        repeat (go_big_quiet_step (fail))
        refine wpQuiet_nil ?_
        intro w3 hw'
        have hb3 : Below w2.heap.size w2 w3 := by obtain ⟨⟨dq, osq⟩, rfl⟩ := hw'; exact below_regrown w2 dq osq
        clear hw' hw2 hw3
        have HB3 := Lib.hid (HB2.out.trans (hb3.mono HB2.out.size))
        clear hb3
        go_wp2
        go_roundw
        case rel => exact ⟨k + 1, by omega, by go_num, by rw [HZ.out, HPS.out]; go_num, by rw [HZ.out]; omega, HS1.out, HS2.out, HB3.out⟩
        case measure => simp [intOf]; omega
      · have hi' : inB base.size o = false := by simpa using hi
        have HF : Hid (D = false) := HD.out.symm.trans (HBAD2 hi').out
        have hcs : 0 < o.c ∧ o.c ≤ 200 ∧ (base.size : Int) - o.c < o.f := by
          have := of_decide_eq_false hi'
          rcases Bt.ok_cases hd with h | h <;> omega
        obtain ⟨hcs1, hcs2, hcs3⟩ := hcs
        clear hd hi hi' HBAD1 HBAD2 HSUC1 HSUC2
        go_wp2
        have hw1 : IntKind.i64.wrap ((base.size : Int) - o.c) = (base.size : Int) - o.c := IntWalk.i64_in _ (by omega)
        have ht : decide ((base.size : Int) - o.c < o.f) = true := decide_eq_true (by omega)
        have ht2 : decide (0 < o.c) = true := decide_eq_true (by omega)
        refine wp_region_quiet_below (by kernel_rfl) (by kernel_rfl) ?_
        repeat (go_big_quiet_step ((go_at_call 40; exact Calls.regrown_of (HCALL.out _))))
        refine wpQuiet_nil ?_
        intro w2 hw'
        have hb2 : Below wr.heap.size wr w2 := by obtain ⟨⟨dq, osq⟩, rfl⟩ := hw'; exact below_regrown wr dq osq
        clear hw'
        have HB2 := Lib.hid (HW.out.trans (hb2.mono HW.out.size))
        clear hb2
        go_wp2
        go_ret
        exact ⟨retb_false HF.out, HB2.out⟩
    · clear hbel
      obtain rfl : k = n := by omega
      have HOK : Hid (Bt.okL X = true) := Bt.okL_good (by rw [HL.out]; exact h2) (by rw [HL.out]; exact HALL1.out)
      have HT : Hid (D = decide (Bt.szL base X ≤ 200)) := HD.out.symm.trans (Bt.dRight_yes h1 HOK.out (by rw [HL.out]; exact HALL2.out))
      have e : X.take k = X := by rw [← HL.out]; exact List.take_length
      rw [e] at hszk ⊢
      clear HALL1 HALL2 e
      generalize Bt.szL base X = sz at hszk HT ⊢
      by_cases h5 : sz ≤ 200
      · have HTT : Hid (D = true) := HT.out.trans (decide_eq_true h5)
        go_wp2
        go_ret
        exact ⟨by rw [HTT.out]; first | rfl | (simp; omega), HW.out⟩
      · have HTT : Hid (D = false) := HT.out.trans (decide_eq_false h5)
        have h5' : 200 < sz := by omega
        go_wp2
        go_ret
        exact ⟨by rw [HTT.out]; first | rfl | (simp; omega), HW.out⟩
end Go.Proofs.YtpgemeojhbeooaaDoor
