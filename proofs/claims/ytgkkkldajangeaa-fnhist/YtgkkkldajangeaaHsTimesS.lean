/-
  Times, of the document's model.
-/
import Derived.Test.YtgkkkldajangeaaProg
import Derived.KernelRfl
import Derived.Test.YtgkkkldajangeaaHsTimesI
import Derived.Test.YtgkkkldajangeaaHsTrailS
namespace Go.Proofs.Ytgkkkldajangeaa
open Go.RowKit
open Bt (Rc)

theorem pushT_keep {T : List Int} {z : Int} (h0 : 0 < T.length) (h : z ≤ T.getD (T.length - 1) 0) : pushT T z = T := by unfold pushT; rw [if_pos ⟨h0, h⟩]
theorem pushT_more {T : List Int} {z : Int} (h : 0 < T.length → T.getD (T.length - 1) 0 < z) : pushT T z = T ++ [z] := by unfold pushT; rw [if_neg (fun e => by have := h e.1; omega)]

set_option maxHeartbeats 8000000 in
set_option maxRecDepth 100000 in
theorem spec_times (A : Option Addr) (n ca : Nat) (X : List Rc) (s : Int) (w : World) (hS : SmallR X) (hA : RdRc w w.heap.size A n X) :
    Calls Try.prog 22 #[.agg #[.slice A n ca], .int .i64 s] w (RetNs w (timesOf X s)) := by
  have hn : n ≤ 1048576 := by rw [← hA.1]; exact hS.1
  have HL := Lib.hid hA.1
  have HA := Lib.hid hA; have HS := Lib.hid hS; clear hA hS
  go_enter Try.func22, Try.ntmps22
  go_wp2_with fail
  have hb0 : Below w.heap.size w ((w.alloc (.cells #[.slice A n ca] 25)).alloc (.cells #[] 2)) := ((Below.refl _ _).alloc (Nat.le_refl _) _).alloc (by simp) _
  have k0 := (isBlk_new w 25 [.slice A n ca]).alloc (.cells #[] 2)
  have k1 := isBlk_new (w.alloc (.cells #[.slice A n ca] 25)) 2 []
  rw [size_alloc] at k1
  change IsBlk ((w.alloc (.cells #[.slice A n ca] 25)).alloc (.cells #[] 2)) _ _ _ at k0
  change IsBlk ((w.alloc (.cells #[.slice A n ca] 25)).alloc (.cells #[] 2)) _ _ _ at k1
  generalize (w.alloc (.cells #[.slice A n ca] 25)).alloc (.cells #[] 2) = W at hb0 k0 k1 ⊢
  refine (spec_histRight_any A n ca X W HS.out (HA.out.next hb0)).mono ?_
  rintro e w1 ⟨rfl, hb1⟩
  have HB1 := Lib.hid (hb0.trans (hb1.mono hb0.size))
  have HK0 := Lib.hid (k0.below hb1 k0.lt)
  have HK1 := Lib.hid (k1.below hb1 k1.lt)
  have hx : w1.cell? ⟨w.heap.size, 0, none⟩ = some (.slice A n ca) := HK0.out.cell rfl
  clear hb0 hb1 k0 k1
  by_cases hr : hRight X = true
  case neg =>
    have HT := Lib.hid (times_nil (s := s) (X := X) (fun h => hr h.1))
    have hr : hRight X = false := by simpa using hr
    rw [hr]
    clear hr
    go_wp2
    go_ret
    rw [HT.out]
    exact ⟨some ⟨w.heap.size + 1, 0, none⟩, 0, rfl, owNs_nil _ _ _ _, HB1.out⟩
  rw [hr]
  go_wp2_with fail
  refine (l04Sector_any s w1).mono ?_
  rintro e w2 ⟨rfl, rfl⟩
  by_cases hs : 0 ≤ s ∧ s ≤ 5
  case neg =>
    have HT := Lib.hid (times_nil (s := s) (X := X) (fun h => hs h.2))
    rw [rcIs_no hs]
    clear hr hs
    go_wp2
    go_ret
    rw [HT.out]
    exact ⟨some ⟨w.heap.size + 1, 0, none⟩, 0, rfl, owNs_nil _ _ _ _, HB1.out⟩
  have HT := Lib.hid (times_yes ⟨hr, hs⟩)
  rw [rcIs_yes hs]
  obtain ⟨f, hf⟩ : ∃ f, f = floorR X := ⟨_, rfl⟩
  have HV : Hid (∀ i, i < n → 1 ≤ (X.getD i Rc.zero).k) := fun i hi => (hRight_at hr (by rw [HL.out]; exact hi)).1.1
  rw [HL.out, ← hf] at HT
  have HFL : Hid (floorTo X n = f) := by show _ = _; rw [hf]; unfold floorR; rw [HL.out]
  clear hr hs hf
  go_wp2_with fail
  refine (l04Floor_any A n ca X w1 hn (HA.out.next HB1.out)).mono ?_
  rintro e w3 ⟨rfl, hb3⟩
  rw [HFL.out]
  have HB3 := Lib.hid (HB1.out.trans (hb3.mono HB1.out.size))
  have HK03 := Lib.hid (HK0.out.below hb3 HK0.out.lt)
  have HK13 := Lib.hid (HK1.out.below hb3 HK1.out.lt)
  have hz3 : w.heap.size + 1 < w3.heap.size := HK13.out.lt
  clear hb3 hx
  go_wp2
  go_loopw [5, 7] (fun out i wr => ∃ (k : Nat) (v : Value), k ≤ n ∧ i = .int .i64 (k : Nat) ∧ v = out ∧ wr.ownsRow (w.heap.size + 1) 2 1 v (timesTo X s f k).length ((timesTo X s f k).map numV) ∧ Below (w.heap.size + 1) w3 wr) (fun _ i _ => n - (intOf i).toNat)
  case atStart => exact ⟨0, _, by omega, rfl, rfl, ⟨rfl, .inr ⟨w.heap.size + 1, 0, #[], rfl, Nat.le_refl _, HK13.out, Nat.le_refl _, by simp [maxLen], rfl, rfl⟩⟩, Below.refl _ _⟩
  case round =>
    obtain ⟨k, v, hk, rfl, rfl, hown, hbel⟩ := hrel
    have HOW := Lib.hid hown; have HW := Lib.hid hbel
    have hzr : w.heap.size + 1 < wr.heap.size := Nat.lt_of_lt_of_le hz3 hbel.size
    have hx : wr.cell? ⟨w.heap.size, 0, none⟩ = some (.slice A n ca) := (HK03.out.below hbel (by omega)).cell rfl
    clear hown
    by_cases hlt : k < n
    · obtain ⟨g, off, rfl, hg, hc0, hc1, hc2, hc3, hc4, hc5⟩ := (HA.out.below (HB3.out.trans (hbel.mono (by omega)))).at hlt
      have hkk := HV.out k hlt
      have HYE := Lib.hid (fun h => timesTo_yes (X := X) (s := s) (f := f) (k := k) h)
      have HNO := Lib.hid (fun h => timesTo_no (X := X) (s := s) (f := f) (k := k) h)
      have hTl := timesTo_len X s f k
      generalize X.getD k Rc.zero = r at *
      generalize timesTo X s f k = T at *
      have hb5 : Below wr.heap.size wr (wr.alloc (.cells #[.int .i64 r.k, .int .i64 r.s, .int .i64 r.q, .int .i64 r.t, .int .i64 r.o, .string r.d] 27)) := (Below.refl _ _).alloc (Nat.le_refl _) _
      have k5 := isBlk_new wr 27 (recC r)
      change IsBlk (wr.alloc (.cells #[.int .i64 r.k, .int .i64 r.s, .int .i64 r.q, .int .i64 r.t, .int .i64 r.o, .string r.d] 27)) _ _ _ at k5
      have HB5 := Lib.hid hb5; have HK5 := Lib.hid k5
      have HOW5 := Lib.hid (own_belowR HOW.out hb5)
      have HW5 := Lib.hid (HW.out.trans (hb5.mono (by omega)))
      have x3 : (wr.alloc (.cells #[.int .i64 r.k, .int .i64 r.s, .int .i64 r.q, .int .i64 r.t, .int .i64 r.o, .string r.d] 27)).cell? ⟨wr.heap.size, 3, none⟩ = some (.int .i64 r.t) := k5.cell rfl
      have x3' := cell_regrown x3
      have hs5 : (wr.alloc (.cells #[.int .i64 r.k, .int .i64 r.s, .int .i64 r.q, .int .i64 r.t, .int .i64 r.o, .string r.d] 27)).heap.size = wr.heap.size + 1 := by simp
      have HS5 := Lib.hid hs5
      obtain ⟨Av, cv, rfl⟩ := own_slice HOW.out
      clear hb5 k5 hbel hs5
      by_cases h3 : r.k = 3
      case pos =>
        have h3' : (r.k == 3) = true := by simpa using h3
        have HTC := Lib.hid (tch_roll s h3)
        clear h3
        by_cases ht : f ≤ r.t
        case neg =>
          have HNO' := Lib.hid (HNO.out (by rw [decide_eq_false ht]; rfl))
          have ht' : r.t < f := by omega
          have ht2 : decide (f ≤ r.t) = false := decide_eq_false ht
          clear HYE HNO ht
          go_wp2
          refine wp_region_quiet_below (by kernel_rfl) (by kernel_rfl) ?_
          repeat (go_big_quiet_step (fail))
          refine wpQuiet_nil ?_
          intro w6 hw'
          have hb6 : Below (wr.alloc (.cells #[.int .i64 r.k, .int .i64 r.s, .int .i64 r.q, .int .i64 r.t, .int .i64 r.o, .string r.d] 27)).heap.size (wr.alloc (.cells #[.int .i64 r.k, .int .i64 r.s, .int .i64 r.q, .int .i64 r.t, .int .i64 r.o, .string r.d] 27)) w6 := by obtain ⟨⟨dq, osq⟩, rfl⟩ := hw'; exact below_regrown _ dq osq
          clear hw' x3 x3'
          have HOW6 := Lib.hid (own_belowR HOW5.out hb6)
          have HW6 := Lib.hid (HW5.out.trans (hb6.mono (by rw [HS5.out]; omega)))
          have z3 : w6.cell? ⟨wr.heap.size, 3, none⟩ = some (.int .i64 r.t) := (HK5.out.below hb6 HK5.out.lt).cell rfl
          have hz6 : w.heap.size + 1 ≤ w6.heap.size := by have := hb6.size; rw [HS5.out] at this; omega
          clear hb6
          go_wp2
          go_roundw
          case rel => exact ⟨k + 1, _, by omega, by go_num, rfl, by rw [HNO'.out]; exact HOW6.out, HW6.out⟩
          case measure => simp [intOf]; omega
        have HYE' := Lib.hid (HYE.out (by rw [decide_eq_true ht, HTC.out]; rfl))
        have ht2 : decide (f ≤ r.t) = true := decide_eq_true ht
        clear HYE HNO
        by_cases h0 : T.length = 0
        case pos =>
          have HPM := Lib.hid (pushT_more (T := T) (z := r.t) (fun h => absurd h (by omega)))
          have hl0 : ((T.length : Int) == 0) = true := beq_iff_eq.2 (by omega)
          have hl1 : decide (T.length = 0) = true := decide_eq_true h0
          clear h0
          go_wp2
          refine wp_region_quiet_below (by kernel_rfl) (by kernel_rfl) ?_
          repeat (go_big_quiet_step (fail))
          refine wpQuiet_nil ?_
          intro w6 hw'
          have hb6 : Below (wr.alloc (.cells #[.int .i64 r.k, .int .i64 r.s, .int .i64 r.q, .int .i64 r.t, .int .i64 r.o, .string r.d] 27)).heap.size (wr.alloc (.cells #[.int .i64 r.k, .int .i64 r.s, .int .i64 r.q, .int .i64 r.t, .int .i64 r.o, .string r.d] 27)) w6 := by obtain ⟨⟨dq, osq⟩, rfl⟩ := hw'; exact below_regrown _ dq osq
          clear hw' x3 x3'
          have HOW6 := Lib.hid (own_belowR HOW5.out hb6)
          have HW6 := Lib.hid (HW5.out.trans (hb6.mono (by rw [HS5.out]; omega)))
          have z3 : w6.cell? ⟨wr.heap.size, 3, none⟩ = some (.int .i64 r.t) := (HK5.out.below hb6 HK5.out.lt).cell rfl
          have hz6 : w.heap.size + 1 ≤ w6.heap.size := by have := hb6.size; rw [HS5.out] at this; omega
          clear hb6
          go_wp2_with (at_builtin; refine wpList_append_oneG numV oneCell_num rfl _ _ 40 2 _ 8 num_one rfl HOW6.out HW6.out hz6 (g0 := w6.heap.size) rfl rfl rfl r.t rfl (by omega) (by omega) ?_; intro g2 cap2 w7 ho7 hb7 hk7 hz7; have HO7 := Lib.hid ho7; have HB7 := Lib.hid hb7; clear ho7 hb7 hk7 hz7)
          go_roundw
          case rel => exact ⟨k + 1, _, by omega, by go_num, rfl, by rw [HYE'.out, HPM.out, List.length_append]; exact HO7.out, HB7.out⟩
          case measure => simp [intOf]; omega
        have hp0 : 0 < T.length := by omega
        have hl0 : ((T.length : Int) == 0) = false := beq_eq_false_iff_ne.2 (by omega)
        have hl1 : decide (T.length = 0) = false := decide_eq_false h0
        obtain ⟨gv, hgv, hgl1, hgl2, hrow⟩ := (owNs_of_own HOW5.out).2 hp0
        subst hgv
        have y0 := hrow.cell (i := T.length - 1) (by omega)
        simp only [nmF] at y0
        have HPK := Lib.hid (fun h => pushT_keep (T := T) (z := r.t) hp0 h)
        have HPM0 := Lib.hid (fun h => pushT_more (T := T) (z := r.t) h)
        obtain ⟨l, hl⟩ : ∃ l, l = T.getD (T.length - 1) 0 := ⟨_, rfl⟩
        rw [← hl] at y0 HPK HPM0
        obtain ⟨m, hm⟩ : ∃ m, T.length = m + 1 := ⟨T.length - 1, by omega⟩
        have HM := Lib.hid hm
        rw [hm] at y0 HOW HOW5 hl0 hl1 hTl ⊢
        simp only [Nat.add_sub_cancel] at y0
        have hl2 : ((m : Int) + 1 == 0) = false := beq_eq_false_iff_ne.2 (by omega)
        have y0' := cell_regrown y0
        have hml : m ≤ 1048576 := by omega
        have hi0 : (0 : Int) ≤ (m : Int) := by omega
        clear h0 hl hm hp0 hrow
        by_cases hlr : l < r.t
        case pos =>
          have HPM := Lib.hid (HPM0.out (fun _ => hlr))
          have hlr2 : decide (l < r.t) = true := decide_eq_true hlr
          go_wp2
          refine wp_region_quiet_below (by kernel_rfl) (by kernel_rfl) ?_
          repeat (go_big_quiet_step (fail))
          refine wpQuiet_nil ?_
          intro w6 hw'
          have hb6 : Below (wr.alloc (.cells #[.int .i64 r.k, .int .i64 r.s, .int .i64 r.q, .int .i64 r.t, .int .i64 r.o, .string r.d] 27)).heap.size (wr.alloc (.cells #[.int .i64 r.k, .int .i64 r.s, .int .i64 r.q, .int .i64 r.t, .int .i64 r.o, .string r.d] 27)) w6 := by obtain ⟨⟨dq, osq⟩, rfl⟩ := hw'; exact below_regrown _ dq osq
          clear hw' x3 x3'
          have HOW6 := Lib.hid (own_belowR HOW5.out hb6)
          have HW6 := Lib.hid (HW5.out.trans (hb6.mono (by rw [HS5.out]; omega)))
          have z3 : w6.cell? ⟨wr.heap.size, 3, none⟩ = some (.int .i64 r.t) := (HK5.out.below hb6 HK5.out.lt).cell rfl
          have hz6 : w.heap.size + 1 ≤ w6.heap.size := by have := hb6.size; rw [HS5.out] at this; omega
          clear hb6
          go_wp2_with (at_builtin; refine wpList_append_oneG numV oneCell_num rfl _ _ 40 2 _ 8 num_one rfl HOW6.out HW6.out hz6 (g0 := w6.heap.size) rfl rfl rfl r.t rfl (by omega) (by omega) ?_; intro g2 cap2 w7 ho7 hb7 hk7 hz7; have HO7 := Lib.hid ho7; have HB7 := Lib.hid hb7; clear ho7 hb7 hk7 hz7)
          go_roundw
          case rel => exact ⟨k + 1, _, by omega, by go_num, rfl, by rw [HYE'.out, HPM.out, List.length_append, HM.out]; exact HO7.out, HB7.out⟩
          case measure => simp [intOf]; omega
        have HPK' := Lib.hid (HPK.out (by omega))
        have hlr2 : decide (l < r.t) = false := decide_eq_false hlr
        have hlr3 : r.t ≤ l := by omega
        go_wp2
        refine wp_region_quiet_below (by kernel_rfl) (by kernel_rfl) ?_
        repeat (go_big_quiet_step (fail))
        refine wpQuiet_nil ?_
        intro w6 hw'
        have hb6 : Below (wr.alloc (.cells #[.int .i64 r.k, .int .i64 r.s, .int .i64 r.q, .int .i64 r.t, .int .i64 r.o, .string r.d] 27)).heap.size (wr.alloc (.cells #[.int .i64 r.k, .int .i64 r.s, .int .i64 r.q, .int .i64 r.t, .int .i64 r.o, .string r.d] 27)) w6 := by obtain ⟨⟨dq, osq⟩, rfl⟩ := hw'; exact below_regrown _ dq osq
        clear hw' x3 x3'
        have HOW6 := Lib.hid (own_belowR HOW5.out hb6)
        have HW6 := Lib.hid (HW5.out.trans (hb6.mono (by rw [HS5.out]; omega)))
        have z3 : w6.cell? ⟨wr.heap.size, 3, none⟩ = some (.int .i64 r.t) := (HK5.out.below hb6 HK5.out.lt).cell rfl
        have hz6 : w.heap.size + 1 ≤ w6.heap.size := by have := hb6.size; rw [HS5.out] at this; omega
        clear hb6
        go_wp2
        go_roundw
        case rel => exact ⟨k + 1, _, by omega, by go_num, rfl, by rw [HYE'.out, HPK'.out, HM.out]; exact HOW6.out, HW6.out⟩
        case measure => simp [intOf]; omega
      have h3' : (r.k == 3) = false := by simpa using h3
      by_cases h2 : r.k ≤ 2
      case neg =>
        have h2' : decide (r.k ≤ 2) = false := decide_eq_false h2
        have h2'' : 2 < r.k := by omega
        have HTC := Lib.hid (tch_none (r := r) s (by omega))
        clear h2 h3
        have HNO' := Lib.hid (HNO.out (by rw [HTC.out]; simp))
        clear HYE HNO
        go_wp2
        refine wp_region_quiet_below (by kernel_rfl) (by kernel_rfl) ?_
        repeat (go_big_quiet_step (fail))
        refine wpQuiet_nil ?_
        intro w6 hw'
        have hb6 : Below (wr.alloc (.cells #[.int .i64 r.k, .int .i64 r.s, .int .i64 r.q, .int .i64 r.t, .int .i64 r.o, .string r.d] 27)).heap.size (wr.alloc (.cells #[.int .i64 r.k, .int .i64 r.s, .int .i64 r.q, .int .i64 r.t, .int .i64 r.o, .string r.d] 27)) w6 := by obtain ⟨⟨dq, osq⟩, rfl⟩ := hw'; exact below_regrown _ dq osq
        clear hw' x3 x3'
        have HOW6 := Lib.hid (own_belowR HOW5.out hb6)
        have HW6 := Lib.hid (HW5.out.trans (hb6.mono (by rw [HS5.out]; omega)))
        have z3 : w6.cell? ⟨wr.heap.size, 3, none⟩ = some (.int .i64 r.t) := (HK5.out.below hb6 HK5.out.lt).cell rfl
        have hz6 : w.heap.size + 1 ≤ w6.heap.size := by have := hb6.size; rw [HS5.out] at this; omega
        clear hb6
        go_wp2
        go_roundw
        case rel => exact ⟨k + 1, _, by omega, by go_num, rfl, by rw [HNO'.out]; exact HOW6.out, HW6.out⟩
        case measure => simp [intOf]; omega
      have h2' : decide (r.k ≤ 2) = true := decide_eq_true h2
      by_cases hss : r.s = s
      case neg =>
        have hss' : (r.s == s) = false := by simpa using hss
        have HTC := Lib.hid (tch_other (r := r) (by omega) hss)
        clear hss h3
        have HNO' := Lib.hid (HNO.out (by rw [HTC.out]; simp))
        clear HYE HNO
        go_wp2
        refine wp_region_quiet_below (by kernel_rfl) (by kernel_rfl) ?_
        repeat (go_big_quiet_step (fail))
        refine wpQuiet_nil ?_
        intro w6 hw'
        have hb6 : Below (wr.alloc (.cells #[.int .i64 r.k, .int .i64 r.s, .int .i64 r.q, .int .i64 r.t, .int .i64 r.o, .string r.d] 27)).heap.size (wr.alloc (.cells #[.int .i64 r.k, .int .i64 r.s, .int .i64 r.q, .int .i64 r.t, .int .i64 r.o, .string r.d] 27)) w6 := by obtain ⟨⟨dq, osq⟩, rfl⟩ := hw'; exact below_regrown _ dq osq
        clear hw' x3 x3'
        have HOW6 := Lib.hid (own_belowR HOW5.out hb6)
        have HW6 := Lib.hid (HW5.out.trans (hb6.mono (by rw [HS5.out]; omega)))
        have z3 : w6.cell? ⟨wr.heap.size, 3, none⟩ = some (.int .i64 r.t) := (HK5.out.below hb6 HK5.out.lt).cell rfl
        have hz6 : w.heap.size + 1 ≤ w6.heap.size := by have := hb6.size; rw [HS5.out] at this; omega
        clear hb6
        go_wp2
        go_roundw
        case rel => exact ⟨k + 1, _, by omega, by go_num, rfl, by rw [HNO'.out]; exact HOW6.out, HW6.out⟩
        case measure => simp [intOf]; omega
      have hss' : (r.s == s) = true := by simpa using hss
      have HTC := Lib.hid (tch_same (r := r) (by omega) hss)
      clear hss h3
      by_cases ht : f ≤ r.t
      case neg =>
        have HNO' := Lib.hid (HNO.out (by rw [decide_eq_false ht]; rfl))
        have ht' : r.t < f := by omega
        have ht2 : decide (f ≤ r.t) = false := decide_eq_false ht
        clear HYE HNO ht
        go_wp2
        refine wp_region_quiet_below (by kernel_rfl) (by kernel_rfl) ?_
        repeat (go_big_quiet_step (fail))
        refine wpQuiet_nil ?_
        intro w6 hw'
        have hb6 : Below (wr.alloc (.cells #[.int .i64 r.k, .int .i64 r.s, .int .i64 r.q, .int .i64 r.t, .int .i64 r.o, .string r.d] 27)).heap.size (wr.alloc (.cells #[.int .i64 r.k, .int .i64 r.s, .int .i64 r.q, .int .i64 r.t, .int .i64 r.o, .string r.d] 27)) w6 := by obtain ⟨⟨dq, osq⟩, rfl⟩ := hw'; exact below_regrown _ dq osq
        clear hw' x3 x3'
        have HOW6 := Lib.hid (own_belowR HOW5.out hb6)
        have HW6 := Lib.hid (HW5.out.trans (hb6.mono (by rw [HS5.out]; omega)))
        have z3 : w6.cell? ⟨wr.heap.size, 3, none⟩ = some (.int .i64 r.t) := (HK5.out.below hb6 HK5.out.lt).cell rfl
        have hz6 : w.heap.size + 1 ≤ w6.heap.size := by have := hb6.size; rw [HS5.out] at this; omega
        clear hb6
        go_wp2
        go_roundw
        case rel => exact ⟨k + 1, _, by omega, by go_num, rfl, by rw [HNO'.out]; exact HOW6.out, HW6.out⟩
        case measure => simp [intOf]; omega
      have HYE' := Lib.hid (HYE.out (by rw [decide_eq_true ht, HTC.out]; rfl))
      have ht2 : decide (f ≤ r.t) = true := decide_eq_true ht
      clear HYE HNO
      by_cases h0 : T.length = 0
      case pos =>
        have HPM := Lib.hid (pushT_more (T := T) (z := r.t) (fun h => absurd h (by omega)))
        have hl0 : ((T.length : Int) == 0) = true := beq_iff_eq.2 (by omega)
        have hl1 : decide (T.length = 0) = true := decide_eq_true h0
        clear h0
        go_wp2
        refine wp_region_quiet_below (by kernel_rfl) (by kernel_rfl) ?_
        repeat (go_big_quiet_step (fail))
        refine wpQuiet_nil ?_
        intro w6 hw'
        have hb6 : Below (wr.alloc (.cells #[.int .i64 r.k, .int .i64 r.s, .int .i64 r.q, .int .i64 r.t, .int .i64 r.o, .string r.d] 27)).heap.size (wr.alloc (.cells #[.int .i64 r.k, .int .i64 r.s, .int .i64 r.q, .int .i64 r.t, .int .i64 r.o, .string r.d] 27)) w6 := by obtain ⟨⟨dq, osq⟩, rfl⟩ := hw'; exact below_regrown _ dq osq
        clear hw' x3 x3'
        have HOW6 := Lib.hid (own_belowR HOW5.out hb6)
        have HW6 := Lib.hid (HW5.out.trans (hb6.mono (by rw [HS5.out]; omega)))
        have z3 : w6.cell? ⟨wr.heap.size, 3, none⟩ = some (.int .i64 r.t) := (HK5.out.below hb6 HK5.out.lt).cell rfl
        have hz6 : w.heap.size + 1 ≤ w6.heap.size := by have := hb6.size; rw [HS5.out] at this; omega
        clear hb6
        go_wp2_with (at_builtin; refine wpList_append_oneG numV oneCell_num rfl _ _ 40 2 _ 8 num_one rfl HOW6.out HW6.out hz6 (g0 := w6.heap.size) rfl rfl rfl r.t rfl (by omega) (by omega) ?_; intro g2 cap2 w7 ho7 hb7 hk7 hz7; have HO7 := Lib.hid ho7; have HB7 := Lib.hid hb7; clear ho7 hb7 hk7 hz7)
        go_roundw
        case rel => exact ⟨k + 1, _, by omega, by go_num, rfl, by rw [HYE'.out, HPM.out, List.length_append]; exact HO7.out, HB7.out⟩
        case measure => simp [intOf]; omega
      have hp0 : 0 < T.length := by omega
      have hl0 : ((T.length : Int) == 0) = false := beq_eq_false_iff_ne.2 (by omega)
      have hl1 : decide (T.length = 0) = false := decide_eq_false h0
      obtain ⟨gv, hgv, hgl1, hgl2, hrow⟩ := (owNs_of_own HOW5.out).2 hp0
      subst hgv
      have y0 := hrow.cell (i := T.length - 1) (by omega)
      simp only [nmF] at y0
      have HPK := Lib.hid (fun h => pushT_keep (T := T) (z := r.t) hp0 h)
      have HPM0 := Lib.hid (fun h => pushT_more (T := T) (z := r.t) h)
      obtain ⟨l, hl⟩ : ∃ l, l = T.getD (T.length - 1) 0 := ⟨_, rfl⟩
      rw [← hl] at y0 HPK HPM0
      obtain ⟨m, hm⟩ : ∃ m, T.length = m + 1 := ⟨T.length - 1, by omega⟩
      have HM := Lib.hid hm
      rw [hm] at y0 HOW HOW5 hl0 hl1 hTl ⊢
      simp only [Nat.add_sub_cancel] at y0
      have hl2 : ((m : Int) + 1 == 0) = false := beq_eq_false_iff_ne.2 (by omega)
      have y0' := cell_regrown y0
      have hml : m ≤ 1048576 := by omega
      have hi0 : (0 : Int) ≤ (m : Int) := by omega
      clear h0 hl hm hp0 hrow
      by_cases hlr : l < r.t
      case pos =>
        have HPM := Lib.hid (HPM0.out (fun _ => hlr))
        have hlr2 : decide (l < r.t) = true := decide_eq_true hlr
        go_wp2
        refine wp_region_quiet_below (by kernel_rfl) (by kernel_rfl) ?_
        repeat (go_big_quiet_step (fail))
        refine wpQuiet_nil ?_
        intro w6 hw'
        have hb6 : Below (wr.alloc (.cells #[.int .i64 r.k, .int .i64 r.s, .int .i64 r.q, .int .i64 r.t, .int .i64 r.o, .string r.d] 27)).heap.size (wr.alloc (.cells #[.int .i64 r.k, .int .i64 r.s, .int .i64 r.q, .int .i64 r.t, .int .i64 r.o, .string r.d] 27)) w6 := by obtain ⟨⟨dq, osq⟩, rfl⟩ := hw'; exact below_regrown _ dq osq
        clear hw' x3 x3'
        have HOW6 := Lib.hid (own_belowR HOW5.out hb6)
        have HW6 := Lib.hid (HW5.out.trans (hb6.mono (by rw [HS5.out]; omega)))
        have z3 : w6.cell? ⟨wr.heap.size, 3, none⟩ = some (.int .i64 r.t) := (HK5.out.below hb6 HK5.out.lt).cell rfl
        have hz6 : w.heap.size + 1 ≤ w6.heap.size := by have := hb6.size; rw [HS5.out] at this; omega
        clear hb6
        go_wp2_with (at_builtin; refine wpList_append_oneG numV oneCell_num rfl _ _ 40 2 _ 8 num_one rfl HOW6.out HW6.out hz6 (g0 := w6.heap.size) rfl rfl rfl r.t rfl (by omega) (by omega) ?_; intro g2 cap2 w7 ho7 hb7 hk7 hz7; have HO7 := Lib.hid ho7; have HB7 := Lib.hid hb7; clear ho7 hb7 hk7 hz7)
        go_roundw
        case rel => exact ⟨k + 1, _, by omega, by go_num, rfl, by rw [HYE'.out, HPM.out, List.length_append, HM.out]; exact HO7.out, HB7.out⟩
        case measure => simp [intOf]; omega
      have HPK' := Lib.hid (HPK.out (by omega))
      have hlr2 : decide (l < r.t) = false := decide_eq_false hlr
      have hlr3 : r.t ≤ l := by omega
      go_wp2
      refine wp_region_quiet_below (by kernel_rfl) (by kernel_rfl) ?_
      repeat (go_big_quiet_step (fail))
      refine wpQuiet_nil ?_
      intro w6 hw'
      have hb6 : Below (wr.alloc (.cells #[.int .i64 r.k, .int .i64 r.s, .int .i64 r.q, .int .i64 r.t, .int .i64 r.o, .string r.d] 27)).heap.size (wr.alloc (.cells #[.int .i64 r.k, .int .i64 r.s, .int .i64 r.q, .int .i64 r.t, .int .i64 r.o, .string r.d] 27)) w6 := by obtain ⟨⟨dq, osq⟩, rfl⟩ := hw'; exact below_regrown _ dq osq
      clear hw' x3 x3'
      have HOW6 := Lib.hid (own_belowR HOW5.out hb6)
      have HW6 := Lib.hid (HW5.out.trans (hb6.mono (by rw [HS5.out]; omega)))
      have z3 : w6.cell? ⟨wr.heap.size, 3, none⟩ = some (.int .i64 r.t) := (HK5.out.below hb6 HK5.out.lt).cell rfl
      have hz6 : w.heap.size + 1 ≤ w6.heap.size := by have := hb6.size; rw [HS5.out] at this; omega
      clear hb6
      go_wp2
      go_roundw
      case rel => exact ⟨k + 1, _, by omega, by go_num, rfl, by rw [HYE'.out, HPK'.out, HM.out]; exact HOW6.out, HW6.out⟩
      case measure => simp [intOf]; omega
    · obtain rfl : k = n := by omega
      obtain ⟨Av, cv, rfl⟩ := own_slice HOW.out
      have HBB := Lib.hid (HB3.out.trans (hbel.mono (by omega)))
      clear hbel
      go_wp2
      go_ret
      rw [HT.out]
      exact ⟨Av, cv, rfl, (owNs_of_own HOW.out).mono (by omega) (Nat.le_refl _), HBB.out⟩
end Go.Proofs.Ytgkkkldajangeaa
