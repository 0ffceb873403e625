/-
  Times, of the program.
-/
import Derived.Test.YtgkkkldajangeaaProg
import Derived.KernelRfl
import Derived.Test.YtgkkkldajangeaaHsTimesP
import Derived.Test.YtgkkkldajangeaaHsTouch
import Derived.Test.YtgkkkldajangeaaHsFloor
namespace Go.Proofs.Ytgkkkldajangeaa
open Go.RowKit
open Bt (Rc)

theorem times_nil {X : List Rc} {s : Int} (h : ¬ (hRight X = true ∧ 0 ≤ s ∧ s ≤ 5)) : timesOf X s = [] := by unfold timesOf; rw [if_neg h]
theorem times_yes {X : List Rc} {s : Int} (h : hRight X = true ∧ 0 ≤ s ∧ s ≤ 5) : timesOf X s = timesTo X s (floorR X) X.length := by unfold timesOf; rw [if_pos h]
theorem Fr.below {B base : Nat} {v : Value} {w w' : World} {n size : Nat} {e : TypeId} {xs : List Value} (h : Fr B v w w') (ho : w.ownsRow base e size v n xs) (hb : B ≤ base) (hs : B ≤ w.heap.size) : Below B w w' :=
  ⟨h.os, h.tape, h.output, h.size, fun k hk => h.block k (by omega) (by omega) (fun e => by have := (own_block_ltR ho e).1; omega)⟩

set_option maxHeartbeats 4000000 in
set_option maxRecDepth 100000 in
theorem impl_times (A : Option Addr) (n ca : Nat) (X : List Rc) (s : Int) (w : World) (hS : SmallR X) (hA : RdRc w w.heap.size A n X) :
    Calls Try.prog 21 #[.agg #[.slice A n ca], .int .i64 s] w (RetNs w (timesOf X s)) := by
  have hn : n ≤ 1048576 := by rw [← hA.1]; exact hS.1
  have HL := Lib.hid hA.1
  have HA := Lib.hid hA; have HS := Lib.hid hS; clear hA hS
  go_enter Try.func21, Try.ntmps21
  go_wp2_with fail
  have hb0 : Below w.heap.size w (w.alloc (.cells #[.slice A n ca] 25)) := (Below.refl _ _).alloc (Nat.le_refl _) _
  have k0 := isBlk_new w 25 [.slice A n ca]
  change IsBlk (w.alloc (.cells #[.slice A n ca] 25)) _ _ _ at k0
  generalize w.alloc (.cells #[.slice A n ca] 25) = W at hb0 k0 ⊢
  refine (impl_histRight_any A n ca X W HS.out (HA.out.next hb0)).mono ?_
  rintro e w1 ⟨rfl, hb1⟩
  have HB1 := Lib.hid (hb0.trans (hb1.mono hb0.size))
  have HK1 := Lib.hid (k0.below hb1 k0.lt)
  have hx : w1.cell? ⟨w.heap.size, 0, none⟩ = some (.slice A n ca) := HK1.out.cell rfl
  clear hb0 hb1 k0
  by_cases hr : hRight X = true
  case neg =>
    have HT := Lib.hid (times_nil (s := s) (X := X) (fun h => hr h.1))
    have hr : hRight X = false := by simpa using hr
    rw [hr]
    clear hr
    go_wp2
    go_ret
    rw [HT.out]
    exact ⟨none, 0, rfl, owNs_nil _ _ _ _, HB1.out⟩
  rw [hr]
  go_wp2_with fail
  refine (isSector_any s w1).mono ?_
  rintro e w2 ⟨rfl, rfl⟩
  by_cases hs : 0 ≤ s ∧ s ≤ 5
  case neg =>
    have HT := Lib.hid (times_nil (s := s) (X := X) (fun h => hs h.2))
    rw [rcIs_no hs]
    clear hr hs
    go_wp2
    go_ret
    rw [HT.out]
    exact ⟨none, 0, rfl, owNs_nil _ _ _ _, HB1.out⟩
  have HT := Lib.hid (times_yes ⟨hr, hs⟩)
  rw [rcIs_yes hs]
  have HFL : Hid (floorOf X = floorR X) := by show _ = _; unfold floorOf; rw [if_pos hr]
  obtain ⟨f, hf⟩ : ∃ f, f = floorR X := ⟨_, rfl⟩
  have HUP := Lib.hid (times_upw hr s f)
  have HNX : Hid (∀ k, k < n → (prevR X k).t ≤ (X.getD k Rc.zero).t) := fun k hk => (hRight_at hr (by rw [HL.out]; exact hk)).2.2
  rw [HL.out, ← hf] at HT
  rw [← hf] at HFL
  clear hr hs hf
  go_wp2_with fail
  refine (impl_floorOf_any A n ca X w1 HS.out (HA.out.next HB1.out)).mono ?_
  rintro e w3 ⟨rfl, hb3⟩
  rw [HFL.out]
  have HB3 := Lib.hid (HB1.out.trans (hb3.mono HB1.out.size))
  have HK3 := Lib.hid (HK1.out.below hb3 HK1.out.lt)
  have hx3 : w3.cell? ⟨w.heap.size, 0, none⟩ = some (.slice A n ca) := HK3.out.cell rfl
  have hlt3 : w.heap.size < w3.heap.size := HK3.out.lt
  clear hb3 hx
  go_wp2
  have hb4 : Below w3.heap.size w3 (w3.alloc (.cells #[.slice none 0 0] 82)) := (Below.refl _ _).alloc (Nat.le_refl _) _
  have k4 := isBlk_new w3 82 [.slice none 0 0]
  have hs4 : w3.heap.size + 1 ≤ (w3.alloc (.cells #[.slice none 0 0] 82)).heap.size := by simp
  change IsBlk (w3.alloc (.cells #[.slice none 0 0] 82)) _ _ _ at k4
  generalize w3.alloc (.cells #[.slice none 0 0] 82) = W4 at hb4 k4 hs4 ⊢
  have HB4 := Lib.hid hb4; have HK4 := Lib.hid k4
  clear hb4 k4
  go_loopw [22] (fun i wr => ∃ (k : Nat) (v : Value), k ≤ n ∧ i = .int .i64 (k : Nat) ∧ IsBlk wr w3.heap.size 82 [v] ∧ wr.ownsRow (w3.heap.size + 1) 2 1 v (timesTo X s f k).length ((timesTo X s f k).map numV) ∧ Below w3.heap.size w3 wr) (fun i _ => n - (intOf i).toNat)
  case atStart => exact ⟨0, _, by omega, rfl, HK4.out, World.ownsRow_nil _ _ _ _, HB4.out⟩
  case round =>
    obtain ⟨k, v, hk, rfl, hblk, hown, hbel⟩ := hrel
    have HBL := Lib.hid hblk; have HOW := Lib.hid hown; have HW := Lib.hid hbel
    have hzr : w3.heap.size < wr.heap.size := hblk.lt
    clear hblk hown
    by_cases hlt : k < n
    · obtain ⟨g, off, rfl, hg, hc0, hc1, hc2, hc3, hc4, hc5⟩ := ((HA.out.next HB3.out).below hbel).at hlt
      have HYE := Lib.hid (fun h => timesTo_yes (X := X) (s := s) (f := f) (k := k) h)
      have HNO := Lib.hid (fun h => timesTo_no (X := X) (s := s) (f := f) (k := k) h)
      have HU := Lib.hid ((HUP.out k (by rw [HL.out]; omega)).mono (HNX.out k hlt))
      have hTl := timesTo_len X s f k
      generalize X.getD k Rc.zero = r at *
      generalize timesTo X s f k = T at *
      clear hbel
      by_cases ht : f ≤ r.t
      · go_wp2_with fail
        have hb5 : Below wr.heap.size wr (wr.alloc (.cells #[.int .i64 r.k, .int .i64 r.s, .int .i64 r.q, .int .i64 r.t, .int .i64 r.o, .string r.d] 27)) := (Below.refl _ _).alloc (Nat.le_refl _) _
        have k5 := isBlk_new wr 27 (recC r)
        change IsBlk (wr.alloc (.cells #[.int .i64 r.k, .int .i64 r.s, .int .i64 r.q, .int .i64 r.t, .int .i64 r.o, .string r.d] 27)) _ _ _ at k5
        generalize wr.alloc (.cells #[.int .i64 r.k, .int .i64 r.s, .int .i64 r.q, .int .i64 r.t, .int .i64 r.o, .string r.d] 27) = W5 at hb5 k5 ⊢
        refine (touches_any r s W5).mono ?_
        rintro e w6 ⟨rfl, hb6⟩
        have hbr6 : Below wr.heap.size wr w6 := hb5.trans (hb6.mono hb5.size)
        have HBR6 := Lib.hid hbr6
        have HBL6 := Lib.hid (HBL.out.below hbr6 HBL.out.lt)
        have HOW6 := Lib.hid (own_belowR HOW.out hbr6)
        have HW6 := Lib.hid (HW.out.trans (hbr6.mono (by omega)))
        obtain ⟨x0, x1, x2, x3, x4, x5⟩ := rcCells (k5.below hb6 k5.lt)
        have hz6 : w3.heap.size < w6.heap.size := HBL6.out.lt
        clear hb5 k5 hb6 hbr6 hc0 hc1 hc2 hc3 hc4 hc5
        by_cases htc : tch r s = true
        · have HYE' := Lib.hid (HYE.out (by rw [decide_eq_true ht, htc]; rfl))
          rw [htc]
          clear htc HYE HNO
          go_wp2_with fail
          refine (add_end w3.heap.size v (w3.heap.size + 1) T r.t w6 (by omega) (by omega) (by omega) HU.out.srt HU.out.ends HBL6.out HOW6.out).mono ?_
          rintro e w7 ⟨rv, v', T', rfl, had, hbl7, how7, hfr7, -⟩
          have hT' := HU.out.added had
          subst hT'
          have HBL7 := Lib.hid hbl7; have HOW7 := Lib.hid how7
          have HW7 := Lib.hid (HW6.out.trans (hfr7.below HOW6.out (by omega) (by omega)))
          clear hbl7 how7 hfr7 had x0 x1 x2 x3 x4 x5
          go_wp2
          go_roundw
          case rel => exact ⟨k + 1, v', by omega, by go_num, HBL7.out, by rw [HYE'.out]; exact HOW7.out, HW7.out⟩
          case measure => simp [intOf]; omega
        · have htc : tch r s = false := by simpa using htc
          have HNO' := Lib.hid (HNO.out (by rw [htc]; simp))
          rw [htc]
          clear htc HYE HNO
          go_wp2
          go_roundw
          case rel => exact ⟨k + 1, v, by omega, by go_num, HBL6.out, by rw [HNO'.out]; exact HOW6.out, HW6.out⟩
          case measure => simp [intOf]; omega
      · have HNO' := Lib.hid (HNO.out (by rw [decide_eq_false ht]; rfl))
        have ht' : r.t < f := by omega
        clear ht HYE HNO
        have hb5 : ∀ o, Below wr.heap.size wr (wr.alloc o) := fun o => (Below.refl _ _).alloc (Nat.le_refl _) _
        have HB5 := Lib.hid hb5
        clear hb5
        go_wp2
        go_roundw
        case rel => exact ⟨k + 1, v, by omega, by go_num, HBL.out.alloc _, by rw [HNO'.out]; exact own_belowR HOW.out (HB5.out _), HW.out.trans ((HB5.out _).mono (by omega))⟩
        case measure => simp [intOf]; omega
    · obtain rfl : k = n := by omega
      obtain ⟨Av, cv, rfl⟩ := own_slice HOW.out
      have hv : wr.cell? ⟨w3.heap.size, 0, none⟩ = some (.slice Av (timesTo X s f k).length cv) := HBL.out.cell rfl
      have HBB := Lib.hid (HB3.out.trans (hbel.mono HB3.out.size))
      clear hbel
      go_wp2
      go_ret
      rw [HT.out]
      exact ⟨Av, cv, rfl, (owNs_of_own HOW.out).mono (by have := HB3.out.size; omega) (Nat.le_refl _), HBB.out⟩
end Go.Proofs.Ytgkkkldajangeaa
