/-
  Needed, of the program and of the model.
-/
import Derived.Test.YtgkkkldajangeaaProg
import Derived.KernelRfl
import Derived.Test.YtgkkkldajangeaaHsNeedI
import Derived.Test.YtgkkkldajangeaaHsTrailT
namespace Go.Proofs.Ytgkkkldajangeaa
open Go.RowKit
open Bt (Rc)

theorem tst_nd {X : List Rc} (hX : hRight X = true) {L : List Int} (hL : ∀ q, q ∈ L ↔ Seen X (tmsTo X (floorR X) X.length) q) {k : Nat} (hk : k < X.length) : tstB (flR X) L (X.getD k Rc.zero) = nd X k := by
  rw [Bool.eq_iff_iff, nd_iff hX hk]
  unfold tstB
  rw [Bool.or_eq_true, rcEq_iff, decide_eq_true_eq, hL]

set_option maxHeartbeats 4000000 in
set_option maxRecDepth 100000 in
theorem impl_needed (A : Option Addr) (n ca : Nat) (X : List Rc) (w : World) (hS : SmallR X) (hca : n ≤ ca) (hA : RdRc w w.heap.size A n X) :
    Calls Try.prog 35 #[.agg #[.slice A n ca]] w (RetNs w (neededOf X)) := by
  have hn : n ≤ 1048576 := by rw [← hA.1]; exact hS.1
  have HL := Lib.hid hA.1
  have HA := Lib.hid hA; have HS := Lib.hid hS; clear hA hS
  go_enter Try.func35, Try.ntmps35
  go_wp2_with fail
  have hb0 : Below w.heap.size w (w.alloc (.cells #[.slice A n ca] 25)) := (Below.refl _ _).alloc (Nat.le_refl _) _
  have k0 := isBlk_new w 25 [.slice A n ca]
  change IsBlk (w.alloc (.cells #[.slice A n ca] 25)) _ _ _ at k0
  generalize w.alloc (.cells #[.slice A n ca] 25) = W at hb0 k0 ⊢
  refine (impl_histRight_any A n ca X W HS.out (HA.out.next hb0)).mono ?_
  rintro e w1 ⟨rfl, hb1⟩
  have HB1 := Lib.hid (hb0.trans (hb1.mono hb0.size))
  have HK1 := Lib.hid (k0.below hb1 k0.lt)
  have hx : w1.cell? ⟨w.heap.size, 0, none⟩ = some (.slice A n ca) := HK1.out.cell rfl
  clear hb0 hb1 k0
  by_cases hr : hRight X = true
  case neg =>
    have HT := Lib.hid (neededOf_no hr)
    have hr : hRight X = false := by simpa using hr
    rw [hr]
    clear hr
    go_wp2
    go_ret
    rw [HT.out]
    exact ⟨none, 0, rfl, owNs_nil _ _ _ _, HB1.out⟩
  have HT : Hid (neededOf X = ndTo X n) := by show _ = _; rw [neededOf_yes hr, HL.out]
  have HR := Lib.hid hr
  rw [hr]
  clear hr
  go_wp2_with fail
  refine (neededTest_any A n ca X w1 HR.out hca (HA.out.next HB1.out)).mono ?_
  rintro e wN ⟨B3, B4, L, rfl, hH, hLm, hbN⟩
  have HH := Lib.hid hH
  have HND : Hid (∀ k, k < n → tstB (flR X) L (X.getD k Rc.zero) = nd X k) := fun k hk => tst_nd HR.out hLm (by rw [HL.out]; exact hk)
  have HBN := Lib.hid (HB1.out.trans (hbN.mono HB1.out.size))
  have HKN := Lib.hid (HK1.out.below hbN HK1.out.lt)
  have hxN : wN.cell? ⟨w.heap.size, 0, none⟩ = some (.slice A n ca) := HKN.out.cell rfl
  generalize flR X = fl at HH HND
  clear hbN hx hH hLm
  go_wp2
  go_loopw [4, 16] (fun out i wr => ∃ (k : Nat) (v : Value), k ≤ n ∧ i = .int .i64 (k : Nat) ∧ v = out ∧ wr.ownsRow wN.heap.size 2 1 v (ndTo X k).length ((ndTo X k).map numV) ∧ Below wN.heap.size wN wr) (fun _ i _ => n - (intOf i).toNat)
  case atStart => exact ⟨0, _, by omega, rfl, rfl, World.ownsRow_nil _ _ _ _, Below.refl _ _⟩
  case round =>
    obtain ⟨k, v, hk, rfl, rfl, hown, hbel⟩ := hrel
    have HOW := Lib.hid hown; have HW := Lib.hid hbel
    clear hown
    by_cases hlt : k < n
    · obtain ⟨g, off, rfl, hg, hc0, hc1, hc2, hc3, hc4, hc5⟩ := ((HA.out.next HBN.out).below hbel).at hlt
      have HYE := Lib.hid (fun h => ndTo_yes (X := X) (k := k) h)
      have HNO := Lib.hid (fun h => ndTo_no (X := X) (k := k) h)
      have HTS := Lib.hid (HND.out k hlt)
      have hTl := ndTo_len X k
      generalize X.getD k Rc.zero = r at *
      generalize ndTo X k = T at *
      generalize nd X k = b at *
      have hzN : wN.heap.size ≤ wr.heap.size := hbel.size
      clear hbel
      go_wp2_with fail
      have hb5 : Below wr.heap.size wr (wr.alloc (.cells #[.int .i64 r.k, .int .i64 r.s, .int .i64 r.q, .int .i64 r.t, .int .i64 r.o, .string r.d] 27)) := (Below.refl _ _).alloc (Nat.le_refl _) _
      have k5 := isBlk_new wr 27 (recC r)
      change IsBlk (wr.alloc (.cells #[.int .i64 r.k, .int .i64 r.s, .int .i64 r.q, .int .i64 r.t, .int .i64 r.o, .string r.d] 27)) _ _ _ at k5
      generalize wr.alloc (.cells #[.int .i64 r.k, .int .i64 r.s, .int .i64 r.q, .int .i64 r.t, .int .i64 r.o, .string r.d] 27) = w5 at hb5 k5 ⊢
      have hH5 := (HH.out.below HW.out).below hb5
      refine (test_any B3 B4 fl r L w5 hH5).mono ?_
      rintro e w6 ⟨rfl, hb6⟩
      rw [HTS.out]
      have hbr6 : Below wr.heap.size wr w6 := hb5.trans (hb6.mono hb5.size)
      have HOW6 := Lib.hid (own_belowR HOW.out hbr6)
      have HW6 := Lib.hid (HW.out.trans (hbr6.mono hzN))
      obtain ⟨x0, x1, x2, x3, x4, x5⟩ := rcCells (k5.below hb6 k5.lt)
      have hz6 : wN.heap.size ≤ w6.heap.size := HW6.out.size
      clear hb5 k5 hb6 hbr6 hH5 hc0 hc1 hc2 hc3 hc4 hc5
      cases b with
      | true =>
        have HYE' := Lib.hid (HYE.out rfl)
        clear HYE HNO
        go_wp2_with (at_builtin; refine wpList_append_oneG numV oneCell_num rfl _ _ 40 2 _ 8 num_one rfl HOW6.out HW6.out hz6 (g0 := w6.heap.size) rfl rfl rfl r.q rfl (by omega) (by omega) ?_; intro g2 cap2 w7 ho7 hb7 hk7 hz7; have HO7 := Lib.hid ho7; have HB7 := Lib.hid hb7; clear ho7 hb7 hk7 hz7)
        go_roundw
        case rel => exact ⟨k + 1, _, by omega, by go_num, rfl, by rw [HYE'.out, List.length_append]; exact HO7.out, HB7.out⟩
        case measure => simp [intOf]; omega
      | false =>
        have HNO' := Lib.hid (HNO.out rfl)
        clear HYE HNO
        go_wp2
        go_roundw
        case rel => exact ⟨k + 1, _, by omega, by go_num, rfl, by rw [HNO'.out]; exact HOW6.out, HW6.out⟩
        case measure => simp [intOf]; omega
    · obtain rfl : k = n := by omega
      obtain ⟨Av, cv, rfl⟩ := own_slice HOW.out
      clear hbel
      go_wp2
      go_ret
      rw [HT.out]
      exact ⟨Av, cv, rfl, (owNs_of_own HOW.out).mono HBN.out.size (Nat.le_refl _), HBN.out.trans (HW.out.mono HBN.out.size)⟩

/-! the model -/
/-- a row of marks -/
def BRow (w : World) (g n : Nat) (f : Nat → Bool) : Prop := Row w g n (fun j => .bool (f j))
theorem kinds_ok {X : List Rc} (hX : hRight X = true) : ∀ i, i < X.length → 1 ≤ (X.getD i Rc.zero).k := fun _ hi => (hRight_at hX hi).1.1
def RetU (w w' : World) (g n : Nat) (P : Nat → Prop) : Prop := ∃ f, BRow w' g n f ∧ (∀ j, j < n → (f j = true ↔ P j)) ∧ Btw g (g + 1) w w'

set_option maxHeartbeats 4000000 in
set_option maxRecDepth 100000 in
theorem l04Mark_any (A : Option Addr) (n ca gm cm : Nat) (X : List Rc) (t : Int) (m : Nat → Bool) (w : World) (hr : hRight X = true) (hA : RdRc w gm A n X) (hM : BRow w gm n m) :
    Calls Try.prog 88 #[.agg #[.slice A n ca], .slice (some ⟨gm, 0, none⟩) n cm, .int .i64 t] w fun e w' => (∃ rv, e = .returned rv) ∧ RetU w w' gm n (fun j => m j = true ∨ ∃ s : Nat, s < 6 ∧ j ∈ trl X (s : Int) n t) := by
  have hn : n ≤ 48 := by rw [← hA.1]; exact hRight_len hr
  have HL := Lib.hid hA.1
  have HA := Lib.hid hA; have HR := Lib.hid hr; have HM := Lib.hid hM
  have hgm := Row.lt hM
  clear hA hr hM
  go_enter Try.func88, Try.ntmps88
  go_wp2
  have k0 := isBlk_new w 25 [.slice A n ca]
  change IsBlk (w.alloc (.cells #[.slice A n ca] 25)) _ _ _ at k0
  have hb0 : Btw gm (gm + 1) w (w.alloc (.cells #[.slice A n ca] 25)) := (Btw.refl _ _ _).alloc _
  have hM0 : BRow (w.alloc (.cells #[.slice A n ca] 25)) gm n m := Row.alloc HM.out _
  generalize w.alloc (.cells #[.slice A n ca] 25) = W at k0 hb0 hM0 ⊢
  have HK0 := Lib.hid k0; have HB0 := Lib.hid hb0; have HM0 := Lib.hid hM0
  clear k0 hb0 hM0
  go_loopw [6] (fun a wr => ∃ (s : Nat) (f : Nat → Bool), s ≤ 6 ∧ a = .int .i64 (s : Nat) ∧ BRow wr gm n f ∧ (∀ j, j < n → (f j = true ↔ (m j = true ∨ ∃ s' : Nat, s' < s ∧ j ∈ trl X (s' : Int) n t))) ∧ Btw gm (gm + 1) w wr ∧ IsBlk wr w.heap.size 25 [.slice A n ca]) (fun a _ => 6 - (intOf a).toNat)
  case atStart => exact ⟨0, m, by omega, rfl, HM0.out, fun j hj => ⟨.inl, fun h => by rcases h with h | ⟨s', h, -⟩; exact h; omega⟩, HB0.out, HK0.out⟩
  case round =>
    obtain ⟨s, f, hs, rfl, hrow, hf, hbw, hblk⟩ := hrel
    have HRO := Lib.hid hrow; have HF := Lib.hid hf; have HBW := Lib.hid hbw; have HBK := Lib.hid hblk
    have hx : wr.cell? ⟨w.heap.size, 0, none⟩ = some (.slice A n ca) := hblk.cell rfl
    have hzr := hbw.size
    have hA2 : RdRc wr wr.heap.size A n X := (HA.out.below (hbw.below (by omega))).mono (by omega)
    have HA2 := Lib.hid hA2
    clear hrow hf hbw hblk hA2
    by_cases hs6 : s < 6
    · go_wp2_with fail
      refine (l04Trail_any A n ca X (s : Int) t wr (by omega) (fun i hi => kinds_ok HR.out i (by rw [HL.out]; exact hi)) HA2.out).mono ?_
      rintro e w2 ⟨A2, c2, rfl, ho2, hb2⟩
      obtain ⟨P, hP⟩ : ∃ P, P = trl X (s : Int) n t := ⟨_, rfl⟩
      have HPL : Hid (∀ i ∈ P, i < n) := fun i hi => by rw [hP] at hi; exact trl_lt X _ _ _ i hi
      have HPE := Lib.hid hP
      have hPl : P.length ≤ 48 := by rw [hP]; have := trl_len X (s : Int) n t; omega
      rw [← hP] at ho2 ⊢
      obtain ⟨np, hnp⟩ : ∃ np, np = (plcs P).length := ⟨_, rfl⟩
      rw [← hnp] at ho2 ⊢
      have hnpl : np = P.length := by rw [hnp, plcs_len]
      have hnp48 : np ≤ 48 := by omega
      have HO2 := Lib.hid ho2
      have HR2 := Lib.hid (Row.below HRO.out hb2 (by have := Row.lt HRO.out; omega))
      have HB2 : Hid (Btw gm (gm + 1) w w2) := HBW.out.trans (Btw.of_below hb2)
      have HK2 := Lib.hid (HBK.out.below hb2 HBK.out.lt)
      have h2 := hb2.size
      have HNP := Lib.hid hnpl
      clear hb2 ho2 hP hnp hnpl hx
      go_wp2
      obtain ⟨wz, hwz⟩ : ∃ wz, wr = wz := ⟨_, rfl⟩
      subst hwz
      go_loopw [8] (fun i wq => ∃ (k : Nat) (f' : Nat → Bool), k ≤ np ∧ i = .int .i64 (k : Nat) ∧ BRow wq gm n f' ∧ (∀ j, j < n → (f' j = true ↔ (f j = true ∨ j ∈ P.take k))) ∧ Btw gm (gm + 1) w2 wq) (fun i _ => np - (intOf i).toNat)
      case atStart => exact ⟨0, f, by omega, rfl, HR2.out, fun j hj => ⟨.inl, fun h => by rcases h with h | h; exact h; simp at h⟩, Btw.refl _ _ _⟩
      case round =>
        obtain ⟨k, f', hk, rfl, hrow, hf, hbw⟩ := hrel
        have HRO' := Lib.hid hrow; have HF' := Lib.hid hf; have HBW' := Lib.hid hbw
        clear hrow hf
        by_cases hlt : k < np
        · obtain ⟨g3, rfl, hl3, hh3, hr3⟩ := HO2.out.2 (by omega)
          have hkP : k < P.length := by have := HNP.out; omega
          obtain ⟨p, hp⟩ : ∃ p, p = P.getD k 0 := ⟨_, rfl⟩
          have hpn : p < n := by rw [hp]; exact HPL.out _ (getD_lt hkP)
          have hc : wr.cell? ⟨g3, k, none⟩ = some (.int .i64 (p : Int)) := by
            have h := Row.cell (Row.same hr3 (hbw.block g3 (by omega) (by have := Row.lt HRO.out; omega))) hlt
            rw [h]
            simp only [nmF]
            congr 2
            rw [hp]
            unfold plcs
            rw [List.getD_eq_getElem?_getD, List.getElem?_map, List.getD_eq_getElem?_getD, List.getElem?_eq_getElem hkP]
            rfl
          have hm := Row.cell HRO'.out hpn
          have hfm := Row.free HRO'.out p
          have HTK : Hid (P.take (k + 1) = P.take k ++ [p]) := by show _ = _; rw [take_snoc' 0 hkP, hp]
          have hp0 : (0 : Int) ≤ (p : Int) := by omega
          have hpn' : (p : Int) < (n : Int) := by omega
          clear hp hbw hr3
          go_wp2
          go_roundw
          case rel =>
            refine ⟨k + 1, fun j => if j = p then true else f' j, by omega, by go_num, (Row.set HRO'.out p (.bool true)).congr fun j hj => by by_cases e : j = p <;> simp [e], fun j hj => ?_, HBW'.out.setCell (.inl (by dsimp only; omega)) _⟩
            rw [HTK.out, List.mem_append, List.mem_singleton]
            by_cases e : j = p
            · subst e; simp
            · show (if j = p then true else f' j) = true ↔ _
              rw [if_neg e, HF'.out j hj]
              exact ⟨fun h => by rcases h with h | h; exact .inl h; exact .inr (.inl h), fun h => by rcases h with h | h | h; exact .inl h; exact .inr h; exact absurd h e⟩
          case measure => simp [intOf]; omega
        · obtain rfl : k = np := by omega
          clear hbw
          go_wp2
          go_roundw
          case rel =>
            refine ⟨s + 1, f', by omega, by go_num, HRO'.out, fun j hj => ?_, HB2.out.trans HBW'.out, (HBW'.out.block w.heap.size HK2.out.lt (by omega)).trans HK2.out⟩
            rw [HF'.out j hj, HF.out j hj, HNP.out, List.take_length, HPE.out]
            constructor
            · rintro ((h | ⟨s', h1, h2⟩) | h)
              · exact .inl h
              · exact .inr ⟨s', by omega, h2⟩
              · exact .inr ⟨s, by omega, h⟩
            · rintro (h | ⟨s', h1, h2⟩)
              · exact .inl (.inl h)
              · by_cases e : s' = s
                · subst e; exact .inr h2
                · exact .inl (.inr ⟨s', by omega, h2⟩)
          case measure => simp [intOf]; omega
    · obtain rfl : s = 6 := by omega
      go_wp2
      first | refine bodyPost_end (results_none rfl _ _ _) rfl ?_ | refine bodyPost_ret (results_none rfl _ _ _) rfl ?_
      exact ⟨⟨_, rfl⟩, f, HRO.out, HF.out, HBW.out⟩

theorem info_bool : (Try.prog.info? 4).map (fun i => (i.zero, i.size, i.bytes)) = some (some (.bool false), 1, 1) := by kernel_rfl
/-- the first k records' times, and the floor -/
def tmsK (X : List Rc) (f : Int) (k : Nat) (t : Int) : Prop := t = f ∨ ∃ j, j < k ∧ f ≤ (X.getD j Rc.zero).t ∧ (X.getD j Rc.zero).t = t
def MkK (X : List Rc) (f : Int) (k i : Nat) : Prop := ∃ t, tmsK X f k t ∧ ∃ s : Nat, s < 6 ∧ i ∈ trl X (s : Int) X.length t
theorem mkK_all {X : List Rc} (hX : hRight X = true) (i : Nat) : MkK X (floorR X) X.length i ↔ Mk X (tmsTo X (floorR X) X.length) i := by
  constructor
  · rintro ⟨t, ht, h⟩; exact ⟨t, (tms_mem hX _ t X.length (Nat.le_refl _)).2 ht, h⟩
  · rintro ⟨t, ht, h⟩; exact ⟨t, (tms_mem hX _ t X.length (Nat.le_refl _)).1 ht, h⟩
theorem mkK_zero (X : List Rc) (f : Int) (i : Nat) : MkK X f 0 i ↔ ∃ s : Nat, s < 6 ∧ i ∈ trl X (s : Int) X.length f := by
  constructor
  · rintro ⟨t, (rfl | ⟨j, h, -⟩), h'⟩
    · exact h'
    · omega
  · intro h; exact ⟨f, .inl rfl, h⟩
theorem mkK_yes {X : List Rc} {f : Int} {k : Nat} (h : f ≤ (X.getD k Rc.zero).t) (i : Nat) : MkK X f (k + 1) i ↔ MkK X f k i ∨ ∃ s : Nat, s < 6 ∧ i ∈ trl X (s : Int) X.length (X.getD k Rc.zero).t := by
  constructor
  · rintro ⟨t, (rfl | ⟨j, h1, h2, h3⟩), h'⟩
    · exact .inl ⟨_, .inl rfl, h'⟩
    · by_cases e : j = k
      · subst e; rw [← h3] at h'; exact .inr h'
      · exact .inl ⟨t, .inr ⟨j, by omega, h2, h3⟩, h'⟩
  · rintro (⟨t, (rfl | ⟨j, h1, h2⟩), h'⟩ | h')
    · exact ⟨_, .inl rfl, h'⟩
    · exact ⟨t, .inr ⟨j, by omega, h2⟩, h'⟩
    · exact ⟨_, .inr ⟨k, by omega, h, rfl⟩, h'⟩
theorem mkK_no {X : List Rc} {f : Int} {k : Nat} (h : ¬ f ≤ (X.getD k Rc.zero).t) (i : Nat) : MkK X f (k + 1) i ↔ MkK X f k i := by
  constructor
  · rintro ⟨t, (rfl | ⟨j, h1, h2, h3⟩), h'⟩
    · exact ⟨_, .inl rfl, h'⟩
    · by_cases e : j = k
      · subst e; exact absurd h2 h
      · exact ⟨t, .inr ⟨j, by omega, h2, h3⟩, h'⟩
  · rintro ⟨t, (rfl | ⟨j, h1, h2⟩), h'⟩
    · exact ⟨_, .inl rfl, h'⟩
    · exact ⟨t, .inr ⟨j, by omega, h2⟩, h'⟩
theorem flP_yes {X : List Rc} {k : Nat} (h : (X.getD k Rc.zero).k = 4 ∧ (X.getD k Rc.zero).o = floorR X) : flP X (k + 1) = (k : Int) := by simp only [flP]; rw [if_pos h]
theorem flP_no {X : List Rc} {k : Nat} (h : ¬ ((X.getD k Rc.zero).k = 4 ∧ (X.getD k Rc.zero).o = floorR X)) : flP X (k + 1) = flP X k := by simp only [flP]; rw [if_neg h]
theorem flP_range (X : List Rc) (k : Nat) : flP X k = -1 ∨ (0 ≤ flP X k ∧ flP X k < k) := by
  induction k with
  | zero => exact .inl rfl
  | succ k ih =>
    simp only [flP]
    split
    · right; omega
    · rcases ih with h | h
      · exact .inl h
      · right; omega
/-- a function that gives a row of marks back -/
def RetBs (w : World) (n : Nat) (f : Nat → Bool) (e : Ending) (w' : World) : Prop := ∃ g, e = .returned (.slice (some ⟨g, 0, none⟩) n n) ∧ w.heap.size ≤ g ∧ BRow w' g n f ∧ Below w.heap.size w w'
open Classical in
theorem nd_of {X : List Rc} (hX : hRight X = true) (i : Nat) : nd X i = true ↔ MkK X (floorR X) X.length i ∨ flP X X.length = (i : Int) := by
  unfold nd; rw [decide_eq_true_eq, mkK_all hX]

set_option maxHeartbeats 4000000 in
set_option maxRecDepth 100000 in
theorem l04Needed_any (A : Option Addr) (n ca : Nat) (X : List Rc) (w : World) (hr : hRight X = true) (hA : RdRc w w.heap.size A n X) :
    Calls Try.prog 71 #[.agg #[.slice A n ca]] w (RetBs w n (nd X)) := by
  have hn : n ≤ 48 := by rw [← hA.1]; exact hRight_len hr
  have HL := Lib.hid hA.1
  have HA := Lib.hid hA; have HR := Lib.hid hr
  clear hA hr
  have hmk := fun W => run_makeN (P := Try.prog) 87 4 (.bool false) 1 1 Try.underlying87 info_bool n (by omega) (by omega) W
  go_enter Try.func71, Try.ntmps71
  go_wp2_with fail
  have k0 := (isBlk_new w 25 [.slice A n ca]).alloc (.cells (madeCells #[.bool false] n) 4)
  have hM0 : BRow ((w.alloc (.cells #[.slice A n ca] 25)).alloc (.cells (madeCells #[.bool false] n) 4)) (w.heap.size + 1) n (fun _ => false) := by
    have h := row_made (w.alloc (.cells #[.slice A n ca] 25)) 4 #[.bool false] n (fun _ => .bool false) (fun i hi => by simp [Nat.mod_one])
    rw [size_alloc] at h
    exact h
  have hb0 : Below w.heap.size w ((w.alloc (.cells #[.slice A n ca] 25)).alloc (.cells (madeCells #[.bool false] n) 4)) := ((Below.refl _ _).alloc (Nat.le_refl _) _).alloc (by simp) _
  change IsBlk ((w.alloc (.cells #[.slice A n ca] 25)).alloc (.cells (madeCells #[.bool false] n) 4)) _ _ _ at k0
  generalize (w.alloc (.cells #[.slice A n ca] 25)).alloc (.cells (madeCells #[.bool false] n) 4) = W at k0 hM0 hb0 ⊢
  clear hmk
  refine (l04Floor_any A n ca X W (by omega) (HA.out.next hb0)).mono ?_
  rintro e w1 ⟨rfl, hb1⟩
  have HF : Hid (floorTo X n = floorR X) := by show _ = floorTo X X.length; rw [HL.out]
  obtain ⟨fl, hfl⟩ : ∃ fl, fl = floorTo X n := ⟨_, rfl⟩
  rw [← hfl] at HF ⊢
  clear hfl
  have HB1 := Lib.hid (hb0.trans (hb1.mono hb0.size))
  have HK1 := Lib.hid (k0.below hb1 k0.lt)
  have HM1 := Lib.hid (Row.below hM0 hb1 (Row.lt hM0))
  have hx1 : w1.cell? ⟨w.heap.size, 0, none⟩ = some (.slice A n ca) := HK1.out.cell rfl
  clear hb0 hb1 k0 hM0
  go_wp2_with fail
  refine (l04Mark_any A n ca (w.heap.size + 1) n X fl (fun _ => false) w1 HR.out ((HA.out.below HB1.out).mono (by omega)) HM1.out).mono ?_
  rintro e w2 ⟨⟨rv, rfl⟩, f2, hrow2, hf2, hbw2⟩
  have hlt1 : w.heap.size + 1 < w1.heap.size := Row.lt HM1.out
  have HB2 : Hid (Below w.heap.size w w2) := HB1.out.trans ((hbw2.below (by omega)).mono (by omega))
  have HK2 : Hid (IsBlk w2 w.heap.size 25 [.slice A n ca]) := (hbw2.block w.heap.size (by omega) (.inl (by omega))).trans HK1.out
  have HM2 := Lib.hid hrow2
  have HF2 : Hid (∀ j, j < n → (f2 j = true ↔ MkK X fl 0 j)) := fun j hj => by
    rw [hf2 j hj, mkK_zero, HL.out]
    exact ⟨fun h => by rcases h with h | h; cases h; exact h, .inr⟩
  clear hrow2 hf2 hbw2 hx1
  go_wp2
  go_loopw [5, 6] (fun last i wr => ∃ (k : Nat) (f : Nat → Bool), k ≤ n ∧ i = .int .i64 (k : Nat) ∧ last = .int .i64 (flP X k) ∧ BRow wr (w.heap.size + 1) n f ∧ (∀ j, j < n → (f j = true ↔ MkK X fl k j)) ∧ Below w.heap.size w wr ∧ IsBlk wr w.heap.size 25 [.slice A n ca]) (fun _ i _ => n - (intOf i).toNat)
  case atStart => exact ⟨0, f2, by omega, rfl, rfl, HM2.out, HF2.out, HB2.out, HK2.out⟩
  case round =>
    obtain ⟨k, f, hk, rfl, rfl, hrow, hf, hbel, hblk⟩ := hrel
    have HRO := Lib.hid hrow; have HF' := Lib.hid hf; have HW := Lib.hid hbel; have HBK := Lib.hid hblk
    have hx : wr.cell? ⟨w.heap.size, 0, none⟩ = some (.slice A n ca) := hblk.cell rfl
    have hltr : w.heap.size + 1 < wr.heap.size := Row.lt hrow
    have hltw : w.heap.size < wr.heap.size := by omega
    clear hrow hf hblk
    by_cases hlt : k < n
    · obtain ⟨g, off, rfl, hg, hc0, hc1, hc2, hc3, hc4, hc5⟩ := (HA.out.below hbel).at hlt
      have HMY : Hid (fl ≤ (X.getD k Rc.zero).t → ∀ i, MkK X fl (k + 1) i ↔ MkK X fl k i ∨ ∃ s : Nat, s < 6 ∧ i ∈ trl X (s : Int) X.length (X.getD k Rc.zero).t) := Lib.hid (fun h i => mkK_yes h i)
      have HMN : Hid (¬ fl ≤ (X.getD k Rc.zero).t → ∀ i, MkK X fl (k + 1) i ↔ MkK X fl k i) := Lib.hid (fun h i => mkK_no h i)
      have HPY : Hid ((X.getD k Rc.zero).k = 4 ∧ (X.getD k Rc.zero).o = fl → flP X (k + 1) = (k : Int)) := fun h => flP_yes (by rw [← HF.out]; exact h)
      have HPN : Hid (¬ ((X.getD k Rc.zero).k = 4 ∧ (X.getD k Rc.zero).o = fl) → flP X (k + 1) = flP X k) := fun h => flP_no (by rw [← HF.out]; exact h)
      generalize X.getD k Rc.zero = r at *
      have hkn : (k : Int) < (n : Int) := by omega
      have hb5 : Below wr.heap.size wr (wr.alloc (.cells #[.int .i64 r.k, .int .i64 r.s, .int .i64 r.q, .int .i64 r.t, .int .i64 r.o, .string r.d] 27)) := (Below.refl _ _).alloc (Nat.le_refl _) _
      have k5 := isBlk_new wr 27 (recC r)
      change IsBlk (wr.alloc (.cells #[.int .i64 r.k, .int .i64 r.s, .int .i64 r.q, .int .i64 r.t, .int .i64 r.o, .string r.d] 27)) _ _ _ at k5
      have HK5 := Lib.hid k5; have HB5 := Lib.hid hb5
      clear k5 hb5 hbel
      -- behind the marks: the last floor
      have HREST : Hid (∀ (w6 : World) (f6 : Nat → Bool), BRow w6 (w.heap.size + 1) n f6 → (∀ j, j < n → (f6 j = true ↔ MkK X fl (k + 1) j)) → Below w.heap.size w w6 → IsBlk w6 w.heap.size 25 [.slice (some ⟨g, off, none⟩) n ca] →
          ∀ z, flP X (k + 1) = z → ∃ (k' : Nat) (f' : Nat → Bool), k' ≤ n ∧ Value.int .i64 ((k : Int) + 1) = .int .i64 (k' : Nat) ∧ Value.int .i64 z = .int .i64 (flP X k') ∧ BRow w6 (w.heap.size + 1) n f' ∧ (∀ j, j < n → (f' j = true ↔ MkK X fl k' j)) ∧ Below w.heap.size w w6 ∧ IsBlk w6 w.heap.size 25 [.slice (some ⟨g, off, none⟩) n ca]) :=
        fun w6 f6 h1 h2 h3 h4 z hz => ⟨k + 1, f6, by omega, by go_num, by rw [hz], h1, h2, h3, h4⟩
      by_cases ht : fl ≤ r.t
      · have HMY' := Lib.hid (HMY.out ht)
        clear HMY HMN
        go_wp2_with fail
        generalize wr.alloc (.cells #[.int .i64 r.k, .int .i64 r.s, .int .i64 r.q, .int .i64 r.t, .int .i64 r.o, .string r.d] 27) = w5 at HK5 HB5 ⊢
        have h5 : wr.heap.size < w5.heap.size := HK5.out.lt
        refine (l04Mark_any (some ⟨g, off, none⟩) n ca (w.heap.size + 1) n X r.t f w5 HR.out ((HA.out.below (HW.out.trans (HB5.out.mono HW.out.size))).mono (by omega)) (Row.below HRO.out HB5.out (by omega))).mono ?_
        rintro e w6 ⟨⟨rv, rfl⟩, f6, hrow6, hf6, hbw6⟩
        have HM6 := Lib.hid hrow6
        have HF6 : Hid (∀ j, j < n → (f6 j = true ↔ MkK X fl (k + 1) j)) := fun j hj => (hf6 j hj).trans (by show (f j = true ∨ ∃ s : Nat, s < 6 ∧ j ∈ trl X (s : Int) n r.t) ↔ _; rw [HMY'.out j, HF'.out j hj, HL.out])
        have HB6 : Hid (Below w.heap.size w w6) := HW.out.trans ((HB5.out.mono HW.out.size).trans ((hbw6.below (by omega)).mono (by omega)))
        have HK6 : Hid (IsBlk w6 w.heap.size 25 [.slice (some ⟨g, off, none⟩) n ca]) := (hbw6.block w.heap.size (by omega) (.inl (by omega))).trans (HBK.out.below HB5.out HBK.out.lt)
        obtain ⟨x0, x1, x2, x3, x4, x5⟩ := rcCells ((hbw6.block wr.heap.size h5 (.inr (by omega))).trans HK5.out)
        clear hrow6 hf6 hbw6 hc0 hc1 hc2 hc3 hc4 hc5
        by_cases h4 : r.k = 4
        · have h4' : (r.k == 4) = true := by simpa using h4
          by_cases ho : r.o = fl
          · have ho' : (r.o == fl) = true := by simpa using ho
            have HP := Lib.hid (HPY.out ⟨h4, ho⟩)
            clear HPY HPN h4 ho
            go_wp2
            go_roundw
            case rel => exact HREST.out w6 f6 HM6.out HF6.out HB6.out HK6.out _ HP.out
            case measure => simp [intOf]; omega
          · have ho' : (r.o == fl) = false := by simpa using ho
            have HP := Lib.hid (HPN.out (fun h => ho h.2))
            clear HPY HPN h4 ho
            go_wp2
            go_roundw
            case rel => exact HREST.out w6 f6 HM6.out HF6.out HB6.out HK6.out _ HP.out
            case measure => simp [intOf]; omega
        · have h4' : (r.k == 4) = false := by simpa using h4
          have HP := Lib.hid (HPN.out (fun h => h4 h.1))
          clear HPY HPN h4
          go_wp2
          go_roundw
          case rel => exact HREST.out w6 f6 HM6.out HF6.out HB6.out HK6.out _ HP.out
          case measure => simp [intOf]; omega
      · have HMN' := Lib.hid (HMN.out ht)
        have ht' : r.t < fl := by omega
        have HF6 : Hid (∀ j, j < n → (f j = true ↔ MkK X fl (k + 1) j)) := fun j hj => by rw [HF'.out j hj, HMN'.out j]
        have HM6 : Hid (BRow (wr.alloc (.cells #[.int .i64 r.k, .int .i64 r.s, .int .i64 r.q, .int .i64 r.t, .int .i64 r.o, .string r.d] 27)) (w.heap.size + 1) n f) := Row.below HRO.out HB5.out (by omega)
        have HB6 := Lib.hid (HW.out.trans (HB5.out.mono HW.out.size))
        have HK6 := Lib.hid (HBK.out.below HB5.out HBK.out.lt)
        clear HMY HMN ht
        by_cases h4 : r.k = 4
        · have h4' : (r.k == 4) = true := by simpa using h4
          by_cases ho : r.o = fl
          · have ho' : (r.o == fl) = true := by simpa using ho
            have HP := Lib.hid (HPY.out ⟨h4, ho⟩)
            clear HPY HPN h4 ho
            go_wp2
            go_roundw
            case rel => exact HREST.out _ f HM6.out HF6.out HB6.out HK6.out _ HP.out
            case measure => simp [intOf]; omega
          · have ho' : (r.o == fl) = false := by simpa using ho
            have HP := Lib.hid (HPN.out (fun h => ho h.2))
            clear HPY HPN h4 ho
            go_wp2
            go_roundw
            case rel => exact HREST.out _ f HM6.out HF6.out HB6.out HK6.out _ HP.out
            case measure => simp [intOf]; omega
        · have h4' : (r.k == 4) = false := by simpa using h4
          have HP := Lib.hid (HPN.out (fun h => h4 h.1))
          clear HPY HPN h4
          go_wp2
          go_roundw
          case rel => exact HREST.out _ f HM6.out HF6.out HB6.out HK6.out _ HP.out
          case measure => simp [intOf]; omega
    · obtain rfl : k = n := by omega
      clear hbel
      have hpr := flP_range X k
      have HND : Hid (∀ i, nd X i = true ↔ MkK X fl k i ∨ flP X k = (i : Int)) := fun i => by rw [nd_of HR.out, ← HF.out, HL.out]
      obtain ⟨z, hz⟩ : ∃ z, z = flP X k := ⟨_, rfl⟩
      rw [← hz] at hpr HND ⊢
      clear hz
      rcases hpr with rfl | ⟨h0, h1⟩
      · go_wp2
        go_ret
        refine ⟨w.heap.size + 1, rfl, by omega, Row.congr HRO.out fun j hj => ?_, HW.out⟩
        congr 1
        rw [Bool.eq_iff_iff, HF'.out j hj, HND.out j]
        exact ⟨.inl, fun h => by rcases h with h | h; exact h; omega⟩
      · obtain ⟨p, rfl⟩ : ∃ p : Nat, z = (p : Int) := ⟨z.toNat, by omega⟩
        have hpn : p < k := by omega
        have hm := Row.cell HRO.out hpn
        have hfm := Row.free HRO.out p
        have hp0 : (0 : Int) ≤ (p : Int) := by omega
        go_wp2
        go_ret
        refine ⟨w.heap.size + 1, rfl, by omega, (Row.set HRO.out p (.bool true)).congr fun j hj => ?_, HW.out.setCell (by dsimp only; omega) _⟩
        by_cases e : j = p
        · subst e; rw [if_pos rfl]; congr 1; exact ((HND.out j).2 (.inr rfl)).symm
        · rw [if_neg e]
          congr 1
          rw [Bool.eq_iff_iff, HF'.out j hj, HND.out j]
          exact ⟨.inl, fun h => by rcases h with h | h; exact h; omega⟩

theorem own_ne_brow {w : World} {base g2 gm cap n m : Nat} {T : List Int} {x : Int} {f : Nat → Bool} (ho : w.ownsRow base 2 1 (.slice (some ⟨g2, 0, none⟩) m cap) m ((T ++ [x]).map numV)) (hb : BRow w gm n f) (hn : 0 < n) : g2 ≠ gm := by
  rintro rfl
  have hl := ho.1
  rw [List.length_map, List.length_append] at hl
  simp at hl
  obtain ⟨f', hrow, h1, -, -, hf⟩ := rowIs_of_own ho
  have c1 := rowIs_cell hrow (show 0 < cap by omega)
  have c2 := Row.cell hb hn
  rw [c1] at c2
  have hx : ((T ++ [x]).map numV)[0]? = some (numV ((T ++ [x]).getD 0 0)) := by
    rw [List.getElem?_map, List.getD_eq_getElem?_getD, List.getElem?_eq_getElem (by simp)]; rfl
  rw [hf 0 _ hx] at c2
  simp [numV] at c2

set_option maxHeartbeats 4000000 in
set_option maxRecDepth 100000 in
theorem spec_needed (A : Option Addr) (n ca : Nat) (X : List Rc) (w : World) (hS : SmallR X) (hA : RdRc w w.heap.size A n X) :
    Calls Try.prog 36 #[.agg #[.slice A n ca]] w (RetNs w (neededOf X)) := by
  have HL := Lib.hid hA.1
  have HA := Lib.hid hA; have HS := Lib.hid hS; clear hA hS
  go_enter Try.func36, Try.ntmps36
  go_wp2_with fail
  have hb0 : Below w.heap.size w ((w.alloc (.cells #[.slice A n ca] 25)).alloc (.cells #[] 2)) := ((Below.refl _ _).alloc (Nat.le_refl _) _).alloc (by simp) _
  have k0 := (isBlk_new w 25 [.slice A n ca]).alloc (.cells #[] 2)
  have ho0 : ((w.alloc (.cells #[.slice A n ca] 25)).alloc (.cells #[] 2)).ownsRow (w.heap.size + 1) 2 1 (.slice (some ⟨w.heap.size + 1, 0, none⟩) 0 0) 0 (([] : List Int).map numV) := ⟨rfl, .inr ⟨w.heap.size + 1, 0, #[], rfl, Nat.le_refl _, by have h := isBlk_new (w.alloc (.cells #[.slice A n ca] 25)) 2 []; rw [size_alloc] at h; exact h, Nat.le_refl _, by simp [maxLen], rfl, rfl⟩⟩
  have hs0 : w.heap.size + 2 ≤ ((w.alloc (.cells #[.slice A n ca] 25)).alloc (.cells #[] 2)).heap.size := by simp
  change IsBlk ((w.alloc (.cells #[.slice A n ca] 25)).alloc (.cells #[] 2)) _ _ _ at k0
  generalize (w.alloc (.cells #[.slice A n ca] 25)).alloc (.cells #[] 2) = W at hb0 k0 ho0 hs0 ⊢
  refine (spec_histRight_any A n ca X W HS.out (HA.out.next hb0)).mono ?_
  rintro e w1 ⟨rfl, hb1⟩
  have HB1 := Lib.hid (hb0.trans (hb1.mono hb0.size))
  have HK1 := Lib.hid (k0.below hb1 k0.lt)
  have HO1 := Lib.hid (own_belowR ho0 hb1)
  have hx : w1.cell? ⟨w.heap.size, 0, none⟩ = some (.slice A n ca) := HK1.out.cell rfl
  have hz1 : w.heap.size + 2 ≤ w1.heap.size := Nat.le_trans hs0 hb1.size
  clear hb0 hb1 k0 ho0 hs0
  by_cases hr : hRight X = true
  case neg =>
    have HT := Lib.hid (neededOf_no hr)
    have hr : hRight X = false := by simpa using hr
    rw [hr]
    clear hr
    go_wp2
    go_ret
    rw [HT.out]
    exact ⟨_, 0, rfl, owNs_nil _ _ _ _, HB1.out⟩
  have hn : n ≤ 48 := by rw [← HL.out]; exact hRight_len hr
  have HT : Hid (neededOf X = ndTo X n) := by show _ = _; rw [neededOf_yes hr, HL.out]
  have HR := Lib.hid hr
  rw [hr]
  clear hr
  go_wp2_with fail
  refine (l04Needed_any A n ca X w1 HR.out (HA.out.next HB1.out)).mono ?_
  rintro e wN ⟨gm, rfl, hgm, hrow, hbN⟩
  have HRO := Lib.hid hrow
  have HBN := Lib.hid (HB1.out.trans (hbN.mono HB1.out.size))
  have HKN := Lib.hid (HK1.out.below hbN HK1.out.lt)
  have HON := Lib.hid (own_belowR HO1.out hbN)
  have hzN : w1.heap.size ≤ wN.heap.size := hbN.size
  have hgl := Row.lt hrow
  clear hbN hx hrow
  go_wp2
  go_loopw [3, 5] (fun out i wr => ∃ (k : Nat) (v : Value), k ≤ n ∧ i = .int .i64 (k : Nat) ∧ v = out ∧ wr.ownsRow (w.heap.size + 1) 2 1 v (ndTo X k).length ((ndTo X k).map numV) ∧ Below (w.heap.size + 1) wN wr ∧ (∀ q, v.ownBlock = some q → q ≠ gm) ∧ BRow wr gm n (nd X)) (fun _ i _ => n - (intOf i).toNat)
  case atStart =>
    refine ⟨0, _, by omega, rfl, rfl, HON.out, Below.refl _ _, fun q hq => ?_, HRO.out⟩
    have : w.heap.size + 1 = q := by simpa [Value.ownBlock] using hq
    omega
  case round =>
    obtain ⟨k, v, hk, rfl, rfl, hown, hbel, hvg, hrow⟩ := hrel
    have HOW := Lib.hid hown; have HW := Lib.hid hbel; have HVG := Lib.hid hvg; have HRO' := Lib.hid hrow
    have hzr : wN.heap.size ≤ wr.heap.size := hbel.size
    clear hown hvg hrow
    by_cases hlt : k < n
    · obtain ⟨g, off, rfl, hg, hc0, hc1, hc2, hc3, hc4, hc5⟩ := ((HA.out.below HBN.out).below (hbel.mono (by omega))).at hlt
      have hx : wr.cell? ⟨w.heap.size, 0, none⟩ = some (.slice (some ⟨g, off, none⟩) n ca) := (HKN.out.below (B := w.heap.size + 1) hbel (by omega)).cell rfl
      have HYE := Lib.hid (fun h => ndTo_yes (X := X) (k := k) h)
      have HNO := Lib.hid (fun h => ndTo_no (X := X) (k := k) h)
      have hTl := ndTo_len X k
      have hm := Row.cell HRO'.out hlt
      generalize X.getD k Rc.zero = r at *
      generalize ndTo X k = T at *
      obtain ⟨b, hb⟩ : ∃ b, b = nd X k := ⟨_, rfl⟩
      rw [← hb] at hm HYE HNO
      clear hbel hb
      have hk0 : (0 : Int) ≤ (k : Int) := by omega
      have hkn : (k : Int) < (n : Int) := by omega
      cases b with
      | true =>
        have HYE' := Lib.hid (HYE.out rfl)
        clear HYE HNO
        go_wp2_with (at_builtin; refine wpList_append_oneG numV oneCell_num rfl _ _ 40 2 _ 8 num_one rfl HOW.out HW.out (by omega) (g0 := wr.heap.size) rfl rfl rfl r.q rfl (by omega) (by omega) ?_; intro g2 cap2 w7 ho7 hb7 hk7 hz7; have HO7 := Lib.hid ho7; have HB7 := Lib.hid hb7; have HK7 := Lib.hid hk7; clear ho7 hb7 hk7 hz7)
        have hrow7 : BRow w7 gm n (nd X) := Row.same HRO'.out (HK7.out gm (by omega) (fun e => HVG.out gm e rfl))
        have hne := own_ne_brow HO7.out hrow7 (by omega)
        have HRO7 := Lib.hid hrow7; have HNE := Lib.hid hne
        clear hrow7 hne
        go_roundw
        case rel => exact ⟨k + 1, _, by omega, by go_num, rfl, by rw [HYE'.out, List.length_append]; exact HO7.out, HB7.out, fun q hq => (show g2 = q by simpa [Value.ownBlock] using hq) ▸ HNE.out, HRO7.out⟩
        case measure => simp [intOf]; omega
      | false =>
        have HNO' := Lib.hid (HNO.out rfl)
        clear HYE HNO
        go_wp2
        go_roundw
        case rel => exact ⟨k + 1, _, by omega, by go_num, rfl, by rw [HNO'.out]; exact HOW.out, HW.out, HVG.out, HRO'.out⟩
        case measure => simp [intOf]; omega
    · obtain rfl : k = n := by omega
      obtain ⟨Av, cv, rfl⟩ := own_slice HOW.out
      clear hbel
      go_wp2
      go_ret
      rw [HT.out]
      exact ⟨Av, cv, rfl, (owNs_of_own HOW.out).mono (by omega) (Nat.le_refl _), HBN.out.trans (HW.out.mono (by omega))⟩
end Go.Proofs.Ytgkkkldajangeaa
