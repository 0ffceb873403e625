/-
  l05Put, of the document's model: a record put in its place.
-/
import Derived.BigQuiet
import Derived.Maps.AppendAt
import Derived.Laws.AppendOwnNone
import Derived.Test.YtfpibbhcecdbgaaGreatDoorProg
import Derived.KernelRfl
import Derived.Test.YtfpibbhcecdbgaaGreatDoorLgMountP
import Derived.Test.YtfpibbhcecdbgaaGreatDoorHsApp
namespace Go.Proofs.YtfpibbhcecdbgaaGreatDoor
open Go.RowKit
open Bt (Rc)

/-- a record's place: behind those that are less -/
theorem put_at (r : Rc) : ∀ (Y : List Rc) (k : Nat), k ≤ Y.length → (∀ j, j < k → (Y.getD j Rc.zero).q < r.q) → (k < Y.length → r.q ≤ (Y.getD k Rc.zero).q) →
    put Y r = if k < Y.length ∧ (Y.getD k Rc.zero).q = r.q then Y else Y.take k ++ r :: Y.drop k
  | [], k, hk, _, _ => by
    obtain rfl : k = 0 := by simpa using hk
    rfl
  | a :: l, 0, _, _, hge => by
    have h := hge (by simp)
    simp only [List.getD_cons_zero] at h
    unfold put
    rw [if_neg (by omega)]
    by_cases e : a.q = r.q
    · rw [if_pos e, if_pos ⟨by simp, by simpa using e⟩]
    · rw [if_neg e, if_neg (fun h => e (by simpa using h.2))]; rfl
  | a :: l, k + 1, hk, hlt, hge => by
    have h0 : a.q < r.q := by simpa using hlt 0 (by omega)
    have ih := put_at r l k (by simpa using hk) (fun j hj => by simpa using hlt (j + 1) (by omega)) (fun h => by simpa using hge (by simpa using h))
    unfold put
    rw [if_pos h0, ih]
    by_cases e : k < l.length ∧ (l.getD k Rc.zero).q = r.q
    · rw [if_pos e, if_pos ⟨by simpa using e.1, by simpa using e.2⟩]
    · rw [if_neg e, if_neg (fun h => e ⟨by simpa using h.1, by simpa using h.2⟩)]; rfl
theorem rcA_take (Y : List Rc) (k : Nat) : rcA (Y.take k) = (rcA Y).take (k * 6) := by
  induction Y generalizing k with
  | nil => simp [rcA]
  | cons a l ih =>
    cases k with
    | zero => simp [rcA]
    | succ k =>
      have h6 : (recC a).length = 6 := rfl
      rw [List.take_succ_cons]
      show recC a ++ rcA (l.take k) = List.take _ (recC a ++ rcA l)
      rw [ih, List.take_append, h6, show (k + 1) * 6 - 6 = k * 6 by omega, List.take_of_length_le (l := recC a) (by omega)]
theorem rcA_drop (Y : List Rc) (k : Nat) : rcA (Y.drop k) = (rcA Y).drop (k * 6) := by
  induction Y generalizing k with
  | nil => simp [rcA]
  | cons a l ih =>
    cases k with
    | zero => simp
    | succ k =>
      have h6 : (recC a).length = 6 := rfl
      rw [List.drop_succ_cons]
      show rcA (l.drop k) = List.drop _ (recC a ++ rcA l)
      rw [ih, List.drop_append, h6, show (k + 1) * 6 - 6 = k * 6 by omega, List.drop_of_length_le (l := recC a) (by omega)]; rfl
theorem rcA_one (Y : List Rc) : ∀ u ∈ rcA Y, u.oneCell' = true := fun u hu => by
  obtain ⟨p, -, hp⟩ := List.mem_flatMap.1 hu
  exact recC_one p u hp
theorem info_recP : (Tryz.prog.info? 68).map (fun i => (i.zero, i.size, i.bytes)) = some (some (recV Rc.zero), 6, 56) := by kernel_rfl

theorem bel_dN {B : Nat} {w a : World} (h : Below B w a) (n : Nat) : Below B w (a.drewN n) := ⟨h.os, h.tape, h.output, h.size, h.block⟩
theorem blk_dN {w : World} {g : Nat} {e : TypeId} {cs : List Value} (h : IsBlk w g e cs) (n : Nat) : IsBlk (w.drewN n) g e cs := h
theorem own_empty {w : World} {base : Nat} {e : TypeId} {k : Nat} (hb : base ≤ w.heap.size) : (w.alloc (.cells #[] e)).ownsRow base e k (.slice (some ⟨w.heap.size, 0, none⟩) 0 0) 0 [] :=
  ⟨by simp, .inr ⟨w.heap.size, 0, #[], rfl, hb, isBlk_new w e [], Nat.le_refl _, by simp [maxLen], by simp, by simp⟩⟩
theorem rcA_put (Y : List Rc) (r : Rc) (k : Nat) : rcA (Y.take k ++ r :: Y.drop k) = [] ++ rcA (Y.take k) ++ recC r ++ rcA (Y.drop k) := by simp [rcA]
theorem own_monoR {w : World} {lo lo' n k : Nat} {e : TypeId} {v : Value} {xs : List Value} (h : w.ownsRow lo e k v n xs) (hl : lo' ≤ lo) : w.ownsRow lo' e k v n xs := by
  refine ⟨h.1, ?_⟩
  rcases h.2 with h1 | ⟨g, cap, cur, h1, h2, h3⟩
  · exact .inl h1
  · exact .inr ⟨g, cap, cur, h1, by omega, h3⟩

set_option maxHeartbeats 4000000 in
set_option maxRecDepth 100000 in
/-- at no record: the record alone -/
theorem l05Put_nil (base : Nat) (r : Rc) (w : World) (hb : base ≤ w.heap.size) :
    Calls Tryz.prog 145 #[.slice none 0 0, recV r] w fun e w' => ∃ v', e = .returned v' ∧ w'.ownsRow base 68 6 v' 1 (rcA [r]) ∧ Below w.heap.size w w' := by
  obtain ⟨i0, hi0, hiv⟩ := Option.map_eq_some_iff.1 info_recP
  have Hi := Lib.hid hi0; have Z0 := Lib.hid (congrArg (·.1) hiv); have Z1 := Lib.hid (congrArg (·.2.1) hiv); have Z2 := Lib.hid (congrArg (·.2.2) hiv)
  clear hi0 hiv
  go_enter Tryz.func145, Tryz.ntmps145
  go_wp2
  have hb0 : Below w.heap.size w (w.alloc (.cells (recC r).toArray 68)) := (Below.refl _ _).alloc (Nat.le_refl _) _
  have k0 := isBlk_new w 68 (recC r)
  change Code.wp _ _ _ _ (w.alloc (.cells (recC r).toArray 68))
  generalize w.alloc (.cells (recC r).toArray 68) = W at hb0 k0 ⊢
  have HB0 := Lib.hid hb0; have HK0 := Lib.hid k0
  obtain ⟨r0, r1, r2, r3, r4, r5⟩ := rcCells k0
  clear hb0 k0
  refine wp_loop_rounds 1 ?_
  rw [rounds_succ]
  go_wp2
  go_quiet (fail)
  go_wp2
  go_quiet (fail)
  generalize hWd : (W.drewN _).drewN _ = Wd
  have HBd : Hid (Below w.heap.size w Wd) := by show Below _ _ _; rw [← hWd]; exact bel_dN (bel_dN HB0.out _) _
  have HKd : Hid (IsBlk Wd w.heap.size 68 (recC r)) := by show IsBlk _ _ _ _; rw [← hWd]; exact HK0.out
  have hsd : base ≤ Wd.heap.size := Nat.le_trans hb HBd.out.size
  clear hWd r0 r1 r2 r3 r4 r5 HK0
  obtain ⟨r0, r1, r2, r3, r4, r5⟩ := rcCells HKd.out
  have HE := Lib.hid (own_empty (w := Wd) (base := Wd.heap.size) (e := 68) (k := 6) (Nat.le_refl _))
  have hwd : w.heap.size < Wd.heap.size := HKd.out.lt
  have HBe := Lib.hid (HBd.out.alloc HBd.out.size (.cells #[] 68))
  have hse : Wd.heap.size < (Wd.alloc (.cells #[] 68)).heap.size := by simp
  have HRe : Hid (IsBlk ((Wd.alloc (.cells #[] 68)).alloc (.cells (recC r).toArray 68)) (Wd.heap.size + 1) 68 (recC r)) := by
    have h := isBlk_new (Wd.alloc (.cells #[] 68)) 68 (recC r)
    rw [size_alloc] at h; exact h
  have HBf := Lib.hid (HBe.out.alloc HBe.out.size (.cells (recC r).toArray 68))
  have HEf := Lib.hid (HE.out.alloc (.cells (recC r).toArray 68))
  go_wp2_with (first
    | (at_builtin; refine wpList_append_own_none rfl _ _ 58 rfl Wd.heap.size 68 i0 6 Tryz.underlying58 Hi.out _ 0 [] rfl HE.out rfl ?_)
    | (at_builtin; refine wpList_append_own_at _ rfl _ _ 58 rfl Wd.heap.size 68 i0 (recV Rc.zero) 6 56 Tryz.underlying58 Hi.out Z0.out Z1.out Z2.out rfl (by decide) _ 0 [] rfl HEf.out ⟨Wd.heap.size + 1, 0, none⟩ 1 1 (recC r) rfl rfl (fun j u hj => by rw [add_off, Nat.zero_add]; exact HRe.out.cell hj) (recC_one r) (by unfold maxLen; omega) (by omega) (by simp; omega) ?_; intro v5 w5 ho5 hg5 _ _; have HO5 := Lib.hid ho5; have HB5 := Lib.hid (HBf.out.grown hg5 HBf.out.size (fun k hk => Nat.le_trans HBd.out.size (own_block_ltR HEf.out hk).1)); clear ho5 hg5)
    | (at_builtin; refine wpList_append_own_none rfl _ _ 58 rfl Wd.heap.size 68 i0 6 Tryz.underlying58 Hi.out _ _ _ rfl HO5.out rfl ?_))
  go_ret
  exact ⟨v5, rfl, own_monoR (by simpa [rcA] using HO5.out) hsd, HB5.out⟩

set_option maxHeartbeats 8000000 in
set_option maxRecDepth 100000 in
/-- at some records: they lie in a block of the call's -/
theorem l05Put_some (base g cap : Nat) (Y : List Rc) (r : Rc) (w : World) (hb : base ≤ w.heap.size) (hY : Y.length ≤ 48) (hrow : w.ownsRow base 68 6 (.slice (some ⟨g, 0, none⟩) Y.length cap) Y.length (rcA Y)) :
    Calls Tryz.prog 145 #[.slice (some ⟨g, 0, none⟩) Y.length cap, recV r] w fun e w' => ∃ v', e = .returned v' ∧ w'.ownsRow base 68 6 v' (put Y r).length (rcA (put Y r)) ∧ Below w.heap.size w w' := by
  obtain ⟨i0, hi0, hiv⟩ := Option.map_eq_some_iff.1 info_recP
  have Hi := Lib.hid hi0; have Z0 := Lib.hid (congrArg (·.1) hiv); have Z1 := Lib.hid (congrArg (·.2.1) hiv); have Z2 := Lib.hid (congrArg (·.2.2) hiv)
  clear hi0 hiv
  have hR : ∀ j, j < Y.length * 6 → w.cell? ⟨g, j, none⟩ = some (rcF Y j) := fun j hj => (row_of_ownR hrow (rcA_at Y)).cell hj
  have hgl : g < w.heap.size := (row_of_ownR hrow (rcA_at Y)).lt
  have hcap : Y.length ≤ cap := by
    rcases hrow.2 with ⟨h1, -⟩ | ⟨_, _, _, h1, -, -, h4, -⟩
    · cases h1
    · simp only [Value.slice.injEq] at h1; omega
  have HROW := Lib.hid hrow; have HR := Lib.hid hR
  clear hrow hR
  go_enter Tryz.func145, Tryz.ntmps145
  go_wp2
  have hb0 : Below w.heap.size w (w.alloc (.cells (recC r).toArray 68)) := (Below.refl _ _).alloc (Nat.le_refl _) _
  have k0 := isBlk_new w 68 (recC r)
  change Code.wp _ _ _ _ (w.alloc (.cells (recC r).toArray 68))
  generalize w.alloc (.cells (recC r).toArray 68) = W at hb0 k0 ⊢
  have HB0 := Lib.hid hb0; have HK0 := Lib.hid k0
  obtain ⟨m, hm⟩ : ∃ m, m = Y.length := ⟨_, rfl⟩
  have HM := Lib.hid hm
  rw [← hm] at hcap ⊢
  have hm48 : m ≤ 48 := by omega
  clear hb0 k0 hm
  go_loopw [5] (fun kv wr => ∃ k : Nat, k ≤ m ∧ kv = .int .i64 (k : Nat) ∧ (∀ j, j < k → (Y.getD j Rc.zero).q < r.q) ∧ Below W.heap.size W wr) (fun kv _ => m - (intOf kv).toNat)
  case atStart => exact ⟨0, by omega, rfl, fun j h => absurd h (by omega), Below.refl _ _⟩
  case round =>
    obtain ⟨k, hk, rfl, hlt, hbel⟩ := hrel
    have HLT := Lib.hid hlt
    have HBw := Lib.hid (HB0.out.trans (hbel.mono HB0.out.size))
    have HKw := Lib.hid (HK0.out.below hbel HK0.out.lt)
    have hq : wr.cell? ⟨w.heap.size, 2, none⟩ = some (.int .i64 r.q) := HKw.out.cell rfl
    have HBel := Lib.hid hbel
    clear hlt hbel
    by_cases hkm : k < m
    · have hc : wr.cell? ⟨g, k * 6 + 2, none⟩ = some (.int .i64 (Y.getD k Rc.zero).q) := by
        rw [HBw.out.cell (p := ⟨g, k * 6 + 2, none⟩) hgl, HR.out (k * 6 + 2) (by have := HM.out; omega), rcF_2]
      have hk0 : (0 : Int) ≤ (k : Int) := by omega
      have hkn : (k : Int) < (m : Int) := by omega
      have HLT' : Hid ((Y.getD k Rc.zero).q < r.q → ∀ j, j < k + 1 → (Y.getD j Rc.zero).q < r.q) := fun h j hj => by
        rcases Nat.lt_or_ge j k with h1 | h1
        · exact HLT.out j h1
        · obtain rfl : j = k := by omega
          exact h
      have HPUT : Hid (r.q ≤ (Y.getD k Rc.zero).q → put Y r = if (Y.getD k Rc.zero).q = r.q then Y else Y.take k ++ r :: Y.drop k) := fun h => by
        have h1 := put_at r Y k (by have := HM.out; omega) HLT.out (fun _ => h)
        rw [h1]
        by_cases e : (Y.getD k Rc.zero).q = r.q
        · rw [if_pos ⟨by have := HM.out; omega, e⟩, if_pos e]
        · rw [if_neg (fun x => e x.2), if_neg e]
      generalize (Y.getD k Rc.zero).q = yq at hc HLT' HPUT
      by_cases hyq : yq < r.q
      · have HL' := Lib.hid (HLT'.out hyq)
        clear HLT' HPUT
        go_wp2
        go_quiet (fail)
        go_wp2
        go_roundw
        case rel => exact ⟨k + 1, by omega, by go_num, HL'.out, bel_dN HBel.out _⟩
        case measure => simp [intOf]; omega
      · have hyq' : r.q ≤ yq := by omega
        have HP' := Lib.hid (HPUT.out hyq')
        clear HLT' HPUT
        go_wp2
        go_quiet (fail)
        go_wp2
        by_cases heq : yq = r.q
        · have HP2 : Hid (put Y r = Y) := by show _ = _; rw [HP'.out, if_pos heq]
          have hbe : (yq == r.q) = true := by simpa using heq
          go_quiet (fail)
          go_wp2
          go_ret
          rw [HP2.out]
          refine ⟨_, rfl, by rw [HM.out]; exact own_belowR HROW.out (bel_dN (bel_dN HBw.out _) _), bel_dN (bel_dN HBw.out _) _⟩
        · have HP2 : Hid (put Y r = Y.take k ++ r :: Y.drop k) := by show _ = _; rw [HP'.out, if_neg heq]
          have hbe : (yq == r.q) = false := by simpa using heq
          go_quiet (fail)
          generalize hWd : (wr.drewN _).drewN _ = U
          have HBd : Hid (Below w.heap.size w U) := by show Below _ _ _; rw [← hWd]; exact bel_dN (bel_dN HBw.out _) _
          have HKd : Hid (IsBlk U w.heap.size 68 (recC r)) := by show IsBlk _ _ _ _; rw [← hWd]; exact HKw.out
          have hsd : base ≤ U.heap.size := Nat.le_trans hb HBd.out.size
          have hwd : w.heap.size < U.heap.size := HKd.out.lt
          clear hWd hc hq
          obtain ⟨r0, r1, r2, r3, r4, r5⟩ := rcCells HKd.out
          have HE := Lib.hid (own_empty (w := U) (base := U.heap.size) (e := 68) (k := 6) (Nat.le_refl _))
          have HBe := Lib.hid (HBd.out.alloc HBd.out.size (.cells #[] 68))
          have HNT : Hid (∀ W', Below w.heap.size w W' → ∀ j u, (rcA (Y.take k))[j]? = some u → W'.cell? ((⟨g, 0, none⟩ : Addr).add j) = some u) := fun W' hb' j u hj => by
            rw [rcA_take, List.getElem?_take] at hj
            split at hj
            · rename_i h1
              have h2 : j < Y.length * 6 := by have := HM.out; omega
              rw [rcA_at Y j h2] at hj
              rw [add_off, Nat.zero_add, hb'.cell (p := ⟨g, j, none⟩) hgl, HR.out j h2]
              exact hj
            · cases hj
          have HNDr : Hid (∀ W', Below w.heap.size w W' → ∀ j u, (rcA (Y.drop k))[j]? = some u → W'.cell? ((⟨g, k * 6, none⟩ : Addr).add j) = some u) := fun W' hb' j u hj => by
            rw [rcA_drop, List.getElem?_drop] at hj
            have h2 : k * 6 + j < Y.length * 6 := by rw [← rcA_len]; exact (List.getElem?_eq_some_iff.1 hj).1
            rw [rcA_at Y _ h2] at hj
            rw [add_off, hb'.cell (p := ⟨g, k * 6 + j, none⟩) hgl, HR.out _ h2]
            exact hj
          have HLT2 : Hid ((rcA (Y.take k)).length = k * 6) := by show _ = _; rw [rcA_len, List.length_take, Nat.min_eq_left (by have := HM.out; omega)]
          have HLD : Hid ((rcA (Y.drop k)).length = (m - k) * 6) := by show _ = _; rw [rcA_len, List.length_drop, HM.out]
          have hk1 : (0 : Int) ≤ (k : Int) := by omega
          have hk2 : (k : Int) ≤ (cap : Int) := by omega
          have hk3 : (k : Int) ≤ (m : Int) := by omega
          have hk4 : k ≤ cap := by omega
          go_wp2_with (first
            | (at_builtin; refine wpList_append_own_at _ rfl _ _ 58 rfl U.heap.size 68 i0 (recV Rc.zero) 6 56 Tryz.underlying58 Hi.out Z0.out Z1.out Z2.out rfl (by decide) _ 0 [] rfl HE.out ⟨g, 0, none⟩ k cap (rcA (Y.take k)) rfl HLT2.out (HNT.out _ HBe.out) (rcA_one _) (by unfold maxLen; omega) (by omega) (by simp) ?_; intro v5 w5 ho5 hg5 _ _; have hb5 := HBe.out.grown hg5 HBe.out.size (fun k hk => Nat.le_trans HBd.out.size (own_block_ltR HE.out hk).1); have HO5 := Lib.hid ho5; have HB5 := Lib.hid hb5; have k5 := (hg5.block w.heap.size (by simp; omega) (fun e => by have := (own_block_ltR HE.out e.symm).1; omega)).trans ((HKd.out.alloc (.cells #[] 68))); have hw5 : w.heap.size < w5.heap.size := IsBlk.lt k5; obtain ⟨s0, s1, s2, s3, s4, s5⟩ := rcCells k5; have HR5 := Lib.hid (isBlk_new w5 68 (recC r)); have HB6 := Lib.hid (hb5.alloc hb5.size (.cells (recC r).toArray 68)); have HO6 := Lib.hid (ho5.alloc (.cells (recC r).toArray 68)); have hs5 : U.heap.size ≤ w5.heap.size := Nat.le_trans (by simp) hg5.size; clear ho5 hg5 hb5 k5)
            | (at_builtin; refine wpList_append_own_at _ rfl _ _ 58 rfl U.heap.size 68 i0 (recV Rc.zero) 6 56 Tryz.underlying58 Hi.out Z0.out Z1.out Z2.out rfl (by decide) _ (0 + k) _ rfl HO6.out ⟨w5.heap.size, 0, none⟩ 1 1 (recC r) rfl rfl (fun j u hj => by rw [add_off, Nat.zero_add]; exact HR5.out.cell hj) (recC_one r) (by unfold maxLen; omega) (by omega) (Nat.le_trans hs5 (by simp)) ?_; intro v7 w7 ho7 hg7 _ _; have hb7 := HB6.out.grown hg7 HB6.out.size (fun k hk => Nat.le_trans HBd.out.size (own_block_ltR HO6.out hk).1); have hs7 : U.heap.size ≤ w7.heap.size := Nat.le_trans hs5 (Nat.le_trans (by simp) hg7.size); have HO7 := Lib.hid ho7; have HB7 := Lib.hid hb7; clear ho7 hg7 hb7)
            | (at_builtin; refine wpList_append_own_at _ rfl _ _ 58 rfl U.heap.size 68 i0 (recV Rc.zero) 6 56 Tryz.underlying58 Hi.out Z0.out Z1.out Z2.out rfl (by decide) _ (0 + k + 1) _ rfl HO7.out ⟨g, k * 6, none⟩ (m - k) (cap - k) (rcA (Y.drop k)) rfl HLD.out (HNDr.out _ HB7.out) (rcA_one _) (by unfold maxLen; omega) (by omega) hs7 ?_; intro v9 w9 ho9 hg9 _ _; have HO9 := Lib.hid ho9; have HB9 := Lib.hid (HB7.out.grown hg9 HB7.out.size (fun k hk => Nat.le_trans HBd.out.size (own_block_ltR HO7.out hk).1)); clear ho9 hg9))
          go_ret
          rw [HP2.out, rcA_put]
          exact ⟨v9, rfl, own_monoR (by rw [show (Y.take k ++ r :: Y.drop k).length = 0 + k + 1 + (m - k) by simp [← HM.out]; omega]; exact HO9.out) hsd, HB9.out⟩
    · obtain rfl : k = m := by omega
      have HP2 : Hid (put Y r = Y.take k ++ r :: Y.drop k) := by
        have h1 := put_at r Y k (by have := HM.out; omega) HLT.out (fun h => absurd h (by have := HM.out; omega))
        show _ = _
        rw [h1, if_neg (fun x => by have := HM.out; omega)]
      go_wp2
      go_quiet (fail)
      go_wp2
      go_quiet (fail)
      generalize hWd : (wr.drewN _).drewN _ = U
      have HBd : Hid (Below w.heap.size w U) := by show Below _ _ _; rw [← hWd]; exact bel_dN (bel_dN HBw.out _) _
      have HKd : Hid (IsBlk U w.heap.size 68 (recC r)) := by show IsBlk _ _ _ _; rw [← hWd]; exact HKw.out
      have hsd : base ≤ U.heap.size := Nat.le_trans hb HBd.out.size
      have hwd : w.heap.size < U.heap.size := HKd.out.lt
      clear hWd hq
      obtain ⟨r0, r1, r2, r3, r4, r5⟩ := rcCells HKd.out
      have HE := Lib.hid (own_empty (w := U) (base := U.heap.size) (e := 68) (k := 6) (Nat.le_refl _))
      have HBe := Lib.hid (HBd.out.alloc HBd.out.size (.cells #[] 68))
      have HNT : Hid (∀ W', Below w.heap.size w W' → ∀ j u, (rcA (Y.take k))[j]? = some u → W'.cell? ((⟨g, 0, none⟩ : Addr).add j) = some u) := fun W' hb' j u hj => by
        rw [rcA_take, List.getElem?_take] at hj
        split at hj
        · rename_i h1
          have h2 : j < Y.length * 6 := by have := HM.out; omega
          rw [rcA_at Y j h2] at hj
          rw [add_off, Nat.zero_add, hb'.cell (p := ⟨g, j, none⟩) hgl, HR.out j h2]
          exact hj
        · cases hj
      have HLT2 : Hid ((rcA (Y.take k)).length = k * 6) := by show _ = _; rw [rcA_len, List.length_take, Nat.min_eq_left (by have := HM.out; omega)]
      have HIF : Hid ((if cap = k then some (⟨g, 0, none⟩ : Addr) else some ⟨g, k * 6, none⟩) = some (if cap = k then (⟨g, 0, none⟩ : Addr) else ⟨g, k * 6, none⟩)) := by show _ = _; split <;> rfl
      have HDR : Hid (Y.drop k = []) := List.drop_of_length_le (by have := HM.out; omega)
      have hk1 : (0 : Int) ≤ (k : Int) := by omega
      have hk2 : (k : Int) ≤ (cap : Int) := by omega
      have hk3 : (k : Int) ≤ (k : Int) := by omega
      have hk4 : k ≤ cap := by omega
      go_wp2_with (first
        | (at_builtin; refine wpList_append_own_at _ rfl _ _ 58 rfl U.heap.size 68 i0 (recV Rc.zero) 6 56 Tryz.underlying58 Hi.out Z0.out Z1.out Z2.out rfl (by decide) _ 0 [] rfl HE.out ⟨g, 0, none⟩ k cap (rcA (Y.take k)) rfl HLT2.out (HNT.out _ HBe.out) (rcA_one _) (by unfold maxLen; omega) (by omega) (by simp) ?_; intro v5 w5 ho5 hg5 _ _; have hb5 := HBe.out.grown hg5 HBe.out.size (fun k hk => Nat.le_trans HBd.out.size (own_block_ltR HE.out hk).1); have HO5 := Lib.hid ho5; have HB5 := Lib.hid hb5; have k5 := (hg5.block w.heap.size (by simp; omega) (fun e => by have := (own_block_ltR HE.out e.symm).1; omega)).trans ((HKd.out.alloc (.cells #[] 68))); have hw5 : w.heap.size < w5.heap.size := IsBlk.lt k5; obtain ⟨s0, s1, s2, s3, s4, s5⟩ := rcCells k5; have HR5 := Lib.hid (isBlk_new w5 68 (recC r)); have HB6 := Lib.hid (hb5.alloc hb5.size (.cells (recC r).toArray 68)); have HO6 := Lib.hid (ho5.alloc (.cells (recC r).toArray 68)); have hs5 : U.heap.size ≤ w5.heap.size := Nat.le_trans (by simp) hg5.size; clear ho5 hg5 hb5 k5)
        | (at_builtin; refine wpList_append_own_at _ rfl _ _ 58 rfl U.heap.size 68 i0 (recV Rc.zero) 6 56 Tryz.underlying58 Hi.out Z0.out Z1.out Z2.out rfl (by decide) _ (0 + k) _ rfl HO6.out ⟨w5.heap.size, 0, none⟩ 1 1 (recC r) rfl rfl (fun j u hj => by rw [add_off, Nat.zero_add]; exact HR5.out.cell hj) (recC_one r) (by unfold maxLen; omega) (by omega) (Nat.le_trans hs5 (by simp)) ?_; intro v7 w7 ho7 hg7 _ _; have hb7 := HB6.out.grown hg7 HB6.out.size (fun k hk => Nat.le_trans HBd.out.size (own_block_ltR HO6.out hk).1); have hs7 : U.heap.size ≤ w7.heap.size := Nat.le_trans hs5 (Nat.le_trans (by simp) hg7.size); have HO7 := Lib.hid ho7; have HB7 := Lib.hid hb7; clear ho7 hg7 hb7)
        | (at_builtin; refine wpList_append_own_at _ rfl _ _ 58 rfl U.heap.size 68 i0 (recV Rc.zero) 6 56 Tryz.underlying58 Hi.out Z0.out Z1.out Z2.out rfl (by decide) _ (0 + k + 1) _ rfl HO7.out (if cap = k then ⟨g, 0, none⟩ else ⟨g, k * 6, none⟩) 0 (cap - k) [] (congrArg (fun p => Value.slice p 0 (cap - k)) HIF.out) rfl (fun j u hj => by simp at hj) (fun u hu => by cases hu) (by unfold maxLen; omega) (by omega) hs7 ?_; intro v9 w9 ho9 hg9 _ _; have HO9 := Lib.hid ho9; have HB9 := Lib.hid (HB7.out.grown hg9 HB7.out.size (fun k hk => Nat.le_trans HBd.out.size (own_block_ltR HO7.out hk).1)); clear ho9 hg9))
      all_goals
        go_ret
        rw [HP2.out, rcA_put, HDR.out]
        exact ⟨v9, rfl, own_monoR (by rw [show (Y.take k ++ [r]).length = 0 + k + 1 + 0 by simp [← HM.out]]; simpa [rcA] using HO9.out) hsd, HB9.out⟩
end Go.Proofs.YtfpibbhcecdbgaaGreatDoor
