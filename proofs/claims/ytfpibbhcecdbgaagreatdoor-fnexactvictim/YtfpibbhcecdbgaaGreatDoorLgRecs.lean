/-
  The records of a chip with their places: what the program's iterator hands to the body of a loop.
-/
import Derived.RangeFuncNested
import Derived.RangeFuncBound
import Derived.RangeFuncCalls
import Derived.RangeFuncLeaves
import Derived.Shelf.Abstract
import Derived.Shelf.RegionOpen
import Derived.WalkKit
import Derived.OwnWalkIn
import Derived.TacticsInMore
import Derived.LoopNIn
import Derived.LoopIn
import Derived.Test.YtfpibbhcecdbgaaGreatDoorProg
import Derived.KernelRfl
import Derived.Test.YtfpibbhcecdbgaaGreatDoorNdArr
import Derived.Test.YtfpibbhcecdbgaaGreatDoorRcRead2
namespace Go.Proofs.YtfpibbhcecdbgaaGreatDoor
open Go.RowKit Go.Shelf
open Bt (Rc)
attribute [local go_sem] Oper.semAt_some

/-- the record of a page, if it is one -/
def pgRec (i k : Nat) (p : Pg) : List (Int × Rc) := if (Bt.recRead p.data).2 = 0 then [(4 * (i : Int) + (k : Int), (Bt.recRead p.data).1)] else []
def pgsRecs (i : Nat) (X : List Pg) : Nat → List (Int × Rc)
  | 0 => []
  | k + 1 => pgsRecs i X k ++ pgRec i k (X.getD k zeroPg)
/-- the records of the first blocks, in order of block and page -/
def recsTo (X : List Bk) : Nat → List (Int × Rc)
  | 0 => []
  | i + 1 => recsTo X i ++ pgsRecs i (X.getD i zeroBk).pages (uPre (X.getD i zeroBk).pages)
theorem pgRec_len (i k : Nat) (p : Pg) : (pgRec i k p).length ≤ 1 := by unfold pgRec; split <;> simp
theorem pgRec_yes {i k : Nat} {p : Pg} (h : (Bt.recRead p.data).2 = 0) : pgRec i k p = [(4 * (i : Int) + (k : Int), (Bt.recRead p.data).1)] := by unfold pgRec; rw [if_pos h]
theorem pgRec_no {i k : Nat} {p : Pg} (h : (Bt.recRead p.data).2 ≠ 0) : pgRec i k p = [] := by unfold pgRec; rw [if_neg h]
theorem pgsRecs_len (i : Nat) (X : List Pg) : ∀ k, (pgsRecs i X k).length ≤ k
  | 0 => by simp [pgsRecs]
  | k + 1 => by have := pgsRecs_len i X k; have := pgRec_len i k (X.getD k zeroPg); simp only [pgsRecs, List.length_append]; omega
theorem recsTo_len {X : List Bk} (h : NdOk X) : ∀ i, i ≤ X.length → (recsTo X i).length ≤ 4 * i
  | 0, _ => by simp [recsTo]
  | i + 1, hi => by
    have h1 := recsTo_len h i (by omega)
    have h2 := pgsRecs_len i (X.getD i zeroBk).pages (uPre (X.getD i zeroBk).pages)
    have h3 := uPre_le (X.getD i zeroBk).pages
    have h4 := (h.2 i (by omega)).1
    simp only [recsTo, List.length_append]
    omega

theorem recRead_ok' {t : ByteArray} (h : (Bt.recRead t).2 = 0) : (Bt.recRead t).1.Ok := by
  unfold Bt.recRead at h ⊢
  split
  · rename_i h1; rw [if_pos h1] at h; exact absurd h h1
  · rename_i h1
    rw [if_neg h1] at h
    split
    · rename_i h2; exact h2.2.2
    · rename_i h2; rw [if_neg h2] at h; simp at h
/-- a place and a record that can be -/
def Good (x : Int × Rc) : Prop := (0 ≤ x.1 ∧ x.1 < 48) ∧ x.2.Ok
instance (x : Int × Rc) : Decidable (Good x) := by unfold Good; infer_instance
def nz (x : Int × Rc) : Int × Rc := if Good x then x else (0, Rc.zero)
theorem nz_good {x : Int × Rc} (h : Good x) : nz x = x := by unfold nz; rw [if_pos h]
theorem nz_bounds (x : Int × Rc) : (0 ≤ (nz x).1 ∧ (nz x).1 < 48) ∧ 0 ≤ (nz x).2.q ∧ (nz x).2.q ≤ 1000000 := by
  unfold nz
  split
  · rename_i h; exact ⟨h.1, by have := h.2.2.2.2.2.1; omega, h.2.2.2.2.2.2.1⟩
  · simp [Rc.zero]
theorem pgsRecs_good {i : Nat} (hi : i < 12) (X : List Pg) : ∀ k, k ≤ 4 → ∀ x ∈ pgsRecs i X k, Good x
  | 0, _ => by simp [pgsRecs]
  | k + 1, hk => by
    intro x hx
    rw [pgsRecs, List.mem_append] at hx
    rcases hx with hx | hx
    · exact pgsRecs_good hi X k (by omega) x hx
    · by_cases h : (Bt.recRead (X.getD k zeroPg).data).2 = 0
      · rw [pgRec_yes h, List.mem_singleton] at hx
        subst hx
        exact ⟨⟨by simp only; omega, by simp only; omega⟩, recRead_ok' h⟩
      · rw [pgRec_no h] at hx; cases hx
theorem recsTo_good {X : List Bk} (h : NdOk X) : ∀ i, i ≤ X.length → ∀ x ∈ recsTo X i, Good x
  | 0, _ => by simp [recsTo]
  | i + 1, hi => by
    intro x hx
    rw [recsTo, List.mem_append] at hx
    rcases hx with hx | hx
    · exact recsTo_good h i (by omega) x hx
    · exact pgsRecs_good (by have := h.1.2; omega) _ _ (Nat.le_trans (uPre_le _) (by rw [(h.2 i (by omega)).1]; omega)) x hx
theorem map_nz {R : List (Int × Rc)} (h : ∀ x ∈ R, Good x) : R.map nz = R := by
  induction R with
  | nil => rfl
  | cons x R ih => rw [List.map_cons, nz_good (h x (by simp)), ih (fun y hy => h y (by simp [hy]))]

/-- what a round of the body keeps: old memory below n₀, the block b, and arrays of pages -/
def KpR (n₀ b : Nat) (W W' : World) : Prop := Below n₀ W W' ∧ W'.heap[b]? = W.heap[b]? ∧ ∀ (j : Nat) (c : Array Value) (r : Nat × Nat), W.heap[j]? = some (.cells c 233 r) → W'.heap[j]? = W.heap[j]?
theorem KpR.t {n₀ b : Nat} {A B C : World} (h : KpR n₀ b A B) (k : KpR n₀ b B C) : KpR n₀ b A C :=
  ⟨h.1.trans k.1, k.2.1.trans h.2.1, fun j c r hj => (k.2.2 j c r ((h.2.2 j c r hj).trans hj)).trans (h.2.2 j c r hj)⟩
theorem KpR.b {n₀ b : Nat} {w : World} (hn : n₀ ≤ w.heap.size) (hb : b < w.heap.size) (W : World) (l : Nat) (o o' : Obj) (hl : w.heap.size ≤ l) (h : W.heap[l]? = some o) (h1 : o.isCells = false) (h2 : o.isWalk = false) : KpR n₀ b W (W.putObj l o') :=
  ⟨belowK_b hn W l o o' hl h h1 h2, World.putObj_heap_other (fun e => by omega), fun j c r hj => World.putObj_heap_other (fun e => by subst e; rw [h] at hj; cases hj; cases h1)⟩
theorem KpR.of_below {n₀ b : Nat} {W W' : World} (h : Below W.heap.size W W') (hn : n₀ ≤ W.heap.size) (hb : b < W.heap.size) : KpR n₀ b W W' :=
  ⟨h.mono hn, h.block b hb, fun j _ _ hj => h.block j (lt_of_block hj)⟩
theorem gby_below {W W' : World} (h : Below W.heap.size W W') : W.grownBy W' none := ⟨h.os, h.tape, h.output, h.size, fun k hk _ => h.block k hk⟩
theorem ErrType.past {n₀ : Nat} {w w' : World} (h : ErrType w) (hb : Below n₀ w w') (hn : 3 < n₀) : ErrType w' := by
  unfold ErrType at h ⊢
  rw [hb.cell (p := ⟨3, 0, none⟩) hn]; exact h

theorem recsOn_any (A : Option Addr) (n ca : Nat) (w : World) :
    Calls Tryz.prog 198 #[.agg #[.slice A n ca]] w fun e w' =>
      e = .returned (.func (.func 248) #[] #[.pointer (some ⟨w.heap.size, 0, none⟩)]) ∧ w' = w.alloc (.cells #[.slice A n ca] 28) := by
  go_enter Tryz.func198, Tryz.ntmps198
  go_wp2
  go_ret
  exact ⟨rfl, rfl⟩

set_option maxRecDepth 100000 in
set_option maxHeartbeats 4000000 in
theorem recsOn1_in (n : Nat) (l bs n₀ : Nat) (A : Option Addr) (N ca : Nat) (X : List Bk) (J Jx : List (Int × Rc) → World → Prop) (W : World) (hn : 1 ≤ n) (hok : NdOk X) (hJ : AbidesFrom W.heap.size J)
    (hY : ∀ pre x W1, Good x → J pre W1 → pre.length < 48 → YieldAt Fence.wide (n - 1) Tryz.prog l #[.int .i64 x.1, recV x.2] W1 fun e W' =>
      (e = .returned (.bool true) ∧ J (pre ++ [x]) W' ∧ KpR n₀ bs W1 W') ∨ (e = .returned (.bool false) ∧ Jx (pre ++ [x]) W'))
    (hbs : Boxed W bs 28 (.slice A N ca)) (hn₀ : n₀ ≤ W.heap.size) (hE : 3 < n₀) (hG : ErrType W) (hR : RdBk W n₀ A N X) (h0 : J [] W) :
    CallsIn Fence.wide n Tryz.prog 248 #[.func (.yield l) #[] #[], .pointer (some ⟨bs, 0, none⟩)] W fun e W' => (∃ v, e = .returned v) ∧
      ((∃ ys, ys = recsTo X N ∧ J ys W') ∨ (∃ pre, True ∧ Jx pre W')) := by
  have hNL : N = X.length := hR.1.symm
  have hN12 : N ≤ 12 := by rw [hNL]; exact hok.1.2
  have HNL := Lib.hid hNL
  have HOK := Lib.hid hok; have HR := Lib.hid hR; have HBS := Lib.hid hbs; have HG := Lib.hid hG
  have hcb := hbs.cell
  clear hR hbs hG hok hNL
  refine callsIn_of_wp Tryz.func248 rfl trivial ?_ rfl
  simp only [Tryz.ntmps248, List.size_toArray, List.length_cons, List.length_nil, Nat.reduceAdd, Nat.reduceSub, Array.replicate_succ, Array.replicate_zero, List.push_toArray, List.append_toArray, List.nil_append, List.cons_append]
  gi_wp2
  clear hcb
  gi_loopw [10] (fun iv wr => ∃ k : Nat, iv = .int .i64 (k : Nat) ∧ k ≤ N ∧ RdBk wr n₀ A N X ∧ Boxed wr bs 28 (.slice A N ca) ∧ ErrType wr ∧ W.heap.size ≤ wr.heap.size ∧ J (recsTo X k) wr) (fun iv _ => N - (intOf iv).toNat)
  case atStart => exact ⟨0, rfl, Nat.zero_le _, HR.out, HBS.out, HG.out, Nat.le_refl _, h0⟩
  case round =>
    obtain ⟨k, rfl, hk, hrd, hbx, hge, hsz, hJp⟩ := hrel
    have HRD := Lib.hid hrd; have HBX := Lib.hid hbx; have HGE := Lib.hid hge; have HJ := Lib.hid hJp
    have hcs := hbx.cell
    clear hrd hbx hge hJp
    by_cases hlt : k < N
    · obtain ⟨g, off, pA, pc, rfl, hg, hc0, hc1, hc2, hpg⟩ := HRD.out.at hlt
      have hkl : k < X.length := by rw [← HNL.out]; exact hlt
      have HPG := Lib.hid (hpg.mono (Nat.le_trans hn₀ hsz))
      have HBO := Lib.hid (HOK.out.2 k hkl)
      obtain ⟨b, hb⟩ : ∃ b, b = X.getD k zeroBk := ⟨_, rfl⟩
      have HST : Hid (recsTo X (k + 1) = recsTo X k ++ pgsRecs k b.pages (uPre b.pages)) := by show _ = _; rw [hb]; rfl
      rw [← hb] at hc0 hc1 hc2 HPG HBO
      clear hb hpg
      obtain ⟨ps, er, bd⟩ := b
      simp only at hc0 hc1 hc2 HPG HST
      obtain ⟨pa, pb, pc', pd, rfl⟩ := four_of_length HBO.out.1
      gi_wp2_with fail
      refine ⟨trivial, ?_⟩
      refine (callsIn_wide.2 (pagesOf_any pA pc pa pb pc' pd er bd wr HPG.out)).mono ?_
      rintro e w3 ⟨rfl, hb3⟩
      have HB3 := Lib.hid hb3
      clear hb3 hcs hc0 hc1 hc2
      gi_wp2_with fail
      have k4 := isBlk_new w3 233 (pcells pa pb pc' pd)
      have hb4 : Below wr.heap.size wr (w3.alloc (.cells (pcells pa pb pc' pd).toArray 233)) := HB3.out.alloc HB3.out.size _
      change _ ∧ CallsIn _ _ _ _ _ (w3.alloc (.cells (pcells pa pb pc' pd).toArray 233)) _
      generalize w3.alloc (.cells (pcells pa pb pc' pd).toArray 233) = w4 at k4 hb4 ⊢
      generalize w3.heap.size = B4 at k4 ⊢
      clear HB3
      refine ⟨trivial, ?_⟩
      refine (callsIn_wide.2 (used_any pa pb pc' pd w4)).mono ?_
      rintro e w5 ⟨rfl, hb5⟩
      have hB5 : Below wr.heap.size wr w5 := hb4.trans (hb5.mono hb4.size)
      have HK5 := Lib.hid (k4.below hb5 k4.lt)
      have HRD5 := Lib.hid (HRD.out.below (hB5.mono (Nat.le_trans hn₀ hsz)))
      have HBX5 : Hid (Boxed w5 bs 28 (.slice (some ⟨g, off, none⟩) N ca)) := (hB5.block bs HBX.out.lt).trans HBX.out
      have HGE5 := Lib.hid (HGE.out.below hB5)
      have HJ5 : Hid (J (recsTo X k) w5) := hJ _ wr w5 none HJ.out (gby_below hB5) (fun r e => by cases e)
      have hsz5 : W.heap.size ≤ w5.heap.size := Nat.le_trans hsz hB5.size
      have HSM : Hid (∀ j, j < 4 → (([pa, pb, pc', pd] : List Pg).getD j zeroPg).data.size ≤ 60) := fun j hj => ((pgsOk_iff HBO.out.1).2 HBO.out.2.2 j hj).2
      have hu4 : uPre [pa, pb, pc', pd] ≤ 4 := uPre_le _
      have HLP := Lib.hid (recsTo_len HOK.out k (by omega))
      clear hb4 hb5 k4 hB5
      generalize uPre [pa, pb, pc', pd] = u at HST hu4 ⊢
      gi_wp2
      gi_loopw [21] (fun jv wq => ∃ j : Nat, jv = .int .i64 (j : Nat) ∧ j ≤ u ∧ RdBk wq n₀ (some ⟨g, off, none⟩) N X ∧ Boxed wq bs 28 (.slice (some ⟨g, off, none⟩) N ca) ∧ ErrType wq ∧ W.heap.size ≤ wq.heap.size ∧ IsBlk wq B4 233 (pcells pa pb pc' pd) ∧ J (recsTo X k ++ pgsRecs k [pa, pb, pc', pd] j) wq) (fun jv _ => u - (intOf jv).toNat)
      case atStart => exact ⟨0, rfl, Nat.zero_le _, HRD5.out, HBX5.out, HGE5.out, hsz5, HK5.out, by simpa [pgsRecs] using HJ5.out⟩
      case round =>
        obtain ⟨j, rfl, hj, hrd, hbx, hge, hszq, hkq, hJp⟩ := hrel
        have HRDq := Lib.hid hrd; have HBXq := Lib.hid hbx; have HGEq := Lib.hid hge; have HKq := Lib.hid hkq; have HJq := Lib.hid hJp
        clear hrd hbx hge hJp hkq
        by_cases hju : j < u
        · have hj4 : j < 4 := by omega
          obtain ⟨-, c1⟩ := parr_cells HKq.out hj4
          have HS := Lib.hid (HSM.out j hj4)
          have HPS : Hid (pgsRecs k [pa, pb, pc', pd] (j + 1) = pgsRecs k [pa, pb, pc', pd] j ++ pgRec k j (([pa, pb, pc', pd] : List Pg).getD j zeroPg)) := by show _ = _; rfl
          have HPL := Lib.hid (pgsRecs_len k [pa, pb, pc', pd] j)
          generalize ([pa, pb, pc', pd] : List Pg).getD j zeroPg = pg at c1 HS HPS
          obtain ⟨us, sd⟩ := pg
          simp only at c1 HS
          gi_wp2_with fail
          refine ⟨trivial, ?_⟩
          refine (callsIn_wide.2 (impl_recRead_any sd _ (by have := HS.out; unfold maxLen; omega) HGEq.out)).mono ?_
          rintro e w6 ⟨rfl, hb6⟩
          have HB6 := Lib.hid hb6
          clear hb6 c1
          have hlen : (recsTo X k ++ pgsRecs k [pa, pb, pc', pd] j).length < 48 := by
            have h1 := HLP.out; have h2 := HPL.out
            rw [List.length_append]; omega
          have HPN : Hid ((Bt.recRead sd).2 ≠ 0 → pgsRecs k [pa, pb, pc', pd] (j + 1) = pgsRecs k [pa, pb, pc', pd] j) := fun h => by rw [HPS.out, pgRec_no h, List.append_nil]
          have HGD : Hid ((Bt.recRead sd).2 = 0 → (Bt.recRead sd).1.Ok) := fun h => recRead_ok' h
          have HPY : Hid ((Bt.recRead sd).2 = 0 → pgsRecs k [pa, pb, pc', pd] (j + 1) = pgsRecs k [pa, pb, pc', pd] j ++ [(4 * (k : Int) + (j : Int), (Bt.recRead sd).1)]) := fun h => by rw [HPS.out, pgRec_yes h]
          clear HPS HPL HS
          generalize Bt.recRead sd = RR at HPN HPY HGD ⊢
          obtain ⟨⟨rk, rs, rq, rt, ro, rd⟩, c⟩ := RR
          simp only at HPN HPY HGD
          have hbV : Below wr.heap.size wr (w6.alloc (.cells #[.int .i64 rk, .int .i64 rs, .int .i64 rq, .int .i64 rt, .int .i64 ro, .string rd, .int .i64 c] 83)) := HB6.out.alloc HB6.out.size _
          have HRDv := Lib.hid (HRDq.out.below (hbV.mono (Nat.le_trans hn₀ hszq)))
          have HBXv : Hid (Boxed (w6.alloc (.cells #[.int .i64 rk, .int .i64 rs, .int .i64 rq, .int .i64 rt, .int .i64 ro, .string rd, .int .i64 c] 83)) bs 28 (.slice (some ⟨g, off, none⟩) N ca)) := (hbV.block bs HBXq.out.lt).trans HBXq.out
          have HGEv := Lib.hid (HGEq.out.below hbV)
          have HKv := Lib.hid (HKq.out.below hbV HKq.out.lt)
          have HJv : Hid (J (recsTo X k ++ pgsRecs k [pa, pb, pc', pd] j) (w6.alloc (.cells #[.int .i64 rk, .int .i64 rs, .int .i64 rq, .int .i64 rt, .int .i64 ro, .string rd, .int .i64 c] 83))) := hJ _ wr _ none HJq.out (gby_below hbV) (fun r e => by cases e)
          have hszv : W.heap.size ≤ (w6.alloc (.cells #[.int .i64 rk, .int .i64 rs, .int .i64 rq, .int .i64 rt, .int .i64 ro, .string rd, .int .i64 c] 83)).heap.size := Nat.le_trans hszq hbV.size
          have HSZV := Lib.hid hszv
          clear hbV hszv HB6
          by_cases h0c : c = 0
          · subst h0c
            have HP := Lib.hid (HPY.out rfl)
            obtain ⟨fn, tmps, assign, body, hy, hRo⟩ := hY _ (4 * (k : Int) + (j : Int), ⟨rk, rs, rq, rt, ro, rd⟩) _ ⟨⟨by simp only; omega, by simp only; omega⟩, HGD.out rfl⟩ HJv.out hlen
            clear HPY HPN HGD
            gi_wp2
            refine hRo.mono ?_
            rintro e w7 (⟨rfl, hJ7, hk7⟩ | ⟨rfl, hJx7⟩)
            · have HRD7 := Lib.hid (HRDv.out.below hk7.1)
              have HBX7 : Hid (Boxed w7 bs 28 (.slice (some ⟨g, off, none⟩) N ca)) := hk7.2.1.trans HBXv.out
              have HGE7 := Lib.hid (HGEv.out.past hk7.1 hE)
              have HK7 : Hid (IsBlk w7 B4 233 (pcells pa pb pc' pd)) := (hk7.2.2 B4 _ _ HKv.out).trans HKv.out
              have HJ7 : Hid (J (recsTo X k ++ pgsRecs k [pa, pb, pc', pd] (j + 1)) w7) := by show J _ _; rw [HP.out, ← List.append_assoc]; exact hJ7
              have hsz7 : W.heap.size ≤ w7.heap.size := Nat.le_trans HSZV.out hk7.1.size
              clear hJ7 hk7
              gi_wp2
              go_roundw
              case rel => exact ⟨j + 1, by go_num, by omega, HRD7.out, HBX7.out, HGE7.out, hsz7, HK7.out, HJ7.out⟩
              case measure => simp [intOf]; omega
            · gi_wp2
              refine bodyPost_ret (results_none rfl _ _ _) rfl ?_
              exact ⟨⟨_, rfl⟩, .inr ⟨_, trivial, hJx7⟩⟩
          · have hc0' : (c == 0) = false := by simpa using h0c
            have HJ7 := HJv
            rw [← HPN.out h0c] at HJ7
            clear h0c HPY HPN HGD
            gi_wp2
            refine ⟨fun _ h => (by cases h), ?_⟩
            gi_wp2
            go_roundw
            case rel => exact ⟨j + 1, by go_num, by omega, HRDv.out, HBXv.out, HGEv.out, HSZV.out, HKv.out, HJ7.out⟩
            case measure => simp [intOf]; omega
        · obtain rfl : j = u := by omega
          have HJ8 : Hid (J (recsTo X (k + 1)) wr) := by show J _ _; rw [HST.out]; exact HJq.out
          gi_wp2
          go_roundw
          case rel => exact ⟨k + 1, by go_num, by omega, HRDq.out, HBXq.out, HGEq.out, hszq, HJ8.out⟩
          case measure => simp [intOf]; omega
    · obtain rfl : k = N := by omega
      gi_wp2
      refine bodyPost_end (results_none rfl _ _ _) rfl ?_
      exact ⟨⟨_, rfl⟩, .inl ⟨_, rfl, HJ.out⟩⟩

/-- **The iterator hands on the records of a valid chip with their places, in order of block and page; or the first of them, where a round has said 'no more'.** -/
theorem recs_stops (n : Nat) (hn : 1 ≤ n) (bs n₀ : Nat) (A : Option Addr) (N ca : Nat) (X : List Bk) (w : World) (hok : NdOk X) (hn₀ : n₀ ≤ w.heap.size) (hE : 3 < n₀) (hG : ErrType w)
    (hbs : Boxed w bs 28 (.slice A N ca)) (hR : RdBk w n₀ A N X) :
    SeqStopsK Fence.wide n Tryz.prog 248 #[.pointer (some ⟨bs, 0, none⟩)] (fun r : Int × Rc => #[.int .i64 (nz r).1, recV (nz r).2]) (KpR n₀ bs) (fun ys => ys = recsTo X N) (fun _ => True) 48 w :=
  fun l J Jx W hW hJ _ hY h0 => recsOn1_in n l bs n₀ A N ca X J Jx W hn hok hJ (fun pre x W1 hg h1 h2 => by have h := hY pre x W1 h1 h2; dsimp only at h; rw [nz_good hg] at h; exact h) ((hW.block bs hbs.lt).trans hbs) (Nat.le_trans hn₀ hW.size) hE (hG.below hW) (hR.below (hW.mono hn₀)) h0
end Go.Proofs.YtfpibbhcecdbgaaGreatDoor
