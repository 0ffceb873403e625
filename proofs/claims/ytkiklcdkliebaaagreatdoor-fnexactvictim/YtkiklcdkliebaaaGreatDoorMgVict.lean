/-
  Victim, of the program: the iterator over the full blocks, the least of them.
  Victim, of the program.
  Victim, of the document's model.
-/
import Derived.Deep.RegionHeld3
import Derived.Scope
import Derived.Test.YtkiklcdkliebaaaGreatDoorChecked
import Derived.Test.YtkiklcdkliebaaaGreatDoorMgLoad
namespace Go.Proofs.YtkiklcdkliebaaaGreatDoor
open Go.RowKit Go.Shelf Go.ChangeShapes
open Bt (Rc)
attribute [local go_sem] Oper.semAt_some

/-- a block that may be erased -/
noncomputable def fulB (b : Bk) : Bool := decide (b.bad = false ∧ uPre b.pages = 4)
/-- the full blocks, with the sizes of their loads -/
noncomputable def fulls (X : List Bk) (L : Nat → Nat) : Nat → List (Int × Int)
  | 0 => []
  | k + 1 => if fulB (X.getD k zeroBk) = true then fulls X L k ++ [((k : Int), (L k : Int))] else fulls X L k
theorem fulls_yes {X : List Bk} {L : Nat → Nat} {k : Nat} (h : fulB (X.getD k zeroBk) = true) : fulls X L (k + 1) = fulls X L k ++ [((k : Int), (L k : Int))] := by rw [fulls, if_pos h]
theorem fulls_no {X : List Bk} {L : Nat → Nat} {k : Nat} (h : fulB (X.getD k zeroBk) = false) : fulls X L (k + 1) = fulls X L k := by rw [fulls, if_neg (by rw [h]; simp)]
theorem fulls_len (X : List Bk) (L : Nat → Nat) (k : Nat) : (fulls X L k).length ≤ k := by
  induction k with
  | zero => simp [fulls]
  | succ k ih => rw [fulls]; split <;> (try rw [List.length_append, List.length_singleton]) <;> omega
theorem fulls_pre (X : List Bk) (L : Nat → Nat) {k N : Nat} (h : k ≤ N) : ∃ rest, fulls X L k ++ rest = fulls X L N := by
  induction N with
  | zero => exact ⟨[], by rw [show k = 0 by omega]; simp⟩
  | succ N ih =>
    rcases Nat.lt_or_ge k (N + 1) with h1 | h1
    · obtain ⟨r, hr⟩ := ih (by omega)
      rw [fulls]
      split
      · exact ⟨r ++ [_], by rw [← List.append_assoc, hr]⟩
      · exact ⟨r, hr⟩
    · obtain rfl : k = N + 1 := by omega
      exact ⟨[], by simp⟩
theorem fulls_nonneg (X : List Bk) (L : Nat → Nat) (k : Nat) : ∀ x ∈ fulls X L k, 0 ≤ x.2 := by
  induction k with
  | zero => intro x h; simp [fulls] at h
  | succ k ih =>
    intro x h
    rw [fulls] at h
    split at h
    · rcases List.mem_append.1 h with h | h
      · exact ih x h
      · rw [List.mem_singleton.1 h]; simp
    · exact ih x h
/-- the first block with the least size, below 4 -/
def vstep (s : Int × Int) (x : Int × Int) : Int × Int := if x.2 < s.2 then x else s
def vic (l : List (Int × Int)) : Int × Int := l.foldl vstep (-1, 4)
theorem vic_snoc (l : List (Int × Int)) (x : Int × Int) : vic (l ++ [x]) = vstep (vic l) x := by simp [vic]
theorem vic_stays {l rest : List (Int × Int)} (h : (vic l).2 = 0) (hr : ∀ x ∈ rest, 0 ≤ x.2) : vic (l ++ rest) = vic l := by
  have : ∀ (rest : List (Int × Int)) (s : Int × Int), s.2 = 0 → (∀ x ∈ rest, 0 ≤ x.2) → rest.foldl vstep s = s := by
    intro rest
    induction rest with
    | nil => intro s _ _; rfl
    | cons a l ih =>
      intro s hs ha
      have e : vstep s a = s := by unfold vstep; rw [if_neg (by have := ha a (by simp); omega)]
      rw [List.foldl_cons, e]
      exact ih s hs (fun x hx => ha x (by simp [hx]))
  unfold vic at *
  rw [List.foldl_append]
  exact this rest _ h hr

set_option maxHeartbeats 1000000 in
theorem isNaNI_any (x : Int) (w : World) : Calls Tryz.prog 150 #[.int .i64 x] w fun e w' => e = .returned (.bool false) ∧ w' = w := by
  go_enter Tryz.func150, Tryz.ntmps150
  go_wp2
  go_ret
  exact ⟨by simp, rfl⟩
def cmpI (x y : Int) : Int := if x < y then -1 else if x > y then 1 else 0
set_option maxHeartbeats 1000000 in
theorem compareI_any (x y : Int) (w : World) : Calls Tryz.prog 113 #[.int .i64 x, .int .i64 y] w fun e w' => e = .returned (.int .i64 (cmpI x y)) ∧ w' = w := by
  have HC : Hid (cmpI x y = if x < y then -1 else if x > y then 1 else 0) := Lib.hid rfl
  generalize cmpI x y = r at HC ⊢
  go_enter Tryz.func113, Tryz.ntmps113
  go_wp2_with fail
  refine (isNaNI_any x w).mono ?_
  rintro e w1 ⟨rfl, rfl⟩
  go_wp2_with fail
  refine (isNaNI_any y w1).mono ?_
  rintro e w2 ⟨rfl, rfl⟩
  by_cases h1 : x < y
  · have h1' : decide (x < y) = true := decide_eq_true h1
    have HR : Hid (r = -1) := by show _ = _; rw [HC.out, if_pos h1]
    clear HC
    go_wp2
    go_ret
    exact ⟨by rw [HR.out]; rfl, rfl⟩
  · have h1' : decide (x < y) = false := decide_eq_false h1
    by_cases h2 : x > y
    · have h2' : decide (y < x) = true := decide_eq_true h2
      have HR : Hid (r = 1) := by show _ = _; rw [HC.out, if_neg h1, if_pos h2]
      clear HC
      go_wp2
      go_ret
      exact ⟨by rw [HR.out]; rfl, rfl⟩
    · have h2' : decide (y < x) = false := decide_eq_false h2
      have HR : Hid (r = 0) := by show _ = _; rw [HC.out, if_neg h1, if_neg h2]
      clear HC
      go_wp2
      go_ret
      exact ⟨by rw [HR.out]; rfl, rfl⟩
set_option maxHeartbeats 1000000 in
theorem isFull_any (A : Option Addr) (ca : Nat) (a b c d : Pg) (er : Int) (bad : Bool) (w : World) (hA : RdPg w w.heap.size A 4 [a, b, c, d]) :
    Calls Tryz.prog 115 #[.agg #[.slice A 4 ca, .int .i64 er, .bool bad]] w fun e w' => e = .returned (.bool (decide (bad = false ∧ uPre [a, b, c, d] = 4))) ∧ Below w.heap.size w w' := by
  have HA := Lib.hid hA; clear hA
  cases bad with
  | true =>
    have HC : Hid (decide (true = false ∧ uPre [a, b, c, d] = 4) = false) := by show _ = _; simp
    go_enter Tryz.func115, Tryz.ntmps115
    go_wp2
    go_ret
    exact ⟨ret_b HC.out.symm, box_below _ _⟩
  | false =>
    go_enter Tryz.func115, Tryz.ntmps115
    go_wp2_with fail
    refine (pagesOf_any A ca a b c d er false _ ((HA.out.below (box_below _ _)).mono (box_below _ _).size)).mono ?_
    rintro e w3 ⟨rfl, hb3⟩
    have HB3 := Lib.hid (bel_step (box_below w _) hb3)
    clear hb3
    go_wp2_with fail
    refine (used_any a b c d w3).mono ?_
    rintro e w4 ⟨rfl, hb4⟩
    have HB4 := Lib.hid (bel_step HB3.out hb4)
    clear hb4
    obtain ⟨u, hu⟩ : ∃ u, u = uPre [a, b, c, d] := ⟨_, rfl⟩
    rw [← hu]
    have HU := Lib.hid hu; clear hu
    by_cases h0 : u = 4
    · subst h0
      have HC : Hid (decide (false = false ∧ uPre [a, b, c, d] = 4) = true) := by show _ = _; simp [← HU.out]
      go_wp2
      go_ret
      exact ⟨ret_b HC.out.symm, HB4.out⟩
    · have HC : Hid (decide (false = false ∧ uPre [a, b, c, d] = 4) = false) := by show _ = _; simp [← HU.out, h0]
      have h0' : ((u : Int) == 4) = false := by simp; omega
      go_wp2
      go_ret
      exact ⟨ret_b HC.out.symm, HB4.out⟩

/-- what the iterator reads: all of it below block n₀ -/
structure FB (w : World) (n₀ b1 b2 : Nat) (A : Option Addr) (N ca g : Nat) (X : List Bk) (f : Nat → Value) (L : Nat → Nat) : Prop where
  c1 : w.cell? ⟨b1, 0, none⟩ = some (.slice A N ca)
  l1 : b1 < n₀
  c2 : w.cell? ⟨b2, 0, none⟩ = some (.slice (some ⟨g, 0, none⟩) N N)
  l2 : b2 < n₀
  rd : RdBk w n₀ A N X
  row : Row w g N f
  lg : g < n₀
  len : ∀ j, j < N → ∃ A' c', f j = .slice A' (L j) c'
theorem FB.below {w w' : World} {n₀ b1 b2 : Nat} {A : Option Addr} {N ca g : Nat} {X : List Bk} {f : Nat → Value} {L : Nat → Nat} (h : FB w n₀ b1 b2 A N ca g X f L) (hb : Below n₀ w w') : FB w' n₀ b1 b2 A N ca g X f L :=
  ⟨(hb.cell (p := ⟨b1, 0, none⟩) h.l1).trans h.c1, h.l1, (hb.cell (p := ⟨b2, 0, none⟩) h.l2).trans h.c2, h.l2, h.rd.below hb, h.row.below hb h.lg, h.lg, h.len⟩

set_option maxRecDepth 100000 in
set_option maxHeartbeats 4000000 in
theorem full1_in (n : Nat) (l b1 b2 n₀ : Nat) (A : Option Addr) (N ca g : Nat) (X : List Bk) (f : Nat → Value) (L : Nat → Nat) (J Jx : List (Int × Int) → World → Prop) (W : World) (hn : 1 ≤ n) (hok : NdOk X) (hL : ∀ j, L j ≤ 1048576) (hJ : AbidesFrom W.heap.size J)
    (hY : ∀ pre x W1, J pre W1 → pre.length < 48 → YieldAt Fence.wide (n - 1) Tryz.prog l #[.int .i64 x.1, .int .i64 x.2] W1 fun e W' =>
      (e = .returned (.bool true) ∧ J (pre ++ [x]) W' ∧ Below n₀ W1 W') ∨ (e = .returned (.bool false) ∧ Jx (pre ++ [x]) W'))
    (hn₀ : n₀ ≤ W.heap.size) (hF : FB W n₀ b1 b2 A N ca g X f L) (h0 : J [] W) :
    CallsIn Fence.wide n Tryz.prog 114 #[.func (.yield l) #[] #[], .pointer (some ⟨b1, 0, none⟩), .pointer (some ⟨b2, 0, none⟩)] W fun e W' => (∃ v, e = .returned v) ∧
      ((∃ ys, ys = fulls X L N ∧ J ys W') ∨ (∃ pre, (∃ rest, pre ++ rest = fulls X L N) ∧ Jx pre W')) := by
  have hNL : N = X.length := hF.rd.1.symm
  have hN12 : N ≤ 12 := by rw [hNL]; exact hok.1.2
  have HNL := Lib.hid hNL
  have HOK := Lib.hid hok; have HF := Lib.hid hF; have HLL := Lib.hid hL
  have hcb := hF.c1
  clear hF hok hNL hL
  refine callsIn_of_wp Tryz.func114 rfl trivial ?_ rfl
  simp only [Tryz.ntmps114, List.size_toArray, List.length_cons, List.length_nil, Nat.reduceAdd, Nat.reduceSub, Array.replicate_succ, Array.replicate_zero, List.push_toArray, List.append_toArray, List.nil_append, List.cons_append]
  gi_wp2
  clear hcb
  gi_loopw [8] (fun iv wr => ∃ k : Nat, iv = .int .i64 (k : Nat) ∧ k ≤ N ∧ FB wr n₀ b1 b2 A N ca g X f L ∧ W.heap.size ≤ wr.heap.size ∧ J (fulls X L k) wr) (fun iv _ => N - (intOf iv).toNat)
  case atStart => exact ⟨0, rfl, Nat.zero_le _, HF.out, Nat.le_refl _, h0⟩
  case round =>
    obtain ⟨k, rfl, hk, hfb, hsz, hJp⟩ := hrel
    have HFB := Lib.hid hfb; have HJ := Lib.hid hJp
    have hcs := hfb.c1
    clear hfb hJp
    by_cases hlt : k < N
    · obtain ⟨g', off, pA, pc, rfl, hg, hc0, hc1, hc2, hpg⟩ := HFB.out.rd.at hlt
      have hkl : k < X.length := by rw [← HNL.out]; exact hlt
      have HPG := Lib.hid (hpg.mono (Nat.le_trans hn₀ hsz))
      have HBO := Lib.hid (HOK.out.2 k hkl)
      have HYES := Lib.hid (fun h => fulls_yes (X := X) (L := L) (k := k) h); have HNO := Lib.hid (fun h => fulls_no (X := X) (L := L) (k := k) h)
      have HPRE := Lib.hid (fulls_pre X L (k := k + 1) (N := N) (by omega))
      have hlen : (fulls X L k).length < 48 := by have := fulls_len X L k; omega
      have hFBd : fulB (X.getD k zeroBk) = decide ((X.getD k zeroBk).bad = false ∧ uPre (X.getD k zeroBk).pages = 4) := rfl
      rw [hFBd] at HYES HNO
      clear hFBd hpg
      generalize X.getD k zeroBk = b at hc0 hc1 hc2 HPG HBO HYES HNO
      obtain ⟨ps, er, bd⟩ := b
      simp only at hc0 hc1 hc2 HPG HYES HNO
      obtain ⟨pa, pb, pc', pd, rfl⟩ := four_of_length HBO.out.1
      obtain ⟨A', c', hfk⟩ := HFB.out.len k hlt
      have HFK := Lib.hid hfk
      clear hfk
      gi_wp2_with fail
      refine ⟨trivial, ?_⟩
      refine (callsIn_wide.2 (isFull_any pA pc pa pb pc' pd er bd wr HPG.out)).mono ?_
      rintro e w3 ⟨rfl, hb3⟩
      have HFB3 := Lib.hid (HFB.out.below (hb3.mono (Nat.le_trans hn₀ hsz)))
      have HJ3 : Hid (J (fulls X L k) w3) := hJ _ wr w3 none HJ.out (gby_below hb3) (fun r e => by cases e)
      have hsz3 : W.heap.size ≤ w3.heap.size := Nat.le_trans hsz hb3.size
      have x2 := HFB3.out.c2
      have x3 : w3.cell? ⟨g, k, none⟩ = some (f k) := HFB3.out.row.cell hlt
      rw [HFK.out] at x3
      clear hb3 hcs hc0 hc1 hc2
      generalize decide (bd = false ∧ uPre [pa, pb, pc', pd] = 4) = full at *
      have hLk := HLL.out k
      cases full with
      | false =>
        have HT := Lib.hid (HNO.out rfl)
        clear HYES HNO
        gi_wp2
        refine ⟨fun _ h => (by cases h), ?_⟩
        gi_wp2
        go_roundw
        case rel => exact ⟨k + 1, by go_num, by omega, HFB3.out, hsz3, by rw [HT.out]; exact HJ3.out⟩
        case measure => simp [intOf]; omega
      | true =>
        have HT := Lib.hid (HYES.out rfl)
        obtain ⟨fn, tmps, assign, body, hy, hRo⟩ := hY _ ((k : Int), (L k : Int)) _ HJ3.out hlen
        clear HYES HNO
        gi_wp2
        refine hRo.mono ?_
        rintro e w7 (⟨rfl, hJ7, hk7⟩ | ⟨rfl, hJx7⟩)
        · have HFB7 := Lib.hid (HFB3.out.below hk7)
          have hsz7 : W.heap.size ≤ w7.heap.size := Nat.le_trans hsz3 hk7.size
          have HJ7 := Lib.hid hJ7
          clear hJ7 hk7
          gi_wp2
          go_roundw
          case rel => exact ⟨k + 1, by go_num, by omega, HFB7.out, hsz7, by rw [HT.out]; exact HJ7.out⟩
          case measure => simp [intOf]; omega
        · gi_wp2
          refine bodyPost_ret (results_none rfl _ _ _) rfl ?_
          exact ⟨⟨_, rfl⟩, .inr ⟨_, by rw [← HT.out]; exact HPRE.out, hJx7⟩⟩
    · obtain rfl : k = N := by omega
      gi_wp2
      refine bodyPost_end (results_none rfl _ _ _) rfl ?_
      exact ⟨⟨_, rfl⟩, .inl ⟨_, rfl, HJ.out⟩⟩
theorem full_stops (n : Nat) (hn : 1 ≤ n) (b1 b2 n₀ : Nat) (A : Option Addr) (N ca g : Nat) (X : List Bk) (f : Nat → Value) (L : Nat → Nat) (w : World) (hok : NdOk X) (hL : ∀ j, L j ≤ 1048576) (hn₀ : n₀ ≤ w.heap.size) (hF : FB w n₀ b1 b2 A N ca g X f L) :
    SeqStopsK Fence.wide n Tryz.prog 114 #[.pointer (some ⟨b1, 0, none⟩), .pointer (some ⟨b2, 0, none⟩)] (fun r : Int × Int => #[.int .i64 r.1, .int .i64 r.2]) (Below n₀) (fun ys => ys = fulls X L N) (fun pre => ∃ rest, pre ++ rest = fulls X L N) 48 w :=
  fun l J Jx W hW hJ _ hY h0 => full1_in n l b1 b2 n₀ A N ca g X f L J Jx W hn hok hL hJ (fun pre x W1 h1 h2 => hY pre x W1 h1 h2) (Nat.le_trans hn₀ hW.size) (hF.below (hW.mono hn₀)) h0

theorem fullBlocks_any (A : Option Addr) (n ca g : Nat) (w : World) :
    Calls Tryz.prog 80 #[.agg #[.slice A n ca], .slice (some ⟨g, 0, none⟩) n n] w fun e w' =>
      e = .returned (.func (.func 114) #[] #[.pointer (some ⟨w.heap.size, 0, none⟩), .pointer (some ⟨w.heap.size + 1, 0, none⟩)]) ∧ w' = (w.alloc (.cells #[.slice A n ca] 34)).alloc (.cells #[.slice (some ⟨g, 0, none⟩) n n] 73) := by
  go_enter Tryz.func80, Tryz.ntmps80
  go_wp2
  go_ret
  exact ⟨rfl, rfl⟩

set_option maxRecDepth 100000 in
set_option maxHeartbeats 4000000 in
theorem leastBlock_any (b1 b2 : Nat) (A : Option Addr) (N ca g : Nat) (X : List Bk) (f : Nat → Value) (L : Nat → Nat) (w : World) (hok : NdOk X) (hL : ∀ j, L j ≤ 1048576) (hF : FB w w.heap.size b1 b2 A N ca g X f L) :
    Calls Tryz.prog 79 #[.func (.func 114) #[] #[.pointer (some ⟨b1, 0, none⟩), .pointer (some ⟨b2, 0, none⟩)], .int .i64 4, .int .i64 0] w fun e w' => e = .returned (.int .i64 (vic (fulls X L N)).1) ∧ Below w.heap.size w w' := by
  have HF := Lib.hid hF; have HOK := Lib.hid hok; have HLL := Lib.hid hL
  clear hF hok hL
  refine (callsIn_wide (n := 3)).1 ?_
  refine callsIn_of_wp_marks Tryz.func79 rfl trivial ?_ rfl
  simp only [Tryz.ntmps79, List.size_toArray, List.length_cons, List.length_nil, Nat.reduceAdd, Nat.reduceSub, Array.replicate_succ, Array.replicate_zero, List.push_toArray, List.append_toArray, List.nil_append, List.cons_append]
  gi_wp2
  refine wpIn_wide.2 (wp_scope_straight ((wpIn_wide (n := 3)).1 ?_))
  gi_wp2
  have bM := ((Boxed.new w 3 (.int .i64 0)).alloc (.cells #[.int .i64 (-1)] 2)).alloc (.cells #[.int .i64 4] 3)
  have bL := (Boxed.new (w.alloc (.cells #[.int .i64 0] 3)) 2 (.int .i64 (-1))).alloc (.cells #[.int .i64 4] 3)
  have bS := Boxed.new ((w.alloc (.cells #[.int .i64 0] 3)).alloc (.cells #[.int .i64 (-1)] 2)) 3 (.int .i64 4)
  have hB0 : Below w.heap.size w (((w.alloc (.cells #[.int .i64 0] 3)).alloc (.cells #[.int .i64 (-1)] 2)).alloc (.cells #[.int .i64 4] 3)) := (((Below.refl _ _).alloc (Nat.le_refl _) _).alloc (by simp) _).alloc (by simp; omega) _
  have hsW : (((w.alloc (.cells #[.int .i64 0] 3)).alloc (.cells #[.int .i64 (-1)] 2)).alloc (.cells #[.int .i64 4] 3)).heap.size = w.heap.size + 3 := by simp
  simp only [World.size_alloc] at bL bS
  change Code.wpIn _ _ _ _ _ _ (((w.alloc (.cells #[.int .i64 0] 3)).alloc (.cells #[.int .i64 (-1)] 2)).alloc (.cells #[.int .i64 4] 3))
  generalize ((w.alloc (.cells #[.int .i64 0] 3)).alloc (.cells #[.int .i64 (-1)] 2)).alloc (.cells #[.int .i64 4] 3) = W0 at bM bL bS hB0 hsW ⊢
  refine wpIn_label ?_
  gi_wp2
  have hF0 := HF.out.below hB0
  refine wpIn_rangeFunc_ownH rfl (by omega) (gf := 114) (lb := #[.pointer (some ⟨b1, 0, none⟩), .pointer (some ⟨b2, 0, none⟩)]) rfl trivial (enters_of Tryz.func114 (by kernel_rfl) rfl)
    (full_stops _ (by omega) b1 b2 w.heap.size A N ca g X f L W0 HOK.out HLL.out (by omega) hF0) (fun h k => Below.trans h k) (fun W l o o' hl h h1 h2 => belowK_b (by omega) W l o o' hl h h1 h2) (Below.refl _ _) (fun _ => rfl)
    (fun pre W => (Boxed W w.heap.size 3 (.int .i64 0) ∧ Boxed W (w.heap.size + 1) 2 (.int .i64 (vic pre).1) ∧ Boxed W (w.heap.size + 1 + 1) 3 (.int .i64 (vic pre).2)) ∧ (Below w.heap.size w W ∧ W0.heap.size ≤ W.heap.size))
    (fun c pre W => c = .exit 0 ∧ (vic pre).2 = 0 ∧ (Boxed W (w.heap.size + 1) 2 (.int .i64 (vic pre).1)) ∧ (Below w.heap.size w W ∧ W0.heap.size ≤ W.heap.size))
    (OwnFrom.and (fun s A' B' row hs hg hr => by
      obtain ⟨h1, h2, h3⟩ := hs
      refine ⟨h1.kept hg (fun e => ?_), h2.kept hg (fun e => ?_), h3.kept hg (fun e => ?_)⟩ <;> (have := (hr _ e.symm).1; omega)) (OwnFrom.and (ownFrom_below (Nat.le_refl _) (by omega)) (fun _ _ _ _ hs hg _ => Nat.le_trans hs hg.size)))
    (fun c => ?ix)
    ⟨⟨bM, bL, bS⟩, hB0, Nat.le_refl _⟩
    (fun x a' W => a' = { tmps := #[.func (.func 114) #[] #[.pointer (some ⟨b1, 0, none⟩), .pointer (some ⟨b2, 0, none⟩)], .int .i64 4, .int .i64 0, undef, undef, .pointer (some ⟨w.heap.size, 0, none⟩), .int .i64 0, .pointer (some ⟨w.heap.size + 1, 0, none⟩), .pointer (some ⟨w.heap.size + 1 + 1, 0, none⟩), .int .i64 x.1, .int .i64 x.2, .int .i64 4, .func (.func 114) #[] #[.pointer (some ⟨b1, 0, none⟩), .pointer (some ⟨b2, 0, none⟩)], .int .i64 x.1, .int .i64 x.2, undef, undef, undef, undef, undef, undef, undef, undef, undef, undef, undef, undef, undef], defers := [] })
    (fun x a' _ X' Y row hs hg hr => hs)
    ?assign ?body ?done ?stop
  case ix =>
    intro s A' B' row hs hg hr
    obtain ⟨h0, h1, h2, h3, h4⟩ := hs
    exact ⟨h0, h1, h2.kept hg (fun e => by have := (hr _ e.symm).1; omega), (ownFrom_below (β := Unit) (w₀ := w) (Nat.le_refl _) (B := W0.heap.size) (by omega)) () A' B' row h3 hg hr, Nat.le_trans h4 hg.size⟩
  case assign =>
    rintro l pre x W K ⟨⟨h1, h2, h3⟩, hB, hz⟩ hK
    gi_wp2
    exact hK _ _ (KeepsFrom.refl _ _) (Below.refl _ _) ⟨⟨h1, h2, h3⟩, hB, hz⟩ rfl
  case body =>
    rintro l pre x a' W hl ⟨r, hr⟩ ⟨⟨h1, h2, h3⟩, hB, hz⟩ rfl hlt
    have c1 := h1.cell; have c2 := h2.cell; have c3 := h3.cell
    have f2 := h2.frozen; have f3 := h3.frozen
    have HV := Lib.hid (vic_snoc pre x)
    have HI := Lib.hid (And.intro h1 (And.intro h2 h3)); have HB := Lib.hid hB
    have hW3 : w.heap.size + 1 + 1 < W.heap.size := h3.lt
    gi_wp2_with fail
    refine ⟨trivial, ?_⟩
    refine (CallsIn.inRound l (callsIn_wide.2 (compareI_any x.2 (vic pre).2 W))).mono ?_
    rintro e w3 ⟨rfl, rfl⟩
    have HST : Hid (vstep (vic pre) x = if x.2 < (vic pre).2 then x else vic pre) := Lib.hid rfl
    have HCM : Hid (cmpI x.2 (vic pre).2 = if x.2 < (vic pre).2 then -1 else if x.2 > (vic pre).2 then 1 else 0) := Lib.hid rfl
    clear h1 h2 h3 hB
    obtain ⟨x1, x2⟩ := x
    simp only at *
    by_cases hc : x2 < (vic pre).2
    · have HT : Hid (vic (pre ++ [(x1, x2)]) = (x1, x2)) := by show _ = _; rw [HV.out, HST.out, if_pos hc]
      rw [HCM.out, if_pos hc]
      have HB2 := Lib.hid ((HB.out.setCell (p := ⟨w.heap.size + 1, 0, none⟩) (by dsimp only; omega) (.int .i64 x1)).setCell (p := ⟨w.heap.size + 1 + 1, 0, none⟩) (by dsimp only; omega) (.int .i64 x2))
      have HM2 : Hid (Boxed ((w3.setCell ⟨w.heap.size + 1, 0, none⟩ (.int .i64 x1)).setCell ⟨w.heap.size + 1 + 1, 0, none⟩ (.int .i64 x2)) w.heap.size 3 (.int .i64 0)) := ((Below.heap_setCell _ _ _ _ (by dsimp only; omega)).trans (Below.heap_setCell _ _ _ _ (by dsimp only; omega))).trans HI.out.1
      have HL2 : Hid (Boxed ((w3.setCell ⟨w.heap.size + 1, 0, none⟩ (.int .i64 x1)).setCell ⟨w.heap.size + 1 + 1, 0, none⟩ (.int .i64 x2)) (w.heap.size + 1) 2 (.int .i64 x1)) := (Below.heap_setCell _ _ _ _ (by dsimp only; omega)).trans (HI.out.2.1.set _)
      have hS1 : Boxed (w3.setCell ⟨w.heap.size + 1, 0, none⟩ (.int .i64 x1)) (w.heap.size + 1 + 1) 3 (.int .i64 (vic pre).2) := (Below.heap_setCell _ ⟨w.heap.size + 1, 0, none⟩ _ _ (by dsimp only; omega)).trans HI.out.2.2
      have HS2 : Hid (Boxed ((w3.setCell ⟨w.heap.size + 1, 0, none⟩ (.int .i64 x1)).setCell ⟨w.heap.size + 1 + 1, 0, none⟩ (.int .i64 x2)) (w.heap.size + 1 + 1) 3 (.int .i64 x2)) := hS1.set _
      have hz2 : W0.heap.size ≤ ((w3.setCell ⟨w.heap.size + 1, 0, none⟩ (.int .i64 x1)).setCell ⟨w.heap.size + 1 + 1, 0, none⟩ (.int .i64 x2)).heap.size := by simp [World.setCell]; omega
      have HK2 := Lib.hid (((KeepsOthers.setCell w3 ⟨w.heap.size + 1, 0, none⟩ (.int .i64 x1)).trans (KeepsOthers.setCell _ ⟨w.heap.size + 1 + 1, 0, none⟩ (.int .i64 x2))).from W0.heap.size)
      have HP2 : Hid (Below w.heap.size w3 ((w3.setCell ⟨w.heap.size + 1, 0, none⟩ (.int .i64 x1)).setCell ⟨w.heap.size + 1 + 1, 0, none⟩ (.int .i64 x2))) := ((Below.refl _ _).setCell (p := ⟨w.heap.size + 1, 0, none⟩) (by dsimp only; omega) _).setCell (p := ⟨w.heap.size + 1 + 1, 0, none⟩) (by dsimp only; omega) _
      clear HV HST HCM HI HB hS1
      by_cases h0 : x2 = 0
      · subst h0
        gi_wp2
        refine ⟨HK2.out, rfl, ?_, ?_, HB2.out, hz2⟩
        · rw [HT.out]
        · rw [HT.out]; exact HL2.out
      · have h0' : (x2 == 0) = false := by simpa using h0
        gi_wp2
        refine ⟨HK2.out, HP2.out, ⟨HM2.out, ?_, ?_⟩, HB2.out, hz2⟩
        · rw [HT.out]; exact HL2.out
        · rw [HT.out]; exact HS2.out
    · have HT : Hid (vic (pre ++ [(x1, x2)]) = vic pre) := by show _ = _; rw [HV.out, HST.out, if_neg hc]
      rw [HCM.out, if_neg hc]
      by_cases hd : x2 > (vic pre).2
      · rw [if_pos hd]
        clear HV HST HCM hc hd
        gi_wp2
        exact ⟨KeepsFrom.refl _ _, Below.refl _ _, by dsimp only; rw [HT.out]; exact ⟨HI.out, HB.out, hz⟩⟩
      · rw [if_neg hd]
        clear HV HST HCM hc hd
        gi_wp2
        exact ⟨KeepsFrom.refl _ _, Below.refl _ _, by dsimp only; rw [HT.out]; exact ⟨HI.out, HB.out, hz⟩⟩
  case done =>
    rintro Dd xs W hD rfl ⟨⟨h1, h2, h3⟩, hB, hz⟩ hK
    have c2 := h2.cell
    have hlD : Dd < W.heap.size := lt_of_block hK
    gi_wp2
    refine ⟨by simp, .inl ⟨_, _, rfl, run_takeDeferred hK, ?_⟩⟩
    refine ⟨_, results_tmp rfl _ _ _, ?_⟩
    exact ⟨rfl, hB.trans (belowK_b (w := w) (Nat.le_refl _) W Dd _ _ (by omega) hK rfl rfl)⟩
  case stop =>
    rintro Dd c pre W hD ⟨rest, hrest⟩ ⟨rfl, h0, h2, hB, hz⟩ hK
    have HV : Hid (vic (fulls X L N) = vic pre) := by
      show _ = _
      rw [← hrest]
      exact vic_stays h0 (fun x hx => fulls_nonneg X L N x (by rw [← hrest]; exact List.mem_append.2 (.inr hx)))
    have c2 := h2.cell
    gi_wp2
    refine ⟨by simp, .inl ⟨_, _, rfl, run_takeDeferred hK, ?_⟩⟩
    refine ⟨_, results_tmp rfl _ _ _, ?_⟩
    rw [HV.out]
    exact ⟨rfl, hB.trans (belowK_b (w := w) (Nat.le_refl _) W Dd _ _ (by omega) hK rfl rfl)⟩
end Go.Proofs.YtkiklcdkliebaaaGreatDoor

namespace Go.Proofs.YtkiklcdkliebaaaGreatDoor
open Go.RowKit
open Bt (Rc)

/-- the sizes of the loads -/
noncomputable def ldSz (X : List Bk) (Y : List Rc) (j : Nat) : Nat := (ldOf X (j : Int) (pruneOf Y)).length
/-- what Victim answers -/
noncomputable def vicAns (X : List Bk) : Int := if mntCode X = 0 then (vic (fulls X (ldSz X (mntList X)) X.length)).1 else -1
theorem ldSz_le {X : List Bk} {Y : List Rc} (h : Y.length ≤ 48) (j : Nat) : ldSz X Y j ≤ 1048576 := by
  have h1 := ldOf_len X (j : Int) (pruneOf Y); have h2 := pruneOf_len Y; unfold ldSz; omega

set_option maxHeartbeats 2000000 in
set_option maxRecDepth 100000 in
theorem victimOf_any (A : Option Addr) (n ca g : Nat) (X : List Bk) (f : Nat → Value) (L : Nat → Nat) (w : World) (hok : NdOk X) (hL : ∀ j, L j ≤ 1048576) (hA : RdBk w w.heap.size A n X) (hrow : Row w g n f) (hlen : ∀ j, j < n → ∃ A' c', f j = .slice A' (L j) c') :
    Calls Tryz.prog 49 #[.agg #[.slice A n ca], .slice (some ⟨g, 0, none⟩) n n] w fun e w' => e = .returned (.int .i64 (vic (fulls X L n)).1) ∧ Below w.heap.size w w' := by
  have HA := Lib.hid hA; have HOK := Lib.hid hok; have HLL := Lib.hid hL; have HRW := Lib.hid hrow; have HLN := Lib.hid hlen
  clear hA hok hL hrow hlen
  go_enter Tryz.func49, Tryz.ntmps49
  go_wp2_with fail
  have hb0 := box_below w (.cells #[.slice A n ca] 34)
  change Calls _ _ _ (w.alloc (.cells #[.slice A n ca] 34)) _
  generalize w.alloc (.cells #[.slice A n ca] 34) = W at hb0 ⊢
  refine (fullBlocks_any A n ca g W).mono ?_
  rintro e w2 ⟨rfl, rfl⟩
  have hb2 : Below W.heap.size W ((W.alloc (.cells #[.slice A n ca] 34)).alloc (.cells #[.slice (some ⟨g, 0, none⟩) n n] 73)) := ((Below.refl _ _).alloc (Nat.le_refl _) _).alloc (by simp) _
  have k1 := (isBlk_new W 34 [.slice A n ca]).alloc (.cells #[.slice (some ⟨g, 0, none⟩) n n] 73)
  have k2 := isBlk_new (W.alloc (.cells #[.slice A n ca] 34)) 73 [.slice (some ⟨g, 0, none⟩) n n]
  rw [size_alloc] at k2
  change IsBlk ((W.alloc (.cells #[.slice A n ca] 34)).alloc (.cells #[.slice (some ⟨g, 0, none⟩) n n] 73)) _ _ _ at k1 k2
  generalize (W.alloc (.cells #[.slice A n ca] 34)).alloc (.cells #[.slice (some ⟨g, 0, none⟩) n n] 73) = w2 at hb2 k1 k2 ⊢
  have hB2 := bel_step hb0 hb2
  have hFB : FB w2 w2.heap.size W.heap.size (W.heap.size + 1) A n ca g X f L := ⟨k1.cell rfl, k1.lt, k2.cell rfl, k2.lt, rd_step HA.out hB2, HRW.out.below hB2 HRW.out.lt, Nat.lt_of_lt_of_le HRW.out.lt hB2.size, HLN.out⟩
  have HFB := Lib.hid hFB; have HB2 := Lib.hid hB2
  clear hFB hB2 hb0 hb2 k1 k2
  go_wp2_with fail
  refine (leastBlock_any W.heap.size (W.heap.size + 1) A n ca g X f L w2 HOK.out HLL.out HFB.out).mono ?_
  rintro e w3 ⟨rfl, hb3⟩
  have HB3 := Lib.hid (bel_step HB2.out hb3)
  clear hb3
  go_wp2
  go_ret
  exact ⟨rfl, HB3.out⟩

theorem one_keep {u w' : World} {b0 b1 : Nat} {e0 e1 : TypeId} {A B : Option Addr} {n c m d : Nat} (h0 : IsBlk u b0 e0 [.slice A n c]) (h1 : IsBlk u b1 e1 [.slice B m d]) (hb : Below u.heap.size u w') :
    w'.cell? ⟨b0, 0, none⟩ = some (.slice A n c) ∧ w'.cell? ⟨b1, 0, none⟩ = some (.slice B m d) ∧ Hid (Below u.heap.size u w') := ⟨(h0.below hb h0.lt).cell rfl, (h1.below hb h1.lt).cell rfl, hb⟩

set_option maxHeartbeats 4000000 in
set_option maxRecDepth 100000 in
theorem impl_victim (A : Option Addr) (n ca : Nat) (X : List Bk) (a0 a2 : Addr) (w : World) (hG : ErrType w) (hS : Two w a0 a2) (hX : Small X) (hA : RdBk w w.heap.size A n X) :
    Calls Tryz.prog 23 #[.agg #[.slice A n ca]] w fun e w' => e = .returned (.int .i64 (vicAns X)) ∧ Below w.heap.size w w' := by
  have HL := Lib.hid hA.1
  have HA := Lib.hid hA; have HX := Lib.hid hX; have HS := Lib.hid hS; have HG := Lib.hid hG; clear hA hX hS hG
  go_enter Tryz.func23, Tryz.ntmps23
  go_wp2_with fail
  have hb0 := box_below w (.cells #[.slice A n ca] 34)
  have k0 := isBlk_new w 34 [.slice A n ca]
  change Calls _ _ _ (w.alloc (.cells #[.slice A n ca] 34)) _
  generalize w.alloc (.cells #[.slice A n ca] 34) = W at hb0 k0 ⊢
  refine (mounted_any A n ca X a0 a2 W (HG.out.below hb0) (HS.out.below hb0) HX.out (rd_step HA.out hb0)).mono ?_
  rintro e w2 ⟨Ar, cr, rfl, hcr, ho2, hb2⟩
  have hI := error_iface
  have HB3 := Lib.hid ((bel_step hb0 hb2).alloc (bel_step hb0 hb2).size (.cells #[.slice Ar (mntList X).length cr] 28))
  have HK3 := Lib.hid ((k0.below hb2 k0.lt).alloc (.cells #[.slice Ar (mntList X).length cr] 28))
  have HH3 := Lib.hid (isBlk_new w2 28 [.slice Ar (mntList X).length cr])
  have HO3 := Lib.hid (ho2.below (box_below w2 (.cells #[.slice Ar (mntList X).length cr] 28)) (Nat.le_refl _))
  have hs3 := size_alloc w2 (.cells #[.slice Ar (mntList X).length cr] 28)
  have HCR := Lib.hid hcr
  have hW2 := hb2.size
  have hwW := hb0.size
  clear hb0 k0 hb2 ho2 hcr
  have HNO : Hid (∀ c : Int, mntCode X = c → c ≠ 0 → vicAns X = -1) := fun c h h0 => by unfold vicAns; rw [h, if_neg h0]
  rcases mnt_codes X with h | h | h
  · have HZ := Lib.hid h
    have HC : Hid (vicAns X = (vic (fulls X (ldSz X (mntList X)) n)).1) := by show _ = _; unfold vicAns; rw [h, if_pos rfl, HL.out]
    rw [h, errOf_0]
    clear h HNO
    have HOK := Lib.hid (mnt_zero HZ.out).1
    have HSQ := Lib.hid (mnt_seqs HZ.out); have HSM := Lib.hid (mnt_smallL HZ.out)
    have HLS := Lib.hid (fun j => ldSz_le (X := X) (mntList_len X) j)
    clear HZ
    generalize mntList X = Y at *
    go_wp2
    change Code.wp _ _ _ _ (w2.alloc (.cells #[.slice Ar Y.length cr] 28))
    change Hid (IsBlk (w2.alloc (.cells #[.slice Ar Y.length cr] 28)) _ _ _) at HH3
    generalize w2.alloc (.cells #[.slice Ar Y.length cr] 28) = w3 at HB3 HK3 HH3 HO3 hs3 ⊢
    have hlt0 : w.heap.size < w3.heap.size := HK3.out.lt
    have hlt1 : w2.heap.size < w3.heap.size := HH3.out.lt
    clear hI
    go_region_held3 (fun w' => w'.cell? ⟨w.heap.size, 0, none⟩ = some (.slice A n ca) ∧ w'.cell? ⟨w2.heap.size, 0, none⟩ = some (.slice Ar Y.length cr) ∧ Hid (Below w3.heap.size w3 w'))
      (first | exact hsL | exact hsV | exact one_keep HK3.out HH3.out (Below.refl _ _).drew | exact one_keep HK3.out HH3.out (Below.refl _ _))
      (first
        | (go_at_call 47
           refine (loadsOf_any A Ar n ca Y.length cr X Y _ HOK.out (HG.out.below (bel_step HB3.out (two_of (by assumption)))) HSM.out HCR.out (fun r hr => (HSQ.out r hr).2) (rd_step HA.out (bel_step HB3.out (two_of (by assumption)))) ((HO3.out.below (two_of (by assumption)) (by omega)).rd (by have := (two_of (by assumption)).size; omega))).mono ?_
           rintro e wL ⟨g, f, rfl, hg, hrow, hown, hbL⟩
           have hsL := one_keep HK3.out HH3.out ((two_of (by assumption)).trans (hbL.mono (two_of (by assumption)).size))
           have HRW := Lib.hid hrow
           have HLN : Hid (∀ j, j < n → ∃ A' c', f j = .slice A' (ldSz X Y j) c') := fun j hj => own_slice (hown j hj)
           clear hg hrow hown hbL)
        | (go_at_call 49
           refine (victimOf_any A n ca g X f (ldSz X Y) _ HOK.out HLS.out (rd_step HA.out (bel_step HB3.out (two_of (by assumption)))) HRW.out HLN.out).mono ?_
           rintro e wV ⟨rfl, hbV⟩
           have hsV := one_keep HK3.out HH3.out ((two_of (by assumption)).trans (hbV.mono (two_of (by assumption)).size))
           clear hbV))
    all_goals
      go_wp2
      go_ret
      exact ⟨ret_i HC.out.symm, bel_step HB3.out (two_of hsV)⟩
  · have HC := Lib.hid (HNO.out 1 h (by decide))
    rw [h, errOf_1]
    clear h HNO
    go_wp2
    go_ret
    exact ⟨ret_i HC.out.symm, HB3.out⟩
  · have HC := Lib.hid (HNO.out 10 h (by decide))
    rw [h, errOf_10]
    clear h HNO
    go_wp2
    go_ret
    exact ⟨ret_i HC.out.symm, HB3.out⟩
end Go.Proofs.YtkiklcdkliebaaaGreatDoor

namespace Go.Proofs.YtkiklcdkliebaaaGreatDoor
open Go.RowKit
open Bt (Rc)

/-- what l06Victim answers: the block, and its load -/
def RetVi (w : World) (V : Int × Int) (T : Int → List Nat) (e : Ending) (w' : World) : Prop :=
  ∃ (Al : Option Addr) (cl : Nat) (l : List Int), e = .returned (.tuple #[.int .i64 V.1, .slice Al l.length cl]) ∧ RdNs w' w'.heap.size Al l.length l ∧ (l.length : Int) = V.2 ∧ (0 ≤ V.1 → l = natI (T V.1)) ∧ Below w.heap.size w w'
theorem vic_fst (X : List Bk) (L : Nat → Nat) (k : Nat) : -1 ≤ (vic (fulls X L k)).1 ∧ (vic (fulls X L k)).1 < (k : Int) := by
  induction k with
  | zero => simp [fulls, vic]
  | succ k ih =>
    rw [fulls]
    split
    · rw [vic_snoc]; unfold vstep; split
      · simp; omega
      · omega
    · omega
theorem rd_four (w : World) (e : TypeId) : RdNs (w.alloc (.cells #[.int .i64 0, .int .i64 0, .int .i64 0, .int .i64 0] e)) (w.alloc (.cells #[.int .i64 0, .int .i64 0, .int .i64 0, .int .i64 0] e)).heap.size (some ⟨w.heap.size, 0, none⟩) 4 [0, 0, 0, 0] := by
  refine ⟨rfl, fun _ => ⟨w.heap.size, rfl, by simp, ?_⟩⟩
  refine ⟨e, #[.int .i64 0, .int .i64 0, .int .i64 0, .int .i64 0], isBlk_new w e [.int .i64 0, .int .i64 0, .int .i64 0, .int .i64 0], Nat.le_refl _, fun i hi => ?_⟩
  match i, hi with
  | 0, _ => rfl
  | 1, _ => rfl
  | 2, _ => rfl
  | 3, _ => rfl

set_option maxHeartbeats 8000000 in
set_option maxRecDepth 100000 in
theorem l06Victim_any (A B : Option Addr) (n ca m cb : Nat) (X : List Bk) (Y : List Rc) (w : World) (hok : NdOk X) (hr : hRight Y = true) (hA : RdBk w w.heap.size A n X) (hB : RdRc w w.heap.size B m Y) :
    Calls Tryz.prog 48 #[.agg #[.slice A n ca], .agg #[.slice B m cb]] w (RetVi w (vic (fulls X (fun j => (ldTo Y (sqs X n) (j : Int) m).length) n)) (fun b => ldTo Y (sqs X n) b m)) := by
  have hm48 : m ≤ 48 := by rw [← hB.1]; exact hRight_len hr
  have hNL : n = X.length := hA.1.symm
  have hn : n ≤ 12 := by rw [hNL]; exact hok.1.2
  have HNL := Lib.hid hNL
  have HA := Lib.hid hA; have HB := Lib.hid hB; have HOK := Lib.hid hok; have HR := Lib.hid hr
  have HLS : Hid ((sqs X n).length = 4 * n) := sqs_len X n
  clear hA hB hok hr hNL
  obtain ⟨L, hL⟩ : ∃ L : Nat → Nat, L = fun j : Nat => (ldTo Y (sqs X n) (j : Int) m).length := ⟨_, rfl⟩
  have HL := Lib.hid hL
  rw [← hL]
  clear hL
  go_enter Tryz.func48, Tryz.ntmps48
  go_wp2_with fail
  have hb0 : Below w.heap.size w ((w.alloc (.cells #[.slice A n ca] 34)).alloc (.cells #[.slice B m cb] 28)) := ((Below.refl _ _).alloc (Nat.le_refl _) _).alloc (by simp) _
  have k0 := (isBlk_new w 34 [.slice A n ca]).alloc (.cells #[.slice B m cb] 28)
  have k1 := isBlk_new (w.alloc (.cells #[.slice A n ca] 34)) 28 [.slice B m cb]
  rw [size_alloc] at k1
  change IsBlk ((w.alloc (.cells #[.slice A n ca] 34)).alloc (.cells #[.slice B m cb] 28)) _ _ _ at k0 k1
  generalize (w.alloc (.cells #[.slice A n ca] 34)).alloc (.cells #[.slice B m cb] 28) = W at hb0 k0 k1 ⊢
  have HB0 := Lib.hid hb0; have HK0 := Lib.hid k0; have HK1 := Lib.hid k1
  clear hb0 k0 k1
  refine (l06Seqs_any A n ca X W HOK.out (rd_step HA.out HB0.out)).mono ?_
  rintro e w2 ⟨As, cs, rfl, ho2, hb2⟩
  have HRS := Lib.hid (ho2.rd (Nat.le_refl _)); have HB2 := Lib.hid (bel_step HB0.out hb2)
  have HK02 := Lib.hid (HK0.out.below hb2 HK0.out.lt); have HK12 := Lib.hid (HK1.out.below hb2 HK1.out.lt)
  have x1 : w2.cell? ⟨w.heap.size + 1, 0, none⟩ = some (.slice B m cb) := HK12.out.cell rfl
  clear ho2 hb2 HK0 HK1
  go_wp2_with fail
  refine (l04Needed_any B m cb Y w2 HR.out (HB.out.next HB2.out)).mono ?_
  rintro e w3 ⟨gN, rfl, hgN, hrN, hb3⟩
  have HRN := Lib.hid hrN; have HB3 := Lib.hid (bel_step HB2.out hb3)
  have HRS3 := Lib.hid (rdNs_next HRS.out hb3)
  have HK03 := Lib.hid (HK02.out.below hb3 HK02.out.lt); have HK13 := Lib.hid (HK12.out.below hb3 HK12.out.lt)
  clear hgN hrN hb3 x1 HRS HK02 HK12
  go_wp2
  have hb4 := box_below w3 (.cells #[.int .i64 0, .int .i64 0, .int .i64 0, .int .i64 0] 3)
  have r4 := rd_four w3 3
  change Code.wp _ _ _ _ (w3.alloc (.cells #[.int .i64 0, .int .i64 0, .int .i64 0, .int .i64 0] 3))
  generalize w3.alloc (.cells #[.int .i64 0, .int .i64 0, .int .i64 0, .int .i64 0] 3) = w4 at hb4 r4 ⊢
  have HB4 := Lib.hid (bel_step HB3.out hb4)
  have HRS4 := Lib.hid (rdNs_next HRS3.out hb4); have HRN4 := Lib.hid (brow_next HRN.out hb4)
  have HK04 := Lib.hid (HK03.out.below hb4 HK03.out.lt); have HK14 := Lib.hid (HK13.out.below hb4 HK13.out.lt)
  have HR4 := Lib.hid r4
  clear hb4 r4 HRS3 HRN HK03 HK13
  go_loopw [8, 9, 10] (fun kv lv iv wr => ∃ (i : Nat) (Al : Option Addr) (cl : Nat) (l : List Int), i ≤ n ∧ iv = .int .i64 (i : Nat) ∧ kv = .int .i64 (vic (fulls X L i)).1 ∧ lv = .slice Al l.length cl ∧ RdNs wr wr.heap.size Al l.length l ∧ (l.length : Int) = (vic (fulls X L i)).2 ∧ (0 ≤ (vic (fulls X L i)).1 → l = natI (ldTo Y (sqs X n) (vic (fulls X L i)).1 m)) ∧ Below w4.heap.size w4 wr) (fun _ _ iv _ => n - (intOf iv).toNat)
  case atStart => exact ⟨0, _, 4, [0, 0, 0, 0], by omega, rfl, rfl, rfl, HR4.out, rfl, fun h => absurd h (by simp [fulls, vic]), Below.refl _ _⟩
  case round =>
    obtain ⟨i, Al, cl, l, hi, rfl, rfl, rfl, hrl, hll, htl, hbel⟩ := hrel
    have HRL := Lib.hid hrl; have HTL := Lib.hid htl; have HW := Lib.hid hbel
    have HBW := Lib.hid (bel_step HB4.out hbel)
    have hx : wr.cell? ⟨w.heap.size, 0, none⟩ = some (.slice A n ca) := (HK04.out.below hbel HK04.out.lt).cell rfl
    have hy : wr.cell? ⟨w.heap.size + 1, 0, none⟩ = some (.slice B m cb) := (HK14.out.below hbel HK14.out.lt).cell rfl
    clear hrl htl
    by_cases hlt : i < n
    · obtain ⟨g, off, pA, pc, rfl, hg, hc0, hc1, hc2, hpg⟩ := (HA.out.below HBW.out).at hlt
      have hil : i < X.length := by rw [← HNL.out]; exact hlt
      have HPG := Lib.hid (hpg.mono HBW.out.size)
      have h4 := (HOK.out.2 i hil).1
      have HNU := Lib.hid (nUsed_ok (HOK.out.2 i hil))
      have HYES := Lib.hid (fun h => fulls_yes (X := X) (L := L) (k := i) h); have HNO := Lib.hid (fun h => fulls_no (X := X) (L := L) (k := i) h)
      have hFBd : fulB (X.getD i zeroBk) = decide ((X.getD i zeroBk).bad = false ∧ uPre (X.getD i zeroBk).pages = 4) := rfl
      rw [hFBd] at HYES HNO
      clear hFBd hpg hbel
      generalize X.getD i zeroBk = b at hc0 hc1 hc2 HPG h4 HYES HNO HNU
      obtain ⟨ps, er, bd⟩ := b
      simp only at hc0 hc1 hc2 HPG h4 HYES HNO HNU
      rw [h4] at hc0 HPG
      have hu4 : uPre ps ≤ 4 := by rw [← h4]; exact uPre_le ps
      clear h4
      cases bd with
      | true =>
        have HT := Lib.hid (HNO.out (by simp))
        clear HYES HNO
        go_wp2
        go_roundw
        case rel => exact ⟨i + 1, Al, cl, l, by omega, by go_num, by rw [HT.out], rfl, HRL.out, by rw [HT.out]; exact hll, by rw [HT.out]; exact HTL.out, HW.out⟩
        case measure => simp [intOf]; omega
      | false =>
        go_wp2_with fail
        refine (l02Used_any pA 4 pc ps er false wr (by omega) HPG.out).mono ?_
        rintro e w5 ⟨rfl, hb5⟩
        rw [HNU.out]
        have HW5 := Lib.hid (bel_step HW.out hb5)
        have HRL5 := Lib.hid (rdNs_next HRL.out hb5)
        have hy5 : w5.cell? ⟨w.heap.size + 1, 0, none⟩ = some (.slice B m cb) := (HK14.out.below HW5.out HK14.out.lt).cell rfl
        clear hb5 HNU hx hy hc0 hc1 hc2
        by_cases hu : uPre ps = 4
        case neg =>
          have HT := Lib.hid (HNO.out (by simp [hu]))
          have hd : decide ((uPre ps : Int) < 4) = true := decide_eq_true (by omega)
          have hlt4 : (uPre ps : Int) < 4 := by omega
          clear HYES HNO hu
          generalize uPre ps = u at *
          go_wp2
          go_roundw
          case rel => exact ⟨i + 1, Al, cl, l, by omega, by go_num, by rw [HT.out], rfl, HRL5.out, by rw [HT.out]; exact hll, by rw [HT.out]; exact HTL.out, HW5.out⟩
          case measure => simp [intOf]; omega
        have HT := Lib.hid (HYES.out (by simp [hu]))
        rw [hu]
        clear HYES HNO hu hu4
        go_wp2_with fail
        refine (l06Load_any As B (sqs X n).length cs m cb gN (sqs X n) Y (i : Int) w5 (by have := HLS.out; omega) hm48 (rdNs_next HRS4.out HW5.out) ((HB.out.next HB4.out).next HW5.out) (brow_next HRN4.out HW5.out)).mono ?_
        rintro e w6 ⟨Ad, cd, rfl, ho6, hb6⟩
        have HW6 := Lib.hid (bel_step HW5.out hb6)
        have HRL6 := Lib.hid (rdNs_next HRL5.out hb6)
        have HRD6 := Lib.hid (ho6.rd (Nat.le_refl _))
        have hdl : (natI (ldTo Y (sqs X n) (i : Int) m)).length = L i := by rw [natI_len, HL.out]
        have hdl48 : L i ≤ 48 := by rw [HL.out]; have := ldTo_len Y (sqs X n) (i : Int) m; simp only; omega
        have HVS : Hid (vic (fulls X L (i + 1)) = if (L i : Int) < (vic (fulls X L i)).2 then ((i : Int), (L i : Int)) else vic (fulls X L i)) := by show _ = _; rw [HT.out, vic_snoc]; rfl
        clear ho6 hb6 hy5
        obtain ⟨D, hD⟩ : ∃ D, D = natI (ldTo Y (sqs X n) (i : Int) m) := ⟨_, rfl⟩
        have HD := Lib.hid hD
        rw [← hD] at hdl HRD6 ⊢
        clear hD HT
        by_cases hlt2 : (L i : Int) < (vic (fulls X L i)).2
        · have HV : Hid (vic (fulls X L (i + 1)) = ((i : Int), (L i : Int))) := by show _ = _; rw [HVS.out, if_pos hlt2]
          have hc : (D.length : Int) < (l.length : Int) := by rw [hdl, hll]; exact hlt2
          clear HVS
          generalize (vic (fulls X L i)).1 = v1 at *
          go_wp2
          go_roundw
          case rel => exact ⟨i + 1, Ad, cd, D, by omega, by go_num, by rw [HV.out], by rw [hdl], HRD6.out, by rw [HV.out, hdl], fun _ => by rw [HV.out]; exact HD.out, HW6.out⟩
          case measure => simp [intOf]; omega
        · have HV : Hid (vic (fulls X L (i + 1)) = vic (fulls X L i)) := by show _ = _; rw [HVS.out, if_neg hlt2]
          have hc : ¬ (D.length : Int) < (l.length : Int) := by rw [hdl, hll]; exact hlt2
          have hc' : (l.length : Int) ≤ (D.length : Int) := by omega
          clear HVS
          go_wp2
          go_roundw
          case rel => exact ⟨i + 1, Al, cl, l, by omega, by go_num, by rw [HV.out], rfl, HRL6.out, by rw [HV.out]; exact hll, by rw [HV.out]; exact HTL.out, HW6.out⟩
          case measure => simp [intOf]; omega
    · obtain rfl : i = n := by omega
      go_wp2
      refine bodyPost_ret (v := .tuple #[.int .i64 (vic (fulls X L i)).1, .slice Al l.length cl]) (by simp [results, Tryz.results48, go_sem]) rfl ?_
      exact ⟨Al, cl, l, rfl, HRL.out, hll, HTL.out, HBW.out⟩

set_option maxHeartbeats 2000000 in
set_option maxRecDepth 100000 in
theorem spec_victim (A : Option Addr) (n ca : Nat) (X : List Bk) (w : World) (hX : Small X) (hA : RdBk w w.heap.size A n X) :
    Calls Tryz.prog 22 #[.agg #[.slice A n ca]] w fun e w' => e = .returned (.int .i64 (vicAns X)) ∧ Below w.heap.size w w' := by
  have HL := Lib.hid hA.1
  have HA := Lib.hid hA; have HX := Lib.hid hX; clear hA hX
  go_enter Tryz.func22, Tryz.ntmps22
  go_wp2_with fail
  have hb0 := box_below w (.cells #[.slice A n ca] 34)
  have k0 := isBlk_new w 34 [.slice A n ca]
  change Calls _ _ _ (w.alloc (.cells #[.slice A n ca] 34)) _
  generalize w.alloc (.cells #[.slice A n ca] 34) = W at hb0 k0 ⊢
  refine (spec_mount A n ca X W HX.out (rd_step HA.out hb0)).mono ?_
  rintro e w2 ⟨Ar, cr, rfl, ho2, hb2⟩
  have HB3 := Lib.hid ((bel_step hb0 hb2).alloc (bel_step hb0 hb2).size (.cells #[.slice Ar (mntList X).length cr, .int .i64 (mntCode X)] 30))
  have HK3 := Lib.hid ((k0.below hb2 k0.lt).alloc (.cells #[.slice Ar (mntList X).length cr, .int .i64 (mntCode X)] 30))
  have HH3 := Lib.hid (isBlk_new w2 30 [.slice Ar (mntList X).length cr, .int .i64 (mntCode X)])
  have HO3 := Lib.hid (ho2.below (box_below w2 (.cells #[.slice Ar (mntList X).length cr, .int .i64 (mntCode X)] 30)) (Nat.le_refl _))
  have hs3 := size_alloc w2 (.cells #[.slice Ar (mntList X).length cr, .int .i64 (mntCode X)] 30)
  have hW2 := hb2.size
  clear hb0 k0 hb2 ho2
  by_cases hz : mntCode X = 0
  case neg =>
    have HC : Hid (vicAns X = -1) := by show _ = _; unfold vicAns; rw [if_neg hz]
    have hb : (mntCode X == 0) = false := by simpa using hz
    generalize mntCode X = C at *
    go_wp2
    go_ret
    exact ⟨ret_i HC.out.symm, HB3.out⟩
  have HOK := Lib.hid (mnt_zero hz).1
  have hrt := (mnt_zero hz).2.2
  have HC : Hid (vicAns X = (vic (fulls X (fun j => (ldTo (mntList X) (sqs X n) (j : Int) (mntList X).length).length) n)).1) := by
    show _ = _
    unfold vicAns
    rw [if_pos hz, HL.out]
    congr 3
    funext j
    have hagr := loads_agree HOK.out (Y := mntList X) (fun r hr => ⟨(mnt_seqs hz r hr).1, (mnt_seqs hz r hr).2.1⟩) (j : Int) (mntList X).length (Nat.le_refl _)
    rw [← pruneOf_yes hrt, HL.out] at hagr
    unfold ldSz
    rw [← hagr, List.length_map]
  have HRT := Lib.hid hrt
  rw [hz] at HB3 HK3 HH3 HO3 hs3 ⊢
  clear hz hrt
  generalize mntList X = Y at *
  have hx3 : (w2.alloc (.cells #[.slice Ar Y.length cr, .int .i64 0] 30)).cell? ⟨w.heap.size, 0, none⟩ = some (.slice A n ca) := HK3.out.cell rfl
  go_wp2_with fail
  change Calls _ _ _ (w2.alloc (.cells #[.slice Ar Y.length cr, .int .i64 0] 30)) _
  generalize w2.alloc (.cells #[.slice Ar Y.length cr, .int .i64 0] 30) = w3 at HB3 HK3 HH3 HO3 hs3 ⊢
  refine (l06Victim_any A Ar n ca Y.length cr X Y w3 HOK.out HRT.out (rd_step HA.out HB3.out) (HO3.out.rd (by omega))).mono ?_
  rintro e w4 ⟨Al, cl, l, rfl, -, -, -, hb4⟩
  have HB4 := Lib.hid (bel_step HB3.out hb4)
  clear hb4 hx3
  go_wp2
  go_ret
  exact ⟨ret_i HC.out.symm, HB4.out⟩
end Go.Proofs.YtkiklcdkliebaaaGreatDoor
