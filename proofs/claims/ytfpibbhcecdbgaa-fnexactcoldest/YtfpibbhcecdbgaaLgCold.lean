/-
  The full block with the least Erases, of the program.
-/
import Derived.Test.YtfpibbhcecdbgaaProg
import Derived.KernelRfl
import Derived.Test.YtfpibbhcecdbgaaLgFull
import Derived.Test.YtfpibbhcecdbgaaLgEnds
namespace Go.Proofs.Ytfpibbhcecdbgaa
open Go.RowKit Go.Shelf Go.ChangeShapes
attribute [local go_sem] Oper.semAt_some

/-- the Erases of a block, as a size -/
noncomputable def erL (X : List Bk) (j : Nat) : Nat := (X.getD j zeroBk).erases.toNat
/-- the first block with the least size, below 1000001 -/
def cold (l : List (Int × Int)) : Int × Int := l.foldl vstep (-1, 1000001)
theorem cold_snoc (l : List (Int × Int)) (x : Int × Int) : cold (l ++ [x]) = vstep (cold l) x := by simp [cold]
theorem cold_stays {l rest : List (Int × Int)} (h : (cold l).2 = 0) (hr : ∀ x ∈ rest, 0 ≤ x.2) : cold (l ++ rest) = cold l := by
  have : ∀ (rest : List (Int × Int)) (s : Int × Int), s.2 = 0 → (∀ x ∈ rest, 0 ≤ x.2) → rest.foldl vstep s = s := by
    intro rest
    induction rest with
    | nil => intro s _ _; rfl
    | cons a l ih =>
      intro s hs ha
      have e : vstep s a = s := by unfold vstep; rw [if_neg (by have := ha a (by simp); omega)]
      rw [List.foldl_cons, e]
      exact ih s hs (fun x hx => ha x (by simp [hx]))
  unfold cold at *
  rw [List.foldl_append]
  exact this rest _ h hr
theorem gby_belowC {W W' : World} (h : Below W.heap.size W W') : W.grownBy W' none := ⟨h.os, h.tape, h.output, h.size, fun k hk _ => h.block k hk⟩

set_option maxHeartbeats 1000000 in
theorem isNaNL_any (x : Int) (w : World) : Calls Try.prog 40 #[.int .i64 x] w fun e w' => e = .returned (.bool false) ∧ w' = w := by
  go_enter Try.func40, Try.ntmps40
  go_wp2
  go_ret
  exact ⟨by simp, rfl⟩
set_option maxHeartbeats 1000000 in
theorem compareL_any (x y : Int) (w : World) : Calls Try.prog 28 #[.int .i64 x, .int .i64 y] w fun e w' => e = .returned (.int .i64 (cmpI x y)) ∧ w' = w := by
  have HC : Hid (cmpI x y = if x < y then -1 else if x > y then 1 else 0) := Lib.hid rfl
  generalize cmpI x y = r at HC ⊢
  go_enter Try.func28, Try.ntmps28
  go_wp2_with fail
  refine (isNaNL_any x w).mono ?_
  rintro e w1 ⟨rfl, rfl⟩
  go_wp2_with fail
  refine (isNaNL_any y w1).mono ?_
  rintro e w2 ⟨rfl, rfl⟩
  by_cases h1 : x < y
  · have h1' : decide (x < y) = true := decide_eq_true h1
    have HR : Hid (r = -1) := by show _ = _; rw [HC.out, if_pos h1]
    clear HC
    go_wp2
    go_ret
    exact ⟨by rw [HR.out]; rfl, rfl⟩
  · have h1' : decide (x < y) = false := decide_eq_false h1
    by_cases h2 : x > y
    · have h2' : decide (y < x) = true := decide_eq_true h2
      have HR : Hid (r = 1) := by show _ = _; rw [HC.out, if_neg h1, if_pos h2]
      clear HC
      go_wp2
      go_ret
      exact ⟨by rw [HR.out]; rfl, rfl⟩
    · have h2' : decide (y < x) = false := decide_eq_false h2
      have HR : Hid (r = 0) := by show _ = _; rw [HC.out, if_neg h1, if_neg h2]
      clear HC
      go_wp2
      go_ret
      exact ⟨by rw [HR.out]; rfl, rfl⟩
/-- what the iterator reads: all of it below block n₀ -/
structure FC (w : World) (n₀ b1 b2 b3 : Nat) (A : Option Addr) (N ca : Nat) (X : List Bk) : Prop where
  c1 : w.cell? ⟨b1, 0, none⟩ = some (.slice A N ca)
  l1 : b1 < n₀
  c2 : w.cell? ⟨b2, 0, none⟩ = some (.func (.func 17) #[] #[.pointer (some ⟨b3, 0, none⟩)])
  l2 : b2 < n₀
  c3 : w.cell? ⟨b3, 0, none⟩ = some (.slice A N ca)
  l3 : b3 < n₀
  rd : RdBk w n₀ A N X
theorem FC.below {w w' : World} {n₀ b1 b2 b3 : Nat} {A : Option Addr} {N ca : Nat} {X : List Bk} (h : FC w n₀ b1 b2 b3 A N ca X) (hb : Below n₀ w w') : FC w' n₀ b1 b2 b3 A N ca X :=
  ⟨(hb.cell (p := ⟨b1, 0, none⟩) h.l1).trans h.c1, h.l1, (hb.cell (p := ⟨b2, 0, none⟩) h.l2).trans h.c2, h.l2, (hb.cell (p := ⟨b3, 0, none⟩) h.l3).trans h.c3, h.l3, h.rd.below hb⟩
/-- the size of a block: its Erases -/
theorem erasesOf_any (b3 N ca j n₀ : Nat) (A : Option Addr) (X : List Bk) (W : World) (hc : W.cell? ⟨b3, 0, none⟩ = some (.slice A N ca)) (hr : RdBk W n₀ A N X) (hj : j < N) (he : 0 ≤ (X.getD j zeroBk).erases) :
    Calls Try.prog 17 #[.int .i64 (j : Nat), .pointer (some ⟨b3, 0, none⟩)] W fun e w' => e = .returned (.int .i64 (erL X j : Nat)) ∧ w' = W := by
  obtain ⟨g', off, pA, pc, rfl, hg, hc0, hc1, hc2, hpg⟩ := hr.at hj
  have HE : Hid (((erL X j : Nat) : Int) = (X.getD j zeroBk).erases) := Int.toNat_of_nonneg he
  rw [← HE.out] at hc1
  clear hr hpg hc0 hc2 he
  have hjN : (j : Int) < (N : Int) := by omega
  go_enter Try.func17, Try.ntmps17
  go_wp2
  go_ret
  exact ⟨rfl, rfl⟩

set_option maxRecDepth 100000 in
set_option maxHeartbeats 4000000 in
theorem cold1_in (n : Nat) (l b1 b2 b3 n₀ : Nat) (A : Option Addr) (N ca : Nat) (X : List Bk) (J Jx : List (Int × Int) → World → Prop) (W : World) (hn : 1 ≤ n) (hok : NdOk X) (hJ : AbidesFrom W.heap.size J)
    (hY : ∀ pre x W1, J pre W1 → pre.length < 48 → YieldAt Fence.wide (n - 1) Try.prog l #[.int .i64 x.1, .int .i64 x.2] W1 fun e W' =>
      (e = .returned (.bool true) ∧ J (pre ++ [x]) W' ∧ Below n₀ W1 W') ∨ (e = .returned (.bool false) ∧ Jx (pre ++ [x]) W'))
    (hn₀ : n₀ ≤ W.heap.size) (hF : FC W n₀ b1 b2 b3 A N ca X) (h0 : J [] W) :
    CallsIn Fence.wide n Try.prog 29 #[.func (.yield l) #[] #[], .pointer (some ⟨b1, 0, none⟩), .pointer (some ⟨b2, 0, none⟩)] W fun e W' => (∃ v, e = .returned v) ∧
      ((∃ ys, ys = fulls X (erL X) N ∧ J ys W') ∨ (∃ pre, (∃ rest, pre ++ rest = fulls X (erL X) N) ∧ Jx pre W')) := by
  have hNL : N = X.length := hF.rd.1.symm
  have hN12 : N ≤ 12 := by rw [hNL]; exact hok.1.2
  have HNL := Lib.hid hNL
  have HOK := Lib.hid hok; have HF := Lib.hid hF
  have hcb := hF.c1
  clear hF hok hNL
  refine callsIn_of_wp Try.func29 rfl trivial ?_ rfl
  simp only [Try.ntmps29, List.size_toArray, List.length_cons, List.length_nil, Nat.reduceAdd, Nat.reduceSub, Array.replicate_succ, Array.replicate_zero, List.push_toArray, List.append_toArray, List.nil_append, List.cons_append]
  gi_wp2
  clear hcb
  gi_loopw [8] (fun iv wr => ∃ k : Nat, iv = .int .i64 (k : Nat) ∧ k ≤ N ∧ FC wr n₀ b1 b2 b3 A N ca X ∧ W.heap.size ≤ wr.heap.size ∧ J (fulls X (erL X) k) wr) (fun iv _ => N - (intOf iv).toNat)
  case atStart => exact ⟨0, rfl, Nat.zero_le _, HF.out, Nat.le_refl _, h0⟩
  case round =>
    obtain ⟨k, rfl, hk, hfb, hsz, hJp⟩ := hrel
    have HFB := Lib.hid hfb; have HJ := Lib.hid hJp
    have hcs := hfb.c1
    clear hfb hJp
    by_cases hlt : k < N
    · obtain ⟨g', off, pA, pc, rfl, hg, hc0, hc1, hc2, hpg⟩ := HFB.out.rd.at hlt
      have hkl : k < X.length := by rw [← HNL.out]; exact hlt
      have HPG := Lib.hid (hpg.mono (Nat.le_trans hn₀ hsz))
      have HBO := Lib.hid (HOK.out.2 k hkl)
      have HERk : Hid (0 ≤ (X.getD k zeroBk).erases) := (nd_er HOK.out k hkl).1
      have HYES := Lib.hid (fun h => fulls_yes (X := X) (L := erL X) (k := k) h); have HNO := Lib.hid (fun h => fulls_no (X := X) (L := erL X) (k := k) h)
      have HPRE := Lib.hid (fulls_pre X (erL X) (k := k + 1) (N := N) (by omega))
      have hlen : (fulls X (erL X) k).length < 48 := by have := fulls_len X (erL X) k; omega
      have hFBd : fulB (X.getD k zeroBk) = decide ((X.getD k zeroBk).bad = false ∧ uPre (X.getD k zeroBk).pages = 4) := rfl
      rw [hFBd] at HYES HNO
      clear hFBd hpg
      generalize X.getD k zeroBk = b at hc0 hc1 hc2 HPG HBO HYES HNO
      obtain ⟨ps, er, bd⟩ := b
      simp only at hc0 hc1 hc2 HPG HYES HNO
      obtain ⟨pa, pb, pc', pd, rfl⟩ := four_of_length HBO.out.1
      gi_wp2_with fail
      refine ⟨trivial, ?_⟩
      refine (callsIn_wide.2 (isFull_any pA pc pa pb pc' pd er bd wr HPG.out)).mono ?_
      rintro e w3 ⟨rfl, hb3⟩
      have HFB3 := Lib.hid (HFB.out.below (hb3.mono (Nat.le_trans hn₀ hsz)))
      have HJ3 : Hid (J (fulls X (erL X) k) w3) := hJ _ wr w3 none HJ.out (gby_belowC hb3) (fun r e => by cases e)
      have hsz3 : W.heap.size ≤ w3.heap.size := Nat.le_trans hsz hb3.size
      have x2 := HFB3.out.c2
      clear hb3 hcs hc0 hc1 hc2
      generalize decide (bd = false ∧ uPre [pa, pb, pc', pd] = 4) = full at *
      cases full with
      | false =>
        have HT := Lib.hid (HNO.out rfl)
        clear HYES HNO
        gi_wp2
        refine ⟨fun _ h => (by cases h), ?_⟩
        gi_wp2
        refine ⟨fun _ h => (by cases h), ?_⟩
        gi_wp2
        go_roundw
        case rel => exact ⟨k + 1, by go_num, by omega, HFB3.out, hsz3, by rw [HT.out]; exact HJ3.out⟩
        case measure => simp [intOf]; omega
      | true =>
        have HT := Lib.hid (HYES.out rfl)
        obtain ⟨fn, tmps, assign, body, hy, hRo⟩ := hY _ ((k : Int), (erL X k : Int)) _ HJ3.out hlen
        clear HYES HNO
        gi_wp2_with fail
        refine ⟨trivial, ?_⟩
        refine (callsIn_wide.2 (erasesOf_any b3 N ca k n₀ _ X w3 HFB3.out.c3 HFB3.out.rd hlt HERk.out)).mono ?_
        rintro e w4 ⟨rfl, rfl⟩
        gi_wp2
        refine hRo.mono ?_
        rintro e w7 (⟨rfl, hJ7, hk7⟩ | ⟨rfl, hJx7⟩)
        · have HFB7 := Lib.hid (HFB3.out.below hk7)
          have hsz7 : W.heap.size ≤ w7.heap.size := Nat.le_trans hsz3 hk7.size
          have HJ7 := Lib.hid hJ7
          clear hJ7 hk7
          gi_wp2
          go_roundw
          case rel => exact ⟨k + 1, by go_num, by omega, HFB7.out, hsz7, by rw [HT.out]; exact HJ7.out⟩
          case measure => simp [intOf]; omega
        · gi_wp2
          refine bodyPost_ret (results_none rfl _ _ _) rfl ?_
          exact ⟨⟨_, rfl⟩, .inr ⟨_, by rw [← HT.out]; exact HPRE.out, hJx7⟩⟩
    · obtain rfl : k = N := by omega
      gi_wp2
      refine bodyPost_end (results_none rfl _ _ _) rfl ?_
      exact ⟨⟨_, rfl⟩, .inl ⟨_, rfl, HJ.out⟩⟩
theorem cold_stops (n : Nat) (hn : 1 ≤ n) (b1 b2 b3 n₀ : Nat) (A : Option Addr) (N ca : Nat) (X : List Bk) (w : World) (hok : NdOk X) (hn₀ : n₀ ≤ w.heap.size) (hF : FC w n₀ b1 b2 b3 A N ca X) :
    SeqStopsK Fence.wide n Try.prog 29 #[.pointer (some ⟨b1, 0, none⟩), .pointer (some ⟨b2, 0, none⟩)] (fun r : Int × Int => #[.int .i64 r.1, .int .i64 r.2]) (Below n₀) (fun ys => ys = fulls X (erL X) N) (fun pre => ∃ rest, pre ++ rest = fulls X (erL X) N) 48 w :=
  fun l J Jx W hW hJ _ hY h0 => cold1_in n l b1 b2 b3 n₀ A N ca X J Jx W hn hok hJ (fun pre x W1 h1 h2 => hY pre x W1 h1 h2) (Nat.le_trans hn₀ hW.size) (hF.below (hW.mono hn₀)) h0

theorem fullBlocksC_any (A : Option Addr) (n ca b3 : Nat) (w : World) :
    Calls Try.prog 19 #[.agg #[.slice A n ca], .func (.func 17) #[] #[.pointer (some ⟨b3, 0, none⟩)]] w fun e w' =>
      e = .returned (.func (.func 29) #[] #[.pointer (some ⟨w.heap.size, 0, none⟩), .pointer (some ⟨w.heap.size + 1, 0, none⟩)]) ∧ w' = (w.alloc (.cells #[.slice A n ca] 29)).alloc (.cells #[.func (.func 17) #[] #[.pointer (some ⟨b3, 0, none⟩)]] 39) := by
  go_enter Try.func19, Try.ntmps19
  go_wp2
  go_ret
  exact ⟨rfl, rfl⟩

set_option maxRecDepth 100000 in
set_option maxHeartbeats 4000000 in
theorem leastCold_any (b1 b2 b3 : Nat) (A : Option Addr) (N ca : Nat) (X : List Bk) (w : World) (hok : NdOk X) (hF : FC w w.heap.size b1 b2 b3 A N ca X) :
    Calls Try.prog 18 #[.func (.func 29) #[] #[.pointer (some ⟨b1, 0, none⟩), .pointer (some ⟨b2, 0, none⟩)], .int .i64 1000001, .int .i64 0] w fun e w' => e = .returned (.int .i64 (cold (fulls X (erL X) N)).1) ∧ Below w.heap.size w w' := by
  have HF := Lib.hid hF; have HOK := Lib.hid hok
  clear hF hok
  refine (callsIn_wide (n := 3)).1 ?_
  refine callsIn_of_wp_marks Try.func18 rfl trivial ?_ rfl
  simp only [Try.ntmps18, List.size_toArray, List.length_cons, List.length_nil, Nat.reduceAdd, Nat.reduceSub, Array.replicate_succ, Array.replicate_zero, List.push_toArray, List.append_toArray, List.nil_append, List.cons_append]
  gi_wp2
  refine wpIn_wide.2 (wp_scope_straight ((wpIn_wide (n := 3)).1 ?_))
  gi_wp2
  have bM := ((Boxed.new w 2 (.int .i64 0)).alloc (.cells #[.int .i64 (-1)] 2)).alloc (.cells #[.int .i64 1000001] 2)
  have bL := (Boxed.new (w.alloc (.cells #[.int .i64 0] 2)) 2 (.int .i64 (-1))).alloc (.cells #[.int .i64 1000001] 2)
  have bS := Boxed.new ((w.alloc (.cells #[.int .i64 0] 2)).alloc (.cells #[.int .i64 (-1)] 2)) 2 (.int .i64 1000001)
  have hB0 : Below w.heap.size w (((w.alloc (.cells #[.int .i64 0] 2)).alloc (.cells #[.int .i64 (-1)] 2)).alloc (.cells #[.int .i64 1000001] 2)) := (((Below.refl _ _).alloc (Nat.le_refl _) _).alloc (by simp) _).alloc (by simp; omega) _
  have hsW : (((w.alloc (.cells #[.int .i64 0] 2)).alloc (.cells #[.int .i64 (-1)] 2)).alloc (.cells #[.int .i64 1000001] 2)).heap.size = w.heap.size + 3 := by simp
  simp only [World.size_alloc] at bL bS
  change Code.wpIn _ _ _ _ _ _ (((w.alloc (.cells #[.int .i64 0] 2)).alloc (.cells #[.int .i64 (-1)] 2)).alloc (.cells #[.int .i64 1000001] 2))
  generalize ((w.alloc (.cells #[.int .i64 0] 2)).alloc (.cells #[.int .i64 (-1)] 2)).alloc (.cells #[.int .i64 1000001] 2) = W0 at bM bL bS hB0 hsW ⊢
  refine wpIn_label ?_
  gi_wp2
  have hF0 := HF.out.below hB0
  refine wpIn_rangeFunc_ownH rfl (by omega) (gf := 29) (lb := #[.pointer (some ⟨b1, 0, none⟩), .pointer (some ⟨b2, 0, none⟩)]) rfl trivial (enters_of Try.func29 (by kernel_rfl) rfl)
    (cold_stops _ (by omega) b1 b2 b3 w.heap.size A N ca X W0 HOK.out (by omega) hF0) (fun h k => Below.trans h k) (fun W l o o' hl h h1 h2 => belowK_b (by omega) W l o o' hl h h1 h2) (Below.refl _ _) (fun _ => rfl)
    (fun pre W => (Boxed W w.heap.size 2 (.int .i64 0) ∧ Boxed W (w.heap.size + 1) 2 (.int .i64 (cold pre).1) ∧ Boxed W (w.heap.size + 1 + 1) 2 (.int .i64 (cold pre).2)) ∧ (Below w.heap.size w W ∧ W0.heap.size ≤ W.heap.size))
    (fun c pre W => c = .exit 0 ∧ (cold pre).2 = 0 ∧ (Boxed W (w.heap.size + 1) 2 (.int .i64 (cold pre).1)) ∧ (Below w.heap.size w W ∧ W0.heap.size ≤ W.heap.size))
    (OwnFrom.and (fun s A' B' row hs hg hr => by
      obtain ⟨h1, h2, h3⟩ := hs
      refine ⟨h1.kept hg (fun e => ?_), h2.kept hg (fun e => ?_), h3.kept hg (fun e => ?_)⟩ <;> (have := (hr _ e.symm).1; omega)) (OwnFrom.and (ownFrom_below (Nat.le_refl _) (by omega)) (fun _ _ _ _ hs hg _ => Nat.le_trans hs hg.size)))
    (fun c => ?ix)
    ⟨⟨bM, bL, bS⟩, hB0, Nat.le_refl _⟩
    (fun x a' W => a' = { tmps := #[.func (.func 29) #[] #[.pointer (some ⟨b1, 0, none⟩), .pointer (some ⟨b2, 0, none⟩)], .int .i64 1000001, .int .i64 0, undef, undef, .pointer (some ⟨w.heap.size, 0, none⟩), .int .i64 0, .pointer (some ⟨w.heap.size + 1, 0, none⟩), .pointer (some ⟨w.heap.size + 1 + 1, 0, none⟩), .int .i64 x.1, .int .i64 x.2, .int .i64 1000001, .func (.func 29) #[] #[.pointer (some ⟨b1, 0, none⟩), .pointer (some ⟨b2, 0, none⟩)], .int .i64 x.1, .int .i64 x.2, undef, undef, undef, undef, undef, undef, undef, undef, undef, undef, undef, undef, undef], defers := [] })
    (fun x a' _ X' Y row hs hg hr => hs)
    ?assign ?body ?done ?stop
  case ix =>
    intro s A' B' row hs hg hr
    obtain ⟨h0, h1, h2, h3, h4⟩ := hs
    exact ⟨h0, h1, h2.kept hg (fun e => by have := (hr _ e.symm).1; omega), (ownFrom_below (β := Unit) (w₀ := w) (Nat.le_refl _) (B := W0.heap.size) (by omega)) () A' B' row h3 hg hr, Nat.le_trans h4 hg.size⟩
  case assign =>
    rintro l pre x W K ⟨⟨h1, h2, h3⟩, hB, hz⟩ hK
    gi_wp2
    exact hK _ _ (KeepsFrom.refl _ _) (Below.refl _ _) ⟨⟨h1, h2, h3⟩, hB, hz⟩ rfl
  case body =>
    rintro l pre x a' W hl ⟨r, hr⟩ ⟨⟨h1, h2, h3⟩, hB, hz⟩ rfl hlt
    have c1 := h1.cell; have c2 := h2.cell; have c3 := h3.cell
    have f2 := h2.frozen; have f3 := h3.frozen
    have HV := Lib.hid (cold_snoc pre x)
    have HI := Lib.hid (And.intro h1 (And.intro h2 h3)); have HB := Lib.hid hB
    have hW3 : w.heap.size + 1 + 1 < W.heap.size := h3.lt
    gi_wp2_with fail
    refine ⟨trivial, ?_⟩
    refine (CallsIn.inRound l (callsIn_wide.2 (compareL_any x.2 (cold pre).2 W))).mono ?_
    rintro e w3 ⟨rfl, rfl⟩
    have HST : Hid (vstep (cold pre) x = if x.2 < (cold pre).2 then x else cold pre) := Lib.hid rfl
    have HCM : Hid (cmpI x.2 (cold pre).2 = if x.2 < (cold pre).2 then -1 else if x.2 > (cold pre).2 then 1 else 0) := Lib.hid rfl
    clear h1 h2 h3 hB
    obtain ⟨x1, x2⟩ := x
    simp only at *
    by_cases hc : x2 < (cold pre).2
    · have HT : Hid (cold (pre ++ [(x1, x2)]) = (x1, x2)) := by show _ = _; rw [HV.out, HST.out, if_pos hc]
      rw [HCM.out, if_pos hc]
      have HB2 := Lib.hid ((HB.out.setCell (p := ⟨w.heap.size + 1, 0, none⟩) (by dsimp only; omega) (.int .i64 x1)).setCell (p := ⟨w.heap.size + 1 + 1, 0, none⟩) (by dsimp only; omega) (.int .i64 x2))
      have HM2 : Hid (Boxed ((w3.setCell ⟨w.heap.size + 1, 0, none⟩ (.int .i64 x1)).setCell ⟨w.heap.size + 1 + 1, 0, none⟩ (.int .i64 x2)) w.heap.size 2 (.int .i64 0)) := ((Below.heap_setCell _ _ _ _ (by dsimp only; omega)).trans (Below.heap_setCell _ _ _ _ (by dsimp only; omega))).trans HI.out.1
      have HL2 : Hid (Boxed ((w3.setCell ⟨w.heap.size + 1, 0, none⟩ (.int .i64 x1)).setCell ⟨w.heap.size + 1 + 1, 0, none⟩ (.int .i64 x2)) (w.heap.size + 1) 2 (.int .i64 x1)) := (Below.heap_setCell _ _ _ _ (by dsimp only; omega)).trans (HI.out.2.1.set _)
      have hS1 : Boxed (w3.setCell ⟨w.heap.size + 1, 0, none⟩ (.int .i64 x1)) (w.heap.size + 1 + 1) 2 (.int .i64 (cold pre).2) := (Below.heap_setCell _ ⟨w.heap.size + 1, 0, none⟩ _ _ (by dsimp only; omega)).trans HI.out.2.2
      have HS2 : Hid (Boxed ((w3.setCell ⟨w.heap.size + 1, 0, none⟩ (.int .i64 x1)).setCell ⟨w.heap.size + 1 + 1, 0, none⟩ (.int .i64 x2)) (w.heap.size + 1 + 1) 2 (.int .i64 x2)) := hS1.set _
      have hz2 : W0.heap.size ≤ ((w3.setCell ⟨w.heap.size + 1, 0, none⟩ (.int .i64 x1)).setCell ⟨w.heap.size + 1 + 1, 0, none⟩ (.int .i64 x2)).heap.size := by simp [World.setCell]; omega
      have HK2 := Lib.hid (((KeepsOthers.setCell w3 ⟨w.heap.size + 1, 0, none⟩ (.int .i64 x1)).trans (KeepsOthers.setCell _ ⟨w.heap.size + 1 + 1, 0, none⟩ (.int .i64 x2))).from W0.heap.size)
      have HP2 : Hid (Below w.heap.size w3 ((w3.setCell ⟨w.heap.size + 1, 0, none⟩ (.int .i64 x1)).setCell ⟨w.heap.size + 1 + 1, 0, none⟩ (.int .i64 x2))) := ((Below.refl _ _).setCell (p := ⟨w.heap.size + 1, 0, none⟩) (by dsimp only; omega) _).setCell (p := ⟨w.heap.size + 1 + 1, 0, none⟩) (by dsimp only; omega) _
      clear HV HST HCM HI HB hS1
      by_cases h0 : x2 = 0
      · subst h0
        gi_wp2
        refine ⟨HK2.out, rfl, ?_, ?_, HB2.out, hz2⟩
        · rw [HT.out]
        · rw [HT.out]; exact HL2.out
      · have h0' : (x2 == 0) = false := by simpa using h0
        gi_wp2
        refine ⟨HK2.out, HP2.out, ⟨HM2.out, ?_, ?_⟩, HB2.out, hz2⟩
        · rw [HT.out]; exact HL2.out
        · rw [HT.out]; exact HS2.out
    · have HT : Hid (cold (pre ++ [(x1, x2)]) = cold pre) := by show _ = _; rw [HV.out, HST.out, if_neg hc]
      rw [HCM.out, if_neg hc]
      by_cases hd : x2 > (cold pre).2
      · rw [if_pos hd]
        clear HV HST HCM hc hd
        gi_wp2
        exact ⟨KeepsFrom.refl _ _, Below.refl _ _, by dsimp only; rw [HT.out]; exact ⟨HI.out, HB.out, hz⟩⟩
      · rw [if_neg hd]
        clear HV HST HCM hc hd
        gi_wp2
        exact ⟨KeepsFrom.refl _ _, Below.refl _ _, by dsimp only; rw [HT.out]; exact ⟨HI.out, HB.out, hz⟩⟩
  case done =>
    rintro Dd xs W hD rfl ⟨⟨h1, h2, h3⟩, hB, hz⟩ hK
    have c2 := h2.cell
    have hlD : Dd < W.heap.size := lt_of_block hK
    gi_wp2
    refine ⟨by simp, .inl ⟨_, _, rfl, run_takeDeferred hK, ?_⟩⟩
    refine ⟨_, results_tmp rfl _ _ _, ?_⟩
    exact ⟨rfl, hB.trans (belowK_b (w := w) (Nat.le_refl _) W Dd _ _ (by omega) hK rfl rfl)⟩
  case stop =>
    rintro Dd c pre W hD ⟨rest, hrest⟩ ⟨rfl, h0, h2, hB, hz⟩ hK
    have HV : Hid (cold (fulls X (erL X) N) = cold pre) := by
      show _ = _
      rw [← hrest]
      exact cold_stays h0 (fun x hx => fulls_nonneg X (erL X) N x (by rw [← hrest]; exact List.mem_append.2 (.inr hx)))
    have c2 := h2.cell
    gi_wp2
    refine ⟨by simp, .inl ⟨_, _, rfl, run_takeDeferred hK, ?_⟩⟩
    refine ⟨_, results_tmp rfl _ _ _, ?_⟩
    rw [HV.out]
    exact ⟨rfl, hB.trans (belowK_b (w := w) (Nat.le_refl _) W Dd _ _ (by omega) hK rfl rfl)⟩
end Go.Proofs.Ytfpibbhcecdbgaa
