/-
  Prune, of the program and of the model.
-/
import Derived.Test.YtgkkkldajangeaaProg
import Derived.KernelRfl
import Derived.Test.YtgkkkldajangeaaHsNeedS
import Derived.Test.YtgkkkldajangeaaHsApp
import Derived.Test.YtgkkkldajangeaaHsLaw
namespace Go.Proofs.Ytgkkkldajangeaa
open Go.RowKit
open Bt (Rc)

/-- a history, in memory of its own -/
def RetHs (w : World) (Y : List Rc) (e : Ending) (w' : World) : Prop :=
  ∃ (A : Option Addr) (ca : Nat), e = .returned (.agg #[.slice A Y.length ca]) ∧ OwRc w' w.heap.size w'.heap.size A Y.length Y ∧ Below w.heap.size w w'
theorem last_eq {X : List Rc} (hX : hRight X = true) {k : Nat} (hk : k < X.length) : rcEq (X.getD k Rc.zero) (lastOf X) = decide (k + 1 = X.length) := by
  have e : lastOf X = X.getD (X.length - 1) Rc.zero := by unfold lastOf; rw [if_pos hX]; rfl
  rw [Bool.eq_iff_iff, rcEq_iff, decide_eq_true_eq, e]
  constructor
  · intro h
    have := seq_inj hX hk (show X.length - 1 < X.length by omega) (by rw [h])
    omega
  · intro h
    rw [show X.length - 1 = k by omega]
theorem bel_stepR {w a b : World} (h : Below w.heap.size w a) (k : Below a.heap.size a b) : Below w.heap.size w b := h.trans (k.mono h.size)
theorem bel_allocR (w : World) (o : Obj) : Below w.heap.size w (w.alloc o) := (Below.refl _ _).alloc (Nat.le_refl _) _
theorem size_setP (w : World) (a : Addr) (u : Value) : (w.setCell a u).heap.size = w.heap.size := by simp [World.setCell]

set_option maxHeartbeats 8000000 in
set_option maxRecDepth 100000 in
theorem impl_prune (A : Option Addr) (n ca : Nat) (X : List Rc) (w : World) (hS : SmallR X) (hca : n ≤ ca) (hA : RdRc w w.heap.size A n X) :
    Calls Try.prog 32 #[.agg #[.slice A n ca]] w (RetHs w (pruneOf X)) := by
  have HL := Lib.hid hA.1
  have HA := Lib.hid hA; have HS := Lib.hid hS; clear hA hS
  go_enter Try.func32, Try.ntmps32
  go_wp2_with fail
  have hb0 : Below w.heap.size w ((w.alloc (.cells #[.slice A n ca] 25)).alloc (.cells #[.slice none 0 0] 25)) := ((Below.refl _ _).alloc (Nat.le_refl _) _).alloc (by simp) _
  have k0 := (isBlk_new w 25 [.slice A n ca]).alloc (.cells #[.slice none 0 0] 25)
  have k1 := isBlk_new (w.alloc (.cells #[.slice A n ca] 25)) 25 [.slice none 0 0]
  change IsBlk ((w.alloc (.cells #[.slice A n ca] 25)).alloc (.cells #[.slice none 0 0] 25)) _ _ _ at k0 k1
  rw [size_alloc] at k1
  generalize (w.alloc (.cells #[.slice A n ca] 25)).alloc (.cells #[.slice none 0 0] 25) = W at hb0 k0 k1 ⊢
  refine (impl_histRight_any A n ca X W HS.out (HA.out.next hb0)).mono ?_
  rintro e w1 ⟨rfl, hb1⟩
  have HB1 := Lib.hid (hb0.trans (hb1.mono hb0.size))
  have HK1 := Lib.hid (k0.below hb1 k0.lt)
  have HR1 := Lib.hid (k1.below hb1 k1.lt)
  have hx : w1.cell? ⟨w.heap.size, 0, none⟩ = some (.slice A n ca) := HK1.out.cell rfl
  clear hb0 hb1 k0 k1
  by_cases hr : hRight X = true
  case neg =>
    have HT := Lib.hid (pruneOf_no hr)
    have hr : hRight X = false := by simpa using hr
    have d0 : w1.cell? ⟨w.heap.size + 1, 0, none⟩ = some (.slice none 0 0) := HR1.out.cell rfl
    have fd0 : w1.frozen? ⟨w.heap.size + 1, 0, none⟩ = false := HR1.out.free
    rw [hr]
    clear hr
    go_wp2
    refine bodyPost_ret (v := .agg #[.slice none 0 0]) (by simp [results, Try.results32, go_sem, d0]) rfl ?_
    rw [HT.out]
    exact ⟨none, 0, rfl, ow_nilR _ _ _ _, HB1.out.setCell (by dsimp only; omega) _⟩
  have hn : n ≤ 48 := by rw [← HL.out]; exact hRight_len hr
  have HT : Hid (pruneOf X = prTo X n) := by show _ = _; rw [pruneOf_yes hr, HL.out]
  have HR := Lib.hid hr
  rw [hr]
  clear hr
  go_wp2_with fail
  refine (neededTest_any A n ca X w1 HR.out hca (HA.out.next HB1.out)).mono ?_
  rintro e wN ⟨B3, B4, L, rfl, hH, hLm, hbN⟩
  have HND : Hid (∀ k, k < n → tstB (flR X) L (X.getD k Rc.zero) = nd X k) := fun k hk => tst_nd HR.out hLm (by rw [HL.out]; exact hk)
  have HLA : Hid (∀ k, k < n → rcEq (X.getD k Rc.zero) (lastOf X) = decide (k + 1 = X.length)) := fun k hk => last_eq HR.out (by rw [HL.out]; exact hk)
  have HH := Lib.hid hH
  have HBN := Lib.hid (HB1.out.trans (hbN.mono HB1.out.size))
  have HKN := Lib.hid (HK1.out.below hbN HK1.out.lt)
  have HRN := Lib.hid (HR1.out.below hbN HR1.out.lt)
  have hxN : wN.cell? ⟨w.heap.size, 0, none⟩ = some (.slice A n ca) := HKN.out.cell rfl
  generalize flR X = fl at HH HND
  clear hbN hx hH hLm
  go_wp2_with fail
  refine (lastRec_any A n ca X wN HS.out (HA.out.next HBN.out)).mono ?_
  rintro e w4 ⟨rfl, hb4⟩
  generalize lastOf X = la at HLA ⊢
  have HB4 := Lib.hid (HBN.out.trans (hb4.mono HBN.out.size))
  have HH4 := Lib.hid (HH.out.below hb4)
  have HK4 := Lib.hid (HKN.out.below hb4 HKN.out.lt)
  have HR4 := Lib.hid (HRN.out.below hb4 HRN.out.lt)
  have hx4 : w4.cell? ⟨w.heap.size, 0, none⟩ = some (.slice A n ca) := HK4.out.cell rfl
  have hlt4 : w.heap.size + 1 < w4.heap.size := HR4.out.lt
  have hlt4' : w.heap.size < w4.heap.size := by omega
  clear hb4 hxN
  go_wp2
  have kl := (isBlk_new w4 27 (recC la)).alloc (.cells #[.slice none 0 0] 25)
  have kk := isBlk_new (w4.alloc (.cells #[.int .i64 la.k, .int .i64 la.s, .int .i64 la.q, .int .i64 la.t, .int .i64 la.o, .string la.d] 27)) 25 [.slice none 0 0]
  have hb5 : Below w4.heap.size w4 ((w4.alloc (.cells #[.int .i64 la.k, .int .i64 la.s, .int .i64 la.q, .int .i64 la.t, .int .i64 la.o, .string la.d] 27)).alloc (.cells #[.slice none 0 0] 25)) := ((Below.refl _ _).alloc (Nat.le_refl _) _).alloc (by simp) _
  have hs5 : ((w4.alloc (.cells #[.int .i64 la.k, .int .i64 la.s, .int .i64 la.q, .int .i64 la.t, .int .i64 la.o, .string la.d] 27)).alloc (.cells #[.slice none 0 0] 25)).heap.size = w4.heap.size + 2 := by simp
  change IsBlk ((w4.alloc (.cells #[.int .i64 la.k, .int .i64 la.s, .int .i64 la.q, .int .i64 la.t, .int .i64 la.o, .string la.d] 27)).alloc (.cells #[.slice none 0 0] 25)) _ _ _ at kl kk
  rw [size_alloc] at kk
  generalize (w4.alloc (.cells #[.int .i64 la.k, .int .i64 la.s, .int .i64 la.q, .int .i64 la.t, .int .i64 la.o, .string la.d] 27)).alloc (.cells #[.slice none 0 0] 25) = w5 at kl kk hb5 hs5 ⊢
  have HKL := Lib.hid kl; have HKK := Lib.hid kk
  have HB5 := Lib.hid (HB4.out.trans (hb5.mono HB4.out.size))
  have HB45 := Lib.hid hb5
  have HK5 := Lib.hid (HK4.out.below hb5 HK4.out.lt)
  have HR5 := Lib.hid (HR4.out.below hb5 HR4.out.lt)
  have HS5 := Lib.hid hs5
  clear kl kk hb5 hs5 hx4
  obtain ⟨ir, hir, zr0, zr1, zr2⟩ := info_parts info_recL
  have Hir := Lib.hid hir; have Zr0 := Lib.hid zr0; have Zr1 := Lib.hid zr1; have Zr2 := Lib.hid zr2
  clear hir zr0 zr1 zr2
  -- the box of what is kept lies behind all that the loop reads: B = w4.heap.size + 1
  obtain ⟨B, hB⟩ : ∃ B, B = w4.heap.size + 1 := ⟨_, rfl⟩
  rw [← hB] at HKK ⊢
  have hB5 : B + 1 ≤ w5.heap.size := by rw [HS5.out, hB]; exact Nat.le_refl _
  have hBl : w4.heap.size < B := by omega
  have hB1 : w.heap.size + 1 < B := by omega
  clear hB HS5
  go_loopw [20] (fun i wr => ∃ (k : Nat) (v : Value), k ≤ n ∧ i = .int .i64 (k : Nat) ∧ wr.ownsRow (B + 1) 27 6 v (prTo X k).length (rcA (prTo X k)) ∧ Below B w5 wr ∧ IsBlk wr B 25 [v]) (fun i _ => n - (intOf i).toNat)
  case atStart => exact ⟨0, _, by omega, rfl, ⟨by simp [rcA, prTo], .inl ⟨rfl, rfl⟩⟩, Below.refl _ _, HKK.out⟩
  case round =>
    obtain ⟨k, v, hk, rfl, hown, hbw, hkv⟩ := hrel
    have HOWN := Lib.hid hown; have HBW := Lib.hid hbw; have HKV := Lib.hid hkv
    have HHR := Lib.hid (HH4.out.below (HB45.out.trans (hbw.mono (by omega))))
    have hzw : w5.heap.size ≤ wr.heap.size := hbw.size
    by_cases hlt : k < n
    · obtain ⟨g, off, rfl, hg, hc0, hc1, hc2, hc3, hc4, hc5⟩ := ((HA.out.below HB5.out).below (hbw.mono (by omega))).at hlt
      have hds := HS.out.at k
      have HPY := Lib.hid (fun h => prTo_yes (X := X) (k := k) h)
      have HPN := Lib.hid (fun h => prTo_no (X := X) (k := k) h)
      have HTS := Lib.hid (HND.out k hlt)
      have HLS := Lib.hid (HLA.out k hlt)
      have hTl := prTo_len X k
      generalize X.getD k Rc.zero = p at *
      generalize prTo X k = Y at *
      generalize nd X k = b at *
      generalize decide (k + 1 = X.length) = lb at *
      have hv0 : wr.cell? ⟨B, 0, none⟩ = some v := hkv.cell rfl
      have hz2 : B < wr.heap.size := hkv.lt
      have kla := HKL.out.below (B := B) hbw (by omega)
      have HKLA := Lib.hid kla
      clear hown hbw hkv kla
      go_wp2_with fail
      have hb4 : Below wr.heap.size wr (wr.alloc (.cells #[.int .i64 p.k, .int .i64 p.s, .int .i64 p.q, .int .i64 p.t, .int .i64 p.o, .string p.d] 27)) := (Below.refl _ _).alloc (Nat.le_refl _) _
      have k4 := isBlk_new wr 27 (recC p)
      change IsBlk (wr.alloc (.cells #[.int .i64 p.k, .int .i64 p.s, .int .i64 p.q, .int .i64 p.t, .int .i64 p.o, .string p.d] 27)) _ _ _ at k4
      generalize wr.alloc (.cells #[.int .i64 p.k, .int .i64 p.s, .int .i64 p.q, .int .i64 p.t, .int .i64 p.o, .string p.d] 27) = w6 at hb4 k4 ⊢
      refine (test_any B3 B4 fl p L w6 (HHR.out.below hb4)).mono ?_
      rintro e w7 ⟨rfl, hb7⟩
      rw [HTS.out]
      have hb47 : Below wr.heap.size wr w7 := hb4.trans (hb7.mono hb4.size)
      have HB47 := Lib.hid hb47
      obtain ⟨p0, p1, p2, p3, p4, p5⟩ := rcCells (k4.below hb7 k4.lt)
      obtain ⟨y0, y1, y2, y3, y4, y5⟩ := rcCells (HKLA.out.below hb47 HKLA.out.lt)
      have hv7 : w7.cell? ⟨B, 0, none⟩ = some v := (HKV.out.below hb47 hz2).cell rfl
      have hz7 : wr.heap.size ≤ w7.heap.size := hb47.size
      have hz27 : B < w7.heap.size := by omega
      have hne := equalIn_rec p la
      rw [HLS.out] at hne
      have hgu := rec_guard
      clear hb4 hb7 k4 hb47 hc0 hc1 hc2 hc3 hc4 hc5 hv0 HTS HLS HND HLA
      by_cases hyes : (b || lb) = true
      · have HPY' := Lib.hid (HPY.out hyes)
        have hbl : (b = true) ∨ (b = false ∧ lb = true) := by cases b <;> cases lb <;> simp_all
        clear HPY HPN hyes
        have HSTEP : True := trivial
        rcases hbl with rfl | ⟨rfl, rfl⟩
        all_goals
          go_wp2
          go_region_law (first
            | (go_simp
               go_at_call 53
               refine (copyRec_any p _ (by omega)).mono ?_
               rintro e w8 ⟨rfl, hb8⟩
               have hb48 : Below wr.heap.size wr w8 := HB47.out.trans (((Below.refl _ _).drew.trans hb8).mono HB47.out.size)
               have hv8 : w8.cell? ⟨B, 0, none⟩ = some v := (HKV.out.below hb48 hz2).cell rfl
               have hb89 : Below w8.heap.size w8 (w8.alloc (.cells (recC p).toArray 27)) := (Below.refl _ _).alloc (Nat.le_refl _) _
               have HOWN8 := Lib.hid (own_belowR (own_belowR HOWN.out hb48) hb89)
               have HNEWS8 := Lib.hid (fun j u (hj : (recC p)[j]? = some u) => (show (w8.alloc (.cells (recC p).toArray 27)).cell? ((⟨w8.heap.size, 0, none⟩ : Addr).add j) = some u by rw [add_plain]; exact (isBlk_new w8 27 (recC p)).cell hj))
               have HB8 := Lib.hid (hb48.trans (hb89.mono hb48.size))
               have hz8 : wr.heap.size ≤ w8.heap.size := hb48.size
               have hz28 : B < w8.heap.size := by omega
               clear hb8 hb48 hb89)
            | (refine step_append_lies _ rfl (.tmp 33) (.tmp 36) 23 rfl (B + 1) 27 ir _ 6 56 Try.underlying23 Hir.out Zr0.out Zr1.out Zr2.out rfl (by omega) v Y.length (rcA Y) (by rfl) HOWN8.out ⟨w8.heap.size, 0, none⟩ 1 1 (recC p) (by rfl) (by rfl) HNEWS8.out (recC_one p) (by omega) (by unfold maxLen; omega) (by omega) (by simp; omega) (w8.heap.size + 1) (by simp) ?_
               intro g2 cap2 w9 hown9 hgrow9 hat9 hlt9
               have hvb : ∀ q, v.ownBlock = some q → B + 1 ≤ q := fun q hq => (own_block_ltR HOWN.out hq).1
               have hb9 : Below (B + 1) (w8.alloc (.cells (recC p).toArray 27)) w9 := (Below.refl _ _).grown hgrow9 (by simp; omega) hvb
               have HB9 := Lib.hid ((HBW.out.trans (HB8.out.mono (by omega))).trans (hb9.mono (by omega)))
               have k9 := (HKV.out.below HB8.out hz2).below hb9 (by omega)
               have HK9 := Lib.hid k9
               have hv9 : w9.cell? ⟨B, 0, none⟩ = some v := k9.cell rfl
               have fv9 : w9.frozen? ⟨B, 0, none⟩ = false := k9.free
               have HOWN9 : Hid (w9.ownsRow (B + 1) 27 6 (.slice (some ⟨g2, 0, none⟩) (Y.length + 1) cap2) (Y.length + 1) (rcA (Y ++ [p]))) := by
                 show World.ownsRow _ _ _ _ _ _ _
                 rw [rcA_snoc]; exact hown9
               clear hvb hb9 k9 hown9 hgrow9 hat9 hlt9))
          all_goals
            go_wp2
            go_roundw
            case rel => exact ⟨k + 1, .slice (some ⟨g2, 0, none⟩) (Y.length + 1) cap2, by omega, by go_num, by rw [HPY'.out, List.length_append]; exact own_otherR HOWN9.out (by dsimp only; omega) _, HB9.out.setCell (by dsimp only; omega) _, HK9.out.set _⟩
            case measure => simp [intOf]; omega
      · have hno : (b || lb) = false := by simpa using hyes
        have HPN' := Lib.hid (HPN.out hno)
        obtain ⟨rfl, rfl⟩ : b = false ∧ lb = false := by cases b <;> cases lb <;> simp_all
        clear HPY HPN hyes hno
        have HOWN7 := Lib.hid (own_belowR HOWN.out HB47.out)
        have HB7' := Lib.hid (HBW.out.trans (HB47.out.mono (by omega)))
        have HK7 := Lib.hid (HKV.out.below HB47.out hz2)
        go_wp2
        go_roundw
        case rel => exact ⟨k + 1, v, by omega, by go_num, by rw [HPN'.out]; exact HOWN7.out, HB7'.out, HK7.out⟩
        case measure => simp [intOf]; omega
    · obtain rfl : k = n := by omega
      obtain ⟨Av, cv, rfl⟩ := own_slice HOWN.out
      have hv0 : wr.cell? ⟨B, 0, none⟩ = some (.slice Av (prTo X k).length cv) := hkv.cell rfl
      have kr := HR5.out.below (B := B) hbw (by omega)
      have d0 : wr.cell? ⟨w.heap.size + 1, 0, none⟩ = some (.slice none 0 0) := kr.cell rfl
      have fd0 : wr.frozen? ⟨w.heap.size + 1, 0, none⟩ = false := kr.free
      clear hown hbw hkv kr
      go_wp2
      refine bodyPost_ret (v := .agg #[.slice Av (prTo X k).length cv]) (by simp [results, Try.results32, go_sem, d0]) rfl ?_
      rw [HT.out]
      refine ⟨Av, cv, rfl, ?_, (HB5.out.trans (HBW.out.mono (by omega))).setCell (by dsimp only; omega) _⟩
      refine ((ow_of_own HOWN.out).same fun j h1 h2 => Below.heap_setCell _ _ _ _ (by dsimp only; omega)).mono (by omega) (by rw [size_setP]; exact Nat.le_refl _)

set_option maxHeartbeats 8000000 in
set_option maxRecDepth 100000 in
theorem l04Prune_any (A : Option Addr) (n ca : Nat) (X : List Rc) (w : World) (hr : hRight X = true) (hA : RdRc w w.heap.size A n X) :
    Calls Try.prog 70 #[.agg #[.slice A n ca]] w (RetHs w (prTo X n)) := by
  have hn : n ≤ 48 := by rw [← hA.1]; exact hRight_len hr
  have HL := Lib.hid hA.1
  have HA := Lib.hid hA; have HR := Lib.hid hr; clear hA hr
  go_enter Try.func70, Try.ntmps70
  go_wp2_with fail
  have hb0 : Below w.heap.size w ((w.alloc (.cells #[.slice A n ca] 25)).alloc (.cells #[.slice none 0 0] 25)) := ((Below.refl _ _).alloc (Nat.le_refl _) _).alloc (by simp) _
  have k0 := (isBlk_new w 25 [.slice A n ca]).alloc (.cells #[.slice none 0 0] 25)
  have k1 := isBlk_new (w.alloc (.cells #[.slice A n ca] 25)) 25 [.slice none 0 0]
  change IsBlk ((w.alloc (.cells #[.slice A n ca] 25)).alloc (.cells #[.slice none 0 0] 25)) _ _ _ at k0 k1
  rw [size_alloc] at k1
  generalize (w.alloc (.cells #[.slice A n ca] 25)).alloc (.cells #[.slice none 0 0] 25) = W at hb0 k0 k1 ⊢
  refine (l04Needed_any A n ca X W HR.out (HA.out.next hb0)).mono ?_
  rintro e w4 ⟨gm, rfl, hgm, hrow, hb1⟩
  have HB4 := Lib.hid (hb0.trans (hb1.mono hb0.size))
  have HK4 := Lib.hid (k0.below hb1 k0.lt)
  have HR4 := Lib.hid (k1.below hb1 k1.lt)
  have HM4 := Lib.hid hrow
  have hlt4 : w.heap.size + 1 < w4.heap.size := HR4.out.lt
  have hgl : gm < w4.heap.size := Row.lt hrow
  clear hb0 hb1 k0 k1 hrow
  go_wp2
  have kk := isBlk_new w4 25 [.slice none 0 0]
  have hb5 : Below w4.heap.size w4 (w4.alloc (.cells #[.slice none 0 0] 25)) := (Below.refl _ _).alloc (Nat.le_refl _) _
  have hs5 : (w4.alloc (.cells #[.slice none 0 0] 25)).heap.size = w4.heap.size + 1 := by simp
  change IsBlk (w4.alloc (.cells #[.slice none 0 0] 25)) _ _ _ at kk
  generalize w4.alloc (.cells #[.slice none 0 0] 25) = w5 at kk hb5 hs5 ⊢
  have HKK := Lib.hid kk
  have HB5 := Lib.hid (HB4.out.trans (hb5.mono HB4.out.size))
  have HK5 := Lib.hid (HK4.out.below hb5 HK4.out.lt)
  have HR5 := Lib.hid (HR4.out.below hb5 HR4.out.lt)
  have HM5 := Lib.hid (Row.below HM4.out hb5 hgl)
  clear kk hb5
  obtain ⟨ir, hir, zr0, zr1, zr2⟩ := info_parts info_recL
  have Hir := Lib.hid hir; have Zr0 := Lib.hid zr0; have Zr1 := Lib.hid zr1; have Zr2 := Lib.hid zr2
  clear hir zr0 zr1 zr2
  obtain ⟨B, hB⟩ : ∃ B, B = w4.heap.size := ⟨_, rfl⟩
  rw [← hB] at HKK hs5 hlt4 hgl ⊢
  have HS5 := Lib.hid hs5
  clear hB hs5
  go_loopw [5] (fun i wr => ∃ (k : Nat) (v : Value), k ≤ n ∧ i = .int .i64 (k : Nat) ∧ wr.ownsRow (B + 1) 27 6 v (prTo X k).length (rcA (prTo X k)) ∧ Below B w5 wr ∧ IsBlk wr B 25 [v]) (fun i _ => n - (intOf i).toNat)
  case atStart => exact ⟨0, _, by omega, rfl, ⟨by simp [rcA, prTo], .inl ⟨rfl, rfl⟩⟩, Below.refl _ _, HKK.out⟩
  case round =>
    obtain ⟨k, v, hk, rfl, hown, hbw, hkv⟩ := hrel
    have HOWN := Lib.hid hown; have HBW := Lib.hid hbw; have HKV := Lib.hid hkv
    have hzw : w5.heap.size ≤ wr.heap.size := hbw.size
    by_cases hlt : k < n
    · obtain ⟨g, off, rfl, hg, hc0, hc1, hc2, hc3, hc4, hc5⟩ := ((HA.out.below HB5.out).below (hbw.mono (by omega))).at hlt
      have hx : wr.cell? ⟨w.heap.size, 0, none⟩ = some (.slice (some ⟨g, off, none⟩) n ca) := (HK5.out.below (B := B) hbw (by omega)).cell rfl
      have hm := Row.cell (Row.below HM5.out (B := B) hbw hgl) hlt
      have HPY := Lib.hid (fun h => prTo_yes (X := X) (k := k) h)
      have HPN := Lib.hid (fun h => prTo_no (X := X) (k := k) h)
      have hTl := prTo_len X k
      obtain ⟨b, hb⟩ : ∃ b, b = nd X k := ⟨_, rfl⟩
      rw [← hb] at hm HPY HPN
      rw [HL.out] at HPY HPN
      clear hb
      generalize X.getD k Rc.zero = p at *
      generalize prTo X k = Y at *
      have hv0 : wr.cell? ⟨B, 0, none⟩ = some v := hkv.cell rfl
      have fv0 : wr.frozen? ⟨B, 0, none⟩ = false := hkv.free
      have hz2 : B < wr.heap.size := hkv.lt
      have hk0 : (0 : Int) ≤ (k : Int) := by omega
      have hkn : (k : Int) < (n : Int) := by omega
      clear hown hbw hkv
      by_cases hyes : (b || decide (k + 1 = n)) = true
      · have HPY' := Lib.hid (HPY.out hyes)
        have hbl : (b = true) ∨ (b = false ∧ k + 1 = n) := by cases b <;> simp_all
        clear HPY HPN hyes
        have e1 : b = false → ((k : Int) == (n : Int) - 1) = true := fun h => by rcases hbl with h' | ⟨-, h'⟩; rw [h] at h'; cases h'; simp; omega
        have hb8 : Below wr.heap.size wr (wr.alloc (.cells (recC p).toArray 27)).drew := ((Below.refl _ _).alloc (Nat.le_refl _) _).drew
        have HOWN8 := Lib.hid (own_belowR HOWN.out hb8)
        have HB8 := Lib.hid hb8
        have HNEWS8 := Lib.hid (fun j u (hj : (recC p)[j]? = some u) => (show (wr.alloc (.cells (recC p).toArray 27)).drew.cell? ((⟨wr.heap.size, 0, none⟩ : Addr).add j) = some u by rw [add_plain]; exact (isBlk_new wr 27 (recC p)).cell hj))
        have E1 := Lib.hid e1
        clear hb8 e1 hbl
        cases b
        · have e2 := E1.out rfl
          clear E1
          go_wp2
          go_region_law (refine step_append_lies _ rfl (.tmp 27) (.tmp 33) 23 rfl (B + 1) 27 ir _ 6 56 Try.underlying23 Hir.out Zr0.out Zr1.out Zr2.out rfl (by omega) v Y.length (rcA Y) (by rfl) HOWN8.out ⟨wr.heap.size, 0, none⟩ 1 1 (recC p) (by rfl) (by rfl) HNEWS8.out (recC_one p) (by omega) (by unfold maxLen; omega) (by omega) (by show B + 1 ≤ (wr.alloc _).heap.size; simp; omega) (wr.heap.size + 1) (by show (wr.alloc _).heap.size = _; simp) ?_
                         intro g2 cap2 w9 hown9 hgrow9 hat9 hlt9
                         have hvb : ∀ q, v.ownBlock = some q → B + 1 ≤ q := fun q hq => (own_block_ltR HOWN.out hq).1
                         have hb9 : Below (B + 1) (wr.alloc (.cells (recC p).toArray 27)).drew w9 := (Below.refl _ _).grown hgrow9 (by show B + 1 ≤ (wr.alloc _).heap.size; simp; omega) hvb
                         have HB9 := Lib.hid ((HBW.out.trans (HB8.out.mono (by omega))).trans (hb9.mono (by omega)))
                         have k9 := (HKV.out.below HB8.out hz2).below hb9 (by omega)
                         have HK9 := Lib.hid k9
                         have hv9 : w9.cell? ⟨B, 0, none⟩ = some v := k9.cell rfl
                         have fv9 : w9.frozen? ⟨B, 0, none⟩ = false := k9.free
                         have HOWN9 : Hid (w9.ownsRow (B + 1) 27 6 (.slice (some ⟨g2, 0, none⟩) (Y.length + 1) cap2) (Y.length + 1) (rcA (Y ++ [p]))) := by
                           show World.ownsRow _ _ _ _ _ _ _
                           rw [rcA_snoc]; exact hown9
                         clear hvb hb9 k9 hown9 hgrow9 hat9 hlt9)
          all_goals
            go_wp2
            go_roundw
            case rel => exact ⟨k + 1, .slice (some ⟨g2, 0, none⟩) (Y.length + 1) cap2, by omega, by go_num, by rw [HPY'.out, List.length_append]; exact own_otherR HOWN9.out (by dsimp only; omega) _, HB9.out.setCell (by dsimp only; omega) _, HK9.out.set _⟩
            case measure => simp [intOf]; omega
        · clear E1
          go_wp2
          go_region_law (refine step_append_lies _ rfl (.tmp 27) (.tmp 33) 23 rfl (B + 1) 27 ir _ 6 56 Try.underlying23 Hir.out Zr0.out Zr1.out Zr2.out rfl (by omega) v Y.length (rcA Y) (by rfl) HOWN8.out ⟨wr.heap.size, 0, none⟩ 1 1 (recC p) (by rfl) (by rfl) HNEWS8.out (recC_one p) (by omega) (by unfold maxLen; omega) (by omega) (by show B + 1 ≤ (wr.alloc _).heap.size; simp; omega) (wr.heap.size + 1) (by show (wr.alloc _).heap.size = _; simp) ?_
                         intro g2 cap2 w9 hown9 hgrow9 hat9 hlt9
                         have hvb : ∀ q, v.ownBlock = some q → B + 1 ≤ q := fun q hq => (own_block_ltR HOWN.out hq).1
                         have hb9 : Below (B + 1) (wr.alloc (.cells (recC p).toArray 27)).drew w9 := (Below.refl _ _).grown hgrow9 (by show B + 1 ≤ (wr.alloc _).heap.size; simp; omega) hvb
                         have HB9 := Lib.hid ((HBW.out.trans (HB8.out.mono (by omega))).trans (hb9.mono (by omega)))
                         have k9 := (HKV.out.below HB8.out hz2).below hb9 (by omega)
                         have HK9 := Lib.hid k9
                         have hv9 : w9.cell? ⟨B, 0, none⟩ = some v := k9.cell rfl
                         have fv9 : w9.frozen? ⟨B, 0, none⟩ = false := k9.free
                         have HOWN9 : Hid (w9.ownsRow (B + 1) 27 6 (.slice (some ⟨g2, 0, none⟩) (Y.length + 1) cap2) (Y.length + 1) (rcA (Y ++ [p]))) := by
                           show World.ownsRow _ _ _ _ _ _ _
                           rw [rcA_snoc]; exact hown9
                         clear hvb hb9 k9 hown9 hgrow9 hat9 hlt9)
          all_goals
            go_wp2
            go_roundw
            case rel => exact ⟨k + 1, .slice (some ⟨g2, 0, none⟩) (Y.length + 1) cap2, by omega, by go_num, by rw [HPY'.out, List.length_append]; exact own_otherR HOWN9.out (by dsimp only; omega) _, HB9.out.setCell (by dsimp only; omega) _, HK9.out.set _⟩
            case measure => simp [intOf]; omega
      · have hno : (b || decide (k + 1 = n)) = false := by simpa using hyes
        have HPN' := Lib.hid (HPN.out hno)
        obtain ⟨rfl, hkl⟩ : b = false ∧ k + 1 ≠ n := by cases b <;> simp_all
        have e1 : ((k : Int) == (n : Int) - 1) = false := by simp; omega
        clear HPY HPN hyes hno hkl
        go_wp2
        go_roundw
        case rel => exact ⟨k + 1, v, by omega, by go_num, by rw [HPN'.out]; exact HOWN.out, HBW.out, HKV.out⟩
        case measure => simp [intOf]; omega
    · obtain rfl : k = n := by omega
      obtain ⟨Av, cv, rfl⟩ := own_slice HOWN.out
      have hv0 : wr.cell? ⟨B, 0, none⟩ = some (.slice Av (prTo X k).length cv) := hkv.cell rfl
      have kr := HR5.out.below (B := B) hbw (by omega)
      have d0 : wr.cell? ⟨w.heap.size + 1, 0, none⟩ = some (.slice none 0 0) := kr.cell rfl
      have fd0 : wr.frozen? ⟨w.heap.size + 1, 0, none⟩ = false := kr.free
      clear hown hbw hkv kr
      go_wp2
      refine bodyPost_ret (v := .agg #[.slice Av (prTo X k).length cv]) (by simp [results, Try.results70, go_sem, d0]) rfl ?_
      refine ⟨Av, cv, rfl, ?_, (HB5.out.trans (HBW.out.mono (by omega))).setCell (by dsimp only; omega) _⟩
      refine ((ow_of_own HOWN.out).same fun j h1 h2 => Below.heap_setCell _ _ _ _ (by dsimp only; omega)).mono (by omega) (by rw [size_setP]; exact Nat.le_refl _)

set_option maxHeartbeats 4000000 in
theorem spec_prune (A : Option Addr) (n ca : Nat) (X : List Rc) (w : World) (hS : SmallR X) (hA : RdRc w w.heap.size A n X) :
    Calls Try.prog 34 #[.agg #[.slice A n ca]] w (RetHs w (pruneOf X)) := by
  have HL := Lib.hid hA.1
  have HA := Lib.hid hA; have HS := Lib.hid hS; clear hA hS
  go_enter Try.func34, Try.ntmps34
  go_wp2_with fail
  have hb0 : Below w.heap.size w ((w.alloc (.cells #[.slice A n ca] 25)).alloc (.cells #[.slice none 0 0] 25)) := ((Below.refl _ _).alloc (Nat.le_refl _) _).alloc (by simp) _
  have k0 := (isBlk_new w 25 [.slice A n ca]).alloc (.cells #[.slice none 0 0] 25)
  have k1 := isBlk_new (w.alloc (.cells #[.slice A n ca] 25)) 25 [.slice none 0 0]
  change IsBlk ((w.alloc (.cells #[.slice A n ca] 25)).alloc (.cells #[.slice none 0 0] 25)) _ _ _ at k0 k1
  rw [size_alloc] at k1
  generalize (w.alloc (.cells #[.slice A n ca] 25)).alloc (.cells #[.slice none 0 0] 25) = W at hb0 k0 k1 ⊢
  refine (spec_histRight_any A n ca X W HS.out (HA.out.next hb0)).mono ?_
  rintro e w1 ⟨rfl, hb1⟩
  have HB1 := Lib.hid (hb0.trans (hb1.mono hb0.size))
  have HK1 := Lib.hid (k0.below hb1 k0.lt)
  have HR1 := Lib.hid (k1.below hb1 k1.lt)
  have hx : w1.cell? ⟨w.heap.size, 0, none⟩ = some (.slice A n ca) := HK1.out.cell rfl
  clear hb0 hb1 k0 k1
  by_cases hr : hRight X = true
  case neg =>
    have HT := Lib.hid (pruneOf_no hr)
    have hr : hRight X = false := by simpa using hr
    have d0 : w1.cell? ⟨w.heap.size + 1, 0, none⟩ = some (.slice none 0 0) := HR1.out.cell rfl
    have fd0 : w1.frozen? ⟨w.heap.size + 1, 0, none⟩ = false := HR1.out.free
    rw [hr]
    clear hr
    go_wp2
    refine bodyPost_ret (v := .agg #[.slice none 0 0]) (by simp [results, Try.results34, go_sem, d0]) rfl ?_
    rw [HT.out]
    exact ⟨none, 0, rfl, ow_nilR _ _ _ _, HB1.out.setCell (by dsimp only; omega) _⟩
  have HT : Hid (pruneOf X = prTo X n) := by show _ = _; rw [pruneOf_yes hr, HL.out]
  have HR := Lib.hid hr
  rw [hr]
  clear hr
  go_wp2_with fail
  refine (l04Prune_any A n ca X w1 HR.out (HA.out.next HB1.out)).mono ?_
  rintro e w2 ⟨A2, c2, rfl, ho2, hb2⟩
  have HO2 := Lib.hid ho2
  have HB2 := Lib.hid (HB1.out.trans (hb2.mono HB1.out.size))
  have k2 := HR1.out.below hb2 HR1.out.lt
  have d0 : w2.cell? ⟨w.heap.size + 1, 0, none⟩ = some (.slice none 0 0) := k2.cell rfl
  have fd0 : w2.frozen? ⟨w.heap.size + 1, 0, none⟩ = false := k2.free
  have hz1 : w.heap.size + 1 < w1.heap.size := HR1.out.lt
  clear ho2 hb2 k2 hx
  generalize prTo X n = Y at *
  go_wp2
  refine bodyPost_ret (v := .agg #[.slice A2 Y.length c2]) (by simp [results, Try.results34, go_sem, d0]) rfl ?_
  rw [HT.out]
  refine ⟨A2, c2, rfl, ?_, HB2.out.setCell (by dsimp only; omega) _⟩
  exact (HO2.out.same fun j h1 h2 => Below.heap_setCell _ _ _ _ (by dsimp only; omega)).mono (by omega) (by rw [size_setP]; exact Nat.le_refl _)
end Go.Proofs.Ytgkkkldajangeaa
