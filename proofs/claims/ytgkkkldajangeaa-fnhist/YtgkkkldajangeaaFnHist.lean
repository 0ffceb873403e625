/-
  For all strings of bytes code and more, the law FnHist returns true: the program's functions of chapter 5 answer at the drawn histories as the model's; a record added later changes nothing of what is told at an earlier time; behind a rollback each sector is told as at that time; what is written is told. No condition.
-/
import Derived.Test.YtgkkkldajangeaaRows
import Derived.Test.YtgkkkldajangeaaFhMem
import Derived.Test.YtgkkkldajangeaaDrOpen
import Derived.Test.YtgkkkldajangeaaHsTimesI
import Derived.Test.YtgkkkldajangeaaHsTimesS
import Derived.Test.YtgkkkldajangeaaHsTrailT
import Derived.Test.YtgkkkldajangeaaHsFloor
import Derived.WalkKit
import Derived.ProofKit
import Derived.OpenShut
import Derived.ShutString
import Derived.ChangeOld
import Derived.Below
namespace Go.Proofs.Ytgkkkldajangeaa.fnHist
open Go.ChangeShapes Go.WideShapes Go.ChangeAt Go.RowKit
open Go.ChangeMaps (open_string shut_string)
set_option linter.unusedVariables false

theorem own : ownKnob Try.prog.godebug = none := by kernel_rfl
theorem laidOut : laidOutB Try.prog = true := by kernel_rfl

set_option maxHeartbeats 8000000 in
set_option maxRecDepth 100000 in
theorem walk (A0 : Option Addr) (n0 c0 : Nat) (A1 : Option Addr) (n1 c1 : Nat) (w : World) (w0 : RdBy w w.heap.size A0 n0) (x0 : n0 ≤ maxLen) (w1 : RdBy w w.heap.size A1 n1) (x1 : n1 ≤ maxLen) :
    Calls Try.prog 3 #[.slice A0 n0 c0, .slice A1 n1 c1] w fun e w' => e = .returned (.bool true) ∧ Below w.heap.size w w' := by
  have HW0 := Lib.hid w0; have HW1 := Lib.hid w1; clear w0 w1
  unfold maxLen at x0 x1
  by_cases hbig : 1048576 < n0
  · go_enter Try.func3, Try.ntmps3
    go_wp2
    go_ret
    exact ⟨rfl, Below.refl _ _⟩
  by_cases hbig1 : 1048576 < n1
  · go_enter Try.func3, Try.ntmps3
    go_wp2
    go_ret
    exact ⟨rfl, Below.refl _ _⟩
  go_enter Try.func3, Try.ntmps3
  go_wp2_with fail
  refine (drawHistAdd_any A0 n0 c0 _ (by omega) HW0.out).mono ?_
  rintro e u1 ⟨Ah, ch, Xh, r, rfl, hr17, hD⟩
  have hv : Below u1.heap.size u1 ((u1.alloc (.cells #[.slice Ah Xh.length ch] 25)).alloc (.cells (recC r).toArray 27)) := ((Below.refl _ _).alloc (Nat.le_refl _) _).alloc (by simp) _
  have KH1 := Lib.hid ((Hx.made hD).below (W := u1.alloc (.cells #[.slice Ah Xh.length ch] 25)) ((Below.refl _ _).alloc (Nat.le_refl _) (.cells (recC r).toArray 27)))
  have KR1 : Hid (IsBlk ((u1.alloc (.cells #[.slice Ah Xh.length ch] 25)).alloc (.cells (recC r).toArray 27)) (u1.heap.size + 1) 27 (recC r)) := by
    have k := isBlk_new (u1.alloc (.cells #[.slice Ah Xh.length ch] 25)) 27 (recC r)
    rw [size_alloc] at k; exact k
  have HB1 := Lib.hid (hD.bel.trans (hv.mono hD.bel.size))
  have HF := Lib.hid hD.fine
  obtain ⟨Y, hY⟩ : ∃ Y, Y = addList Xh r := ⟨_, rfl⟩
  obtain ⟨C, hC⟩ : ∃ C, C = addCode Xh r := ⟨_, rfl⟩
  have HY := Lib.hid hY; have HC := Lib.hid hC
  have HSY : Hid (SmallR Y) := by show SmallR Y; rw [hY]; exact small_add hD.fine hr17
  have hia : ∀ (W : World) (b : Nat), Hx W b Ah ch Xh → Calls Try.prog 9 #[.agg #[.slice Ah Xh.length ch], recV r] W (RetHOw W Y C) := fun W b h => by rw [hY, hC]; exact impl_histAddW Ah Xh.length ch Xh r W h.small (by omega) h.rd
  have hsa : ∀ (W : World) (b : Nat), Hx W b Ah ch Xh → Calls Try.prog 15 #[.agg #[.slice Ah Xh.length ch], recV r] W (RetHOw W Y C) := fun W b h => by rw [hY, hC]; exact spec_histAddW Ah Xh.length ch Xh r W h.small (by omega) h.rd
  have HIA := Lib.hid hia; have HSA := Lib.hid hsa
  clear hia hsa hY hC hD hv
  obtain ⟨nh, hnh⟩ : ∃ nh, nh = Xh.length := ⟨_, rfl⟩
  have HNH := Lib.hid hnh
  rw [← hnh] at HIA HSA KH1 KR1 HB1 ⊢
  clear hnh
  obtain ⟨ny, hny⟩ : ∃ ny, ny = Y.length := ⟨_, rfl⟩
  have HNY := Lib.hid hny; clear hny
  go_wp2_with fail
  change Calls _ _ _ ((u1.alloc (.cells #[.slice Ah nh ch] 25)).alloc (.cells (recC r).toArray 27)) _
  generalize (u1.alloc (.cells #[.slice Ah nh ch] 25)).alloc (.cells (recC r).toArray 27) = U1 at KH1 KR1 HB1 ⊢
  generalize hbh : u1.heap.size = bh at KH1 KR1 ⊢
  clear hbh
  refine (HIA.out U1 bh KH1.out).mono ?_
  rintro e u2 ⟨Ax, cx, rfl, ho2, hb2⟩
  have KX2 : Hid (Xx (u2.alloc (.cells #[.slice Ax Y.length cx, .int .i64 C] 31)) u2.heap.size Ax cx Y C) := ⟨isBlk_new u2 _ _, ((ow_of_own ho2).rd (Nat.le_refl _)).next ((Below.refl _ _).alloc (Nat.le_refl _) _), own_capR ho2⟩
  have hv2 : Below U1.heap.size U1 (u2.alloc (.cells #[.slice Ax Y.length cx, .int .i64 C] 31)) := hb2.trans (((Below.refl _ _).alloc (Nat.le_refl _) _).mono hb2.size)
  rw [← HNY.out] at KX2 hv2 ⊢
  have HB2 := Lib.hid (HB1.out.trans (hv2.mono HB1.out.size))
  have KH2 := Lib.hid (KH1.out.below hv2); have KR2 := Lib.hid (KR1.out.below hv2 KR1.out.lt)
  clear hv2 hb2 ho2 KH1 KR1 HB1 HIA
  go_wp2_with fail
  change Calls _ _ _ (u2.alloc (.cells #[.slice Ax ny cx, .int .i64 C] 31)) _
  generalize u2.alloc (.cells #[.slice Ax ny cx, .int .i64 C] 31) = U2 at KX2 KH2 KR2 HB2 ⊢
  generalize hbx : u2.heap.size = bx at KX2 ⊢
  clear hbx
  refine (drawTrail_any A1 n1 c1 _ (by omega) (rdBy_in HW1.out HB2.out)).mono ?_
  rintro e v2 ⟨At, ct_, Xt, at_, tt, rfl, hD⟩
  have hv : Below U2.heap.size U2 (v2.alloc (.cells #[.slice At Xt.length ct_] 25)) := hD.bel.trans (((Below.refl _ _).alloc (Nat.le_refl _) _).mono hD.bel.size)
  have KT3 := Lib.hid (Hx.made hD)
  obtain ⟨nt_, hnt_⟩ : ∃ n, n = Xt.length := ⟨_, rfl⟩
  have HNT := Lib.hid hnt_
  rw [← hnt_] at KT3 hv ⊢
  clear hnt_
  have HB3 := Lib.hid (HB2.out.trans (hv.mono HB2.out.size))
  have KH3 := Lib.hid (KH2.out.below hv)
  have KR3 := Lib.hid (KR2.out.below hv KR2.out.lt)
  have KX3 := Lib.hid (KX2.out.below hv)
  clear hv hD HB2 KH2 KR2 KX2
  go_wp2_with fail
  change Calls _ _ _ (v2.alloc (.cells #[.slice At nt_ ct_] 25)) _
  generalize v2.alloc (.cells #[.slice At nt_ ct_] 25) = U3 at HB3 KH3 KR3 KX3 KT3 ⊢
  generalize hbt : v2.heap.size = bt at KT3 ⊢
  clear hbt
  refine (drawAsOf_any A0 n0 c0 _ (by omega) (rdBy_in HW0.out HB3.out)).mono ?_
  rintro e v3 ⟨Au, cu_, Xu, au, tu, rfl, hD⟩
  have hv : Below U3.heap.size U3 (v3.alloc (.cells #[.slice Au Xu.length cu_] 25)) := hD.bel.trans (((Below.refl _ _).alloc (Nat.le_refl _) _).mono hD.bel.size)
  have KU4 := Lib.hid (Hx.made hD)
  obtain ⟨nu_, hnu_⟩ : ∃ n, n = Xu.length := ⟨_, rfl⟩
  have HNU := Lib.hid hnu_
  rw [← hnu_] at KU4 hv ⊢
  clear hnu_
  have HB4 := Lib.hid (HB3.out.trans (hv.mono HB3.out.size))
  have KH4 := Lib.hid (KH3.out.below hv)
  have KR4 := Lib.hid (KR3.out.below hv KR3.out.lt)
  have KX4 := Lib.hid (KX3.out.below hv)
  have KT4 := Lib.hid (KT3.out.below hv)
  clear hv hD HB3 KH3 KR3 KX3 KT3
  go_wp2_with fail
  change Calls _ _ _ (v3.alloc (.cells #[.slice Au nu_ cu_] 25)) _
  generalize v3.alloc (.cells #[.slice Au nu_ cu_] 25) = U4 at HB4 KH4 KR4 KX4 KT4 KU4 ⊢
  generalize hbu : v3.heap.size = bu at KU4 ⊢
  clear hbu
  refine (drawTimes_any A1 n1 c1 _ (by omega) (rdBy_in HW1.out HB4.out)).mono ?_
  rintro e v4 ⟨Aw, cw_, Xw, aw, rfl, hD⟩
  have hv : Below U4.heap.size U4 (v4.alloc (.cells #[.slice Aw Xw.length cw_] 25)) := hD.bel.trans (((Below.refl _ _).alloc (Nat.le_refl _) _).mono hD.bel.size)
  have KW5 := Lib.hid (Hx.made hD)
  obtain ⟨nw_, hnw_⟩ : ∃ n, n = Xw.length := ⟨_, rfl⟩
  have HNW := Lib.hid hnw_
  rw [← hnw_] at KW5 hv ⊢
  clear hnw_
  have HB5 := Lib.hid (HB4.out.trans (hv.mono HB4.out.size))
  have KH5 := Lib.hid (KH4.out.below hv)
  have KR5 := Lib.hid (KR4.out.below hv KR4.out.lt)
  have KX5 := Lib.hid (KX4.out.below hv)
  have KT5 := Lib.hid (KT4.out.below hv)
  have KU5 := Lib.hid (KU4.out.below hv)
  clear hv hD HB4 KH4 KR4 KX4 KT4 KU4
  go_wp2_with fail
  change Calls _ _ _ (v4.alloc (.cells #[.slice Aw nw_ cw_] 25)) _
  generalize v4.alloc (.cells #[.slice Aw nw_ cw_] 25) = U5 at HB5 KH5 KR5 KX5 KT5 KU5 KW5 ⊢
  generalize hbw : v4.heap.size = bw at KW5 ⊢
  clear hbw
  refine (drawLastSeq_any A0 n0 c0 _ (by omega) (rdBy_in HW0.out HB5.out)).mono ?_
  rintro e v5 ⟨Al, cl_, Xl, rfl, hD⟩
  have hv : Below U5.heap.size U5 (v5.alloc (.cells #[.slice Al Xl.length cl_] 25)) := hD.bel.trans (((Below.refl _ _).alloc (Nat.le_refl _) _).mono hD.bel.size)
  have KL6 := Lib.hid (Hx.made hD)
  obtain ⟨nl_, hnl_⟩ : ∃ n, n = Xl.length := ⟨_, rfl⟩
  have HNL := Lib.hid hnl_
  rw [← hnl_] at KL6 hv ⊢
  clear hnl_
  have HB6 := Lib.hid (HB5.out.trans (hv.mono HB5.out.size))
  have KH6 := Lib.hid (KH5.out.below hv)
  have KR6 := Lib.hid (KR5.out.below hv KR5.out.lt)
  have KX6 := Lib.hid (KX5.out.below hv)
  have KT6 := Lib.hid (KT5.out.below hv)
  have KU6 := Lib.hid (KU5.out.below hv)
  have KW6 := Lib.hid (KW5.out.below hv)
  clear hv hD HB5 KH5 KR5 KX5 KT5 KU5 KW5
  go_wp2_with fail
  change Code.wp _ _ _ _ (v5.alloc (.cells #[.slice Al nl_ cl_] 25))
  generalize v5.alloc (.cells #[.slice Al nl_ cl_] 25) = U6 at HB6 KH6 KR6 KX6 KT6 KU6 KW6 KL6 ⊢
  generalize hbl : v5.heap.size = bl at KL6 ⊢
  clear hbl
  obtain ⟨Q, hQ⟩ : ∃ Q : World → Prop, Q = fun W => Below w.heap.size w W ∧ Hx W bh Ah ch Xh ∧ IsBlk W (bh + 1) 27 (recC r) ∧ Xx W bx Ax cx Y C ∧ Hx W bt At ct_ Xt ∧ Hx W bu Au cu_ Xu ∧ Hx W bw Aw cw_ Xw ∧ Hx W bl Al cl_ Xl := ⟨_, rfl⟩
  have hQ0 : Q U6 := by rw [hQ]; exact ⟨HB6.out, KH6.out, KR6.out, KX6.out, KT6.out, KU6.out, KW6.out, KL6.out⟩
  have HQs : Hid (∀ W W', Q W → Below W.heap.size W W' → Q W') := fun W W' h hb => by
    rw [hQ] at h ⊢
    obtain ⟨h1, h2, h3, h4, h5, h6, h7, h8⟩ := h
    exact ⟨h1.trans (hb.mono h1.size), h2.below hb, h3.below hb h3.lt, h4.below hb, h5.below hb, h6.below hb, h7.below hb, h8.below hb⟩
  have HSQ : Hid (∀ W, Q W → W.cell? ⟨bx, 0, none⟩ = some (.slice Ax ny cx) ∧ W.cell? ⟨bx, 1, none⟩ = some (.int .i64 C) ∧ W.cell? ⟨bh, 0, none⟩ = some (.slice Ah nh ch) ∧ W.cell? ⟨bh + 1, 0, none⟩ = some (.int .i64 r.k) ∧ W.cell? ⟨bh + 1, 1, none⟩ = some (.int .i64 r.s) ∧ W.cell? ⟨bh + 1, 2, none⟩ = some (.int .i64 r.q) ∧ W.cell? ⟨bh + 1, 3, none⟩ = some (.int .i64 r.t) ∧ W.cell? ⟨bh + 1, 4, none⟩ = some (.int .i64 r.o) ∧ W.cell? ⟨bh + 1, 5, none⟩ = some (.string r.d) ∧ W.cell? ⟨bt, 0, none⟩ = some (.slice At nt_ ct_) ∧ W.cell? ⟨bu, 0, none⟩ = some (.slice Au nu_ cu_) ∧ W.cell? ⟨bw, 0, none⟩ = some (.slice Aw nw_ cw_) ∧ W.cell? ⟨bl, 0, none⟩ = some (.slice Al nl_ cl_) ∧ Q W) := fun W h => by
    have h' := h
    rw [hQ] at h'
    obtain ⟨h1, h2, h3, h4, h5, h6, h7, h8⟩ := h'
    obtain ⟨x0, x1, x2, x3, x4, x5⟩ := rcCells h3
    refine ⟨?_, h4.blk.cell rfl, ?_, x0, x1, x2, x3, x4, x5, ?_, ?_, ?_, ?_, h⟩
    · rw [HNY.out]; exact h4.blk.cell rfl
    · rw [HNH.out]; exact h2.blk.cell rfl
    · rw [HNT.out]; exact h5.blk.cell rfl
    · rw [HNU.out]; exact h6.blk.cell rfl
    · rw [HNW.out]; exact h7.blk.cell rfl
    · rw [HNL.out]; exact h8.blk.cell rfl
  have HQS : Hid (∀ W, (W.cell? ⟨bx, 0, none⟩ = some (.slice Ax ny cx) ∧ W.cell? ⟨bx, 1, none⟩ = some (.int .i64 C) ∧ W.cell? ⟨bh, 0, none⟩ = some (.slice Ah nh ch) ∧ W.cell? ⟨bh + 1, 0, none⟩ = some (.int .i64 r.k) ∧ W.cell? ⟨bh + 1, 1, none⟩ = some (.int .i64 r.s) ∧ W.cell? ⟨bh + 1, 2, none⟩ = some (.int .i64 r.q) ∧ W.cell? ⟨bh + 1, 3, none⟩ = some (.int .i64 r.t) ∧ W.cell? ⟨bh + 1, 4, none⟩ = some (.int .i64 r.o) ∧ W.cell? ⟨bh + 1, 5, none⟩ = some (.string r.d) ∧ W.cell? ⟨bt, 0, none⟩ = some (.slice At nt_ ct_) ∧ W.cell? ⟨bu, 0, none⟩ = some (.slice Au nu_ cu_) ∧ W.cell? ⟨bw, 0, none⟩ = some (.slice Aw nw_ cw_) ∧ W.cell? ⟨bl, 0, none⟩ = some (.slice Al nl_ cl_) ∧ Q W) → Q W) := fun W h => h.2.2.2.2.2.2.2.2.2.2.2.2.2
  have HQB : Hid (∀ W, Q W → Below w.heap.size w W) := fun W h => by rw [hQ] at h; exact h.1
  have HQH : Hid (∀ W, Q W → Hx W bh Ah ch Xh) := fun W h => by rw [hQ] at h; exact h.2.1
  have HQX : Hid (∀ W, Q W → Xx W bx Ax cx Y C) := fun W h => by rw [hQ] at h; exact h.2.2.2.1
  have HHR : Hid (C = 0 → hRight Y = true) := fun h => by
    rw [HC.out] at h
    rw [HY.out, add_list h]
    exact (hRight_add h).1
  obtain ⟨LT, hLT⟩ : ∃ L, L = trailOf Xt at_ tt := ⟨_, rfl⟩
  have HLTl : Hid (LT.length ≤ 49) := by show _ ≤ _; rw [hLT]; have h1 := trailOf_len Xt at_ tt; have h2 := KT6.out.fine.len; omega
  have HTI : Hid (∀ W, Q W → Calls Try.prog 17 #[.agg #[.slice At nt_ ct_], .int .i64 at_, .int .i64 tt] W (RetNs W LT)) := fun W h => by
    rw [hQ] at h
    have k := h.2.2.2.2.1
    rw [HNT.out, hLT]; exact impl_trail At Xt.length ct_ Xt at_ tt W k.small k.cap k.rd
  have HTS : Hid (∀ W, Q W → Calls Try.prog 18 #[.agg #[.slice At nt_ ct_], .int .i64 at_, .int .i64 tt] W (RetNs W LT)) := fun W h => by
    rw [hQ] at h
    have k := h.2.2.2.2.1
    rw [HNT.out, hLT]; exact spec_trail At Xt.length ct_ Xt at_ tt W k.small k.rd
  obtain ⟨VU, hVU⟩ : ∃ v, v = asOf Xu au tu := ⟨_, rfl⟩
  have HAI : Hid (∀ W, Q W → Calls Try.prog 19 #[.agg #[.slice Au nu_ cu_], .int .i64 au, .int .i64 tu] W (fun e w' => e = .returned (voV VU) ∧ Below W.heap.size W w')) := fun W h => by
    rw [hQ] at h
    have k := h.2.2.2.2.2.1
    rw [HNU.out, hVU]; exact impl_asOf Au Xu.length cu_ Xu au tu W k.small k.cap k.rd
  have HAS : Hid (∀ W, Q W → Calls Try.prog 20 #[.agg #[.slice Au nu_ cu_], .int .i64 au, .int .i64 tu] W (fun e w' => e = .returned (voV VU) ∧ Below W.heap.size W w')) := fun W h => by
    rw [hQ] at h
    have k := h.2.2.2.2.2.1
    rw [HNU.out, hVU]; exact spec_asOf Au Xu.length cu_ Xu au tu W k.small k.rd
  obtain ⟨LW, hLW⟩ : ∃ L, L = timesOf Xw aw := ⟨_, rfl⟩
  have HLWl : Hid (LW.length ≤ 49) := by show _ ≤ _; rw [hLW]; have h1 := timesOf_len Xw aw; have h2 := KW6.out.fine.len; omega
  have HMI : Hid (∀ W, Q W → Calls Try.prog 21 #[.agg #[.slice Aw nw_ cw_], .int .i64 aw] W (RetNs W LW)) := fun W h => by
    rw [hQ] at h
    have k := h.2.2.2.2.2.2.1
    rw [HNW.out, hLW]; exact impl_times Aw Xw.length cw_ Xw aw W k.small k.rd
  have HMS : Hid (∀ W, Q W → Calls Try.prog 22 #[.agg #[.slice Aw nw_ cw_], .int .i64 aw] W (RetNs W LW)) := fun W h => by
    rw [hQ] at h
    have k := h.2.2.2.2.2.2.1
    rw [HNW.out, hLW]; exact spec_times Aw Xw.length cw_ Xw aw W k.small k.rd
  obtain ⟨QL, hQL⟩ : ∃ v, v = (lastOf Xl).q := ⟨_, rfl⟩
  have HQI : Hid (∀ W, Q W → Calls Try.prog 23 #[.agg #[.slice Al nl_ cl_]] W (fun e w' => e = .returned (.int .i64 QL) ∧ Below W.heap.size W w')) := fun W h => by
    rw [hQ] at h
    have k := h.2.2.2.2.2.2.2
    rw [HNL.out, hQL]; exact impl_lastSeq_any Al Xl.length cl_ Xl W k.small k.rd
  have HQP : Hid (∀ W, Q W → Calls Try.prog 24 #[.agg #[.slice Al nl_ cl_]] W (fun e w' => e = .returned (.int .i64 QL) ∧ Below W.heap.size W w')) := fun W h => by
    rw [hQ] at h
    have k := h.2.2.2.2.2.2.2
    rw [HNL.out, hQL]; exact spec_lastSeq_any Al Xl.length cl_ Xl W k.small k.rd
  obtain ⟨PL, hPL⟩ : ∃ v, v = (lastOf Xl).t := ⟨_, rfl⟩
  have HPI : Hid (∀ W, Q W → Calls Try.prog 25 #[.agg #[.slice Al nl_ cl_]] W (fun e w' => e = .returned (.int .i64 PL) ∧ Below W.heap.size W w')) := fun W h => by
    rw [hQ] at h
    have k := h.2.2.2.2.2.2.2
    rw [HNL.out, hPL]; exact impl_lastTime_any Al Xl.length cl_ Xl W k.small k.rd
  have HPS : Hid (∀ W, Q W → Calls Try.prog 26 #[.agg #[.slice Al nl_ cl_]] W (fun e w' => e = .returned (.int .i64 PL) ∧ Below W.heap.size W w')) := fun W h => by
    rw [hQ] at h
    have k := h.2.2.2.2.2.2.2
    rw [HNL.out, hPL]; exact spec_lastTime_any Al Xl.length cl_ Xl W k.small k.rd
  obtain ⟨FL, hFL⟩ : ∃ v, v = floorOf Xl := ⟨_, rfl⟩
  have HFI : Hid (∀ W, Q W → Calls Try.prog 27 #[.agg #[.slice Al nl_ cl_]] W (fun e w' => e = .returned (.int .i64 FL) ∧ Below W.heap.size W w')) := fun W h => by
    rw [hQ] at h
    have k := h.2.2.2.2.2.2.2
    rw [HNL.out, hFL]; exact impl_floorOf_any Al Xl.length cl_ Xl W k.small k.rd
  have HFS : Hid (∀ W, Q W → Calls Try.prog 28 #[.agg #[.slice Al nl_ cl_]] W (fun e w' => e = .returned (.int .i64 FL) ∧ Below W.heap.size W w')) := fun W h => by
    rw [hQ] at h
    have k := h.2.2.2.2.2.2.2
    rw [HNL.out, hFL]; exact spec_floorOf_any Al Xl.length cl_ Xl W k.small k.rd
  obtain ⟨BH, hBH⟩ : ∃ v, v = hRight Xh := ⟨_, rfl⟩
  have HRI : Hid (∀ W, Q W → Calls Try.prog 29 #[.agg #[.slice Ah nh ch]] W (fun e w' => e = .returned (.bool BH) ∧ Below W.heap.size W w')) := fun W h => by
    rw [hQ] at h
    have k := h.2.1
    rw [HNH.out, hBH]; exact impl_histRight_any Ah Xh.length ch Xh W k.small k.rd
  have HRS : Hid (∀ W, Q W → Calls Try.prog 30 #[.agg #[.slice Ah nh ch]] W (fun e w' => e = .returned (.bool BH) ∧ Below W.heap.size W w')) := fun W h => by
    rw [hQ] at h
    have k := h.2.1
    rw [HNH.out, hBH]; exact spec_histRight_any Ah Xh.length ch Xh W k.small k.rd
  have hne := equalIn_vo VU
  have hgu := vo_guard
  clear hLT hVU hLW hQL hPL hFL hBH HB6 KH6 KR6 KX6 KT6 KU6 KW6 KL6
  dsimp only [List.append_eq, List.cons_append, List.nil_append]
  go_cut [120] (fun v wx => v = .bool false ∧ Q wx)
  case first =>
    as_aux_lemma =>
      have hs0 := HSQ.out _ (HQs.out _ _ hQ0 (Below.refl _ _).drew)
      go_region_held3 (fun V => V.cell? ⟨bx, 0, none⟩ = some (.slice Ax ny cx) ∧ V.cell? ⟨bx, 1, none⟩ = some (.int .i64 C) ∧ V.cell? ⟨bh, 0, none⟩ = some (.slice Ah nh ch) ∧ V.cell? ⟨bh + 1, 0, none⟩ = some (.int .i64 r.k) ∧ V.cell? ⟨bh + 1, 1, none⟩ = some (.int .i64 r.s) ∧ V.cell? ⟨bh + 1, 2, none⟩ = some (.int .i64 r.q) ∧ V.cell? ⟨bh + 1, 3, none⟩ = some (.int .i64 r.t) ∧ V.cell? ⟨bh + 1, 4, none⟩ = some (.int .i64 r.o) ∧ V.cell? ⟨bh + 1, 5, none⟩ = some (.string r.d) ∧ V.cell? ⟨bt, 0, none⟩ = some (.slice At nt_ ct_) ∧ V.cell? ⟨bu, 0, none⟩ = some (.slice Au nu_ cu_) ∧ V.cell? ⟨bw, 0, none⟩ = some (.slice Aw nw_ cw_) ∧ V.cell? ⟨bl, 0, none⟩ = some (.slice Al nl_ cl_) ∧ Q V)
        (first | ((fail_if_success (have := hs1)); exact hs0) | ((fail_if_success (have := hs2)); exact hs1) | ((fail_if_success (have := hs3)); exact hs2) | ((fail_if_success (have := hs4)); exact hs3) | ((fail_if_success (have := hs5)); exact hs4) | ((fail_if_success (have := hs6)); exact hs5) | ((fail_if_success (have := hs7)); exact hs6) | ((fail_if_success (have := hs8)); exact hs7) | ((fail_if_success (have := hs9)); exact hs8) | ((fail_if_success (have := hs10)); exact hs9) | ((fail_if_success (have := hs11)); exact hs10) | ((fail_if_success (have := hs12)); exact hs11) | ((fail_if_success (have := hs13)); exact hs12) | ((fail_if_success (have := hs14)); exact hs13) | ((fail_if_success (have := hs15)); exact hs14) | ((fail_if_success (have := hs16)); exact hs15) | ((fail_if_success (have := hs17)); exact hs16) | ((fail_if_success (have := hs18)); exact hs17) | exact hs18)
        (first
          | (go_at_call 15
             refine (HSA.out _ _ (HQH.out _ (HQS.out _ (by assumption)))).mono ?_
             rintro e q1 ⟨A', c', rfl, ho, hb⟩
             have hs1 := HSQ.out _ (HQs.out _ _ (HQS.out _ (by assumption)) hb)
             have R1 := Lib.hid ((ow_of_own ho).rd (Nat.le_refl _))
             rw [← HNY.out] at R1 ⊢
             clear ho hb)
          | (go_at_call 14
             refine (lwHists_same Ax A' ny cx c' C Y _ HSY.out HHR.out (by rw [HNY.out]; exact (HQX.out _ (HQS.out _ (by assumption))).rd) R1.out).mono ?_
             rintro e q2 ⟨rfl, hb⟩
             have hs2 := HSQ.out _ (HQs.out _ _ (HQS.out _ (by assumption)) hb)
             clear hb)
          | (go_at_call 17
             refine (HTI.out _ (HQS.out _ (by assumption))).mono ?_
             rintro e q3 ⟨A3, c3, rfl, ho, hb⟩
             have hs3 := HSQ.out _ (HQs.out _ _ (HQS.out _ (by assumption)) hb)
             have R3 := Lib.hid (ho.rd (Nat.le_refl _))
             clear ho hb)
          | (go_at_call 18
             refine (HTS.out _ (HQS.out _ (by assumption))).mono ?_
             rintro e q4 ⟨A4, c4, rfl, ho, hb⟩
             have hs4 := HSQ.out _ (HQs.out _ _ (HQS.out _ (by assumption)) hb)
             have R3' := Lib.hid (rdNs_next R3.out hb)
             have R4 := Lib.hid (ho.rd (Nat.le_refl _))
             clear ho hb)
          | (go_at_call 16
             first
               | (refine (lwNums_same A8 A9 LW.length c8 c9 LW _ (by have := HLWl.out; omega) R8'.out R9.out).mono ?_
                  rintro e q10 ⟨rfl, hb⟩
                  have hs10 := HSQ.out _ (HQs.out _ _ (HQS.out _ (by assumption)) hb)
                  clear hb)
               | (fail_if_success (have := hs5)
                  refine (lwNums_same A3 A4 LT.length c3 c4 LT _ (by have := HLTl.out; omega) R3'.out R4.out).mono ?_
                  rintro e q5 ⟨rfl, hb⟩
                  have hs5 := HSQ.out _ (HQs.out _ _ (HQS.out _ (by assumption)) hb)
                  clear hb))
          | (go_at_call 19
             refine (HAI.out _ (HQS.out _ (by assumption))).mono ?_
             rintro e q6 ⟨rfl, hb⟩
             have hs6 := HSQ.out _ (HQs.out _ _ (HQS.out _ (by assumption)) hb)
             clear hb)
          | (go_at_call 20
             refine (HAS.out _ (HQS.out _ (by assumption))).mono ?_
             rintro e q7 ⟨rfl, hb⟩
             have hs7 := HSQ.out _ (HQs.out _ _ (HQS.out _ (by assumption)) hb)
             clear hb)
          | (go_at_call 21
             refine (HMI.out _ (HQS.out _ (by assumption))).mono ?_
             rintro e q8 ⟨A8, c8, rfl, ho, hb⟩
             have hs8 := HSQ.out _ (HQs.out _ _ (HQS.out _ (by assumption)) hb)
             have R8 := Lib.hid (ho.rd (Nat.le_refl _))
             clear ho hb)
          | (go_at_call 22
             refine (HMS.out _ (HQS.out _ (by assumption))).mono ?_
             rintro e q9 ⟨A9, c9, rfl, ho, hb⟩
             have hs9 := HSQ.out _ (HQs.out _ _ (HQS.out _ (by assumption)) hb)
             have R8' := Lib.hid (rdNs_next R8.out hb)
             have R9 := Lib.hid (ho.rd (Nat.le_refl _))
             clear ho hb)
          | (go_at_call 23
             refine (HQI.out _ (HQS.out _ (by assumption))).mono ?_
             rintro e q11 ⟨rfl, hb⟩
             have hs11 := HSQ.out _ (HQs.out _ _ (HQS.out _ (by assumption)) hb)
             clear hb)
          | (go_at_call 24
             refine (HQP.out _ (HQS.out _ (by assumption))).mono ?_
             rintro e q12 ⟨rfl, hb⟩
             have hs12 := HSQ.out _ (HQs.out _ _ (HQS.out _ (by assumption)) hb)
             clear hb)
          | (go_at_call 25
             refine (HPI.out _ (HQS.out _ (by assumption))).mono ?_
             rintro e q13 ⟨rfl, hb⟩
             have hs13 := HSQ.out _ (HQs.out _ _ (HQS.out _ (by assumption)) hb)
             clear hb)
          | (go_at_call 26
             refine (HPS.out _ (HQS.out _ (by assumption))).mono ?_
             rintro e q14 ⟨rfl, hb⟩
             have hs14 := HSQ.out _ (HQs.out _ _ (HQS.out _ (by assumption)) hb)
             clear hb)
          | (go_at_call 27
             refine (HFI.out _ (HQS.out _ (by assumption))).mono ?_
             rintro e q15 ⟨rfl, hb⟩
             have hs15 := HSQ.out _ (HQs.out _ _ (HQS.out _ (by assumption)) hb)
             clear hb)
          | (go_at_call 28
             refine (HFS.out _ (HQS.out _ (by assumption))).mono ?_
             rintro e q16 ⟨rfl, hb⟩
             have hs16 := HSQ.out _ (HQs.out _ _ (HQS.out _ (by assumption)) hb)
             clear hb)
          | (go_at_call 29
             refine (HRI.out _ (HQS.out _ (by assumption))).mono ?_
             rintro e q17 ⟨rfl, hb⟩
             have hs17 := HSQ.out _ (HQs.out _ _ (HQS.out _ (by assumption)) hb)
             clear hb)
          | (go_at_call 30
             refine (HRS.out _ (HQS.out _ (by assumption))).mono ?_
             rintro e q18 ⟨rfl, hb⟩
             have hs18 := HSQ.out _ (HQs.out _ _ (HQS.out _ (by assumption)) hb)
             clear hb))
      go_wp2_with fail
      go_meet
      exact ⟨rfl, HQS.out _ hs18⟩
  case rest =>
    obtain ⟨rfl, hQc⟩ := hcut
    have HQc := Lib.hid hQc; clear hQc
    clear HTI HTS HAI HAS HMI HMS HQI HQP HPI HPS HFI HFS HRI HRS HLTl HLWl
    have HC2 : Hid (∀ W, Q W → W.cell? ⟨bx, 0, none⟩ = some (.slice Ax ny cx) ∧ W.cell? ⟨bx, 1, none⟩ = some (.int .i64 C) ∧ W.cell? ⟨bh, 0, none⟩ = some (.slice Ah nh ch) ∧ W.cell? ⟨bh + 1, 0, none⟩ = some (.int .i64 r.k) ∧ W.cell? ⟨bh + 1, 1, none⟩ = some (.int .i64 r.s) ∧ W.cell? ⟨bh + 1, 2, none⟩ = some (.int .i64 r.q) ∧ W.cell? ⟨bh + 1, 3, none⟩ = some (.int .i64 r.t) ∧ W.cell? ⟨bh + 1, 4, none⟩ = some (.int .i64 r.o) ∧ W.cell? ⟨bh + 1, 5, none⟩ = some (.string r.d) ∧ Q W) := fun W h => by
      obtain ⟨a0, a1, a2, a3, a4, a5, a6, a7, a8, -⟩ := HSQ.out W h
      exact ⟨a0, a1, a2, a3, a4, a5, a6, a7, a8, h⟩
    have HC2Q : Hid (∀ W, (W.cell? ⟨bx, 0, none⟩ = some (.slice Ax ny cx) ∧ W.cell? ⟨bx, 1, none⟩ = some (.int .i64 C) ∧ W.cell? ⟨bh, 0, none⟩ = some (.slice Ah nh ch) ∧ W.cell? ⟨bh + 1, 0, none⟩ = some (.int .i64 r.k) ∧ W.cell? ⟨bh + 1, 1, none⟩ = some (.int .i64 r.s) ∧ W.cell? ⟨bh + 1, 2, none⟩ = some (.int .i64 r.q) ∧ W.cell? ⟨bh + 1, 3, none⟩ = some (.int .i64 r.t) ∧ W.cell? ⟨bh + 1, 4, none⟩ = some (.int .i64 r.o) ∧ W.cell? ⟨bh + 1, 5, none⟩ = some (.string r.d) ∧ Q W) → Q W) := fun W h => h.2.2.2.2.2.2.2.2.2
    have HIY : Hid (∀ W i k, Q W → Calls Try.prog 19 #[.agg #[.slice Ax ny cx], .int .i64 i, .int .i64 k] W (fun e w' => e = .returned (voV (asOf Y i k)) ∧ Below W.heap.size W w')) := fun W i k h => by
      have hx := HQX.out W h
      rw [HNY.out]; exact impl_asOf Ax Y.length cx Y i k W HSY.out hx.cap hx.rd
    have HSX : Hid (∀ W i k, Q W → Calls Try.prog 20 #[.agg #[.slice Ah nh ch], .int .i64 i, .int .i64 k] W (fun e w' => e = .returned (voV (asOf Xh i k)) ∧ Below W.heap.size W w')) := fun W i k h => by
      have hx := HQH.out W h
      rw [HNH.out]; exact spec_asOf Ah Xh.length ch Xh i k W hx.small hx.rd
    have HFY : Hid (∀ W, Q W → Calls Try.prog 28 #[.agg #[.slice Ax ny cx]] W (fun e w' => e = .returned (.int .i64 (floorOf Y)) ∧ Below W.heap.size W w')) := fun W h => by
      have hx := HQX.out W h
      rw [HNY.out]; exact spec_floorOf_any Ax Y.length cx Y W HSY.out hx.rd
    have HFX : Hid (∀ W, Q W → Calls Try.prog 28 #[.agg #[.slice Ah nh ch]] W (fun e w' => e = .returned (.int .i64 (floorOf Xh)) ∧ Below W.heap.size W w')) := fun W h => by
      have hx := HQH.out W h
      rw [HNH.out]; exact spec_floorOf_any Ah Xh.length ch Xh W hx.small hx.rd
    clear hne HSA
    obtain ⟨a0, a1, a2, a3, a4, a5, a6, a7, a8, -⟩ := HC2.out _ HQc.out
    by_cases hC0 : C = 0
    case neg =>
      have hci : ((C : Int) == 0) = false := beq_eq_false_iff_ne.2 hC0
      go_wp2_with fail
      go_ret
      exact ⟨rfl, HQB.out _ HQc.out⟩
    have hadd : addCode Xh r = 0 := by rw [← HC.out]; exact hC0
    have HYX : Hid (Y = Xh ++ [r]) := by show _ = _; rw [HY.out, add_list hadd]
    have HEARLY : Hid (∀ i k : Int, 0 ≤ i → i ≤ 5 → floorOf Y ≤ k → k < r.t → asOf Y i k = asOf Xh i k) := fun i k h1 h2 h3 h4 => by rw [HYX.out] at h3 ⊢; exact tell_early hadd ⟨h1, h2⟩ h3 h4
    have HROLL : Hid (∀ i : Int, 0 ≤ i → i ≤ 5 → r.k = 3 → floorOf Xh ≤ r.o → r.o < r.t → asOf Y i r.t = asOf Xh i r.o) := fun i h1 h2 h3 h4 h5 => by rw [HYX.out]; exact tell_roll hadd ⟨h1, h2⟩ h3 h4 h5
    have HWRITE : Hid (r.k = 1 → asOf Y r.s r.t = ⟨true, r.d, 0⟩ ∨ (r.t < floorOf Xh ∧ asOf Y r.s r.t = ⟨false, ⟨#[]⟩, 12⟩)) := fun h => by rw [HYX.out]; exact tell_write2 hadd h
    have hrt : 0 ≤ r.t ∧ r.t ≤ 1000000 := by have := (hRight_add hadd).2.2.1; exact ⟨this.2.2.2.2.2.2.1, this.2.2.2.2.2.2.2.1⟩
    obtain ⟨fY, hfY⟩ : ∃ f, f = floorOf Y := ⟨_, rfl⟩
    obtain ⟨fX, hfX⟩ : ∃ f, f = floorOf Xh := ⟨_, rfl⟩
    have hf0 : 0 ≤ fY := by
      rw [hfY, HYX.out, floorOf_of (hRight_add hadd).1]; exact floorR_nonneg _
    rw [← hfY] at HFY HEARLY
    rw [← hfX] at HFX HROLL HWRITE
    clear hfY hfX
    subst hC0
    go_wp2_with fail
    go_loopw [17] (fun iv wr => ∃ i : Nat, i ≤ 6 ∧ iv = .int .i64 (i : Nat) ∧ Q wr) (fun iv _ => 6 - (intOf iv).toNat)
    case atStart => exact ⟨0, by omega, rfl, HQc.out⟩
    case round =>
      clear a0 a1 a2 a3 a4 a5 a6 a7 a8
      obtain ⟨i, hi6, rfl, hQi⟩ := hrel
      have HQi := Lib.hid hQi; clear hQi
      obtain ⟨a0, a1, a2, a3, a4, a5, a6, a7, a8, -⟩ := HC2.out _ HQi.out
      by_cases hlt : i < 6
      · have hli : (i : Int) < 6 := by omega
        go_wp2_with fail
        refine (HFY.out _ HQi.out).mono ?_
        rintro e p1 ⟨rfl, hb⟩
        have HQ1 := Lib.hid (HQs.out _ _ HQi.out hb)
        clear hb a0 a1 a2 a3 a4 a5 a6 a7 a8
        go_wp2_with fail
        go_loopw [18] (fun kv wr => ∃ k : Int, fY ≤ k ∧ k ≤ 1000001 + fY ∧ kv = .int .i64 k ∧ Q wr) (fun kv _ => (1000001 + fY - intOf kv).toNat)
        case atStart => exact ⟨fY, by omega, by omega, rfl, HQ1.out⟩
        case round =>
          obtain ⟨k, hk1, hk2, rfl, hQk⟩ := hrel
          have HQk := Lib.hid hQk; clear hQk
          obtain ⟨a0, a1, a2, a3, a4, a5, a6, a7, a8, -⟩ := HC2.out _ HQk.out
          by_cases hkt : k < r.t
          · obtain ⟨V, hV⟩ : ∃ V, V = asOf Xh i k := ⟨_, rfl⟩
            have HI : Hid (∀ W, Q W → Calls Try.prog 19 #[.agg #[.slice Ax ny cx], .int .i64 i, .int .i64 k] W (fun e w' => e = .returned (voV V) ∧ Below W.heap.size W w')) := fun W h => by rw [hV, ← HEARLY.out i k (by omega) (by omega) hk1 hkt]; exact HIY.out W i k h
            have HS : Hid (∀ W, Q W → Calls Try.prog 20 #[.agg #[.slice Ah nh ch], .int .i64 i, .int .i64 k] W (fun e w' => e = .returned (voV V) ∧ Below W.heap.size W w')) := fun W h => by rw [hV]; exact HSX.out W i k h
            clear hV
            have hne := equalIn_vo V
            have hs0 := HC2.out _ (HQs.out _ _ HQk.out (Below.refl _ _).drew)
            go_wp2_with fail
            go_region_held3 (fun W => W.cell? ⟨bx, 0, none⟩ = some (.slice Ax ny cx) ∧ W.cell? ⟨bx, 1, none⟩ = some (.int .i64 0) ∧ W.cell? ⟨bh, 0, none⟩ = some (.slice Ah nh ch) ∧ W.cell? ⟨bh + 1, 0, none⟩ = some (.int .i64 r.k) ∧ W.cell? ⟨bh + 1, 1, none⟩ = some (.int .i64 r.s) ∧ W.cell? ⟨bh + 1, 2, none⟩ = some (.int .i64 r.q) ∧ W.cell? ⟨bh + 1, 3, none⟩ = some (.int .i64 r.t) ∧ W.cell? ⟨bh + 1, 4, none⟩ = some (.int .i64 r.o) ∧ W.cell? ⟨bh + 1, 5, none⟩ = some (.string r.d) ∧ Q W)
              (first | ((fail_if_success (have := hs1)); exact hs0) | ((fail_if_success (have := hs2)); exact hs1) | exact hs2)
              (first
                | (go_at_call 19
                   refine (HI.out _ (HC2Q.out _ (by assumption))).mono ?_
                   rintro e p1_ ⟨rfl, hb⟩
                   have hs1 := HC2.out _ (HQs.out _ _ (HC2Q.out _ (by assumption)) hb)
                   clear hb)
                | (go_at_call 20
                   refine (HS.out _ (HC2Q.out _ (by assumption))).mono ?_
                   rintro e p2_ ⟨rfl, hb⟩
                   have hs2 := HC2.out _ (HQs.out _ _ (HC2Q.out _ (by assumption)) hb)
                   clear hb))
            go_wp2_with fail
            go_roundw
            case rel => exact ⟨k + 1, by omega, by omega, by go_num, HC2Q.out _ hs2⟩
            case measure => simp [intOf]; omega
          · go_wp2_with fail
            go_cut [177] (fun v wx => v = .bool false ∧ Q wx)
            case first =>
              by_cases hk3 : r.k = 3
              · have hk3i : (r.k == 3) = true := by simp [hk3]
                by_cases ho1 : fX ≤ r.o
                · have hd1 : decide (fX ≤ r.o) = true := decide_eq_true ho1
                  by_cases ho2 : r.o < r.t
                  · have hd2 : decide (r.o < r.t) = true := decide_eq_true ho2
                    obtain ⟨V, hV⟩ : ∃ V, V = asOf Xh i r.o := ⟨_, rfl⟩
                    have HI : Hid (∀ W, Q W → Calls Try.prog 19 #[.agg #[.slice Ax ny cx], .int .i64 i, .int .i64 r.t] W (fun e w' => e = .returned (voV V) ∧ Below W.heap.size W w')) := fun W h => by rw [hV, ← HROLL.out i (by omega) (by omega) hk3 ho1 ho2]; exact HIY.out W i r.t h
                    have HS : Hid (∀ W, Q W → Calls Try.prog 20 #[.agg #[.slice Ah nh ch], .int .i64 i, .int .i64 r.o] W (fun e w' => e = .returned (voV V) ∧ Below W.heap.size W w')) := fun W h => by rw [hV]; exact HSX.out W i r.o h
                    clear hV
                    have hne := equalIn_vo V
                    have a0' := cell_regrown a0; have a1' := cell_regrown a1; have a2' := cell_regrown a2; have a3' := cell_regrown a3; have a4' := cell_regrown a4; have a5' := cell_regrown a5; have a6' := cell_regrown a6; have a7' := cell_regrown a7; have a8' := cell_regrown a8
                    refine wp_region_quiet_below (by kernel_rfl) (by kernel_rfl) ?_
                    repeat (go_big_quiet_step (first | (go_at_call 28; exact Calls.regrown_of (HFX.out _ (HQs.out _ _ HQk.out (below_regrown _ _ _)))) | (go_at_call 19; exact Calls.regrown_of (HI.out _ (HQs.out _ _ HQk.out (below_regrown _ _ _)))) | (go_at_call 20; exact Calls.regrown_of (HS.out _ (HQs.out _ _ HQk.out (below_regrown _ _ _))))))
                    refine wpQuiet_nil ?_
                    intro w9 hw9
                    have hb9 : Below wr.heap.size wr w9 := by obtain ⟨⟨dq, osq⟩, rfl⟩ := hw9; exact below_regrown wr dq osq
                    clear hw9
                    go_wp2_with fail
                    go_meet
                    exact ⟨by first | rfl | simp [*], HQs.out _ _ HQk.out hb9⟩
                  · have hd2 : decide (r.o < r.t) = false := decide_eq_false ho2
                    have a0' := cell_regrown a0; have a1' := cell_regrown a1; have a2' := cell_regrown a2; have a3' := cell_regrown a3; have a4' := cell_regrown a4; have a5' := cell_regrown a5; have a6' := cell_regrown a6; have a7' := cell_regrown a7; have a8' := cell_regrown a8
                    refine wp_region_quiet_below (by kernel_rfl) (by kernel_rfl) ?_
                    repeat (go_big_quiet_step (first | (go_at_call 28; exact Calls.regrown_of (HFX.out _ (HQs.out _ _ HQk.out (below_regrown _ _ _))))))
                    refine wpQuiet_nil ?_
                    intro w9 hw9
                    have hb9 : Below wr.heap.size wr w9 := by obtain ⟨⟨dq, osq⟩, rfl⟩ := hw9; exact below_regrown wr dq osq
                    clear hw9
                    go_wp2_with fail
                    go_meet
                    exact ⟨by first | rfl | simp [*], HQs.out _ _ HQk.out hb9⟩
                · have hd1 : decide (fX ≤ r.o) = false := decide_eq_false ho1
                  have a0' := cell_regrown a0; have a1' := cell_regrown a1; have a2' := cell_regrown a2; have a3' := cell_regrown a3; have a4' := cell_regrown a4; have a5' := cell_regrown a5; have a6' := cell_regrown a6; have a7' := cell_regrown a7; have a8' := cell_regrown a8
                  refine wp_region_quiet_below (by kernel_rfl) (by kernel_rfl) ?_
                  repeat (go_big_quiet_step (first | (go_at_call 28; exact Calls.regrown_of (HFX.out _ (HQs.out _ _ HQk.out (below_regrown _ _ _))))))
                  refine wpQuiet_nil ?_
                  intro w9 hw9
                  have hb9 : Below wr.heap.size wr w9 := by obtain ⟨⟨dq, osq⟩, rfl⟩ := hw9; exact below_regrown wr dq osq
                  clear hw9
                  go_wp2_with fail
                  go_meet
                  exact ⟨by first | rfl | simp [*], HQs.out _ _ HQk.out hb9⟩
              · have hk3i : (r.k == 3) = false := beq_eq_false_iff_ne.2 hk3
                have a0' := cell_regrown a0; have a1' := cell_regrown a1; have a2' := cell_regrown a2; have a3' := cell_regrown a3; have a4' := cell_regrown a4; have a5' := cell_regrown a5; have a6' := cell_regrown a6; have a7' := cell_regrown a7; have a8' := cell_regrown a8
                refine wp_region_quiet_below (by kernel_rfl) (by kernel_rfl) ?_
                repeat (go_big_quiet_step (fail))
                refine wpQuiet_nil ?_
                intro w9 hw9
                have hb9 : Below wr.heap.size wr w9 := by obtain ⟨⟨dq, osq⟩, rfl⟩ := hw9; exact below_regrown wr dq osq
                clear hw9
                go_wp2_with fail
                go_meet
                exact ⟨by first | rfl | simp [*], HQs.out _ _ HQk.out hb9⟩
            case rest =>
              obtain ⟨rfl, hQc2⟩ := hcut
              go_wp2_with fail
              go_roundw
              case rel => exact ⟨i + 1, by omega, by go_num, hQc2⟩
              case measure => simp [intOf]; omega
      · obtain rfl : i = 6 := by omega
        go_wp2_with fail
        by_cases hk1 : r.k = 1
        · have hk1i : (r.k == 1) = true := by simp [hk1]
          rcases HWRITE.out hk1 with hw | ⟨hw1, hw2⟩
          · have HI : Hid (∀ W, Q W → Calls Try.prog 19 #[.agg #[.slice Ax ny cx], .int .i64 r.s, .int .i64 r.t] W (fun e w' => e = .returned (.agg #[.bool true, .string r.d, .int .i64 0]) ∧ Below W.heap.size W w')) := fun W h => by have h' := HIY.out W r.s r.t h; rw [hw] at h'; exact h'
            have hne : ∀ W, (Op.equalIn 10000 43 (.agg #[.bool true, .string r.d, .int .i64 0]) (.agg #[.bool true, .string r.d, .int .i64 0])).run Try.prog W = .ok true W := equalIn_vo ⟨true, r.d, 0⟩
            have a0' := cell_regrown a0; have a1' := cell_regrown a1; have a2' := cell_regrown a2; have a3' := cell_regrown a3; have a4' := cell_regrown a4; have a5' := cell_regrown a5; have a6' := cell_regrown a6; have a7' := cell_regrown a7; have a8' := cell_regrown a8
            refine wp_region_quiet_below (by kernel_rfl) (by kernel_rfl) ?_
            repeat (go_big_quiet_step (first | (go_at_call 19; exact Calls.regrown_of (HI.out _ (HQs.out _ _ HQi.out (below_regrown _ _ _))))))
            refine wpQuiet_nil ?_
            intro w9 hw9
            have hb9 : Below wr.heap.size wr w9 := by obtain ⟨⟨dq, osq⟩, rfl⟩ := hw9; exact below_regrown wr dq osq
            clear hw9
            go_wp2_with fail
            go_ret
            exact ⟨by first | rfl | simp [*], HQB.out _ (HQs.out _ _ HQi.out hb9)⟩
          · have HI : Hid (∀ W, Q W → Calls Try.prog 19 #[.agg #[.slice Ax ny cx], .int .i64 r.s, .int .i64 r.t] W (fun e w' => e = .returned (.agg #[.bool false, .string ⟨#[]⟩, .int .i64 12]) ∧ Below W.heap.size W w')) := fun W h => by have h' := HIY.out W r.s r.t h; rw [hw2] at h'; exact h'
            have hne := equalIn_vo_no r.d
            have hd1 : decide (r.t < fX) = true := decide_eq_true hw1
            have a0' := cell_regrown a0; have a1' := cell_regrown a1; have a2' := cell_regrown a2; have a3' := cell_regrown a3; have a4' := cell_regrown a4; have a5' := cell_regrown a5; have a6' := cell_regrown a6; have a7' := cell_regrown a7; have a8' := cell_regrown a8
            refine wp_region_quiet_below (by kernel_rfl) (by kernel_rfl) ?_
            repeat (go_big_quiet_step (first | (go_at_call 19; exact Calls.regrown_of (HI.out _ (HQs.out _ _ HQi.out (below_regrown _ _ _)))) | (go_at_call 28; exact Calls.regrown_of (HFX.out _ (HQs.out _ _ HQi.out (below_regrown _ _ _))))))
            refine wpQuiet_nil ?_
            intro w9 hw9
            have hb9 : Below wr.heap.size wr w9 := by obtain ⟨⟨dq, osq⟩, rfl⟩ := hw9; exact below_regrown wr dq osq
            clear hw9
            go_wp2_with fail
            go_ret
            exact ⟨by first | rfl | simp [*], HQB.out _ (HQs.out _ _ HQi.out hb9)⟩
        · have hk1i : (r.k == 1) = false := beq_eq_false_iff_ne.2 hk1
          have hk1n : (r.k != 1) = true := by simp [hk1]
          have hk1d : decide (r.k = 1) = false := decide_eq_false hk1
          have a0' := cell_regrown a0; have a1' := cell_regrown a1; have a2' := cell_regrown a2; have a3' := cell_regrown a3; have a4' := cell_regrown a4; have a5' := cell_regrown a5; have a6' := cell_regrown a6; have a7' := cell_regrown a7; have a8' := cell_regrown a8
          refine wp_region_quiet_below (by kernel_rfl) (by kernel_rfl) ?_
          repeat (go_big_quiet_step (fail))
          refine wpQuiet_nil ?_
          intro w9 hw9
          have hb9 : Below wr.heap.size wr w9 := by obtain ⟨⟨dq, osq⟩, rfl⟩ := hw9; exact below_regrown wr dq osq
          clear hw9
          go_wp2_with fail
          go_ret
          exact ⟨by first | rfl | simp [*], HQB.out _ (HQs.out _ _ HQi.out hb9)⟩

set_option maxHeartbeats 1000000 in
set_option maxRecDepth 100000 in
theorem lifted (os : Os) (started : os.Started) (H : Type) (enc : TypeId × Value → H) :
    ReturnsInHanded {} Try.checked os 3 .any (Rows.fnHistSpec.pre6 enc Try.prog Try.f3 Rows.fnHistRow.domain false) (Rows.fnHistSpec.post enc Try.prog Try.f3 false true false false) := by
  refine returnsInHanded_of_change (C := Try.checked) own started (by kernel_rfl) Try.func3
    (ChangeSpec.witness6 (enc := enc) (C := Try.checked) false ⟨#[], #[.slice none 0 0, .slice none 0 0], []⟩ 8 (by kernel_rfl) (by kernel_rfl) (by kernel_rfl) (by kernel_rfl)) ?_
  intro W base args ds gs before hval0 hW hcnd _
  have hval : ∀ (j : Nat) t v, Try.f3.params[j]? = some t → args[j]? = some v → Value.okWide Try.prog W .any base t v := hval0
  have hW' := hW
  obtain ⟨p, q, hA0, hV, rfl, hfz, hnd⟩ := hW
  have hA : DataW.TrodAll enc Try.prog W 0 (fun _ => true) true Try.f3.params.toList args.toList ds p := hA0
  rw [Try.params3] at hA hval
  obtain ⟨v0, vs0, d0, ds0, p0, q0, hargs, rfl, rfl, h0, z0⟩ := trodAll_cons hA
  obtain ⟨v1, vs1, d1, ds1, p1, q1, rfl, rfl, rfl, h1, z1⟩ := trodAll_cons z0
  obtain ⟨rfl, rfl, rfl⟩ := trodAll_nil z1
  obtain rfl : args = #[v0, v1] := by cases args; simp_all
  obtain ⟨rfl, rfl⟩ := trodVars_none hV
  have k0 := h0
  have lt0 : ∀ x ∈ p0, x.block < W.heap.size := by obtain ⟨m, hm⟩ := k0; exact DataW.trod_lt m _ _ _ hm
  obtain ⟨A0, n0, c0, rfl, x0, w0⟩ := open_bytesV Try.underlying22 Try.underlying5 (by kernel_rfl) (hval 0 22 v0 rfl rfl) h0
  have k1 := h1
  have lt1 : ∀ x ∈ p1, x.block < W.heap.size := by obtain ⟨m, hm⟩ := k1; exact DataW.trod_lt m _ _ _ hm
  obtain ⟨A1, n1, c1, rfl, x1, w1⟩ := open_bytesV Try.underlying22 Try.underlying5 (by kernel_rfl) (hval 1 22 v1 rfl rfl) h1
  clear hA0 hval0
  refine (walk A0 n0 c0 A1 n1 c1 W w0 x0 w1 x1).mono fun e W' ⟨he, bel⟩ => ?_
  subst he
  exact ⟨_, rfl, _, _, _, [], _, [], hW', trodAll_mk1 (shut_bool Try.underlying4 _), (trodAll_cons_mk (Below.trod laidOut (by kernel_rfl) (of_decide_eq_true (by kernel_rfl)) k0 bel lt0) (trodAll_cons_mk (Below.trod laidOut (by kernel_rfl) (of_decide_eq_true (by kernel_rfl)) k1 bel lt1) trodAll_mk0)), rfl, bel.frame _, fun h => by cases h⟩

theorem over : Rows.fnHistRow.holds Try.pinned (OpenSpec.ofChange Rows.fnHistSpec) :=
  OpenClaim.holds_of_wide 3 Try.f3 rfl rfl rfl rfl rfl rfl rfl ⟨rfl, rfl, rfl, rfl, rfl⟩ rfl rfl rfl rfl rfl (by kernel_rfl) Try.func3 (by kernel_rfl)
    (of_decide_eq_true (by kernel_rfl)) (by unfold Func.isWrapper; first | (rw [if_pos (by decide +kernel)]; kernel_rfl) | (rw [if_neg (by decide +kernel)]; exact ⟨rfl, rfl⟩))
    (fun os started H enc _ => lifted os started H enc)

theorem proved : Rows.FnHistSaid := over
#print axioms proved
end Go.Proofs.Ytgkkkldajangeaa.fnHist
