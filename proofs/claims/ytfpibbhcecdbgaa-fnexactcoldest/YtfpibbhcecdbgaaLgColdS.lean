/-
  Coldest, of the program and of the model. No condition.
-/
import Derived.Test.YtfpibbhcecdbgaaProg
import Derived.KernelRfl
import Derived.BigQuiet
import Derived.Lib.QuietBelow
import Derived.Test.YtfpibbhcecdbgaaLgCold
namespace Go.Proofs.Ytfpibbhcecdbgaa
open Go.RowKit

/-- the coldest block among the first ones: the model's -/
noncomputable def coldS (X : List Bk) : Nat → Int
  | 0 => -1
  | k + 1 => if fulB (X.getD k zeroBk) = true ∧ (coldS X k < 0 ∨ (X.getD k zeroBk).erases < (X.getD (coldS X k).toNat zeroBk).erases) then (k : Int) else coldS X k
theorem below_drewNC {B : Nat} {a b : World} (h : Below B a b) (k : Nat) : Below B a (b.drewN k) := ⟨h.os, h.tape, h.output, h.size, h.block⟩
theorem coldS_no {X : List Bk} {k : Nat} (h : fulB (X.getD k zeroBk) = false) : coldS X (k + 1) = coldS X k := by rw [coldS, if_neg (fun h' => by rw [h] at h'; exact absurd h'.1 (by simp))]
theorem coldS_new {X : List Bk} {k : Nat} (h : fulB (X.getD k zeroBk) = true) (h2 : coldS X k < 0 ∨ (X.getD k zeroBk).erases < (X.getD (coldS X k).toNat zeroBk).erases) : coldS X (k + 1) = (k : Int) := by rw [coldS, if_pos ⟨h, h2⟩]
theorem coldS_old {X : List Bk} {k : Nat} (h2 : ¬ (coldS X k < 0 ∨ (X.getD k zeroBk).erases < (X.getD (coldS X k).toNat zeroBk).erases)) : coldS X (k + 1) = coldS X k := by rw [coldS, if_neg (fun h' => h2 h'.2)]
theorem coldS_is {X : List Bk} (h : ∀ i, i < X.length → 0 ≤ (X.getD i zeroBk).erases ∧ (X.getD i zeroBk).erases ≤ 1000000) : ∀ k, k ≤ X.length →
    (coldS X k = -1 ∧ cold (fulls X (erL X) k) = (-1, 1000001)) ∨ (∃ b : Nat, b < k ∧ coldS X k = (b : Int) ∧ cold (fulls X (erL X) k) = ((b : Int), (erL X b : Int)) ∧ fulB (X.getD b zeroBk) = true)
  | 0, _ => .inl ⟨rfl, rfl⟩
  | k + 1, hk => by
    have ih := coldS_is h k (by omega)
    obtain ⟨e0, e1⟩ := h k (by omega)
    have ek : (erL X k : Int) = (X.getD k zeroBk).erases := Int.toNat_of_nonneg e0
    cases hf : fulB (X.getD k zeroBk) with
    | false =>
      rw [coldS_no hf, fulls_no hf]
      rcases ih with ih | ⟨b, h1, h2⟩
      · exact .inl ih
      · exact .inr ⟨b, by omega, h2⟩
    | true =>
      rw [fulls_yes hf, cold_snoc]
      rcases ih with ⟨h1, h2⟩ | ⟨b, h1, h2, h3, h4⟩
      · rw [coldS_new hf (.inl (by omega)), h2]
        refine .inr ⟨k, by omega, rfl, ?_, hf⟩
        unfold vstep
        rw [if_pos (by dsimp only; omega)]
      · obtain ⟨b0, b1⟩ := h b (by omega)
        have eb : (erL X b : Int) = (X.getD b zeroBk).erases := Int.toNat_of_nonneg b0
        by_cases hlt : (X.getD k zeroBk).erases < (X.getD b zeroBk).erases
        · rw [coldS_new hf (.inr (by rw [h2]; exact hlt)), h3]
          refine .inr ⟨k, by omega, rfl, ?_, hf⟩
          unfold vstep
          rw [if_pos (by dsimp only; omega)]
        · rw [coldS_old (by rw [h2]; simp only [Int.toNat_natCast]; omega), h3, h2]
          refine .inr ⟨b, by omega, rfl, ?_, h4⟩
          unfold vstep
          rw [if_neg (by dsimp only; omega)]
open Classical in
/-- what Coldest answers -/
noncomputable def coldAns (X : List Bk) : Int := if NdOk X then coldS X X.length else -1
theorem coldAns_yes {X : List Bk} (h : NdOk X) : coldAns X = coldS X X.length := if_pos h
theorem coldAns_no {X : List Bk} (h : ¬ NdOk X) : coldAns X = -1 := if_neg h
theorem coldS_impl {X : List Bk} (h : NdOk X) : (cold (fulls X (erL X) X.length)).1 = coldS X X.length := by
  rcases coldS_is (nd_er h) X.length (Nat.le_refl _) with ⟨a, b⟩ | ⟨b, -, h2, h3, -⟩
  · rw [a, b]
  · rw [h2, h3]
theorem coldS_range {X : List Bk} (h : NdOk X) : ∀ k, k ≤ X.length → coldS X k = -1 ∨ (∃ b : Nat, b < k ∧ coldS X k = (b : Int) ∧ fulB (X.getD b zeroBk) = true) := fun k hk => by
  rcases coldS_is (nd_er h) k hk with ⟨a, -⟩ | ⟨b, h1, h2, -, h4⟩
  · exact .inl a
  · exact .inr ⟨b, h1, h2, h4⟩

set_option maxHeartbeats 2000000 in
set_option maxRecDepth 100000 in
theorem impl_coldest (A : Option Addr) (n ca : Nat) (X : List Bk) (w : World) (hX : Small X) (hA : RdBk w w.heap.size A n X) :
    Calls Try.prog 8 #[.agg #[.slice A n ca]] w fun e w' => e = .returned (.int .i64 (coldAns X)) ∧ Below w.heap.size w w' := by
  have HA := Lib.hid hA; have HX := Lib.hid hX; have HL := Lib.hid hA.1; clear hA hX
  go_enter Try.func8, Try.ntmps8
  go_wp2_with fail
  refine (impl_nandRight A n ca X _ HX.out (rd_step HA.out (box_below w (.cells #[.slice A n ca] 29)))).mono ?_
  rintro e w2 ⟨rfl, hb2⟩
  have HB2 := Lib.hid (bel_step (box_below w (.cells #[.slice A n ca] 29)) hb2)
  have k2 := (isBlk_new w 29 [.slice A n ca]).below hb2 (by show w.heap.size < (w.alloc _).heap.size; simp)
  have hx2 : w2.cell? ⟨w.heap.size, 0, none⟩ = some (.slice A n ca) := k2.cell rfl
  have hl2 := k2.lt
  clear hb2 k2
  by_cases hok : NdOk X
  · rw [ndB_yes hok]
    have HC := Lib.hid (coldAns_yes hok); have HCI := Lib.hid (coldS_impl hok); have HOK := Lib.hid hok
    clear hok
    go_wp2_with fail
    refine (fullBlocksC_any A n ca w.heap.size w2).mono ?_
    rintro e w3 ⟨rfl, hw3⟩
    have hb3 : Below w2.heap.size w2 w3 := by rw [hw3]; exact ((Below.refl _ _).alloc (Nat.le_refl _) _).alloc (by simp) _
    have k1 := (isBlk_new w2 29 [.slice A n ca]).alloc (.cells #[.func (.func 17) #[] #[.pointer (some ⟨w.heap.size, 0, none⟩)]] 39)
    have k2 := isBlk_new (w2.alloc (.cells #[.slice A n ca] 29)) 39 [.func (.func 17) #[] #[.pointer (some ⟨w.heap.size, 0, none⟩)]]
    rw [size_alloc] at k2
    have k1 : IsBlk w3 w2.heap.size 29 [.slice A n ca] := by rw [hw3]; exact k1
    have k2 : IsBlk w3 (w2.heap.size + 1) 39 [.func (.func 17) #[] #[.pointer (some ⟨w.heap.size, 0, none⟩)]] := by rw [hw3]; exact k2
    have HB3 := Lib.hid (bel_step HB2.out hb3)
    have hFC : FC w3 w3.heap.size w2.heap.size (w2.heap.size + 1) w.heap.size A n ca X :=
      ⟨k1.cell rfl, k1.lt, k2.cell rfl, k2.lt, (hb3.cell (p := ⟨w.heap.size, 0, none⟩) hl2).trans hx2, Nat.lt_of_lt_of_le hl2 hb3.size, rd_step HA.out HB3.out⟩
    have HFC := Lib.hid hFC
    clear hFC k1 k2 hw3 hb3
    go_wp2_with fail
    refine (leastCold_any w2.heap.size (w2.heap.size + 1) w.heap.size A n ca X w3 HOK.out HFC.out).mono ?_
    rintro e w4 ⟨rfl, hb4⟩
    have HB4 := Lib.hid (bel_step HB3.out hb4)
    clear hb4
    rw [show fulls X (erL X) n = fulls X (erL X) X.length by rw [HL.out], HCI.out]
    go_wp2
    go_ret
    exact ⟨ret_i HC.out.symm, HB4.out⟩
  · rw [ndB_no hok]
    have HC := Lib.hid (coldAns_no hok)
    clear hok
    go_wp2
    go_ret
    exact ⟨ret_i HC.out.symm, HB2.out⟩

set_option maxHeartbeats 2000000 in
set_option maxRecDepth 100000 in
theorem l11Cold_any (A : Option Addr) (n ca : Nat) (X : List Bk) (w : World) (hok : NdOk X) (hA : RdBk w w.heap.size A n X) :
    Calls Try.prog 14 #[.agg #[.slice A n ca]] w fun e w' => e = .returned (.int .i64 (coldS X X.length)) ∧ Below w.heap.size w w' := by
  have HL := Lib.hid hA.1
  have HA := Lib.hid hA
  have hn12 : n ≤ 12 := by rw [← HL.out]; exact hok.1.2
  have HER := Lib.hid (nd_er hok); have HOK := Lib.hid hok
  have HRG := Lib.hid (coldS_range hok)
  have hb0 := box_below w (.cells #[.slice A n ca] 29)
  have k0 := isBlk_new w 29 [.slice A n ca]
  change IsBlk (w.alloc (.cells #[.slice A n ca] 29)) _ _ _ at k0
  clear hA hok
  go_enter Try.func14, Try.ntmps14
  go_wp2_with fail
  generalize w.alloc (.cells #[.slice A n ca] 29) = W at *
  have HB := Lib.hid hb0; have HK := Lib.hid k0
  clear hb0 k0
  go_loopw [3, 4] (fun kv iv wr => ∃ k : Nat, k ≤ n ∧ iv = .int .i64 (k : Nat) ∧ kv = .int .i64 (coldS X k) ∧ Hid (Below W.heap.size W wr)) (fun _ i _ => n - (intOf i).toNat)
  case atStart => exact ⟨0, by omega, rfl, rfl, Below.refl _ _⟩
  case round =>
    obtain ⟨k, hk, rfl, rfl, hbr⟩ := hrel
    have HBR := Lib.hid (bel_step HB.out hbr.out)
    have y0 : wr.cell? ⟨w.heap.size, 0, none⟩ = some (.slice A n ca) := (HK.out.below hbr.out HK.out.lt).cell rfl
    by_cases hlt : k < n
    · have hRD := rd_step HA.out HBR.out
      obtain ⟨g, off, pA, pc, hA', hg, hc0, hc1, hc2, hpg⟩ := hRD.at hlt
      subst hA'
      have hkl : k < X.length := by have := HL.out; omega
      have hlen := (HOK.out.2 k hkl).1
      have HNU := Lib.hid (nUsed_ok (HOK.out.2 k hkl))
      have HPG := Lib.hid hpg
      have HNO : Hid (fulB (X.getD k zeroBk) = false → coldS X (k + 1) = coldS X k) := coldS_no
      have HNEW : Hid (fulB (X.getD k zeroBk) = true → (coldS X k < 0 ∨ (X.getD k zeroBk).erases < (X.getD (coldS X k).toNat zeroBk).erases) → coldS X (k + 1) = (k : Int)) := coldS_new
      have HOLD : Hid (¬ (coldS X k < 0 ∨ (X.getD k zeroBk).erases < (X.getD (coldS X k).toNat zeroBk).erases) → coldS X (k + 1) = coldS X k) := coldS_old
      have hFBd : fulB (X.getD k zeroBk) = decide ((X.getD k zeroBk).bad = false ∧ uPre (X.getD k zeroBk).pages = 4) := rfl
      have hrg := HRG.out k (by omega)
      rw [hFBd] at HNO HNEW
      have HRD := Lib.hid hRD
      clear hFBd hpg hRD
      generalize X.getD k zeroBk = b at hc0 hc1 hc2 hlen HNU HPG HNO HNEW HOLD
      obtain ⟨ps, er, bd⟩ := b
      simp only at hc0 hc1 hc2 hlen HPG HNO HNEW HOLD HNU
      rw [hlen] at hc0 HPG
      have hu4 : uPre ps ≤ 4 := by rw [← hlen]; exact uPre_le ps
      clear hlen
      obtain ⟨z, hz⟩ : ∃ z, z = coldS X k := ⟨_, rfl⟩
      rw [← hz] at hrg HNO HNEW HOLD ⊢
      have HZ : Hid (∀ l : Nat, z = (l : Int) → l < k → wr.cell? ⟨g, off + l * 3 + 1, none⟩ = some (.int .i64 (X.getD l zeroBk).erases)) := fun l _ hl => by
        obtain ⟨g', off', -, -, hA', -, -, e1, -, -⟩ := HRD.out.at (show l < n by omega)
        cases hA'; exact e1
      have hk0 : (0 : Int) ≤ (k : Int) := by omega
      have hkn : (k : Int) < (n : Int) := by omega
      have hbx := box_below wr (.cells #[.slice pA 4 pc, .int .i64 er, .bool bd] 38)
      have kx := isBlk_new wr 38 [.slice pA 4 pc, .int .i64 er, .bool bd]
      have HBX := Lib.hid hbx; have HKX := Lib.hid kx
      clear hz hbx kx
      go_wp2_with fail
      change Code.wp _ _ _ _ (wr.alloc (.cells #[.slice pA 4 pc, .int .i64 er, .bool bd] 38))
      change Hid (IsBlk (wr.alloc (.cells #[.slice pA 4 pc, .int .i64 er, .bool bd] 38)) _ _ _) at HKX
      have y0x : (wr.alloc (.cells #[.slice pA 4 pc, .int .i64 er, .bool bd] 38)).cell? ⟨w.heap.size, 0, none⟩ = some (.slice (some ⟨g, off, none⟩) n ca) := (HBX.out.cell (p := ⟨w.heap.size, 0, none⟩) (World.block_lt_of_cell? _ _ y0)).trans y0
      have HZX : Hid (∀ l : Nat, z = (l : Int) → l < k → (wr.alloc (.cells #[.slice pA 4 pc, .int .i64 er, .bool bd] 38)).cell? ⟨g, off + l * 3 + 1, none⟩ = some (.int .i64 (X.getD l zeroBk).erases)) := fun l h1 h2 => by
        have h3 := HZ.out l h1 h2
        exact (HBX.out.cell (p := ⟨g, off + l * 3 + 1, none⟩) (World.block_lt_of_cell? _ _ h3)).trans h3
      have HPGX : Hid (RdPg (wr.alloc (.cells #[.slice pA 4 pc, .int .i64 er, .bool bd] 38)) (wr.alloc (.cells #[.slice pA 4 pc, .int .i64 er, .bool bd] 38)).heap.size pA 4 ps) := (HPG.out.below HBX.out).mono HBX.out.size
      have HWX : Hid (Below W.heap.size W (wr.alloc (.cells #[.slice pA 4 pc, .int .i64 er, .bool bd] 38))) := bel_step hbr.out HBX.out
      clear HZ HPG HBX hc0 hc1 hc2 y0 hbr
      generalize wr.alloc (.cells #[.slice pA 4 pc, .int .i64 er, .bool bd] 38) = wx at *
      obtain ⟨x0, x1, x2, -, -, -⟩ := blk3 HKX.out
      cases bd with
      | true =>
        have HT := Lib.hid (HNO.out (by simp))
        clear HNO HNEW HOLD hrg HZX
        go_quiet (fail)
        go_wp2
        go_roundw
        case rel => exact ⟨k + 1, by omega, by go_num, by rw [HT.out], Lib.hid (below_drewNC HWX.out _)⟩
        case measure => simp [intOf]; omega
      | false =>
        have y0' := cell_regrown y0x; have x0' := cell_regrown x0; have x1' := cell_regrown x1; have x2' := cell_regrown x2
        by_cases hu : uPre ps = 4
        case neg =>
          have HT := Lib.hid (HNO.out (by simp [hu]))
          have HUS : Hid (∃ u : Nat, nUsed ps = u ∧ ((u : Int) == 4) = false) := ⟨nUsed ps, rfl, by rw [HNU.out]; simp; omega⟩
          obtain ⟨u, hu1, hu2⟩ := HUS.out
          have HU1 := Lib.hid hu1
          clear HNO HNEW HOLD HUS hrg hu1 hu HZX
          refine wp_region_quiet_below (by kernel_rfl) (by kernel_rfl) ?_
          repeat (go_big_quiet_step ((go_at_call 25; exact Calls.regrown_of ((l02Used_any _ _ _ ps _ _ _ (by omega) ((HPGX.out.below (below_regrown _ _ _)).mono (below_regrown _ _ _).size)).mono (fun e w' h => by rw [HU1.out] at h; exact h)))))
          refine wpQuiet_nil ?_
          intro w3 hw'
          have HB3 : Hid (Below wx.heap.size wx w3) := by obtain ⟨⟨dq, osq⟩, rfl⟩ := hw'; exact below_regrown wx dq osq
          clear hw' y0' x0' x1' x2' y0x x0 x1 x2
          go_wp2
          go_roundw
          case rel => exact ⟨k + 1, by omega, by go_num, by rw [HT.out], Lib.hid (bel_step HWX.out HB3.out)⟩
          case measure => simp [intOf]; omega
        have HU0 : Hid (nUsed ps = 4) := by show _ = _; rw [HNU.out, hu]
        have HNEW' : Hid ((z < 0 ∨ er < (X.getD z.toNat zeroBk).erases) → coldS X (k + 1) = (k : Int)) := HNEW.out (by simp [hu])
        clear hu HNU HNO HNEW
        rcases hrg with hz | ⟨l, hlk, rfl, -⟩
        · subst hz
          have HT := Lib.hid (HNEW'.out (.inl (by decide)))
          clear HNEW' HOLD HZX
          refine wp_region_quiet_below (by kernel_rfl) (by kernel_rfl) ?_
          repeat (go_big_quiet_step ((go_at_call 25; exact Calls.regrown_of ((l02Used_any _ _ _ ps _ _ _ (by omega) ((HPGX.out.below (below_regrown _ _ _)).mono (below_regrown _ _ _).size)).mono (fun e w' h => by rw [HU0.out] at h; exact h)))))
          refine wpQuiet_nil ?_
          intro w3 hw'
          have HB3 : Hid (Below wx.heap.size wx w3) := by obtain ⟨⟨dq, osq⟩, rfl⟩ := hw'; exact below_regrown wx dq osq
          clear hw' y0' x0' x1' x2' y0x x0 x1 x2
          go_wp2
          go_roundw
          case rel => exact ⟨k + 1, by omega, by go_num, by rw [HT.out], Lib.hid (bel_step HWX.out HB3.out)⟩
          case measure => simp [intOf]; omega
        · have hl3 := HZX.out l rfl hlk
          rw [show ((l : Int)).toNat = l from rfl] at HNEW' HOLD
          generalize (X.getD l zeroBk).erases = el at hl3 HNEW' HOLD
          have hl3' := cell_regrown hl3
          have hne : decide ((l : Int) < 0) = false := by simp
          have hl0 : (0 : Int) ≤ (l : Int) := by omega
          have hln : (l : Int) < (n : Int) := by omega
          clear HZX
          by_cases hlt2 : er < el
          · have HT := Lib.hid (HNEW'.out (.inr hlt2))
            clear HNEW' HOLD
            refine wp_region_quiet_below (by kernel_rfl) (by kernel_rfl) ?_
            repeat (go_big_quiet_step ((go_at_call 25; exact Calls.regrown_of ((l02Used_any _ _ _ ps _ _ _ (by omega) ((HPGX.out.below (below_regrown _ _ _)).mono (below_regrown _ _ _).size)).mono (fun e w' h => by rw [HU0.out] at h; exact h)))))
            refine wpQuiet_nil ?_
            intro w3 hw'
            have HB3 : Hid (Below wx.heap.size wx w3) := by obtain ⟨⟨dq, osq⟩, rfl⟩ := hw'; exact below_regrown wx dq osq
            clear hw' y0' x0' x1' x2' y0x x0 x1 x2 hl3 hl3'
            go_wp2
            go_roundw
            case rel => exact ⟨k + 1, by omega, by go_num, by rw [HT.out], Lib.hid (bel_step HWX.out HB3.out)⟩
            case measure => simp [intOf]; omega
          · have HT := Lib.hid (HOLD.out (by omega))
            have hlt3 : decide (er < el) = false := by simpa using hlt2
            clear HNEW' HOLD
            refine wp_region_quiet_below (by kernel_rfl) (by kernel_rfl) ?_
            repeat (go_big_quiet_step ((go_at_call 25; exact Calls.regrown_of ((l02Used_any _ _ _ ps _ _ _ (by omega) ((HPGX.out.below (below_regrown _ _ _)).mono (below_regrown _ _ _).size)).mono (fun e w' h => by rw [HU0.out] at h; exact h)))))
            refine wpQuiet_nil ?_
            intro w3 hw'
            have HB3 : Hid (Below wx.heap.size wx w3) := by obtain ⟨⟨dq, osq⟩, rfl⟩ := hw'; exact below_regrown wx dq osq
            clear hw' y0' x0' x1' x2' y0x x0 x1 x2 hl3 hl3'
            go_wp2
            go_roundw
            case rel => exact ⟨k + 1, by omega, by go_num, by rw [HT.out], Lib.hid (bel_step HWX.out HB3.out)⟩
            case measure => simp [intOf]; omega
    · obtain rfl : k = n := by omega
      clear HRG
      go_wp2
      go_ret
      exact ⟨ret_i (by rw [HL.out]), HBR.out⟩

set_option maxHeartbeats 1000000 in
theorem spec_coldest (A : Option Addr) (n ca : Nat) (X : List Bk) (w : World) (hX : Small X) (hA : RdBk w w.heap.size A n X) :
    Calls Try.prog 6 #[.agg #[.slice A n ca]] w fun e w' => e = .returned (.int .i64 (coldAns X)) ∧ Below w.heap.size w w' := by
  have HA := Lib.hid hA; have HX := Lib.hid hX; clear hA hX
  go_enter Try.func6, Try.ntmps6
  go_wp2_with fail
  refine (spec_nandRight A n ca X _ HX.out (rd_step HA.out (box_below w (.cells #[.slice A n ca] 29)))).mono ?_
  rintro e w2 ⟨rfl, hb2⟩
  have HB2 := Lib.hid (bel_step (box_below w (.cells #[.slice A n ca] 29)) hb2)
  have k2 := (isBlk_new w 29 [.slice A n ca]).below hb2 (by show w.heap.size < (w.alloc _).heap.size; simp)
  have hx2 : w2.cell? ⟨w.heap.size, 0, none⟩ = some (.slice A n ca) := k2.cell rfl
  clear hb2 k2
  by_cases hok : NdOk X
  · rw [ndB_yes hok]
    have HC := Lib.hid (coldAns_yes hok); have HOK := Lib.hid hok
    clear hok
    go_wp2_with fail
    refine (l11Cold_any A n ca X w2 HOK.out (rd_step HA.out HB2.out)).mono ?_
    rintro e w3 ⟨rfl, hb3⟩
    have HB3 := Lib.hid (bel_step HB2.out hb3)
    clear hb3
    go_wp2
    go_ret
    exact ⟨ret_i HC.out.symm, HB3.out⟩
  · rw [ndB_no hok]
    have HC := Lib.hid (coldAns_no hok)
    clear hok
    go_wp2
    go_ret
    exact ⟨ret_i HC.out.symm, HB2.out⟩
end Go.Proofs.Ytfpibbhcecdbgaa
