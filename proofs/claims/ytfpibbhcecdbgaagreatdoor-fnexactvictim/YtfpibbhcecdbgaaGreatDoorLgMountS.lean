/-
  Mount, of the document's model.
-/
import Derived.Test.YtfpibbhcecdbgaaGreatDoorProg
import Derived.KernelRfl
import Derived.Test.YtfpibbhcecdbgaaGreatDoorLgPut
import Derived.Test.YtfpibbhcecdbgaaGreatDoorLgMountA
import Derived.Test.YtfpibbhcecdbgaaGreatDoorLgRecs
import Derived.Test.YtfpibbhcecdbgaaGreatDoorHsRight
import Derived.Test.YtfpibbhcecdbgaaGreatDoorNdUse
namespace Go.Proofs.YtfpibbhcecdbgaaGreatDoor
open Go.RowKit
open Bt (Rc)

theorem mnt_append (R S : List (Int × Rc)) : mnt (R ++ S) = S.foldl (fun l x => put l x.2) (mnt R) := by simp [mnt, List.foldl_append]
/-- the records of the first blocks and of the first pages of the next, put in order -/
def mtk (X : List Bk) (i : Nat) (ps : List Pg) (k : Nat) : List Rc := mnt (recsTo X i ++ pgsRecs i ps (min k (uPre ps)))
theorem mtk_zero (X : List Bk) (i : Nat) (ps : List Pg) : mtk X i ps 0 = mnt (recsTo X i) := by simp [mtk, pgsRecs]
theorem mtk_end {X : List Bk} {i : Nat} (h : (X.getD i zeroBk).pages.length = 4) : mtk X i (X.getD i zeroBk).pages 4 = mnt (recsTo X (i + 1)) := by
  unfold mtk
  rw [Nat.min_eq_right (by have := uPre_le (X.getD i zeroBk).pages; omega)]
  rfl
theorem mtk_unused {X : List Bk} {i : Nat} {ps : List Pg} {k : Nat} (h : (ps.getD k zeroPg).used = false) : mtk X i ps (k + 1) = mtk X i ps k := by
  have hu : uPre ps ≤ k := by
    rcases Nat.lt_or_ge k (uPre ps) with h' | h'
    · rw [uPre_lt h'] at h; cases h
    · exact h'
  unfold mtk
  rw [Nat.min_eq_right (by omega), Nat.min_eq_right hu]
theorem mtk_used {X : List Bk} {i : Nat} {ps : List Pg} {k : Nat} (hk : k < 4) (hok : PgsOk ps) (h : (ps.getD k zeroPg).used = true) : mtk X i ps (k + 1) = (pgRec i k (ps.getD k zeroPg)).foldl (fun l x => put l x.2) (mtk X i ps k) := by
  have hu : k < uPre ps := by
    rcases Nat.lt_or_ge k (uPre ps) with h' | h'
    · exact h'
    · rw [((hok k hk).1 h').1] at h; cases h
  unfold mtk
  rw [Nat.min_eq_left (by omega), Nat.min_eq_left (by omega), ← mnt_append, pgsRecs, ← List.append_assoc]
theorem mtk_yes {X : List Bk} {i : Nat} {ps : List Pg} {k : Nat} (hk : k < 4) (hok : PgsOk ps) (h : (ps.getD k zeroPg).used = true) (hr : (Bt.recRead (ps.getD k zeroPg).data).2 = 0) : mtk X i ps (k + 1) = put (mtk X i ps k) (Bt.recRead (ps.getD k zeroPg).data).1 := by
  rw [mtk_used hk hok h, pgRec_yes hr]; rfl
theorem mtk_no {X : List Bk} {i : Nat} {ps : List Pg} {k : Nat} (hk : k < 4) (hok : PgsOk ps) (h : (ps.getD k zeroPg).used = true) (hr : (Bt.recRead (ps.getD k zeroPg).data).2 ≠ 0) : mtk X i ps (k + 1) = mtk X i ps k := by
  rw [mtk_used hk hok h, pgRec_no hr]; rfl
theorem mtk_len {X : List Bk} (hok : NdOk X) {i : Nat} (hi : i < X.length) {ps : List Pg} (hp : ps.length = 4) (k : Nat) : (mtk X i ps k).length ≤ 48 := by
  unfold mtk
  have h1 := mnt_len (recsTo X i ++ pgsRecs i ps (min k (uPre ps)))
  rw [List.length_append] at h1
  have h2 := recsTo_len hok i (by omega)
  have h3 := pgsRecs_len i ps (min k (uPre ps))
  have h4 := uPre_le ps
  have h5 := hok.1.2
  omega
theorem own_sl {w : World} {base n k : Nat} {e : TypeId} {v : Value} {xs : List Value} (h : w.ownsRow base e k v n xs) : ∃ A c, v = .slice A n c := by
  rcases h.2 with ⟨rfl, rfl⟩ | ⟨g, cap, cur, rfl, -⟩
  · exact ⟨none, 0, rfl⟩
  · exact ⟨_, cap, rfl⟩
theorem l05Put_any (base : Nat) (v : Value) (Y : List Rc) (r : Rc) (w : World) (hb : base ≤ w.heap.size) (hY : Y.length ≤ 48) (hrow : w.ownsRow base 68 6 v Y.length (rcA Y)) :
    Calls Tryz.prog 145 #[v, recV r] w fun e w' => ∃ v', e = .returned v' ∧ w'.ownsRow base 68 6 v' (put Y r).length (rcA (put Y r)) ∧ Below w.heap.size w w' := by
  rcases hrow.2 with ⟨hv, hn⟩ | ⟨g, cap, cur, hv, -⟩
  · have hY0 : Y = [] := List.length_eq_zero_iff.1 hn
    subst hv hY0
    exact l05Put_nil base r w hb
  · subst hv
    exact l05Put_some base g cap Y r w hb hY hrow

set_option maxHeartbeats 4000000 in
set_option maxRecDepth 100000 in
theorem l05Mount_any (A : Option Addr) (n ca : Nat) (X : List Bk) (w : World) (hok : NdOk X) (hA : RdBk w w.heap.size A n X) :
    Calls Tryz.prog 72 #[.agg #[.slice A n ca]] w (RetHO w (mntList X) (mntCode X)) := by
  have hNL : n = X.length := hA.1.symm
  have hn : n ≤ 12 := by rw [hNL]; exact hok.1.2
  have HNL := Lib.hid hNL
  have HSMR := Lib.hid (mnt_smallR hok)
  have HN1 := Lib.hid (fun h => mnt_bad (X := X) hok h); have HN2 := Lib.hid (fun h => mnt_ok (X := X) hok h)
  have HA := Lib.hid hA; have HOK := Lib.hid hok; clear hA hok hNL
  go_enter Tryz.func72, Tryz.ntmps72
  go_wp2
  have hb0 : Below w.heap.size w (((w.alloc (.cells #[.slice A n ca] 28)).alloc (.cells #[.slice none 0 0, .int .i64 0] 62)).alloc (.cells #[.slice none 0 0] 60)) := (((Below.refl _ _).alloc (Nat.le_refl _) _).alloc (by simp) _).alloc (by simp; omega) _
  have k0 := ((isBlk_new w 28 [.slice A n ca]).alloc (.cells #[.slice none 0 0, .int .i64 0] 62)).alloc (.cells #[.slice none 0 0] 60)
  have k1 := (isBlk_new (w.alloc (.cells #[.slice A n ca] 28)) 62 [.slice none 0 0, .int .i64 0]).alloc (.cells #[.slice none 0 0] 60)
  have k2 := isBlk_new ((w.alloc (.cells #[.slice A n ca] 28)).alloc (.cells #[.slice none 0 0, .int .i64 0] 62)) 60 [.slice none 0 0]
  simp only [size_alloc] at k1 k2
  change IsBlk (((w.alloc (.cells #[.slice A n ca] 28)).alloc (.cells #[.slice none 0 0, .int .i64 0] 62)).alloc (.cells #[.slice none 0 0] 60)) _ _ _ at k0 k1 k2
  have hs0 : (((w.alloc (.cells #[.slice A n ca] 28)).alloc (.cells #[.slice none 0 0, .int .i64 0] 62)).alloc (.cells #[.slice none 0 0] 60)).heap.size = w.heap.size + 3 := by simp
  generalize ((w.alloc (.cells #[.slice A n ca] 28)).alloc (.cells #[.slice none 0 0, .int .i64 0] 62)).alloc (.cells #[.slice none 0 0] 60) = W at hb0 k0 k1 k2 hs0 ⊢
  have HB0 := Lib.hid hb0; have HK0 := Lib.hid k0; have HK1 := Lib.hid k1; have HK2 := Lib.hid k2
  clear hb0 k0 k1 k2
  go_loopw [4] (fun iv wr => ∃ (i : Nat) (v : Value), i ≤ n ∧ iv = .int .i64 (i : Nat) ∧ IsBlk wr (w.heap.size + 1 + 1) 60 [v] ∧ wr.ownsRow (w.heap.size + 3) 68 6 v (mnt (recsTo X i)).length (rcA (mnt (recsTo X i))) ∧ Below (w.heap.size + 2) W wr ∧ w.heap.size + 3 ≤ wr.heap.size) (fun iv _ => n - (intOf iv).toNat)
  case atStart => exact ⟨0, _, by omega, rfl, HK2.out, ⟨rfl, .inl ⟨rfl, rfl⟩⟩, Below.refl _ _, by omega⟩
  case round =>
    obtain ⟨i, v, hi, rfl, hbox, hown, hbel, hzr⟩ := hrel
    have HOW := Lib.hid hown; have HW := Lib.hid hbel; have HBX := Lib.hid hbox
    have hx : wr.cell? ⟨w.heap.size, 0, none⟩ = some (.slice A n ca) := (HK0.out.below hbel (by omega)).cell rfl
    clear hown hbox
    by_cases hlt : i < n
    · have hil : i < X.length := by rw [← HNL.out]; exact hlt
      have HBO := Lib.hid (HOK.out.2 i hil)
      have HEND := Lib.hid (mtk_end (X := X) (i := i) HBO.out.1)
      have HPO : Hid (PgsOk (X.getD i zeroBk).pages) := (pgsOk_iff HBO.out.1).2 HBO.out.2.2
      have HPL : Hid (∀ k, (mtk X i (X.getD i zeroBk).pages k).length ≤ 48) := fun k => mtk_len HOK.out hil HBO.out.1 k
      have HOW0 : Hid (wr.ownsRow (w.heap.size + 3) 68 6 v (mtk X i (X.getD i zeroBk).pages 0).length (rcA (mtk X i (X.getD i zeroBk).pages 0))) := by show World.ownsRow _ _ _ _ _ _ _; rw [mtk_zero]; exact HOW.out
      clear hbel
      go_wp2
      clear hx
      go_loopw [5] (fun jv wq => ∃ (j : Nat) (v : Value), j ≤ 4 ∧ jv = .int .i64 (j : Nat) ∧ IsBlk wq (w.heap.size + 1 + 1) 60 [v] ∧ wq.ownsRow (w.heap.size + 3) 68 6 v (mtk X i (X.getD i zeroBk).pages j).length (rcA (mtk X i (X.getD i zeroBk).pages j)) ∧ Below (w.heap.size + 2) W wq ∧ w.heap.size + 3 ≤ wq.heap.size) (fun jv _ => 4 - (intOf jv).toNat)
      case atStart => exact ⟨0, v, by omega, rfl, HBX.out, HOW0.out, HW.out, hzr⟩
      case round =>
        clear HOW0 HOW HW HBX hzr v
        obtain ⟨j, v, hj, rfl, hbox, hown, hbel, hzq⟩ := hrel
        have HOWq := Lib.hid hown; have HWq := Lib.hid hbel; have HBXq := Lib.hid hbox
        have hx : wr.cell? ⟨w.heap.size, 0, none⟩ = some (.slice A n ca) := (HK0.out.below hbel (by omega)).cell rfl
        obtain ⟨g, off, pA, pc, rfl, hg, hc0, -, -, hpg⟩ := (HA.out.below (HB0.out.trans (hbel.mono (by omega)))).at hlt
        rw [HBO.out.1] at hc0 hpg
        clear hown hbox
        by_cases hj4 : j < 4
        · obtain ⟨g2, off2, rfl, hg2, d0, d1⟩ := hpg.at hj4
          have HSM := Lib.hid ((HPO.out j hj4).2)
          have HUN := Lib.hid (fun h => mtk_unused (X := X) (i := i) (ps := (X.getD i zeroBk).pages) (k := j) h)
          have HYE := Lib.hid (fun h h1 => mtk_yes (X := X) (i := i) hj4 HPO.out h h1)
          have HNO := Lib.hid (fun h h1 => mtk_no (X := X) (i := i) hj4 HPO.out h h1)
          have HTl := Lib.hid (HPL.out j)
          clear hbel hpg
          generalize (X.getD i zeroBk).pages.getD j zeroPg = pg at *
          generalize mtk X i (X.getD i zeroBk).pages j = T at *
          obtain ⟨us, sd⟩ := pg
          simp only at d0 d1 HSM HUN HYE HNO
          go_wp2_with fail
          have hb5 := box_below wr (.cells #[.bool us, .string sd] 184)
          have k5 := isBlk_new wr 184 [.bool us, .string sd]
          change Calls _ _ _ (wr.alloc (.cells #[.bool us, .string sd] 184)) _
          change IsBlk (wr.alloc (.cells #[.bool us, .string sd] 184)) _ _ _ at k5
          generalize wr.alloc (.cells #[.bool us, .string sd] 184) = w5 at hb5 k5 ⊢
          refine (spec_recRead_any sd w5 (by have := HSM.out; unfold maxLen; omega)).mono ?_
          rintro e w6 ⟨rfl, hb6⟩
          generalize Bt.recRead sd = RR at *
          obtain ⟨⟨rk, rs, rq, rt, ro, rd⟩, c⟩ := RR
          simp only at HYE HNO
          have hb7 : Below wr.heap.size wr (w6.alloc (.cells #[.int .i64 rk, .int .i64 rs, .int .i64 rq, .int .i64 rt, .int .i64 ro, .string rd, .int .i64 c] 83)) := (hb5.trans (hb6.mono hb5.size)).alloc (Nat.le_trans hb5.size hb6.size) _
          have k7 := (k5.below hb6 k5.lt).alloc (.cells #[.int .i64 rk, .int .i64 rs, .int .i64 rq, .int .i64 rt, .int .i64 ro, .string rd, .int .i64 c] 83)
          have kx := isBlk_new w6 83 [.int .i64 rk, .int .i64 rs, .int .i64 rq, .int .i64 rt, .int .i64 ro, .string rd, .int .i64 c]
          have hz6 : wr.heap.size < w6.heap.size := Nat.lt_of_lt_of_le k5.lt hb6.size
          change IsBlk (w6.alloc (.cells #[.int .i64 rk, .int .i64 rs, .int .i64 rq, .int .i64 rt, .int .i64 ro, .string rd, .int .i64 c] 83)) _ _ _ at k7 kx
          clear hb5 k5 hb6 hx hc0 d0 d1
          have hu6 : (w6.alloc (.cells #[.int .i64 rk, .int .i64 rs, .int .i64 rq, .int .i64 rt, .int .i64 ro, .string rd, .int .i64 c] 83)).cell? ⟨wr.heap.size, 0, none⟩ = some (.bool us) := k7.cell rfl
          have HOW7 := Lib.hid (own_belowR HOWq.out hb7)
          have HW7 := Lib.hid (HWq.out.trans (hb7.mono (by omega)))
          have HBX7 := Lib.hid (HBXq.out.below hb7 HBXq.out.lt)
          have hz7 : w.heap.size + 3 ≤ (w6.alloc (.cells #[.int .i64 rk, .int .i64 rs, .int .i64 rq, .int .i64 rt, .int .i64 ro, .string rd, .int .i64 c] 83)).heap.size := Nat.le_trans hzq hb7.size
          cases us with
          | false =>
            have HT := Lib.hid (HUN.out rfl)
            clear HUN HYE HNO
            go_wp2
            go_roundw
            case rel => exact ⟨j + 1, v, by omega, by go_num, HBX7.out, by rw [HT.out]; exact HOW7.out, HW7.out, hz7⟩
            case measure => simp [intOf]; omega
          | true =>
            have hc6 : (w6.alloc (.cells #[.int .i64 rk, .int .i64 rs, .int .i64 rq, .int .i64 rt, .int .i64 ro, .string rd, .int .i64 c] 83)).cell? ⟨w6.heap.size, 6, none⟩ = some (.int .i64 c) := kx.cell rfl
            by_cases h0c : c = 0
            case neg =>
              have hc' : (c == 0) = false := by simpa using h0c
              have HT := Lib.hid (HNO.out rfl h0c)
              clear HUN HYE HNO h0c
              go_wp2
              go_roundw
              case rel => exact ⟨j + 1, v, by omega, by go_num, HBX7.out, by rw [HT.out]; exact HOW7.out, HW7.out, hz7⟩
              case measure => simp [intOf]; omega
            subst h0c
            have HT := Lib.hid (HYE.out rfl rfl)
            have hbx : (w6.alloc (.cells #[.int .i64 rk, .int .i64 rs, .int .i64 rq, .int .i64 rt, .int .i64 ro, .string rd, .int .i64 0] 83)).cell? ⟨w.heap.size + 1 + 1, 0, none⟩ = some v := HBX7.out.cell rfl
            clear HUN HYE HNO
            have c0 : (w6.alloc (.cells #[.int .i64 rk, .int .i64 rs, .int .i64 rq, .int .i64 rt, .int .i64 ro, .string rd, .int .i64 0] 83)).cell? ⟨w6.heap.size, 0, none⟩ = some (.int .i64 rk) := kx.cell rfl
            have c1 : (w6.alloc (.cells #[.int .i64 rk, .int .i64 rs, .int .i64 rq, .int .i64 rt, .int .i64 ro, .string rd, .int .i64 0] 83)).cell? ⟨w6.heap.size, 1, none⟩ = some (.int .i64 rs) := kx.cell rfl
            have c2 : (w6.alloc (.cells #[.int .i64 rk, .int .i64 rs, .int .i64 rq, .int .i64 rt, .int .i64 ro, .string rd, .int .i64 0] 83)).cell? ⟨w6.heap.size, 2, none⟩ = some (.int .i64 rq) := kx.cell rfl
            have c3 : (w6.alloc (.cells #[.int .i64 rk, .int .i64 rs, .int .i64 rq, .int .i64 rt, .int .i64 ro, .string rd, .int .i64 0] 83)).cell? ⟨w6.heap.size, 3, none⟩ = some (.int .i64 rt) := kx.cell rfl
            have c4 : (w6.alloc (.cells #[.int .i64 rk, .int .i64 rs, .int .i64 rq, .int .i64 rt, .int .i64 ro, .string rd, .int .i64 0] 83)).cell? ⟨w6.heap.size, 4, none⟩ = some (.int .i64 ro) := kx.cell rfl
            have c5 : (w6.alloc (.cells #[.int .i64 rk, .int .i64 rs, .int .i64 rq, .int .i64 rt, .int .i64 ro, .string rd, .int .i64 0] 83)).cell? ⟨w6.heap.size, 5, none⟩ = some (.string rd) := kx.cell rfl
            clear hb7 k7 kx
            go_wp2_with fail
            change Calls _ _ _ (w6.alloc (.cells #[.int .i64 rk, .int .i64 rs, .int .i64 rq, .int .i64 rt, .int .i64 ro, .string rd, .int .i64 0] 83)) _
            generalize w6.alloc (.cells #[.int .i64 rk, .int .i64 rs, .int .i64 rq, .int .i64 rt, .int .i64 ro, .string rd, .int .i64 0] 83) = w7 at HOW7 HW7 HBX7 hz7 ⊢
            clear c0 c1 c2 c3 c4 c5 hc6 hbx hu6
            refine (l05Put_any (w.heap.size + 3) v T ⟨rk, rs, rq, rt, ro, rd⟩ w7 hz7 HTl.out HOW7.out).mono ?_
            rintro e w8 ⟨v8, rfl, ho8, hb8⟩
            obtain ⟨A8, c8, rfl⟩ := own_sl ho8
            have HO8 := Lib.hid ho8; have HB8 := Lib.hid hb8
            have HBX8 := Lib.hid (HBX7.out.below hb8 HBX7.out.lt)
            have h78 := hb8.size
            have fx8 : w8.frozen? ⟨w.heap.size + 1 + 1, 0, none⟩ = false := HBX8.out.free
            have hx8 : w8.cell? ⟨w.heap.size + 1 + 1, 0, none⟩ = some v := HBX8.out.cell rfl
            clear ho8 hb8
            go_wp2
            go_roundw
            case rel => exact ⟨j + 1, _, by omega, by go_num, HBX8.out.set (j := 0) _, by rw [HT.out]; exact own_otherR HO8.out (by dsimp only; omega) _, (HW7.out.trans (HB8.out.mono (by omega))).setCell (by dsimp only; omega) _, by simp [World.setCell]; omega⟩
            case measure => simp [intOf]; omega
        · obtain rfl : j = 4 := by omega
          clear hbel hpg
          go_wp2
          go_roundw
          case rel => exact ⟨i + 1, v, by omega, by go_num, HBXq.out, by rw [← HEND.out]; exact HOWq.out, HWq.out, hzq⟩
          case measure => simp [intOf]; omega
    · obtain rfl : i = n := by omega
      clear hbel
      rw [HNL.out] at HOW
      obtain ⟨Av, cv, rfl⟩ := own_sl HOW.out
      have hbx : wr.cell? ⟨w.heap.size + 1 + 1, 0, none⟩ = some (.slice Av (mnt (recsTo X X.length)).length cv) := HBX.out.cell rfl
      have HO := Lib.hid (ow_of_own HOW.out)
      generalize mnt (recsTo X X.length) = Y at *
      go_wp2_with fail
      refine (spec_histRight_any Av Y.length cv Y wr HSMR.out (HO.out.rd (Nat.le_refl _))).mono ?_
      rintro e w9 ⟨rfl, hb9⟩
      have HB9 := Lib.hid (HB0.out.trans ((HW.out.trans (hb9.mono (by omega))).mono (by omega)))
      have k1 := HK1.out.below (HW.out.trans (hb9.mono (by omega))) (by omega)
      obtain ⟨d0, d1, fd0, fd1⟩ := blk2 k1
      have hbx9 : w9.cell? ⟨w.heap.size + 1 + 1, 0, none⟩ = some (.slice Av Y.length cv) := (HBX.out.below hb9 HBX.out.lt).cell rfl
      have HO9 := Lib.hid (HO.out.below hb9 (Nat.le_refl _))
      have h9 := hb9.size
      clear hbx hb9 k1
      cases hr : hRight Y with
      | false =>
        have HC := Lib.hid (HN1.out hr)
        go_wp2
        refine bodyPost_ret (v := .agg #[.slice none 0 0, .int .i64 10]) (by simp [results, Tryz.results72, go_sem, d0, d1]) rfl ?_
        rw [HC.out.1, HC.out.2]
        exact ⟨none, 0, rfl, ow_nilR _ _ _ _, (HB9.out.setCell (by dsimp only; omega) _).setCell (by dsimp only; omega) _⟩
      | true =>
        have HC := Lib.hid (HN2.out hr)
        go_wp2
        refine bodyPost_ret (v := .agg #[.slice Av Y.length cv, .int .i64 0]) (by simp [results, Tryz.results72, go_sem, d0, d1]) rfl ?_
        rw [HC.out.1, HC.out.2]
        refine ⟨Av, cv, rfl, ?_, (HB9.out.setCell (by dsimp only; omega) _).setCell (by dsimp only; omega) _⟩
        refine (HO9.out.same fun k hk _ => (Below.heap_setCell _ _ _ _ (by dsimp only; omega)).trans (Below.heap_setCell _ _ _ _ (by dsimp only; omega))).mono (by omega) ?_
        simp [World.setCell]; omega

set_option maxHeartbeats 1000000 in
set_option maxRecDepth 100000 in
theorem spec_mount (A : Option Addr) (n ca : Nat) (X : List Bk) (w : World) (hX : Small X) (hA : RdBk w w.heap.size A n X) :
    Calls Tryz.prog 35 #[.agg #[.slice A n ca]] w (RetHO w (mntList X) (mntCode X)) := by
  have HA := Lib.hid hA; have HX := Lib.hid hX; clear hA hX
  go_enter Tryz.func35, Tryz.ntmps35
  go_wp2_with fail
  have hb0 : Below w.heap.size w ((w.alloc (.cells #[.slice A n ca] 28)).alloc (.cells #[.slice none 0 0, .int .i64 0] 62)) := ((Below.refl _ _).alloc (Nat.le_refl _) _).alloc (by simp) _
  have k0 := (isBlk_new w 28 [.slice A n ca]).alloc (.cells #[.slice none 0 0, .int .i64 0] 62)
  have k1 := isBlk_new (w.alloc (.cells #[.slice A n ca] 28)) 62 [.slice none 0 0, .int .i64 0]
  change IsBlk ((w.alloc (.cells #[.slice A n ca] 28)).alloc (.cells #[.slice none 0 0, .int .i64 0] 62)) _ _ _ at k0 k1
  rw [size_alloc] at k1
  generalize (w.alloc (.cells #[.slice A n ca] 28)).alloc (.cells #[.slice none 0 0, .int .i64 0] 62) = W at hb0 k0 k1 ⊢
  refine (spec_nandRight A n ca X W HX.out (rd_step HA.out hb0)).mono ?_
  rintro e w2 ⟨rfl, hb2⟩
  have HB2 := Lib.hid (bel_step hb0 hb2)
  have HR2 := Lib.hid (k1.below hb2 k1.lt)
  have y0 : w2.cell? ⟨w.heap.size, 0, none⟩ = some (.slice A n ca) := (k0.below hb2 k0.lt).cell rfl
  have h2s : w.heap.size + 1 < w2.heap.size := HR2.out.lt
  clear hb0 k0 k1 hb2
  by_cases hok : NdOk X
  · rw [ndB_yes hok]
    have HOK := Lib.hid hok
    clear hok
    go_wp2_with fail
    refine (l05Mount_any A n ca X w2 HOK.out (rd_step HA.out HB2.out)).mono ?_
    rintro e w3 ⟨Av, cv, rfl, ho3, hb3⟩
    have HB3 := Lib.hid (bel_step HB2.out hb3)
    have HO3 := Lib.hid ho3
    have h23 := hb3.size
    obtain ⟨d0, d1, fd0, fd1⟩ := blk2 (HR2.out.below hb3 HR2.out.lt)
    clear hb3 ho3
    go_wp2
    refine bodyPost_ret (v := .agg #[.slice Av (mntList X).length cv, .int .i64 (mntCode X)]) (by simp [results, Tryz.results35, go_sem, d0, d1]) rfl ?_
    refine ⟨Av, cv, rfl, ?_, (HB3.out.setCell (by dsimp only; omega) _).setCell (by dsimp only; omega) _⟩
    refine (HO3.out.same fun k hk _ => (Below.heap_setCell _ _ _ _ (by dsimp only; omega)).trans (Below.heap_setCell _ _ _ _ (by dsimp only; omega))).mono (by omega) ?_
    simp [World.setCell]
  · rw [ndB_no hok]
    have HC := Lib.hid (mnt_no hok)
    obtain ⟨d0, d1, fd0, fd1⟩ := blk2 HR2.out
    go_wp2
    refine bodyPost_ret (v := .agg #[.slice none 0 0, .int .i64 1]) (by simp [results, Tryz.results35, go_sem, d0, d1]) rfl ?_
    rw [HC.out.1, HC.out.2]
    exact ⟨none, 0, rfl, ow_nilR _ _ _ _, (HB2.out.setCell (by dsimp only; omega) _).setCell (by dsimp only; omega) _⟩
end Go.Proofs.YtfpibbhcecdbgaaGreatDoor
