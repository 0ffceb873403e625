/-
  Places, of the document's model.
-/
import Derived.Test.YtimlaeicbnnbdaaDoorChecked
import Derived.Test.YtimlaeicbnnbdaaDoorLgPlaces
import Derived.Test.YtimlaeicbnnbdaaDoorHsOne
namespace Go.Proofs.YtimlaeicbnnbdaaDoor
open Go.RowKit
open Bt (Rc)

theorem num_oneP : OneInfo Tryd.prog 26 2 (.int .i64 0) 8 := ⟨Tryd.underlying26, info_i64, rfl⟩
theorem plc_append (R S : List (Int × Rc)) (q : Int) : plc (R ++ S) q = plc R q ++ plc S q := by simp [plc]
/-- the places of a Seq on the first blocks and the first pages of the next -/
def plk (X : List Bk) (i : Nat) (ps : List Pg) (q : Int) (k : Nat) : List Int := plc (recsTo X i ++ pgsRecs i ps (min k (uPre ps))) q
theorem plk_zero (X : List Bk) (i : Nat) (ps : List Pg) (q : Int) : plk X i ps q 0 = plc (recsTo X i) q := by simp [plk, pgsRecs]
theorem plk_end {X : List Bk} {i : Nat} {q : Int} (h : (X.getD i zeroBk).pages.length = 4) : plk X i (X.getD i zeroBk).pages q 4 = plc (recsTo X (i + 1)) q := by
  unfold plk
  rw [Nat.min_eq_right (by have := uPre_le (X.getD i zeroBk).pages; omega)]
  rfl
theorem plk_unused {X : List Bk} {i : Nat} {ps : List Pg} {q : Int} {k : Nat} (h : (ps.getD k zeroPg).used = false) : plk X i ps q (k + 1) = plk X i ps q k := by
  have hu : uPre ps ≤ k := by
    rcases Nat.lt_or_ge k (uPre ps) with h' | h'
    · rw [uPre_lt h'] at h; cases h
    · exact h'
  unfold plk
  rw [Nat.min_eq_right (by omega), Nat.min_eq_right hu]
theorem plk_used {X : List Bk} {i : Nat} {ps : List Pg} {q : Int} {k : Nat} (hk : k < 4) (hok : PgsOk ps) (h : (ps.getD k zeroPg).used = true) : plk X i ps q (k + 1) = plk X i ps q k ++ plc (pgRec i k (ps.getD k zeroPg)) q := by
  have hu : k < uPre ps := by
    rcases Nat.lt_or_ge k (uPre ps) with h' | h'
    · exact h'
    · rw [((hok k hk).1 h').1] at h; cases h
  unfold plk
  rw [Nat.min_eq_left (by omega), Nat.min_eq_left (by omega), pgsRecs, ← List.append_assoc, plc_append]
theorem plc_pgRec_yes {i k : Nat} {p : Pg} {q : Int} (h : (Bt.recRead p.data).2 = 0) (hq : (Bt.recRead p.data).1.q = q) : plc (pgRec i k p) q = [4 * (i : Int) + (k : Int)] := by
  rw [pgRec_yes h]; simp [plc, hq]
theorem plc_pgRec_no {i k : Nat} {p : Pg} {q : Int} (h : ¬ ((Bt.recRead p.data).2 = 0 ∧ (Bt.recRead p.data).1.q = q)) : plc (pgRec i k p) q = [] := by
  by_cases h0 : (Bt.recRead p.data).2 = 0
  · rw [pgRec_yes h0]; simp [plc]; exact fun hq => h ⟨h0, hq⟩
  · rw [pgRec_no h0]; rfl
theorem plk_len {X : List Bk} (hok : NdOk X) {i : Nat} (hi : i ≤ X.length) {ps : List Pg} (hp : ps.length = 4) (q : Int) (k : Nat) : (plk X i ps q k).length ≤ 52 := by
  unfold plk
  have h1 := plc_len (recsTo X i ++ pgsRecs i ps (min k (uPre ps))) q
  rw [List.length_append] at h1
  have h2 := recsTo_len hok i hi
  have h3 := pgsRecs_len i ps (min k (uPre ps))
  have h4 := uPre_le ps
  have h5 := hok.1.2
  omega
theorem placesAns_len (X : List Bk) (q : Int) : (placesAns X q).length ≤ 1048576 := by
  by_cases h : NdOk X
  · rw [placesAns_yes h]
    have h1 := plc_len (recsTo X X.length) q
    have h2 := recsTo_len h X.length (Nat.le_refl _)
    have h3 := h.1.2
    omega
  · rw [placesAns_no h]; simp

set_option maxHeartbeats 4000000 in
set_option maxRecDepth 100000 in
theorem l05Places_any (A : Option Addr) (n ca : Nat) (X : List Bk) (q : Int) (w : World) (hok : NdOk X) (hA : RdBk w w.heap.size A n X) :
    Calls Tryd.prog 26 #[.agg #[.slice A n ca], .int .i64 q] w (RetNs w (plc (recsTo X n) q)) := by
  have hNL : n = X.length := hA.1.symm
  have hn : n ≤ 12 := by rw [hNL]; exact hok.1.2
  have HNL := Lib.hid hNL
  have HA := Lib.hid hA; have HOK := Lib.hid hok; clear hA hok hNL
  go_enter Tryd.func26, Tryd.ntmps26
  go_wp2
  have hb0 : Below w.heap.size w ((w.alloc (.cells #[.slice A n ca] 30)).alloc (.cells #[] 2)) := ((Below.refl _ _).alloc (Nat.le_refl _) _).alloc (by simp) _
  have k0 := (isBlk_new w 30 [.slice A n ca]).alloc (.cells #[] 2)
  have k1 := isBlk_new (w.alloc (.cells #[.slice A n ca] 30)) 2 []
  rw [size_alloc] at k1
  change IsBlk ((w.alloc (.cells #[.slice A n ca] 30)).alloc (.cells #[] 2)) _ _ _ at k0
  change IsBlk ((w.alloc (.cells #[.slice A n ca] 30)).alloc (.cells #[] 2)) _ _ _ at k1
  generalize (w.alloc (.cells #[.slice A n ca] 30)).alloc (.cells #[] 2) = W at hb0 k0 k1 ⊢
  have HB0 := Lib.hid hb0; have HK0 := Lib.hid k0; have HK1 := Lib.hid k1
  have hz1 : w.heap.size + 1 < W.heap.size := k1.lt
  clear hb0 k0 k1
  go_loopw [5, 6] (fun out iv wr => ∃ (i : Nat) (v : Value), i ≤ n ∧ iv = .int .i64 (i : Nat) ∧ v = out ∧ wr.ownsRow (w.heap.size + 1) 2 1 v (plc (recsTo X i) q).length ((plc (recsTo X i) q).map numV) ∧ Below (w.heap.size + 1) W wr) (fun _ iv _ => n - (intOf iv).toNat)
  case atStart => exact ⟨0, _, by omega, rfl, rfl, ⟨rfl, .inr ⟨w.heap.size + 1, 0, #[], rfl, Nat.le_refl _, HK1.out, Nat.le_refl _, by simp [maxLen], rfl, rfl⟩⟩, Below.refl _ _⟩
  case round =>
    obtain ⟨i, v, hi, rfl, rfl, hown, hbel⟩ := hrel
    have HOW := Lib.hid hown; have HW := Lib.hid hbel
    have hzr : w.heap.size + 1 < wr.heap.size := Nat.lt_of_lt_of_le hz1 hbel.size
    have hx : wr.cell? ⟨w.heap.size, 0, none⟩ = some (.slice A n ca) := (HK0.out.below hbel (by omega)).cell rfl
    obtain ⟨Av, cv, rfl⟩ := own_slice HOW.out
    clear hown
    by_cases hlt : i < n
    · have hil : i < X.length := by rw [← HNL.out]; exact hlt
      have HBO := Lib.hid (HOK.out.2 i hil)
      have HEND := Lib.hid (plk_end (X := X) (i := i) (q := q) HBO.out.1)
      have HPO : Hid (PgsOk (X.getD i zeroBk).pages) := (pgsOk_iff HBO.out.1).2 HBO.out.2.2
      have HPL : Hid (∀ k, (plk X i (X.getD i zeroBk).pages q k).length ≤ 52) := fun k => plk_len HOK.out (by omega) HBO.out.1 q k
      have HOW0 : Hid (wr.ownsRow (w.heap.size + 1) 2 1 (.slice Av (plc (recsTo X i) q).length cv) (plk X i (X.getD i zeroBk).pages q 0).length ((plk X i (X.getD i zeroBk).pages q 0).map numV)) := by show World.ownsRow _ _ _ _ _ _ _; rw [plk_zero]; exact HOW.out
      clear hbel
      go_wp2
      clear hx
      go_loopw [5, 7] (fun out jv wq => ∃ (j : Nat) (v : Value), j ≤ 4 ∧ jv = .int .i64 (j : Nat) ∧ v = out ∧ wq.ownsRow (w.heap.size + 1) 2 1 v (plk X i (X.getD i zeroBk).pages q j).length ((plk X i (X.getD i zeroBk).pages q j).map numV) ∧ Below (w.heap.size + 1) W wq) (fun _ jv _ => 4 - (intOf jv).toNat)
      case atStart => exact ⟨0, _, by omega, rfl, rfl, HOW0.out, HW.out⟩
      case round =>
        clear HOW0 HOW HW hzr
        obtain ⟨j, v, hj, rfl, rfl, hown, hbel⟩ := hrel
        have HOWq := Lib.hid hown; have HWq := Lib.hid hbel
        have hzq : w.heap.size + 1 < wr.heap.size := Nat.lt_of_lt_of_le hz1 hbel.size
        have hx : wr.cell? ⟨w.heap.size, 0, none⟩ = some (.slice A n ca) := (HK0.out.below hbel (by omega)).cell rfl
        obtain ⟨g, off, pA, pc, rfl, hg, hc0, -, -, hpg⟩ := (HA.out.below (HB0.out.trans (hbel.mono (by omega)))).at hlt
        rw [HBO.out.1] at hc0 hpg
        obtain ⟨Aq, cq, rfl⟩ := own_slice HOWq.out
        clear hown
        by_cases hj4 : j < 4
        · obtain ⟨g2, off2, rfl, hg2, d0, d1⟩ := hpg.at hj4
          have HSM := Lib.hid ((HPO.out j hj4).2)
          have HUN := Lib.hid (fun h => plk_unused (X := X) (i := i) (ps := (X.getD i zeroBk).pages) (q := q) (k := j) h)
          have HYE := Lib.hid (fun h h1 h2 => (plk_used (X := X) (i := i) (q := q) hj4 HPO.out h).trans (congrArg _ (plc_pgRec_yes (i := i) (k := j) (q := q) h1 h2)))
          have HNO := Lib.hid (fun h h1 => (plk_used (X := X) (i := i) (q := q) hj4 HPO.out h).trans ((congrArg _ (plc_pgRec_no (i := i) (k := j) (q := q) h1)).trans (List.append_nil _)))
          have hTl := HPL.out j
          clear hbel hpg
          generalize (X.getD i zeroBk).pages.getD j zeroPg = pg at *
          generalize plk X i (X.getD i zeroBk).pages q j = T at *
          obtain ⟨us, sd⟩ := pg
          simp only at d0 d1 HSM HUN HYE HNO
          go_wp2_with fail
          have hb5 := box_below wr (.cells #[.bool us, .string sd] 75)
          have k5 := isBlk_new wr 75 [.bool us, .string sd]
          change Calls _ _ _ (wr.alloc (.cells #[.bool us, .string sd] 75)) _
          change IsBlk (wr.alloc (.cells #[.bool us, .string sd] 75)) _ _ _ at k5
          generalize wr.alloc (.cells #[.bool us, .string sd] 75) = w5 at hb5 k5 ⊢
          refine (spec_recRead_any sd w5 (by have := HSM.out; unfold maxLen; omega)).mono ?_
          rintro e w6 ⟨rfl, hb6⟩
          generalize Bt.recRead sd = RR at *
          obtain ⟨⟨rk, rs, rq, rt, ro, rd⟩, c⟩ := RR
          simp only at HYE HNO
          have hb7 : Below wr.heap.size wr (w6.alloc (.cells #[.int .i64 rk, .int .i64 rs, .int .i64 rq, .int .i64 rt, .int .i64 ro, .string rd, .int .i64 c] 77)) := (hb5.trans (hb6.mono hb5.size)).alloc (Nat.le_trans hb5.size hb6.size) _
          have k7 := (k5.below hb6 k5.lt).alloc (.cells #[.int .i64 rk, .int .i64 rs, .int .i64 rq, .int .i64 rt, .int .i64 ro, .string rd, .int .i64 c] 77)
          have hu7 : (w6.alloc (.cells #[.int .i64 rk, .int .i64 rs, .int .i64 rq, .int .i64 rt, .int .i64 ro, .string rd, .int .i64 c] 77)).cell? ⟨wr.heap.size, 0, none⟩ = some (.bool us) := k7.cell rfl
          have HOW7 := Lib.hid (own_belowR HOWq.out hb7)
          have HW7 := Lib.hid (HWq.out.trans (hb7.mono (by omega)))
          have hz7 : w.heap.size + 1 ≤ (w6.alloc (.cells #[.int .i64 rk, .int .i64 rs, .int .i64 rq, .int .i64 rt, .int .i64 ro, .string rd, .int .i64 c] 77)).heap.size := by have := hb7.size; omega
          have HZ7 := Lib.hid hz7
          clear hb5 k5 hb6 hb7 k7 hx hc0 d0 d1 hz7
          cases us with
          | false =>
            have HT := Lib.hid (HUN.out rfl)
            clear HUN HYE HNO
            go_wp2
            go_roundw
            case rel => exact ⟨j + 1, _, by omega, by go_num, rfl, by rw [HT.out]; exact HOW7.out, HW7.out⟩
            case measure => simp [intOf]; omega
          | true =>
            by_cases h0c : c = 0
            case neg =>
              have hc' : (c == 0) = false := by simpa using h0c
              have HT := Lib.hid (HNO.out rfl (fun h => h0c h.1))
              clear HUN HYE HNO h0c
              go_wp2
              go_roundw
              case rel => exact ⟨j + 1, _, by omega, by go_num, rfl, by rw [HT.out]; exact HOW7.out, HW7.out⟩
              case measure => simp [intOf]; omega
            subst h0c
            by_cases hrq : rq = q
            case neg =>
              have hc' : (rq == q) = false := by simpa using hrq
              have HT := Lib.hid (HNO.out rfl (fun h => hrq h.2))
              clear HUN HYE HNO hrq
              go_wp2
              go_roundw
              case rel => exact ⟨j + 1, _, by omega, by go_num, rfl, by rw [HT.out]; exact HOW7.out, HW7.out⟩
              case measure => simp [intOf]; omega
            subst hrq
            have HT := Lib.hid (HYE.out rfl rfl rfl)
            clear HUN HYE HNO
            go_wp2_with (at_builtin; refine wpList_append_oneG numV (fun _ => rfl) rfl _ _ 26 2 _ 8 num_oneP rfl HOW7.out HW7.out HZ7.out (g0 := w6.heap.size + 1) (by simp) rfl rfl (4 * (i : Int) + (j : Int)) rfl (by omega) (by omega) ?_; intro g8 cap8 w8 ho8 hb8 hk8 hz8; have HO8 := Lib.hid ho8; have HB8 := Lib.hid hb8; clear ho8 hb8 hk8 hz8)
            go_roundw
            case rel => exact ⟨j + 1, _, by omega, by go_num, rfl, by rw [HT.out]; simpa using HO8.out, HB8.out⟩
            case measure => simp [intOf]; omega
        · obtain rfl : j = 4 := by omega
          clear hbel hpg
          go_wp2
          go_roundw
          case rel => exact ⟨i + 1, _, by omega, by go_num, rfl, by rw [← HEND.out]; exact HOWq.out, HWq.out⟩
          case measure => simp [intOf]; omega
    · obtain rfl : i = n := by omega
      clear hbel
      go_wp2
      go_ret
      exact ⟨Av, cv, rfl, (owNs_of_own HOW.out).mono (by omega) (Nat.le_refl _), HB0.out.trans (HW.out.mono (by omega))⟩

set_option maxHeartbeats 1000000 in
set_option maxRecDepth 100000 in
theorem spec_places (A : Option Addr) (n ca : Nat) (X : List Bk) (q : Int) (w : World) (hX : Small X) (hA : RdBk w w.heap.size A n X) :
    Calls Tryd.prog 7 #[.agg #[.slice A n ca], .int .i64 q] w (RetNs w (placesAns X q)) := by
  have HL := Lib.hid hA.1
  have HA := Lib.hid hA; have HX := Lib.hid hX; clear hA hX
  go_enter Tryd.func7, Tryd.ntmps7
  go_wp2_with fail
  refine (spec_nandRight A n ca X _ HX.out (box_rd HA.out _)).mono ?_
  rintro e w2 ⟨rfl, hb2⟩
  have k2 := (isBlk_new w 30 [.slice A n ca]).below hb2 (by show w.heap.size < (w.alloc _).heap.size; simp)
  have hx2 : w2.cell? ⟨w.heap.size, 0, none⟩ = some (.slice A n ca) := k2.cell rfl
  have HB2 := Lib.hid (bel_step (box_below w _) hb2)
  clear hb2 k2
  by_cases hok : NdOk X
  · rw [ndB_yes hok]
    have HC := Lib.hid (placesAns_yes hok q); have HOK := Lib.hid hok
    clear hok
    go_wp2_with fail
    refine (l05Places_any A n ca X q w2 HOK.out (rd_step HA.out HB2.out)).mono ?_
    rintro e w3 ⟨Av, cv, rfl, ho3, hb3⟩
    have HB3 := Lib.hid (bel_step HB2.out hb3)
    have HO3 := Lib.hid (ho3.mono HB2.out.size (Nat.le_refl _))
    clear hb3 ho3
    go_wp2
    go_ret
    rw [HC.out, HL.out]
    exact ⟨Av, cv, rfl, HO3.out, HB3.out⟩
  · rw [ndB_no hok]
    have HC := Lib.hid (placesAns_no hok q)
    go_wp2
    go_ret
    rw [HC.out]
    refine ⟨some ⟨w2.heap.size, 0, none⟩, 0, rfl, owNs_nil _ _ _ _, HB2.out.alloc HB2.out.size _⟩
end Go.Proofs.YtimlaeicbnnbdaaDoor
