/-
  Restart of the program and of the model.
  NandNew, of the document's model.
  Format of the program and of the model.
-/
import Derived.Test.YtohmkjgmhippoaaGreatDoorProg
import Derived.KernelRfl
import Derived.Test.YtohmkjgmhippoaaGreatDoorMgDa
import Derived.Test.YtohmkjgmhippoaaGreatDoorMgDb
import Derived.Test.YtohmkjgmhippoaaGreatDoorMgChip
import Derived.Deep.RegionLaw
namespace Go.Proofs.YtohmkjgmhippoaaGreatDoor
open Go.RowKit

theorem restart_ok {X : List Bk} {now ret : Int} (h : dvB X now ret = true) (_ : (⟨X, now, ret, 0⟩ : Dv).code = 0) : NdOk (⟨X, now, ret, 0⟩ : Dv).nd := (dvB_right h).2.2.2
theorem restart_ill {X : List Bk} {now ret : Int} : (⟨X, now, ret, 0⟩ : Dv).code ≠ 0 → (⟨X, now, ret, 0⟩ : Dv) = dvIll (⟨X, now, ret, 0⟩ : Dv).code := fun h => absurd rfl h
theorem dvRestart_few (X : List Bk) (now ret : Int) : Few (dvRestart X now ret).nd := on_few restart_ok restart_ill

set_option maxHeartbeats 2000000 in
set_option maxRecDepth 100000 in
theorem impl_dvRestart (A : Option Addr) (n ca : Nat) (X : List Bk) (now ret : Int) (a0 a2 : Addr) (w : World) (hG : ErrType w) (hS : Two w a0 a2) (hX : Small X) (hA : RdBk w w.heap.size A n X) :
    Calls Tryz.prog 46 #[.agg #[.slice A n ca], .int .i64 now, .int .i64 ret] w (RetDv w (dvRestart X now ret)) := by
  have HRT : Hid (∀ u, Below w.heap.size w u → Calls Tryz.prog 18 #[.agg #[.slice A n ca, .int .i64 now, .int .i64 ret]] u fun e w' => e = .returned (.bool (dvB X now ret)) ∧ Below u.heap.size u w') := fun u hb => impl_driveRight A n ca X now ret a0 a2 u (hG.below hb) (hS.below hb) hX (rd_step hA hb)
  have HCP : Hid (dvB X now ret = true → ∀ u, Below w.heap.size w u → Calls Tryz.prog 74 #[.agg #[.slice A n ca]] u (RetNd u X)) := fun h u hb => impl_copyNand A n ca X u hX (dvB_right h).2.2.2 (rd_step hA hb)
  have HR1 : Hid (dvB X now ret = true → dvRestart X now ret = ⟨X, now, ret, 0⟩) := fun h => by unfold dvRestart dvOn; rw [if_pos h]
  have HR0 : Hid (dvB X now ret = false → dvRestart X now ret = dvIll 1) := fun h => by unfold dvRestart dvOn; rw [h, if_neg (by simp)]
  generalize dvRestart X now ret = R at *
  clear hG hS hX hA
  have hb0 : Below w.heap.size w (((w.alloc (.cells #[.slice A n ca] 31)).alloc (.cells #[.slice none 0 0, .int .i64 0, .int .i64 0, .int .i64 0] 38)).alloc (.cells #[.slice A n ca, .int .i64 now, .int .i64 ret] 33)) := (((Below.refl _ _).alloc (Nat.le_refl _) _).alloc (by simp) _).alloc (by simp; omega) _
  have k0 := ((isBlk_new w 31 [.slice A n ca]).alloc (.cells #[.slice none 0 0, .int .i64 0, .int .i64 0, .int .i64 0] 38)).alloc (.cells #[.slice A n ca, .int .i64 now, .int .i64 ret] 33)
  have k1 := (isBlk_new (w.alloc (.cells #[.slice A n ca] 31)) 38 [.slice none 0 0, .int .i64 0, .int .i64 0, .int .i64 0]).alloc (.cells #[.slice A n ca, .int .i64 now, .int .i64 ret] 33)
  have k2 := isBlk_new ((w.alloc (.cells #[.slice A n ca] 31)).alloc (.cells #[.slice none 0 0, .int .i64 0, .int .i64 0, .int .i64 0] 38)) 33 [.slice A n ca, .int .i64 now, .int .i64 ret]
  change IsBlk (((w.alloc (.cells #[.slice A n ca] 31)).alloc (.cells #[.slice none 0 0, .int .i64 0, .int .i64 0, .int .i64 0] 38)).alloc (.cells #[.slice A n ca, .int .i64 now, .int .i64 ret] 33)) _ _ _ at k0 k1 k2
  simp only [size_alloc] at k0 k1 k2
  go_enter Tryz.func46, Tryz.ntmps46
  go_wp2_with fail
  generalize (((w.alloc (.cells #[.slice A n ca] 31)).alloc (.cells #[.slice none 0 0, .int .i64 0, .int .i64 0, .int .i64 0] 38)).alloc (.cells #[.slice A n ca, .int .i64 now, .int .i64 ret] 33)) = W at hb0 k0 k1 k2 ⊢
  refine (HRT.out W hb0).mono ?_
  rintro e u ⟨rfl, hb⟩
  have HB := Lib.hid (bel_step hb0 hb)
  have HK0 := Lib.hid (k0.below hb k0.lt); have HK1 := Lib.hid (k1.below hb k1.lt); have HK2 := Lib.hid (k2.below hb k2.lt)
  have hl2 := HK2.out.lt
  clear hb0 hb k0 k1 k2 HRT
  cases hD : dvB X now ret with
  | false =>
    have hRe := Lib.hid (HR0.out hD)
    obtain ⟨d0, d1, d2, d3, fd0, fd1, fd2, fd3⟩ := blk4 HK1.out
    go_wp2
    refine bodyPost_ret (v := .agg #[.slice none 0 0, .int .i64 0, .int .i64 0, .int .i64 1]) (by simp [results, Tryz.results46, go_sem, d0, d1, d2, d3]) rfl ?_
    rw [hRe.out]
    exact ill_ends HB.out (by omega) _ _ _ _
  | true =>
    have hRe := Lib.hid (HR1.out hD)
    replace HCP := Lib.hid (HCP.out hD u HB.out)
    have x0 : u.cell? ⟨w.heap.size, 0, none⟩ = some (.slice A n ca) := HK0.out.cell rfl
    go_wp2_with fail
    refine HCP.out.mono ?_
    rintro e v ⟨A', c', rfl, hov, hbv⟩
    generalize hzl : X.length = zl at *
    have HBv := Lib.hid (bel_step HB.out hbv)
    have HOv := Lib.hid hov
    have huv := hbv.size
    obtain ⟨d0, d1, d2, d3, fd0, fd1, fd2, fd3⟩ := blk4 (HK1.out.below hbv HK1.out.lt)
    obtain ⟨e0, e1, e2, fe0, fe1, fe2⟩ := blk3 (HK2.out.below hbv HK2.out.lt)
    clear hov hbv HCP x0
    go_wp2
    refine bodyPost_ret (v := .agg #[.slice A' zl c', .int .i64 now, .int .i64 ret, .int .i64 0]) (by simp [results, Tryz.results46, go_sem, d0, d1, d2, d3]) rfl ?_
    rw [hRe.out]
    subst hzl
    have hBw := HB.out.size
    refine dv_ends (D := ⟨X, now, ret, 0⟩) (lo := u.heap.size) (hi := v.heap.size) ?_ (by omega) (by omega) (by simp [World.setCell]) ?_ (by omega) _ _ _ _
    · exact HOv.out.same fun j h1 h2 => Below.heap_setCell _ _ _ _ (by dsimp only; omega)
    · exact HBv.out.setCell (by dsimp only; omega) _

set_option maxHeartbeats 2000000 in
set_option maxRecDepth 100000 in
theorem spec_dvRestart (A : Option Addr) (n ca : Nat) (X : List Bk) (now ret : Int) (w : World) (hX : Small X) (hA : RdBk w w.heap.size A n X) :
    Calls Tryz.prog 44 #[.agg #[.slice A n ca], .int .i64 now, .int .i64 ret] w (RetDv w (dvRestart X now ret)) := by
  have HRT : Hid (∀ u, Below w.heap.size w u → Calls Tryz.prog 16 #[.agg #[.slice A n ca, .int .i64 now, .int .i64 ret]] u fun e w' => e = .returned (.bool (dvB X now ret)) ∧ Below u.heap.size u w') := fun u hb => spec_driveRight A n ca X now ret u hX (rd_step hA hb)
  have HCP : Hid (dvB X now ret = true → ∀ u, Below w.heap.size w u → Calls Tryz.prog 61 #[.agg #[.slice A n ca]] u (RetNd u X)) := fun h u hb => spec_l02Copy A n ca X u (dvB_right h).2.2.2 (rd_step hA hb)
  have HR1 : Hid (dvB X now ret = true → dvRestart X now ret = ⟨X, now, ret, 0⟩) := fun h => by unfold dvRestart dvOn; rw [if_pos h]
  have HR0 : Hid (dvB X now ret = false → dvRestart X now ret = dvIll 1) := fun h => by unfold dvRestart dvOn; rw [h, if_neg (by simp)]
  generalize dvRestart X now ret = R at *
  clear hX hA
  have hb0 : Below w.heap.size w (((w.alloc (.cells #[.slice A n ca] 31)).alloc (.cells #[.slice none 0 0, .int .i64 0, .int .i64 0, .int .i64 0] 38)).alloc (.cells #[.slice A n ca, .int .i64 now, .int .i64 ret] 33)) := (((Below.refl _ _).alloc (Nat.le_refl _) _).alloc (by simp) _).alloc (by simp; omega) _
  have k0 := ((isBlk_new w 31 [.slice A n ca]).alloc (.cells #[.slice none 0 0, .int .i64 0, .int .i64 0, .int .i64 0] 38)).alloc (.cells #[.slice A n ca, .int .i64 now, .int .i64 ret] 33)
  have k1 := (isBlk_new (w.alloc (.cells #[.slice A n ca] 31)) 38 [.slice none 0 0, .int .i64 0, .int .i64 0, .int .i64 0]).alloc (.cells #[.slice A n ca, .int .i64 now, .int .i64 ret] 33)
  have k2 := isBlk_new ((w.alloc (.cells #[.slice A n ca] 31)).alloc (.cells #[.slice none 0 0, .int .i64 0, .int .i64 0, .int .i64 0] 38)) 33 [.slice A n ca, .int .i64 now, .int .i64 ret]
  change IsBlk (((w.alloc (.cells #[.slice A n ca] 31)).alloc (.cells #[.slice none 0 0, .int .i64 0, .int .i64 0, .int .i64 0] 38)).alloc (.cells #[.slice A n ca, .int .i64 now, .int .i64 ret] 33)) _ _ _ at k0 k1 k2
  simp only [size_alloc] at k0 k1 k2
  go_enter Tryz.func44, Tryz.ntmps44
  go_wp2_with fail
  generalize (((w.alloc (.cells #[.slice A n ca] 31)).alloc (.cells #[.slice none 0 0, .int .i64 0, .int .i64 0, .int .i64 0] 38)).alloc (.cells #[.slice A n ca, .int .i64 now, .int .i64 ret] 33)) = W at hb0 k0 k1 k2 ⊢
  refine (HRT.out W hb0).mono ?_
  rintro e u ⟨rfl, hb⟩
  have HB := Lib.hid (bel_step hb0 hb)
  have HK0 := Lib.hid (k0.below hb k0.lt); have HK1 := Lib.hid (k1.below hb k1.lt); have HK2 := Lib.hid (k2.below hb k2.lt)
  have hl2 := HK2.out.lt
  clear hb0 hb k0 k1 k2 HRT
  cases hD : dvB X now ret with
  | false =>
    have hRe := Lib.hid (HR0.out hD)
    go_wp2_with fail
    refine (l07Ill_any 1 _).mono ?_
    rintro e v ⟨rfl, hbv⟩
    have HBv := Lib.hid (bel_step HB.out hbv)
    obtain ⟨d0, d1, d2, d3, fd0, fd1, fd2, fd3⟩ := blk4 (HK1.out.below hbv HK1.out.lt)
    clear hbv
    go_wp2
    refine bodyPost_ret (v := .agg #[.slice none 0 0, .int .i64 0, .int .i64 0, .int .i64 1]) (by simp [results, Tryz.results44, go_sem, d0, d1, d2, d3]) rfl ?_
    rw [hRe.out]
    exact ill_ends HBv.out (by omega) _ _ _ _
  | true =>
    have hRe := Lib.hid (HR1.out hD)
    replace HCP := Lib.hid (HCP.out hD u HB.out)
    have x0 : u.cell? ⟨w.heap.size, 0, none⟩ = some (.slice A n ca) := HK0.out.cell rfl
    go_wp2_with fail
    refine HCP.out.mono ?_
    rintro e v ⟨A', c', rfl, hov, hbv⟩
    generalize hzl : X.length = zl at *
    have HBv := Lib.hid (bel_step HB.out hbv)
    have HOv := Lib.hid hov
    have huv := hbv.size
    obtain ⟨d0, d1, d2, d3, fd0, fd1, fd2, fd3⟩ := blk4 (HK1.out.below hbv HK1.out.lt)
    obtain ⟨e0, e1, e2, fe0, fe1, fe2⟩ := blk3 (HK2.out.below hbv HK2.out.lt)
    clear hov hbv HCP x0
    go_wp2
    refine bodyPost_ret (v := .agg #[.slice A' zl c', .int .i64 now, .int .i64 ret, .int .i64 0]) (by simp [results, Tryz.results44, go_sem, d0, d1, d2, d3]) rfl ?_
    rw [hRe.out]
    subst hzl
    have hBw := HB.out.size
    refine dv_ends (D := ⟨X, now, ret, 0⟩) (lo := u.heap.size) (hi := v.heap.size) ?_ (by omega) (by omega) (by simp [World.setCell]) ?_ (by omega) _ _ _ _
    · exact HOv.out.same fun j h1 h2 => Below.heap_setCell _ _ _ _ (by dsimp only; omega)
    · exact HBv.out.setCell (by dsimp only; omega) _

end Go.Proofs.YtohmkjgmhippoaaGreatDoor

namespace Go.Proofs.YtohmkjgmhippoaaGreatDoor
open Go.RowKit

set_option maxHeartbeats 4000000 in
set_option maxRecDepth 100000 in
theorem spec_nandNew (bi : Int) (w : World) :
    Calls Tryz.prog 58 #[.int .i64 bi] w (RetNd w (newNd bi)) := by
  by_cases h0 : bi ≤ 0
  · rw [newNd_no (by omega)]
    have h0' : decide ((0 : Int) < bi) = false := by simpa using h0
    go_enter Tryz.func58, Tryz.ntmps58
    go_wp2
    refine wp_loop_rounds 1 ?_
    rw [rounds_succ]
    go_wp2
    exact bodyPost_ret (v := .agg #[.slice none 0 0]) (by simp [results, Tryz.results58, go_sem]) rfl ⟨none, 0, rfl, ow_nil _ _ _ _, ((Below.refl _ _).alloc (Nat.le_refl _) _).alloc (by simp) _⟩
  have h0' : (0 : Int) < bi := by omega
  by_cases h12 : 12 < bi
  · rw [newNd_no (by omega)]
    have hI : isB 1 12 bi = false := isB_no (by omega)
    go_enter Tryz.func58, Tryz.ntmps58
    go_wp2
    refine wp_loop_rounds 1 ?_
    rw [rounds_succ]
    go_wp2_with fail
    refine (l02Is_any _ _ _ _).mono ?_
    rintro e w3 ⟨rfl, rfl⟩
    rw [hI]
    go_wp2
    exact bodyPost_ret (v := .agg #[.slice none 0 0]) (by simp [results, Tryz.results58, go_sem]) rfl ⟨none, 0, rfl, ow_nil _ _ _ _, ((Below.refl _ _).alloc (Nat.le_refl _) _).alloc (by simp) _⟩
  obtain ⟨n, rfl⟩ : ∃ n : Nat, bi = (n : Int) := ⟨bi.toNat, by omega⟩
  have hn12 : n ≤ 12 := by omega
  have hn1 : 1 ≤ n := by omega
  have hI : isB 1 12 (n : Int) = true := isB_yes (by omega)
  have HN := Lib.hid (newNd_yes (n := n) (by omega))
  rw [HN.out]
  obtain ⟨X, hX⟩ : ∃ X, X = List.replicate n freshBk := ⟨_, rfl⟩
  have HL : Hid (X.length = n) := by show X.length = n; rw [hX]; simp
  have HXk : Hid (∀ k, k < n → X.getD k zeroBk = freshBk) := fun k hk => by rw [hX]; exact rep_getD hk
  rw [← hX]
  clear hX HN
  obtain ⟨ib, hib, zb0, zb1, zb2⟩ := info_parts info_block
  have Hib := Lib.hid hib; have Zb0 := Lib.hid zb0; have Zb1 := Lib.hid zb1; have Zb2 := Lib.hid zb2
  clear hib zb0 zb1 zb2
  have hmk := mk4
  go_enter Tryz.func58, Tryz.ntmps58
  go_wp2
  have k1 := (isBlk_new w 31 [.slice none 0 0]).alloc (.cells #[.slice none 0 0] 31)
  have k2 := isBlk_new (w.alloc (.cells #[.slice none 0 0] 31)) 31 [.slice none 0 0]
  have hb0 : Below w.heap.size w ((w.alloc (.cells #[.slice none 0 0] 31)).alloc (.cells #[.slice none 0 0] 31)) := ((Below.refl _ _).alloc (Nat.le_refl _) _).alloc (by simp) _
  have hs0 : ((w.alloc (.cells #[.slice none 0 0] 31)).alloc (.cells #[.slice none 0 0] 31)).heap.size = w.heap.size + 2 := by simp
  simp only [size_alloc] at k2
  change Code.wp _ _ _ _ ((w.alloc (.cells #[.slice none 0 0] 31)).alloc (.cells #[.slice none 0 0] 31))
  generalize (w.alloc (.cells #[.slice none 0 0] 31)).alloc (.cells #[.slice none 0 0] 31) = W at k1 k2 hb0 hs0 ⊢
  have HK1 := Lib.hid k1; have HK2 := Lib.hid k2; have HB0 := Lib.hid hb0
  have hW2 : w.heap.size + 2 ≤ W.heap.size := by omega
  clear k1 k2 hb0 hs0
  go_loopw [4] (fun i wr => ∃ (k : Nat) (v : Value), k ≤ n ∧ i = .int .i64 (k : Nat) ∧ AppEx wr (w.heap.size + 2) 109 v k X ∧ Below (w.heap.size + 1) W wr ∧ IsBlk wr (w.heap.size + 1) 31 [v]) (fun i _ => n - (intOf i).toNat)
  case atStart => exact ⟨0, _, by omega, rfl, app_nil _ _ _ _, Below.refl _ _, HK2.out⟩
  case round =>
    obtain ⟨k, v, hk, rfl, happ, hbw, hkv⟩ := hrel
    have HAPP := Lib.hid happ; have HBW := Lib.hid hbw; have HKV := Lib.hid hkv
    by_cases hlt : k < n
    · have hv0 : wr.cell? ⟨w.heap.size + 1, 0, none⟩ = some v := hkv.cell rfl
      have fv0 : wr.frozen? ⟨w.heap.size + 1, 0, none⟩ = false := hkv.free
      have hz2 : w.heap.size + 1 < wr.heap.size := hkv.lt
      have hz2' : w.heap.size < wr.heap.size := by omega
      have hwz := hbw.size
      clear happ hbw hkv
      obtain ⟨va, vc, happ⟩ := HAPP.out
      have HAP := Lib.hid happ; clear happ
      have hltI : (k : Int) < (n : Int) := by omega
      go_wp2_with fail
      refine (l02Is_any _ _ _ _).mono ?_
      rintro e w3 ⟨rfl, rfl⟩
      rw [hI]
      go_wp2
      have HOWN2 : Hid (((wr.alloc (.cells (pcells zeroPg zeroPg zeroPg zeroPg).toArray 147)).alloc (.cells #[.slice (some ⟨wr.heap.size, 0, none⟩) 4 4, .int .i64 0, .bool false] 109)).drew.ownsRow (w.heap.size + 2) 109 3 v k (bkL va vc X k)) :=
        own_below HAP.out.own ((((Below.refl _ _).alloc (Nat.le_refl _) _).alloc (by simp) _).drew)
      have HNEWS : Hid (∀ j u, [Value.slice (some ⟨wr.heap.size, 0, none⟩) 4 4, .int .i64 0, .bool false][j]? = some u → ((wr.alloc (.cells (pcells zeroPg zeroPg zeroPg zeroPg).toArray 147)).alloc (.cells #[.slice (some ⟨wr.heap.size, 0, none⟩) 4 4, .int .i64 0, .bool false] 109)).drew.cell? ((⟨wr.heap.size + 1, 0, none⟩ : Addr).add j) = some u) := by
        intro j u hj
        rw [add_plain]
        have h := (isBlk_new (wr.alloc (.cells (pcells zeroPg zeroPg zeroPg zeroPg).toArray 147)) 109 [.slice (some ⟨wr.heap.size, 0, none⟩) 4 4, .int .i64 0, .bool false]).cell hj
        rw [size_alloc] at h
        exact h
      go_region_law (
        (refine step_append_lies _ rfl (.tmp 16) (.tmp 19) 29 rfl (w.heap.size + 2) 109 ib _ 3 40 Tryz.underlying29 Hib.out Zb0.out Zb1.out Zb2.out rfl (by omega) v k (bkL va vc X k) (by rfl) HOWN2.out ⟨wr.heap.size + 1, 0, none⟩ 1 1 [.slice (some ⟨wr.heap.size, 0, none⟩) 4 4, .int .i64 0, .bool false] (by rfl) (by rfl) HNEWS.out (bk_one _ rfl _ _) (by omega) (by unfold maxLen; omega) (by omega) (by simp; omega) (wr.heap.size + 1 + 1) (by simp) ?_
         intro g2 cap2 w6 hown6 hgrow6 hat6 hlt6
         have hb5 : Below wr.heap.size wr ((wr.alloc (.cells (pcells zeroPg zeroPg zeroPg zeroPg).toArray 147)).alloc (.cells #[.slice (some ⟨wr.heap.size, 0, none⟩) 4 4, .int .i64 0, .bool false] 109)).drew := (((Below.refl _ _).alloc (Nat.le_refl _) _).alloc (by simp) _).drew
         have ho5 : OwPg ((wr.alloc (.cells (pcells zeroPg zeroPg zeroPg zeroPg).toArray 147)).alloc (.cells #[.slice (some ⟨wr.heap.size, 0, none⟩) 4 4, .int .i64 0, .bool false] 109)).drew wr.heap.size (X.getD k zeroBk).pages := by
           rw [HXk.out k hlt]
           exact Row.alloc (ow_of_blk (isBlk_new wr 147 (pcells zeroPg zeroPg zeroPg zeroPg))) _
         have hz5 : ((wr.alloc (.cells (pcells zeroPg zeroPg zeroPg zeroPg).toArray 147)).alloc (.cells #[.slice (some ⟨wr.heap.size, 0, none⟩) 4 4, .int .i64 0, .bool false] 109)).drew.heap.size = wr.heap.size + 1 + 1 := by simp
         generalize ((wr.alloc (.cells (pcells zeroPg zeroPg zeroPg zeroPg).toArray 147)).alloc (.cells #[.slice (some ⟨wr.heap.size, 0, none⟩) 4 4, .int .i64 0, .bool false] 109)).drew = w5 at hb5 ho5 hz5 hgrow6
         have hvb : ∀ q, v.ownBlock = some q → w.heap.size + 2 ≤ q := fun q hq => (own_block_lt HAP.out.own hq).1
         have HAP6 : Hid (AppEx w6 (w.heap.size + 2) 109 (.slice (some ⟨g2, 0, none⟩) (k + 1) cap2) (k + 1) X) :=
           HAP.out.more (p := wr.heap.size) (c := 4) (by omega) hb5 (Nat.le_refl _) ho5 (by rw [HXk.out k hlt]; exact Room.full _ _ _) hgrow6 rfl (hat6.imp id fun h => h.trans hz5.symm) (by rw [HXk.out k hlt]; exact hown6)
         have hb6 : Below (w.heap.size + 2) w5 w6 := (Below.refl _ _).grown hgrow6 (by have := hb5.size; omega) hvb
         have HB6 : Hid (Below (w.heap.size + 1) W w6) := (HBW.out.trans (hb5.mono (by omega))).trans (hb6.mono (by omega))
         have k6 := (HKV.out.below hb5 (by omega)).below hb6 (by omega)
         have HK6 := Lib.hid k6
         have hv6 : w6.cell? ⟨w.heap.size + 1, 0, none⟩ = some v := k6.cell rfl
         have fv6 : w6.frozen? ⟨w.heap.size + 1, 0, none⟩ = false := k6.free
         clear hb5 ho5 hz5 hvb hb6 k6 hown6 hgrow6 hat6 hlt6))
      all_goals
        go_wp2
        go_roundw
        case rel => exact ⟨k + 1, .slice (some ⟨g2, 0, none⟩) (k + 1) cap2, by omega, by go_num, HAP6.out.other (by dsimp only; omega) _, HB6.out.setCell (by dsimp only; omega) _, HK6.out.set _⟩
        case measure => simp [intOf]; omega
    · obtain rfl : k = n := by omega
      have hbel : Below w.heap.size w wr := HB0.out.trans (hbw.mono (by omega))
      obtain ⟨va, vc, happ⟩ := HAPP.out
      obtain ⟨g, cap, rfl, hgb, hgl⟩ := happ.own.form (by omega)
      have HOWN := Lib.hid (HAPP.out.own HL.out)
      have hv0 : wr.cell? ⟨w.heap.size + 1, 0, none⟩ = some (.slice (some ⟨g, 0, none⟩) k cap) := hkv.cell rfl
      have k1 := HK1.out.below hbw (by omega)
      have d0 : wr.cell? ⟨w.heap.size, 0, none⟩ = some (.slice none 0 0) := k1.cell rfl
      have fd0 : wr.frozen? ⟨w.heap.size, 0, none⟩ = false := k1.free
      have HBL := Lib.hid hbel
      have hkk : decide ((k : Int) < (k : Int)) = false := by simp
      clear happ hbw hkv hbel k1
      go_wp2
      refine bodyPost_ret (v := .agg #[.slice (some ⟨g, 0, none⟩) k cap]) (by simp [results, Tryz.results58, go_sem, d0]) rfl ⟨some ⟨g, 0, none⟩, cap, by rw [HL.out], ?_, ?_⟩
      · rw [HL.out]
        exact (HOWN.out.same fun j h1 _ => Below.heap_setCell _ _ _ _ (by dsimp only; omega)).mono (by omega) (by simp [World.setCell])
      · exact HBL.out.setCell (by dsimp only; omega) _
end Go.Proofs.YtohmkjgmhippoaaGreatDoor

namespace Go.Proofs.YtohmkjgmhippoaaGreatDoor
open Go.RowKit
open Bt (Rc)

/-- what Format answers -/
def fmtAns (b ret : Int) : Dv := if (2 ≤ b ∧ b ≤ 12) ∧ rcIs 0 1000000 ret = true then ⟨newNd b, 0, ret, 0⟩ else dvIll 1
theorem fresh_at {n i : Nat} : uPre ((List.replicate n freshBk).getD i zeroBk).pages = 0 := by
  by_cases h : i < n
  · rw [rep_getD h]; rfl
  · rw [List.getD_eq_getElem?_getD, List.getElem?_eq_none (by simpa using h)]; rfl
theorem fresh_recs (n : Nat) : ∀ i, recsTo (List.replicate n freshBk) i = []
  | 0 => rfl
  | i + 1 => by rw [recsTo, fresh_recs n i, fresh_at]; rfl
theorem fresh_ok {n : Nat} (h : 1 ≤ n ∧ n ≤ 12) : NdOk (List.replicate n freshBk) := by
  refine ⟨by simpa using h, fun i hi => ?_⟩
  rw [rep_getD (by simpa using hi)]
  exact ⟨rfl, by simp [freshBk], fun k _ => zero_ok k⟩
theorem fresh_mnt {n : Nat} (h : 1 ≤ n ∧ n ≤ 12) : mntCode (List.replicate n freshBk) = 0 ∧ mntList (List.replicate n freshBk) = [] := by
  have e : mnt (recsTo (List.replicate n freshBk) (List.replicate n freshBk).length) = [] := by rw [fresh_recs]; rfl
  have := mnt_ok (fresh_ok h) (by rw [e]; rfl)
  rw [e] at this
  exact this
theorem new_dvB {b ret : Int} (h : 2 ≤ b ∧ b ≤ 12) : dvB (newNd b) 0 ret = rcIs 0 1000000 ret := by
  obtain ⟨n, rfl⟩ : ∃ n : Nat, b = (n : Int) := ⟨b.toNat, by omega⟩
  rw [newNd_yes (by omega)]
  obtain ⟨h1, h2⟩ := fresh_mnt (n := n) (by omega)
  rw [dvB_ok h1, h2]
  rw [rcIs_yes (n := 0) (by omega)]
  have : decide ((lastR ([] : List Rc)).t ≤ 0) = true := rfl
  rw [this]; simp
theorem new_big {b ret : Int} (h : 12 < b) : dvB (newNd b) 0 ret = false := by
  rw [newNd_no (by omega)]
  exact dvB_code (by rw [(mnt_no (X := []) (fun h => by have := h.1.1; simp at this)).1]; decide)
theorem fmt_rest {b ret : Int} (h : 2 ≤ b) : dvRestart (newNd b) 0 ret = fmtAns b ret := by
  unfold dvRestart dvOn fmtAns
  by_cases h12 : b ≤ 12
  · rw [new_dvB ⟨h, h12⟩]
    by_cases g : rcIs 0 1000000 ret = true
    · rw [if_pos g, if_pos ⟨⟨h, h12⟩, g⟩]
    · rw [if_neg g, if_neg (fun x => g x.2)]
  · rw [new_big (by omega), if_neg (by simp), if_neg (fun x => h12 x.1.2)]
theorem fmtAns_few (b ret : Int) : Few (fmtAns b ret).nd := by
  unfold fmtAns
  split
  · exact newNd_few b
  · exact few_nil

set_option maxHeartbeats 1000000 in
set_option maxRecDepth 100000 in
theorem impl_dvFormat (b ret : Int) (a0 a2 : Addr) (w : World) (hG : ErrType w) (hS : Two w a0 a2) :
    Calls Tryz.prog 21 #[.int .i64 b, .int .i64 ret] w (RetDv w (fmtAns b ret)) := by
  have hb0 := box_below w (.cells #[.slice none 0 0, .int .i64 0, .int .i64 0, .int .i64 0] 38)
  have k0 := isBlk_new w 38 [.slice none 0 0, .int .i64 0, .int .i64 0, .int .i64 0]
  change IsBlk (w.alloc (.cells #[.slice none 0 0, .int .i64 0, .int .i64 0, .int .i64 0] 38)) _ _ _ at k0
  have HG := Lib.hid hG; have HS := Lib.hid hS
  by_cases g : b < 2
  · have HR : Hid (fmtAns b ret = dvIll 1) := by show _ = _; unfold fmtAns; rw [if_neg (by omega)]
    clear hG hS hb0 k0
    go_enter Tryz.func21, Tryz.ntmps21
    go_wp2
    refine bodyPost_ret (v := .agg #[.slice none 0 0, .int .i64 0, .int .i64 0, .int .i64 1]) (by simp [results, Tryz.results21, go_sem]) rfl ?_
    rw [HR.out]
    exact ⟨none, 0, rfl, ow_nil _ _ _ _, (Below.refl _ _).alloc (Nat.le_refl _) _⟩
  · have HR := Lib.hid (fmt_rest (b := b) (ret := ret) (by omega))
    have HNN := Lib.hid (impl_nandNew b (w.alloc (.cells #[.slice none 0 0, .int .i64 0, .int .i64 0, .int .i64 0] 38)))
    have HSM : Hid (Small (newNd b)) := ⟨by have := (newNd_few b).1; omega, fun x hx => by
      have h1 : x = freshBk := by
        unfold newNd at hx
        split at hx
        · exact List.eq_of_mem_replicate hx
        · cases hx
      subst h1
      exact ⟨by simp [freshBk], fun p hp => by simp [freshBk] at hp; subst hp; simp [zeroPg, ByteArray.size]⟩⟩
    have HRS : Hid (∀ (A : Option Addr) (c : Nat) (u : World), Below w.heap.size w u → RdBk u u.heap.size A (newNd b).length (newNd b) → Calls Tryz.prog 46 #[.agg #[.slice A (newNd b).length c], .int .i64 0, .int .i64 ret] u (RetDv u (fmtAns b ret))) := fun A c u hb hr => by
      rw [← HR.out]
      exact impl_dvRestart A _ c (newNd b) 0 ret a0 a2 u (HG.out.below hb) (HS.out.below hb) HSM.out hr
    generalize newNd b = X at *
    generalize hzl : X.length = zl at *
    clear hG hS HG HS HSM HR
    go_enter Tryz.func21, Tryz.ntmps21
    go_wp2_with fail
    generalize w.alloc (.cells #[.slice none 0 0, .int .i64 0, .int .i64 0, .int .i64 0] 38) = W at hb0 k0 HNN ⊢
    refine HNN.out.mono ?_
    rintro e u ⟨A, c, rfl, ho, hb⟩
    rw [hzl] at ho ⊢
    have HB := Lib.hid (bel_step hb0 hb)
    have HK := Lib.hid (k0.below hb k0.lt)
    have HO := Lib.hid ho
    clear hb0 k0 hb ho HNN
    go_wp2_with fail
    refine (HRS.out A c u HB.out (HO.out.rd (Nat.le_refl _))).mono ?_
    rintro e v ⟨A', c', rfl, hov, hbv⟩
    generalize hF : fmtAns b ret = D at *
    obtain ⟨nd, tn, tr, dc⟩ := D
    simp only at *
    generalize hnl : nd.length = nl at *
    have HBv := Lib.hid (bel_step HB.out hbv)
    have HOv := Lib.hid hov
    have hwu := HB.out.size
    have hkl := HK.out.lt
    have huv := hbv.size
    obtain ⟨d0, d1, d2, d3, fd0, fd1, fd2, fd3⟩ := blk4 (HK.out.below hbv HK.out.lt)
    clear hov hbv HRS
    go_wp2
    refine bodyPost_ret (v := .agg #[.slice A' nl c', .int .i64 tn, .int .i64 tr, .int .i64 dc]) (by simp [results, Tryz.results21, go_sem, d0, d1, d2, d3]) rfl ?_
    try rw [hF]
    subst hnl
    exact dv_ends (D := ⟨nd, tn, tr, dc⟩) HOv.out (by omega) (by omega) (by omega) HBv.out (by omega) _ _ _ _

set_option maxHeartbeats 1000000 in
set_option maxRecDepth 100000 in
theorem spec_dvFormat (b ret : Int) (w : World) :
    Calls Tryz.prog 20 #[.int .i64 b, .int .i64 ret] w (RetDv w (fmtAns b ret)) := by
  have hb0 := box_below w (.cells #[.slice none 0 0, .int .i64 0, .int .i64 0, .int .i64 0] 38)
  have k0 := isBlk_new w 38 [.slice none 0 0, .int .i64 0, .int .i64 0, .int .i64 0]
  change IsBlk (w.alloc (.cells #[.slice none 0 0, .int .i64 0, .int .i64 0, .int .i64 0] 38)) _ _ _ at k0
  have HNO : Hid (¬ ((2 ≤ b ∧ b ≤ 12) ∧ rcIs 0 1000000 ret = true) → fmtAns b ret = dvIll 1) := fun h => by unfold fmtAns; rw [if_neg h]
  have HYE : Hid ((2 ≤ b ∧ b ≤ 12) ∧ rcIs 0 1000000 ret = true → fmtAns b ret = ⟨newNd b, 0, ret, 0⟩) := fun h => by unfold fmtAns; rw [if_pos h]
  generalize fmtAns b ret = R at *
  go_enter Tryz.func20, Tryz.ntmps20
  go_wp2_with fail
  generalize w.alloc (.cells #[.slice none 0 0, .int .i64 0, .int .i64 0, .int .i64 0] 38) = W at hb0 k0 ⊢
  have HB := Lib.hid hb0; have HK := Lib.hid k0
  have hkl := k0.lt
  clear hb0 k0
  refine (l02Is_any _ _ _ _).mono ?_
  rintro e u ⟨rfl, rfl⟩
  rw [isB_rc]
  by_cases g : 2 ≤ b ∧ b ≤ 12
  case neg =>
    have hRe := Lib.hid (HNO.out (fun h => g h.1))
    rw [rcIs_no g]
    go_wp2_with fail
    refine (l07Ill_any 1 _).mono ?_
    rintro e v ⟨rfl, hbv⟩
    have HBv := Lib.hid (bel_step HB.out hbv)
    obtain ⟨d0, d1, d2, d3, fd0, fd1, fd2, fd3⟩ := blk4 (HK.out.below hbv HK.out.lt)
    clear hbv
    go_wp2
    refine bodyPost_ret (v := .agg #[.slice none 0 0, .int .i64 0, .int .i64 0, .int .i64 1]) (by simp [results, Tryz.results20, go_sem, d0, d1, d2, d3]) rfl ?_
    rw [hRe.out]
    exact ill_ends HBv.out (Nat.le_refl _) _ _ _ _
  rw [rcIs_yes g]
  go_wp2_with fail
  refine (l02Time_any ret _).mono ?_
  rintro e u ⟨rfl, rfl⟩
  rw [isB_rc]
  by_cases g2 : rcIs 0 1000000 ret = true
  case neg =>
    have hRe := Lib.hid (HNO.out (fun h => g2 h.2))
    rw [Bool.not_eq_true] at g2
    rw [g2]
    go_wp2_with fail
    refine (l07Ill_any 1 _).mono ?_
    rintro e v ⟨rfl, hbv⟩
    have HBv := Lib.hid (bel_step HB.out hbv)
    obtain ⟨d0, d1, d2, d3, fd0, fd1, fd2, fd3⟩ := blk4 (HK.out.below hbv HK.out.lt)
    clear hbv
    go_wp2
    refine bodyPost_ret (v := .agg #[.slice none 0 0, .int .i64 0, .int .i64 0, .int .i64 1]) (by simp [results, Tryz.results20, go_sem, d0, d1, d2, d3]) rfl ?_
    rw [hRe.out]
    exact ill_ends HBv.out (Nat.le_refl _) _ _ _ _
  have hRe := Lib.hid (HYE.out ⟨g, g2⟩)
  rw [g2]
  have HNN := Lib.hid (spec_nandNew b W)
  generalize newNd b = X at *
  go_wp2_with fail
  refine HNN.out.mono ?_
  rintro e u ⟨A, c, rfl, ho, hb⟩
  generalize hzl : X.length = zl at *
  have HBu := Lib.hid (bel_step HB.out hb)
  have HO := Lib.hid ho
  have hwu := HB.out.size
  have hWu := hb.size
  obtain ⟨d0, d1, d2, d3, fd0, fd1, fd2, fd3⟩ := blk4 (HK.out.below hb HK.out.lt)
  clear hb ho HNN
  go_wp2
  refine bodyPost_ret (v := .agg #[.slice A zl c, .int .i64 0, .int .i64 ret, .int .i64 0]) (by simp [results, Tryz.results20, go_sem, d0, d1, d2, d3]) rfl ?_
  rw [hRe.out]
  subst hzl
  exact dv_ends (D := ⟨X, 0, ret, 0⟩) HO.out (by omega) (by omega) (by omega) HBu.out (by omega) _ _ _ _
end Go.Proofs.YtohmkjgmhippoaaGreatDoor
