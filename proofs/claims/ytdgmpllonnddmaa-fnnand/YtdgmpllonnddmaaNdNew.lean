/-
  NandNew, of the document's model.
-/
import Derived.Test.YtdgmpllonnddmaaChecked
import Derived.Test.YtdgmpllonnddmaaNdSpec2
import Derived.Deep.RegionLaw
namespace Go.Proofs.Ytdgmpllonnddmaa
open Go.RowKit

set_option maxHeartbeats 4000000 in
set_option maxRecDepth 100000 in
theorem spec_nandNew (bi : Int) (w : World) :
    Calls Try.prog 26 #[.int .i64 bi] w (RetNd w (newNd bi)) := by
  by_cases h0 : bi ≤ 0
  · rw [newNd_no (by omega)]
    have h0' : decide ((0 : Int) < bi) = false := by simpa using h0
    go_enter Try.func26, Try.ntmps26
    go_wp2
    refine wp_loop_rounds 1 ?_
    rw [rounds_succ]
    go_wp2
    exact bodyPost_ret (v := .agg #[.slice none 0 0]) (by simp [results, Try.results26, go_sem]) rfl ⟨none, 0, rfl, ow_nil _ _ _ _, ((Below.refl _ _).alloc (Nat.le_refl _) _).alloc (by simp) _⟩
  have h0' : (0 : Int) < bi := by omega
  by_cases h12 : 12 < bi
  · rw [newNd_no (by omega)]
    have hI : isB 1 12 bi = false := isB_no (by omega)
    go_enter Try.func26, Try.ntmps26
    go_wp2
    refine wp_loop_rounds 1 ?_
    rw [rounds_succ]
    go_wp2_with fail
    refine (l02Is_any _ _ _ _).mono ?_
    rintro e w3 ⟨rfl, rfl⟩
    rw [hI]
    go_wp2
    exact bodyPost_ret (v := .agg #[.slice none 0 0]) (by simp [results, Try.results26, go_sem]) rfl ⟨none, 0, rfl, ow_nil _ _ _ _, ((Below.refl _ _).alloc (Nat.le_refl _) _).alloc (by simp) _⟩
  obtain ⟨n, rfl⟩ : ∃ n : Nat, bi = (n : Int) := ⟨bi.toNat, by omega⟩
  have hn12 : n ≤ 12 := by omega
  have hn1 : 1 ≤ n := by omega
  have hI : isB 1 12 (n : Int) = true := isB_yes (by omega)
  have HN := Lib.hid (newNd_yes (n := n) (by omega))
  rw [HN.out]
  obtain ⟨X, hX⟩ : ∃ X, X = List.replicate n freshBk := ⟨_, rfl⟩
  have HL : Hid (X.length = n) := by show X.length = n; rw [hX]; simp
  have HXk : Hid (∀ k, k < n → X.getD k zeroBk = freshBk) := fun k hk => by rw [hX]; exact rep_getD hk
  rw [← hX]
  clear hX HN
  obtain ⟨ib, hib, zb0, zb1, zb2⟩ := info_parts info_block
  have Hib := Lib.hid hib; have Zb0 := Lib.hid zb0; have Zb1 := Lib.hid zb1; have Zb2 := Lib.hid zb2
  clear hib zb0 zb1 zb2
  have hmk := mk4
  go_enter Try.func26, Try.ntmps26
  go_wp2
  have k1 := (isBlk_new w 25 [.slice none 0 0]).alloc (.cells #[.slice none 0 0] 25)
  have k2 := isBlk_new (w.alloc (.cells #[.slice none 0 0] 25)) 25 [.slice none 0 0]
  have hb0 : Below w.heap.size w ((w.alloc (.cells #[.slice none 0 0] 25)).alloc (.cells #[.slice none 0 0] 25)) := ((Below.refl _ _).alloc (Nat.le_refl _) _).alloc (by simp) _
  have hs0 : ((w.alloc (.cells #[.slice none 0 0] 25)).alloc (.cells #[.slice none 0 0] 25)).heap.size = w.heap.size + 2 := by simp
  simp only [size_alloc] at k2
  change Code.wp _ _ _ _ ((w.alloc (.cells #[.slice none 0 0] 25)).alloc (.cells #[.slice none 0 0] 25))
  generalize (w.alloc (.cells #[.slice none 0 0] 25)).alloc (.cells #[.slice none 0 0] 25) = W at k1 k2 hb0 hs0 ⊢
  have HK1 := Lib.hid k1; have HK2 := Lib.hid k2; have HB0 := Lib.hid hb0
  have hW2 : w.heap.size + 2 ≤ W.heap.size := by omega
  clear k1 k2 hb0 hs0
  go_loopw [4] (fun i wr => ∃ (k : Nat) (v : Value), k ≤ n ∧ i = .int .i64 (k : Nat) ∧ AppEx wr (w.heap.size + 2) 47 v k X ∧ Below (w.heap.size + 1) W wr ∧ IsBlk wr (w.heap.size + 1) 25 [v]) (fun i _ => n - (intOf i).toNat)
  case atStart => exact ⟨0, _, by omega, rfl, app_nil _ _ _ _, Below.refl _ _, HK2.out⟩
  case round =>
    obtain ⟨k, v, hk, rfl, happ, hbw, hkv⟩ := hrel
    have HAPP := Lib.hid happ; have HBW := Lib.hid hbw; have HKV := Lib.hid hkv
    by_cases hlt : k < n
    · have hv0 : wr.cell? ⟨w.heap.size + 1, 0, none⟩ = some v := hkv.cell rfl
      have fv0 : wr.frozen? ⟨w.heap.size + 1, 0, none⟩ = false := hkv.free
      have hz2 : w.heap.size + 1 < wr.heap.size := hkv.lt
      have hz2' : w.heap.size < wr.heap.size := by omega
      have hwz := hbw.size
      clear happ hbw hkv
      obtain ⟨va, vc, happ⟩ := HAPP.out
      have HAP := Lib.hid happ; clear happ
      have hltI : (k : Int) < (n : Int) := by omega
      go_wp2_with fail
      refine (l02Is_any _ _ _ _).mono ?_
      rintro e w3 ⟨rfl, rfl⟩
      rw [hI]
      go_wp2
      have HOWN2 : Hid (((wr.alloc (.cells (pcells zeroPg zeroPg zeroPg zeroPg).toArray 58)).alloc (.cells #[.slice (some ⟨wr.heap.size, 0, none⟩) 4 4, .int .i64 0, .bool false] 47)).drew.ownsRow (w.heap.size + 2) 47 3 v k (bkL va vc X k)) :=
        own_below HAP.out.own ((((Below.refl _ _).alloc (Nat.le_refl _) _).alloc (by simp) _).drew)
      have HNEWS : Hid (∀ j u, [Value.slice (some ⟨wr.heap.size, 0, none⟩) 4 4, .int .i64 0, .bool false][j]? = some u → ((wr.alloc (.cells (pcells zeroPg zeroPg zeroPg zeroPg).toArray 58)).alloc (.cells #[.slice (some ⟨wr.heap.size, 0, none⟩) 4 4, .int .i64 0, .bool false] 47)).drew.cell? ((⟨wr.heap.size + 1, 0, none⟩ : Addr).add j) = some u) := by
        intro j u hj
        rw [add_plain]
        have h := (isBlk_new (wr.alloc (.cells (pcells zeroPg zeroPg zeroPg zeroPg).toArray 58)) 47 [.slice (some ⟨wr.heap.size, 0, none⟩) 4 4, .int .i64 0, .bool false]).cell hj
        rw [size_alloc] at h
        exact h
      go_region_law (
        (refine step_append_lies _ rfl (.tmp 16) (.tmp 19) 23 rfl (w.heap.size + 2) 47 ib _ 3 40 Try.underlying23 Hib.out Zb0.out Zb1.out Zb2.out rfl (by omega) v k (bkL va vc X k) (by rfl) HOWN2.out ⟨wr.heap.size + 1, 0, none⟩ 1 1 [.slice (some ⟨wr.heap.size, 0, none⟩) 4 4, .int .i64 0, .bool false] (by rfl) (by rfl) HNEWS.out (bk_one _ rfl _ _) (by omega) (by unfold maxLen; omega) (by omega) (by simp; omega) (wr.heap.size + 1 + 1) (by simp) ?_
         intro g2 cap2 w6 hown6 hgrow6 hat6 hlt6
         have hb5 : Below wr.heap.size wr ((wr.alloc (.cells (pcells zeroPg zeroPg zeroPg zeroPg).toArray 58)).alloc (.cells #[.slice (some ⟨wr.heap.size, 0, none⟩) 4 4, .int .i64 0, .bool false] 47)).drew := (((Below.refl _ _).alloc (Nat.le_refl _) _).alloc (by simp) _).drew
         have ho5 : OwPg ((wr.alloc (.cells (pcells zeroPg zeroPg zeroPg zeroPg).toArray 58)).alloc (.cells #[.slice (some ⟨wr.heap.size, 0, none⟩) 4 4, .int .i64 0, .bool false] 47)).drew wr.heap.size (X.getD k zeroBk).pages := by
           rw [HXk.out k hlt]
           exact Row.alloc (ow_of_blk (isBlk_new wr 58 (pcells zeroPg zeroPg zeroPg zeroPg))) _
         have hz5 : ((wr.alloc (.cells (pcells zeroPg zeroPg zeroPg zeroPg).toArray 58)).alloc (.cells #[.slice (some ⟨wr.heap.size, 0, none⟩) 4 4, .int .i64 0, .bool false] 47)).drew.heap.size = wr.heap.size + 1 + 1 := by simp
         generalize ((wr.alloc (.cells (pcells zeroPg zeroPg zeroPg zeroPg).toArray 58)).alloc (.cells #[.slice (some ⟨wr.heap.size, 0, none⟩) 4 4, .int .i64 0, .bool false] 47)).drew = w5 at hb5 ho5 hz5 hgrow6
         have hvb : ∀ q, v.ownBlock = some q → w.heap.size + 2 ≤ q := fun q hq => (own_block_lt HAP.out.own hq).1
         have HAP6 : Hid (AppEx w6 (w.heap.size + 2) 47 (.slice (some ⟨g2, 0, none⟩) (k + 1) cap2) (k + 1) X) :=
           HAP.out.more (p := wr.heap.size) (c := 4) (by omega) hb5 (Nat.le_refl _) ho5 (by rw [HXk.out k hlt]; exact Room.full _ _ _) hgrow6 rfl (hat6.imp id fun h => h.trans hz5.symm) (by rw [HXk.out k hlt]; exact hown6)
         have hb6 : Below (w.heap.size + 2) w5 w6 := (Below.refl _ _).grown hgrow6 (by have := hb5.size; omega) hvb
         have HB6 : Hid (Below (w.heap.size + 1) W w6) := (HBW.out.trans (hb5.mono (by omega))).trans (hb6.mono (by omega))
         have k6 := (HKV.out.below hb5 (by omega)).below hb6 (by omega)
         have HK6 := Lib.hid k6
         have hv6 : w6.cell? ⟨w.heap.size + 1, 0, none⟩ = some v := k6.cell rfl
         have fv6 : w6.frozen? ⟨w.heap.size + 1, 0, none⟩ = false := k6.free
         clear hb5 ho5 hz5 hvb hb6 k6 hown6 hgrow6 hat6 hlt6))
      all_goals
        go_wp2
        go_roundw
        case rel => exact ⟨k + 1, .slice (some ⟨g2, 0, none⟩) (k + 1) cap2, by omega, by go_num, HAP6.out.other (by dsimp only; omega) _, HB6.out.setCell (by dsimp only; omega) _, HK6.out.set _⟩
        case measure => simp [intOf]; omega
    · obtain rfl : k = n := by omega
      have hbel : Below w.heap.size w wr := HB0.out.trans (hbw.mono (by omega))
      obtain ⟨va, vc, happ⟩ := HAPP.out
      obtain ⟨g, cap, rfl, hgb, hgl⟩ := happ.own.form (by omega)
      have HOWN := Lib.hid (HAPP.out.own HL.out)
      have hv0 : wr.cell? ⟨w.heap.size + 1, 0, none⟩ = some (.slice (some ⟨g, 0, none⟩) k cap) := hkv.cell rfl
      have k1 := HK1.out.below hbw (by omega)
      have d0 : wr.cell? ⟨w.heap.size, 0, none⟩ = some (.slice none 0 0) := k1.cell rfl
      have fd0 : wr.frozen? ⟨w.heap.size, 0, none⟩ = false := k1.free
      have HBL := Lib.hid hbel
      have hkk : decide ((k : Int) < (k : Int)) = false := by simp
      clear happ hbw hkv hbel k1
      go_wp2
      refine bodyPost_ret (v := .agg #[.slice (some ⟨g, 0, none⟩) k cap]) (by simp [results, Try.results26, go_sem, d0]) rfl ⟨some ⟨g, 0, none⟩, cap, by rw [HL.out], ?_, ?_⟩
      · rw [HL.out]
        exact (HOWN.out.same fun j h1 _ => Below.heap_setCell _ _ _ _ (by dsimp only; omega)).mono (by omega) (by simp [World.setCell])
      · exact HBL.out.setCell (by dsimp only; omega) _
end Go.Proofs.Ytdgmpllonnddmaa
