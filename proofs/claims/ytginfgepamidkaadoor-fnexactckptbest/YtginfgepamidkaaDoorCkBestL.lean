/-
  CkptBest of both.
-/
import Derived.Test.YtginfgepamidkaaDoorProg
import Derived.KernelRfl
import Derived.Test.YtginfgepamidkaaDoorCkBestS
namespace Go.Proofs.YtginfgepamidkaaDoor
open Go.RowKit
open Bt (Rc)

theorem bel_thru {w u v : World} (h : Below w.heap.size w u) (hb : Below u.heap.size u v) : Below w.heap.size w v := h.trans (hb.mono h.size)
theorem ret_ckNil {w w' : World} {num code c : Int} {Y : List Rc} (h1 : code = c) (h2 : num = 0) (h3 : Y = []) (hb : Below w.heap.size w w') : RetCk w num Y code (.returned (ckV 0 none 0 0 c)) w' := by
  subst h1 h2 h3; exact ⟨none, 0, rfl, ow_nilR _ _ _ _, hb⟩
theorem box_belK (w : World) (o : Obj) : Below w.heap.size w (w.alloc o) := (Below.refl _ _).alloc (Nat.le_refl _) _
theorem slots_boxes (w : World) (a b : ByteArray) : ∃ W, W = (w.alloc (.cells #[.string a, .string b] 31)).alloc (.cells #[.int .i64 0, .slice none 0 0, .int .i64 0] 29) ∧ Below w.heap.size w W ∧ IsBlk W w.heap.size 31 [.string a, .string b] ∧ IsBlk W (w.heap.size + 1) 29 zK ∧ W.heap.size = w.heap.size + 2 := by
  have ks := (isBlk_new w 31 [.string a, .string b]).alloc (.cells #[.int .i64 0, .slice none 0 0, .int .i64 0] 29)
  have ko := isBlk_new (w.alloc (.cells #[.string a, .string b] 31)) 29 [.int .i64 0, .slice none 0 0, .int .i64 0]
  rw [size_alloc] at ko
  exact ⟨_, rfl, ((Below.refl _ _).alloc (Nat.le_refl _) _).alloc (by simp) _, ks, ko, by simp⟩

set_option maxHeartbeats 4000000 in
set_option maxRecDepth 100000 in
theorem impl_ckptBest (a b : ByteArray) (w : World) (ha : a.size ≤ maxLen) (hb : b.size ≤ maxLen) (hg : ErrType w) :
    Calls Tryd.prog 7 #[slotsV a b] w (RetCk w (cbNum a b) (cbList a b) (cbCode a b)) := by
  have HG := Lib.hid hg; clear hg
  obtain ⟨W, hW, hb0, ks, ko, hz⟩ := slots_boxes w a b
  go_enter Tryd.func7, Tryd.ntmps7
  go_wp2_with fail
  rw [← hW]
  clear hW
  refine (impl_slotsRight a b W ha hb).mono ?_
  rintro e w1 ⟨rfl, hb1⟩
  have HB1 := Lib.hid (bel_thru hb0 hb1)
  have HKS := Lib.hid (ks.below hb1 ks.lt); have HKO := Lib.hid (ko.below hb1 ko.lt)
  have hz1 := hb1.size
  clear hb0 hb1 ks ko
  have c0 : w1.cell? ⟨w.heap.size, 0, none⟩ = some (.string a) := HKS.out.cell rfl
  have c1 : w1.cell? ⟨w.heap.size, 1, none⟩ = some (.string b) := HKS.out.cell rfl
  cases hs : slotB a b with
  | false =>
    have HC := Lib.hid (cb_form hs)
    obtain ⟨r0, r1, r2, q0, q1, q2⟩ := blk3k HKO.out
    go_wp2
    refine bodyPost_ret (v := ckV 0 none 0 0 1) (by simp [results, Tryd.results7, go_sem, r0, r1, r2]) rfl ?_
    exact ret_ckNil HC.out.1 HC.out.2.1 HC.out.2.2 (set3_bel HB1.out (by omega) _ _ _)
  | true =>
    have HS := Lib.hid hs
    go_wp2_with fail
    refine (bestOf_any a b w1 ha hb (HG.out.below HB1.out)).mono ?_
    rintro e w2 ⟨A, c, rfl, ho, hb2⟩
    have HB2 := Lib.hid (bel_thru HB1.out hb2)
    have HO := Lib.hid ho
    have hz2 := hb2.size
    have HKO2 := Lib.hid (HKO.out.below hb2 HKO.out.lt)
    clear hb2 ho
    have HN := Lib.hid (fun h => cb_none (a := a) (b := b) hs h); have HY := Lib.hid (fun h => cb_ok (a := a) (b := b) hs h)
    generalize ckTxt a b = T at *
    by_cases hC : ckCode T = 0
    · have HC := Lib.hid (HY.out hC)
      rw [hC]
      have k3 := isBlk_new w2 29 [.int .i64 (ckRNum T), .slice A (ckList T).length c, .int .i64 0]
      have hb3 := box_belK w2 (.cells #[.int .i64 (ckRNum T), .slice A (ckList T).length c, .int .i64 0] 29)
      have hz3 := size_alloc w2 (.cells #[.int .i64 (ckRNum T), .slice A (ckList T).length c, .int .i64 0] 29)
      change IsBlk (w2.alloc (.cells #[.int .i64 (ckRNum T), .slice A (ckList T).length c, .int .i64 0] 29)) _ _ _ at k3
      clear HN HY
      obtain ⟨p0, p1, p2, -, -, -⟩ := blk3k k3
      obtain ⟨r0, r1, r2, q0, q1, q2⟩ := blk3k (HKO2.out.below hb3 HKO2.out.lt)
      have HO3 := Lib.hid (HO.out.below hb3 (Nat.le_refl _))
      have HB3 := Lib.hid (bel_thru HB2.out hb3)
      clear hb3 k3
      go_wp2_with fail
      generalize w2.alloc (.cells #[.int .i64 (ckRNum T), .slice A (ckList T).length c, .int .i64 0] 29) = w3 at *
      refine bodyPost_ret (v := ckV (ckRNum T) A (ckList T).length c 0) (by simp [results, Tryd.results7, go_sem, r0, r1, r2]) rfl ?_
      unfold RetCk
      rw [HC.out.1, HC.out.2.1, HC.out.2.2]
      exact ⟨A, c, rfl, (HO3.out.same fun k h1 h2 => set3_other _ _ _ (by omega)).mono (by omega) (by simp [World.setCell]; omega), set3_bel HB3.out (by omega) _ _ _⟩
    · have HC := Lib.hid (HN.out hC)
      have hq : (ckCode T != 0) = true := by simpa using hC
      have k3 := isBlk_new w2 29 [.int .i64 (ckRNum T), .slice A (ckList T).length c, .int .i64 (ckCode T)]
      have hb3 := box_belK w2 (.cells #[.int .i64 (ckRNum T), .slice A (ckList T).length c, .int .i64 (ckCode T)] 29)
      change IsBlk (w2.alloc (.cells #[.int .i64 (ckRNum T), .slice A (ckList T).length c, .int .i64 (ckCode T)] 29)) _ _ _ at k3
      clear HN HY
      obtain ⟨p0, p1, p2, -, -, -⟩ := blk3k k3
      obtain ⟨r0, r1, r2, q0, q1, q2⟩ := blk3k (HKO2.out.below hb3 HKO2.out.lt)
      have HB3 := Lib.hid (bel_thru HB2.out hb3)
      clear hb3 k3
      go_wp2_with fail
      generalize w2.alloc (.cells #[.int .i64 (ckRNum T), .slice A (ckList T).length c, .int .i64 (ckCode T)] 29) = w3 at *
      refine bodyPost_ret (v := ckV 0 none 0 0 6) (by simp [results, Tryd.results7, go_sem, r0, r1, r2]) rfl ?_
      exact ret_ckNil HC.out.1 HC.out.2.1 HC.out.2.2 (set3_bel HB3.out (by omega) _ _ _)
end Go.Proofs.YtginfgepamidkaaDoor
