/-
  CkptBest, of the model.
-/
import Derived.Test.YtginfgepamidkaaDoorProg
import Derived.KernelRfl
import Derived.Test.YtginfgepamidkaaDoorCkBestL
namespace Go.Proofs.YtginfgepamidkaaDoor
open Go.RowKit
open Bt (Rc)

theorem cbList_len (a b : ByteArray) : (cbList a b).length ≤ 48 := by
  unfold cbList
  split
  · exact ckList_len _
  · simp
set_option maxHeartbeats 4000000 in
set_option maxRecDepth 100000 in
theorem spec_ckptBest (a b : ByteArray) (w : World) (ha : a.size ≤ maxLen) (hb : b.size ≤ maxLen) :
    Calls Tryd.prog 5 #[slotsV a b] w (RetCk w (cbNum a b) (cbList a b) (cbCode a b)) := by
  obtain ⟨W, hW, hb0, ks, ko, hz⟩ := slots_boxes w a b
  go_enter Tryd.func5, Tryd.ntmps5
  go_wp2_with fail
  rw [← hW]
  clear hW
  refine (spec_slotsRight a b W ha hb).mono ?_
  rintro e w1 ⟨rfl, hb1⟩
  have HB1 := Lib.hid (bel_thru hb0 hb1)
  have HKS := Lib.hid (ks.below hb1 ks.lt); have HKO := Lib.hid (ko.below hb1 ko.lt)
  have hz1 := hb1.size
  clear hb0 hb1 ks ko
  have c0 : w1.cell? ⟨w.heap.size, 0, none⟩ = some (.string a) := HKS.out.cell rfl
  have c1 : w1.cell? ⟨w.heap.size, 1, none⟩ = some (.string b) := HKS.out.cell rfl
  cases hs : slotB a b with
  | false =>
    have HC := Lib.hid (cb_form hs)
    obtain ⟨r0, r1, r2, q0, q1, q2⟩ := blk3k HKO.out
    go_wp2
    refine bodyPost_ret (v := ckV 0 none 0 0 1) (by simp [results, Tryd.results5, go_sem, r0, r1, r2]) rfl ?_
    exact ret_ckNil HC.out.1 HC.out.2.1 HC.out.2.2 (set3_bel HB1.out (by omega) _ _ _)
  | true =>
    have HS := Lib.hid hs
    go_wp2_with fail
    refine (l12Best_any a b w1 ha hb HS.out).mono ?_
    rintro e w2 ⟨A, c, rfl, ho, hb2⟩
    have HB2 := Lib.hid (bel_thru HB1.out hb2)
    have HO := Lib.hid ho
    have hz2 := hb2.size
    have HKO2 := Lib.hid (HKO.out.below hb2 HKO.out.lt)
    clear hb2 ho
    generalize cbNum a b = N at *
    generalize cbList a b = L at *
    generalize cbCode a b = C at *
    have k3 := isBlk_new w2 29 [.int .i64 N, .slice A L.length c, .int .i64 C]
    have hb3 := box_belK w2 (.cells #[.int .i64 N, .slice A L.length c, .int .i64 C] 29)
    have hz3 := size_alloc w2 (.cells #[.int .i64 N, .slice A L.length c, .int .i64 C] 29)
    change IsBlk (w2.alloc (.cells #[.int .i64 N, .slice A L.length c, .int .i64 C] 29)) _ _ _ at k3
    obtain ⟨p0, p1, p2, -, -, -⟩ := blk3k k3
    obtain ⟨r0, r1, r2, q0, q1, q2⟩ := blk3k (HKO2.out.below hb3 HKO2.out.lt)
    have HO3 := Lib.hid (HO.out.below hb3 (Nat.le_refl _))
    have HB3 := Lib.hid (bel_thru HB2.out hb3)
    clear hb3 k3
    go_wp2_with fail
    generalize w2.alloc (.cells #[.int .i64 N, .slice A L.length c, .int .i64 C] 29) = w3 at *
    refine bodyPost_ret (v := ckV N A L.length c C) (by simp [results, Tryd.results5, go_sem, r0, r1, r2]) rfl ?_
    exact ⟨A, c, rfl, (HO3.out.same fun k h1 h2 => set3_other _ _ _ (by omega)).mono (by omega) (by simp [World.setCell]; omega), set3_bel HB3.out (by omega) _ _ _⟩
end Go.Proofs.YtginfgepamidkaaDoor
