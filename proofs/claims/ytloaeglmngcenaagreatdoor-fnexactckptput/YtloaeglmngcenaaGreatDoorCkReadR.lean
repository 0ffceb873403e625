/-
  One record of a checkpoint read, of the program.
-/
import Derived.Test.YtloaeglmngcenaaGreatDoorProg
import Derived.KernelRfl
import Derived.Test.YtloaeglmngcenaaGreatDoorCkPure
import Derived.Test.YtloaeglmngcenaaGreatDoorRcRead2
namespace Go.Proofs.YtloaeglmngcenaaGreatDoor
open Go.RowKit
open Bt (Rc)

theorem getText_lenC (s : ByteArray) (p : Int) : (bstr (Bt.getText s p).1).size ≤ maxLen := by
  rw [bstr_size]
  by_cases h : (Bt.getText s p).2.2 = 0
  · obtain ⟨-, h8, m, hm, hpm, -, hl⟩ := Bt.getText_canon h
    have h2 := congrArg List.length hl
    have hsz : s.data.toList.length = s.size := rfl
    rw [List.length_take, List.length_drop, hsz] at h2
    by_cases h9 : 8000 < (bstr (Bt.getText s p).1).size
    · rw [Bt.putText_long h9, List.length_nil] at h2; omega
    · rw [bstr_size] at h9; unfold maxLen; omega
  · rw [ck_noText h]; unfold maxLen; simp
set_option maxHeartbeats 4000000 in
set_option maxRecDepth 100000 in
theorem readRecText_any (s : ByteArray) (p : Int) (w : World) (hs : s.size ≤ maxLen) (hp : p ≤ 9223372036854775807) (hg : ErrType w) :
    Calls Tryz.prog 269 #[.string s, .int .i64 p] w fun e w' => e = .returned (.tuple #[recV (ckR s p).1, .int .i64 (ckR s p).2.1, .bool (ckR s p).2.2]) ∧ Below w.heap.size w w' := by
  have HT := Lib.hid (fun W h => impl_getText_any s p W hs hp h)
  have htl := getText_lenC s p
  have HG := Lib.hid hg; clear hg
  have HR : Hid (ckR s p = ((Bt.recRead (bstr (Bt.getText s p).1)).1, (Bt.getText s p).2.1, decide ((Bt.recRead (bstr (Bt.getText s p).1)).2 = 0))) := rfl
  generalize ckR s p = R at HR ⊢
  generalize Bt.getText s p = T at HT htl HR
  obtain ⟨t, a, c⟩ := T
  simp only at htl HR
  have HRD := Lib.hid (fun W h => impl_recRead_any (bstr t) W htl h)
  generalize Bt.recRead (bstr t) = RR at HRD HR
  obtain ⟨⟨rk, rs, rq, rt, ro, rd⟩, rc⟩ := RR
  simp only at HR
  go_enter Tryz.func269, Tryz.ntmps269
  go_wp2_with fail
  have hb0 : Below w.heap.size w (w.alloc (.cells #[.int .i64 0, .int .i64 0, .int .i64 0, .int .i64 0, .int .i64 0, .string ⟨#[]⟩] 34)) := (Below.refl _ _).alloc (Nat.le_refl _) _
  have k0 := isBlk_new w 34 (recC Rc.zero)
  change IsBlk (w.alloc (.cells #[.int .i64 0, .int .i64 0, .int .i64 0, .int .i64 0, .int .i64 0, .string ⟨#[]⟩] 34)) _ _ _ at k0
  generalize w.alloc (.cells #[.int .i64 0, .int .i64 0, .int .i64 0, .int .i64 0, .int .i64 0, .string ⟨#[]⟩] 34) = w0 at hb0 k0 ⊢
  refine (HT.out w0 (HG.out.below hb0)).mono ?_
  rintro e w1 ⟨rfl, hb1⟩
  have HB1 : Hid (Below w.heap.size w (w1.alloc (.cells #[strV t, .int .i64 a, .int .i64 c] 131))) := (hb0.trans (hb1.mono hb0.size)).alloc (Nat.le_trans hb0.size hb1.size) _
  have HK1 := Lib.hid ((k0.below hb1 k0.lt).alloc (.cells #[strV t, .int .i64 a, .int .i64 c] 131))
  have kt := isBlk_new w1 131 [strV t, .int .i64 a, .int .i64 c]
  have hlt1 : w.heap.size < w1.heap.size := Nat.lt_of_lt_of_le k0.lt hb1.size
  change IsBlk (w1.alloc (.cells #[strV t, .int .i64 a, .int .i64 c] 131)) _ _ _ at kt
  have HG1 := HG.out.below HB1.out
  clear hb1 k0 hb0 HT
  go_wp2_with fail
  change Calls _ _ _ (w1.alloc (.cells #[strV t, .int .i64 a, .int .i64 c] 131)) _
  generalize w1.alloc (.cells #[strV t, .int .i64 a, .int .i64 c] 131) = v1 at HB1 HK1 kt HG1 ⊢
  generalize w1.heap.size = nb at *
  refine (HRD.out v1 HG1).mono ?_
  rintro e w2 ⟨rfl, hb2⟩
  have HB2 : Hid (Below w.heap.size w (w2.alloc (.cells #[.int .i64 rk, .int .i64 rs, .int .i64 rq, .int .i64 rt, .int .i64 ro, .string rd, .int .i64 rc] 53))) := (HB1.out.trans (hb2.mono HB1.out.size)).alloc (Nat.le_trans HB1.out.size hb2.size) _
  have HK2 := Lib.hid ((HK1.out.below hb2 HK1.out.lt).alloc (.cells #[.int .i64 rk, .int .i64 rs, .int .i64 rq, .int .i64 rt, .int .i64 ro, .string rd, .int .i64 rc] 53))
  have HT2 := Lib.hid ((kt.below hb2 kt.lt).alloc (.cells #[.int .i64 rk, .int .i64 rs, .int .i64 rq, .int .i64 rt, .int .i64 ro, .string rd, .int .i64 rc] 53))
  have hlt2 : nb < w2.heap.size := Nat.lt_of_lt_of_le kt.lt hb2.size
  have HR2 := Lib.hid (isBlk_new w2 53 [.int .i64 rk, .int .i64 rs, .int .i64 rq, .int .i64 rt, .int .i64 ro, .string rd, .int .i64 rc])
  clear hb2 kt HK1 HG1 HRD
  have hb3 := HB2.out
  have k3 := HK2.out; have kt3 := HT2.out; have kr3 := HR2.out
  clear HB2 HK2 HT2 HR2
  go_wp2_with fail
  generalize w2.alloc (.cells #[.int .i64 rk, .int .i64 rs, .int .i64 rq, .int .i64 rt, .int .i64 ro, .string rd, .int .i64 rc] 53) = w3 at hb3 k3 kt3 kr3 ⊢
  generalize w2.heap.size = rb at *
  have HB3 := Lib.hid hb3
  obtain ⟨d0, d1, d2, d3, d4, d5⟩ := rcCells k3
  have f0 := k3.free (j := 0); have f1 := k3.free (j := 1); have f2 := k3.free (j := 2); have f3 := k3.free (j := 3); have f4 := k3.free (j := 4); have f5 := k3.free (j := 5)
  have t1 : w3.cell? ⟨nb, 1, none⟩ = some (.int .i64 a) := kt3.cell rfl
  have r0 : w3.cell? ⟨rb, 0, none⟩ = some (.int .i64 rk) := kr3.cell rfl
  have r1 : w3.cell? ⟨rb, 1, none⟩ = some (.int .i64 rs) := kr3.cell rfl
  have r2 : w3.cell? ⟨rb, 2, none⟩ = some (.int .i64 rq) := kr3.cell rfl
  have r3 : w3.cell? ⟨rb, 3, none⟩ = some (.int .i64 rt) := kr3.cell rfl
  have r4 : w3.cell? ⟨rb, 4, none⟩ = some (.int .i64 ro) := kr3.cell rfl
  have r5 : w3.cell? ⟨rb, 5, none⟩ = some (.string rd) := kr3.cell rfl
  have r6 : w3.cell? ⟨rb, 6, none⟩ = some (.int .i64 rc) := kr3.cell rfl
  have hne : nb ≠ w.heap.size := by omega
  have hne2 : w.heap.size ≠ nb := by omega
  have hne3 : rb ≠ w.heap.size := by omega
  have hne4 : w.heap.size ≠ rb := by omega
  have hl1 := k3.lt; have hl2 := kt3.lt; have hl3 := kr3.lt
  clear hb3 k3 kt3 kr3
  go_region
  all_goals
    go_wp2
    refine bodyPost_ret (v := .tuple #[recV ⟨rk, rs, rq, rt, ro, rd⟩, .int .i64 a, .bool (rc == 0)]) (by simp [results, Tryz.results269, go_sem, d0, d1, d2, d3, d4, d5]) rfl ⟨by rw [HR.out]; rfl, ?_⟩
    have h6 := (((((HB3.out.setCell (p := ⟨w.heap.size, 0, none⟩) (Nat.le_refl _) (.int .i64 rk)).setCell (p := ⟨w.heap.size, 1, none⟩) (Nat.le_refl _) (.int .i64 rs)).setCell (p := ⟨w.heap.size, 2, none⟩) (Nat.le_refl _) (.int .i64 rq)).setCell (p := ⟨w.heap.size, 3, none⟩) (Nat.le_refl _) (.int .i64 rt)).setCell (p := ⟨w.heap.size, 4, none⟩) (Nat.le_refl _) (.int .i64 ro)).setCell (p := ⟨w.heap.size, 5, none⟩) (Nat.le_refl _) (.string rd)
    first | exact h6.drew | exact h6
end Go.Proofs.YtloaeglmngcenaaGreatDoor
