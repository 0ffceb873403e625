/-
  Room, of the program and of the document's model.
-/
import Derived.Test.YtkiklcdkliebaaaGreatDoorChecked
import Derived.Test.YtkiklcdkliebaaaGreatDoorMgMount
import Derived.Test.YtkiklcdkliebaaaGreatDoorLgMountS
namespace Go.Proofs.YtkiklcdkliebaaaGreatDoor
open Go.RowKit
open Bt (Rc)

/-- the unused pages of the first blocks that are not bad -/
noncomputable def roomTo (X : List Bk) (k : Nat) : Nat := sumTo (fun i => if (X.getD i zeroBk).bad = true then 0 else 4 - uPre (X.getD i zeroBk).pages) k
theorem roomTo_bad {X : List Bk} {k : Nat} (h : (X.getD k zeroBk).bad = true) : roomTo X (k + 1) = roomTo X k := by unfold roomTo; rw [sumTo, if_pos h]; omega
theorem roomTo_good {X : List Bk} {k : Nat} (h : (X.getD k zeroBk).bad = false) : roomTo X (k + 1) = roomTo X k + (4 - uPre (X.getD k zeroBk).pages) := by unfold roomTo; rw [sumTo, if_neg (by rw [h]; simp)]
theorem roomTo_le (X : List Bk) (k : Nat) : roomTo X k ≤ 4 * k := by
  induction k with
  | zero => simp [roomTo, sumTo]
  | succ k ih => unfold roomTo at *; rw [sumTo]; split <;> omega
noncomputable def roomAns (X : List Bk) : Int := if mntCode X = 0 then (roomTo X X.length : Int) else 0
set_option maxHeartbeats 2000000 in
set_option maxRecDepth 100000 in
theorem impl_room (A : Option Addr) (n ca : Nat) (X : List Bk) (a0 a2 : Addr) (w : World) (hG : ErrType w) (hS : Two w a0 a2) (hX : Small X) (hA : RdBk w w.heap.size A n X) :
    Calls Tryz.prog 30 #[.agg #[.slice A n ca]] w fun e w' => e = .returned (.int .i64 (roomAns X)) ∧ Below w.heap.size w w' := by
  have HL := Lib.hid hA.1
  have HA := Lib.hid hA; have HX := Lib.hid hX; have HS := Lib.hid hS; have HG := Lib.hid hG; clear hA hX hS hG
  go_enter Tryz.func30, Tryz.ntmps30
  go_wp2_with fail
  have hb0 := box_below w (.cells #[.slice A n ca] 34)
  have k0 := isBlk_new w 34 [.slice A n ca]
  change Calls _ _ _ (w.alloc (.cells #[.slice A n ca] 34)) _
  generalize w.alloc (.cells #[.slice A n ca] 34) = W at hb0 k0 ⊢
  refine (mounted_any A n ca X a0 a2 W (HG.out.below hb0) (HS.out.below hb0) HX.out (rd_step HA.out hb0)).mono ?_
  rintro e w2 ⟨Ar, cr, rfl, -, -, hb2⟩
  have HB3 := Lib.hid ((bel_step hb0 hb2).alloc (bel_step hb0 hb2).size (.cells #[.slice Ar (mntList X).length cr] 28))
  have HK3 := Lib.hid ((k0.below hb2 k0.lt).alloc (.cells #[.slice Ar (mntList X).length cr] 28))
  clear hb0 k0 hb2
  have HBAD : Hid (∀ (c : Int), mntCode X = c → c ≠ 0 → roomAns X = 0) := fun c h h0 => by unfold roomAns; rw [h, if_neg h0]
  rcases mnt_codes X with h | h | h
  · have HC : Hid (roomAns X = (roomTo X n : Int)) := by show _ = _; unfold roomAns; rw [h, if_pos rfl, HL.out]
    have HOK := Lib.hid (mnt_right h)
    rw [h, errOf_0]
    clear h HBAD
    have hI := error_iface
    generalize mntList X = Y at *
    have hx3 : (w2.alloc (.cells #[.slice Ar Y.length cr] 28)).cell? ⟨w.heap.size, 0, none⟩ = some (.slice A n ca) := HK3.out.cell rfl
    have hn : n ≤ 12 := by have := HOK.out.1.2; have := HL.out; omega
    go_wp2
    clear hx3 hI
    generalize w2.alloc (.cells #[.slice Ar Y.length cr] 28) = W3 at HB3 HK3 ⊢
    go_loopw [5, 17] (fun s iv wr => ∃ k : Nat, k ≤ n ∧ iv = .int .i64 (k : Nat) ∧ s = .int .i64 (roomTo X k : Nat) ∧ Below w.heap.size w wr ∧ IsBlk wr w.heap.size 34 [.slice A n ca]) (fun _ iv _ => n - (intOf iv).toNat)
    case atStart => exact ⟨0, by omega, rfl, rfl, HB3.out, HK3.out⟩
    case round =>
      obtain ⟨k, hk, rfl, rfl, hbel, hblk⟩ := hrel
      have HW := Lib.hid hbel; have HK := Lib.hid hblk
      have hx0 : wr.cell? ⟨w.heap.size, 0, none⟩ = some (.slice A n ca) := hblk.cell rfl
      have hle := roomTo_le X k
      by_cases hlt : k < n
      · obtain ⟨g, off, pA, pc, rfl, hg, hc0, hc1, hc2, hpg⟩ := (HA.out.below hbel).at hlt
        have hkl : k < X.length := by have := HL.out; omega
        have HPG := Lib.hid (hpg.mono hbel.size)
        have h4 := (HOK.out.2 k hkl).1
        have HBD := Lib.hid (fun h => roomTo_bad (X := X) (k := k) h); have HGD := Lib.hid (fun h => roomTo_good (X := X) (k := k) h)
        clear hpg hblk hbel
        generalize X.getD k zeroBk = b at hc0 hc1 hc2 HPG h4 HBD HGD
        obtain ⟨ps, er, bd⟩ := b
        simp only at hc0 hc1 hc2 HPG h4 HBD HGD
        obtain ⟨a, b, c, d, rfl⟩ := four_of_length h4
        clear h4
        cases bd with
        | true =>
          have HT := Lib.hid (HBD.out rfl)
          clear HBD HGD
          go_wp2
          go_roundw
          case rel => exact ⟨k + 1, by omega, by go_num, by rw [HT.out], HW.out, HK.out⟩
          case measure => simp [intOf]; omega
        | false =>
          have HT := Lib.hid (HGD.out rfl)
          clear HBD HGD
          go_wp2_with fail
          refine (pagesOf_any pA pc a b c d er false wr HPG.out).mono ?_
          rintro e w3 ⟨rfl, hb3⟩
          have HB4 := Lib.hid (bel_step HW.out hb3)
          have HK4 := Lib.hid (HK.out.below hb3 HK.out.lt)
          clear hb3
          go_wp2_with fail
          refine (used_any a b c d w3).mono ?_
          rintro e w4 ⟨rfl, hb4⟩
          have HB5 := Lib.hid (bel_step HB4.out hb4)
          have HK5 := Lib.hid (HK4.out.below hb4 HK4.out.lt)
          have hu4 : uPre [a, b, c, d] ≤ 4 := uPre_le [a, b, c, d]
          clear hb4
          generalize uPre [a, b, c, d] = u at *
          generalize roomTo X k = s at *
          have hw1 : IntKind.i64.wrap (4 - (u : Int)) = 4 - (u : Int) := IntWalk.i64_in _ (by omega)
          have hw2 : IntKind.i64.wrap ((s : Int) + (4 - (u : Int))) = (s : Int) + (4 - (u : Int)) := IntWalk.i64_in _ (by omega)
          go_wp2
          go_roundw
          case rel => exact ⟨k + 1, by omega, by go_num, by rw [HT.out]; congr 1; omega, HB5.out, HK5.out⟩
          case measure => simp [intOf]; omega
      · obtain rfl : k = n := by omega
        clear hbel hblk
        go_wp2
        go_ret
        exact ⟨ret_i HC.out.symm, HW.out⟩
  · have HC := Lib.hid (HBAD.out 1 h (by decide))
    rw [h, errOf_1]
    clear h HBAD
    have hI := error_iface
    go_wp2
    go_ret
    exact ⟨ret_i HC.out.symm, HB3.out⟩
  · have HC := Lib.hid (HBAD.out 10 h (by decide))
    rw [h, errOf_10]
    clear h HBAD
    have hI := error_iface
    go_wp2
    go_ret
    exact ⟨ret_i HC.out.symm, HB3.out⟩

set_option maxHeartbeats 2000000 in
set_option maxRecDepth 100000 in
theorem spec_room (A : Option Addr) (n ca : Nat) (X : List Bk) (w : World) (hX : Small X) (hA : RdBk w w.heap.size A n X) :
    Calls Tryz.prog 29 #[.agg #[.slice A n ca]] w fun e w' => e = .returned (.int .i64 (roomAns X)) ∧ Below w.heap.size w w' := by
  have HL := Lib.hid hA.1
  have HA := Lib.hid hA; have HX := Lib.hid hX; clear hA hX
  go_enter Tryz.func29, Tryz.ntmps29
  go_wp2_with fail
  have hb0 := box_below w (.cells #[.slice A n ca] 34)
  have k0 := isBlk_new w 34 [.slice A n ca]
  change Calls _ _ _ (w.alloc (.cells #[.slice A n ca] 34)) _
  generalize w.alloc (.cells #[.slice A n ca] 34) = W at hb0 k0 ⊢
  refine (spec_mount A n ca X W HX.out (rd_step HA.out hb0)).mono ?_
  rintro e w2 ⟨Ar, cr, rfl, -, hb2⟩
  have HB3 := Lib.hid (bel_step hb0 hb2)
  have HK3 := Lib.hid (k0.below hb2 k0.lt)
  have hfc := ho_code
  clear hb0 k0 hb2
  by_cases h : mntCode X = 0
  case neg =>
    have HC : Hid (roomAns X = 0) := by show _ = _; unfold roomAns; rw [if_neg h]
    have hb : (mntCode X == 0) = false := by simpa using h
    generalize mntList X = Y at *
    generalize mntCode X = C at *
    go_wp2
    go_ret
    exact ⟨ret_i HC.out.symm, HB3.out⟩
  have HC : Hid (roomAns X = (roomTo X n : Int)) := by show _ = _; unfold roomAns; rw [if_pos h, HL.out]
  have HOK := Lib.hid (mnt_right h)
  have hn : n ≤ 12 := by have := HOK.out.1.2; have := HL.out; omega
  have hx3 : w2.cell? ⟨w.heap.size, 0, none⟩ = some (.slice A n ca) := HK3.out.cell rfl
  rw [h]
  clear h
  generalize mntList X = Y at *
  go_wp2
  clear hfc hx3
  go_loopw [3, 4] (fun s iv wr => ∃ k : Nat, k ≤ n ∧ iv = .int .i64 (k : Nat) ∧ s = .int .i64 (roomTo X k : Nat) ∧ Below w.heap.size w wr ∧ IsBlk wr w.heap.size 34 [.slice A n ca]) (fun _ iv _ => n - (intOf iv).toNat)
  case atStart => exact ⟨0, by omega, rfl, rfl, HB3.out, HK3.out⟩
  case round =>
    obtain ⟨k, hk, rfl, rfl, hbel, hblk⟩ := hrel
    have HW := Lib.hid hbel; have HK := Lib.hid hblk
    have hx0 : wr.cell? ⟨w.heap.size, 0, none⟩ = some (.slice A n ca) := hblk.cell rfl
    have hle := roomTo_le X k
    by_cases hlt : k < n
    · obtain ⟨g, off, pA, pc, rfl, hg, hc0, hc1, hc2, hpg⟩ := (HA.out.below hbel).at hlt
      have hkl : k < X.length := by have := HL.out; omega
      have HPG := Lib.hid (hpg.mono hbel.size)
      have h4 := (HOK.out.2 k hkl).1
      have HNU := Lib.hid (nUsed_ok (HOK.out.2 k hkl))
      have HBD := Lib.hid (fun h => roomTo_bad (X := X) (k := k) h); have HGD := Lib.hid (fun h => roomTo_good (X := X) (k := k) h)
      clear hpg hblk hbel
      generalize X.getD k zeroBk = b at hc0 hc1 hc2 HPG h4 HBD HGD HNU
      obtain ⟨ps, er, bd⟩ := b
      simp only at hc0 hc1 hc2 HPG h4 HBD HGD HNU
      rw [h4] at hc0 HPG
      have hu4 : uPre ps ≤ 4 := by rw [← h4]; exact uPre_le ps
      clear h4
      cases bd with
      | true =>
        have HT := Lib.hid (HBD.out rfl)
        clear HBD HGD
        go_wp2
        go_roundw
        case rel => exact ⟨k + 1, by omega, by go_num, by rw [HT.out], HW.out, HK.out⟩
        case measure => simp [intOf]; omega
      | false =>
        have HT := Lib.hid (HGD.out rfl)
        clear HBD HGD
        have hw0 : IntKind.i64.wrap ((roomTo X k : Int) + 4) = (roomTo X k : Int) + 4 := IntWalk.i64_in _ (by omega)
        go_wp2_with fail
        refine (l02Used_any pA 4 pc ps er false wr (by omega) HPG.out).mono ?_
        rintro e w3 ⟨rfl, hb3⟩
        rw [HNU.out]
        have HB4 := Lib.hid (bel_step HW.out hb3)
        have HK4 := Lib.hid (HK.out.below hb3 HK.out.lt)
        clear hb3 HNU
        generalize uPre ps = u at *
        generalize roomTo X k = s at *
        have hw2 : IntKind.i64.wrap ((s : Int) + 4 - (u : Int)) = (s : Int) + 4 - (u : Int) := IntWalk.i64_in _ (by omega)
        go_wp2
        go_roundw
        case rel => exact ⟨k + 1, by omega, by go_num, by rw [HT.out]; congr 1; omega, HB4.out, HK4.out⟩
        case measure => simp [intOf]; omega
    · obtain rfl : k = n := by omega
      clear hbel hblk
      go_wp2
      go_ret
      exact ⟨ret_i HC.out.symm, HW.out⟩
end Go.Proofs.YtkiklcdkliebaaaGreatDoor
