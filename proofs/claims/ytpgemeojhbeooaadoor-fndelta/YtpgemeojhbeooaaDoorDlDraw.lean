/-
  The draws of chapter 10: two texts that are alike in part.
-/
import Derived.Test.YtpgemeojhbeooaaDoorProg
import Derived.KernelRfl
import Derived.Test.YtpgemeojhbeooaaDoorDrMore
import Derived.Test.YtpgemeojhbeooaaDoorDrRec
import Derived.Test.YtpgemeojhbeooaaDoorDlMem
namespace Go.Proofs.YtpgemeojhbeooaaDoor
open Go.RowKit
open Bt (Dop)

theorem pick3_at {a b c : ByteArray} {m : Nat} (ha : a.size ≤ m) (hb : b.size ≤ m) (hc : c.size ≤ m) : (r : Nat) → r < 3 → ∃ t : ByteArray, t.size ≤ m ∧ [Value.string a, .string b, .string c][r]? = some (.string t)
  | 0, _ => ⟨a, ha, rfl⟩
  | 1, _ => ⟨b, hb, rfl⟩
  | 2, _ => ⟨c, hc, rfl⟩
  | r + 3, h => absurd h (by omega)
set_option maxRecDepth 100000 in
theorem draw_pick3 (s g m : Nat) (a b c : ByteArray) (w : World) (hS : Src w s) (hg : s ≠ g) (hk : IsBlk w g 9 [.string a, .string b, .string c]) (ha : a.size ≤ m) (hb : b.size ≤ m) (hc : c.size ≤ m) :
    Calls Tryd.prog 49 #[.pointer (some ⟨s, 0, none⟩), .slice (some ⟨g, 0, none⟩) 3 3] w (fun e w' => ∃ t : ByteArray, e = .returned (.string t) ∧ t.size ≤ m ∧ Src w' s ∧ Btw s (s + 1) w w') := by
  have HS := Lib.hid hS; have HK := Lib.hid hk; clear hS hk
  have hsl := HS.out.lt
  go_enter Tryd.func49, Tryd.ntmps49
  go_wp2_with fail
  refine (draw_n s 3 w (by omega) HS.out).mono ?_
  rintro e w1 ⟨r, rfl, hr, hS1, hb1⟩
  have hr := hr (by omega)
  obtain ⟨t, ht, hz3⟩ := pick3_at ha hb hc r (by omega)
  have hk1 : IsBlk w1 g 9 [.string a, .string b, .string c] := (hb1.block _ HK.out.lt (by omega)).trans HK.out
  have cz : w1.cell? ⟨g, r, none⟩ = some (.string t) := hk1.cell hz3
  have HS1 := Lib.hid hS1; have HB1 := Lib.hid hb1; clear hS1 hb1 hk1 hz3
  go_wp2
  go_ret
  exact ⟨_, rfl, ht, HS1.out, HB1.out⟩

/-- a source that was drawn from, and what else is new -/
structure DrAt (w w' : World) (s : Nat) : Prop where
  src : Src w' s
  bt : Btw s (s + 1) w w'
theorem DrAt.draw {w w1 w2 : World} {s : Nat} (h : DrAt w w1 s) (hs : Src w2 s) (hb : Btw s (s + 1) w1 w2) : DrAt w w2 s := ⟨hs, h.bt.trans hb⟩
theorem DrAt.alloc {w w1 : World} {s : Nat} (h : DrAt w w1 s) (o : Obj) : DrAt w (w1.alloc o) s := ⟨h.src.same fun k hk => Below.heap_alloc _ _ _ (by have := h.src.lt; omega), h.bt.alloc o⟩

theorem DrAt.set {w w1 : World} {s : Nat} (h : DrAt w w1 s) {g j : Nat} (hg : w.heap.size ≤ g) (hs : s < g) (u : Value) : DrAt w (w1.setCell ⟨g, j, none⟩ u) s :=
  ⟨h.src.same fun k hk => Below.heap_setCell _ _ _ _ (by dsimp only; omega), h.bt.setCell (.inr hg) _⟩
theorem slice_to (s : ByteArray) (i r : Nat) (h : i + r ≤ s.size) (W : World) : (Instr.slice 9 (.string s) (some (.int .i64 (i : Int))) (some (.int .i64 ((i : Int) + (r : Int)))) none).run Tryd.prog W = .ok (.string (s.extract i (i + r))) W := by
  rw [run_slice_string W 9 s .i64 .i64 (i : Int) ((i : Int) + (r : Int)) Tryd.underlying9 (by omega) (by omega) (by omega)]
  have e : ((i : Int) + (r : Int)).toNat = i + r := by omega
  rw [e, Int.toNat_natCast]
theorem set_byte (l : List UInt8) (i : Nat) (c : UInt8) : (l.map byteV).set i (byteV c) = (l.set i c).map byteV := by rw [List.map_set]
/-- what l09Pair answers -/
def RetPair (w : World) (s : Nat) (e : Ending) (w' : World) : Prop :=
  ∃ b t : ByteArray, e = .returned (.tuple #[.string b, .string t]) ∧ b.size ≤ 1000 ∧ t.size ≤ 1000 ∧ Src w' s ∧ Btw s (s + 1) w w'

set_option maxHeartbeats 8000000 in
set_option maxRecDepth 100000 in
theorem draw_pair (s : Nat) (w : World) (hS : Src w s) : Calls Tryd.prog 25 #[.pointer (some ⟨s, 0, none⟩)] w (RetPair w s) := by
  have hsl := hS.lt
  have HS := Lib.hid hS; clear hS
  go_enter Tryd.func25, Tryd.ntmps25
  go_wp2_with fail
  refine (draw_n s 12 w (by omega) HS.out).mono ?_
  rintro e w1 ⟨r1, rfl, hr1, hS1, hb1⟩
  have hr1 := hr1 (by omega)
  have D1 : Hid (DrAt w w1 s) := ⟨hS1, hb1⟩
  clear hS1 hb1
  go_wp2_with fail
  refine (draw_bytes s r1 w1 (by omega) D1.out.src).mono ?_
  rintro e w2 ⟨t1, rfl, hz1, hS2, hb2⟩
  have D2 : Hid (DrAt w w2 s) := D1.out.draw hS2 hb2
  have hs2 : s < w2.heap.size := hS2.lt
  clear hS2 hb2 D1
  go_wp2_with fail
  have hk3 := isBlk_new w2 9 [Value.string ⟨#[]⟩, .string ⟨#[97, 98, 99, 97, 98, 99, 100]⟩, .string ⟨#[104, 101, 108, 108, 111]⟩]
  have D2a := D2.out.alloc (.cells #[Value.string ⟨#[]⟩, .string ⟨#[97, 98, 99, 97, 98, 99, 100]⟩, .string ⟨#[104, 101, 108, 108, 111]⟩] 9)
  change Calls _ _ _ (w2.alloc (.cells #[Value.string ⟨#[]⟩, .string ⟨#[97, 98, 99, 97, 98, 99, 100]⟩, .string ⟨#[104, 101, 108, 108, 111]⟩] 9)) _
  refine (draw_pick3 s w2.heap.size 7 _ _ _ _ D2a.src (by omega) hk3 (by decide) (by decide) (by decide)).mono ?_
  rintro e w3 ⟨tp, rfl, hzp, hS3, hb3⟩
  have D3 : Hid (DrAt w w3 s) := D2a.draw hS3 hb3
  obtain ⟨u1, hu1, q1⟩ := add_ex t1 tp (by omega)
  clear hS3 hb3 D2a hk3 D2 hs2
  go_wp2_with fail
  refine (draw_n s 8 w3 (by omega) D3.out.src).mono ?_
  rintro e w4 ⟨r2, rfl, hr2, hS4, hb4⟩
  have hr2 := hr2 (by omega)
  have D4 : Hid (DrAt w w4 s) := D3.out.draw hS4 hb4
  clear hS4 hb4 D3
  go_wp2_with fail
  refine (draw_bytes s r2 w4 (by omega) D4.out.src).mono ?_
  rintro e w5 ⟨t2, rfl, hz2, hS5, hb5⟩
  have D5 : Hid (DrAt w w5 s) := D4.out.draw hS5 hb5
  obtain ⟨base, hu2, q2⟩ := add_ex u1 t2 (by omega)
  have hbase : base.size ≤ 25 := by omega
  clear hS5 hb5 D4
  go_wp2_with fail
  refine (draw_n s 5 w5 (by omega) D5.out.src).mono ?_
  rintro e w6 ⟨r3, rfl, hr3, hS6, hb6⟩
  have hr3 := hr3 (by omega)
  have D6 : Hid (DrAt w w6 s) := D5.out.draw hS6 hb6
  clear hS6 hb6 D5 q1 q2 hu1 hu2 hz1 hz2 hzp hr1 hr2
  go_wp2_with fail
  go_loopw [5, 6] (fun x i wr => ∃ (k : Nat) (tx : ByteArray), k ≤ 4 ∧ i = .int .i64 (k : Nat) ∧ x = .string tx ∧ tx.size + 25 * k ≤ 100 ∧ Hid (DrAt w wr s)) (fun _ i wr => (intOf i).toNat)
  case atStart => exact ⟨r3, ⟨#[]⟩, by omega, rfl, rfl, by show 0 + 25 * r3 ≤ 100; omega, D6⟩
  case round =>
    obtain ⟨k, tx, hk, rfl, rfl, htx, DW⟩ := hrel
    clear D6 hr3
    by_cases hk0 : 0 < k
    · by_cases hbz : 0 < base.size
      · go_wp2_with fail
        refine (draw_one s 3 wr (by omega) DW.out.src).mono ?_
        rintro e v1 ⟨bb, rfl, hS1, hb1⟩
        have E1 : Hid (DrAt w v1 s) := DW.out.draw hS1 hb1
        clear hS1 hb1
        cases bb with
        | true =>
          go_wp2_with fail
          refine (draw_n s 5 v1 (by omega) E1.out.src).mono ?_
          rintro e v2 ⟨r, rfl, hr, hS2, hb2⟩
          have hr := hr (by omega)
          have E2 : Hid (DrAt w v2 s) := E1.out.draw hS2 hb2
          clear hS2 hb2
          go_wp2_with fail
          refine (draw_bytes s r v2 (by omega) E2.out.src).mono ?_
          rintro e v3 ⟨t3, rfl, hz3, hS3, hb3⟩
          have E3 : Hid (DrAt w v3 s) := E2.out.draw hS3 hb3
          obtain ⟨ty, hty, q3⟩ := add_ex tx t3 (by omega)
          clear hS3 hb3
          go_wp2
          go_roundw
          case rel => exact ⟨k - 1, ty, by omega, by go_num, rfl, by omega, E3⟩
          case measure => simp [intOf]; omega
        | false =>
          go_wp2_with fail
          refine (draw_n s (base.size : Int) v1 (by omega) E1.out.src).mono ?_
          rintro e v2 ⟨i, rfl, hi, hS2, hb2⟩
          have hi := hi (by omega)
          have E2 : Hid (DrAt w v2 s) := E1.out.draw hS2 hb2
          clear hS2 hb2
          go_wp2_with fail
          refine (draw_n s ((base.size : Int) - (i : Int) + 1) v2 (by omega) E2.out.src).mono ?_
          rintro e v3 ⟨r, rfl, hr, hS3, hb3⟩
          have hr := hr (by omega)
          have E3 : Hid (DrAt w v3 s) := E2.out.draw hS3 hb3
          have q0 := slice_to base i r (by omega)
          obtain ⟨ty, hty, q3⟩ := add_ex tx (base.extract i (i + r)) (by rw [ByteArray.size_extract]; omega)
          rw [ByteArray.size_extract] at hty
          clear hS3 hb3
          go_wp2
          go_roundw
          case rel => exact ⟨k - 1, ty, by omega, by go_num, rfl, by omega, E3⟩
          case measure => simp [intOf]; omega
      · have hbz' : base.size = 0 := by omega
        have hbd : decide (0 < (base.size : Int)) = false := decide_eq_false (by omega)
        go_wp2_with fail
        refine (draw_n s 5 wr (by omega) DW.out.src).mono ?_
        rintro e v2 ⟨r, rfl, hr, hS2, hb2⟩
        have hr := hr (by omega)
        have E2 : Hid (DrAt w v2 s) := DW.out.draw hS2 hb2
        clear hS2 hb2
        go_wp2_with fail
        refine (draw_bytes s r v2 (by omega) E2.out.src).mono ?_
        rintro e v3 ⟨t3, rfl, hz3, hS3, hb3⟩
        have E3 : Hid (DrAt w v3 s) := E2.out.draw hS3 hb3
        obtain ⟨ty, hty, q3⟩ := add_ex tx t3 (by omega)
        clear hS3 hb3
        go_wp2
        go_roundw
        case rel => exact ⟨k - 1, ty, by omega, by go_num, rfl, by omega, E3⟩
        case measure => simp [intOf]; omega
    · obtain rfl : k = 0 := by omega
      have htx' : tx.size ≤ 1000 := by omega
      clear hk htx hk0
      go_wp2_with fail
      refine (draw_one s 20 wr (by omega) DW.out.src).mono ?_
      rintro e v1 ⟨bb, rfl, hS1, hb1⟩
      have E1 : Hid (DrAt w v1 s) := DW.out.draw hS1 hb1
      clear hS1 hb1 DW
      have hb25 : base.size ≤ 1000 := by omega
      cases bb
      case' true =>
        go_wp2_with fail
        refine (draw_n s 3 v1 (by omega) E1.out.src).mono ?_
        rintro e v2 ⟨r, rfl, hr, hS2, hb2⟩
        have hr := hr (by omega)
        have E2 : Hid (DrAt w v2 s) := E1.out.draw hS2 hb2
        have hmk := make_zeros (199 + r) (199 + (r : Int)) (by omega) (by omega)
        have hcz := conv_zeros (199 + r)
        clear hS2 hb2
        go_wp2_with fail
        have DY := E2.out.alloc (.cells (madeCells #[.int .u8 0] (199 + r)) 5)
        have hbz : (zerosT (199 + r)).size ≤ 1000 := by rw [zerosT_size]; omega
        generalize v2.alloc (.cells (madeCells #[.int .u8 0] (199 + r)) 5) = wy at DY ⊢
        generalize zerosT (199 + r) = bz at hbz ⊢
        clear hmk hcz hr
      case' false =>
        go_wp2_with fail
        have DY := E1.out
        have hbz := hb25
        generalize v1 = wy at DY ⊢
        generalize base = bz at hbz ⊢
      all_goals
        refine (draw_one s 20 wy (by omega) DY.src).mono ?_
        rintro e v7 ⟨b2, rfl, hS7, hb7⟩
        have E7 : Hid (DrAt w v7 s) := DY.draw hS7 hb7
        clear hS7 hb7
        cases b2 with
        | false =>
          go_wp2
          go_ret2
          exact ⟨bz, tx, rfl, hbz, htx', E7.out.src, E7.out.bt⟩
        | true =>
          go_wp2_with fail
          refine (draw_n s 3 v7 (by omega) E7.out.src).mono ?_
          rintro e v8 ⟨r8, rfl, hr8, hS8, hb8⟩
          have hr8 := hr8 (by omega)
          have E8 : Hid (DrAt w v8 s) := E7.out.draw hS8 hb8
          have hs8 := hS8.lt
          have hmk8 := make_zeros (199 + r8) (199 + (r8 : Int)) (by omega) (by omega)
          have hrow := row_made v8 5 #[.int .u8 0] (199 + r8) (fun _ => byteV 0) (fun i _ => by simp [Nat.mod_one, byteV])
          have D9 := E8.out.alloc (.cells (madeCells #[.int .u8 0] (199 + r8)) 5)
          have hs9 : s < v8.heap.size := hs8
          have hnw : w.heap.size ≤ v8.heap.size := E8.out.bt.size
          clear hS8 hb8
          go_wp2_with fail
          generalize v8.alloc (.cells (madeCells #[.int .u8 0] (199 + r8)) 5) = w9 at hrow D9 ⊢
          generalize v8.heap.size = nb at *
          obtain ⟨m, hm⟩ : ∃ m, m = 199 + r8 := ⟨_, rfl⟩
          rw [← hm] at hrow ⊢
          have hm2 : m ≤ 201 := by omega
          have HROW := Lib.hid hrow; have HD9 := Lib.hid D9
          clear hmk8 hrow D9 hm
          go_loopw [10] (fun i wr => ∃ (k : Nat) (f : Nat → UInt8), k ≤ m ∧ i = .int .i64 (k : Nat) ∧ Hid (Row wr nb m (fun j => byteV (f j))) ∧ Hid (DrAt w wr s)) (fun i wr => m - (intOf i).toNat)
          case atStart => exact ⟨0, fun _ => 0, Nat.zero_le _, rfl, HROW, HD9⟩
          case round =>
            obtain ⟨k, f, hk, rfl, HR, HDR⟩ := hrel
            have hnbl := HR.out.lt
            by_cases hkm : k < m
            · have hc := HR.out.cell hkm
              have hf := HR.out.free k
              by_cases h3 : k % 6 < 3
              · go_wp2
                go_roundw
                case rel =>
                  refine ⟨k + 1, fun j => if j = k then 97 else f j, by omega, by go_num, ?_, (HDR.out.set hnw hs9 _).set hnw hs9 _⟩
                  exact ((HR.out.set k (.int .u8 ((k : Int) / 3))).set k (.int .u8 97)).congr (fun j _ => by by_cases e : j = k <;> simp [e, byteV])
                case measure => simp [intOf]; omega
              · go_wp2
                go_roundw
                case rel =>
                  refine ⟨k + 1, fun j => if j = k then UInt8.ofNat (k / 3) else f j, by omega, by go_num, ?_, HDR.out.set hnw hs9 _⟩
                  exact (HR.out.set k (.int .u8 ((k : Int) / 3))).congr (fun j _ => by
                    by_cases e : j = k
                    · simp [e, byteV]; omega
                    · simp [e])
                case measure => simp [intOf]; omega
            · obtain rfl : k = m := by omega
              have hconv := run_convert_bytes_back (P := Tryd.prog) wr 22 9 5 ⟨nb, 0, none⟩ k ((List.range k).map f) Tryd.underlying22 Tryd.underlying5 Tryd.underlying9 (fun j hj => by
                have hj' : j < k := by simpa using hj
                rw [add_plain, HR.out.cell hj']
                simp [byteV])
              rw [show ((List.range k).map f).length = k by simp] at hconv
              have hlen : (⟨((List.range k).map f).toArray⟩ : ByteArray).size ≤ 1000 := by
                have : (bstr ((List.range k).map f)).size = k := by rw [bstr_size]; simp
                show (bstr ((List.range k).map f)).size ≤ 1000
                omega
              go_wp2
              go_ret2
              exact ⟨_, _, rfl, by decide, hlen, HDR.out.src, HDR.out.bt⟩
end Go.Proofs.YtpgemeojhbeooaaDoor
