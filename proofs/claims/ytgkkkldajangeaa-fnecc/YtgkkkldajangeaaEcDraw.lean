/-
  What the law of error correction draws: a word, and a word with a code. No condition.
-/
import Derived.Test.YtgkkkldajangeaaProg
import Derived.KernelRfl
import Derived.Test.YtgkkkldajangeaaEcS
import Derived.Test.YtgkkkldajangeaaDrMore
import Derived.Deep.RegionLaw
namespace Go.Proofs.Ytgkkkldajangeaa
open Go.RowKit

theorem flip_byte (x p : Nat) (hx : x < 256) (hp : p < 8) : ∃ c : UInt8, bits .xor .u8 (x : Int) (IntKind.u8.wrap (2 ^ p)) = (c.toNat : Int) := by
  have hpw : 2 ^ p < 256 := by
    calc 2 ^ p < 2 ^ 8 := Nat.pow_lt_pow_right (by omega) hp
      _ = 256 := rfl
  have hl : x ^^^ 2 ^ p < 256 := Nat.xor_lt_two_pow (n := 8) hx hpw
  refine ⟨UInt8.ofNat (x ^^^ 2 ^ p), ?_⟩
  rw [show (UInt8.ofNat (x ^^^ 2 ^ p)).toNat = x ^^^ 2 ^ p by rw [UInt8.toNat_ofNat']; omega, ← u8_xor_nat x (2 ^ p) hx hpw, IntKind.wrap_u8']
  congr 1
  have : ((2 : Int) ^ p) = ((2 ^ p : Nat) : Int) := by simp
  rw [this]
  generalize 2 ^ p = z at hpw
  omega

theorem bel_ec {B s : Nat} {w w1 w2 : World} (h : Below B w w1) (hB : B ≤ s) (hs : s < w1.heap.size) (hb : Btw s (s + 1) w1 w2) : Below B w w2 :=
  h.trans ⟨hb.os, hb.tape, hb.output, hb.size, fun i hi => hb.block i (by omega) (Or.inl (by omega))⟩
/-- a drawn text of at most 61 bytes -/
def RetWord (w : World) (s : Nat) (e : Ending) (w' : World) : Prop := ∃ t : ByteArray, e = .returned (.string t) ∧ t.size ≤ 61 ∧ Src w' s ∧ Btw s (s + 1) w w'
set_option maxRecDepth 100000 in
theorem draw_word (s : Nat) (w : World) (hS : Src w s) : Calls Try.prog 72 #[.pointer (some ⟨s, 0, none⟩)] w (RetWord w s) := by
  have HS := Lib.hid hS; clear hS
  have hsl := HS.out.lt
  go_enter Try.func72, Try.ntmps72
  go_wp2_with fail
  refine (draw_one s 10 w (by omega) HS.out).mono ?_
  rintro e w1 ⟨b, rfl, hS1, hb1⟩
  have HS1 := Lib.hid hS1; have HB1 := Lib.hid hb1; clear hS1 hb1 HS
  cases b
  · go_wp2_with fail
    refine (draw_n s 20 w1 (by omega) HS1.out).mono ?_
    rintro e w2 ⟨r, rfl, hr, hS2, hb2⟩
    have hr := hr (by omega)
    have HS2 := Lib.hid hS2; have HB2 := Lib.hid (HB1.out.trans hb2); clear hS2 hb2 HS1 HB1
    go_wp2_with fail
    refine (draw_bytes s r w2 (by omega) HS2.out).mono ?_
    rintro e w3 ⟨t, rfl, ht, hS3, hb3⟩
    have HS3 := Lib.hid hS3; have HB3 := Lib.hid (HB2.out.trans hb3); clear hS3 hb3 HS2 HB2
    go_wp2
    go_ret
    exact ⟨t, rfl, by omega, HS3.out, HB3.out⟩
  · go_wp2_with fail
    refine (draw_n s 3 w1 (by omega) HS1.out).mono ?_
    rintro e w2 ⟨r, rfl, hr, hS2, hb2⟩
    have hr := hr (by omega)
    have HS2 := Lib.hid hS2; have HB2 := Lib.hid (HB1.out.trans hb2); clear hS2 hb2 HS1 HB1
    have hmk := make_zeros (59 + r) (59 + (r : Int)) (by omega) (by omega) w2
    have hcv := conv_zeros (59 + r) w2
    have HZ : Hid ((zerosT (59 + r)).size ≤ 61) := by show _ ≤ _; rw [show (zerosT (59 + r)).size = 59 + r by simp [zerosT, ByteArray.size]]; omega
    generalize zerosT (59 + r) = zt at hcv HZ
    have HB3 : Hid (Btw s (s + 1) w (w2.alloc (.cells (madeCells #[.int .u8 0] (59 + r)) 5))) := HB2.out.alloc _
    have HS3 : Hid (Src (w2.alloc (.cells (madeCells #[.int .u8 0] (59 + r)) 5)) s) := HS2.out.same fun k hk => Below.heap_alloc _ _ _ (by have := HS2.out.lt; omega)
    go_wp2
    go_ret
    exact ⟨zt, rfl, HZ.out, HS3.out, HB3.out⟩

set_option maxRecDepth 100000 in
theorem drawEccOf_any (A : Option Addr) (n c : Nat) (w : World) (hn : n ≤ 1048576) (hA : RdBy w w.heap.size A n) :
    Calls Try.prog 37 #[.slice A n c] w (fun e w' => ∃ t : ByteArray, e = .returned (.string t) ∧ t.size ≤ 61 ∧ Below w.heap.size w w') := by
  have HA := Lib.hid hA; clear hA
  go_enter Try.func37, Try.ntmps37
  go_wp2_with fail
  refine (draw_source n c A _ hn HA.out).mono ?_
  rintro e w1 ⟨s, rfl, hs1, hS1, hb1⟩
  have HS1 := Lib.hid hS1
  have HB1 := Lib.hid hb1; clear hS1 hb1
  go_wp2_with fail
  refine (draw_word s w1 HS1.out).mono ?_
  rintro e w2 ⟨t, rfl, ht, hS2, hb2⟩
  have HB2 := Lib.hid (bel_ec HB1.out hs1 HS1.out.lt hb2); clear hS2 hb2
  go_wp2
  go_ret
  exact ⟨t, rfl, ht, HB2.out⟩

/-- while a word is spoiled: the source -/
structure EAt (w w' : World) (s : Nat) : Prop where
  src : Src w' s
  bt : Below w.heap.size w w'

set_option maxHeartbeats 1000000 in
set_option maxRecDepth 100000 in
theorem drawEccFix_any (A : Option Addr) (n c : Nat) (w : World) (hn : n ≤ 1048576) (hA : RdBy w w.heap.size A n) :
    Calls Try.prog 39 #[.slice A n c] w (fun e w' => ∃ (t : ByteArray) (z : Int), e = .returned (.tuple #[.string t, .int .i64 z]) ∧ t.size ≤ 61 ∧ -9223372036854775808 ≤ z ∧ z ≤ 9223372036854775807 ∧ Below w.heap.size w w') := by
  have HA := Lib.hid hA; clear hA
  go_enter Try.func39, Try.ntmps39
  go_wp2_with fail
  refine (draw_source n c A _ hn HA.out).mono ?_
  rintro e w1 ⟨s, rfl, hs1, hS1, hb1⟩
  have HS1 := Lib.hid hS1
  have HB1 := Lib.hid hb1; clear hS1 hb1
  go_wp2_with fail
  refine (draw_word s w1 HS1.out).mono ?_
  rintro e w2 ⟨t, rfl, ht, hS2, hb2⟩
  have HB2 := Lib.hid (bel_ec HB1.out hs1 HS1.out.lt hb2); have HS2 := Lib.hid hS2; clear hS2 hb2 HS1 HB1
  go_wp2_with fail
  refine (spec_eccOf t w2 (by unfold maxLen; omega)).mono ?_
  rintro e w3 ⟨rfl, rfl⟩
  obtain ⟨z, hz, hz1, hz2⟩ : ∃ z : Int, Bt.eccAns t = z ∧ -1 ≤ z ∧ z ≤ 1024 := by
    refine ⟨_, rfl, ?_⟩
    unfold Bt.eccAns
    split
    · omega
    · have := Bt.eccN_lt (l := t.data.toList) (show t.size ≤ 60 by omega); omega
  rw [hz]; clear hz
  go_wp2_with fail
  refine (draw_one s 8 w2 (by omega) HS2.out).mono ?_
  rintro e w4 ⟨b, rfl, hS4, hb4⟩
  have HB4 := Lib.hid (bel_ec HB2.out hs1 HS2.out.lt hb4); have HS4 := Lib.hid hS4; clear hS4 hb4 HS2 HB2
  cases b
  · go_wp2_with fail
    refine (draw_n s 4 w4 (by omega) HS4.out).mono ?_
    rintro e w5 ⟨r, rfl, hr, hS5, hb5⟩
    have hr := hr (by omega)
    have HB5 := Lib.hid (bel_ec HB4.out hs1 HS4.out.lt hb5); have HS5 := Lib.hid hS5; clear hS5 hb5 HS4 HB4
    have H0 : Hid (EAt w w5 s) := ⟨HS5.out, HB5.out⟩
    clear HB5 HS5
    go_wp2_with fail
    go_loopw [5, 7] (fun tv kv wr => ∃ (t : ByteArray) (k : Nat), tv = .string t ∧ kv = .int .i64 k ∧ t.size ≤ 61 ∧ k ≤ 3 ∧ Hid (EAt w wr s)) (fun _ kv _ => (intOf kv).toNat)
    case atStart => exact ⟨t, r, rfl, rfl, ht, by omega, H0⟩
    case round =>
      clear H0 ht
      obtain ⟨t, k, rfl, rfl, ht, hk3, HE⟩ := hrel
      by_cases h : 0 < k ∧ 0 < t.size
      · obtain ⟨hk, hts⟩ := h
        obtain ⟨cap, W, hc, hz, hb, hr⟩ := bytes_row t wr
        have HEW : Hid (EAt w W s) := ⟨HE.out.src.below hb HE.out.src.lt, HE.out.bt.trans (hb.mono HE.out.bt.size)⟩
        have HR := Lib.hid hr
        have hsl := HE.out.src.lt
        clear hr hb
        go_wp2_with fail
        refine (draw_n s t.size W (by omega) HEW.out.src).mono ?_
        rintro e w6 ⟨q, rfl, hq, hS6, hb6⟩
        have hq := hq (by omega)
        have HR6 : Hid (ByRow w6 wr.heap.size t.data.toList) := by
          obtain ⟨more, m, hm, hh⟩ := HR.out
          exact ⟨more, m, hm, (hb6.block _ HR.out.lt (by omega)).trans hh⟩
        have HE6 : Hid (EAt w w6 s) := ⟨hS6, bel_ec HEW.out.bt hs1 HEW.out.src.lt hb6⟩
        have hz6 := hb6.size
        clear hS6 hb6 HEW HR
        have hql : q < t.data.toList.length := by show q < t.size; omega
        have c0 := HR6.out.cell hql
        have f0 := HR6.out.free hql
        have hxl := (t.data.toList.getD q 0).toNat_lt
        generalize hx : (t.data.toList.getD q 0).toNat = x at c0 hxl
        have HXX : Hid (x = (t.data.toList.getD q 0).toNat) := hx.symm
        clear hx
        have hin : 0 ≤ (q : Int) ∧ (q : Int) < (t.size : Int) := by omega
        go_wp2_with fail
        go_region_law (
              (go_simp
               go_at_call 49
               refine (draw_n s 8 w6.drew (by omega) (HE6.out.src.same fun _ _ => rfl)).mono ?_
               rintro e w7 ⟨p, rfl, hp, hS7, hb7⟩
               have hp := hp (by omega)
               have hb7' : Btw s (s + 1) w6 w7 := ⟨hb7.os, hb7.tape, hb7.output, hb7.size, hb7.block⟩
               clear hb7
               have HR7 : Hid (ByRow w7 wr.heap.size t.data.toList) := by
                 obtain ⟨more, m, hm, hh⟩ := HR6.out
                 exact ⟨more, m, hm, (hb7'.block _ HR6.out.lt (by omega)).trans hh⟩
               have HE7 : Hid (EAt w w7 s) := ⟨hS7, bel_ec HE6.out.bt hs1 HE6.out.src.lt hb7'⟩
               clear hS7 hb7'
               have c7 : w7.cell? ⟨wr.heap.size, q, none⟩ = some (.int .u8 (x : Int)) := by rw [HXX.out]; exact HR7.out.cell hql
               have f7 := HR7.out.free hql
               obtain ⟨y, hx8⟩ := flip_byte x p hxl (by omega)
               have hcv := row_text (n := t.size) (c := cap) (HR7.out.set hql y) (by rw [List.length_set]; rfl)
               have HEF : Hid (EAt w (w7.setCell ⟨wr.heap.size, q, none⟩ (.int .u8 (y.toNat : Int))) s) := ⟨HE7.out.src.same fun i hi => Below.heap_setCell _ _ _ _ (by dsimp only; omega), HE7.out.bt.setCell (by dsimp only; omega) _⟩
               have hml : 8 ≤ 8 := Nat.le_refl _))
        all_goals go_wp2
        all_goals
          go_roundw
          case rel => exact ⟨_, k - 1, rfl, by congr 1; omega, by rw [bstr_size, List.length_set]; exact ht, by omega, HEF⟩
          case measure => simp [intOf]; omega
      · have hcond : ¬ 0 < (k : Int) ∨ ¬ 0 < (t.size : Int) := by omega
        have hsl := HE.out.src.lt
        by_cases hk0 : 0 < (k : Int)
        · have ht0 : ¬ 0 < (t.size : Int) := by omega
          go_wp2_with fail
          refine (draw_one s 8 wr (by omega) HE.out.src).mono ?_
          rintro e w8 ⟨b, rfl, hS8, hb8⟩
          have HB8 := Lib.hid (bel_ec HE.out.bt hs1 hsl hb8); have HS8 := Lib.hid hS8; clear hS8 hb8
          cases b
          · go_wp2_with fail
            go_ret2
            exact ⟨t, z, rfl, ht, by omega, by omega, HB8.out⟩
          · go_wp2_with fail
            refine (draw_n s 1025 w8 (by omega) HS8.out).mono ?_
            rintro e w9 ⟨q, rfl, hq, hS9, hb9⟩
            have hq := hq (by omega)
            have HB9 := Lib.hid (bel_ec HB8.out hs1 HS8.out.lt hb9); clear hS9 hb9
            go_wp2
            go_ret2
            exact ⟨t, q, rfl, ht, by omega, by omega, HB9.out⟩
        · go_wp2_with fail
          refine (draw_one s 8 wr (by omega) HE.out.src).mono ?_
          rintro e w8 ⟨b, rfl, hS8, hb8⟩
          have HB8 := Lib.hid (bel_ec HE.out.bt hs1 hsl hb8); have HS8 := Lib.hid hS8; clear hS8 hb8
          cases b
          · go_wp2_with fail
            go_ret2
            exact ⟨t, z, rfl, ht, by omega, by omega, HB8.out⟩
          · go_wp2_with fail
            refine (draw_n s 1025 w8 (by omega) HS8.out).mono ?_
            rintro e w9 ⟨q, rfl, hq, hS9, hb9⟩
            have hq := hq (by omega)
            have HB9 := Lib.hid (bel_ec HB8.out hs1 HS8.out.lt hb9); clear hS9 hb9
            go_wp2
            go_ret2
            exact ⟨t, q, rfl, ht, by omega, by omega, HB9.out⟩
  · go_wp2_with fail
    refine (draw_edge s w4 HS4.out).mono ?_
    rintro e w5 ⟨q, rfl, hq1, hq2, hS5, hb5⟩
    have HB5 := Lib.hid (bel_ec HB4.out hs1 HS4.out.lt hb5); clear hS5 hb5
    go_wp2
    go_ret2
    exact ⟨t, q, rfl, ht, hq1, hq2, HB5.out⟩
end Go.Proofs.Ytgkkkldajangeaa
