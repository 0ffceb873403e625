/-
  The contracts of assemble, PutText, Seal and Unseal, of the program and of the model.
-/
import Derived.Test.YtloaeglmngcenaaGreatDoorProg
import Derived.KernelRfl
import Derived.Test.YtloaeglmngcenaaGreatDoorBtPure
import Derived.Test.YtloaeglmngcenaaGreatDoorBtMem
import Derived.Test.YtloaeglmngcenaaGreatDoorBtNum
import Derived.Test.YtloaeglmngcenaaGreatDoorBtCrc
import Derived.WalkKit
import Derived.Lib.Hide
namespace Go.Proofs.YtloaeglmngcenaaGreatDoor
open Go.RowKit

/-- strings one behind another -/
def flat (ps : List ByteArray) : List UInt8 := ps.flatMap (·.data.toList)
theorem len_list (s : ByteArray) : s.data.toList.length = s.size := rfl
theorem flat_nil : flat [] = [] := rfl
theorem flat_snoc (ps : List ByteArray) (s : ByteArray) : flat (ps ++ [s]) = flat ps ++ s.data.toList := by simp [flat]
theorem flat_take_succ {ps : List ByteArray} {k : Nat} (h : k < ps.length) : flat (ps.take (k + 1)) = flat (ps.take k) ++ (ps.getD k ByteArray.empty).data.toList := by
  rw [List.take_succ_eq_append_getElem h, flat_snoc]; simp [List.getD, List.getElem?_eq_getElem h]
theorem flat_take_le (ps : List ByteArray) (k : Nat) : (flat (ps.take k)).length ≤ (flat ps).length := by
  have : flat ps = flat (ps.take k) ++ flat (ps.drop k) := by unfold flat; rw [← List.flatMap_append, List.take_append_drop]
  rw [this]; simp

theorem byte_size : (Tryz.prog.info? 5).map (·.size) = some 1 := by kernel_rfl

set_option maxHeartbeats 2000000 in
set_option maxRecDepth 100000 in
theorem assemble_any (ps : List ByteArray) (g off cap : Nat) (w : World) (hc : ∀ i, i < ps.length → w.cell? ⟨g, off + i, none⟩ = some (.string (ps.getD i ByteArray.empty)))
    (hg : g < w.heap.size) (hn : ps.length ≤ 1000) (hsum : (flat ps).length ≤ 2147483648) :
    Calls Tryz.prog 129 #[.slice (some ⟨g, off, none⟩) ps.length cap] w fun e w' => e = .returned (strV (flat ps)) ∧ Below w.heap.size w w' := by
  have HC := Lib.hid hc; clear hc
  obtain ⟨n, hnn⟩ : ∃ n, n = ps.length := ⟨_, rfl⟩
  rw [← hnn] at hn ⊢
  have HL := Lib.hid hnn; clear hnn
  go_enter Tryz.func129, Tryz.ntmps129
  go_wp2
  go_loop [3, 12] (fun s i => ∃ k : Nat, k ≤ n ∧ i = .int .i64 (k : Nat) ∧ s = .int .i64 ((flat (ps.take k)).length : Nat)) (fun _ i => n - (intOf i).toNat)
  case atStart => exact ⟨0, by omega, rfl, rfl⟩
  case round =>
    obtain ⟨k, hk, rfl, rfl⟩ := hrel
    have hle : (flat (ps.take k)).length ≤ 2147483648 := Nat.le_trans (flat_take_le ps k) hsum
    by_cases hlt : k < n
    · have hck := HC.out k (by have := HL.out; omega)
      have HS := Lib.hid (flat_take_succ (ps := ps) (k := k) (by have := HL.out; omega))
      generalize ps.getD k ByteArray.empty = s at hck HS
      have hs : (flat (ps.take k)).length + s.size ≤ 2147483648 := by
        have h1 := flat_take_le ps (k + 1)
        rw [HS.out] at h1
        rw [List.length_append, len_list] at h1
        omega
      have HS2 : Hid ((flat (ps.take (k + 1))).length = (flat (ps.take k)).length + s.size) := by show _ = _; rw [HS.out, List.length_append, len_list]
      generalize (flat (ps.take k)).length = m at hle hs HS2
      go_wp2
      go_round
      case rel => exact ⟨k + 1, by omega, by go_num, by rw [HS2.out]; go_num⟩
      case measure => simp [intOf]; omega
    · obtain rfl : k = n := by omega
      have HF : Hid (flat (ps.take k) = flat ps) := by show _ = _; rw [HL.out, List.take_length]
      have HM := Lib.hid (rfl : (flat ps).length = (flat ps).length)
      rw [HF.out] at hle ⊢
      obtain ⟨F, hF⟩ : ∃ F, F = flat ps := ⟨_, rfl⟩
      rw [← hF] at hle ⊢
      have HFF := Lib.hid hF; clear hF HM
      obtain ⟨i0, hi, hz0, hz1, hz2⟩ := info_parts info_byte
      have Hi := Lib.hid hi; have Hz0 := Lib.hid hz0; have Hz1 := Lib.hid hz1; have Hz2 := Lib.hid hz2
      clear hi hz0 hz1 hz2
      go_wp2_with (refine wpList_make_full _ rfl _ _ 22 rfl w.heap.size 5 i0 (.int .u8 0) 1 Tryz.underlying22 Hi.out Hz0.out Hz1.out .i64 .i64 F.length F.length F.length rfl rfl rfl rfl (by rw [Hz2.out]; omega) (by unfold maxLen; omega) (Nat.le_refl _) ?_; intro w1 hown1 hg1; have HO1 := Lib.hid hown1; have HG1 := Lib.hid hg1; clear hown1 hg1)
      have HB1 : Hid (Below w.heap.size w w1) := (Below.refl _ _).grown HG1.out (Nat.le_refl _) (fun k hk => by cases hk)
      have HK1 : Hid (IsBlk w1 w.heap.size 5 (List.replicate F.length (.int .u8 0))) := by
        have h := blk_of_full HO1.out
        rw [madeCells_one _ rfl] at h
        exact h
      clear HO1 HG1 Hi Hz0 Hz1 Hz2
      go_loopw [7, 25] (fun s i wr => ∃ j : Nat, j ≤ k ∧ i = .int .i64 (j : Nat) ∧ s = .int .i64 ((flat (ps.take j)).length : Nat) ∧ IsBlk wr w.heap.size 5 ((flat (ps.take j)).map byteV ++ List.replicate (F.length - (flat (ps.take j)).length) (.int .u8 0)) ∧ Below w.heap.size w wr) (fun _ i _ => k - (intOf i).toNat)
      case atStart => exact ⟨0, by omega, rfl, rfl, by simpa [flat_nil] using HK1.out, HB1.out⟩
      case round =>
        obtain ⟨j, hj, rfl, rfl, hblk, hbel⟩ := hrel
        have hle2 : (flat (ps.take j)).length ≤ F.length := by rw [HFF.out]; exact flat_take_le ps j
        have HB := Lib.hid hbel; have HK := Lib.hid hblk
        have hgr : g < wr.heap.size := Nat.lt_of_lt_of_le hg hbel.size
        by_cases hjt : j < k
        · have hjl : j < ps.length := by have := HL.out; omega
          have hck := (hbel.cell (p := ⟨g, off + j, none⟩) hg).trans (HC.out j hjl)
          have HS := Lib.hid (flat_take_succ hjl)
          have hle3 : (flat (ps.take (j + 1))).length ≤ F.length := by rw [HFF.out]; exact flat_take_le ps (j + 1)
          generalize ps.getD j ByteArray.empty = s at hck HS
          rw [HS.out, List.length_append, len_list] at hle3
          have HF2 : Hid (splice ((flat (ps.take j)).map byteV ++ List.replicate (F.length - (flat (ps.take j)).length) (.int .u8 0)) (flat (ps.take j)).length (s.data.toList.map byteV) = (flat (ps.take (j + 1))).map byteV ++ List.replicate (F.length - (flat (ps.take (j + 1))).length) (.int .u8 0)) := by
            show _ = _
            rw [splice_fill, HS.out, List.length_append, Nat.sub_sub]
          clear hblk hbel
          have HS2 : Hid ((flat (ps.take (j + 1))).length = (flat (ps.take j)).length + s.size) := by show _ = _; rw [HS.out, List.length_append, len_list]
          have HLen : Hid (((flat (ps.take j)).map byteV ++ List.replicate (F.length - (flat (ps.take j)).length) (Value.int .u8 0)).length = F.length) := by show _ = _; simp; omega
          generalize hcur : (flat (ps.take j)).map byteV ++ List.replicate (F.length - (flat (ps.take j)).length) (Value.int .u8 0) = cur at HF2 HK HLen
          clear hcur
          generalize (flat (ps.take j)).length = m at hle2 hle3 HF2 HS2
          clear HS
          go_wp2_with (refine wpList_copy_str rfl (.tmp 32) (.tmp 33) 22 9 rfl 5 Tryz.underlying22 byte_size _ _ _ s rfl rfl w.heap.size m cur 5 HK.out (by omega) (by intro hp; first | rfl | (exfalso; omega) | (rw [if_neg (by omega)])) (by rw [HLen.out]; omega) w.heap.size w HB.out (Nat.le_refl _) ?_; intro w2 HK2 HB2)
          all_goals
            go_roundw
            case rel => exact ⟨j + 1, by omega, by go_num, by rw [HS2.out]; go_num, by rw [← HF2.out]; exact HK2.out, HB2.out⟩
            case measure => simp [intOf]; omega
        · obtain rfl : j = k := by omega
          have hconv := conv_blk (l := F) (n := F.length) (c := F.length) (dst := 9) Tryz.underlying22 Tryz.underlying5 Tryz.underlying9 HK.out ⟨[], by rw [HF.out, ← HFF.out]; simp⟩ rfl
          clear hblk hbel
          go_wp2
          go_ret
          exact ⟨by rw [← HFF.out]; rfl, HB.out⟩

/-- two cells of a new block -/
theorem parts_two (w : World) (e : TypeId) (a b : ByteArray) : ∀ i, i < [a, b].length → (w.alloc (.cells #[.string a, .string b] e)).cell? ⟨w.heap.size, 0 + i, none⟩ = some (.string ([a, b].getD i ByteArray.empty)) := by
  intro i hi
  match i, hi with
  | 0, _ => simp
  | 1, _ => simp
theorem parts_one (w : World) (e : TypeId) (a : ByteArray) : ∀ i, i < [a].length → (w.alloc (.cells #[.string a] e)).cell? ⟨w.heap.size, 0 + i, none⟩ = some (.string ([a].getD i ByteArray.empty)) := by
  intro i hi
  match i, hi with
  | 0, _ => simp
theorem flat_two (a b : ByteArray) : flat [a, b] = a.data.toList ++ b.data.toList := by simp [flat]
theorem flat_one (a : ByteArray) : flat [a] = a.data.toList := by simp [flat]

set_option maxHeartbeats 2000000 in
theorem impl_putText_any (s : ByteArray) (w : World) (hs : s.size ≤ maxLen) :
    Calls Tryz.prog 157 #[.string s] w fun e w' => e = .returned (strV (Bt.putText s)) ∧ Below w.heap.size w w' := by
  unfold maxLen at hs
  by_cases h1 : 8000 < s.size
  · rw [Bt.putText_long h1]
    go_enter Tryz.func157, Tryz.ntmps157
    go_wp2
    go_ret
    exact ⟨rfl, Below.refl _ _⟩
  · rw [Bt.putText_ok h1]
    have hl := (Bt.putNum_length (s.size : Int)).2
    go_enter Tryz.func157, Tryz.ntmps157
    go_wp2_with fail
    refine (impl_putNum_any _ _ (by omega) (by omega)).mono ?_
    rintro e w1 ⟨rfl, hb1⟩
    have HB1 := Lib.hid hb1; clear hb1
    go_wp2_with fail
    refine (assemble_any [bstr (Bt.putNum s.size), s] _ 0 2 _ (parts_two w1 _ _ _) (by simp) (by simp) (by rw [flat_two, bstr_list, List.length_append, len_list]; omega)).mono ?_
    rintro e w2 ⟨rfl, hb2⟩
    have HB2 := Lib.hid hb2; clear hb2
    go_wp2
    go_ret
    exact ⟨by rw [flat_two, bstr_list]; rfl, HB1.out.trans (((Below.refl _ _).alloc HB1.out.size _).trans (HB2.out.mono (by have := HB1.out.size; simp; omega)))⟩

set_option maxHeartbeats 2000000 in
theorem spec_putText_any (s : ByteArray) (w : World) (hs : s.size ≤ maxLen) :
    Calls Tryz.prog 163 #[.string s] w fun e w' => e = .returned (strV (Bt.putText s)) ∧ Below w.heap.size w w' := by
  unfold maxLen at hs
  by_cases h1 : 8000 < s.size
  · rw [Bt.putText_long h1]
    go_enter Tryz.func163, Tryz.ntmps163
    go_wp2
    go_ret
    exact ⟨rfl, Below.refl _ _⟩
  · rw [Bt.putText_ok h1]
    have hl := (Bt.putNum_length (s.size : Int)).2
    go_enter Tryz.func163, Tryz.ntmps163
    go_wp2_with fail
    refine (spec_putNum_any _ _ (by omega) (by omega)).mono ?_
    rintro e w1 ⟨rfl, hb1⟩
    have HB1 := Lib.hid hb1; clear hb1
    have hadd := add_str (P := Tryz.prog) w1 (bstr (Bt.putNum s.size)) s (by rw [bstr_size]; omega)
    rw [bstr_list] at hadd
    go_wp2
    go_ret
    exact ⟨rfl, HB1.out⟩

/-- four bytes in a new block -/
theorem byteV_mod (n : Nat) : byteV (UInt8.ofNat n) = .int .u8 ((n : Int) % 256) := by
  unfold byteV; rw [UInt8.toNat_ofNat']; congr 1
theorem four_blk {n : Nat} (hn : n < 4294967296) : (Bt.four n).map byteV = [.int .u8 ((n : Int) % 256), .int .u8 ((n : Int) / 256 % 256), .int .u8 ((n : Int) / 65536 % 256), .int .u8 ((n : Int) / 16777216)] := by
  simp only [Bt.four, List.map_cons, List.map_nil, byteV_mod]
  rw [show ((n / 16777216 : Nat) : Int) % 256 = (n : Int) / 16777216 by omega]
  simp
theorem conv_four {P : Program} (w : World) {n : Nat} (hn : n < 4294967296) {src dst e : TypeId} (hs : P.underlying src = some (.slice e)) (he : P.underlying e = some (.int .u8)) (hd : P.underlying dst = some .string) :
    (convert src dst (.slice (some ⟨w.heap.size, 0, none⟩) 4 4)).run P (w.alloc (.cells #[.int .u8 ((n : Int) % 256), .int .u8 ((n : Int) / 256 % 256), .int .u8 ((n : Int) / 65536 % 256), .int .u8 ((n : Int) / 16777216)] e)) =
      .ok (strV (Bt.four n)) (w.alloc (.cells #[.int .u8 ((n : Int) % 256), .int .u8 ((n : Int) / 256 % 256), .int .u8 ((n : Int) / 65536 % 256), .int .u8 ((n : Int) / 16777216)] e)) := by
  have h := isBlk_new w e ((Bt.four n).map byteV)
  rw [four_blk hn] at h
  exact conv_blk hs he hd h ⟨[], by rw [four_blk hn]; rfl⟩ rfl

set_option maxHeartbeats 2000000 in
theorem l01Four_any (n : Nat) (w : World) (hn : n < 4294967296) :
    Calls Tryz.prog 171 #[.int .i64 (n : Int)] w fun e w' => e = .returned (strV (Bt.four n)) ∧ Below w.heap.size w w' := by
  have hconv := conv_four (P := Tryz.prog) w hn (dst := 9) Tryz.underlying22 Tryz.underlying5 Tryz.underlying9
  go_enter Tryz.func171, Tryz.ntmps171
  go_wp2
  go_ret
  exact ⟨rfl, (Below.refl _ _).alloc (Nat.le_refl _) _⟩

set_option maxHeartbeats 2000000 in
theorem sumOf_any (s : ByteArray) (w : World) (hs : s.size ≤ 8000) :
    Calls Tryz.prog 222 #[.string s] w fun e w' => e = .returned (strV (Bt.sum s.data.toList)) ∧ Below w.heap.size w w' := by
  have hc := Bt.crcMore_lt (c := 0) (l := s.data.toList) (by omega)
  have HA := Lib.hid (Bt.crcAns_ok (s := s) (c := 0) hs (by omega))
  unfold Bt.sum
  go_enter Tryz.func222, Tryz.ntmps222
  go_wp2_with fail
  refine (impl_crc_any _ _ (by unfold maxLen; omega)).mono ?_
  rintro e w1 ⟨rfl, rfl⟩
  rw [show (0 : Int) = ((0 : Nat) : Int) from rfl, HA.out]
  generalize hn : Bt.crcMore 0 s.data.toList = n at hc
  have HN := Lib.hid hn; clear hn HA
  have hconv := conv_four (P := Tryz.prog) w hc (dst := 9) Tryz.underlying22 Tryz.underlying5 Tryz.underlying9
  go_wp2
  go_ret
  exact ⟨by rw [HN.out]; rfl, (Below.refl _ _).alloc (Nat.le_refl _) _⟩

set_option maxHeartbeats 2000000 in
theorem impl_seal_any (s : ByteArray) (w : World) (hs : s.size ≤ maxLen) :
    Calls Tryz.prog 156 #[.string s] w fun e w' => e = .returned (strV (Bt.sealed s)) ∧ Below w.heap.size w w' := by
  unfold maxLen at hs
  by_cases h1 : 7996 < s.size
  · rw [Bt.seal_long h1]
    go_enter Tryz.func156, Tryz.ntmps156
    go_wp2
    go_ret
    exact ⟨rfl, Below.refl _ _⟩
  · rw [Bt.seal_ok h1]
    go_enter Tryz.func156, Tryz.ntmps156
    go_wp2_with fail
    refine (sumOf_any _ _ (by omega)).mono ?_
    rintro e w1 ⟨rfl, hb1⟩
    have HB1 := Lib.hid hb1; clear hb1
    go_wp2_with fail
    refine (assemble_any [s, bstr (Bt.sum s.data.toList)] _ 0 2 _ (parts_two w1 _ _ _) (by simp) (by simp) (by rw [flat_two, bstr_list, List.length_append, len_list, Bt.sum_length]; omega)).mono ?_
    rintro e w2 ⟨rfl, hb2⟩
    have HB2 := Lib.hid hb2; clear hb2
    go_wp2
    go_ret
    exact ⟨by rw [flat_two, bstr_list]; rfl, HB1.out.trans (((Below.refl _ _).alloc HB1.out.size _).trans (HB2.out.mono (by have := HB1.out.size; simp; omega)))⟩

set_option maxHeartbeats 2000000 in
theorem spec_seal_any (s : ByteArray) (w : World) (hs : s.size ≤ maxLen) :
    Calls Tryz.prog 161 #[.string s] w fun e w' => e = .returned (strV (Bt.sealed s)) ∧ Below w.heap.size w w' := by
  by_cases h1 : 7996 < s.size
  · rw [Bt.seal_long h1]
    unfold maxLen at hs
    go_enter Tryz.func161, Tryz.ntmps161
    go_wp2
    go_ret
    exact ⟨rfl, Below.refl _ _⟩
  · rw [Bt.seal_ok h1]
    unfold Bt.sum
    go_enter Tryz.func161, Tryz.ntmps161
    go_wp2_with fail
    refine (l01Crc_any 0 _ _ hs (by omega)).mono ?_
    rintro e w1 ⟨rfl, rfl⟩
    have hc := Bt.crcMore_lt (c := 0) (l := s.data.toList) (by omega)
    go_wp2_with fail
    refine (l01Four_any _ _ hc).mono ?_
    rintro e w2 ⟨rfl, hb2⟩
    have HB2 := Lib.hid hb2; clear hb2
    have hadd := add_str (P := Tryz.prog) w2 s (bstr (Bt.four (Bt.crcMore 0 s.data.toList))) (by rw [bstr_size]; simp only [Bt.four, List.length]; omega)
    rw [bstr_list] at hadd
    go_wp2
    go_ret
    exact ⟨rfl, HB2.out⟩

end Go.Proofs.YtloaeglmngcenaaGreatDoor
