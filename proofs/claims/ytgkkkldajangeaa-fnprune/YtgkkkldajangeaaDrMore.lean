/-
  Draws built of draw_n.
-/
import Derived.Test.YtgkkkldajangeaaDrSrc
import Derived.Test.YtgkkkldajangeaaBtNum
namespace Go.Proofs.Ytgkkkldajangeaa
open Go.RowKit

theorem dr_lt {w : World} {lo n size : Nat} {e : TypeId} {v : Value} {xs : List Value} (h : w.ownsRow lo e size v n xs) {g : Nat} (hg : v.ownBlock = some g) : lo ≤ g ∧ g < w.heap.size := by
  rcases h.2 with ⟨rfl, -⟩ | ⟨g', cap, cur, rfl, hb, hh, -⟩
  · cases hg
  · have : g' = g := by simpa [Value.ownBlock] using hg
    subst this
    exact ⟨hb, lt_of_block hh⟩
theorem dr_own {w w' : World} {lo n size : Nat} {e : TypeId} {v : Value} {xs : List Value} (h : w.ownsRow lo e size v n xs) (hb : ∀ g, v.ownBlock = some g → w'.heap[g]? = w.heap[g]?) : w'.ownsRow lo e size v n xs := by
  refine ⟨h.1, ?_⟩
  rcases h.2 with h0 | ⟨g, cap, cur, hv, hl, hh, r⟩
  · exact .inl h0
  · exact .inr ⟨g, cap, cur, hv, hl, (hb g (by rw [hv]; rfl)).trans hh, r⟩
theorem Btw.then {lo hi : Nat} {a b c : World} (h : Btw lo hi a b) (k : Below a.heap.size b c) : Btw lo hi a c :=
  ⟨k.os.trans h.os, k.tape.trans h.tape, k.output.trans h.output, Nat.le_trans h.size k.size, fun i hi ho => (k.block i hi).trans (h.block i hi ho)⟩
theorem bel_set {B g j : Nat} {a b : World} (h : Below B a b) (hg : B ≤ g) (u : Value) : Below B a (b.setCell ⟨g, j, none⟩ u) := h.setCell hg u
theorem bel_drew {B : Nat} {a b : World} (h : Below B a b) : Below B a b.drew := ⟨h.os, h.tape, h.output, h.size, h.block⟩
/-- a draw of a truth -/
def RetDrawB (w : World) (s : Nat) (e : Ending) (w' : World) : Prop := ∃ b : Bool, e = .returned (.bool b) ∧ Src w' s ∧ Btw s (s + 1) w w'
theorem draw_one (s : Nat) (most : Int) (w : World) (hm : most ≤ 1048577) (hS : Src w s) :
    Calls Try.prog 54 #[.pointer (some ⟨s, 0, none⟩), .int .i64 most] w (RetDrawB w s) := by
  have HS := Lib.hid hS; clear hS
  go_enter Try.func54, Try.ntmps54
  go_wp2_with fail
  refine (draw_n s most w hm HS.out).mono ?_
  rintro e w1 ⟨r, rfl, -, hS1, hb1⟩
  have HS1 := Lib.hid hS1; have HB1 := Lib.hid hb1; clear hS1 hb1
  go_wp2
  go_ret
  exact ⟨_, rfl, HS1.out, HB1.out⟩
/-- a draw of a text of n bytes -/
def RetDrawT (w : World) (s n : Nat) (e : Ending) (w' : World) : Prop := ∃ t : ByteArray, e = .returned (.string t) ∧ t.size = n ∧ Src w' s ∧ Btw s (s + 1) w w'
set_option maxRecDepth 100000 in
theorem draw_bytes (s n : Nat) (w : World) (hn : n ≤ 1048576) (hS : Src w s) :
    Calls Try.prog 89 #[.pointer (some ⟨s, 0, none⟩), .int .i64 (n : Int)] w (RetDrawT w s n) := by
  have HS := Lib.hid hS; clear hS
  have hsl := HS.out.lt
  go_enter Try.func89, Try.ntmps89
  go_wp2_with fail
  go_loopw [5, 6] (fun v rv wr => ∃ (k : Nat) (bs : List UInt8), bs.length = k ∧ k ≤ n ∧ rv = .int .i64 (k : Int) ∧ wr.ownsRow w.heap.size 5 1 v k (bs.map byteV) ∧ Src wr s ∧ Btw s (s + 1) w wr) (fun _ rv _ => n - (intOf rv).toNat)
  case atStart => exact ⟨0, [], rfl, Nat.zero_le _, rfl, World.ownsRow_made w #[] 0 (Nat.le_refl _) (by decide) rfl, HS.out.same fun k hk => Below.heap_alloc _ _ _ (by omega), (Btw.refl _ _ _).alloc _⟩
  case round =>
    obtain ⟨k, bs, hlen, hkn, rfl, hown, hS, hbt⟩ := hrel
    have hsz := hbt.size
    have HO := Lib.hid hown; have HB := Lib.hid hbt; have HS2 := Lib.hid hS; have HL := Lib.hid hlen
    clear hown hbt hS hlen
    by_cases hk : k < n
    · have hkI : (k : Int) < (n : Int) := by omega
      go_wp2_with fail
      refine (draw_n s 256 wr (by omega) HS2.out).mono ?_
      rintro e w1 ⟨r, rfl, hr, hS1, hb1⟩
      have hr := hr (by omega)
      have ho1 : w1.ownsRow w.heap.size 5 1 _ k (bs.map byteV) := dr_own HO.out fun g hg => hb1.block g (dr_lt HO.out hg).2 (Or.inr (by have := (dr_lt HO.out hg).1; omega))
      have hsz1 := hb1.size
      have HO1 := Lib.hid ho1; have HB1 := Lib.hid (HB.out.trans hb1); have HS1 := Lib.hid hS1
      clear ho1 hb1 hS1
      obtain ⟨c, hc⟩ : ∃ c, c = UInt8.ofNat r := ⟨_, rfl⟩
      have HV : Hid (Value.int .u8 (r : Int) = byteV c) := by show _ = _; rw [hc]; unfold byteV; rw [UInt8.toNat_ofNat']; congr 1; omega
      clear hc
      have hsz0 : w.heap.size ≤ w1.heap.size := by omega
      go_wp2_with (at_builtin; refine wpList_append_one byteV oneCell_byteV rfl _ _ 22 5 _ 1 byte_one rfl HO1.out (Below.refl _ _) hsz0 rfl rfl c HV.out (by omega) (by omega) ?_; intro v' w2 ho2 hb2; have HB2 := Lib.hid hb2; have HO2 := Lib.hid ho2; clear hb2 ho2)
      go_roundw
      case rel => exact ⟨k + 1, bs ++ [c], by simp [HL.out], by omega, rfl, HO2.out, HS1.out.below HB2.out hsl, HB1.out.then HB2.out⟩
      case measure => simp [intOf]; omega
    · obtain rfl : k = n := by omega
      have hconv := conv_own (dst := 9) Try.underlying22 Try.underlying5 Try.underlying9 HO.out
      go_wp2
      go_ret
      exact ⟨_, rfl, HL.out, HS2.out, HB.out⟩
theorem src_end {w wr w' : World} {n c : Nat} {A : Option Addr} {mix sz : Int} (hA : RdBy w w.heap.size A n) (hn : n ≤ 1048576) (hk : IsBlk wr w.heap.size 96 [.slice A n c, .int .i64 0, .int .u64 mix, .int .i64 sz]) (hb : Below w.heap.size w wr)
    (h : (∃ x, w' = wr.setCell ⟨w.heap.size, 3, none⟩ (.int .i64 x)) ∨ (∃ x y, w' = (wr.setCell ⟨w.heap.size, 3, none⟩ (.int .i64 x)).setCell ⟨w.heap.size, 3, none⟩ (.int .i64 y))) :
    ∃ s, Ending.returned (Value.pointer (some ⟨w.heap.size, 0, none⟩)) = .returned (.pointer (some ⟨s, 0, none⟩)) ∧ w.heap.size ≤ s ∧ Src w' s ∧ Below w.heap.size w w' := by
  rcases h with ⟨x, rfl⟩ | ⟨x, y, rfl⟩
  · have hb' := bel_set (j := 3) hb (Nat.le_refl _) (.int .i64 x)
    exact ⟨_, rfl, Nat.le_refl _, ⟨A, n, c, 0, mix, x, hk.set _, hA.same fun k hk => hb'.block k hk, hn, Nat.zero_le _⟩, hb'⟩
  · have hb' := bel_set (j := 3) (bel_set (j := 3) hb (Nat.le_refl _) (.int .i64 x)) (Nat.le_refl _) (.int .i64 y)
    exact ⟨_, rfl, Nat.le_refl _, ⟨A, n, c, 0, mix, y, (hk.set _).set _, hA.same fun k hk => hb'.block k hk, hn, Nat.zero_le _⟩, hb'⟩
set_option maxRecDepth 100000 in
theorem draw_source (n c : Nat) (A : Option Addr) (w : World) (hn : n ≤ 1048576) (hA : RdBy w w.heap.size A n) :
    Calls Try.prog 45 #[.slice A n c] w (fun e w' => ∃ s, e = .returned (.pointer (some ⟨s, 0, none⟩)) ∧ w.heap.size ≤ s ∧ Src w' s ∧ Below w.heap.size w w') := by
  have HA := Lib.hid hA; clear hA
  have hK : IsBlk _ w.heap.size 96 _ := isBlk_new w 96 [.slice A n c, .int .i64 0, .int .u64 88172645463325252, .int .i64 0]
  have HK := Lib.hid hK; clear hK
  go_enter Try.func45, Try.ntmps45
  go_wp2_with fail
  go_loopw [4] (fun rv wr => ∃ (k : Nat) (mix : Int), k ≤ n ∧ rv = .int .i64 (k : Int) ∧ IsBlk wr w.heap.size 96 [.slice A n c, .int .i64 0, .int .u64 mix, .int .i64 0] ∧ Below w.heap.size w wr) (fun rv _ => n - (intOf rv).toNat)
  case atStart => exact ⟨0, _, Nat.zero_le _, rfl, HK.out, (Below.refl _ _).alloc (Nat.le_refl _) _⟩
  case round =>
    obtain ⟨k, mix, hkn, rfl, hK, hbt⟩ := hrel
    have hsz := hK.lt
    have c2 : wr.cell? ⟨w.heap.size, 2, none⟩ = some _ := hK.cell rfl
    have c3 : wr.cell? ⟨w.heap.size, 3, none⟩ = some _ := hK.cell rfl
    have f2 := hK.free (j := 2)
    have f3 := hK.free (j := 3)
    have HK2 := Lib.hid hK; have HB := Lib.hid hbt
    clear hK hbt HK
    by_cases hk : k < n ∧ k < 64
    · obtain ⟨hk1, hk2⟩ := hk
      have hkI : (k : Int) < (n : Int) := by omega
      have hkJ : (k : Int) < 64 := by omega
      obtain ⟨g, off, rfl, hg, hby⟩ := HA.out (by omega)
      obtain ⟨z, hz, cz⟩ := hby k hk1
      have cz' : wr.cell? ⟨g, off + k, none⟩ = some (.int .u8 (z : Int)) := (World.cell?_of_block (HB.out.block g hg)).trans cz
      clear hby cz
      go_wp2_with fail
      go_still_tail 14, (by kernel_rfl)
      change wpList _ _ _ _ _ wr.drew
      go_wp2
      go_roundw
      case rel => exact ⟨k + 1, _, hk1, rfl, HK2.out.set _, bel_drew (bel_set HB.out (Nat.le_refl _) _)⟩
      case measure => simp [intOf]; omega
    · by_cases hk1 : k < n
      · have hkI : (k : Int) < (n : Int) := by omega
        have hkJ : ¬ (k : Int) < 64 := by omega
        go_wp2
        all_goals go_ret
        all_goals exact src_end HA.out hn HK2.out HB.out (by first | exact Or.inl ⟨_, rfl⟩ | exact Or.inr ⟨_, _, rfl⟩)
      · have hkI : ¬ (k : Int) < (n : Int) := by omega
        go_wp2
        all_goals go_ret
        all_goals exact src_end HA.out hn HK2.out HB.out (by first | exact Or.inl ⟨_, rfl⟩ | exact Or.inr ⟨_, _, rfl⟩)
def edgeL : List Value := [.int .i64 0, .int .i64 1, .int .i64 (-1), .int .i64 2, .int .i64 1000, .int .i64 1001, .int .i64 2147483648, .int .i64 2147483647, .int .i64 (-2147483648), .int .i64 4611686018427387904, .int .i64 9223372036854775807, .int .i64 (-9223372036854775808), .int .i64 1000000, .int .i64 1000001]
theorem edge_at : (r : Nat) → r < 14 → ∃ z : Int, -9223372036854775808 ≤ z ∧ z ≤ 9223372036854775807 ∧ edgeL[r]? = some (.int .i64 z)
  | 0, _ => ⟨0, by omega, by omega, rfl⟩
  | 1, _ => ⟨1, by omega, by omega, rfl⟩
  | 2, _ => ⟨(-1), by omega, by omega, rfl⟩
  | 3, _ => ⟨2, by omega, by omega, rfl⟩
  | 4, _ => ⟨1000, by omega, by omega, rfl⟩
  | 5, _ => ⟨1001, by omega, by omega, rfl⟩
  | 6, _ => ⟨2147483648, by omega, by omega, rfl⟩
  | 7, _ => ⟨2147483647, by omega, by omega, rfl⟩
  | 8, _ => ⟨(-2147483648), by omega, by omega, rfl⟩
  | 9, _ => ⟨4611686018427387904, by omega, by omega, rfl⟩
  | 10, _ => ⟨9223372036854775807, by omega, by omega, rfl⟩
  | 11, _ => ⟨(-9223372036854775808), by omega, by omega, rfl⟩
  | 12, _ => ⟨1000000, by omega, by omega, rfl⟩
  | 13, _ => ⟨1000001, by omega, by omega, rfl⟩
  | r + 14, h => absurd h (by omega)
set_option maxRecDepth 100000 in
theorem draw_edge (s : Nat) (w : World) (hS : Src w s) :
    Calls Try.prog 55 #[.pointer (some ⟨s, 0, none⟩)] w (fun e w' => ∃ z : Int, e = .returned (.int .i64 z) ∧ -9223372036854775808 ≤ z ∧ z ≤ 9223372036854775807 ∧ Src w' s ∧ Btw s (s + 1) w w') := by
  have HS := Lib.hid hS; clear hS
  have HK := Lib.hid (isBlk_new w 2 edgeL)
  have hsl := HS.out.lt
  go_enter Try.func55, Try.ntmps55
  go_wp2_with fail
  obtain ⟨w0, hW⟩ : ∃ x, x = w.alloc (.cells edgeL.toArray 2) := ⟨_, rfl⟩
  rw [← hW] at HK
  have hS0 : Src w0 s := by rw [hW]; exact HS.out.same fun k hk => Below.heap_alloc _ _ _ (by omega)
  have hB0 : Btw s (s + 1) w w0 := by rw [hW]; exact (Btw.refl _ _ _).alloc _
  show Calls _ _ _ (w.alloc (.cells edgeL.toArray 2)) _
  rw [← hW]
  clear hW
  refine (draw_n s 14 w0 (by omega) hS0).mono ?_
  rintro e w1 ⟨r, rfl, hr, hS1, hb1⟩
  obtain ⟨z, hz1, hz2, hz3⟩ := edge_at r (by have := hr (by omega); omega)
  have hr := hr (by omega)
  have hk1 : IsBlk w1 w.heap.size 2 edgeL := (hb1.block _ HK.out.lt (Or.inr (by omega))).trans HK.out
  have cz : w1.cell? ⟨w.heap.size, r, none⟩ = some (.int .i64 z) := hk1.cell hz3
  have HS1 := Lib.hid hS1; have HB1 := Lib.hid (hB0.trans hb1); clear hS1 hb1 hB0 hS0 hk1 hz3
  go_wp2
  go_ret
  exact ⟨_, rfl, hz1, hz2, HS1.out, HB1.out⟩
/-- 'string(make([]byte, m))' -/
def zerosT (m : Nat) : ByteArray := ⟨(List.replicate m (0 : UInt8)).toArray⟩
theorem zerosT_size (m : Nat) : (zerosT m).size = m := by simp [zerosT, ByteArray.size]
theorem make_zeros (m : Nat) (z : Int) (hz : z = (m : Int)) (hm : m ≤ 1048576) (w : World) :
    (Instr.makeSlice 22 (.int .i64 z) (.int .i64 z)).run Try.prog w = .ok (.slice (some ⟨w.heap.size, 0, none⟩) m m) (w.alloc (.cells (madeCells #[.int .u8 0] m) 5)) := by
  subst hz
  have h := run_makeN (P := Try.prog) 22 5 (.int .u8 0) 1 1 Try.underlying22 info_byte m (by omega) (by omega) w
  rw [Nat.mul_one] at h
  exact h
theorem conv_zeros (m : Nat) (w : World) :
    (convert 22 9 (.slice (some ⟨w.heap.size, 0, none⟩) m m)).run Try.prog (w.alloc (.cells (madeCells #[.int .u8 0] m) 5)) = .ok (.string (zerosT m)) (w.alloc (.cells (madeCells #[.int .u8 0] m) 5)) := by
  have hr := row_made w 5 #[.int .u8 0] m (fun _ => .int .u8 0) (fun i _ => by simp [Nat.mod_one])
  have h := run_convert_bytes_back (P := Try.prog) (w.alloc (.cells (madeCells #[.int .u8 0] m) 5)) 22 9 5 ⟨w.heap.size, 0, none⟩ m (List.replicate m (0 : UInt8)) Try.underlying22 Try.underlying5 Try.underlying9 (fun j hj => by
    rw [add_plain, hr.cell (by simpa using hj)]
    simp)
  simpa [zerosT, strV] using h
end Go.Proofs.Ytgkkkldajangeaa
