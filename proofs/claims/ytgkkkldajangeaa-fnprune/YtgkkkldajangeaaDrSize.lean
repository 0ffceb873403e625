/-
  A source whose size is told.
-/
import Derived.Test.YtgkkkldajangeaaDrMore
namespace Go.Proofs.Ytgkkkldajangeaa
open Go.RowKit

/-- a source, its size within the bound -/
def SrcZ (w : World) (s : Nat) : Prop :=
  ∃ (A : Option Addr) (n c at_ : Nat) (mix sz : Int), IsBlk w s 96 [.slice A n c, .int .i64 (at_ : Int), .int .u64 mix, .int .i64 sz] ∧ RdBy w s A n ∧ n ≤ 1048576 ∧ at_ ≤ n ∧ (0 ≤ sz ∧ sz ≤ 12)
theorem SrcZ.src {w : World} {s : Nat} (h : SrcZ w s) : Src w s := by obtain ⟨A, n, c, a, m, z, hk, h1, h2, h3, -⟩ := h; exact ⟨A, n, c, a, m, z, hk, h1, h2, h3⟩
theorem src_endZ {w wr w' : World} {n c : Nat} {A : Option Addr} {mix sz : Int} (hA : RdBy w w.heap.size A n) (hn : n ≤ 1048576) (hk : IsBlk wr w.heap.size 96 [.slice A n c, .int .i64 0, .int .u64 mix, .int .i64 sz]) (hb : Below w.heap.size w wr)
    (h : (∃ x : Int, (0 ≤ x ∧ x ≤ 12) ∧ w' = wr.setCell ⟨w.heap.size, 3, none⟩ (.int .i64 x)) ∨ (∃ x y : Int, (0 ≤ y ∧ y ≤ 12) ∧ w' = (wr.setCell ⟨w.heap.size, 3, none⟩ (.int .i64 x)).setCell ⟨w.heap.size, 3, none⟩ (.int .i64 y))) :
    ∃ s, Ending.returned (Value.pointer (some ⟨w.heap.size, 0, none⟩)) = .returned (.pointer (some ⟨s, 0, none⟩)) ∧ w.heap.size ≤ s ∧ SrcZ w' s ∧ Below w.heap.size w w' := by
  rcases h with ⟨x, hx, rfl⟩ | ⟨x, y, hx, rfl⟩
  · have hb' := bel_set (j := 3) hb (Nat.le_refl _) (.int .i64 x)
    exact ⟨_, rfl, Nat.le_refl _, ⟨A, n, c, 0, mix, x, hk.set _, hA.same fun k hk => hb'.block k hk, hn, Nat.zero_le _, hx⟩, hb'⟩
  · have hb' := bel_set (j := 3) (bel_set (j := 3) hb (Nat.le_refl _) (.int .i64 x)) (Nat.le_refl _) (.int .i64 y)
    exact ⟨_, rfl, Nat.le_refl _, ⟨A, n, c, 0, mix, y, (hk.set _).set _, hA.same fun k hk => hb'.block k hk, hn, Nat.zero_le _, hx⟩, hb'⟩
set_option maxRecDepth 100000 in
theorem draw_sourceZ (n c : Nat) (A : Option Addr) (w : World) (hn : n ≤ 1048576) (hA : RdBy w w.heap.size A n) :
    Calls Try.prog 45 #[.slice A n c] w (fun e w' => ∃ s, e = .returned (.pointer (some ⟨s, 0, none⟩)) ∧ w.heap.size ≤ s ∧ SrcZ w' s ∧ Below w.heap.size w w') := by
  have HA := Lib.hid hA; clear hA
  have hK : IsBlk _ w.heap.size 96 _ := isBlk_new w 96 [.slice A n c, .int .i64 0, .int .u64 88172645463325252, .int .i64 0]
  have HK := Lib.hid hK; clear hK
  go_enter Try.func45, Try.ntmps45
  go_wp2_with fail
  go_loopw [4] (fun rv wr => ∃ (k : Nat) (mix : Int), k ≤ n ∧ rv = .int .i64 (k : Int) ∧ IsBlk wr w.heap.size 96 [.slice A n c, .int .i64 0, .int .u64 mix, .int .i64 0] ∧ Below w.heap.size w wr) (fun rv _ => n - (intOf rv).toNat)
  case atStart => exact ⟨0, _, Nat.zero_le _, rfl, HK.out, (Below.refl _ _).alloc (Nat.le_refl _) _⟩
  case round =>
    obtain ⟨k, mix, hkn, rfl, hK, hbt⟩ := hrel
    have hsz := hK.lt
    have c2 : wr.cell? ⟨w.heap.size, 2, none⟩ = some _ := hK.cell rfl
    have c3 : wr.cell? ⟨w.heap.size, 3, none⟩ = some _ := hK.cell rfl
    have f2 := hK.free (j := 2)
    have f3 := hK.free (j := 3)
    have HK2 := Lib.hid hK; have HB := Lib.hid hbt
    clear hK hbt HK
    by_cases hk : k < n ∧ k < 64
    · obtain ⟨hk1, hk2⟩ := hk
      have hkI : (k : Int) < (n : Int) := by omega
      have hkJ : (k : Int) < 64 := by omega
      obtain ⟨g, off, rfl, hg, hby⟩ := HA.out (by omega)
      obtain ⟨z, hz, cz⟩ := hby k hk1
      have cz' : wr.cell? ⟨g, off + k, none⟩ = some (.int .u8 (z : Int)) := (World.cell?_of_block (HB.out.block g hg)).trans cz
      clear hby cz
      go_wp2_with fail
      go_still_tail 14, (by kernel_rfl)
      change wpList _ _ _ _ _ wr.drew
      go_wp2
      go_roundw
      case rel => exact ⟨k + 1, _, hk1, rfl, HK2.out.set _, bel_drew (bel_set HB.out (Nat.le_refl _) _)⟩
      case measure => simp [intOf]; omega
    · by_cases hk1 : k < n
      · have hkI : (k : Int) < (n : Int) := by omega
        have hkJ : ¬ (k : Int) < 64 := by omega
        go_wp2
        all_goals go_ret
        all_goals exact src_endZ HA.out hn HK2.out HB.out (by first | exact Or.inl ⟨_, by omega, rfl⟩ | exact Or.inr ⟨_, _, by omega, rfl⟩)
      · have hkI : ¬ (k : Int) < (n : Int) := by omega
        go_wp2
        all_goals go_ret
        all_goals exact src_endZ HA.out hn HK2.out HB.out (by first | exact Or.inl ⟨_, by omega, rfl⟩ | exact Or.inr ⟨_, _, by omega, rfl⟩)
end Go.Proofs.Ytgkkkldajangeaa
