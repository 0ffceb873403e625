/-
  PageAt, of the program: a page read through a method value.
-/
import Derived.Test.YtdgmpllonnddmaaChecked
import Derived.Test.YtdgmpllonnddmaaNdProg
namespace Go.Proofs.Ytdgmpllonnddmaa
open Go.RowKit

def readCode (X : List Pg) (pi : Int) : Int := if pi < 0 ∨ 4 ≤ pi then 8 else if (X.getD pi.toNat zeroPg).used = false then 10 else 0
def readData (X : List Pg) (pi : Int) : ByteArray := if readCode X pi = 0 then (X.getD pi.toNat zeroPg).data else ⟨#[]⟩

set_option maxHeartbeats 1000000 in
set_option maxRecDepth 100000 in
theorem read_any (a b c d : Pg) (pi : Int) (w : World) (hs : ∀ p ∈ [a, b, c, d], p.data.size ≤ 2147483648) :
    Calls Try.prog 56 #[parr a b c d, .int .i64 pi] w fun e w' => e = .returned (.tuple #[.string (readData [a, b, c, d] pi), .int .i64 (readCode [a, b, c, d] pi)]) ∧ Below w.heap.size w w' := by
  have HS := Lib.hid hs; clear hs
  by_cases h0 : pi < 0
  · have HC : Hid (readCode [a, b, c, d] pi = 8) := if_pos (.inl h0)
    have HD : Hid (readData [a, b, c, d] pi = ⟨#[]⟩) := if_neg (by rw [HC.out]; omega)
    rw [HC.out, HD.out]
    have h0' : decide (pi < 0) = true := by simpa using h0
    go_enter Try.func56, Try.ntmps56
    go_wp2
    go_ret2
    exact ⟨rfl, box_below _ _⟩
  have h0' : decide (pi < 0) = false := by simpa using h0
  by_cases h4 : 4 ≤ pi
  · have HC : Hid (readCode [a, b, c, d] pi = 8) := if_pos (.inr h4)
    have HD : Hid (readData [a, b, c, d] pi = ⟨#[]⟩) := if_neg (by rw [HC.out]; omega)
    rw [HC.out, HD.out]
    go_enter Try.func56, Try.ntmps56
    go_wp2
    go_ret2
    exact ⟨rfl, box_below _ _⟩
  obtain ⟨k, rfl⟩ : ∃ k : Nat, pi = (k : Int) := ⟨pi.toNat, by omega⟩
  have hk : k < 4 := by omega
  have hkk : decide ((4 : Int) ≤ (k : Int)) = false := by simp; omega
  have HC0 : Hid (readCode [a, b, c, d] (k : Int) = if ([a, b, c, d].getD k zeroPg).used = false then 10 else 0) := if_neg (by omega)
  have HD0 : Hid (readData [a, b, c, d] (k : Int) = if readCode [a, b, c, d] (k : Int) = 0 then ([a, b, c, d].getD k zeroPg).data else ⟨#[]⟩) := rfl
  have hsz := HS.out _ (getD_lt (z := zeroPg) (show k < [a, b, c, d].length from hk))
  go_enter Try.func56, Try.ntmps56
  have hkb := isBlk_new w 60 (pcells a b c d)
  obtain ⟨c0, c1⟩ := parr_cells hkb hk
  generalize [a, b, c, d].getD k zeroPg = p at c0 c1 HC0 HD0 hsz
  obtain ⟨pu, pd⟩ := p
  simp only at c0 c1 HC0 HD0 hsz
  have c0' : (w.alloc (.cells #[.bool a.used, .string a.data, .bool b.used, .string b.data, .bool c.used, .string c.data, .bool d.used, .string d.data] 60)).cell? ⟨w.heap.size, k * 2, none⟩ = some (.bool pu) := c0
  have c1' : (w.alloc (.cells #[.bool a.used, .string a.data, .bool b.used, .string b.data, .bool c.used, .string c.data, .bool d.used, .string d.data] 60)).cell? ⟨w.heap.size, k * 2 + 1, none⟩ = some (.string pd) := c1
  clear hkb c0 c1
  cases pu with
  | false =>
    have HC : Hid (readCode [a, b, c, d] (k : Int) = 10) := HC0.out
    have HD : Hid (readData [a, b, c, d] (k : Int) = ⟨#[]⟩) := HD0.out.trans (if_neg (by rw [HC.out]; omega))
    clear HC0 HD0
    go_wp2
    go_ret2
    exact ⟨by rw [HC.out, HD.out]; rfl, box_below _ _⟩
  | true =>
    have HC : Hid (readCode [a, b, c, d] (k : Int) = 0) := HC0.out
    have HD : Hid (readData [a, b, c, d] (k : Int) = pd) := HD0.out.trans (if_pos HC.out)
    clear HC0 HD0
    go_wp2_with fail
    refine (assemble_one pd _ 1 _ (by simp) hsz).mono ?_
    rintro e w3 ⟨rfl, hb3⟩
    have HB3 := Lib.hid (bel_step (((Below.refl w.heap.size w).alloc (Nat.le_refl _) _).alloc (by simp) _) hb3)
    clear hb3
    go_wp2
    go_ret2
    exact ⟨by rw [HC.out, HD.out]; rfl, HB3.out⟩

set_option maxHeartbeats 1000000 in
set_option maxRecDepth 100000 in
theorem readerOf_any (A : Option Addr) (ca : Nat) (a b c d : Pg) (er : Int) (bad : Bool) (w : World) (hA : RdPg w w.heap.size A 4 [a, b, c, d]) :
    Calls Try.prog 47 #[.agg #[.slice A 4 ca, .int .i64 er, .bool bad]] w fun e w' => e = .returned (.func (.func 56) #[parr a b c d] #[]) ∧ Below w.heap.size w w' := by
  have HA := Lib.hid hA; clear hA
  go_enter Try.func47, Try.ntmps47
  go_wp2_with fail
  refine (pagesOf_any A ca a b c d er bad _ ((HA.out.below (box_below _ _)).mono (box_below _ _).size)).mono ?_
  rintro e w3 ⟨rfl, hb3⟩
  have HB3 := Lib.hid (bel_step (box_below w _) hb3)
  clear hb3
  go_wp2
  go_ret
  exact ⟨rfl, HB3.out⟩

set_option maxHeartbeats 2000000 in
set_option maxRecDepth 100000 in
theorem impl_pageAt (A : Option Addr) (n ca : Nat) (X : List Bk) (bi pi : Int) (w : World) (hX : Small X) (hA : RdBk w w.heap.size A n X) :
    Calls Try.prog 18 #[.agg #[.slice A n ca], .int .i64 bi, .int .i64 pi] w (RetAns w (pageAns X bi pi)) := by
  have HL := Lib.hid hA.1
  have HA := Lib.hid hA; have HX := Lib.hid hX; clear hA hX
  go_enter Try.func18, Try.ntmps18
  go_wp2_with fail
  refine (impl_blockCode A n ca X bi _ HX.out ((HA.out.below (((Below.refl _ _).alloc (Nat.le_refl _) _).alloc (by simp) _)).mono (by simp; omega))).mono ?_
  rintro e w2 ⟨rfl, hb2⟩
  have k0 := ((isBlk_new w 25 [.slice A n ca]).alloc _).below hb2 (by simp; omega)
  have k1 := (isBlk_new (w.alloc _) 29 [.slice none 0 0, .string ⟨#[]⟩, .int .i64 0]).below hb2 (by simp)
  simp only [size_alloc] at k1
  have HB2 := Lib.hid ((((Below.refl w.heap.size w).alloc (Nat.le_refl _) _).alloc (by simp) _).trans (hb2.mono (by simp; omega)))
  have HK0 := Lib.hid k0; have HK1 := Lib.hid k1
  have hx2 : w2.cell? ⟨w.heap.size, 0, none⟩ = some (.slice A n ca) := k0.cell rfl
  clear hb2 k0 k1
  by_cases hc : blkCode X bi = 0
  · rw [hc]
    obtain ⟨hok, k, rfl, hkl⟩ := blkCode_zero hc
    have HDEF : Hid (pageAns X (k : Int) pi = if readCode (X.getD k zeroBk).pages pi = 0 then ⟨X, readData (X.getD k zeroBk).pages pi, 0⟩ else ill (readCode (X.getD k zeroBk).pages pi)) := by
      show pageAns X (k : Int) pi = _
      unfold pageAns readData readCode
      rw [if_neg (by simp [hc])]
      by_cases h1 : pi < 0 ∨ 4 ≤ pi
      · rw [if_pos h1, if_pos h1, if_neg (by omega)]
      · rw [if_neg h1, if_neg h1]
        simp only [Int.toNat_natCast]
        by_cases h2 : ((X.getD k zeroBk).pages.getD pi.toNat zeroPg).used = false
        · rw [if_pos h2, if_pos h2, if_neg (by omega)]
        · rw [if_neg h2, if_neg h2, if_pos rfl, if_pos rfl]
    have HOK := Lib.hid hok
    have hkn : k < n := by have := HL.out; omega
    obtain ⟨g0, off, pA, pc, rfl, hg0, hc0, hc1, hc2, hpg⟩ := (HA.out.below HB2.out).at hkn
    have h4 := (hok.2 k hkl).1
    have hps := (HX.out.2 _ (getD_lt (z := zeroBk) hkl)).2
    have HPG := Lib.hid (hpg.mono HB2.out.size)
    have HPS := Lib.hid hps
    clear hok hc hpg hps
    generalize X.getD k zeroBk = b at hc0 hc1 hc2 HDEF HPG h4 HPS
    obtain ⟨ps, er, bd⟩ := b
    simp only at hc0 hc1 hc2 HPG h4 HDEF HPS
    obtain ⟨a, b, c, d, rfl⟩ := four_of_length h4
    clear h4
    go_wp2_with fail
    refine (readerOf_any pA pc a b c d er bd w2 HPG.out).mono ?_
    rintro e w3 ⟨rfl, hb3⟩
    have HB3 := Lib.hid (bel_step HB2.out hb3)
    have HK03 := Lib.hid (HK0.out.below hb3 HK0.out.lt)
    have HK13 := Lib.hid (HK1.out.below hb3 HK1.out.lt)
    clear hb3 hx2 hc0 hc1 hc2
    go_wp2_with fail
    refine (read_any a b c d pi w3 (fun p hp => by have := HPS.out p hp; omega)).mono ?_
    rintro e w4 ⟨rfl, hb4⟩
    have HB4 := Lib.hid (bel_step HB3.out hb4)
    have HK04 := Lib.hid (HK03.out.below hb4 HK03.out.lt)
    have HK14 := Lib.hid (HK13.out.below hb4 HK13.out.lt)
    have hx4 : w4.cell? ⟨w.heap.size, 0, none⟩ = some (.slice (some ⟨g0, off, none⟩) n ca) := HK04.out.cell rfl
    have hlt1 := HK14.out.lt
    clear hb4
    generalize readCode [a, b, c, d] pi = rc at HDEF ⊢
    generalize readData [a, b, c, d] pi = rd at HDEF ⊢
    by_cases hrc : rc = 0
    · subst hrc
      have HANS : Hid (pageAns X (k : Int) pi = ⟨X, rd, 0⟩) := HDEF.out
      clear HDEF
      go_wp2_with fail
      refine (impl_copyNand _ n ca X w4 HX.out HOK.out (rd_step HA.out HB4.out)).mono ?_
      rintro e w5 ⟨A5, c5, rfl, ho5, hb5⟩
      have HB5 := Lib.hid (bel_step HB4.out hb5)
      have k15 := HK14.out.below hb5 HK14.out.lt
      obtain ⟨d0, d1, d2, fd0, fd1, fd2⟩ := blk3 k15
      have HO5 := Lib.hid ho5
      rw [HL.out] at HO5 ⊢
      clear hb5 k15 ho5
      go_wp2
      refine bodyPost_ret (v := .agg #[.slice A5 n c5, .string rd, .int .i64 0]) (by simp [results, Try.results18, go_sem, d0, d1, d2]) rfl ?_
      rw [HANS.out]
      refine ⟨A5, c5, by rw [HL.out], ?_, ?_⟩
      · rw [HL.out]
        refine OwNd.mono (lo := w4.heap.size) (hi := w5.heap.size) (HO5.out.same fun j h1 h2 => ?_) HB4.out.size (by simp only [size_set]; exact Nat.le_refl _)
        rw [Below.heap_setCell _ _ _ _ (by dsimp only; omega), Below.heap_setCell _ _ _ _ (by dsimp only; omega), Below.heap_setCell _ _ _ _ (by dsimp only; omega)]
      · repeat (with_reducible refine Below.setCell ?_ ?_ _)
        all_goals first | exact HB5.out | (dsimp only; omega)
    · have HANS := Lib.hid (HDEF.out.trans (if_neg hrc))
      have hne : (rc == 0) = false := by simpa using hrc
      obtain ⟨d0, d1, d2, fd0, fd1, fd2⟩ := blk3 HK14.out
      clear HDEF
      go_wp2
      refine bodyPost_ret (v := .agg #[.slice none 0 0, .string ⟨#[]⟩, .int .i64 rc]) (by simp [results, Try.results18, go_sem, d0, d1, d2]) rfl ?_
      rw [HANS.out]
      refine ⟨none, 0, rfl, ow_nil _ _ _ _, ?_⟩
      repeat (with_reducible refine Below.setCell ?_ ?_ _)
      all_goals first | exact HB4.out | (dsimp only; omega)
  · have hne : (blkCode X bi == 0) = false := by simpa using hc
    obtain ⟨d0, d1, d2, fd0, fd1, fd2⟩ := blk3 HK1.out
    have HANS : Hid (pageAns X bi pi = ill (blkCode X bi)) := by show pageAns X bi pi = _; unfold pageAns; rw [if_pos hc]
    go_wp2
    refine bodyPost_ret (v := .agg #[.slice none 0 0, .string ⟨#[]⟩, .int .i64 (blkCode X bi)]) (by simp [results, Try.results18, go_sem, d0, d1, d2]) rfl ?_
    rw [HANS.out]
    refine ⟨none, 0, rfl, ow_nil _ _ _ _, ?_⟩
    repeat (with_reducible refine Below.setCell ?_ ?_ _)
    all_goals first | exact HB2.out | (dsimp only; omega)
end Go.Proofs.Ytdgmpllonnddmaa
