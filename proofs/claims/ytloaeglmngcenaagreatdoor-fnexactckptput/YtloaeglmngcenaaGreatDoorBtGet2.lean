/-
  The contracts of GetText, of the program and of the model, and of the law's comparison of two results.
-/
import Derived.Test.YtloaeglmngcenaaGreatDoorProg
import Derived.KernelRfl
import Derived.Test.YtloaeglmngcenaaGreatDoorBtGet
import Derived.WalkKit
import Derived.Lib.Hide
import Derived.StillTailTactics
namespace Go.Proofs.YtloaeglmngcenaaGreatDoor
open Go.RowKit

theorem parts_one_at (w : World) (e : TypeId) (a : ByteArray) {g : Nat} (hg : g = w.heap.size) : ∀ i, i < [a].length → (w.alloc (.cells #[.string a] e)).cell? ⟨g, 0 + i, none⟩ = some (.string ([a].getD i ByteArray.empty)) := by
  subst hg; exact parts_one w e a

theorem ext_len {s : ByteArray} {i j : Nat} (h : j ≤ s.size) : (s.extract i j).size = j - i := by
  have : (s.extract i j).data.toList.length = j - i := by
    have e : s.data.size = s.size := rfl
    simp [e]; omega
  exact this

set_option maxHeartbeats 4000000 in
theorem impl_getText_any (s : ByteArray) (p : Int) (w : World) (hs : s.size ≤ maxLen) (hp : p ≤ 9223372036854775807) (hg : ErrType w) :
    Calls Tryz.prog 288 #[.string s, .int .i64 p] w fun e w' => e = .returned (toutV (Bt.getText s p).1 (Bt.getText s p).2.1 (Bt.getText s p).2.2) ∧ Below w.heap.size w w' := by
  obtain ⟨hat, hatl⟩ := Bt.getNum_at s p
  have HC := fun h => Lib.hid (Bt.getText_code (s := s) (p := p) h)
  have HZ := fun h h1 => Lib.hid (Bt.getText_size (s := s) (p := p) h h1)
  have HS := fun h h1 h2 => Lib.hid (Bt.getText_short (s := s) (p := p) h h1 h2)
  have HO := fun h h1 h2 => Lib.hid (Bt.getText_ok (s := s) (p := p) h h1 h2)
  go_enter Tryz.func288, Tryz.ntmps288
  go_wp2_with fail
  refine (impl_getNum_any s p _ hs hp (hg.alloc _)).mono ?_
  rintro e w1 ⟨rfl, hb1⟩
  have hk1 := (isBlk_new w 131 [Value.string { data := #[] }, .int .i64 0, .int .i64 0]).below hb1 (by simp)
  have HB1 := Lib.hid (((Below.refl w.heap.size w).alloc (Nat.le_refl _) _).trans (hb1.mono (by simp)))
  have HK1 := Lib.hid hk1
  have hz := hk1.lt
  have hc0 : w1.cell? ⟨w.heap.size, 0, none⟩ = some _ := hk1.cell rfl
  have hc1 : w1.cell? ⟨w.heap.size, 1, none⟩ = some _ := hk1.cell rfl
  have hc2 : w1.cell? ⟨w.heap.size, 2, none⟩ = some _ := hk1.cell rfl
  have hf0 : w1.frozen? ⟨w.heap.size, 0, none⟩ = false := hk1.free
  have hf1 : w1.frozen? ⟨w.heap.size, 1, none⟩ = false := hk1.free
  have hf2 : w1.frozen? ⟨w.heap.size, 2, none⟩ = false := hk1.free
  clear hb1 hk1
  generalize hR : Bt.getNum s p = R at hat hatl HC HZ HS HO
  obtain ⟨n, a, c⟩ := R
  have HR := Lib.hid hR; clear hR
  simp only at hat hatl HC HZ HS HO
  unfold maxLen at hs
  by_cases h1 : c ≠ 0
  · have HH := HC h1
    have hcc : (c != 0) = true := by simpa using h1
    clear HC HZ HS HO h1
    go_wp2
    exact bodyPost_ret (v := toutV [] 0 c) (by simp [results, Tryz.results288, go_sem, hc0, hc1, hc2, hz]; rfl) rfl ⟨by rw [HH.out], by repeat (first | exact HB1.out | refine Below.setCell ?_ (by simp) _ | refine Below.alloc ?_ (by simp; omega) _)⟩
  have hcc : (c != 0) = false := by simpa using h1
  obtain ⟨ha, hs8⟩ := hatl (by simpa using h1)
  by_cases h2 : n < 0 ∨ 8000 < n
  · have HH := HZ h1 h2
    clear HC HZ HS HO hatl h1
    rcases h2 with h2 | h2
    all_goals
      go_wp2
      exact bodyPost_ret (v := toutV [] 0 3) (by simp [results, Tryz.results288, go_sem, hc0, hc1, hc2, hz]; rfl) rfl ⟨by rw [HH.out], by repeat (first | exact HB1.out | refine Below.setCell ?_ (by simp) _ | refine Below.alloc ?_ (by simp; omega) _)⟩
  have hn1 : 0 ≤ n := by omega
  have hn2 : n ≤ 8000 := by omega
  by_cases h3 : (s.size : Int) < a + n
  · have HH := HS h1 h2 h3
    clear HC HZ HS HO hatl h1 h2
    go_wp2
    exact bodyPost_ret (v := toutV [] 0 4) (by simp [results, Tryz.results288, go_sem, hc0, hc1, hc2, hz]; rfl) rfl ⟨by rw [HH.out], by repeat (first | exact HB1.out | refine Below.setCell ?_ (by simp) _ | refine Below.alloc ?_ (by simp; omega) _)⟩
  have HH := HO h1 h2 (by omega)
  have hsl : a ≤ a + n := by omega
  clear HC HZ HS HO hatl h1 h2
  go_wp2_with fail
  refine (assemble_any [s.extract a.toNat (a + n).toNat] (w1.heap.size + 1) 0 1 _ (parts_one_at _ _ _ (by simp)) (by simp) (by simp) (by rw [flat_one, len_list, ext_len (by omega)]; omega)).mono ?_
  rintro e w2 ⟨rfl, hb2⟩
  have HB2 := Lib.hid (((HB1.out.alloc HB1.out.size _).alloc (by simp; omega) _).trans (hb2.mono (by simp; omega)))
  have hk2 := ((HK1.out.alloc _).alloc _).below hb2 (by simp; omega)
  have hd0 : w2.cell? ⟨w.heap.size, 0, none⟩ = some _ := hk2.cell rfl
  have hd1 : w2.cell? ⟨w.heap.size, 1, none⟩ = some _ := hk2.cell rfl
  have hd2 : w2.cell? ⟨w.heap.size, 2, none⟩ = some _ := hk2.cell rfl
  have hg0 : w2.frozen? ⟨w.heap.size, 0, none⟩ = false := hk2.free
  have hg1 : w2.frozen? ⟨w.heap.size, 1, none⟩ = false := hk2.free
  have hg2 : w2.frozen? ⟨w.heap.size, 2, none⟩ = false := hk2.free
  clear hb2 hk2
  go_wp2
  exact bodyPost_ret (v := toutV (flat [s.extract a.toNat (a + n).toNat]) (a + n) 0) (by simp [results, Tryz.results288, go_sem, hd0, hd1, hd2]) rfl ⟨by rw [HH.out, flat_one], ((HB2.out.setCell (Nat.le_refl _) _).setCell (Nat.le_refl _) _).setCell (Nat.le_refl _) _⟩

set_option maxHeartbeats 4000000 in
set_option maxRecDepth 100000 in
theorem spec_getText_any (s : ByteArray) (p : Int) (w : World) (hs : s.size ≤ maxLen) (hp : p ≤ 9223372036854775807) :
    Calls Tryz.prog 174 #[.string s, .int .i64 p] w fun e w' => e = .returned (toutV (Bt.getText s p).1 (Bt.getText s p).2.1 (Bt.getText s p).2.2) ∧ Below w.heap.size w w' := by
  obtain ⟨hat, hatl⟩ := Bt.getNum_at s p
  have HC := fun h => Lib.hid (Bt.getText_code (s := s) (p := p) h)
  have HZ := fun h h1 => Lib.hid (Bt.getText_size (s := s) (p := p) h h1)
  have HS := fun h h1 h2 => Lib.hid (Bt.getText_short (s := s) (p := p) h h1 h2)
  have HO := fun h h1 h2 => Lib.hid (Bt.getText_ok (s := s) (p := p) h h1 h2)
  go_enter Tryz.func174, Tryz.ntmps174
  go_wp2_with fail
  refine (spec_getNum_any s p _ hs hp).mono ?_
  rintro e w1 ⟨rfl, hb1⟩
  have hk1 := (isBlk_new w 131 [Value.string { data := #[] }, .int .i64 0, .int .i64 0]).below hb1 (by simp)
  have HB1 := Lib.hid (((Below.refl w.heap.size w).alloc (Nat.le_refl _) _).trans (hb1.mono (by simp)))
  have HK1 := Lib.hid hk1
  have hz := hk1.lt
  have hc0 : w1.cell? ⟨w.heap.size, 0, none⟩ = some _ := hk1.cell rfl
  have hc1 : w1.cell? ⟨w.heap.size, 1, none⟩ = some _ := hk1.cell rfl
  have hc2 : w1.cell? ⟨w.heap.size, 2, none⟩ = some _ := hk1.cell rfl
  have hf0 : w1.frozen? ⟨w.heap.size, 0, none⟩ = false := hk1.free
  have hf1 : w1.frozen? ⟨w.heap.size, 1, none⟩ = false := hk1.free
  have hf2 : w1.frozen? ⟨w.heap.size, 2, none⟩ = false := hk1.free
  clear hb1 hk1
  generalize hR : Bt.getNum s p = R at hat hatl HC HZ HS HO
  obtain ⟨n, a, c⟩ := R
  have HR := Lib.hid hR; clear hR
  simp only at hat hatl HC HZ HS HO
  unfold maxLen at hs
  by_cases h1 : c ≠ 0
  · have HH := HC h1
    have hcc : (c != 0) = true := by simpa using h1
    clear HC HZ HS HO h1
    go_wp2
    exact bodyPost_ret (v := toutV [] 0 c) (by simp [results, Tryz.results174, go_sem, hc0, hc1, hc2, hz]; rfl) rfl ⟨by rw [HH.out], by repeat (first | exact HB1.out | refine Below.setCell ?_ (by simp) _ | refine Below.alloc ?_ (by simp; omega) _)⟩
  have hcc : (c != 0) = false := by simpa using h1
  obtain ⟨ha, hs8⟩ := hatl (by simpa using h1)
  by_cases h2 : n < 0 ∨ 8000 < n
  · have HH := HZ h1 h2
    clear HC HZ HS HO hatl h1
    rcases h2 with h2 | h2
    all_goals
      go_wp2
      exact bodyPost_ret (v := toutV [] 0 3) (by simp [results, Tryz.results174, go_sem, hc0, hc1, hc2, hz]; rfl) rfl ⟨by rw [HH.out], by repeat (first | exact HB1.out | refine Below.setCell ?_ (by simp) _ | refine Below.alloc ?_ (by simp; omega) _)⟩
  have hn1 : 0 ≤ n := by omega
  have hn2 : n ≤ 8000 := by omega
  by_cases h3 : (s.size : Int) < a + n
  · have HH := HS h1 h2 h3
    clear HC HZ HS HO hatl h1 h2
    go_wp2
    exact bodyPost_ret (v := toutV [] 0 4) (by simp [results, Tryz.results174, go_sem, hc0, hc1, hc2, hz]; rfl) rfl ⟨by rw [HH.out], by repeat (first | exact HB1.out | refine Below.setCell ?_ (by simp) _ | refine Below.alloc ?_ (by simp; omega) _)⟩
  have HH := HO h1 h2 (by omega)
  have hsl : a ≤ a + n := by omega
  clear HC HZ HS HO hatl h1 h2
  go_wp2_with fail
  generalize hW : w1.alloc (Obj.cells #[Value.int IntKind.i64 n, Value.int IntKind.i64 a, Value.int IntKind.i64 c] 218) = W
  have hbW : Below w.heap.size w W := by rw [← hW]; exact HB1.out.alloc HB1.out.size _
  have hkW : IsBlk W w.heap.size 131 [Value.string { data := #[] }, Value.int IntKind.i64 0, Value.int IntKind.i64 0] := by rw [← hW]; exact HK1.out.alloc _
  have hkN : IsBlk W w1.heap.size 218 [Value.int IntKind.i64 n, Value.int IntKind.i64 a, Value.int IntKind.i64 c] := by rw [← hW]; exact isBlk_new w1 _ _
  have HBW := Lib.hid hbW
  have hn0 : W.cell? ⟨w1.heap.size, 0, none⟩ = some _ := hkN.cell rfl
  have hn1' : W.cell? ⟨w1.heap.size, 1, none⟩ = some _ := hkN.cell rfl
  have hd0 : W.cell? ⟨w.heap.size, 0, none⟩ = some _ := hkW.cell rfl
  have hd1 : W.cell? ⟨w.heap.size, 1, none⟩ = some _ := hkW.cell rfl
  have hd2 : W.cell? ⟨w.heap.size, 2, none⟩ = some _ := hkW.cell rfl
  have hg0 : W.frozen? ⟨w.heap.size, 0, none⟩ = false := hkW.free
  have hg1 : W.frozen? ⟨w.heap.size, 1, none⟩ = false := hkW.free
  have hg2 : W.frozen? ⟨w.heap.size, 2, none⟩ = false := hkW.free
  clear hW hbW hkW hkN hc0 hc1 hc2 hf0 hf1 hf2
  have hwr : IntKind.i64.wrap (a + n) = a + n := IntWalk.i64_in _ (by omega)
  have hap : 0 ≤ a + n := by omega
  go_still_tail 15, (by kernel_rfl)
  clear hwr
  change wpList _ _ _ _ _ W.drew
  go_wp2
  exact bodyPost_ret (v := .agg #[.string (s.extract a.toNat (a + n).toNat), .int .i64 (a + n), .int .i64 0]) (by simp [results, Tryz.results174, go_sem, hd0, hd1, hd2]) rfl ⟨by rw [HH.out]; unfold toutV strV; rw [bstr_of], by repeat (first | exact HBW.out | refine Below.setCell ?_ (by simp) _ | refine Below.drew ?_)⟩

end Go.Proofs.YtloaeglmngcenaaGreatDoor
