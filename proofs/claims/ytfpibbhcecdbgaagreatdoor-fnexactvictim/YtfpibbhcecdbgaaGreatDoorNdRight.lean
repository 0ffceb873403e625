/-
  Which chips are valid: as a mathematical notion, and as the document's model answers.
-/
import Derived.Test.YtfpibbhcecdbgaaGreatDoorProg
import Derived.KernelRfl
import Derived.Test.YtfpibbhcecdbgaaGreatDoorNdMem
import Derived.BigQuiet
namespace Go.Proofs.YtfpibbhcecdbgaaGreatDoor
open Go.RowKit

def PgBad (X : List Pg) (k : Nat) : Prop :=
  60 < (X.getD k zeroPg).data.size ∨ ((X.getD k zeroPg).used = false ∧ 0 < (X.getD k zeroPg).data.size) ∨ (0 < k ∧ (X.getD k zeroPg).used = true ∧ (X.getD (k - 1) zeroPg).used = false)
def BkOk (b : Bk) : Prop := b.pages.length = 4 ∧ (0 ≤ b.erases ∧ b.erases ≤ 1000000) ∧ ∀ k, k < 4 → ¬ PgBad b.pages k
def NdOk (X : List Bk) : Prop := (1 ≤ X.length ∧ X.length ≤ 12) ∧ ∀ i, i < X.length → BkOk (X.getD i zeroBk)
open Classical in
noncomputable def ndB (X : List Bk) : Bool := decide (NdOk X)
theorem ndB_yes {X : List Bk} (h : NdOk X) : ndB X = true := by simp [ndB, h]
theorem ndB_no {X : List Bk} (h : ¬ NdOk X) : ndB X = false := by simp [ndB, h]
theorem ndB_bad {X : List Bk} {i : Nat} (hi : i < X.length) (h : ¬ BkOk (X.getD i zeroBk)) : ndB X = false := ndB_no fun ho => h (ho.2 i hi)
theorem ndB_iff {X : List Bk} : ndB X = true ↔ NdOk X := by simp [ndB]

theorem nil_of_size {s : ByteArray} (h : s.size = 0) : s = ⟨#[]⟩ := by
  obtain ⟨⟨l⟩⟩ := s
  have : l = [] := List.eq_nil_of_length_eq_zero h
  rw [this]
theorem empty_of_size {s : ByteArray} (h : s.size = 0) : s.toList.isEmpty = true := by rw [nil_of_size h, ByteArray.toList_eq]; rfl
theorem full_of_size {s : ByteArray} (h : 0 < s.size) : s.toList.isEmpty = false := by
  rw [ByteArray.toList_eq, List.isEmpty_eq_false_iff]
  intro e
  have : s.data.toList.length = 0 := by rw [e]; rfl
  have h2 : s.data.toList.length = s.size := rfl
  omega

def isB (lo hi n : Int) : Bool := decide (lo ≤ n ∧ n ≤ hi)
theorem isB_yes {lo hi n : Int} (h : lo ≤ n ∧ n ≤ hi) : isB lo hi n = true := by simpa [isB] using h
theorem isB_no {lo hi n : Int} (h : ¬ (lo ≤ n ∧ n ≤ hi)) : isB lo hi n = false := by simpa [isB] using h

set_option maxHeartbeats 1000000 in
theorem l02Is_any (n lo hi : Int) (w : World) :
    Calls Tryz.prog 106 #[.int .i64 n, .int .i64 lo, .int .i64 hi] w fun e w' => e = .returned (.bool (isB lo hi n)) ∧ w = w' := by
  by_cases h1 : lo ≤ n
  · by_cases h2 : n ≤ hi
    · rw [isB_yes ⟨h1, h2⟩]
      go_enter Tryz.func106, Tryz.ntmps106
      go_wp2
      go_ret
      exact ⟨rfl, rfl⟩
    · have h2' : decide (n ≤ hi) = false := by simpa using h2
      rw [isB_no (by omega)]
      go_enter Tryz.func106, Tryz.ntmps106
      go_wp2
      go_ret
      exact ⟨rfl, rfl⟩
  · have h1' : decide (lo ≤ n) = false := by simpa using h1
    rw [isB_no (by omega)]
    go_enter Tryz.func106, Tryz.ntmps106
    go_wp2
    go_ret
    exact ⟨rfl, rfl⟩

set_option maxHeartbeats 1000000 in
theorem l02Time_any (n : Int) (w : World) :
    Calls Tryz.prog 162 #[.int .i64 n] w fun e w' => e = .returned (.bool (isB 0 1000000 n)) ∧ w = w' := by
  go_enter Tryz.func162, Tryz.ntmps162
  go_wp2_with fail
  refine (l02Is_any _ _ _ _).mono ?_
  rintro e w1 ⟨rfl, rfl⟩
  go_wp2
  go_ret
  exact ⟨rfl, rfl⟩

set_option maxHeartbeats 4000000 in
theorem spec_nandRight_any (A : Option Addr) (n ca : Nat) (X : List Bk) (w : World) (hn : n ≤ 2147483648) (hp : ∀ b ∈ X, b.pages.length ≤ 2147483648 ∧ ∀ p ∈ b.pages, p.data.size ≤ 2147483648) (hA : RdBk w w.heap.size A n X) :
    Calls Tryz.prog 86 #[.agg #[.slice A n ca]] w fun e w' => e = .returned (.bool (ndB X)) ∧ Below w.heap.size w w' := by
  have hl := hA.1
  have HA := Lib.hid hA; have HP := Lib.hid hp; have HL := Lib.hid hl; clear hA hp hl
  by_cases h1 : n < 1
  · have h1' : decide ((n : Int) < 1) = true := by simp; omega
    rw [ndB_no (fun h => by have := HL.out; have := h.1; omega)]
    go_enter Tryz.func86, Tryz.ntmps86
    go_wp2
    go_ret
    exact ⟨rfl, (Below.refl _ _).alloc (Nat.le_refl _) _⟩
  by_cases h2 : 12 < n
  · rw [ndB_no (fun h => by have := HL.out; have := h.1; omega)]
    go_enter Tryz.func86, Tryz.ntmps86
    go_wp2
    go_ret
    exact ⟨rfl, (Below.refl _ _).alloc (Nat.le_refl _) _⟩
  have hd1 : decide ((n : Int) < 1) = false := by simp; omega
  have hd2 : decide (12 < (n : Int)) = false := by simp; omega
  go_enter Tryz.func86, Tryz.ntmps86
  go_wp2
  generalize hW : w.alloc (.cells #[.slice A n ca] 28) = w1
  have HB1 : Hid (Below w.heap.size w w1) := by rw [← hW]; exact (Below.refl _ _).alloc (Nat.le_refl _) _
  have HK1 : Hid (IsBlk w1 w.heap.size 28 [.slice A n ca]) := by rw [← hW]; exact isBlk_new _ _ _
  clear hW
  go_loopw [3] (fun i wr => ∃ k : Nat, k ≤ n ∧ i = .int .i64 (k : Nat) ∧ (∀ i, i < k → BkOk (X.getD i zeroBk)) ∧ Below w.heap.size w wr ∧ IsBlk wr w.heap.size 28 [.slice A n ca]) (fun i _ => n - (intOf i).toNat)
  case atStart => exact ⟨0, by omega, rfl, fun i h => absurd h (by omega), HB1.out, HK1.out⟩
  case round =>
    obtain ⟨k, hk, rfl, hok, hbel, hblk⟩ := hrel
    have HOK := Lib.hid hok; have HW := Lib.hid hbel; have HK := Lib.hid hblk
    have hx0 : wr.cell? ⟨w.heap.size, 0, none⟩ = some (.slice A n ca) := hblk.cell rfl
    by_cases hlt : k < n
    · obtain ⟨g, off, pA, pc, rfl, hg, hc0, hc1, hc2, hpg⟩ := (HA.out.below hbel).at hlt
      have hkl : k < X.length := by have := HL.out; omega
      obtain ⟨hpl, hps⟩ := HP.out _ (getD_lt (z := zeroBk) hkl)
      have HPG := Lib.hid (hpg.mono hbel.size); have HPS := Lib.hid hps
      have hgr : g < wr.heap.size := Nat.lt_of_lt_of_le hg hbel.size
      have HBAD : Hid (¬ BkOk (X.getD k zeroBk) → ndB X = false) := fun h => ndB_bad hkl h
      have HGO : Hid (BkOk (X.getD k zeroBk) → ∀ i, i < k + 1 → BkOk (X.getD i zeroBk)) := fun h i hi => by
        by_cases e : i = k
        · rw [e]; exact h
        · exact HOK.out i (by omega)
      clear hbel hblk hok hpg hps
      generalize X.getD k zeroBk = b at hc0 hc1 hc2 hpl HPG HPS HBAD HGO
      obtain ⟨m, hm⟩ : ∃ m, m = b.pages.length := ⟨_, rfl⟩
      rw [← hm] at hc0 hpl HPG
      have HM := Lib.hid hm; clear hm
      by_cases hm4 : m = 4
      · subst hm4
        by_cases het : 0 ≤ b.erases ∧ b.erases ≤ 1000000
        · have hT := isB_yes het
          go_wp2_with fail
          refine (l02Time_any _ _).mono ?_
          rintro e w2 ⟨rfl, rfl⟩
          go_wp2
          generalize hW : wr.alloc (.cells #[.slice pA 4 pc, .int .i64 b.erases, .bool b.bad] 98) = w2
          have HB2 : Hid (Below wr.heap.size wr w2) := by rw [← hW]; exact (Below.refl _ _).alloc (Nat.le_refl _) _
          have HK2 : Hid (IsBlk w2 wr.heap.size 98 [.slice pA 4 pc, .int .i64 b.erases, .bool b.bad]) := by rw [← hW]; exact isBlk_new _ _ _
          clear hW hc0 hc1 hc2 hx0
          obtain ⟨wo, hwo⟩ : ∃ x, x = wr := ⟨_, rfl⟩
          subst hwo
          have hwz : w.heap.size < wo.heap.size := HK.out.lt
          go_loopw [5] (fun i wx => ∃ j : Nat, j ≤ 4 ∧ i = .int .i64 (j : Nat) ∧ (∀ i, i < j → ¬ PgBad b.pages i) ∧ Below wo.heap.size wo wx ∧ IsBlk wx wo.heap.size 98 [.slice pA 4 pc, .int .i64 b.erases, .bool b.bad]) (fun i _ => 4 - (intOf i).toNat)
          case atStart => exact ⟨0, by omega, rfl, fun i h => absurd h (by omega), HB2.out, HK2.out⟩
          case round =>
            obtain ⟨j, hj, rfl, hjok, hjb, hjk⟩ := hrel
            have HJO := Lib.hid hjok; have HJB := Lib.hid hjb; have HJK := Lib.hid hjk
            have hy0 : wr.cell? ⟨wo.heap.size, 0, none⟩ = some (.slice pA 4 pc) := hjk.cell rfl
            have hsz := hjb.size
            by_cases hj4 : j < 4
            · obtain ⟨g', off', rfl, hg', hd0, hd1⟩ := (HPG.out.below hjb).at hj4
              have hlt1 : wo.heap.size < wr.heap.size := hjk.lt
              have hg1 : g' < wr.heap.size := by omega
              have HGO2 : Hid (¬ PgBad b.pages j → ∀ i, i < j + 1 → ¬ PgBad b.pages i) := fun h i hi => by
                by_cases e : i = j
                · rw [e]; exact h
                · exact HJO.out i (by omega)
              have HPB := Lib.hid hjb
              have HDF : Hid (PgBad b.pages j ↔ (60 < (b.pages.getD j zeroPg).data.size ∨ ((b.pages.getD j zeroPg).used = false ∧ 0 < (b.pages.getD j zeroPg).data.size) ∨ (0 < j ∧ (b.pages.getD j zeroPg).used = true ∧ (b.pages.getD (j - 1) zeroPg).used = false))) := Iff.rfl
              clear hjok hjb hjk
              generalize b.pages.getD j zeroPg = p at hd0 hd1 HDF
              obtain ⟨pu, pd⟩ := p
              simp only at hd0 hd1 HDF
              by_cases ha : 60 < pd.size
              · have HBD : PgBad b.pages j := HDF.out.2 (.inl ha)
                have HBD' := Lib.hid HBD; clear HBD
                go_wp2
                go_ret
                exact ⟨ret_b (HBAD.out fun h => h.2.2 j hj4 HBD'.out).symm, (HW.out.trans (HJB.out.mono (by omega))).alloc (by have := HW.out.size; omega) _⟩
              have ha' : decide ((60 : Int) < (pd.size : Int)) = false := by simp; omega
              cases pu with
              | false =>
                by_cases he : pd.size = 0
                · have HNB : Hid (¬ PgBad b.pages j) := fun h => by rcases HDF.out.1 h with h | h | h <;> first | omega | (simp at h; done) | (simp at h; omega)
                  have hz := empty_of_size he
                  clear he
                  by_cases hj0 : 0 < j
                  all_goals
                    go_wp2
                    go_roundw
                    case rel => exact ⟨j + 1, by omega, by go_num, HGO2.out HNB.out, HJB.out.alloc HJB.out.size _, HJK.out.alloc _⟩
                    case measure => simp [intOf]; omega
                · have HBD' : Hid (PgBad b.pages j) := HDF.out.2 (.inr (.inl ⟨rfl, by omega⟩))
                  have hz := full_of_size (s := pd) (by omega)
                  go_wp2
                  go_ret
                  exact ⟨ret_b (HBAD.out fun h => h.2.2 j hj4 HBD'.out).symm, (HW.out.trans (HJB.out.mono (by omega))).alloc (by have := HW.out.size; omega) _⟩
              | true =>
                by_cases hj0 : 0 < j
                · obtain ⟨i, rfl⟩ : ∃ i, j = i + 1 := ⟨j - 1, by omega⟩
                  obtain ⟨g'', off'', he, hg'', hp0, hp1⟩ := (HPG.out.below HPB.out).at (k := i) (by omega)
                  injection he with he; injection he with he1 he2; subst he1 he2
                  rw [Nat.add_sub_cancel] at HDF
                  generalize b.pages.getD i zeroPg = q at hp0 hp1 HDF
                  obtain ⟨qu, qd⟩ := q
                  simp only at hp0 hp1 HDF
                  cases qu with
                  | true =>
                    have HNB : Hid (¬ PgBad b.pages (i + 1)) := fun h => by rcases HDF.out.1 h with h | h | h <;> first | omega | (simp at h)
                    go_wp2
                    go_roundw
                    case rel => exact ⟨i + 1 + 1, by omega, by go_num, HGO2.out HNB.out, HJB.out.alloc HJB.out.size _, HJK.out.alloc _⟩
                    case measure => simp [intOf]; omega
                  | false =>
                    have HBD' : Hid (PgBad b.pages (i + 1)) := HDF.out.2 (.inr (.inr ⟨by omega, by simp, by simp⟩))
                    go_wp2
                    go_ret
                    exact ⟨ret_b (HBAD.out fun h => h.2.2 (i + 1) hj4 HBD'.out).symm, (HW.out.trans (HJB.out.mono (by omega))).alloc (by have := HW.out.size; omega) _⟩
                · have HNB : Hid (¬ PgBad b.pages j) := fun h => by rcases HDF.out.1 h with h | h | h <;> first | omega | (simp at h)
                  have hj0' : decide ((0 : Int) < (j : Int)) = false := by simp; omega
                  obtain rfl : j = 0 := by omega
                  simp only [Nat.zero_mul, Nat.add_zero] at hd0 hd1
                  go_wp2
                  go_roundw
                  case rel => exact ⟨0 + 1, by omega, by go_num, HGO2.out HNB.out, HJB.out.alloc HJB.out.size _, HJK.out.alloc _⟩
                  case measure => simp [intOf]
            · obtain rfl : j = 4 := by omega
              clear hjok hjb hjk
              go_wp2
              go_roundw
              case rel => exact ⟨k + 1, by omega, by go_num, HGO.out ⟨HM.out.symm, het, HJO.out⟩, HW.out.trans (HJB.out.mono (by omega)), HK.out.below HJB.out hwz⟩
              case measure => simp [intOf]; omega
        · have hT := isB_no het
          go_wp2_with fail
          refine (l02Time_any _ _).mono ?_
          rintro e w2 ⟨rfl, rfl⟩
          go_wp2
          go_ret
          exact ⟨ret_b (HBAD.out fun h => het h.2.1).symm, HW.out.alloc HW.out.size _⟩
      · have hm4' : (m == 4) = false := by simpa using hm4
        have hm4'' : ((m : Int) == 4) = false := by simp; omega
        go_wp2
        go_ret
        exact ⟨ret_b (HBAD.out fun h => hm4 (HM.out.trans h.1)).symm, HW.out.alloc HW.out.size _⟩
    · clear hbel hblk hok
      obtain rfl : k = n := by omega
      go_wp2
      go_ret
      exact ⟨ret_b (ndB_yes ⟨⟨by have := HL.out; omega, by have := HL.out; omega⟩, fun i hi => HOK.out i (by have := HL.out; omega)⟩).symm, HW.out⟩
end Go.Proofs.YtfpibbhcecdbgaaGreatDoor
