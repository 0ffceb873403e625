/-
  timesFrom, and the test that neededTest gives back.
-/
import Derived.Test.YtgkkkldajangeaaProg
import Derived.KernelRfl
import Derived.Test.YtgkkkldajangeaaHsNeedP
import Derived.Test.YtgkkkldajangeaaHsTimesI
import Derived.Test.YtgkkkldajangeaaHsFloor
import Derived.Test.YtgkkkldajangeaaHsLast
namespace Go.Proofs.Ytgkkkldajangeaa
open Go.RowKit
open Bt (Rc)

theorem rcEq_iff {a b : Rc} : rcEq a b = true ↔ a = b := by
  obtain ⟨k, s, q, t, o, d⟩ := a
  obtain ⟨k', s', q', t', o', d'⟩ := b
  simp only [rcEq, Bool.and_eq_true, beq_iff_eq, Rc.mk.injEq]
  constructor
  · rintro ⟨h1, h2, h3, h4, h5, h6⟩
    rw [ByteArray.toList_eq, ByteArray.toList_eq] at h6
    refine ⟨h1, h2, h3, h4, h5, ?_⟩
    rw [← bstr_of d, ← bstr_of d', h6]
  · rintro ⟨h1, h2, h3, h4, h5, h6⟩
    exact ⟨h1, h2, h3, h4, h5, by rw [h6]⟩

set_option maxHeartbeats 4000000 in
set_option maxRecDepth 100000 in
theorem timesFrom_any (A : Option Addr) (n ca : Nat) (X : List Rc) (f : Int) (w : World) (hr : hRight X = true) (hA : RdRc w w.heap.size A n X) :
    Calls Try.prog 85 #[.slice A n ca, .int .i64 f] w (RetNs w (tmsTo X f n)) := by
  have hn : n ≤ 48 := by rw [← hA.1]; exact hRight_len hr
  have HL := Lib.hid hA.1
  have HA := Lib.hid hA; have HR := Lib.hid hr; clear hA hr
  go_enter Try.func85, Try.ntmps85
  go_wp2_with fail
  have hb4 : Below w.heap.size w (w.alloc (.cells #[.slice none 0 0] 82)) := (Below.refl _ _).alloc (Nat.le_refl _) _
  have k4 := isBlk_new w 82 [.slice none 0 0]
  have hs4 : w.heap.size + 1 ≤ (w.alloc (.cells #[.slice none 0 0] 82)).heap.size := by simp
  change IsBlk (w.alloc (.cells #[.slice none 0 0] 82)) _ _ _ at k4
  generalize w.alloc (.cells #[.slice none 0 0] 82) = W4 at hb4 k4 hs4 ⊢
  have HB4 := Lib.hid hb4
  refine (add_end w.heap.size (.slice none 0 0) (w.heap.size + 1) [] f W4 (by simp) (by omega) hs4 (fun a b _ h => absurd h (by simp)) (fun i hc => .inr (by have := hc.le; simp at this; simp; omega)) k4 (World.ownsRow_nil _ _ _ _)).mono ?_
  rintro e w5 ⟨rv, v5, T5, rfl, had, hbl5, how5, hfr5, -⟩
  have hT5 : T5 = [f] := (upw_nil f).added had
  subst hT5
  have HBL5 := Lib.hid hbl5; have HOW5 := Lib.hid how5
  have HW5 : Hid (Below w.heap.size w w5) := hb4.trans (hfr5.below (World.ownsRow_nil W4 (w.heap.size + 1) 2 1) (by omega) (by omega))
  clear hbl5 how5 hfr5 had hb4 k4
  go_wp2
  go_loopw [12] (fun i wr => ∃ (k : Nat) (v : Value), k ≤ n ∧ i = .int .i64 (k : Nat) ∧ IsBlk wr w.heap.size 82 [v] ∧ wr.ownsRow (w.heap.size + 1) 2 1 v (tmsTo X f k).length ((tmsTo X f k).map numV) ∧ Below w.heap.size w wr) (fun i _ => n - (intOf i).toNat)
  case atStart => exact ⟨0, v5, by omega, rfl, HBL5.out, HOW5.out, HW5.out⟩
  case round =>
    obtain ⟨k, v, hk, rfl, hblk, hown, hbel⟩ := hrel
    have HBL := Lib.hid hblk; have HOW := Lib.hid hown; have HW := Lib.hid hbel
    have hzr : w.heap.size < wr.heap.size := hblk.lt
    clear hblk hown
    by_cases hlt : k < n
    · obtain ⟨g, off, rfl, hg, hc0, hc1, hc2, hc3, hc4, hc5⟩ := ((HA.out.below hbel)).at hlt
      have HYE := Lib.hid (fun h => tmsTo_yes (X := X) (f := f) (k := k) h)
      have HNO := Lib.hid (fun h => tmsTo_no (X := X) (f := f) (k := k) h)
      have HU : Hid (f ≤ (X.getD k Rc.zero).t → Upw (tmsTo X f k) (X.getD k Rc.zero).t) := Lib.hid (fun h => tms_next HR.out (by rw [HL.out]; exact hlt) h)
      have hTl := tmsTo_len X f k
      generalize X.getD k Rc.zero = r at *
      generalize tmsTo X f k = T at *
      clear hbel
      have hb5 : ∀ o, Below wr.heap.size wr (wr.alloc o) := fun o => (Below.refl _ _).alloc (Nat.le_refl _) _
      have HB5 := Lib.hid hb5
      clear hb5
      by_cases ht : f ≤ r.t
      · have HU' := Lib.hid (HU.out ht)
        have HYE' := Lib.hid (HYE.out ht)
        clear HYE HNO HU
        go_wp2_with fail
        have hb6 := HB5.out (.cells #[.int .i64 r.k, .int .i64 r.s, .int .i64 r.q, .int .i64 r.t, .int .i64 r.o, .string r.d] 27)
        generalize wr.alloc (.cells #[.int .i64 r.k, .int .i64 r.s, .int .i64 r.q, .int .i64 r.t, .int .i64 r.o, .string r.d] 27) = w6 at hb6 ⊢
        have HBL6 := Lib.hid (HBL.out.below hb6 HBL.out.lt)
        have HOW6 := Lib.hid (own_belowR HOW.out hb6)
        have HW6 := Lib.hid (HW.out.trans (hb6.mono (by omega)))
        have hz6 : w.heap.size < w6.heap.size := HBL6.out.lt
        clear hb6
        refine (add_end w.heap.size v (w.heap.size + 1) T r.t w6 (by omega) (by omega) (by omega) HU'.out.srt HU'.out.ends HBL6.out HOW6.out).mono ?_
        rintro e w7 ⟨rv, v', T', rfl, had, hbl7, how7, hfr7, -⟩
        have hT' := HU'.out.added had
        subst hT'
        have HBL7 := Lib.hid hbl7; have HOW7 := Lib.hid how7
        have HW7 := Lib.hid (HW6.out.trans (hfr7.below HOW6.out (by omega) (by omega)))
        clear hbl7 how7 hfr7 had
        go_wp2
        go_roundw
        case rel => exact ⟨k + 1, v', by omega, by go_num, HBL7.out, by rw [HYE'.out]; exact HOW7.out, HW7.out⟩
        case measure => simp [intOf]; omega
      · have HNO' := Lib.hid (HNO.out ht)
        have ht' : r.t < f := by omega
        clear ht HYE HNO HU
        go_wp2
        go_roundw
        case rel => exact ⟨k + 1, v, by omega, by go_num, HBL.out.alloc _, by rw [HNO'.out]; exact own_belowR HOW.out (HB5.out _), HW.out.trans ((HB5.out _).mono (by omega))⟩
        case measure => simp [intOf]; omega
    · obtain rfl : k = n := by omega
      obtain ⟨Av, cv, rfl⟩ := own_slice HOW.out
      have hv : wr.cell? ⟨w.heap.size, 0, none⟩ = some (.slice Av (tmsTo X f k).length cv) := HBL.out.cell rfl
      clear hbel
      go_wp2
      go_ret
      exact ⟨Av, cv, rfl, (owNs_of_own HOW.out).mono (by omega) (Nat.le_refl _), HW.out⟩

theorem cut_mem {L : List Int} {x : Int} {i : Nat} (hS : Srt L) (hc : Cut L x i) : (i < L.length ∧ L.getD i 0 = x) ↔ x ∈ L := by
  constructor
  · rintro ⟨h1, h2⟩; rw [← h2]; exact getD_lt h1
  · intro h
    obtain ⟨j, hj, hjx⟩ := mem_getD h 0
    have e : i = j := by
      rcases Nat.lt_trichotomy i j with h | h | h
      · have h1 := hc.hi i (Nat.le_refl _) (by omega); have h2 := hS i j h hj; omega
      · exact h
      · have h1 := hc.lo j h; omega
    subst e; exact ⟨hj, hjx⟩
set_option maxHeartbeats 1000000 in
theorem has_any (B : Nat) (A : Option Addr) (cap : Nat) (L : List Int) (x : Int) (w : World) (hn : L.length ≤ 1048576) (hS : Srt L) (hB : w.cell? ⟨B, 0, none⟩ = some (.slice A L.length cap)) (hA : RdNs w w.heap.size A L.length L) :
    Calls Try.prog 87 #[.pointer (some ⟨B, 0, none⟩), .int .i64 x] w fun e w' => e = .returned (.bool (decide (x ∈ L))) ∧ w = w' := by
  have HA := Lib.hid hA; have HS := Lib.hid hS
  clear hA hS
  go_enter Try.func87, Try.ntmps87
  go_wp2_with fail
  refine (search_any A L.length cap L x w hn HS.out HA.out).mono ?_
  rintro e w1 ⟨i, hcut, rfl, rfl⟩
  have HC : Hid (decide (i < L.length ∧ L.getD i 0 = x) = decide (x ∈ L)) := by show _ = _; exact decide_eq_decide.2 (cut_mem HS.out hcut)
  rw [HC.out]
  clear hcut
  go_wp2
  go_ret
  exact ⟨rfl, rfl⟩

/-- what the test that neededTest gives back holds on to -/
structure Held (w : World) (B3 B4 : Nat) (fl : Rc) (L : List Int) : Prop where
  b3 : IsBlk w B3 27 (recC fl)
  srt : Srt L
  len : L.length ≤ 1048576
  b4 : ∃ A cap, IsBlk w B4 82 [.slice A L.length cap] ∧ RdNs w w.heap.size A L.length L
theorem Held.below {w w' : World} {B3 B4 : Nat} {fl : Rc} {L : List Int} (h : Held w B3 B4 fl L) (hb : Below w.heap.size w w') : Held w' B3 B4 fl L := by
  obtain ⟨A, cap, h1, h2⟩ := h.b4
  refine ⟨h.b3.below hb h.b3.lt, h.srt, h.len, A, cap, h1.below hb h1.lt, ?_⟩
  have := h2.below hb
  exact ⟨this.1, fun hn => by obtain ⟨g, h3, h4, h5⟩ := this.2 hn; exact ⟨g, h3, Nat.lt_of_lt_of_le h4 hb.size, h5⟩⟩
def tstB (fl : Rc) (L : List Int) (r : Rc) : Bool := rcEq r fl || decide (r.q ∈ L)
set_option maxHeartbeats 1000000 in
set_option maxRecDepth 100000 in
theorem test_any (B3 B4 : Nat) (fl r : Rc) (L : List Int) (w : World) (hH : Held w B3 B4 fl L) :
    Calls Try.prog 86 #[recV r, .pointer (some ⟨B3, 0, none⟩), .pointer (some ⟨B4, 0, none⟩)] w fun e w' => e = .returned (.bool (tstB fl L r)) ∧ Below w.heap.size w w' := by
  have hne := equalIn_rec r fl
  have hgu := rec_guard
  have HH := Lib.hid (hH.below ((Below.refl _ w).alloc (Nat.le_refl _) (.cells #[.int .i64 r.k, .int .i64 r.s, .int .i64 r.q, .int .i64 r.t, .int .i64 r.o, .string r.d] 27)))
  have hlt3 := hH.b3.lt
  clear hH
  obtain ⟨y0, y1, y2, y3, y4, y5⟩ := rcCells HH.out.b3
  have HB : Hid (∀ o, Below w.heap.size w (w.alloc o)) := fun o => (Below.refl _ _).alloc (Nat.le_refl _) _
  have HT : Hid (tstB fl L r = (rcEq r fl || decide (r.q ∈ L))) := Lib.hid rfl
  obtain ⟨O, hO⟩ : ∃ O, O = tstB fl L r := ⟨_, rfl⟩
  rw [← hO] at HT ⊢
  clear hO
  cases he : rcEq r fl with
  | true =>
    have HO : Hid (O = true) := by show _ = _; rw [HT.out, he]; rfl
    rw [he] at hne
    clear he HT
    go_enter Try.func86, Try.ntmps86
    go_wp2
    go_ret
    exact ⟨ret_b HO.out.symm, HB.out _⟩
  | false =>
    have HO : Hid (O = decide (r.q ∈ L)) := by show _ = _; rw [HT.out, he]; rfl
    rw [he] at hne
    clear he HT
    obtain ⟨A, cap, k4, hL⟩ := HH.out.b4
    have c4 := k4.cell (j := 0) rfl
    have HL := Lib.hid hL
    clear k4 hL
    go_enter Try.func86, Try.ntmps86
    go_wp2_with fail
    refine (has_any B4 A cap L r.q _ HH.out.len HH.out.srt c4 HL.out).mono ?_
    rintro e w2 ⟨rfl, rfl⟩
    generalize decide (r.q ∈ L) = bb at HO
    go_wp2
    go_ret
    exact ⟨ret_b HO.out.symm, HB.out _⟩
end Go.Proofs.Ytgkkkldajangeaa
