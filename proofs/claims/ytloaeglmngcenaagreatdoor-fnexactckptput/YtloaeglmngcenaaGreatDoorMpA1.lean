/-
  The laws' own steps over what CkptRead and CkptBest answer: comparing, marking, reading again.
  ckptRight of the program.
  CkptRead of the program.
  A row of bytes that '[]byte(s)' made and that is written on: the bytes of a text appended, the whole turned back into a text. Over any program.
  CkptBytes of the model.
  CkptRead of the model.
  A region whose order is free, by an invariant over what has been done of it.
  Two checkpoints read into two boxes, in whatever order: what stands of them. Over any program.
  A region whose order is free, by an invariant over what has been done of it, outside of a range over a function. Over any program.
  The better of two slots, of the program.
  The better of two slots, of the model.
  CkptBest of both.
  CkptBytes of the program.
-/
import Derived.Test.YtloaeglmngcenaaGreatDoorProg
import Derived.KernelRfl
import Derived.Test.YtloaeglmngcenaaGreatDoorHsMark
import Derived.Test.YtloaeglmngcenaaGreatDoorHsLaw
import Derived.Test.YtloaeglmngcenaaGreatDoorHsApp
import Derived.Test.YtloaeglmngcenaaGreatDoorCkPure
import Derived.Test.YtloaeglmngcenaaGreatDoorHsRight
import Derived.Test.YtloaeglmngcenaaGreatDoorCkReadI
import Derived.Test.YtloaeglmngcenaaGreatDoorBtSeal
import Derived.Test.YtloaeglmngcenaaGreatDoorBtMem
import Derived.Lib.AppendStr
import Derived.Lib.ConvBytes
import Derived.Test.YtloaeglmngcenaaGreatDoorRcBytes
import Derived.OwnWalk
import Derived.Deep.RegionHeld3
import Derived.Deep.DeepCutAuto
import Derived.Deep.CutBlock
import Derived.Test.YtloaeglmngcenaaGreatDoorRcRead2
import Derived.OrdersIn
import Derived.TacticsIn
import Derived.Orders
import Derived.Tactics
import Derived.Test.YtloaeglmngcenaaGreatDoorCkSlots
import Derived.BigRegion
namespace Go.Proofs.YtloaeglmngcenaaGreatDoor
open Go.RowKit
open Bt (Rc)

abbrev ckV (num : Int) (A : Option Addr) (n ca : Nat) (code : Int) : Value := .agg #[.int .i64 num, .slice A n ca, .int .i64 code]
/-- a checkpoint, its records in memory of the call's own -/
def RetCk (w : World) (num : Int) (Y : List Rc) (code : Int) (e : Ending) (w' : World) : Prop :=
  ∃ (A : Option Addr) (ca : Nat), e = .returned (ckV num A Y.length ca code) ∧ OwRc w' w.heap.size w'.heap.size A Y.length Y ∧ Below w.heap.size w w'
/-- the same, and its row is no longer than its capacity -/
def RetCkC (w : World) (num : Int) (Y : List Rc) (code : Int) (e : Ending) (w' : World) : Prop :=
  ∃ (A : Option Addr) (d : Nat), e = .returned (ckV num A Y.length (Y.length + d) code) ∧ OwRc w' w.heap.size w'.heap.size A Y.length Y ∧ Below w.heap.size w w'
theorem RetCkC.weak {w w' : World} {num code : Int} {Y : List Rc} {e : Ending} (h : RetCkC w num Y code e w') : RetCk w num Y code e w' := by
  obtain ⟨A, d, he, ho, hb⟩ := h; exact ⟨A, _, he, ho, hb⟩
theorem ret_ckNoneC {w w' : World} {num code : Int} {Y : List Rc} (h1 : Y = []) (hb : Below w.heap.size w w') : RetCkC w num Y code (.returned (ckV num none 0 0 code)) w' := by
  subst h1; exact ⟨none, 0, rfl, ow_nilR _ _ _ _, hb⟩
theorem ret_ckNone {w w' : World} {num code : Int} {Y : List Rc} (h1 : Y = []) (hb : Below w.heap.size w w') : RetCk w num Y code (.returned (ckV num none 0 0 code)) w' := by
  subst h1; exact ⟨none, 0, rfl, ow_nilR _ _ _ _, hb⟩
theorem blk3k {w : World} {g : Nat} {e : TypeId} {a b c : Value} (h : IsBlk w g e [a, b, c]) : w.cell? ⟨g, 0, none⟩ = some a ∧ w.cell? ⟨g, 1, none⟩ = some b ∧ w.cell? ⟨g, 2, none⟩ = some c ∧ w.frozen? ⟨g, 0, none⟩ = false ∧ w.frozen? ⟨g, 1, none⟩ = false ∧ w.frozen? ⟨g, 2, none⟩ = false :=
  ⟨h.cell rfl, h.cell rfl, h.cell rfl, h.free, h.free, h.free⟩
end Go.Proofs.YtloaeglmngcenaaGreatDoor

namespace Go.Proofs.YtloaeglmngcenaaGreatDoor
open Go.RowKit
open Bt (Rc)

set_option maxHeartbeats 1000000 in
theorem ckptRight_any (num : Int) (A : Option Addr) (n ca : Nat) (X : List Rc) (w : World) (hS : SmallR X) (hA : RdRc w w.heap.size A n X) :
    Calls Tryz.prog 198 #[.int .i64 num, .agg #[.slice A n ca]] w fun e w' => e = .returned (.bool (ckB num X)) ∧ Below w.heap.size w w' := by
  have HA := Lib.hid hA; have HS := Lib.hid hS; clear hA hS
  by_cases h1 : 1 ≤ num
  · by_cases h2 : num ≤ 1000000
    · rw [ckB_in ⟨h1, h2⟩]
      go_enter Tryz.func198, Tryz.ntmps198
      go_wp2_with fail
      have hb0 : Below w.heap.size w (w.alloc (.cells #[.slice A n ca] 29)) := (Below.refl _ _).alloc (Nat.le_refl _) _
      refine (impl_histRight_any A n ca X _ HS.out (HA.out.next hb0)).mono ?_
      rintro e w1 ⟨rfl, hb1⟩
      have HB1 := Lib.hid (hb0.trans (hb1.mono hb0.size))
      clear hb0 hb1
      go_wp2
      go_ret
      exact ⟨rfl, HB1.out⟩
    · have h2' : 1000000 < num := by omega
      rw [ckB_num (by omega)]
      go_enter Tryz.func198, Tryz.ntmps198
      go_wp2
      go_ret
      exact ⟨rfl, (Below.refl _ _).alloc (Nat.le_refl _) _⟩
  · have h1' : num < 1 := by omega
    rw [ckB_num (by omega)]
    go_enter Tryz.func198, Tryz.ntmps198
    go_wp2
    go_ret
    exact ⟨rfl, (Below.refl _ _).alloc (Nat.le_refl _) _⟩
end Go.Proofs.YtloaeglmngcenaaGreatDoor

namespace Go.Proofs.YtloaeglmngcenaaGreatDoor
open Go.RowKit
open Bt (Rc)

theorem opened_lenK (t : ByteArray) : (Bt.opened t).1.length ≤ 8000 := by
  by_cases h : (Bt.opened t).2 = 0
  · have := ck_sealed h; omega
  · by_cases h1 : 8000 < t.size
    · rw [Bt.opened_long h1]; simp
    by_cases h2 : t.size < 4
    · rw [Bt.opened_short h2]; simp
    by_cases h3 : Bt.sum (t.data.toList.take (t.size - 4)) = t.data.toList.drop (t.size - 4)
    · rw [Bt.opened_ok h1 h2 h3] at h; exact absurd rfl h
    · rw [Bt.opened_bad h1 h2 h3]; simp
theorem ckList_len (t : ByteArray) : (ckList t).length ≤ 48 := by
  by_cases h : ckCode t = 0
  · exact hRight_len ((ck_facts t).1 h).2.2
  · rw [((ck_facts t).2 h).2]; simp
theorem OwRc.otherK {w : World} {lo hi n : Nat} {A : Option Addr} {X : List Rc} (h : OwRc w lo hi A n X) {a : Addr} (ha : a.block < lo) (u : Value) : OwRc (w.setCell a u) lo hi A n X :=
  h.same fun k hk _ => Below.heap_setCell _ _ _ _ (by omega)
/-- a checkpoint that was read, its records in memory of the call's own, and whether it is whole -/
def RetRC (s : ByteArray) (w : World) (e : Ending) (w' : World) : Prop :=
  ∃ (num : Int) (A : Option Addr) (ca : Nat) (L : List Rc) (b : Bool), e = .returned (.tuple #[.int .i64 num, .agg #[.slice A L.length ca], .bool b]) ∧ OwRc w' w.heap.size w'.heap.size A L.length L ∧ L.length ≤ ca ∧ L.length ≤ 48 ∧ (∀ r ∈ L, r.d.size ≤ 16) ∧
    (b = true → ckWhole s ∧ L = (ckSt s (ckN s).toNat).1 ∧ num = ckNum s) ∧ (b = false → ¬ ckWhole s) ∧ Below w.heap.size w w'

set_option maxHeartbeats 4000000 in
set_option maxRecDepth 100000 in
theorem readCkpt_any (s : ByteArray) (w : World) (hs : s.size ≤ maxLen) (hg : ErrType w) :
    Calls Tryz.prog 244 #[.string s] w (RetRC s w) := by
  have HG := Lib.hid hg
  have HNUM := Lib.hid (fun W h => impl_getNum_any s 0 W hs (by omega) h)
  have hat := (Bt.getNum_at s 0).2
  have hr0 : (Bt.getNum s 0).2.2 = 0 → (Bt.rdNum s (0, false)).2 = ((Bt.getNum s 0).2.1, false) ∧ ckNum s = (Bt.getNum s 0).1 := by
    intro h
    have e : Bt.rdNum s (0, false) = ((Bt.getNum s 0).1, ((Bt.getNum s 0).2.1, false)) := Bt.rdNum_ok (by simp [h])
    exact ⟨by rw [e], by rw [ckNum, e]⟩
  have hr1 : (Bt.getNum s 0).2.2 ≠ 0 → (ckSt s 0).2.2 = true := by
    intro h
    rw [ckSt, Bt.rdNum_bad (x := (0, false)) (.inr h), Bt.rdNum_bad (.inl rfl)]
  clear hg
  generalize Bt.getNum s 0 = G at HNUM hr0 hr1 hat
  obtain ⟨n, a, c⟩ := G
  simp only at hr0 hr1 hat
  go_enter Tryz.func244, Tryz.ntmps244
  go_wp2_with fail
  have hb0 : Below w.heap.size w (w.alloc (.cells #[.slice none 0 0] 29)) := (Below.refl _ _).alloc (Nat.le_refl _) _
  have k0 := isBlk_new w 29 [.slice none 0 0]
  change IsBlk (w.alloc (.cells #[.slice none 0 0] 29)) _ _ _ at k0
  generalize w.alloc (.cells #[.slice none 0 0] 29) = w0 at hb0 k0 ⊢
  refine (HNUM.out w0 (HG.out.below hb0)).mono ?_
  rintro e w1 ⟨rfl, hb1⟩
  have hb2 : Below w.heap.size w (w1.alloc (.cells #[.int .i64 n, .int .i64 a, .int .i64 c] 218)) := (hb0.trans (hb1.mono hb0.size)).alloc (Nat.le_trans hb0.size hb1.size) _
  have k2 := (k0.below hb1 k0.lt).alloc (.cells #[.int .i64 n, .int .i64 a, .int .i64 c] 218)
  have kn := isBlk_new w1 218 [.int .i64 n, .int .i64 a, .int .i64 c]
  change IsBlk (w1.alloc (.cells #[.int .i64 n, .int .i64 a, .int .i64 c] 218)) _ _ _ at kn
  have hl1 : w.heap.size < w1.heap.size := Nat.lt_of_lt_of_le k0.lt hb1.size
  have HB2 := Lib.hid hb2; have HK2 := Lib.hid k2; have HN2 := Lib.hid kn
  have HB1 := Lib.hid (hb0.trans (hb1.mono hb0.size)); have HK1 := Lib.hid (k0.below hb1 k0.lt)
  clear hb0 k0 hb1 hb2 k2 kn HNUM
  by_cases h0 : c = 0
  case neg =>
    have HNW : Hid (¬ ckWhole s) := fun h => by have := hr1 h0; rw [h.1] at this; cases this
    have hcc : (c != 0) = true := by simpa using h0
    have d0 : w1.cell? ⟨w.heap.size, 0, none⟩ = some (.slice none 0 0) := HK1.out.cell rfl
    have f0 : w1.frozen? ⟨w.heap.size, 0, none⟩ = false := HK1.out.free
    clear hr0 hr1 h0 hat
    go_wp2
    refine bodyPost_ret (v := .tuple #[.int .i64 0, .agg #[.slice none 0 0], .bool false]) (by simp [results, Tryz.results244, go_sem, d0, hl1]) rfl ⟨0, none, 0, [], false, rfl, ow_nilR _ _ _ _, by simp, by simp, by simp, by simp, fun _ => HNW.out, ?_⟩
    exact (HB1.out.setCell (Nat.le_refl _) _).alloc (by simpa [World.setCell] using HB1.out.size) _
  obtain ⟨e1, e2⟩ := hr0 h0
  subst h0
  have E1 := Lib.hid e1; have E2 := Lib.hid e2
  have ha : a ≤ 9223372036854775807 := by have := hat rfl; unfold maxLen at hs; omega
  clear hr0 hr1 e1 e2 hat
  go_wp2_with fail
  have hgb := HG.out.below HB2.out
  generalize w1.alloc (.cells #[.int .i64 n, .int .i64 a, .int .i64 0] 218) = v1 at HB2 HK2 HN2 hgb ⊢
  generalize w1.heap.size = nb at *
  refine (readList_any s a v1 hs ha E1.out hgb).mono ?_
  rintro e w3 ⟨A, ca, L, b, rfl, ho3, hca, h48, hsm, hbt, hbf, hb3⟩
  have HB3 := Lib.hid (HB2.out.trans (hb3.mono HB2.out.size))
  have HO3 := Lib.hid ho3; have HSM := Lib.hid hsm; have HBT := Lib.hid hbt; have HBF := Lib.hid hbf; have HCA := Lib.hid hca
  have k3 := HK2.out.below hb3 HK2.out.lt
  have kn3 := HN2.out.below hb3 HN2.out.lt
  have hv13 := hb3.size
  have hvw : w.heap.size < v1.heap.size := HK2.out.lt
  have hwv := HB2.out.size
  have d0 : w3.cell? ⟨w.heap.size, 0, none⟩ = some (.slice none 0 0) := k3.cell rfl
  have f0 : w3.frozen? ⟨w.heap.size, 0, none⟩ = false := k3.free
  have n0 : w3.cell? ⟨nb, 0, none⟩ = some (.int .i64 n) := kn3.cell rfl
  have hne : nb ≠ w.heap.size := by omega
  have hne2 : w.heap.size ≠ nb := by omega
  have hl3 := k3.lt; have hl3n := kn3.lt
  clear ho3 hsm hbt hbf hca hb3 k3 kn3 hgb
  go_wp2
  all_goals
    refine bodyPost_ret (v := .tuple #[.int .i64 n, .agg #[.slice A L.length ca], .bool b]) (by simp [results, Tryz.results244, go_sem, d0]) rfl ⟨n, A, ca, L, b, rfl, ?_, HCA.out, h48, HSM.out, fun h => ⟨(HBT.out h).1, (HBT.out h).2, E2.out.symm⟩, HBF.out, ?_⟩
    first | exact ((HO3.out.otherK (by dsimp only; omega) _).mono (by omega) (by simp [World.setCell])) | (refine ((HO3.out.otherK (a := ⟨w.heap.size, 0, none⟩) (by dsimp only; omega) (.slice A L.length ca)).same fun _ _ _ => rfl).mono (by omega) (by simp [World.setCell]))
    first | exact (HB3.out.setCell (Nat.le_refl _) _).drew | exact HB3.out.setCell (Nat.le_refl _) _

set_option maxHeartbeats 4000000 in
set_option maxRecDepth 100000 in
theorem impl_ckptReadC (t : ByteArray) (w : World) (ht : t.size ≤ maxLen) (hg : ErrType w) :
    Calls Tryz.prog 196 #[.string t] w (RetCkC w (ckRNum t) (ckList t) (ckCode t)) := by
  have hb0 : Below w.heap.size w (w.alloc (.cells #[.int .i64 0, .slice none 0 0, .int .i64 0] 175)) := (Below.refl _ _).alloc (Nat.le_refl _) _
  have k0 := isBlk_new w 175 [.int .i64 0, .slice none 0 0, .int .i64 0]
  change IsBlk (w.alloc (.cells #[.int .i64 0, .slice none 0 0, .int .i64 0] 175)) _ _ _ at k0
  have HUN := Lib.hid (impl_unseal_any t (w.alloc (.cells #[.int .i64 0, .slice none 0 0, .int .i64 0] 175)) ht)
  have HG := Lib.hid hg; clear hg
  generalize hC : ckCode t = C
  generalize hR : ckList t = R
  generalize hQ : ckRNum t = Q
  have hsea := fun h => ck_seal (t := t) h
  have hno := fun h ha => ck_no (t := t) h ha
  have hok := fun h ha => ck_ok (t := t) h ha
  rw [hC, hR, hQ] at hsea hno hok
  clear hC hR hQ
  have hol := opened_lenK t
  generalize Bt.opened t = O at HUN hsea hno hok hol
  obtain ⟨s, oc⟩ := O
  simp only at HUN hsea hno hok hol
  have HFIN : Hid (∀ c : Int, Hid (C = c) → Hid (Q = 0) → Hid (R = []) → ∀ w', Below w.heap.size w w' → RetCkC w Q R C (.returned (.agg #[.int .i64 0, .slice none 0 0, .int .i64 c])) w') := by
    intro c E1 E2 E3 w' hb
    rw [E1.out, E2.out]; exact ret_ckNoneC E3.out hb
  go_enter Tryz.func196, Tryz.ntmps196
  go_wp2_with fail
  refine HUN.out.mono ?_
  rintro e w1 ⟨rfl, hb1⟩
  have HB1 : Hid (Below w.heap.size w w1) := hb0.trans (hb1.mono hb0.size)
  have HK1 := Lib.hid (k0.below hb1 k0.lt)
  clear hb1 k0 hb0 HUN
  by_cases h0 : oc = 0
  case neg =>
    obtain ⟨e1, e2, e3⟩ := hsea h0
    have E1 := Lib.hid e1; have E2 := Lib.hid e2; have E3 := Lib.hid e3
    have hcc : (oc != 0) = true := by simpa using h0
    obtain ⟨c0, c1, c2, f0, f1, f2⟩ := blk3k HK1.out
    have hlt := HK1.out.lt
    clear e1 e2 e3 h0 hsea hno hok
    go_wp2
    refine bodyPost_ret (v := .agg #[.int .i64 0, .slice none 0 0, .int .i64 oc]) (by simp [results, Tryz.results196, go_sem, c0, c1, c2, hlt]) rfl (HFIN.out oc E1 E2 E3 _ ?_)
    exact (((HB1.out.setCell (Nat.le_refl _) _).setCell (Nat.le_refl _) _).setCell (Nat.le_refl _) _).alloc (by simpa [World.setCell] using HB1.out.size) _
  subst h0
  have HNO := Lib.hid (fun ha => hno rfl ha)
  have HOK := Lib.hid (fun ha => hok rfl ha)
  clear hsea hno hok
  have hb2 : Below w.heap.size w (w1.alloc (.cells #[strV s, .int .i64 0, .int .i64 0] 131)) := HB1.out.alloc HB1.out.size _
  have k2 := HK1.out.alloc (.cells #[strV s, .int .i64 0, .int .i64 0] 131)
  go_wp2_with fail
  change Calls _ _ _ (w1.alloc (.cells #[strV s, .int .i64 0, .int .i64 0] 131)) _
  generalize w1.alloc (.cells #[strV s, .int .i64 0, .int .i64 0] 131) = v1 at hb2 k2 ⊢
  have hg2 := HG.out.below hb2
  refine (readCkpt_any (bstr s) v1 (by rw [bstr_size]; unfold maxLen; omega) hg2).mono ?_
  rintro e w3 ⟨num, A, ca, L, b, rfl, ho3, hca, h48, hsm, hbt, hbf, hb3⟩
  have HB3 : Hid (Below w.heap.size w w3) := hb2.trans (hb3.mono hb2.size)
  have HK3 := Lib.hid (k2.below hb3 k2.lt)
  have hlv : w.heap.size < v1.heap.size := k2.lt
  have HCA := Lib.hid hca
  have HO3 := Lib.hid ho3; have HBT := Lib.hid hbt; have HBF := Lib.hid hbf
  have HS3 : Hid (SmallR L) := ⟨by omega, fun r hr => by have := hsm r hr; omega⟩
  have hsz3 := hb3.size
  clear hb3 hb2 k2 hg2 ho3 hsm hbt hbf
  cases b with
  | false =>
    have hna : ¬ ckAcc (bstr s) := fun h => HBF.out rfl h.1
    obtain ⟨e1, e2, e3⟩ := HNO.out hna
    have E1 := Lib.hid e1; have E2 := Lib.hid e2; have E3 := Lib.hid e3
    obtain ⟨c0, c1, c2, f0, f1, f2⟩ := blk3k HK3.out
    have hlt := HK3.out.lt
    clear e1 e2 e3 hna
    go_wp2
    refine bodyPost_ret (v := .agg #[.int .i64 0, .slice none 0 0, .int .i64 3]) (by simp [results, Tryz.results196, go_sem, c0, c1, c2, hlt]) rfl (HFIN.out 3 E1 E2 E3 _ ?_)
    exact (((HB3.out.setCell (Nat.le_refl _) _).setCell (Nat.le_refl _) _).setCell (Nat.le_refl _) _).alloc (by simpa [World.setCell] using HB3.out.size) _
  | true =>
    obtain ⟨hwh, hL, hq⟩ := HBT.out rfl
    have HWH := Lib.hid hwh; have HLL := Lib.hid hL; have HQ := Lib.hid hq
    clear hwh hL hq HBT HBF
    go_wp2_with fail
    have hb4 : Below w.heap.size w (w3.alloc (.cells #[.slice A L.length ca] 29)) := HB3.out.alloc HB3.out.size _
    have k4 := HK3.out.alloc (.cells #[.slice A L.length ca] 29)
    have kh := isBlk_new w3 29 [.slice A L.length ca]
    have ho4 := HO3.out.below ((Below.refl w3.heap.size w3).alloc (Nat.le_refl _) (.cells #[.slice A L.length ca] 29)) (Nat.le_refl _)
    change IsBlk (w3.alloc (.cells #[.slice A L.length ca] 29)) _ _ _ at kh
    change Calls _ _ _ (w3.alloc (.cells #[.slice A L.length ca] 29)) _
    have hz4 : (w3.alloc (.cells #[.slice A L.length ca] 29)).heap.size = w3.heap.size + 1 := by simp
    generalize w3.alloc (.cells #[.slice A L.length ca] 29) = w4 at hb4 k4 kh ho4 hz4 ⊢
    refine (ckptRight_any num A L.length ca L w4 HS3.out (ho4.rd (by omega))).mono ?_
    rintro e w5 ⟨rfl, hb5⟩
    have HB5 : Hid (Below w.heap.size w w5) := hb4.trans (hb5.mono hb4.size)
    have HK5 := Lib.hid (k4.below hb5 k4.lt)
    have HH5 := Lib.hid (kh.below hb5 kh.lt)
    have HO5 := Lib.hid (ho4.below hb5 (by omega))
    have hsz5 := hb5.size
    clear hb4 k4 kh ho4 hb5 HK3 HO3
    obtain ⟨c0, c1, c2, f0, f1, f2⟩ := blk3k HK5.out
    have h0 : w5.cell? ⟨w3.heap.size, 0, none⟩ = some (.slice A L.length ca) := HH5.out.cell rfl
    have hlt := HK5.out.lt
    have hlt2 := HH5.out.lt
    by_cases hacc : ckB num L = true
    · obtain ⟨e1, e2, e3⟩ := HOK.out ⟨HWH.out, by rw [← HLL.out, ← HQ.out]; exact hacc⟩
      rw [← HLL.out] at e3
      rw [← HQ.out] at e2
      have E1 := Lib.hid e1; have E2 := Lib.hid e2; have E3 := Lib.hid e3
      rw [hacc]
      clear e1 e2 e3 hacc
      go_wp2
      refine bodyPost_ret (v := .agg #[.int .i64 num, .slice A L.length ca, .int .i64 0]) (by simp [results, Tryz.results196, go_sem, c0, c1, c2]) rfl ?_
      rw [E1.out, E2.out, E3.out]
      refine ⟨A, ca - L.length, by rw [show L.length + (ca - L.length) = ca by have := HCA.out; omega], ?_, ((HB5.out.setCell (Nat.le_refl _) _).setCell (Nat.le_refl _) _).setCell (Nat.le_refl _) _⟩
      exact (((HO5.out.otherK (by dsimp only; omega) _).otherK (by dsimp only; omega) _).otherK (by dsimp only; omega) _).mono (by omega) (by simp [World.setCell]; omega)
    · have hna : ¬ ckAcc (bstr s) := fun h => hacc (by rw [HLL.out, HQ.out]; exact h.2)
      obtain ⟨e1, e2, e3⟩ := HNO.out hna
      have E1 := Lib.hid e1; have E2 := Lib.hid e2; have E3 := Lib.hid e3
      have hacc : ckB num L = false := by simpa using hacc
      rw [hacc]
      clear e1 e2 e3 hna hacc
      go_wp2
      refine bodyPost_ret (v := .agg #[.int .i64 0, .slice none 0 0, .int .i64 3]) (by simp [results, Tryz.results196, go_sem, c0, c1, c2]) rfl (HFIN.out 3 E1 E2 E3 _ ?_)
      exact ((HB5.out.setCell (Nat.le_refl _) _).setCell (Nat.le_refl _) _).setCell (Nat.le_refl _) _
theorem impl_ckptRead (t : ByteArray) (w : World) (ht : t.size ≤ maxLen) (hg : ErrType w) :
    Calls Tryz.prog 196 #[.string t] w (RetCk w (ckRNum t) (ckList t) (ckCode t)) :=
  (impl_ckptReadC t w ht hg).mono fun _ _ h => h.weak
end Go.Proofs.YtloaeglmngcenaaGreatDoor

namespace Go.Proofs.YtloaeglmngcenaaGreatDoor
open Go.RowKit

/-- a row of bytes of the call's own: nothing behind its bytes is frozen -/
def TxRow (w : World) (base : Nat) (e : TypeId) (v : Value) (l : List UInt8) : Prop :=
  ∃ (g cap : Nat) (cur : Array Value) (fz : Nat × Nat), v = .slice (some ⟨g, 0, none⟩) l.length cap ∧ base ≤ g ∧ w.heap[g]? = some (.cells cur e fz) ∧ (cap ≤ fz.1 ∨ fz.2 = 0) ∧ l.length ≤ cap ∧ cap ≤ maxLen ∧ cur.size = cap ∧ cur.toList.take l.length = l.map byteV
theorem TxRow.lt {w : World} {base : Nat} {e : TypeId} {v : Value} {l : List UInt8} (h : TxRow w base e v l) : ∀ k, v.ownBlock = some k → base ≤ k ∧ k < w.heap.size := by
  obtain ⟨g, cap, cur, fz, rfl, hb, hg, -⟩ := h
  intro k hk
  simp [Value.ownBlock] at hk
  subst hk
  exact ⟨hb, lt_of_block hg⟩
theorem TxRow.below {w w' : World} {base : Nat} {e : TypeId} {v : Value} {l : List UInt8} (h : TxRow w base e v l) (hb : Below w.heap.size w w') : TxRow w' base e v l := by
  obtain ⟨g, cap, cur, fz, hv, hbg, hg, r⟩ := h
  exact ⟨g, cap, cur, fz, hv, hbg, (hb.block g (lt_of_block hg)).trans hg, r⟩
theorem TxRow.mono {w : World} {base base' : Nat} {e : TypeId} {v : Value} {l : List UInt8} (h : TxRow w base e v l) (hb : base' ≤ base) : TxRow w base' e v l := by
  obtain ⟨g, cap, cur, fz, hv, hbg, r⟩ := h
  exact ⟨g, cap, cur, fz, hv, Nat.le_trans hb hbg, r⟩
theorem TxRow.cell {w : World} {base g cap : Nat} {e : TypeId} {n : Nat} {l : List UInt8} (h : TxRow w base e (.slice (some ⟨g, 0, none⟩) n cap) l) {j : Nat} (hj : j < l.length) : w.cell? ⟨g, j, none⟩ = some (byteV l[j]) := by
  obtain ⟨g', cap', cur, fz, hv, hb, hg, -, hn, hm, hc, ht⟩ := h
  simp at hv
  obtain ⟨rfl, -, rfl⟩ := hv
  have hj' : j < cur.size := by omega
  have h1 : cur.toList[j]? = some (byteV l[j]) := by
    have := congrArg (fun x => x[j]?) ht
    simp only [List.getElem?_take, List.getElem?_map, List.getElem?_eq_getElem hj] at this
    rwa [if_pos hj] at this
  simp only [World.cell?, hg]
  simpa using h1
/-- bytes written behind the row's bytes -/
theorem put_behind (P : Program) (g o : Nat) (t : TypeId) (fz : Nat × Nat) : ∀ (vs : List Value) (i : Nat) (cur : Array Value) (w : World), w.heap[g]? = some (.cells cur t fz) → (cur.size ≤ fz.1 ∨ fz.2 = 0) → o + i + vs.length ≤ cur.size → (∀ v ∈ vs, v.oneCell' = true) →
    (storeCells ⟨g, o, none⟩ vs i).run P w = .ok () (w.setRow g (cur.toList.take (o + i) ++ vs ++ cur.toList.drop (o + i + vs.length)).toArray) := by
  intro vs
  induction vs with
  | nil =>
    intro i cur w hg _ _ _
    simp only [storeCells, List.append_nil, List.length_nil, Nat.add_zero, List.take_append_drop, Array.toArray_toList]
    rw [setRow_self w g cur t fz hg]
    rfl
  | cons v rest ih =>
    intro i cur w hg hfz hl h1
    have hi : o + i < cur.size := by simp at hl; omega
    have hcell : w.cell? ⟨g, o + i, none⟩ = some cur[o + i] := by simp [World.cell?, hg, hi]
    have hfro : w.frozen? ⟨g, o + i, none⟩ = false := by
      obtain ⟨lo, hi'⟩ := fz
      simp only [World.frozen?, hg, Bool.and_eq_false_iff, decide_eq_false_iff_not]
      simp only at hfz
      omega
    have hst : (store ((⟨g, o, none⟩ : Addr).add i) v).run P w = .ok () (w.setRow g (cur.setIfInBounds (o + i) v)) := by
      rw [add_off, run_store P w _ v _ (h1 v (by simp)), hcell]
      simp [hfro, setCell_eq_setRow w g (o + i) cur t fz v hg]
    have h2 := ih (i + 1) (cur.setIfInBounds (o + i) v) (w.setRow g (cur.setIfInBounds (o + i) v)) (setRow_heap w g cur _ t _ hg) (by simpa using hfz) (by simp at hl ⊢; omega) (fun x hx => h1 x (by simp [hx]))
    simp only [storeCells, Sem.run_bind, hst, Result.andThen_ok, h2, setRow_setRow]
    congr 3
    have e := list_seg_step cur.toList (o + i) v rest (by simp at hl ⊢; omega)
    simpa [Array.toList_setIfInBounds, Nat.add_assoc] using e
theorem strCells_byteV (s : ByteArray) : Lib.strCells s = s.data.toList.map byteV := rfl
/-- 'append(b, t...)' -/
theorem run_append_tx {P : Program} (w : World) (base : Nat) (t u ty e : TypeId) (i : TypeInfo) (ht : P.underlying t = some (.slice e)) (hu : P.underlying u = some .string) (hi : P.info? e = some i) (hz : i.zero = some (.int .u8 0)) (hsize : i.size = 1) (hby : i.bytes = 1)
    (v : Value) (l : List UInt8) (hown : TxRow w base e v l) (s : ByteArray) (hsm : l.length + s.size ≤ 4294967296) (hbase : base ≤ w.heap.size) :
    ∃ v' w', (Builtin.append_ #[t, u] ty #[v, .string s]).run P w = .ok v' w' ∧ TxRow w' base e v' (l ++ s.data.toList) ∧ w.grownBy w' v.ownBlock := by
  obtain ⟨g, cap, cur, fz, rfl, hbg, hg, hfz, hnc, hcm, hcs, htake⟩ := hown
  have hsl : s.data.toList.length = s.size := rfl
  have hlen : (l ++ s.data.toList).length = l.length + s.size := by rw [List.length_append, hsl]
  by_cases hroom : l.length + s.size ≤ cap
  · have hf := Lib.run_firstCells_string (P := P) w 1 s
    have hst := put_behind P g l.length e fz (Lib.strCells s) 0 cur w hg (by rw [hcs]; exact hfz) (by simpa [Lib.strCells_length] using (by omega : l.length + s.size ≤ cur.size)) (Lib.strCells_oneCell s)
    simp only [Nat.add_zero, Lib.strCells_length] at hst
    have hr : (Builtin.append_ #[t, u] ty #[.slice (some ⟨g, 0, none⟩) l.length cap, .string s]).run P w = .ok (.slice (some ⟨g, 0, none⟩) (l.length + s.size) cap) (w.setRow g (cur.toList.take l.length ++ Lib.strCells s ++ cur.toList.drop (l.length + s.size)).toArray) := by
      simp [Builtin.append_, run_underlying ht, run_underlying hu, sizeOf, typeInfo, hi, hsize, Builtin.lenOf, hroom, hf, Addr.add_lit, hst]
    refine ⟨_, _, hr, ⟨g, cap, _, fz, by rw [hlen], hbg, setRow_heap w g cur _ e _ hg, hfz, by omega, hcm, ?_, ?_⟩, ⟨rfl, rfl, rfl, by simp, fun k _ hk => setRow_other w g k _ (fun e => hk (by simp [Value.ownBlock, e]))⟩⟩
    · simp only [List.size_toArray, List.length_append, List.length_take, List.length_drop, Array.length_toList, Lib.strCells_length]
      omega
    · rw [htake, hlen, List.map_append, strCells_byteV]
      have : l.length + s.size = (l.map byteV ++ s.data.toList.map byteV).length := by simp [hsl]
      rw [this]
      exact List.take_left
  · have hT : TxRow w base e (.slice (some ⟨g, 0, none⟩) l.length cap) l := ⟨g, cap, cur, fz, rfl, hbg, hg, hfz, hnc, hcm, hcs, htake⟩
    have holds : ∀ j u, (l.map byteV)[j]? = some u → w.cell? ((⟨g, 0, none⟩ : Addr).add j) = some u := by
      intro j u hu
      have hj : j < l.length := by
        have := (List.getElem?_eq_some_iff.1 hu).1
        simpa using this
      rw [add_plain, hT.cell hj]
      rw [List.getElem?_map, List.getElem?_eq_getElem hj] at hu
      exact hu
    have hr := Lib.run_append_grow_string (P := P) w t u ty e i (.int .u8 0) ht hu hi hz ⟨g, 0, none⟩ l.length cap (l.map byteV) (by rw [hsize]; simp) holds s (by omega) (by omega) (by rw [hby]; exact growslice_fits (by omega) (by omega))
    have hge := grownCap_ge w (l.length + s.size) cap e
    have hcm2 : grownCap w (l.length + s.size) cap e ≤ maxLen := grownCap_le_maxLen w (l.length + s.size) cap e (by unfold maxLen; omega)
    refine ⟨_, _, hr, ⟨w.heap.size, _, _, (0, 0), by rw [hlen], hbase, heap_alloc_new w.drew _, .inr rfl, by omega, hcm2, ?_, ?_⟩, ⟨rfl, rfl, rfl, by simp, fun k hk _ => heap_alloc_old w.drew _ hk⟩⟩
    · have hz1 : (Value.int IntKind.u8 0).cells.size = 1 := rfl
      simp only [Array.size_append, List.size_toArray, size_zeroCells, hz1, Lib.strCells_length, List.length_map]
      omega
    · rw [hlen, List.map_append, strCells_byteV]
      simp only [Array.toList_append, List.append_assoc]
      rw [← List.append_assoc]
      have : l.length + s.size = (l.map byteV ++ s.data.toList.map byteV).length := by simp [hsl]
      rw [this]
      exact List.take_left
/-- the operation, for the walk -/
theorem wpList_append_tx {P : Program} {w0 w : World} {ops : Array Oper} {rest : List Oper} {o : Oper} {a : Act} {Q : Exit → Act → World → Prop} (hgd : o.guard = none) (sl x : Operand) (t u e : TypeId)
    (ho : o.op = .call { callee := .builtin .append, args := #[sl, x], argTypes := #[t, u] })
    (ht : P.underlying t = some (.slice e)) (hu : P.underlying u = some .string) (hinfo : (P.info? e).map (fun i => (i.zero, i.size, i.bytes)) = some (some (.int .u8 0), 1, 1))
    {base : Nat} {v : Value} {l : List UInt8} (hs : a.eval sl = v) (hown : TxRow w base e v l) (hbel : Below base w0 w) (hbase : base ≤ w.heap.size) {s : ByteArray} (hx : a.eval x = .string s) (hsm : l.length + s.size ≤ 4294967296)
    (h : ∀ v' w', TxRow w' base e v' (l ++ s.data.toList) → Below base w0 w' → wpList P ops Q rest (a.put o.dst v') w') : wpList P ops Q (o :: rest) a w := by
  obtain ⟨i, hi, hz, hsize, hby⟩ := info_parts hinfo
  refine wpList_plain hgd fun K hK => ?_
  obtain ⟨v', w', hr, h2, h3⟩ := run_append_tx (P := P) w base t u o.type e i ht hu hi hz hsize hby v l hown s hsm hbase
  unfold Oper.wp execOp
  simp only [ho, resolve, invoke, builtin, Sem.run_bind, Sem.run_pure, Result.andThen_ok, List.map_toArray, List.map_cons, List.map_nil, hs, hx, hr]
  exact hK _ _ (h v' w' h2 (hbel.grown h3 hbase fun k hk => (hown.lt k hk).1))
/-- '[]byte(s)' -/
theorem bytes_tx {P : Program} {src dst e : TypeId} {u : TypeDesc} (hs : P.underlying src = some u) (hd : P.underlying dst = some (.slice e)) (he : P.underlying e = some (.int .u8)) (s : ByteArray) (hm : s.size ≤ 4294967296) (W : World) :
    ∃ v W', (convert src dst (.string s)).run P W = .ok v W' ∧ TxRow W' W.heap.size e v s.data.toList ∧ Below W.heap.size W W' := by
  have hge := grownCap_ge W s.size 0 e
  have hcm : grownCap W s.size 0 e ≤ maxLen := grownCap_le_maxLen W s.size 0 e (by unfold maxLen; omega)
  have hcs : (Lib.bytesCells W e s).size = grownCap W s.size 0 e := by
    have : s.data.size = s.size := rfl
    simp [Lib.bytesCells, this]; omega
  refine ⟨_, _, Lib.run_convert_string_bytes W src dst e s hs hd he, ⟨W.heap.size, _, _, _, rfl, Nat.le_refl _, Lib.bytesWorld_at_new W e s, .inl (by rw [hcs]; exact Nat.le_refl _), hge, hcm, hcs, ?_⟩, ⟨?_, ?_, ?_, ?_, fun k hk => Lib.bytesWorld_at_old W _ s k hk⟩⟩
  · have h1 : (Lib.bytesCells W e s).toList = s.data.toList.map byteV ++ List.replicate (grownCap W s.size 0 e - s.size) (.int .u8 0) := by simp [Lib.bytesCells, byteV]
    have h2 : s.data.toList.length = (s.data.toList.map byteV).length := by simp
    rw [h1, h2, List.take_left]
  · simp [Lib.bytesWorld, World.freeze, World.alloc, World.drew, -World.alloc_eq, -World.drew_eq]
  · simp [Lib.bytesWorld, World.freeze, World.alloc, World.drew, -World.alloc_eq, -World.drew_eq]
  · simp [Lib.bytesWorld, World.freeze, World.alloc, World.drew, -World.alloc_eq, -World.drew_eq]
  · rw [Lib.bytesWorld_size]; omega
/-- 'string(b)' -/
theorem conv_tx {P : Program} {w : World} {src dst e : TypeId} (hs : P.underlying src = some (.slice e)) (he : P.underlying e = some (.int .u8)) (hd : P.underlying dst = some .string)
    {base : Nat} {v : Value} {l : List UInt8} (h : TxRow w base e v l) : (convert src dst v).run P w = .ok (strV l) w := by
  have h' := h
  obtain ⟨g, cap, cur, fz, rfl, -⟩ := h
  refine run_convert_bytes_back w src dst e _ cap l hs he hd fun j hj => ?_
  rw [add_plain, h'.cell hj]
  simp [byteV]
end Go.Proofs.YtloaeglmngcenaaGreatDoor

namespace Go.Proofs.YtloaeglmngcenaaGreatDoor
open Go.RowKit
open Bt (Rc)

theorem info_byteC : (Tryz.prog.info? 5).map (fun i => (i.zero, i.size, i.bytes)) = some (some (.int .u8 0), 1, 1) := by kernel_rfl

set_option maxHeartbeats 4000000 in
set_option maxRecDepth 100000 in
theorem l12Bytes_any (num : Int) (A : Option Addr) (n ca : Nat) (X : List Rc) (w : World) (h1 : 1 ≤ num) (h2 : num ≤ 1000001) (hr : hRight X = true) (hA : RdRc w w.heap.size A n X) :
    Calls Tryz.prog 126 #[.int .i64 num, .agg #[.slice A n ca]] w fun e w' => e = .returned (strV (ckText num X)) ∧ Below w.heap.size w w' := by
  have HL : Hid (X.length = n) := hA.1
  have HOK := Lib.hid hr
  have HA := Lib.hid hA; clear hA hr
  have hn : n ≤ 48 := by rw [← HL.out]; exact hRight_len HOK.out
  have HDD : Hid (ckText num X = Bt.sealed (bstr (ckTo num X.length X))) := rfl
  generalize ckText num X = D at HDD ⊢
  have HP1 := Lib.hid (fun W => spec_putNum_any num W (by omega) (by omega))
  have HP2 := Lib.hid (fun W => spec_putNum_any (n : Int) W (by omega) (by omega))
  have l1 := (Bt.putNum_length num).2; have l2 := (Bt.putNum_length (n : Int)).2
  have HE0 : Hid (Bt.putNum num ++ Bt.putNum (n : Int) = ckTo num n []) := by show _ = _; rw [ckTo_nil]
  have q1 : ∀ W, (Op.stringOp .add (bstr (Bt.putNum num)) (bstr (Bt.putNum (n : Int)))).run Tryz.prog W = .ok (strV (ckTo num n [])) W := by
    intro W
    have := add_str (P := Tryz.prog) W (bstr (Bt.putNum num)) (bstr (Bt.putNum (n : Int))) (by rw [bstr_size, bstr_size]; omega)
    rwa [bstr_list, bstr_list, HE0.out] at this
  have HC0 := Lib.hid (fun W => bytes_tx (P := Tryz.prog) Tryz.underlying9 Tryz.underlying22 Tryz.underlying5 (bstr (ckTo num n [])) (by rw [bstr_size, ← HE0.out, List.length_append]; omega) W)
  rw [bstr_list] at HC0
  generalize Bt.putNum num = L1 at HP1 q1
  generalize Bt.putNum (n : Int) = L2 at HP2 q1
  clear l1 l2 HE0
  go_enter Tryz.func126, Tryz.ntmps126
  go_wp2_with fail
  have hb0 : Below w.heap.size w (w.alloc (.cells #[.slice A n ca] 29)) := (Below.refl _ _).alloc (Nat.le_refl _) _
  have k0 := isBlk_new w 29 [.slice A n ca]
  change IsBlk (w.alloc (.cells #[.slice A n ca] 29)) _ _ _ at k0
  generalize w.alloc (.cells #[.slice A n ca] 29) = w1 at hb0 k0 ⊢
  have d0 : w1.cell? ⟨w.heap.size, 0, none⟩ = some (.slice A n ca) := k0.cell rfl
  have hgl := k0.lt
  have HB1 := Lib.hid hb0; have HK1 := Lib.hid k0
  clear hb0 k0
  go_cut [5] (fun v5 wx => TxRow wx (w.heap.size + 1) 5 v5 (ckTo num n []) ∧ IsBlk wx w.heap.size 29 [.slice A n ca] ∧ Below w.heap.size w wx)
  case first =>
    go_region_law (
      (go_simp
       first
         | (go_at_call 162
            with_reducible refine Calls.mono (HP1.out _) ?_
            rintro e wa ⟨rfl, hba⟩
            have hs1 : wa.cell? ⟨w.heap.size, 0, none⟩ = some (.slice A n ca) := (hba.cell (p := ⟨w.heap.size, 0, none⟩) hgl).trans d0
            have HBa : Hid (Below w.heap.size w wa) := HB1.out.drew.trans (hba.mono HB1.out.size)
            have HKa : Hid (IsBlk wa w.heap.size 29 [.slice A n ca]) := IsBlk.below (w := w1.drew) HK1.out hba hgl
            have hgla : w.heap.size < wa.heap.size := Nat.lt_of_lt_of_le hgl hba.size
            clear hba)
         | (go_at_call 162
            with_reducible refine Calls.mono (HP2.out _) ?_
            rintro e wb ⟨rfl, hbb⟩
            have hs2 : wb.cell? ⟨w.heap.size, 0, none⟩ = some (.slice A n ca) := (hbb.cell (p := ⟨w.heap.size, 0, none⟩) hgla).trans hs1
            have HBb : Hid (Below w.heap.size w wb) := HBa.out.trans (hbb.mono HBa.out.size)
            have HKb : Hid (IsBlk wb w.heap.size 29 [.slice A n ca]) := HKa.out.below hbb hgla
            have hglb : w.heap.size < wb.heap.size := Nat.lt_of_lt_of_le hgla hbb.size
            obtain ⟨cv, Wc, hcv, htx, hbc⟩ := HC0.out wb
            have hs3 : Wc.cell? ⟨w.heap.size, 0, none⟩ = some (.slice A n ca) := (hbc.cell (p := ⟨w.heap.size, 0, none⟩) hglb).trans hs2
            have HTX := Lib.hid htx; have HBC := Lib.hid hbc
            clear hbb htx hbc)))
    all_goals (go_wp2_with fail; go_meet)
    all_goals exact ⟨HTX.out.mono (by omega), HKb.out.below HBC.out hglb, HBb.out.trans (HBC.out.mono HBb.out.size)⟩
  case rest =>
    obtain ⟨htx, hkc, hbc⟩ := hcut
    have HTX := Lib.hid htx; have HKC := Lib.hid hkc; have HBC := Lib.hid hbc
    clear d0 hgl HP1 HP2 HC0 q1 htx hkc hbc
    go_wp2_with fail
    go_loopw [5, 6] (fun v i wr => ∃ (k : Nat) (v' : Value), k ≤ n ∧ i = .int .i64 (k : Nat) ∧ v' = v ∧ Hid (TxRow wr (w.heap.size + 1) 5 v' (ckTo num n (X.take k))) ∧ Hid (IsBlk wr w.heap.size 29 [.slice A n ca]) ∧ Hid (Below w.heap.size w wr)) (fun _ i wr => n - (intOf i).toNat)
    case atStart => exact ⟨0, _, by omega, rfl, rfl, by rw [List.take_zero]; exact HTX, HKC, HBC⟩
    case round =>
      clear HTX HKC HBC
      obtain ⟨k, v, hk, rfl, rfl, HTX, HKR, HW⟩ := hrel
      have hx : wr.cell? ⟨w.heap.size, 0, none⟩ = some (.slice A n ca) := HKR.out.cell rfl
      by_cases hlt : k < n
      · obtain ⟨g, off, rfl, hg, hc0, hc1, hc2, hc3, hc4, hc5⟩ := (HA.out.below HW.out).at hlt
        have hrok := (hRight_at HOK.out (k := k) (by have := HL.out; omega)).1
        have HT := Lib.hid (ck_take (X := X) (k := k) (by have := HL.out; omega))
        have hel := ckTo_take_len HOK.out num n k (by have := HL.out; omega)
        generalize X.getD k Rc.zero = r at hc0 hc1 hc2 hc3 hc4 hc5 hrok HT
        have HZ : Hid (ckTo num n (X.take (k + 1)) = ckTo num n (X.take k) ++ Bt.putText (bstr r.bytes)) := by show _ = _; rw [HT.out, ckTo_snoc]
        have hone := ck_one hrok
        have hbz := Bt.Rc.bytes_short hrok
        have HRB := Lib.hid (fun W => l03Bytes_any r W hrok)
        have HPT := Lib.hid (fun W => spec_putText_any (bstr r.bytes) W (by rw [bstr_size]; unfold maxLen; omega))
        generalize ckTo num n (X.take k) = E at *
        generalize Bt.putText (bstr r.bytes) = PT at HPT HZ hone
        generalize r.bytes = RB at HRB HPT
        obtain ⟨rk, rs, rq, rt, ro, rd⟩ := r
        simp only at hc0 hc1 hc2 hc3 hc4 hc5
        have hlg := HKR.out.lt
        have hsz := HW.out.size
        clear hrok hbz HT
        go_wp2_with fail
        with_reducible refine (HRB.out _).mono ?_
        rintro e w3 ⟨rfl, hb3⟩
        have HB3 : Hid (Below w.heap.size w w3) := HW.out.trans (hb3.mono HW.out.size)
        have HT3 := Lib.hid (HTX.out.below hb3); have HK3 := Lib.hid (HKR.out.below hb3 hlg)
        have hs3 := hb3.size
        clear hb3 hc0 hc1 hc2 hc3 hc4 hc5 hx
        go_wp2_with fail
        with_reducible refine (HPT.out _).mono ?_
        rintro e w4 ⟨rfl, hb4⟩
        have HB4 : Hid (Below w.heap.size w w4) := HB3.out.trans (hb4.mono HB3.out.size)
        have HT4 := Lib.hid (HT3.out.below hb4); have HK4 := Lib.hid (HK3.out.below hb4 HK3.out.lt)
        have hs4 := hb4.size
        clear hb4 HT3 HK3
        go_wp2_with (at_builtin; refine wpList_append_tx (w0 := w4) rfl _ _ 22 9 5 rfl Tryz.underlying22 Tryz.underlying9 info_byteC rfl HT4.out (Below.refl _ _) (by omega) rfl (by rw [bstr_size]; omega) ?_; intro v' w5 ho5 hb5; rw [bstr_list, ← HZ.out] at ho5; have HB5 := Lib.hid hb5; have HO5 := Lib.hid ho5; clear hb5 ho5)
        go_roundw
        case rel => exact ⟨k + 1, _, by omega, by go_num, rfl, HO5, HK4.out.below HB5.out (by omega), HB4.out.trans (HB5.out.mono (by omega))⟩
        case measure => simp [intOf]; omega
      · obtain rfl : k = n := by omega
        have e : X.take k = X := by rw [← HL.out]; exact List.take_length
        have HE : Hid (ckTo num k (X.take k) = ckTo num X.length X) := by show _ = _; rw [e, HL.out]
        have hbl := ckTo_len (num := num) HOK.out
        rw [HE.out] at HTX
        have hcv := conv_tx (P := Tryz.prog) Tryz.underlying22 Tryz.underlying5 Tryz.underlying9 HTX.out
        clear e
        go_wp2_with fail
        refine (spec_seal_any _ _ (by rw [bstr_size]; unfold maxLen; omega)).mono ?_
        rintro e w5 ⟨rfl, hb5⟩
        have HB5 := Lib.hid (HW.out.trans (hb5.mono HW.out.size))
        clear hb5
        go_wp2
        go_ret
        exact ⟨by rw [HDD.out]; rfl, HB5.out⟩

set_option maxHeartbeats 2000000 in
theorem spec_ckptBytes (num : Int) (A : Option Addr) (n ca : Nat) (X : List Rc) (w : World) (hS : SmallR X) (hA : RdRc w w.heap.size A n X) :
    Calls Tryz.prog 241 #[.int .i64 num, .agg #[.slice A n ca]] w fun e w' => e = .returned (strV (ckBytes num X)) ∧ Below w.heap.size w w' := by
  have HA := Lib.hid hA; have HS := Lib.hid hS; clear hA hS
  generalize hD : ckBytes num X = D
  have HD := Lib.hid hD; clear hD
  by_cases h1 : 1 ≤ num ∧ num ≤ 1000000
  case neg =>
    have HF : Hid (D = []) := HD.out.symm.trans (ckBytes_no (ckB_num h1))
    have hc := rcIs_no h1
    clear h1
    go_enter Tryz.func241, Tryz.ntmps241
    go_wp2_with fail
    refine (rcIs_any num 1 1000000 _).mono ?_
    rintro e w1 ⟨rfl, rfl⟩
    rw [hc]
    go_wp2
    go_ret
    exact ⟨by rw [HF.out]; rfl, (Below.refl _ _).alloc (Nat.le_refl _) _⟩
  have hc := rcIs_yes h1
  go_enter Tryz.func241, Tryz.ntmps241
  go_wp2_with fail
  have hb0 : Below w.heap.size w (w.alloc (.cells #[.slice A n ca] 29)) := (Below.refl _ _).alloc (Nat.le_refl _) _
  have k0 := isBlk_new w 29 [.slice A n ca]
  change IsBlk (w.alloc (.cells #[.slice A n ca] 29)) _ _ _ at k0
  generalize w.alloc (.cells #[.slice A n ca] 29) = w1 at hb0 k0 ⊢
  refine (rcIs_any num 1 1000000 _).mono ?_
  rintro e w1' ⟨rfl, rfl⟩
  rw [hc]
  have d0 : w1.cell? ⟨w.heap.size, 0, none⟩ = some (.slice A n ca) := k0.cell rfl
  go_wp2_with fail
  refine (spec_histRight_any A n ca X w1 HS.out (HA.out.next hb0)).mono ?_
  rintro e w2 ⟨rfl, hb2⟩
  have HB2 := Lib.hid (hb0.trans (hb2.mono hb0.size))
  have HK2 := Lib.hid (k0.below hb2 k0.lt)
  clear hb0 k0 hb2 d0
  cases hr : hRight X with
  | false =>
    have HF : Hid (D = []) := HD.out.symm.trans (ckBytes_no (by rw [ckB_in h1, hr]))
    go_wp2
    go_ret
    exact ⟨by rw [HF.out]; rfl, HB2.out⟩
  | true =>
    have HF : Hid (D = ckText num X) := HD.out.symm.trans (by unfold ckBytes; rw [if_pos (by rw [ckB_in h1, hr])])
    have HR := Lib.hid hr
    have d0 : w2.cell? ⟨w.heap.size, 0, none⟩ = some (.slice A n ca) := HK2.out.cell rfl
    go_wp2_with fail
    refine (l12Bytes_any num A n ca X w2 (by omega) (by omega) HR.out (HA.out.next HB2.out)).mono ?_
    rintro e w3 ⟨rfl, hb3⟩
    have HB3 := Lib.hid (HB2.out.trans (hb3.mono HB2.out.size))
    clear hb3
    go_wp2
    go_ret
    exact ⟨by rw [HF.out]; rfl, HB3.out⟩
end Go.Proofs.YtloaeglmngcenaaGreatDoor

namespace Go.Proofs.YtloaeglmngcenaaGreatDoor
open Go.RowKit
open Bt (Rc)

theorem some_ofK {x : ByteArray} (h : x.size ≠ 0) : x.toList.isEmpty = false ∧ (x.toList == []) = false := by
  rw [ByteArray.toList_eq]
  have h2 : x.data.toList ≠ [] := fun e => h (by have := congrArg List.length e; exact this)
  exact ⟨by simpa using h2, by simpa using h2⟩
theorem ckSt_wf (s : ByteArray) : ∀ k, (ckSt s k).2.1 ≤ 9223372036854775807
  | 0 => rdNum_wf (rdNum_wf (by simp))
  | k + 1 => ckRec_wf (ckSt_wf s k)
theorem own_btwK {w w' : World} {lo n size g : Nat} {e : TypeId} {v : Value} {xs : List Value} (h : w.ownsRow lo e size v n xs) (hb : Btw g (g + 1) w w') (hg : g < lo) : w'.ownsRow lo e size v n xs := by
  refine ⟨h.1, ?_⟩
  rcases h.2 with h0 | ⟨g', cap, cur, hv, hl, hh, r⟩
  · exact .inl h0
  · exact .inr ⟨g', cap, cur, hv, hl, (hb.block g' (lt_of_block hh) (.inr (by omega))).trans hh, r⟩
theorem rdText_sizeK (s : ByteArray) (x : Int × Bool) : (bstr (Bt.rdText s x).1).size ≤ maxLen := by
  by_cases hc : x.2 = true ∨ (Bt.getText s x.1).2.2 ≠ 0
  · rw [Bt.rdText_bad hc]; unfold maxLen; rw [bstr_size]; simp
  · rw [Bt.rdText_ok hc]; exact getText_lenC s x.1
theorem rdText_wfK {s : ByteArray} {x : Int × Bool} (h : x.1 ≤ 9223372036854775807) : (Bt.rdText s x).2.1 ≤ 9223372036854775807 := ckRec_wf h
/-- the model's loop: what stands while it reads -/
structure RkSt (w wr : World) (g hb : Nat) (x : Int × Bool) (s : ByteArray) (k : Nat) (L : List Rc) (v : Value) : Prop where
  box : IsBlk wr w.heap.size 175 [.int .i64 0, .slice none 0 0, .int .i64 0]
  rdr : IsBlk wr g 135 (rdC s x)
  hst : IsBlk wr hb 29 [v]
  own : wr.ownsRow (hb + 1) 34 6 v k (rcA L)
  bel : Below w.heap.size w wr
  lt : w.heap.size < g
  gh : g < hb
theorem RkSt.call {w wr w' : World} {g hb : Nat} {x x' : Int × Bool} {s : ByteArray} {k : Nat} {L : List Rc} {v : Value} (h : RkSt w wr g hb x s k L v) (hk : IsBlk w' g 135 (rdC s x')) (hbt : Btw g (g + 1) wr w') : RkSt w w' g hb x' s k L v :=
  ⟨(hbt.block _ h.box.lt (.inl h.lt)).trans h.box, hk, (hbt.block _ h.hst.lt (.inr (by have := h.gh; omega))).trans h.hst, own_btwK h.own hbt (by have := h.gh; omega),
    h.bel.trans ((hbt.below (Nat.le_of_lt h.rdr.lt)).mono (Nat.le_of_lt h.lt)), h.lt, h.gh⟩
theorem RkSt.below {w wr w' : World} {g hb : Nat} {x : Int × Bool} {s : ByteArray} {k : Nat} {L : List Rc} {v : Value} (h : RkSt w wr g hb x s k L v) (hbt : Below wr.heap.size wr w') : RkSt w w' g hb x s k L v :=
  ⟨h.box.below hbt h.box.lt, h.rdr.below hbt h.rdr.lt, h.hst.below hbt h.hst.lt, own_belowR h.own hbt, h.bel.trans (hbt.mono h.bel.size), h.lt, h.gh⟩
theorem RkSt.bad {w wr : World} {g hb : Nat} {p : Int} {b : Bool} {s : ByteArray} {k : Nat} {L : List Rc} {v : Value} (h : RkSt w wr g hb (p, b) s k L v) (b' : Bool) : RkSt w (wr.setCell ⟨g, 2, none⟩ (.bool b')) g hb (p, b') s k L v := by
  have h1 := h.lt; have h2 := h.gh
  exact ⟨h.box.other (by dsimp only; omega) _, h.rdr.set (j := 2) (.bool b'), h.hst.other (by dsimp only; omega) _, own_otherR h.own (by dsimp only; omega) _, h.bel.setCell (by dsimp only; omega) _, h.lt, h.gh⟩
theorem RkSt.more {w wr w' : World} {g hb : Nat} {x : Int × Bool} {s : ByteArray} {k : Nat} {L : List Rc} {v v' : Value} {r : Rc} (h : RkSt w wr g hb x s k L v) (hb' : Below (hb + 1) wr w') (ho : w'.ownsRow (hb + 1) 34 6 v' (k + 1) (rcA L ++ recC r)) : RkSt w (w'.setCell ⟨hb, 0, none⟩ v') g hb x s (k + 1) (L ++ [r]) v' := by
  have h1 := h.lt; have h2 := h.gh
  refine ⟨(h.box.below hb' (by omega)).other (by dsimp only; omega) _, (h.rdr.below hb' (by omega)).other (by dsimp only; omega) _, (h.hst.below hb' (by omega)).set (j := 0) v', ?_, (h.bel.trans (hb'.mono (by omega))).setCell (by dsimp only; omega) _, h.lt, h.gh⟩
  rw [rcA_snoc]
  exact own_otherR ho (by dsimp only; omega) _

set_option maxHeartbeats 8000000 in
set_option maxRecDepth 100000 in
theorem spec_ckptRead (t : ByteArray) (w : World) (ht : t.size ≤ maxLen) :
    Calls Tryz.prog 192 #[.string t] w (RetCk w (ckRNum t) (ckList t) (ckCode t)) := by
  have hb0 : Below w.heap.size w (w.alloc (.cells #[.int .i64 0, .slice none 0 0, .int .i64 0] 175)) := (Below.refl _ _).alloc (Nat.le_refl _) _
  have k0 := isBlk_new w 175 [.int .i64 0, .slice none 0 0, .int .i64 0]
  change IsBlk (w.alloc (.cells #[.int .i64 0, .slice none 0 0, .int .i64 0] 175)) _ _ _ at k0
  have HUN := Lib.hid (spec_unseal_any t (w.alloc (.cells #[.int .i64 0, .slice none 0 0, .int .i64 0] 175)) ht)
  generalize hC : ckCode t = C
  generalize hR : ckList t = R
  generalize hQ : ckRNum t = Q
  have hsea := fun h => ck_seal (t := t) h
  have hno := fun h ha => ck_no (t := t) h ha
  have hok := fun h ha => ck_ok (t := t) h ha
  have hiff := fun (h : (Bt.opened t).2 = 0) (k : Nat) (hk : k ≤ 48) => ckAcc_iff (t := t) h hk
  have hts := fun (h : (Bt.opened t).2 = 0) => (ck_sealed h).2.1
  rw [hC, hR, hQ] at hsea hno hok
  clear hC hR hQ
  have hol := opened_lenK t
  generalize Bt.opened t = O at HUN hsea hno hok hol hiff hts
  obtain ⟨sl, oc⟩ := O
  simp only at HUN hsea hno hok hol hiff hts
  have HFIN : Hid (∀ c : Int, Hid (C = c) → Hid (Q = 0) → Hid (R = []) → ∀ w', Below w.heap.size w w' → RetCk w Q R C (.returned (.agg #[.int .i64 0, .slice none 0 0, .int .i64 c])) w') := by
    intro c E1 E2 E3 w' hb
    rw [E1.out, E2.out]; exact ret_ckNone E3.out hb
  obtain ⟨i0, hi, hz0, hz1, hz2⟩ := info_parts info_recK
  have Hi := Lib.hid hi; have Z0 := Lib.hid hz0; have Z1 := Lib.hid hz1; have Z2 := Lib.hid hz2
  clear hi hz0 hz1 hz2
  go_enter Tryz.func192, Tryz.ntmps192
  go_wp2_with fail
  refine HUN.out.mono ?_
  rintro e w1 ⟨rfl, hb1⟩
  have HB1 : Hid (Below w.heap.size w w1) := hb0.trans (hb1.mono hb0.size)
  have HK1 := Lib.hid (k0.below hb1 k0.lt)
  clear hb1 k0 hb0 HUN
  by_cases h0 : oc = 0
  case neg =>
    obtain ⟨e1, e2, e3⟩ := hsea h0
    have E1 := Lib.hid e1; have E2 := Lib.hid e2; have E3 := Lib.hid e3
    have hcc : (oc != 0) = true := by simpa using h0
    obtain ⟨c0, c1, c2, f0, f1, f2⟩ := blk3k HK1.out
    have hlt := HK1.out.lt
    clear e1 e2 e3 h0 hsea hno hok hiff hts
    go_wp2
    refine bodyPost_ret (v := .agg #[.int .i64 0, .slice none 0 0, .int .i64 oc]) (by simp [results, Tryz.results192, go_sem, c0, c1, c2, hlt]) rfl (HFIN.out oc E1 E2 E3 _ ?_)
    exact (((HB1.out.setCell (Nat.le_refl _) _).setCell (Nat.le_refl _) _).setCell (Nat.le_refl _) _).alloc (by simpa [World.setCell] using HB1.out.size) _
  subst h0
  have HNO := Lib.hid (fun ha => hno rfl ha)
  have HOK := Lib.hid (fun ha => hok rfl ha)
  have HIFF := Lib.hid (fun k hk => hiff rfl k hk)
  have HTS : Hid (sl.length + 4 = t.size) := hts rfl
  clear hsea hno hok hiff hts
  obtain ⟨s, hs⟩ : ∃ s, s = bstr sl := ⟨_, rfl⟩
  have hssz : s.size ≤ maxLen := by rw [hs, bstr_size]; unfold maxLen; omega
  rw [← hs] at HNO HOK HIFF
  rw [show toutV sl 0 0 = Value.agg #[.string s, .int .i64 0, .int .i64 0] by rw [hs]]
  clear hs
  go_wp2_with fail
  have kb : IsBlk ((w1.alloc (.cells #[.string s, .int .i64 0, .int .i64 0] 131)).alloc (.cells #[.string s, .int .i64 0, .bool false] 135)) w.heap.size 175 [.int .i64 0, .slice none 0 0, .int .i64 0] := (HK1.out.alloc _).alloc _
  have kr : IsBlk ((w1.alloc (.cells #[.string s, .int .i64 0, .int .i64 0] 131)).alloc (.cells #[.string s, .int .i64 0, .bool false] 135)) (w1.heap.size + 1) 135 (rdC s (0, false)) := by
    have h := isBlk_new (w1.alloc (.cells #[.string s, .int .i64 0, .int .i64 0] 131)) 135 (rdC s (0, false))
    rw [size_alloc] at h; exact h
  have kl : Below w.heap.size w ((w1.alloc (.cells #[.string s, .int .i64 0, .int .i64 0] 131)).alloc (.cells #[.string s, .int .i64 0, .bool false] 135)) := by
    have h := HB1.out.size
    exact (HB1.out.alloc h _).alloc (by simp; omega) _
  have hgw : w.heap.size < w1.heap.size + 1 := by have := HB1.out.size; omega
  change Calls _ _ _ ((w1.alloc (.cells #[.string s, .int .i64 0, .int .i64 0] 131)).alloc (.cells #[.string s, .int .i64 0, .bool false] 135)) _
  generalize (w1.alloc (.cells #[.string s, .int .i64 0, .int .i64 0] 131)).alloc (.cells #[.string s, .int .i64 0, .bool false] 135) = W at kb kr kl ⊢
  generalize w1.heap.size + 1 = g at kr hgw ⊢
  refine (reader_num_any g s (0, false) W hssz (by simp) kr).mono ?_
  rintro e w2 ⟨rfl, kr2, hb2⟩
  have kb2 : IsBlk w2 w.heap.size 175 [.int .i64 0, .slice none 0 0, .int .i64 0] := (hb2.block _ kb.lt (.inl hgw)).trans kb
  have kl2 : Below w.heap.size w w2 := kl.trans ((hb2.below (Nat.le_of_lt kr.lt)).mono (by omega))
  have HQD : Hid ((Bt.rdNum s (0, false)).1 = ckNum s) := rfl
  rw [HQD.out]
  have hlg2 : g < w2.heap.size := kr2.lt
  have HX0 : Hid ((Bt.rdNum s (0, false)).2.1 ≤ 9223372036854775807) := rdNum_wf (by simp)
  have HST0 : Hid (RkSt w (w2.alloc (.cells #[.slice none 0 0] 29)) g w2.heap.size (Bt.rdNum s (0, false)).2 s 0 [] (.slice none 0 0)) :=
    ⟨kb2.alloc _, kr2.alloc _, isBlk_new w2 29 [.slice none 0 0], ⟨rfl, .inl ⟨rfl, rfl⟩⟩, kl2.alloc kl2.size _, hgw, hlg2⟩
  clear kb kr kl kr2 hb2 kb2 kl2 HQD HK1
  go_wp2_with fail
  generalize w2.alloc (.cells #[.slice none 0 0] 29) = v2 at HST0 ⊢
  generalize w2.heap.size = hb at *
  refine (reader_num_any g s (Bt.rdNum s (0, false)).2 v2 hssz HX0.out HST0.out.rdr).mono ?_
  rintro e w3 ⟨rfl, kr3, hb3⟩
  have HST : Hid (RkSt w w3 g hb (ckSt s 0).2 s 0 (ckSt s 0).1 (.slice none 0 0)) := HST0.out.call (x' := (ckSt s 0).2) kr3 hb3
  have HND : Hid ((Bt.rdNum s (Bt.rdNum s (0, false)).2).1 = ckN s) := rfl
  rw [HND.out]
  generalize hNd : ckN s = N at *
  have HNd := Lib.hid hNd
  clear kr3 hb3 HND hNd HST0 HX0
  go_wp2_with fail
  go_loopw [8] (fun i wr => ∃ (k : Nat) (v' : Value), k ≤ 48 ∧ (k = 0 ∨ (k : Int) ≤ N) ∧ i = .int .i64 (k : Nat) ∧ Hid (RkSt w wr g hb (ckSt s k).2 s k (ckSt s k).1 v')) (fun i wr => 48 - (intOf i).toNat)
  case atStart => exact ⟨0, _, Nat.zero_le _, .inl rfl, rfl, HST⟩
  case round =>
    clear HST
    obtain ⟨k, v, hk, hkN, rfl, HS⟩ := hrel
    have hx2 : wr.cell? ⟨g, 2, none⟩ = some (.bool (ckSt s k).2.2) := HS.out.rdr.cell rfl
    have hwf := ckSt_wf s k
    have hlg := HS.out.rdr.lt
    by_cases hgo : (k : Int) < N ∧ k < 48 ∧ (ckSt s k).2.2 = false
    · obtain ⟨hg1, hg2, hg3⟩ := hgo
      rw [hg3] at hx2
      have HNX : Hid (ckSt s (k + 1) = ((ckSt s k).1 ++ [(ckRec s (ckSt s k).2).1], (ckRec s (ckSt s k).2).2)) := rfl
      have HRN := Lib.hid (reader_text_any g s (ckSt s k).2 wr hssz hwf HS.out.rdr)
      have HCR : Hid (ckRec s (ckSt s k).2 = ((Bt.recRead (bstr (Bt.rdText s (ckSt s k).2).1)).1, ((Bt.rdText s (ckSt s k).2).2.1, (Bt.rdText s (ckSt s k).2).2.2 || decide ((Bt.recRead (bstr (Bt.rdText s (ckSt s k).2).1)).2 ≠ 0)))) := rfl
      have htz := rdText_sizeK s (ckSt s k).2
      rw [HCR.out] at HNX
      clear HCR
      generalize Bt.rdText s (ckSt s k).2 = RT at HRN HNX htz
      obtain ⟨T, x1, bd⟩ := RT
      simp only at HRN HNX htz
      have HRR := Lib.hid (fun W => spec_recRead_any (bstr T) W htz)
      generalize Bt.recRead (bstr T) = RR at HRR HNX
      obtain ⟨⟨rk, rs, rq, rt, ro, rd⟩, rc⟩ := RR
      simp only at HNX
      clear hg3 hwf htz
      go_wp2_with fail
      with_reducible refine HRN.out.mono ?_
      rintro e w4 ⟨rfl, kr4, hb4⟩
      have HS4 : Hid (RkSt w w4 g hb (x1, bd) s k (ckSt s k).1 v) := HS.out.call kr4 hb4
      clear kr4 hb4 HRN HS hx2
      go_wp2_with fail
      with_reducible refine (HRR.out _).mono ?_
      rintro e w5 ⟨rfl, hb5⟩
      have hs5 := HS4.out.below hb5
      have b2 : w5.cell? ⟨g, 2, none⟩ = some (.bool bd) := hs5.rdr.cell rfl
      have fb2 : w5.frozen? ⟨g, 2, none⟩ = false := hs5.rdr.free
      have hv0 : w5.cell? ⟨hb, 0, none⟩ = some v := hs5.hst.cell rfl
      have fv0 : w5.frozen? ⟨hb, 0, none⟩ = false := hs5.hst.free
      have hglt := hs5.rdr.lt
      have hHlt := hs5.hst.lt
      have hghb := hs5.gh
      have hne : hb ≠ g := by omega
      have hne2 : g ≠ hb := by omega
      have HS5 := Lib.hid hs5
      clear hb5 HS4 HRR hs5
      cases bd with
      | true =>
        have HB7 : Hid (RkSt w ((w5.setCell ⟨g, 2, none⟩ (.bool true)).alloc (.cells #[.int .i64 rk, .int .i64 rs, .int .i64 rq, .int .i64 rt, .int .i64 ro, .string rd, .int .i64 rc] 53)) g hb (x1, true) s k (ckSt s k).1 v) := (HS5.out.bad true).below ((Below.refl _ _).alloc (Nat.le_refl _) _)
        have hz7 : hb + 1 ≤ ((w5.setCell ⟨g, 2, none⟩ (.bool true)).alloc (.cells #[.int .i64 rk, .int .i64 rs, .int .i64 rq, .int .i64 rt, .int .i64 ro, .string rd, .int .i64 rc] 53)).heap.size := by simp [World.setCell]; omega
        have HNX2 : Hid (ckSt s (k + 1) = ((ckSt s k).1 ++ [⟨rk, rs, rq, rt, ro, rd⟩], (x1, true))) := by show _ = _; rw [HNX.out]; rfl
        clear HNX HS5
        go_wp2_with (at_builtin; refine wpList_append_rec (w0 := (w5.setCell ⟨g, 2, none⟩ (.bool true)).alloc (.cells #[.int .i64 rk, .int .i64 rs, .int .i64 rq, .int .i64 rt, .int .i64 ro, .string rd, .int .i64 rc] 53)) rfl _ _ 27 34 i0 _ 6 56 Tryz.underlying27 Hi.out Z0.out Z1.out Z2.out rfl (by omega) rfl HB7.out.own (Below.refl _ _) hz7 (by first | rfl | simp [World.setCell]) rfl rfl (recC ⟨rk, rs, rq, rt, ro, rd⟩) rfl rfl (recC_one _) (by omega) (by omega) ?_; intro v' w8 ho8 hb8; obtain ⟨A8, c8, rfl⟩ := own_slK ho8; have k8 := HB7.out.hst.below hb8 (by omega); have hv8 : w8.cell? ⟨hb, 0, none⟩ = some v := k8.cell rfl; have fv8 : w8.frozen? ⟨hb, 0, none⟩ = false := k8.free; have HB8 := Lib.hid hb8; have HO8 := Lib.hid ho8; clear hb8 ho8 k8)
        go_roundw
        case rel => exact ⟨k + 1, _, by omega, .inr (by omega), by go_num, by rw [HNX2.out]; exact Lib.hid (HB7.out.more HB8.out HO8.out)⟩
        case measure => simp [intOf]; omega
      | false =>
        have HB7 : Hid (RkSt w ((w5.setCell ⟨g, 2, none⟩ (.bool (rc != 0))).alloc (.cells #[.int .i64 rk, .int .i64 rs, .int .i64 rq, .int .i64 rt, .int .i64 ro, .string rd, .int .i64 rc] 53)) g hb (x1, (rc != 0)) s k (ckSt s k).1 v) := (HS5.out.bad (rc != 0)).below ((Below.refl _ _).alloc (Nat.le_refl _) _)
        have hz7 : hb + 1 ≤ ((w5.setCell ⟨g, 2, none⟩ (.bool (rc != 0))).alloc (.cells #[.int .i64 rk, .int .i64 rs, .int .i64 rq, .int .i64 rt, .int .i64 ro, .string rd, .int .i64 rc] 53)).heap.size := by simp [World.setCell]; omega
        have HNX2 : Hid (ckSt s (k + 1) = ((ckSt s k).1 ++ [⟨rk, rs, rq, rt, ro, rd⟩], (x1, (rc != 0)))) := by show _ = _; rw [HNX.out]; by_cases e : rc = 0 <;> simp [e]
        clear HNX HS5
        go_wp2_with (at_builtin; refine wpList_append_rec (w0 := (w5.setCell ⟨g, 2, none⟩ (.bool (rc != 0))).alloc (.cells #[.int .i64 rk, .int .i64 rs, .int .i64 rq, .int .i64 rt, .int .i64 ro, .string rd, .int .i64 rc] 53)) rfl _ _ 27 34 i0 _ 6 56 Tryz.underlying27 Hi.out Z0.out Z1.out Z2.out rfl (by omega) rfl HB7.out.own (Below.refl _ _) hz7 (by first | rfl | simp [World.setCell]) rfl rfl (recC ⟨rk, rs, rq, rt, ro, rd⟩) rfl rfl (recC_one _) (by omega) (by omega) ?_; intro v' w8 ho8 hb8; obtain ⟨A8, c8, rfl⟩ := own_slK ho8; have k8 := HB7.out.hst.below hb8 (by omega); have hv8 : w8.cell? ⟨hb, 0, none⟩ = some v := k8.cell rfl; have fv8 : w8.frozen? ⟨hb, 0, none⟩ = false := k8.free; have HB8 := Lib.hid hb8; have HO8 := Lib.hid ho8; clear hb8 ho8 k8)
        go_roundw
        case rel => exact ⟨k + 1, _, by omega, .inr (by omega), by go_num, by rw [HNX2.out]; exact Lib.hid (HB7.out.more HB8.out HO8.out)⟩
        case measure => simp [intOf]; omega
    · have hbox := HS.out.box
      obtain ⟨c0, c1, c2, f0, f1, f2⟩ := blk3k hbox
      have HBL := Lib.hid HS.out.bel
      have hwlt := HS.out.lt
      have hlw := hbox.lt
      have HNN : Hid (ckAcc s → 0 ≤ N ∧ N ≤ 48 ∧ (ckSt s N.toNat).2.2 = false) := fun h => by
        have := HNd.out
        obtain ⟨⟨-, a2, a3, a4, -⟩, -⟩ := h
        rw [this] at a2 a3 a4
        exact ⟨a2, a3, a4⟩
      cases hbad : (ckSt s k).2.2 with
      | true =>
        have hna : ¬ ckAcc s := by
          intro h
          obtain ⟨b1, b2, b3⟩ := HNN.out h
          rw [ckSt_bad (n := N.toNat) hbad (by omega)] at b3
          cases b3
        obtain ⟨e1, e2, e3⟩ := HNO.out hna
        have E1 := Lib.hid e1; have E2 := Lib.hid e2; have E3 := Lib.hid e3
        rw [hbad] at hx2
        clear hbox hbad hgo e1 e2 e3 hna hwf
        by_cases g1 : (k : Int) < N
        · by_cases g2 : k < 48
          · go_wp2
            exact bodyPost_ret (v := .agg #[.int .i64 0, .slice none 0 0, .int .i64 3]) (by simp [results, Tryz.results192, go_sem, c0, c1, c2]) rfl (HFIN.out 3 E1 E2 E3 _ (((HBL.out.setCell (Nat.le_refl _) _).setCell (Nat.le_refl _) _).setCell (Nat.le_refl _) _))
          · have g2' : 48 ≤ k := by omega
            go_wp2
            exact bodyPost_ret (v := .agg #[.int .i64 0, .slice none 0 0, .int .i64 3]) (by simp [results, Tryz.results192, go_sem, c0, c1, c2]) rfl (HFIN.out 3 E1 E2 E3 _ (((HBL.out.setCell (Nat.le_refl _) _).setCell (Nat.le_refl _) _).setCell (Nat.le_refl _) _))
        · have g1' : N ≤ (k : Int) := by omega
          go_wp2
          exact bodyPost_ret (v := .agg #[.int .i64 0, .slice none 0 0, .int .i64 3]) (by simp [results, Tryz.results192, go_sem, c0, c1, c2]) rfl (HFIN.out 3 E1 E2 E3 _ (((HBL.out.setCell (Nat.le_refl _) _).setCell (Nat.le_refl _) _).setCell (Nat.le_refl _) _))
      | false =>
        rw [hbad] at hx2
        have HBD := Lib.hid hbad
        have HOWN := Lib.hid HS.out.own
        have hv0 : wr.cell? ⟨hb, 0, none⟩ = some v := HS.out.hst.cell rfl
        have hLk := ckSt_len s k
        obtain ⟨A, ca, rfl⟩ := own_slK HOWN.out
        have hoo : OwRc wr (hb + 1) wr.heap.size A k (ckSt s k).1 := by
          have h := HOWN.out
          have h2 : wr.ownsRow (hb + 1) 34 6 (.slice A (ckSt s k).1.length ca) (ckSt s k).1.length (rcA (ckSt s k).1) := by rw [hLk]; exact h
          have h3 := ow_of_own h2
          rwa [hLk] at h3
        have HOO := Lib.hid hoo
        have HSM := Lib.hid (ckSt_small s k)
        have HKB := Lib.hid hbox
        have HAK : Hid (ckAcc s → (k : Int) = N) := fun h => by
          obtain ⟨b1, b2, -⟩ := HNN.out h
          rcases Classical.em ((k : Int) < N) with q | q
          · exact absurd ⟨q, by omega, hbad⟩ hgo
          · omega
        have hfin : ¬ ((k : Int) < N ∧ k < 48) := fun h => hgo ⟨h.1, h.2, hbad⟩
        have HBY := Lib.hid (spec_ckptBytes (ckNum s) A k ca (ckSt s k).1 wr ⟨by omega, fun r hr => by have := HSM.out r hr; omega⟩ (hoo.rd (Nat.le_refl _)))
        have HIK := Lib.hid (HIFF.out k hk)
        have HLN : Hid ((ckSt s k).1.length = k) := hLk
        obtain ⟨n1, n2⟩ := some_ofK (x := t) (by have := HTS.out; omega)
        generalize hL : (ckSt s k).1 = L at *
        have HLL := Lib.hid hL
        have hsz := HBL.out.size
        have hgh := HS.out.gh
        have HHB := Lib.hid HS.out.hst
        have hhl := HS.out.hst.lt
        by_cases heq : ckBytes (ckNum s) L = t.data.toList
        · obtain ⟨hacc, hkN2⟩ := HIK.out.2 ⟨HBD.out, heq⟩
          obtain ⟨e1, e2, e3⟩ := HOK.out hacc
          have E1 := Lib.hid e1; have E2 := Lib.hid e2
          have E3 : Hid (R = L) := by show _ = _; rw [e3, ← hkN2, Int.toNat_natCast, hL]
          have hq : ((bstr (ckBytes (ckNum s) L)).toList == t.toList) = true := str_eq (by rw [bstr_list]; exact heq)
          clear hbox hgo hbad hoo hL hacc e1 e2 e3 heq hwf c0 c1 c2 f0 f1 f2 HS HOWN
          generalize ckBytes (ckNum s) L = BY at HBY hq
          by_cases g1 : (k : Int) < N
          · exact absurd g1 (by omega)
          · have g1' : N ≤ (k : Int) := by omega
            go_wp2_with fail
            with_reducible refine HBY.out.mono ?_
            rintro e w6 ⟨rfl, hb6⟩
            have HB6 := Lib.hid (HBL.out.trans (hb6.mono hsz))
            have HO6 := Lib.hid (HOO.out.below hb6 (Nat.le_refl _))
            obtain ⟨c0, c1, c2, f0, f1, f2⟩ := blk3k (HKB.out.below hb6 hlw)
            have hsz6 := hb6.size
            have hv6 : w6.cell? ⟨hb, 0, none⟩ = some (.slice A k ca) := (HHB.out.below hb6 hhl).cell rfl
            clear hb6
            go_wp2
            refine bodyPost_ret (v := .agg #[.int .i64 (ckNum s), .slice A k ca, .int .i64 0]) (by simp [results, Tryz.results192, go_sem, c0, c1, c2]) rfl ?_
            rw [E1.out, E2.out, E3.out]
            refine ⟨A, ca, by rw [HLN.out], ?_, ((HB6.out.setCell (Nat.le_refl _) _).setCell (Nat.le_refl _) _).setCell (Nat.le_refl _) _⟩
            rw [HLN.out]
            exact (((HO6.out.otherK (by dsimp only; omega) _).otherK (by dsimp only; omega) _).otherK (by dsimp only; omega) _).mono (by omega) (by simp [World.setCell]; omega)
        · have hna : ¬ ckAcc s := fun h => heq (HIK.out.1 ⟨h, HAK.out h⟩).2
          obtain ⟨e1, e2, e3⟩ := HNO.out hna
          have E1 := Lib.hid e1; have E2 := Lib.hid e2; have E3 := Lib.hid e3
          have hq : ((bstr (ckBytes (ckNum s) L)).toList == t.toList) = false := str_ne (by rw [bstr_list]; exact heq)
          clear hbox hgo hbad hoo hL hna e1 e2 e3 heq hwf c0 c1 c2 f0 f1 f2 HS HOWN
          generalize ckBytes (ckNum s) L = BY at HBY hq
          by_cases g1 : (k : Int) < N
          · have g2 : 48 ≤ k := by omega
            go_wp2_with fail
            with_reducible refine HBY.out.mono ?_
            rintro e w6 ⟨rfl, hb6⟩
            have HB6 := Lib.hid (HBL.out.trans (hb6.mono hsz))
            obtain ⟨c0, c1, c2, f0, f1, f2⟩ := blk3k (HKB.out.below hb6 hlw)
            clear hb6
            go_wp2
            exact bodyPost_ret (v := .agg #[.int .i64 0, .slice none 0 0, .int .i64 3]) (by simp [results, Tryz.results192, go_sem, c0, c1, c2]) rfl (HFIN.out 3 E1 E2 E3 _ (((HB6.out.setCell (Nat.le_refl _) _).setCell (Nat.le_refl _) _).setCell (Nat.le_refl _) _))
          · have g1' : N ≤ (k : Int) := by omega
            go_wp2_with fail
            with_reducible refine HBY.out.mono ?_
            rintro e w6 ⟨rfl, hb6⟩
            have HB6 := Lib.hid (HBL.out.trans (hb6.mono hsz))
            obtain ⟨c0, c1, c2, f0, f1, f2⟩ := blk3k (HKB.out.below hb6 hlw)
            clear hb6
            go_wp2
            exact bodyPost_ret (v := .agg #[.int .i64 0, .slice none 0 0, .int .i64 3]) (by simp [results, Tryz.results192, go_sem, c0, c1, c2]) rfl (HFIN.out 3 E1 E2 E3 _ (((HB6.out.setCell (Nat.le_refl _) _).setCell (Nat.le_refl _) _).setCell (Nat.le_refl _) _))
end Go.Proofs.YtloaeglmngcenaaGreatDoor

namespace Go.Proofs.YtloaeglmngcenaaGreatDoor

theorem count_set : ∀ (l : List Bool) (i : Nat), l[i]? = some false → (l.set i true).countP (fun b => !b) + 1 = l.countP (fun b => !b)
  | [], i, h => by simp at h
  | b :: l, 0, h => by simp at h; subst h; simp
  | b :: l, i + 1, h => by
    have := count_set l i (by simpa using h)
    simp only [List.set_cons_succ, List.countP_cons]
    omega
/-- operation j has been carried out -/
def Dn (L : Array Bool) (j : Nat) : Prop := L.getD j false = true
theorem Dn.set {L : Array Bool} {i j : Nat} (h : Dn (L.setIfInBounds i true) j) : j = i ∨ Dn L j := by
  by_cases e : j = i
  · exact .inl e
  · refine .inr ?_
    unfold Dn at h ⊢
    simpa [Array.getD_eq_getD_getElem?, Array.getElem?_setIfInBounds, Ne.symm e] using h
theorem Dn.stay {L : Array Bool} {i j : Nat} (h : Dn L j) : Dn (L.setIfInBounds i true) j := by
  unfold Dn at h ⊢
  by_cases e : i = j
  · subst e
    have hs : i < L.size := by
      rcases Nat.lt_or_ge i L.size with h' | h'
      · exact h'
      · simp [Array.getD_eq_getD_getElem?, Array.getElem?_eq_none h'] at h
    simp [Array.getD_eq_getD_getElem?, hs]
  · simpa [Array.getD_eq_getD_getElem?, Array.getElem?_setIfInBounds, e] using h
theorem Dn.new {L : Array Bool} {i : Nat} (h : i < L.size) : Dn (L.setIfInBounds i true) i := by
  unfold Dn
  simp [Array.getD_eq_getD_getElem?, h]
theorem Dn.not {L : Array Bool} {i : Nat} (h : i < L.size) (hn : L.getD i true = false) : ¬ Dn L i := by
  unfold Dn
  simp [Array.getD_eq_getD_getElem?, Array.getElem?_eq_getElem h] at hn ⊢
  exact hn
theorem Dn.other {L : Array Bool} {i j : Nat} (hij : j ≠ i) (h : ¬ Dn L j) : ¬ Dn (L.setIfInBounds i true) j := fun h' => (h'.set).elim hij h

section
variable {F : Fence} {n : Nat} {P : Program} {ops : Array Oper} {Q : Exit → Act → World → Prop} {md : Region.Mode}
theorem wpAnyIn_inv (Inv : Array Bool → Act → World → Prop) (hsz : ∀ L a w, Inv L a w → L.size = ops.size)
    (hstep : ∀ L a w, Inv L a w → ∀ i o, ops[i]? = some o → i < L.size → L.getD i true = false → (∀ e ∈ o.after, Region.binds md e = true → Dn L e.on) → wpOpIn F n P ops Q i (Inv (L.setIfInBounds i true)) a w)
    (hdone : ∀ L a w, Inv L a w → Region.ready md ops L = [] → Q .normal a w) :
    ∀ (fuel : Nat) (L : Array Bool) (a : Act) (w : World), L.toList.countP (fun b => !b) ≤ fuel → Inv L a w → wpAnyIn F n P md ops Q fuel L a w := by
  intro fuel
  induction fuel with
  | zero =>
    intro L a w hc hI
    have hr : Region.ready md ops L = [] := by
      unfold Region.ready
      refine List.filter_eq_nil_iff.2 (fun i hi => ?_)
      have hlt : i < L.size := by rw [hsz L a w hI]; simpa using hi
      have h0 : L.toList.countP (fun b => !b) = 0 := by omega
      have h1 := List.countP_eq_zero.1 h0 (L[i]'hlt) (by simp)
      simp [Array.getD_eq_getD_getElem?, Array.getElem?_eq_getElem hlt]
      intro h2
      simp [h2] at h1
    exact ⟨hr, hdone L a w hI hr⟩
  | succ fuel ih =>
    intro L a w hc hI
    refine ⟨hdone L a w hI, fun i hi => ?_⟩
    unfold Region.ready at hi
    rw [List.mem_filter] at hi
    obtain ⟨h1, h2⟩ := hi
    have hlt : i < L.size := by rw [hsz L a w hI]; simpa using h1
    rw [Bool.and_eq_true] at h2
    have hL : L.getD i true = false := by simpa using h2.1
    cases ho : ops[i]? with
    | none => rw [ho] at h2; simp at h2
    | some o =>
      rw [ho] at h2
      have hd : ∀ e ∈ o.after, Region.binds md e = true → Dn L e.on := by
        intro e he hb
        have h3 : o.after.all (fun e => !Region.binds md e || L.getD e.on false) = true := by simpa using h2.2
        rw [Array.all_eq_true'] at h3
        have h4 := h3 e he
        rw [hb] at h4
        simpa [Dn] using h4
      refine wpOpIn_mono (fun a' w' h => ih _ a' w' ?_ h) (hstep L a w hI i o ho hlt hL hd)
      have hb : L.toList[i]? = some false := by
        simp [Array.getD_eq_getD_getElem?, Array.getElem?_eq_getElem hlt] at hL
        simp [Array.getElem?_eq_getElem hlt, hL]
      have := count_set L.toList i hb
      rw [Array.toList_setIfInBounds]
      omega
/-- where nothing may come up any more, whatever has all that it waits for has been carried out -/
theorem ready_nil {L : Array Bool} (h : Region.ready md ops L = []) (hs : L.size = ops.size) {i : Nat} {o : Oper} (ho : ops[i]? = some o) (hd : ∀ e ∈ o.after, Dn L e.on) : Dn L i := by
  have hlt : i < ops.size := (Array.getElem?_eq_some_iff.1 ho).1
  have hlt' : i < L.size := by omega
  cases hL : L.getD i true with
  | true => simp [Array.getD_eq_getD_getElem?, Array.getElem?_eq_getElem hlt'] at hL; simp [Dn, Array.getD_eq_getD_getElem?, Array.getElem?_eq_getElem hlt', hL]
  | false =>
    have hm : i ∈ Region.ready md ops L := by
      unfold Region.ready
      rw [List.mem_filter]
      refine ⟨by simpa using hlt, ?_⟩
      rw [hL, ho]
      simp only [Bool.not_false, Bool.true_and, Option.map_some, Option.getD_some]
      rw [Array.all_eq_true']
      intro e he
      have h1 : L.getD e.on false = true := hd e he
      rw [h1, Bool.or_true]
    rw [h] at hm; cases hm
/-- one operation, by the laws for lists of them -/
theorem wpOpIn_of_list {i : Nat} {o : Oper} {K : Act → World → Prop} {a : Act} {w : World} (ho : ops[i]? = some o) (hg : o.guard = none)
    (h : wpListIn F n P ops (fun e a w => match e with | .normal => K a w | e => Q e a w) [o] a w) : wpOpIn F n P ops Q i K a w := by
  unfold wpOpIn
  rw [ho]
  have hw : Region.wanted o (yielded ops a.tmps) = true := by simp [Region.wanted, hg]
  simp only [hw, if_true]
  unfold wpListIn at h
  rw [if_pos hw] at h
  unfold Oper.wpIn at *
  refine ⟨h.1, ?_⟩
  have h := h.2
  generalize (o.semAt F.round a.eval).run P w = r at *
  cases r with
  | ok x w' => cases x <;> simp only [Oper.uponIn, wpListIn] at h ⊢ <;> exact h
  | halt x w' => cases x <;> simp only [Oper.uponIn] at h ⊢ <;> exact h
end
end Go.Proofs.YtloaeglmngcenaaGreatDoor

namespace Go.Proofs.YtloaeglmngcenaaGreatDoor
open Go.RowKit
open Bt (Rc)

theorem dn_not {L : Array Bool} {i j : Nat} (h : j ≠ i) : Dn (L.setIfInBounds i true) j = Dn L j := propext ⟨fun h' => h'.set.resolve_left h, Dn.stay⟩
theorem dn_yes {L : Array Bool} {i : Nat} (h : i < L.size) : Dn (L.setIfInBounds i true) i = True := propext ⟨fun _ => trivial, fun _ => Dn.new h⟩
theorem dn_zero {n j : Nat} : Dn (Array.replicate n false) j = False := by
  unfold Dn
  refine propext ⟨fun h => ?_, False.elim⟩
  rw [Array.getD_eq_getD_getElem?] at h
  by_cases hj : j < n
  · simp [hj] at h
  · simp [hj] at h
abbrev zK : List Value := [.int .i64 0, .slice none 0 0, .int .i64 0]
abbrev ckL (t : ByteArray) (A : Option Addr) (c : Nat) : List Value := [.int .i64 (ckRNum t), .slice A (ckList t).length c, .int .i64 (ckCode t)]
abbrev set3W (W : World) (g : Nat) (a b c : Value) : World := ((W.setCell ⟨g, 0, none⟩ a).setCell ⟨g, 1, none⟩ b).setCell ⟨g, 2, none⟩ c
theorem set3_other {W : World} {g k : Nat} (a b c : Value) (h : k ≠ g) : (set3W W g a b c).heap[k]? = W.heap[k]? :=
  (Below.heap_setCell _ _ _ _ (by dsimp only; omega)).trans ((Below.heap_setCell _ _ _ _ (by dsimp only; omega)).trans (Below.heap_setCell _ _ _ _ (by dsimp only; omega)))
theorem set3_blk {W : World} {g : Nat} {e : TypeId} {x y z a b c : Value} (h : IsBlk W g e [x, y, z]) : IsBlk (set3W W g a b c) g e [a, b, c] :=
  ((h.set (j := 0) a).set (j := 1) b).set (j := 2) c
theorem set3_bel {w W : World} {B g : Nat} (h : Below B w W) (hg : B ≤ g) (a b c : Value) : Below B w (set3W W g a b c) :=
  ((h.setCell (p := ⟨g, 0, none⟩) hg a).setCell (p := ⟨g, 1, none⟩) hg b).setCell (p := ⟨g, 2, none⟩) hg c
theorem set3_size {W : World} {g : Nat} (a b c : Value) : (set3W W g a b c).heap.size = W.heap.size := by simp [World.setCell]

structure BsI (w W : World) (c1 c2 k4 k5 s4 s5 : Prop) (a b : ByteArray) (x1 x2 p4 p5 : Value) (A1 A2 : Option Addr) (n1 n2 l1 h1 l2 h2 ga gb : Nat) : Prop where
  bel : Below w.heap.size w W
  ans1 : c1 → x1 = ckV (ckRNum a) A1 (ckList a).length n1 (ckCode a) ∧ OwRc W l1 h1 A1 (ckList a).length (ckList a) ∧ w.heap.size ≤ l1 ∧ h1 ≤ W.heap.size
  ans2 : c2 → x2 = ckV (ckRNum b) A2 (ckList b).length n2 (ckCode b) ∧ OwRc W l2 h2 A2 (ckList b).length (ckList b) ∧ w.heap.size ≤ l2 ∧ h2 ≤ W.heap.size
  box4 : k4 → p4 = .pointer (some ⟨ga, 0, none⟩) ∧ w.heap.size ≤ ga ∧ ga < W.heap.size
  box5 : k5 → p5 = .pointer (some ⟨gb, 0, none⟩) ∧ w.heap.size ≤ gb ∧ gb < W.heap.size
  z4 : k4 → ¬ s4 → IsBlk W ga 175 zK
  z5 : k5 → ¬ s5 → IsBlk W gb 175 zK
  f4 : k4 → s4 → IsBlk W ga 175 (ckL a A1 n1)
  f5 : k5 → s5 → IsBlk W gb 175 (ckL b A2 n2)
  dif : k4 → k5 → ga ≠ gb
  o14 : c1 → k4 → ga < l1 ∨ h1 ≤ ga
  o15 : c1 → k5 → gb < l1 ∨ h1 ≤ gb
  o24 : c2 → k4 → ga < l2 ∨ h2 ≤ ga
  o25 : c2 → k5 → gb < l2 ∨ h2 ≤ gb
section
variable {w W W' : World} {c1 c2 k4 k5 s4 s5 : Prop} {a b : ByteArray} {x1 x2 p4 p5 : Value} {A1 A2 A : Option Addr} {n1 n2 l1 h1 l2 h2 ga gb n : Nat}
theorem BsI.start (hb : Below w.heap.size w W) (a b : ByteArray) (x1 x2 p4 p5 : Value) : BsI w W False False False False False False a b x1 x2 p4 p5 none none 0 0 0 0 0 0 0 0 :=
  ⟨hb, False.elim, False.elim, False.elim, False.elim, fun h => h.elim, fun h => h.elim, fun h => h.elim, fun h => h.elim, fun h => h.elim, fun h => h.elim, fun h => h.elim, fun h => h.elim, fun h => h.elim⟩
theorem BsI.call1 (h : BsI w W c1 c2 k4 k5 s4 s5 a b x1 x2 p4 p5 A1 A2 n1 n2 l1 h1 l2 h2 ga gb) (hs : ¬ s4) (hb : Below W.heap.size W W') (ho : OwRc W' W.heap.size W'.heap.size A (ckList a).length (ckList a)) :
    BsI w W' True c2 k4 k5 s4 s5 a b (ckV (ckRNum a) A (ckList a).length n (ckCode a)) x2 p4 p5 A A2 n n2 W.heap.size W'.heap.size l2 h2 ga gb where
  bel := h.bel.trans (hb.mono h.bel.size)
  ans1 := fun _ => ⟨rfl, ho, h.bel.size, Nat.le_refl _⟩
  ans2 := fun c => ⟨(h.ans2 c).1, (h.ans2 c).2.1.below hb (h.ans2 c).2.2.2, (h.ans2 c).2.2.1, Nat.le_trans (h.ans2 c).2.2.2 hb.size⟩
  box4 := fun k => ⟨(h.box4 k).1, (h.box4 k).2.1, Nat.lt_of_lt_of_le (h.box4 k).2.2 hb.size⟩
  box5 := fun k => ⟨(h.box5 k).1, (h.box5 k).2.1, Nat.lt_of_lt_of_le (h.box5 k).2.2 hb.size⟩
  z4 := fun k s => (h.z4 k s).below hb (h.box4 k).2.2
  z5 := fun k s => (h.z5 k s).below hb (h.box5 k).2.2
  f4 := fun _ s => absurd s hs
  f5 := fun k s => (h.f5 k s).below hb (h.box5 k).2.2
  dif := h.dif
  o14 := fun _ k => .inl (h.box4 k).2.2
  o15 := fun _ k => .inl (h.box5 k).2.2
  o24 := h.o24
  o25 := h.o25
theorem BsI.call2 (h : BsI w W c1 c2 k4 k5 s4 s5 a b x1 x2 p4 p5 A1 A2 n1 n2 l1 h1 l2 h2 ga gb) (hs : ¬ s5) (hb : Below W.heap.size W W') (ho : OwRc W' W.heap.size W'.heap.size A (ckList b).length (ckList b)) :
    BsI w W' c1 True k4 k5 s4 s5 a b x1 (ckV (ckRNum b) A (ckList b).length n (ckCode b)) p4 p5 A1 A n1 n l1 h1 W.heap.size W'.heap.size ga gb where
  bel := h.bel.trans (hb.mono h.bel.size)
  ans2 := fun _ => ⟨rfl, ho, h.bel.size, Nat.le_refl _⟩
  ans1 := fun c => ⟨(h.ans1 c).1, (h.ans1 c).2.1.below hb (h.ans1 c).2.2.2, (h.ans1 c).2.2.1, Nat.le_trans (h.ans1 c).2.2.2 hb.size⟩
  box4 := fun k => ⟨(h.box4 k).1, (h.box4 k).2.1, Nat.lt_of_lt_of_le (h.box4 k).2.2 hb.size⟩
  box5 := fun k => ⟨(h.box5 k).1, (h.box5 k).2.1, Nat.lt_of_lt_of_le (h.box5 k).2.2 hb.size⟩
  z4 := fun k s => (h.z4 k s).below hb (h.box4 k).2.2
  z5 := fun k s => (h.z5 k s).below hb (h.box5 k).2.2
  f4 := fun k s => (h.f4 k s).below hb (h.box4 k).2.2
  f5 := fun _ s => absurd s hs
  dif := h.dif
  o14 := h.o14
  o15 := h.o15
  o24 := fun _ k => .inl (h.box4 k).2.2
  o25 := fun _ k => .inl (h.box5 k).2.2
theorem BsI.new4 (h : BsI w W c1 c2 k4 k5 s4 s5 a b x1 x2 p4 p5 A1 A2 n1 n2 l1 h1 l2 h2 ga gb) (hs : ¬ s4) :
    BsI w (W.alloc (.cells #[.int .i64 0, .slice none 0 0, .int .i64 0] 175)) c1 c2 True k5 s4 s5 a b x1 x2 (.pointer (some ⟨W.heap.size, 0, none⟩)) p5 A1 A2 n1 n2 l1 h1 l2 h2 W.heap.size gb :=
  have hb : Below W.heap.size W (W.alloc (.cells #[.int .i64 0, .slice none 0 0, .int .i64 0] 175)) := (Below.refl _ _).alloc (Nat.le_refl _) _
  { bel := h.bel.trans (hb.mono h.bel.size)
    ans1 := fun c => ⟨(h.ans1 c).1, (h.ans1 c).2.1.below hb (h.ans1 c).2.2.2, (h.ans1 c).2.2.1, Nat.le_trans (h.ans1 c).2.2.2 hb.size⟩
    ans2 := fun c => ⟨(h.ans2 c).1, (h.ans2 c).2.1.below hb (h.ans2 c).2.2.2, (h.ans2 c).2.2.1, Nat.le_trans (h.ans2 c).2.2.2 hb.size⟩
    box4 := fun _ => ⟨rfl, h.bel.size, by simp⟩
    box5 := fun k => ⟨(h.box5 k).1, (h.box5 k).2.1, Nat.lt_of_lt_of_le (h.box5 k).2.2 hb.size⟩
    z4 := fun _ _ => isBlk_new W _ zK
    z5 := fun k s => (h.z5 k s).below hb (h.box5 k).2.2
    f4 := fun _ s => absurd s hs
    f5 := fun k s => (h.f5 k s).below hb (h.box5 k).2.2
    dif := fun _ k => Nat.ne_of_gt (h.box5 k).2.2
    o14 := fun c _ => .inr (h.ans1 c).2.2.2
    o15 := h.o15
    o24 := fun c _ => .inr (h.ans2 c).2.2.2
    o25 := h.o25 }
theorem BsI.new5 (h : BsI w W c1 c2 k4 k5 s4 s5 a b x1 x2 p4 p5 A1 A2 n1 n2 l1 h1 l2 h2 ga gb) (hs : ¬ s5) :
    BsI w (W.alloc (.cells #[.int .i64 0, .slice none 0 0, .int .i64 0] 175)) c1 c2 k4 True s4 s5 a b x1 x2 p4 (.pointer (some ⟨W.heap.size, 0, none⟩)) A1 A2 n1 n2 l1 h1 l2 h2 ga W.heap.size :=
  have hb : Below W.heap.size W (W.alloc (.cells #[.int .i64 0, .slice none 0 0, .int .i64 0] 175)) := (Below.refl _ _).alloc (Nat.le_refl _) _
  { bel := h.bel.trans (hb.mono h.bel.size)
    ans1 := fun c => ⟨(h.ans1 c).1, (h.ans1 c).2.1.below hb (h.ans1 c).2.2.2, (h.ans1 c).2.2.1, Nat.le_trans (h.ans1 c).2.2.2 hb.size⟩
    ans2 := fun c => ⟨(h.ans2 c).1, (h.ans2 c).2.1.below hb (h.ans2 c).2.2.2, (h.ans2 c).2.2.1, Nat.le_trans (h.ans2 c).2.2.2 hb.size⟩
    box4 := fun k => ⟨(h.box4 k).1, (h.box4 k).2.1, Nat.lt_of_lt_of_le (h.box4 k).2.2 hb.size⟩
    box5 := fun _ => ⟨rfl, h.bel.size, by simp⟩
    z4 := fun k s => (h.z4 k s).below hb (h.box4 k).2.2
    z5 := fun _ _ => isBlk_new W _ zK
    f4 := fun k s => (h.f4 k s).below hb (h.box4 k).2.2
    f5 := fun _ s => absurd s hs
    dif := fun k _ => Nat.ne_of_lt (h.box4 k).2.2
    o14 := h.o14
    o15 := fun c _ => .inr (h.ans1 c).2.2.2
    o24 := h.o24
    o25 := fun c _ => .inr (h.ans2 c).2.2.2 }
theorem OwRc.set3 {lo hi n g : Nat} {X : List Rc} (h : OwRc W lo hi A n X) (hg : g < lo ∨ hi ≤ g) (x y z : Value) : OwRc (set3W W g x y z) lo hi A n X :=
  h.same fun k h1 h2 => set3_other x y z (by omega)
theorem BsI.put4 (h : BsI w W c1 c2 k4 k5 s4 s5 a b x1 x2 p4 p5 A1 A2 n1 n2 l1 h1 l2 h2 ga gb) (hk : k4) (hs : ¬ s4) :
    BsI w (set3W W ga (.int .i64 (ckRNum a)) (.slice A1 (ckList a).length n1) (.int .i64 (ckCode a))) c1 c2 k4 k5 True s5 a b x1 x2 p4 p5 A1 A2 n1 n2 l1 h1 l2 h2 ga gb where
  bel := set3_bel h.bel (h.box4 hk).2.1 _ _ _
  ans1 := fun c => ⟨(h.ans1 c).1, (h.ans1 c).2.1.set3 (h.o14 c hk) _ _ _, (h.ans1 c).2.2.1, Nat.le_trans (h.ans1 c).2.2.2 (Nat.le_of_eq (set3_size _ _ _).symm)⟩
  ans2 := fun c => ⟨(h.ans2 c).1, (h.ans2 c).2.1.set3 (h.o24 c hk) _ _ _, (h.ans2 c).2.2.1, Nat.le_trans (h.ans2 c).2.2.2 (Nat.le_of_eq (set3_size _ _ _).symm)⟩
  box4 := fun k => ⟨(h.box4 k).1, (h.box4 k).2.1, Nat.lt_of_lt_of_le (h.box4 k).2.2 (Nat.le_of_eq (set3_size _ _ _).symm)⟩
  box5 := fun k => ⟨(h.box5 k).1, (h.box5 k).2.1, Nat.lt_of_lt_of_le (h.box5 k).2.2 (Nat.le_of_eq (set3_size _ _ _).symm)⟩
  z4 := fun _ s => absurd trivial s
  z5 := fun k s => (set3_other _ _ _ (Ne.symm (h.dif hk k))).trans (h.z5 k s)
  f4 := fun k _ => set3_blk (h.z4 k hs)
  f5 := fun k s => (set3_other _ _ _ (Ne.symm (h.dif hk k))).trans (h.f5 k s)
  dif := h.dif
  o14 := h.o14
  o15 := h.o15
  o24 := h.o24
  o25 := h.o25
theorem BsI.put5 (h : BsI w W c1 c2 k4 k5 s4 s5 a b x1 x2 p4 p5 A1 A2 n1 n2 l1 h1 l2 h2 ga gb) (hk : k5) (hs : ¬ s5) :
    BsI w (set3W W gb (.int .i64 (ckRNum b)) (.slice A2 (ckList b).length n2) (.int .i64 (ckCode b))) c1 c2 k4 k5 s4 True a b x1 x2 p4 p5 A1 A2 n1 n2 l1 h1 l2 h2 ga gb where
  bel := set3_bel h.bel (h.box5 hk).2.1 _ _ _
  ans1 := fun c => ⟨(h.ans1 c).1, (h.ans1 c).2.1.set3 (h.o15 c hk) _ _ _, (h.ans1 c).2.2.1, Nat.le_trans (h.ans1 c).2.2.2 (Nat.le_of_eq (set3_size _ _ _).symm)⟩
  ans2 := fun c => ⟨(h.ans2 c).1, (h.ans2 c).2.1.set3 (h.o25 c hk) _ _ _, (h.ans2 c).2.2.1, Nat.le_trans (h.ans2 c).2.2.2 (Nat.le_of_eq (set3_size _ _ _).symm)⟩
  box4 := fun k => ⟨(h.box4 k).1, (h.box4 k).2.1, Nat.lt_of_lt_of_le (h.box4 k).2.2 (Nat.le_of_eq (set3_size _ _ _).symm)⟩
  box5 := fun k => ⟨(h.box5 k).1, (h.box5 k).2.1, Nat.lt_of_lt_of_le (h.box5 k).2.2 (Nat.le_of_eq (set3_size _ _ _).symm)⟩
  z4 := fun k s => (set3_other _ _ _ (h.dif k hk)).trans (h.z4 k s)
  z5 := fun _ s => absurd trivial s
  f4 := fun k s => (set3_other _ _ _ (h.dif k hk)).trans (h.f4 k s)
  f5 := fun k _ => set3_blk (h.z5 k hs)
  dif := h.dif
  o14 := h.o14
  o15 := h.o15
  o24 := h.o24
  o25 := h.o25
end
end Go.Proofs.YtloaeglmngcenaaGreatDoor

namespace Go.Proofs.YtloaeglmngcenaaGreatDoor
section
variable {P : Program} {ops : Array Oper} {Q : Exit → Act → World → Prop} {md : Region.Mode}
theorem wpAny_inv (Inv : Array Bool → Act → World → Prop) (hsz : ∀ L a w, Inv L a w → L.size = ops.size)
    (hstep : ∀ L a w, Inv L a w → ∀ i o, ops[i]? = some o → i < L.size → L.getD i true = false → (∀ e ∈ o.after, Region.binds md e = true → Dn L e.on) → wpOp P ops Q i (Inv (L.setIfInBounds i true)) a w)
    (hdone : ∀ L a w, Inv L a w → Region.ready md ops L = [] → Q .normal a w) :
    ∀ (fuel : Nat) (L : Array Bool) (a : Act) (w : World), L.toList.countP (fun b => !b) ≤ fuel → Inv L a w → wpAny P md ops Q fuel L a w := by
  intro fuel
  induction fuel with
  | zero =>
    intro L a w hc hI
    have hr : Region.ready md ops L = [] := by
      unfold Region.ready
      refine List.filter_eq_nil_iff.2 (fun i hi => ?_)
      have hlt : i < L.size := by rw [hsz L a w hI]; simpa using hi
      have h0 : L.toList.countP (fun b => !b) = 0 := by omega
      have h1 := List.countP_eq_zero.1 h0 (L[i]'hlt) (by simp)
      simp [Array.getD_eq_getD_getElem?, Array.getElem?_eq_getElem hlt]
      intro h2
      simp [h2] at h1
    exact ⟨hr, hdone L a w hI hr⟩
  | succ fuel ih =>
    intro L a w hc hI
    refine ⟨hdone L a w hI, fun i hi => ?_⟩
    unfold Region.ready at hi
    rw [List.mem_filter] at hi
    obtain ⟨h1, h2⟩ := hi
    have hlt : i < L.size := by rw [hsz L a w hI]; simpa using h1
    rw [Bool.and_eq_true] at h2
    have hL : L.getD i true = false := by simpa using h2.1
    cases ho : ops[i]? with
    | none => rw [ho] at h2; simp at h2
    | some o =>
      rw [ho] at h2
      have hd : ∀ e ∈ o.after, Region.binds md e = true → Dn L e.on := by
        intro e he hb
        have h3 : o.after.all (fun e => !Region.binds md e || L.getD e.on false) = true := by simpa using h2.2
        rw [Array.all_eq_true'] at h3
        have h4 := h3 e he
        rw [hb] at h4
        simpa [Dn] using h4
      refine wpOp_mono (fun a' w' h => ih _ a' w' ?_ h) (hstep L a w hI i o ho hlt hL hd)
      have hb : L.toList[i]? = some false := by
        simp [Array.getD_eq_getD_getElem?, Array.getElem?_eq_getElem hlt] at hL
        simp [Array.getElem?_eq_getElem hlt, hL]
      have := count_set L.toList i hb
      rw [Array.toList_setIfInBounds]
      omega
/-- one operation, by the laws for lists of them -/
theorem wpOp_of_list {i : Nat} {o : Oper} {K : Act → World → Prop} {a : Act} {w : World} (ho : ops[i]? = some o) (hg : o.guard = none)
    (h : wpList P ops (fun e a w => match e with | .normal => K a w | e => Q e a w) [o] a w) : wpOp P ops Q i K a w := by
  unfold wpOp
  rw [ho]
  have hw : Region.wanted o (yielded ops a.tmps) = true := by simp [Region.wanted, hg]
  simp only [hw, if_true]
  unfold wpList at h
  rw [if_pos hw] at h
  refine h.imp (fun h => ?_) (fun h => h)
  unfold Oper.wp at *
  generalize (execOp a.eval o).run P w = r at *
  cases r with
  | ok x w' => cases x <;> simp only [Oper.upon, wpList] at h ⊢ <;> exact h
  | halt x w' => cases x <;> simp only [Oper.upon] at h ⊢ <;> exact h
end
end Go.Proofs.YtloaeglmngcenaaGreatDoor

namespace Go.Proofs.YtloaeglmngcenaaGreatDoor
open Go.RowKit
open Bt (Rc)

/-- how far the region has come -/
def BtInv (Fr : Value → Value → Value → Value → Value → Value → Value → Value → Act) (w W : World) (a b : ByteArray) (L : Array Bool) (x : Act) (u : World) : Prop :=
  L.size = 10 ∧ (Dn L 8 → Dn L 2 ∧ Dn L 6) ∧ (Dn L 9 → Dn L 5 ∧ Dn L 7) ∧ ∃ s4 s5 s6 s7 s8 s9 s10 s11, x = Fr s4 s5 s6 s7 s8 s9 s10 s11 ∧
    (Dn L 0 → s6 = .pointer (some ⟨w.heap.size, 0, none⟩)) ∧ (Dn L 1 → s7 = .string a) ∧ (Dn L 3 → s9 = .pointer (some ⟨w.heap.size, 1, none⟩)) ∧ (Dn L 4 → s10 = .string b) ∧
    ∃ A1 A2 n1 n2 l1 h1 l2 h2 ga gb, BsI W u (Dn L 2) (Dn L 5) (Dn L 6) (Dn L 7) (Dn L 8) (Dn L 9) a b s8 s11 s4 s5 A1 A2 ((ckList a).length + n1) ((ckList b).length + n2) l1 h1 l2 h2 ga gb
theorem BsI.startN {w W : World} (hb : Below w.heap.size w W) (a b : ByteArray) (x1 x2 p4 p5 : Value) (n1 n2 : Nat) : BsI w W False False False False False False a b x1 x2 p4 p5 none none n1 n2 0 0 0 0 0 0 :=
  ⟨hb, False.elim, False.elim, False.elim, False.elim, fun h => h.elim, fun h => h.elim, fun h => h.elim, fun h => h.elim, fun h => h.elim, fun h => h.elim, fun h => h.elim, fun h => h.elim, fun h => h.elim⟩
/-- both are read and laid -/
structure BsD (w u : World) (a b : ByteArray) (A1 A2 : Option Addr) (n1 n2 l1 h1 l2 h2 ga gb : Nat) : Prop where
  bel : Below w.heap.size w u
  o1 : OwRc u l1 h1 A1 (ckList a).length (ckList a)
  o2 : OwRc u l2 h2 A2 (ckList b).length (ckList b)
  p1 : w.heap.size ≤ l1 ∧ h1 ≤ u.heap.size
  p2 : w.heap.size ≤ l2 ∧ h2 ≤ u.heap.size
  b1 : IsBlk u ga 175 (ckL a A1 n1)
  b2 : IsBlk u gb 175 (ckL b A2 n2)
  g1 : w.heap.size ≤ ga
  g2 : w.heap.size ≤ gb
theorem BsI.all {w W : World} {c1 c2 k4 k5 s4 s5 : Prop} {a b : ByteArray} {x1 x2 p4 p5 : Value} {A1 A2 : Option Addr} {n1 n2 l1 h1 l2 h2 ga gb : Nat} (h : BsI w W c1 c2 k4 k5 s4 s5 a b x1 x2 p4 p5 A1 A2 n1 n2 l1 h1 l2 h2 ga gb)
    (d2 : c1) (d5 : c2) (d6 : k4) (d7 : k5) (d8 : s4) (d9 : s5) : BsD w W a b A1 A2 n1 n2 l1 h1 l2 h2 ga gb :=
  ⟨h.bel, (h.ans1 d2).2.1, (h.ans2 d5).2.1, (h.ans1 d2).2.2, (h.ans2 d5).2.2, h.f4 d6 d8, h.f5 d7 d9, (h.box4 d6).2.1, (h.box5 d7).2.1⟩

/-- the better of two slots, and whether it is A's; its row is no longer than its capacity -/
def RetBestC (a b : ByteArray) (w : World) (e : Ending) (w' : World) : Prop :=
  ∃ (A : Option Addr) (d : Nat), e = .returned (.tuple #[ckV (ckRNum (ckTxt a b)) A (ckList (ckTxt a b)).length ((ckList (ckTxt a b)).length + d) (ckCode (ckTxt a b)), .bool (ckSel a b)]) ∧ OwRc w' w.heap.size w'.heap.size A (ckList (ckTxt a b)).length (ckList (ckTxt a b)) ∧ Below w.heap.size w w'
/-- the better of two slots, and whether it is A's -/
def RetBest (a b : ByteArray) (w : World) (e : Ending) (w' : World) : Prop :=
  ∃ (A : Option Addr) (c : Nat), e = .returned (.tuple #[ckV (ckRNum (ckTxt a b)) A (ckList (ckTxt a b)).length c (ckCode (ckTxt a b)), .bool (ckSel a b)]) ∧ OwRc w' w.heap.size w'.heap.size A (ckList (ckTxt a b)).length (ckList (ckTxt a b)) ∧ Below w.heap.size w w'

set_option maxHeartbeats 8000000 in
set_option maxRecDepth 100000 in
theorem bestOf_anyC (a b : ByteArray) (w : World) (ha : a.size ≤ maxLen) (hb : b.size ≤ maxLen) (hg : ErrType w) :
    Calls Tryz.prog 132 #[slotsV a b] w (RetBestC a b w) := by
  have HG := Lib.hid hg; clear hg
  have HC1 := Lib.hid (fun W h => impl_ckptReadC a W ha h)
  have HC2 := Lib.hid (fun W h => impl_ckptReadC b W hb h)
  go_enter Tryz.func132, Tryz.ntmps132
  go_wp2_with fail
  have hb0 : Below w.heap.size w ((w.alloc (.cells #[.string a, .string b] 88)).alloc (.cells #[.int .i64 0, .slice none 0 0, .int .i64 0] 175)) := ((Below.refl _ _).alloc (Nat.le_refl _) _).alloc (by simp) _
  have ks := (isBlk_new w 88 [.string a, .string b]).alloc (.cells #[.int .i64 0, .slice none 0 0, .int .i64 0] 175)
  have ko := isBlk_new (w.alloc (.cells #[.string a, .string b] 88)) 175 [.int .i64 0, .slice none 0 0, .int .i64 0]
  rw [size_alloc] at ko
  change IsBlk ((w.alloc (.cells #[.string a, .string b] 88)).alloc (.cells #[.int .i64 0, .slice none 0 0, .int .i64 0] 175)) _ _ _ at ks ko
  have hz : ((w.alloc (.cells #[.string a, .string b] 88)).alloc (.cells #[.int .i64 0, .slice none 0 0, .int .i64 0] 175)).heap.size = w.heap.size + 2 := by simp
  generalize (w.alloc (.cells #[.string a, .string b] 88)).alloc (.cells #[.int .i64 0, .slice none 0 0, .int .i64 0] 175) = W at hb0 ks ko hz ⊢
  have c0 : W.cell? ⟨w.heap.size, 0, none⟩ = some (.string a) := ks.cell rfl
  have c1 : W.cell? ⟨w.heap.size, 1, none⟩ = some (.string b) := ks.cell rfl
  have hl0 := ks.lt
  have HB0 := Lib.hid hb0; have HKO := Lib.hid ko
  clear hb0 ks ko
  go_cut [4, 5] (fun v4 v5 u => ∃ A1 A2 n1 n2 l1 h1 l2 h2 ga gb, v4 = .pointer (some ⟨ga, 0, none⟩) ∧ v5 = .pointer (some ⟨gb, 0, none⟩) ∧ BsD W u a b A1 A2 ((ckList a).length + n1) ((ckList b).length + n2) l1 h1 l2 h2 ga gb)
  case first =>
    rename_i J K hJ hK
    refine wp_region_any (by kernel_rfl) (wpAny_inv (BtInv (fun s4 s5 s6 s7 s8 s9 s10 s11 => { tmps := #[slotsV a b, .pointer (some ⟨w.heap.size, 0, none⟩), .pointer (some ⟨w.heap.size + 1, 0, none⟩), .bool false, s4, s5, s6, s7, s8, s9, s10, s11, undef, undef, undef, undef, undef, undef, undef, undef, undef, undef], defers := [] }) w W a b) ?sz ?step ?rend _ _ _ _ (by decide) ?start)
    case sz => intro L x u h; exact h.1
    case start =>
      refine ⟨by simp, fun h => ?_, fun h => ?_, _, _, _, _, _, _, _, _, rfl, fun h => ?_, fun h => ?_, fun h => ?_, fun h => ?_, none, none, 0, 0, 0, 0, 0, 0, 0, 0, ?_⟩
      rotate_right
      · simp only [dn_zero]
        exact BsI.startN (Below.refl _ W).drew a b _ _ _ _ _ _
      all_goals (simp only [dn_zero] at h)
    case step =>
      intro L x u hI i o ho hi hL hd
      obtain ⟨hsz, k8, k9, s4, s5, s6, s7, s8, s9, s10, s11, rfl, e0, e1, e3, e4, A1, A2, n1, n2, l1, h1, l2, h2, ga, gb, hS⟩ := hI
      have hcase : i = 0 ∨ i = 1 ∨ i = 2 ∨ i = 3 ∨ i = 4 ∨ i = 5 ∨ i = 6 ∨ i = 7 ∨ i = 8 ∨ i = 9 := by omega
      rcases hcase with rfl | rfl | rfl | rfl | rfl | rfl | rfl | rfl | rfl | rfl
      · -- operation 0
        refine wpOp_of_list ho (by cases ho; rfl) ?_
        cases ho
        go_wp2_with fail
        refine ⟨by simp [hsz], fun h => (k8 ((h.set).resolve_left (by decide))).imp Dn.stay Dn.stay, fun h => (k9 ((h.set).resolve_left (by decide))).imp Dn.stay Dn.stay, _, _, _, _, _, _, _, _, rfl, fun _ => rfl, fun h => e1 ((h.set).resolve_left (by decide)), fun h => e3 ((h.set).resolve_left (by decide)), fun h => e4 ((h.set).resolve_left (by decide)), A1, A2, n1, n2, l1, h1, l2, h2, ga, gb, ?_⟩
        simp only [dn_not (L := L) (i := 0) (j := 2) (by decide), dn_not (L := L) (i := 0) (j := 5) (by decide), dn_not (L := L) (i := 0) (j := 6) (by decide), dn_not (L := L) (i := 0) (j := 7) (by decide), dn_not (L := L) (i := 0) (j := 8) (by decide), dn_not (L := L) (i := 0) (j := 9) (by decide)]
        exact hS
      · -- operation 1
        refine wpOp_of_list ho (by cases ho; rfl) ?_
        cases ho
        obtain rfl := e0 (hd ⟨0, .data⟩ (by simp) rfl)
        have hc : u.cell? ⟨w.heap.size, 0, none⟩ = some (.string a) := (hS.bel.cell (p := ⟨w.heap.size, 0, none⟩) hl0).trans c0
        go_wp2_with fail
        refine ⟨by simp [hsz], fun h => (k8 ((h.set).resolve_left (by decide))).imp Dn.stay Dn.stay, fun h => (k9 ((h.set).resolve_left (by decide))).imp Dn.stay Dn.stay, _, _, _, _, _, _, _, _, rfl, fun _ => rfl, fun _ => rfl, fun h => e3 ((h.set).resolve_left (by decide)), fun h => e4 ((h.set).resolve_left (by decide)), A1, A2, n1, n2, l1, h1, l2, h2, ga, gb, ?_⟩
        simp only [dn_not (L := L) (i := 1) (j := 2) (by decide), dn_not (L := L) (i := 1) (j := 5) (by decide), dn_not (L := L) (i := 1) (j := 6) (by decide), dn_not (L := L) (i := 1) (j := 7) (by decide), dn_not (L := L) (i := 1) (j := 8) (by decide), dn_not (L := L) (i := 1) (j := 9) (by decide)]
        exact hS
      · -- operation 2
        refine wpOp_of_list ho (by cases ho; rfl) ?_
        cases ho
        obtain rfl := e1 (hd ⟨1, .data⟩ (by simp) rfl)
        have hn8 : ¬ Dn L 8 := fun h => Dn.not hi hL (k8 h).1
        go_wp2_with fail
        refine Calls.mono (HC1.out u (HG.out.below (HB0.out.trans (hS.bel.mono (by omega))))) ?_
        rintro e w1 ⟨A, ca, rfl, ho, hb⟩
        go_wp2_with fail
        refine ⟨by simp [hsz], fun h => (k8 ((h.set).resolve_left (by decide))).imp Dn.stay Dn.stay, fun h => (k9 ((h.set).resolve_left (by decide))).imp Dn.stay Dn.stay, _, _, _, _, _, _, _, _, rfl, fun h => e0 ((h.set).resolve_left (by decide)), fun _ => rfl, fun h => e3 ((h.set).resolve_left (by decide)), fun h => e4 ((h.set).resolve_left (by decide)), A, A2, ca, n2, u.heap.size, w1.heap.size, l2, h2, ga, gb, ?_⟩
        simp only [dn_not (L := L) (i := 2) (j := 5) (by decide), dn_not (L := L) (i := 2) (j := 6) (by decide), dn_not (L := L) (i := 2) (j := 7) (by decide), dn_not (L := L) (i := 2) (j := 8) (by decide), dn_not (L := L) (i := 2) (j := 9) (by decide), dn_yes (L := L) (i := 2) hi]
        exact hS.call1 hn8 hb ho
      · -- operation 3
        refine wpOp_of_list ho (by cases ho; rfl) ?_
        cases ho
        go_wp2_with fail
        refine ⟨by simp [hsz], fun h => (k8 ((h.set).resolve_left (by decide))).imp Dn.stay Dn.stay, fun h => (k9 ((h.set).resolve_left (by decide))).imp Dn.stay Dn.stay, _, _, _, _, _, _, _, _, rfl, fun h => e0 ((h.set).resolve_left (by decide)), fun h => e1 ((h.set).resolve_left (by decide)), fun _ => rfl, fun h => e4 ((h.set).resolve_left (by decide)), A1, A2, n1, n2, l1, h1, l2, h2, ga, gb, ?_⟩
        simp only [dn_not (L := L) (i := 3) (j := 2) (by decide), dn_not (L := L) (i := 3) (j := 5) (by decide), dn_not (L := L) (i := 3) (j := 6) (by decide), dn_not (L := L) (i := 3) (j := 7) (by decide), dn_not (L := L) (i := 3) (j := 8) (by decide), dn_not (L := L) (i := 3) (j := 9) (by decide)]
        exact hS
      · -- operation 4
        refine wpOp_of_list ho (by cases ho; rfl) ?_
        cases ho
        obtain rfl := e3 (hd ⟨3, .data⟩ (by simp) rfl)
        have hc : u.cell? ⟨w.heap.size, 1, none⟩ = some (.string b) := (hS.bel.cell (p := ⟨w.heap.size, 1, none⟩) hl0).trans c1
        go_wp2_with fail
        refine ⟨by simp [hsz], fun h => (k8 ((h.set).resolve_left (by decide))).imp Dn.stay Dn.stay, fun h => (k9 ((h.set).resolve_left (by decide))).imp Dn.stay Dn.stay, _, _, _, _, _, _, _, _, rfl, fun h => e0 ((h.set).resolve_left (by decide)), fun h => e1 ((h.set).resolve_left (by decide)), fun _ => rfl, fun _ => rfl, A1, A2, n1, n2, l1, h1, l2, h2, ga, gb, ?_⟩
        simp only [dn_not (L := L) (i := 4) (j := 2) (by decide), dn_not (L := L) (i := 4) (j := 5) (by decide), dn_not (L := L) (i := 4) (j := 6) (by decide), dn_not (L := L) (i := 4) (j := 7) (by decide), dn_not (L := L) (i := 4) (j := 8) (by decide), dn_not (L := L) (i := 4) (j := 9) (by decide)]
        exact hS
      · -- operation 5
        refine wpOp_of_list ho (by cases ho; rfl) ?_
        cases ho
        obtain rfl := e4 (hd ⟨4, .data⟩ (by simp) rfl)
        have hn9 : ¬ Dn L 9 := fun h => Dn.not hi hL (k9 h).1
        go_wp2_with fail
        refine Calls.mono (HC2.out u (HG.out.below (HB0.out.trans (hS.bel.mono (by omega))))) ?_
        rintro e w1 ⟨A, ca, rfl, ho, hb⟩
        go_wp2_with fail
        refine ⟨by simp [hsz], fun h => (k8 ((h.set).resolve_left (by decide))).imp Dn.stay Dn.stay, fun h => (k9 ((h.set).resolve_left (by decide))).imp Dn.stay Dn.stay, _, _, _, _, _, _, _, _, rfl, fun h => e0 ((h.set).resolve_left (by decide)), fun h => e1 ((h.set).resolve_left (by decide)), fun h => e3 ((h.set).resolve_left (by decide)), fun _ => rfl, A1, A, n1, ca, l1, h1, u.heap.size, w1.heap.size, ga, gb, ?_⟩
        simp only [dn_not (L := L) (i := 5) (j := 2) (by decide), dn_not (L := L) (i := 5) (j := 6) (by decide), dn_not (L := L) (i := 5) (j := 7) (by decide), dn_not (L := L) (i := 5) (j := 8) (by decide), dn_not (L := L) (i := 5) (j := 9) (by decide), dn_yes (L := L) (i := 5) hi]
        exact hS.call2 hn9 hb ho
      · -- operation 6
        refine wpOp_of_list ho (by cases ho; rfl) ?_
        cases ho
        have hn8 : ¬ Dn L 8 := fun h => Dn.not hi hL (k8 h).2
        go_wp2_with fail
        refine ⟨by simp [hsz], fun h => (k8 ((h.set).resolve_left (by decide))).imp Dn.stay Dn.stay, fun h => (k9 ((h.set).resolve_left (by decide))).imp Dn.stay Dn.stay, _, _, _, _, _, _, _, _, rfl, fun h => e0 ((h.set).resolve_left (by decide)), fun h => e1 ((h.set).resolve_left (by decide)), fun h => e3 ((h.set).resolve_left (by decide)), fun h => e4 ((h.set).resolve_left (by decide)), A1, A2, n1, n2, l1, h1, l2, h2, u.heap.size, gb, ?_⟩
        simp only [dn_not (L := L) (i := 6) (j := 2) (by decide), dn_not (L := L) (i := 6) (j := 5) (by decide), dn_not (L := L) (i := 6) (j := 7) (by decide), dn_not (L := L) (i := 6) (j := 8) (by decide), dn_not (L := L) (i := 6) (j := 9) (by decide), dn_yes (L := L) (i := 6) hi]
        exact hS.new4 hn8
      · -- operation 7
        refine wpOp_of_list ho (by cases ho; rfl) ?_
        cases ho
        have hn9 : ¬ Dn L 9 := fun h => Dn.not hi hL (k9 h).2
        go_wp2_with fail
        refine ⟨by simp [hsz], fun h => (k8 ((h.set).resolve_left (by decide))).imp Dn.stay Dn.stay, fun h => (k9 ((h.set).resolve_left (by decide))).imp Dn.stay Dn.stay, _, _, _, _, _, _, _, _, rfl, fun h => e0 ((h.set).resolve_left (by decide)), fun h => e1 ((h.set).resolve_left (by decide)), fun h => e3 ((h.set).resolve_left (by decide)), fun h => e4 ((h.set).resolve_left (by decide)), A1, A2, n1, n2, l1, h1, l2, h2, ga, u.heap.size, ?_⟩
        simp only [dn_not (L := L) (i := 7) (j := 2) (by decide), dn_not (L := L) (i := 7) (j := 5) (by decide), dn_not (L := L) (i := 7) (j := 6) (by decide), dn_not (L := L) (i := 7) (j := 8) (by decide), dn_not (L := L) (i := 7) (j := 9) (by decide), dn_yes (L := L) (i := 7) hi]
        exact hS.new5 hn9
      · -- operation 8
        refine wpOp_of_list ho (by cases ho; rfl) ?_
        cases ho
        have d6 : Dn L 6 := hd ⟨6, .data⟩ (by simp) rfl
        have d2 : Dn L 2 := hd ⟨2, .data⟩ (by simp) rfl
        obtain ⟨rfl, hga, -⟩ := hS.box4 d6
        obtain ⟨rfl, -, -, -⟩ := hS.ans1 d2
        have hn8 : ¬ Dn L 8 := Dn.not hi hL
        obtain ⟨p0, p1, p2, f0, f1, f2⟩ := blk3k (hS.z4 d6 hn8)
        go_wp2_with fail
        refine ⟨by simp [hsz], fun _ => ⟨d2.stay, d6.stay⟩, fun h => (k9 ((h.set).resolve_left (by decide))).imp Dn.stay Dn.stay, _, _, _, _, _, _, _, _, rfl, fun h => e0 ((h.set).resolve_left (by decide)), fun h => e1 ((h.set).resolve_left (by decide)), fun h => e3 ((h.set).resolve_left (by decide)), fun h => e4 ((h.set).resolve_left (by decide)), A1, A2, n1, n2, l1, h1, l2, h2, ga, gb, ?_⟩
        simp only [dn_not (L := L) (i := 8) (j := 2) (by decide), dn_not (L := L) (i := 8) (j := 5) (by decide), dn_not (L := L) (i := 8) (j := 6) (by decide), dn_not (L := L) (i := 8) (j := 7) (by decide), dn_not (L := L) (i := 8) (j := 9) (by decide), dn_yes (L := L) (i := 8) hi]
        exact hS.put4 d6 hn8
      · -- operation 9
        refine wpOp_of_list ho (by cases ho; rfl) ?_
        cases ho
        have d7 : Dn L 7 := hd ⟨7, .data⟩ (by simp) rfl
        have d5 : Dn L 5 := hd ⟨5, .data⟩ (by simp) rfl
        obtain ⟨rfl, hga, -⟩ := hS.box5 d7
        obtain ⟨rfl, -, -, -⟩ := hS.ans2 d5
        have hn9 : ¬ Dn L 9 := Dn.not hi hL
        obtain ⟨p0, p1, p2, f0, f1, f2⟩ := blk3k (hS.z5 d7 hn9)
        go_wp2_with fail
        refine ⟨by simp [hsz], fun h => (k8 ((h.set).resolve_left (by decide))).imp Dn.stay Dn.stay, fun _ => ⟨d5.stay, d7.stay⟩, _, _, _, _, _, _, _, _, rfl, fun h => e0 ((h.set).resolve_left (by decide)), fun h => e1 ((h.set).resolve_left (by decide)), fun h => e3 ((h.set).resolve_left (by decide)), fun h => e4 ((h.set).resolve_left (by decide)), A1, A2, n1, n2, l1, h1, l2, h2, ga, gb, ?_⟩
        simp only [dn_not (L := L) (i := 9) (j := 2) (by decide), dn_not (L := L) (i := 9) (j := 5) (by decide), dn_not (L := L) (i := 9) (j := 6) (by decide), dn_not (L := L) (i := 9) (j := 7) (by decide), dn_not (L := L) (i := 9) (j := 8) (by decide), dn_yes (L := L) (i := 9) hi]
        exact hS.put5 d7 hn9
    case rend =>
      intro L x u hI hr
      obtain ⟨hsz, -, -, s4, s5, s6, s7, s8, s9, s10, s11, rfl, -, -, -, -, A1, A2, n1, n2, l1, h1, l2, h2, ga, gb, hS⟩ := hI
      have d0 : Dn L 0 := ready_nil hr hsz (i := 0) rfl (by simp)
      have d1 : Dn L 1 := ready_nil hr hsz (i := 1) rfl (by simpa using d0)
      have d2 : Dn L 2 := ready_nil hr hsz (i := 2) rfl (by simpa using d1)
      have d3 : Dn L 3 := ready_nil hr hsz (i := 3) rfl (by simp)
      have d4 : Dn L 4 := ready_nil hr hsz (i := 4) rfl (by simpa using d3)
      have d5 : Dn L 5 := ready_nil hr hsz (i := 5) rfl (by simp; exact ⟨d4, d2⟩)
      have d6 : Dn L 6 := ready_nil hr hsz (i := 6) rfl (by simp)
      have d7 : Dn L 7 := ready_nil hr hsz (i := 7) rfl (by simp)
      have d8 : Dn L 8 := ready_nil hr hsz (i := 8) rfl (by simp [d0, d1, d2, d3, d4, d5, d6, d7])
      have d9 : Dn L 9 := ready_nil hr hsz (i := 9) rfl (by simp [d0, d1, d2, d3, d4, d5, d6, d7, d8])
      obtain ⟨rfl, -, -⟩ := hS.box4 d6
      obtain ⟨rfl, -, -⟩ := hS.box5 d7
      refine Met.intro (hK _ _ (Met.intro (hJ _ _ ?_)))
      repeat apply Exists.intro
      refine ⟨⟨A1, A2, n1, n2, l1, h1, l2, h2, ga, gb, rfl, rfl, ?_⟩, rfl⟩
      exact hS.all d2 d5 d6 d7 d8 d9
  case rest =>
    obtain ⟨A1, A2, n1, n2, l1, h1, l2, h2, ga, gb, rfl, rfl, hD⟩ := hcut
    obtain ⟨m1, hm1⟩ : ∃ m, m = (ckList a).length + n1 := ⟨_, rfl⟩
    obtain ⟨m2, hm2⟩ : ∃ m, m = (ckList b).length + n2 := ⟨_, rfl⟩
    rw [← hm1, ← hm2] at hD
    have HM1 := Lib.hid hm1; have HM2 := Lib.hid hm2
    clear hm1 hm2
    obtain ⟨r0, r1, r2, q0, q1, q2⟩ := blk3k (HKO.out.below hD.bel HKO.out.lt)
    obtain ⟨a0, a1, a2, -, -, -⟩ := blk3k hD.b1
    obtain ⟨b0, b1, b2, -, -, -⟩ := blk3k hD.b2
    have HD := Lib.hid hD
    have HBW : Hid (Below w.heap.size w wc) := HB0.out.trans (hD.bel.mono (by omega))
    have hg1 : ¬ ga = w.heap.size + 1 := by have := hD.g1; omega
    have hg2 : ¬ gb = w.heap.size + 1 := by have := hD.g2; omega
    have hg1' : ¬ w.heap.size + 1 = ga := by have := hD.g1; omega
    have hg2' : ¬ w.heap.size + 1 = gb := by have := hD.g2; omega
    clear hD c0 c1
    by_cases hle : ckRNum b ≤ ckRNum a
    · obtain ⟨e1, e2⟩ := ckTxt_a hle
      have HE1 := Lib.hid e1; have HE2 := Lib.hid e2
      clear e1 e2
      by_cases hC : ckCode a = 0
      · have hcb : (ckCode a == 0) = true := by simpa using hC
        go_wp2_with fail
        go_region
        all_goals (
        go_wp2
        refine bodyPost_ret (v := .tuple #[ckV (ckRNum a) A1 (ckList a).length m1 (ckCode a), .bool true]) (by simp [results, Tryz.results132, go_sem, r0, r1, r2, hC]) rfl ?_
        unfold RetBestC
        rw [HE1.out, HE2.out, decide_eq_true hC]
        exact ⟨A1, n1, by rw [HM1.out], (HD.out.o1.same fun k h1 h2 => set3_other _ _ _ (by have := HD.out.p1.1; omega)).mono (by have := HD.out.p1.1; omega) (by have := HD.out.p1.2; simp [World.setCell, World.drew]; omega), by first | exact (set3_bel HBW.out (by omega) _ _ _).drew | exact set3_bel HBW.out.drew (by omega) _ _ _ | exact set3_bel HBW.out (by omega) _ _ _⟩)
      · have hcb : (ckCode a == 0) = false := by simpa using hC
        go_wp2_with fail
        go_region
        all_goals (
        go_wp2
        refine bodyPost_ret (v := .tuple #[ckV (ckRNum a) A1 (ckList a).length m1 (ckCode a), .bool false]) (by simp [results, Tryz.results132, go_sem, r0, r1, r2]) rfl ?_
        unfold RetBestC
        rw [HE1.out, HE2.out, decide_eq_false hC]
        exact ⟨A1, n1, by rw [HM1.out], (HD.out.o1.same fun k h1 h2 => set3_other _ _ _ (by have := HD.out.p1.1; omega)).mono (by have := HD.out.p1.1; omega) (by have := HD.out.p1.2; simp [World.setCell, World.drew]; omega), by first | exact (set3_bel HBW.out (by omega) _ _ _).drew | exact set3_bel HBW.out.drew (by omega) _ _ _ | exact set3_bel HBW.out (by omega) _ _ _⟩)
    · obtain ⟨e1, e2, hC⟩ := ckTxt_b hle
      have HE1 := Lib.hid e1; have HE2 := Lib.hid e2
      clear e1 e2
      have hle' : ckRNum a < ckRNum b := by omega
      · go_wp2
        refine bodyPost_ret (v := .tuple #[ckV (ckRNum b) A2 (ckList b).length m2 (ckCode b), .bool false]) (by simp [results, Tryz.results132, go_sem, r0, r1, r2, hC]) rfl ?_
        unfold RetBestC
        rw [HE1.out, HE2.out]
        exact ⟨A2, n2, by rw [HM2.out], (HD.out.o2.same fun k h1 h2 => set3_other _ _ _ (by have := HD.out.p2.1; omega)).mono (by have := HD.out.p2.1; omega) (by have := HD.out.p2.2; simp [World.setCell]; omega), by first | exact (set3_bel HBW.out (by omega) _ _ _).drew | exact set3_bel HBW.out.drew (by omega) _ _ _ | exact set3_bel HBW.out (by omega) _ _ _⟩

theorem bestOf_any (a b : ByteArray) (w : World) (ha : a.size ≤ maxLen) (hb : b.size ≤ maxLen) (hg : ErrType w) :
    Calls Tryz.prog 132 #[slotsV a b] w (RetBest a b w) :=
  (bestOf_anyC a b w ha hb hg).mono fun _ _ ⟨A, _, he, ho, hb⟩ => ⟨A, _, he, ho, hb⟩
end Go.Proofs.YtloaeglmngcenaaGreatDoor

namespace Go.Proofs.YtloaeglmngcenaaGreatDoor
open Go.RowKit
open Bt (Rc)

/-- how far the region has come -/
def BtInvS (Fr : Value → Value → Value → Value → Value → Value → Value → Value → Act) (w W : World) (a b : ByteArray) (L : Array Bool) (x : Act) (u : World) : Prop :=
  L.size = 10 ∧ (Dn L 8 → Dn L 2 ∧ Dn L 6) ∧ (Dn L 9 → Dn L 5 ∧ Dn L 7) ∧ ∃ s4 s5 s6 s7 s8 s9 s10 s11, x = Fr s4 s5 s6 s7 s8 s9 s10 s11 ∧
    (Dn L 0 → s6 = .pointer (some ⟨w.heap.size, 0, none⟩)) ∧ (Dn L 1 → s7 = .string a) ∧ (Dn L 3 → s9 = .pointer (some ⟨w.heap.size, 1, none⟩)) ∧ (Dn L 4 → s10 = .string b) ∧
    ∃ A1 A2 n1 n2 l1 h1 l2 h2 ga gb, BsI W u (Dn L 2) (Dn L 5) (Dn L 6) (Dn L 7) (Dn L 8) (Dn L 9) a b s8 s11 s4 s5 A1 A2 n1 n2 l1 h1 l2 h2 ga gb
/-- the better of two right slots, as CkptBest answers it, and whether it is A's -/
def RetBestS (a b : ByteArray) (w : World) (e : Ending) (w' : World) : Prop :=
  ∃ (A : Option Addr) (c : Nat), e = .returned (.tuple #[ckV (cbNum a b) A (cbList a b).length c (cbCode a b), .bool (ckSel a b)]) ∧ OwRc w' w.heap.size w'.heap.size A (cbList a b).length (cbList a b) ∧ Below w.heap.size w w'

set_option maxHeartbeats 8000000 in
set_option maxRecDepth 100000 in
theorem l12Best_any (a b : ByteArray) (w : World) (ha : a.size ≤ maxLen) (hb : b.size ≤ maxLen) (hs : slotB a b = true) :
    Calls Tryz.prog 125 #[slotsV a b] w (RetBestS a b w) := by
  have HSL := Lib.hid hs; clear hs
  have HC1 := Lib.hid (fun W (_ : True) => spec_ckptRead a W ha)
  have HC2 := Lib.hid (fun W (_ : True) => spec_ckptRead b W hb)
  go_enter Tryz.func125, Tryz.ntmps125
  go_wp2_with fail
  have hb0 : Below w.heap.size w ((w.alloc (.cells #[.string a, .string b] 88)).alloc (.cells #[.int .i64 0, .slice none 0 0, .int .i64 0] 175)) := ((Below.refl _ _).alloc (Nat.le_refl _) _).alloc (by simp) _
  have ks := (isBlk_new w 88 [.string a, .string b]).alloc (.cells #[.int .i64 0, .slice none 0 0, .int .i64 0] 175)
  have ko := isBlk_new (w.alloc (.cells #[.string a, .string b] 88)) 175 [.int .i64 0, .slice none 0 0, .int .i64 0]
  rw [size_alloc] at ko
  change IsBlk ((w.alloc (.cells #[.string a, .string b] 88)).alloc (.cells #[.int .i64 0, .slice none 0 0, .int .i64 0] 175)) _ _ _ at ks ko
  have hz : ((w.alloc (.cells #[.string a, .string b] 88)).alloc (.cells #[.int .i64 0, .slice none 0 0, .int .i64 0] 175)).heap.size = w.heap.size + 2 := by simp
  generalize (w.alloc (.cells #[.string a, .string b] 88)).alloc (.cells #[.int .i64 0, .slice none 0 0, .int .i64 0] 175) = W at hb0 ks ko hz ⊢
  have c0 : W.cell? ⟨w.heap.size, 0, none⟩ = some (.string a) := ks.cell rfl
  have c1 : W.cell? ⟨w.heap.size, 1, none⟩ = some (.string b) := ks.cell rfl
  have hl0 := ks.lt
  have HB0 := Lib.hid hb0; have HKO := Lib.hid ko
  clear hb0 ks ko
  go_cut [4, 5] (fun v4 v5 u => ∃ A1 A2 n1 n2 l1 h1 l2 h2 ga gb, v4 = .pointer (some ⟨ga, 0, none⟩) ∧ v5 = .pointer (some ⟨gb, 0, none⟩) ∧ BsD W u a b A1 A2 n1 n2 l1 h1 l2 h2 ga gb)
  case first =>
    rename_i J K hJ hK
    refine wp_region_any (by kernel_rfl) (wpAny_inv (BtInvS (fun s4 s5 s6 s7 s8 s9 s10 s11 => { tmps := #[slotsV a b, .pointer (some ⟨w.heap.size, 0, none⟩), .pointer (some ⟨w.heap.size + 1, 0, none⟩), .bool false, s4, s5, s6, s7, s8, s9, s10, s11, undef, undef, undef, undef, undef, undef, undef, undef, undef, undef, undef, undef, undef, undef, undef, undef, undef, undef, undef, undef, undef, undef, undef], defers := [] }) w W a b) ?sz ?step ?rend _ _ _ _ (by decide) ?start)
    case sz => intro L x u h; exact h.1
    case start =>
      refine ⟨by simp, fun h => ?_, fun h => ?_, _, _, _, _, _, _, _, _, rfl, fun h => ?_, fun h => ?_, fun h => ?_, fun h => ?_, none, none, 0, 0, 0, 0, 0, 0, 0, 0, ?_⟩
      rotate_right
      · simp only [dn_zero]
        exact BsI.start (Below.refl _ W).drew a b _ _ _ _
      all_goals (simp only [dn_zero] at h)
    case step =>
      intro L x u hI i o ho hi hL hd
      obtain ⟨hsz, k8, k9, s4, s5, s6, s7, s8, s9, s10, s11, rfl, e0, e1, e3, e4, A1, A2, n1, n2, l1, h1, l2, h2, ga, gb, hS⟩ := hI
      have hcase : i = 0 ∨ i = 1 ∨ i = 2 ∨ i = 3 ∨ i = 4 ∨ i = 5 ∨ i = 6 ∨ i = 7 ∨ i = 8 ∨ i = 9 := by omega
      rcases hcase with rfl | rfl | rfl | rfl | rfl | rfl | rfl | rfl | rfl | rfl
      · -- operation 0
        refine wpOp_of_list ho (by cases ho; rfl) ?_
        cases ho
        go_wp2_with fail
        refine ⟨by simp [hsz], fun h => (k8 ((h.set).resolve_left (by decide))).imp Dn.stay Dn.stay, fun h => (k9 ((h.set).resolve_left (by decide))).imp Dn.stay Dn.stay, _, _, _, _, _, _, _, _, rfl, fun _ => rfl, fun h => e1 ((h.set).resolve_left (by decide)), fun h => e3 ((h.set).resolve_left (by decide)), fun h => e4 ((h.set).resolve_left (by decide)), A1, A2, n1, n2, l1, h1, l2, h2, ga, gb, ?_⟩
        simp only [dn_not (L := L) (i := 0) (j := 2) (by decide), dn_not (L := L) (i := 0) (j := 5) (by decide), dn_not (L := L) (i := 0) (j := 6) (by decide), dn_not (L := L) (i := 0) (j := 7) (by decide), dn_not (L := L) (i := 0) (j := 8) (by decide), dn_not (L := L) (i := 0) (j := 9) (by decide)]
        exact hS
      · -- operation 1
        refine wpOp_of_list ho (by cases ho; rfl) ?_
        cases ho
        obtain rfl := e0 (hd ⟨0, .data⟩ (by simp) rfl)
        have hc : u.cell? ⟨w.heap.size, 0, none⟩ = some (.string a) := (hS.bel.cell (p := ⟨w.heap.size, 0, none⟩) hl0).trans c0
        go_wp2_with fail
        refine ⟨by simp [hsz], fun h => (k8 ((h.set).resolve_left (by decide))).imp Dn.stay Dn.stay, fun h => (k9 ((h.set).resolve_left (by decide))).imp Dn.stay Dn.stay, _, _, _, _, _, _, _, _, rfl, fun _ => rfl, fun _ => rfl, fun h => e3 ((h.set).resolve_left (by decide)), fun h => e4 ((h.set).resolve_left (by decide)), A1, A2, n1, n2, l1, h1, l2, h2, ga, gb, ?_⟩
        simp only [dn_not (L := L) (i := 1) (j := 2) (by decide), dn_not (L := L) (i := 1) (j := 5) (by decide), dn_not (L := L) (i := 1) (j := 6) (by decide), dn_not (L := L) (i := 1) (j := 7) (by decide), dn_not (L := L) (i := 1) (j := 8) (by decide), dn_not (L := L) (i := 1) (j := 9) (by decide)]
        exact hS
      · -- operation 2
        refine wpOp_of_list ho (by cases ho; rfl) ?_
        cases ho
        obtain rfl := e1 (hd ⟨1, .data⟩ (by simp) rfl)
        have hn8 : ¬ Dn L 8 := fun h => Dn.not hi hL (k8 h).1
        go_wp2_with fail
        refine Calls.mono (HC1.out u (trivial)) ?_
        rintro e w1 ⟨A, ca, rfl, ho, hb⟩
        go_wp2_with fail
        refine ⟨by simp [hsz], fun h => (k8 ((h.set).resolve_left (by decide))).imp Dn.stay Dn.stay, fun h => (k9 ((h.set).resolve_left (by decide))).imp Dn.stay Dn.stay, _, _, _, _, _, _, _, _, rfl, fun h => e0 ((h.set).resolve_left (by decide)), fun _ => rfl, fun h => e3 ((h.set).resolve_left (by decide)), fun h => e4 ((h.set).resolve_left (by decide)), A, A2, ca, n2, u.heap.size, w1.heap.size, l2, h2, ga, gb, ?_⟩
        simp only [dn_not (L := L) (i := 2) (j := 5) (by decide), dn_not (L := L) (i := 2) (j := 6) (by decide), dn_not (L := L) (i := 2) (j := 7) (by decide), dn_not (L := L) (i := 2) (j := 8) (by decide), dn_not (L := L) (i := 2) (j := 9) (by decide), dn_yes (L := L) (i := 2) hi]
        exact hS.call1 hn8 hb ho
      · -- operation 3
        refine wpOp_of_list ho (by cases ho; rfl) ?_
        cases ho
        go_wp2_with fail
        refine ⟨by simp [hsz], fun h => (k8 ((h.set).resolve_left (by decide))).imp Dn.stay Dn.stay, fun h => (k9 ((h.set).resolve_left (by decide))).imp Dn.stay Dn.stay, _, _, _, _, _, _, _, _, rfl, fun h => e0 ((h.set).resolve_left (by decide)), fun h => e1 ((h.set).resolve_left (by decide)), fun _ => rfl, fun h => e4 ((h.set).resolve_left (by decide)), A1, A2, n1, n2, l1, h1, l2, h2, ga, gb, ?_⟩
        simp only [dn_not (L := L) (i := 3) (j := 2) (by decide), dn_not (L := L) (i := 3) (j := 5) (by decide), dn_not (L := L) (i := 3) (j := 6) (by decide), dn_not (L := L) (i := 3) (j := 7) (by decide), dn_not (L := L) (i := 3) (j := 8) (by decide), dn_not (L := L) (i := 3) (j := 9) (by decide)]
        exact hS
      · -- operation 4
        refine wpOp_of_list ho (by cases ho; rfl) ?_
        cases ho
        obtain rfl := e3 (hd ⟨3, .data⟩ (by simp) rfl)
        have hc : u.cell? ⟨w.heap.size, 1, none⟩ = some (.string b) := (hS.bel.cell (p := ⟨w.heap.size, 1, none⟩) hl0).trans c1
        go_wp2_with fail
        refine ⟨by simp [hsz], fun h => (k8 ((h.set).resolve_left (by decide))).imp Dn.stay Dn.stay, fun h => (k9 ((h.set).resolve_left (by decide))).imp Dn.stay Dn.stay, _, _, _, _, _, _, _, _, rfl, fun h => e0 ((h.set).resolve_left (by decide)), fun h => e1 ((h.set).resolve_left (by decide)), fun _ => rfl, fun _ => rfl, A1, A2, n1, n2, l1, h1, l2, h2, ga, gb, ?_⟩
        simp only [dn_not (L := L) (i := 4) (j := 2) (by decide), dn_not (L := L) (i := 4) (j := 5) (by decide), dn_not (L := L) (i := 4) (j := 6) (by decide), dn_not (L := L) (i := 4) (j := 7) (by decide), dn_not (L := L) (i := 4) (j := 8) (by decide), dn_not (L := L) (i := 4) (j := 9) (by decide)]
        exact hS
      · -- operation 5
        refine wpOp_of_list ho (by cases ho; rfl) ?_
        cases ho
        obtain rfl := e4 (hd ⟨4, .data⟩ (by simp) rfl)
        have hn9 : ¬ Dn L 9 := fun h => Dn.not hi hL (k9 h).1
        go_wp2_with fail
        refine Calls.mono (HC2.out u (trivial)) ?_
        rintro e w1 ⟨A, ca, rfl, ho, hb⟩
        go_wp2_with fail
        refine ⟨by simp [hsz], fun h => (k8 ((h.set).resolve_left (by decide))).imp Dn.stay Dn.stay, fun h => (k9 ((h.set).resolve_left (by decide))).imp Dn.stay Dn.stay, _, _, _, _, _, _, _, _, rfl, fun h => e0 ((h.set).resolve_left (by decide)), fun h => e1 ((h.set).resolve_left (by decide)), fun h => e3 ((h.set).resolve_left (by decide)), fun _ => rfl, A1, A, n1, ca, l1, h1, u.heap.size, w1.heap.size, ga, gb, ?_⟩
        simp only [dn_not (L := L) (i := 5) (j := 2) (by decide), dn_not (L := L) (i := 5) (j := 6) (by decide), dn_not (L := L) (i := 5) (j := 7) (by decide), dn_not (L := L) (i := 5) (j := 8) (by decide), dn_not (L := L) (i := 5) (j := 9) (by decide), dn_yes (L := L) (i := 5) hi]
        exact hS.call2 hn9 hb ho
      · -- operation 6
        refine wpOp_of_list ho (by cases ho; rfl) ?_
        cases ho
        have hn8 : ¬ Dn L 8 := fun h => Dn.not hi hL (k8 h).2
        go_wp2_with fail
        refine ⟨by simp [hsz], fun h => (k8 ((h.set).resolve_left (by decide))).imp Dn.stay Dn.stay, fun h => (k9 ((h.set).resolve_left (by decide))).imp Dn.stay Dn.stay, _, _, _, _, _, _, _, _, rfl, fun h => e0 ((h.set).resolve_left (by decide)), fun h => e1 ((h.set).resolve_left (by decide)), fun h => e3 ((h.set).resolve_left (by decide)), fun h => e4 ((h.set).resolve_left (by decide)), A1, A2, n1, n2, l1, h1, l2, h2, u.heap.size, gb, ?_⟩
        simp only [dn_not (L := L) (i := 6) (j := 2) (by decide), dn_not (L := L) (i := 6) (j := 5) (by decide), dn_not (L := L) (i := 6) (j := 7) (by decide), dn_not (L := L) (i := 6) (j := 8) (by decide), dn_not (L := L) (i := 6) (j := 9) (by decide), dn_yes (L := L) (i := 6) hi]
        exact hS.new4 hn8
      · -- operation 7
        refine wpOp_of_list ho (by cases ho; rfl) ?_
        cases ho
        have hn9 : ¬ Dn L 9 := fun h => Dn.not hi hL (k9 h).2
        go_wp2_with fail
        refine ⟨by simp [hsz], fun h => (k8 ((h.set).resolve_left (by decide))).imp Dn.stay Dn.stay, fun h => (k9 ((h.set).resolve_left (by decide))).imp Dn.stay Dn.stay, _, _, _, _, _, _, _, _, rfl, fun h => e0 ((h.set).resolve_left (by decide)), fun h => e1 ((h.set).resolve_left (by decide)), fun h => e3 ((h.set).resolve_left (by decide)), fun h => e4 ((h.set).resolve_left (by decide)), A1, A2, n1, n2, l1, h1, l2, h2, ga, u.heap.size, ?_⟩
        simp only [dn_not (L := L) (i := 7) (j := 2) (by decide), dn_not (L := L) (i := 7) (j := 5) (by decide), dn_not (L := L) (i := 7) (j := 6) (by decide), dn_not (L := L) (i := 7) (j := 8) (by decide), dn_not (L := L) (i := 7) (j := 9) (by decide), dn_yes (L := L) (i := 7) hi]
        exact hS.new5 hn9
      · -- operation 8
        refine wpOp_of_list ho (by cases ho; rfl) ?_
        cases ho
        have d6 : Dn L 6 := hd ⟨6, .data⟩ (by simp) rfl
        have d2 : Dn L 2 := hd ⟨2, .data⟩ (by simp) rfl
        obtain ⟨rfl, hga, -⟩ := hS.box4 d6
        obtain ⟨rfl, -, -, -⟩ := hS.ans1 d2
        have hn8 : ¬ Dn L 8 := Dn.not hi hL
        obtain ⟨p0, p1, p2, f0, f1, f2⟩ := blk3k (hS.z4 d6 hn8)
        go_wp2_with fail
        refine ⟨by simp [hsz], fun _ => ⟨d2.stay, d6.stay⟩, fun h => (k9 ((h.set).resolve_left (by decide))).imp Dn.stay Dn.stay, _, _, _, _, _, _, _, _, rfl, fun h => e0 ((h.set).resolve_left (by decide)), fun h => e1 ((h.set).resolve_left (by decide)), fun h => e3 ((h.set).resolve_left (by decide)), fun h => e4 ((h.set).resolve_left (by decide)), A1, A2, n1, n2, l1, h1, l2, h2, ga, gb, ?_⟩
        simp only [dn_not (L := L) (i := 8) (j := 2) (by decide), dn_not (L := L) (i := 8) (j := 5) (by decide), dn_not (L := L) (i := 8) (j := 6) (by decide), dn_not (L := L) (i := 8) (j := 7) (by decide), dn_not (L := L) (i := 8) (j := 9) (by decide), dn_yes (L := L) (i := 8) hi]
        exact hS.put4 d6 hn8
      · -- operation 9
        refine wpOp_of_list ho (by cases ho; rfl) ?_
        cases ho
        have d7 : Dn L 7 := hd ⟨7, .data⟩ (by simp) rfl
        have d5 : Dn L 5 := hd ⟨5, .data⟩ (by simp) rfl
        obtain ⟨rfl, hga, -⟩ := hS.box5 d7
        obtain ⟨rfl, -, -, -⟩ := hS.ans2 d5
        have hn9 : ¬ Dn L 9 := Dn.not hi hL
        obtain ⟨p0, p1, p2, f0, f1, f2⟩ := blk3k (hS.z5 d7 hn9)
        go_wp2_with fail
        refine ⟨by simp [hsz], fun h => (k8 ((h.set).resolve_left (by decide))).imp Dn.stay Dn.stay, fun _ => ⟨d5.stay, d7.stay⟩, _, _, _, _, _, _, _, _, rfl, fun h => e0 ((h.set).resolve_left (by decide)), fun h => e1 ((h.set).resolve_left (by decide)), fun h => e3 ((h.set).resolve_left (by decide)), fun h => e4 ((h.set).resolve_left (by decide)), A1, A2, n1, n2, l1, h1, l2, h2, ga, gb, ?_⟩
        simp only [dn_not (L := L) (i := 9) (j := 2) (by decide), dn_not (L := L) (i := 9) (j := 5) (by decide), dn_not (L := L) (i := 9) (j := 6) (by decide), dn_not (L := L) (i := 9) (j := 7) (by decide), dn_not (L := L) (i := 9) (j := 8) (by decide), dn_yes (L := L) (i := 9) hi]
        exact hS.put5 d7 hn9
    case rend =>
      intro L x u hI hr
      obtain ⟨hsz, -, -, s4, s5, s6, s7, s8, s9, s10, s11, rfl, -, -, -, -, A1, A2, n1, n2, l1, h1, l2, h2, ga, gb, hS⟩ := hI
      have d0 : Dn L 0 := ready_nil hr hsz (i := 0) rfl (by simp)
      have d1 : Dn L 1 := ready_nil hr hsz (i := 1) rfl (by simpa using d0)
      have d2 : Dn L 2 := ready_nil hr hsz (i := 2) rfl (by simpa using d1)
      have d3 : Dn L 3 := ready_nil hr hsz (i := 3) rfl (by simp)
      have d4 : Dn L 4 := ready_nil hr hsz (i := 4) rfl (by simpa using d3)
      have d5 : Dn L 5 := ready_nil hr hsz (i := 5) rfl (by simp; exact ⟨d4, d2⟩)
      have d6 : Dn L 6 := ready_nil hr hsz (i := 6) rfl (by simp)
      have d7 : Dn L 7 := ready_nil hr hsz (i := 7) rfl (by simp)
      have d8 : Dn L 8 := ready_nil hr hsz (i := 8) rfl (by simp [d0, d1, d2, d3, d4, d5, d6, d7])
      have d9 : Dn L 9 := ready_nil hr hsz (i := 9) rfl (by simp [d0, d1, d2, d3, d4, d5, d6, d7, d8])
      obtain ⟨rfl, -, -⟩ := hS.box4 d6
      obtain ⟨rfl, -, -⟩ := hS.box5 d7
      refine Met.intro (hK _ _ (Met.intro (hJ _ _ ?_)))
      repeat apply Exists.intro
      refine ⟨⟨A1, A2, n1, n2, l1, h1, l2, h2, ga, gb, rfl, rfl, ?_⟩, rfl⟩
      exact hS.all d2 d5 d6 d7 d8 d9
  case rest =>
    obtain ⟨A1, A2, n1, n2, l1, h1, l2, h2, ga, gb, rfl, rfl, hD⟩ := hcut
    obtain ⟨r0, r1, r2, q0, q1, q2⟩ := blk3k (HKO.out.below hD.bel HKO.out.lt)
    obtain ⟨a0, a1, a2, -, -, -⟩ := blk3k hD.b1
    obtain ⟨b0, b1, b2, -, -, -⟩ := blk3k hD.b2
    have HD := Lib.hid hD
    have HBW : Hid (Below w.heap.size w wc) := HB0.out.trans (hD.bel.mono (by omega))
    have hg1 : ¬ ga = w.heap.size + 1 := by have := hD.g1; omega
    have hg2 : ¬ gb = w.heap.size + 1 := by have := hD.g2; omega
    have hg1' : ¬ w.heap.size + 1 = ga := by have := hD.g1; omega
    have hg2' : ¬ w.heap.size + 1 = gb := by have := hD.g2; omega
    clear hD c0 c1
    by_cases hA : ckCode a = 0
    · by_cases hB : ckCode b = 0
      · by_cases hle : ckRNum b ≤ ckRNum a
        · skip
          have HF : Hid (ckTxt a b = a ∧ ckSel a b = true) := ckPick_a hA (.inr hle)
          have HCB : Hid (cbCode a b = 0 ∧ cbNum a b = ckRNum a ∧ cbList a b = ckList a) := by have h := cb_ok HSL.out (by rw [HF.out.1]; assumption); rw [HF.out.1] at h; exact h
          have qa : (ckCode a == 0) = true := by simpa using hA
          have qb : (ckCode b == 0) = true := by simpa using hB
          have qb' : (ckCode b != 0) = false := by simpa using hB
          go_wp2
          refine bodyPost_ret (v := .tuple #[ckV (ckRNum a) A1 (ckList a).length n1 0, .bool true]) (by simp [results, Tryz.results125, go_sem, r0, r1, r2]) rfl ?_
          unfold RetBestS
          rw [HCB.out.1, HCB.out.2.1, HCB.out.2.2, HF.out.2]
          exact ⟨A1, n1, rfl, (HD.out.o1.same fun k h1 h2 => set3_other _ _ _ (by have := HD.out.p1.1; omega)).mono (by have := HD.out.p1.1; omega) (by have := HD.out.p1.2; simp [World.setCell]; omega), set3_bel HBW.out (by omega) _ _ _⟩
        · skip
          have HF : Hid (ckTxt a b = b ∧ ckSel a b = false) := ckPick_b (fun h => h.2.elim (fun h' => h' hB) hle) hB
          have HCB : Hid (cbCode a b = 0 ∧ cbNum a b = ckRNum b ∧ cbList a b = ckList b) := by have h := cb_ok HSL.out (by rw [HF.out.1]; assumption); rw [HF.out.1] at h; exact h
          have qa : (ckCode a == 0) = true := by simpa using hA
          have qb : (ckCode b == 0) = true := by simpa using hB
          have qb' : (ckCode b != 0) = false := by simpa using hB
          have hle' : ckRNum a < ckRNum b := by omega
          go_wp2
          refine bodyPost_ret (v := .tuple #[ckV (ckRNum b) A2 (ckList b).length n2 0, .bool false]) (by simp [results, Tryz.results125, go_sem, r0, r1, r2]) rfl ?_
          unfold RetBestS
          rw [HCB.out.1, HCB.out.2.1, HCB.out.2.2, HF.out.2]
          exact ⟨A2, n2, rfl, (HD.out.o2.same fun k h1 h2 => set3_other _ _ _ (by have := HD.out.p2.1; omega)).mono (by have := HD.out.p2.1; omega) (by have := HD.out.p2.2; simp [World.setCell]; omega), set3_bel HBW.out (by omega) _ _ _⟩
      · skip
        have HF : Hid (ckTxt a b = a ∧ ckSel a b = true) := ckPick_a hA (.inl hB)
        have HCB : Hid (cbCode a b = 0 ∧ cbNum a b = ckRNum a ∧ cbList a b = ckList a) := by have h := cb_ok HSL.out (by rw [HF.out.1]; assumption); rw [HF.out.1] at h; exact h
        have qa : (ckCode a == 0) = true := by simpa using hA
        have qb : (ckCode b == 0) = false := by simpa using hB
        have qb' : (ckCode b != 0) = true := by simpa using hB
        go_wp2
        refine bodyPost_ret (v := .tuple #[ckV (ckRNum a) A1 (ckList a).length n1 0, .bool true]) (by simp [results, Tryz.results125, go_sem, r0, r1, r2]) rfl ?_
        unfold RetBestS
        rw [HCB.out.1, HCB.out.2.1, HCB.out.2.2, HF.out.2]
        exact ⟨A1, n1, rfl, (HD.out.o1.same fun k h1 h2 => set3_other _ _ _ (by have := HD.out.p1.1; omega)).mono (by have := HD.out.p1.1; omega) (by have := HD.out.p1.2; simp [World.setCell]; omega), set3_bel HBW.out (by omega) _ _ _⟩
    · by_cases hB : ckCode b = 0
      · skip
        have HF : Hid (ckTxt a b = b ∧ ckSel a b = false) := ckPick_b (fun h => hA h.1) hB
        have HCB : Hid (cbCode a b = 0 ∧ cbNum a b = ckRNum b ∧ cbList a b = ckList b) := by have h := cb_ok HSL.out (by rw [HF.out.1]; assumption); rw [HF.out.1] at h; exact h
        have qa : (ckCode a == 0) = false := by simpa using hA
        have qb : (ckCode b == 0) = true := by simpa using hB
        have qb' : (ckCode b != 0) = false := by simpa using hB
        go_wp2
        refine bodyPost_ret (v := .tuple #[ckV (ckRNum b) A2 (ckList b).length n2 0, .bool false]) (by simp [results, Tryz.results125, go_sem, r0, r1, r2]) rfl ?_
        unfold RetBestS
        rw [HCB.out.1, HCB.out.2.1, HCB.out.2.2, HF.out.2]
        exact ⟨A2, n2, rfl, (HD.out.o2.same fun k h1 h2 => set3_other _ _ _ (by have := HD.out.p2.1; omega)).mono (by have := HD.out.p2.1; omega) (by have := HD.out.p2.2; simp [World.setCell]; omega), set3_bel HBW.out (by omega) _ _ _⟩
      · skip
        have HF : Hid (ckCode (ckTxt a b) ≠ 0 ∧ ckSel a b = false) := ckPick_no (fun h => hA h.1) hB
        have HCB : Hid (cbCode a b = 6 ∧ cbNum a b = 0 ∧ cbList a b = []) := cb_none HSL.out HF.out.1
        have qa : (ckCode a == 0) = false := by simpa using hA
        have qb : (ckCode b == 0) = false := by simpa using hB
        have qb' : (ckCode b != 0) = true := by simpa using hB
        go_wp2
        refine bodyPost_ret (v := .tuple #[ckV 0 none 0 0 6, .bool false]) (by simp [results, Tryz.results125, go_sem, r0, r1, r2]) rfl ?_
        unfold RetBestS
        rw [HCB.out.1, HCB.out.2.1, HCB.out.2.2, HF.out.2]
        exact ⟨none, 0, rfl, ow_nilR _ _ _ _, set3_bel HBW.out (by omega) _ _ _⟩

end Go.Proofs.YtloaeglmngcenaaGreatDoor

namespace Go.Proofs.YtloaeglmngcenaaGreatDoor
open Go.RowKit
open Bt (Rc)

theorem bel_thru {w u v : World} (h : Below w.heap.size w u) (hb : Below u.heap.size u v) : Below w.heap.size w v := h.trans (hb.mono h.size)
theorem ret_ckNil {w w' : World} {num code c : Int} {Y : List Rc} (h1 : code = c) (h2 : num = 0) (h3 : Y = []) (hb : Below w.heap.size w w') : RetCk w num Y code (.returned (ckV 0 none 0 0 c)) w' := by
  subst h1 h2 h3; exact ⟨none, 0, rfl, ow_nilR _ _ _ _, hb⟩
theorem ret_ckNilC {w w' : World} {num code c : Int} {Y : List Rc} (h1 : code = c) (h2 : num = 0) (h3 : Y = []) (hb : Below w.heap.size w w') : RetCkC w num Y code (.returned (ckV 0 none 0 0 c)) w' := by
  subst h1 h2 h3; exact ⟨none, 0, rfl, ow_nilR _ _ _ _, hb⟩
theorem box_belK (w : World) (o : Obj) : Below w.heap.size w (w.alloc o) := (Below.refl _ _).alloc (Nat.le_refl _) _
theorem slots_boxes (w : World) (a b : ByteArray) : ∃ W, W = (w.alloc (.cells #[.string a, .string b] 88)).alloc (.cells #[.int .i64 0, .slice none 0 0, .int .i64 0] 175) ∧ Below w.heap.size w W ∧ IsBlk W w.heap.size 88 [.string a, .string b] ∧ IsBlk W (w.heap.size + 1) 175 zK ∧ W.heap.size = w.heap.size + 2 := by
  have ks := (isBlk_new w 88 [.string a, .string b]).alloc (.cells #[.int .i64 0, .slice none 0 0, .int .i64 0] 175)
  have ko := isBlk_new (w.alloc (.cells #[.string a, .string b] 88)) 175 [.int .i64 0, .slice none 0 0, .int .i64 0]
  rw [size_alloc] at ko
  exact ⟨_, rfl, ((Below.refl _ _).alloc (Nat.le_refl _) _).alloc (by simp) _, ks, ko, by simp⟩

set_option maxHeartbeats 4000000 in
set_option maxRecDepth 100000 in
theorem impl_ckptBestC (a b : ByteArray) (w : World) (ha : a.size ≤ maxLen) (hb : b.size ≤ maxLen) (hg : ErrType w) :
    Calls Tryz.prog 140 #[slotsV a b] w (RetCkC w (cbNum a b) (cbList a b) (cbCode a b)) := by
  have HG := Lib.hid hg; clear hg
  obtain ⟨W, hW, hb0, ks, ko, hz⟩ := slots_boxes w a b
  go_enter Tryz.func140, Tryz.ntmps140
  go_wp2_with fail
  rw [← hW]
  clear hW
  refine (impl_slotsRight a b W ha hb).mono ?_
  rintro e w1 ⟨rfl, hb1⟩
  have HB1 := Lib.hid (bel_thru hb0 hb1)
  have HKS := Lib.hid (ks.below hb1 ks.lt); have HKO := Lib.hid (ko.below hb1 ko.lt)
  have hz1 := hb1.size
  clear hb0 hb1 ks ko
  have c0 : w1.cell? ⟨w.heap.size, 0, none⟩ = some (.string a) := HKS.out.cell rfl
  have c1 : w1.cell? ⟨w.heap.size, 1, none⟩ = some (.string b) := HKS.out.cell rfl
  cases hs : slotB a b with
  | false =>
    have HC := Lib.hid (cb_form hs)
    obtain ⟨r0, r1, r2, q0, q1, q2⟩ := blk3k HKO.out
    go_wp2
    refine bodyPost_ret (v := ckV 0 none 0 0 1) (by simp [results, Tryz.results140, go_sem, r0, r1, r2]) rfl ?_
    exact ret_ckNilC HC.out.1 HC.out.2.1 HC.out.2.2 (set3_bel HB1.out (by omega) _ _ _)
  | true =>
    have HS := Lib.hid hs
    go_wp2_with fail
    refine (bestOf_anyC a b w1 ha hb (HG.out.below HB1.out)).mono ?_
    rintro e w2 ⟨A, d, rfl, ho, hb2⟩
    obtain ⟨c, hc⟩ : ∃ c, c = (ckList (ckTxt a b)).length + d := ⟨_, rfl⟩
    have HCD := Lib.hid hc
    rw [← hc]
    clear hc
    have HB2 := Lib.hid (bel_thru HB1.out hb2)
    have HO := Lib.hid ho
    have hz2 := hb2.size
    have HKO2 := Lib.hid (HKO.out.below hb2 HKO.out.lt)
    clear hb2 ho
    have HN := Lib.hid (fun h => cb_none (a := a) (b := b) hs h); have HY := Lib.hid (fun h => cb_ok (a := a) (b := b) hs h)
    generalize ckTxt a b = T at *
    by_cases hC : ckCode T = 0
    · have HC := Lib.hid (HY.out hC)
      rw [hC]
      have k3 := isBlk_new w2 175 [.int .i64 (ckRNum T), .slice A (ckList T).length c, .int .i64 0]
      have hb3 := box_belK w2 (.cells #[.int .i64 (ckRNum T), .slice A (ckList T).length c, .int .i64 0] 175)
      have hz3 := size_alloc w2 (.cells #[.int .i64 (ckRNum T), .slice A (ckList T).length c, .int .i64 0] 175)
      change IsBlk (w2.alloc (.cells #[.int .i64 (ckRNum T), .slice A (ckList T).length c, .int .i64 0] 175)) _ _ _ at k3
      clear HN HY
      obtain ⟨p0, p1, p2, -, -, -⟩ := blk3k k3
      obtain ⟨r0, r1, r2, q0, q1, q2⟩ := blk3k (HKO2.out.below hb3 HKO2.out.lt)
      have HO3 := Lib.hid (HO.out.below hb3 (Nat.le_refl _))
      have HB3 := Lib.hid (bel_thru HB2.out hb3)
      clear hb3 k3
      go_wp2_with fail
      generalize w2.alloc (.cells #[.int .i64 (ckRNum T), .slice A (ckList T).length c, .int .i64 0] 175) = w3 at *
      refine bodyPost_ret (v := ckV (ckRNum T) A (ckList T).length c 0) (by simp [results, Tryz.results140, go_sem, r0, r1, r2]) rfl ?_
      unfold RetCkC
      rw [HC.out.1, HC.out.2.1, HC.out.2.2]
      exact ⟨A, d, by rw [HCD.out], (HO3.out.same fun k h1 h2 => set3_other _ _ _ (by omega)).mono (by omega) (by simp [World.setCell]; omega), set3_bel HB3.out (by omega) _ _ _⟩
    · have HC := Lib.hid (HN.out hC)
      have hq : (ckCode T != 0) = true := by simpa using hC
      have k3 := isBlk_new w2 175 [.int .i64 (ckRNum T), .slice A (ckList T).length c, .int .i64 (ckCode T)]
      have hb3 := box_belK w2 (.cells #[.int .i64 (ckRNum T), .slice A (ckList T).length c, .int .i64 (ckCode T)] 175)
      change IsBlk (w2.alloc (.cells #[.int .i64 (ckRNum T), .slice A (ckList T).length c, .int .i64 (ckCode T)] 175)) _ _ _ at k3
      clear HN HY
      obtain ⟨p0, p1, p2, -, -, -⟩ := blk3k k3
      obtain ⟨r0, r1, r2, q0, q1, q2⟩ := blk3k (HKO2.out.below hb3 HKO2.out.lt)
      have HB3 := Lib.hid (bel_thru HB2.out hb3)
      clear hb3 k3
      go_wp2_with fail
      generalize w2.alloc (.cells #[.int .i64 (ckRNum T), .slice A (ckList T).length c, .int .i64 (ckCode T)] 175) = w3 at *
      refine bodyPost_ret (v := ckV 0 none 0 0 6) (by simp [results, Tryz.results140, go_sem, r0, r1, r2]) rfl ?_
      exact ret_ckNilC HC.out.1 HC.out.2.1 HC.out.2.2 (set3_bel HB3.out (by omega) _ _ _)
theorem impl_ckptBest (a b : ByteArray) (w : World) (ha : a.size ≤ maxLen) (hb : b.size ≤ maxLen) (hg : ErrType w) :
    Calls Tryz.prog 140 #[slotsV a b] w (RetCk w (cbNum a b) (cbList a b) (cbCode a b)) :=
  (impl_ckptBestC a b w ha hb hg).mono fun _ _ h => h.weak
end Go.Proofs.YtloaeglmngcenaaGreatDoor

namespace Go.Proofs.YtloaeglmngcenaaGreatDoor
open Go.RowKit
open Bt (Rc)

theorem assemble_two (L1 L2 : List UInt8) (h : L1.length + L2.length ≤ 1000000) (W : World) : Calls Tryz.prog 129 #[.slice (some ⟨W.heap.size, 0, none⟩) 2 2] (W.alloc (.cells #[strV L1, strV L2] 9)) fun e w' => e = .returned (strV (L1 ++ L2)) ∧ Below W.heap.size W w' := by
  have h := assemble_any [bstr L1, bstr L2] W.heap.size 0 2 _ (parts_two W 9 _ _) (by simp) (by simp) (by rw [flat_two, bstr_list, bstr_list, List.length_append]; omega)
  rw [flat_two, bstr_list, bstr_list] at h
  exact h.mono fun e w' ⟨he, hb⟩ => ⟨he, ((Below.refl _ _).alloc (Nat.le_refl _) _).trans (hb.mono (by simp))⟩

set_option maxHeartbeats 4000000 in
set_option maxRecDepth 100000 in
theorem impl_ckptBytes (num : Int) (A : Option Addr) (n ca : Nat) (X : List Rc) (w : World) (hS : SmallR X) (hA : RdRc w w.heap.size A n X) :
    Calls Tryz.prog 134 #[.int .i64 num, .agg #[.slice A n ca]] w fun e w' => e = .returned (strV (ckBytes num X)) ∧ Below w.heap.size w w' := by
  have HL : Hid (X.length = n) := hA.1
  have HA := Lib.hid hA; have HS := Lib.hid hS; clear hA hS
  generalize hD : ckBytes num X = D
  have HD := Lib.hid hD; clear hD
  go_enter Tryz.func134, Tryz.ntmps134
  go_wp2_with fail
  have hb0 : Below w.heap.size w (w.alloc (.cells #[.slice A n ca] 29)) := (Below.refl _ _).alloc (Nat.le_refl _) _
  have k0 := isBlk_new w 29 [.slice A n ca]
  change IsBlk (w.alloc (.cells #[.slice A n ca] 29)) _ _ _ at k0
  generalize w.alloc (.cells #[.slice A n ca] 29) = W at hb0 k0 ⊢
  refine (ckptRight_any num A n ca X W HS.out (HA.out.next hb0)).mono ?_
  rintro e w1 ⟨rfl, hb1⟩
  have HB1 := Lib.hid (hb0.trans (hb1.mono hb0.size))
  have HK1 := Lib.hid (k0.below hb1 k0.lt)
  clear hb0 hb1 k0
  by_cases hok : ckB num X = true
  case neg =>
    have hok' : ckB num X = false := by simpa using hok
    have HF : Hid (D = []) := HD.out.symm.trans (ckBytes_no hok')
    rw [hok']
    clear hok hok'
    go_wp2
    go_ret
    exact ⟨by rw [HF.out]; rfl, HB1.out⟩
  have HDD : Hid (D = Bt.sealed (bstr (ckTo num X.length X))) := HD.out.symm.trans (ckBytes_ok hok)
  have HOK := Lib.hid (ckB_iff.1 hok).2
  have hnr := (ckB_iff.1 hok).1
  have hn : n ≤ 48 := by rw [← HL.out]; exact hRight_len HOK.out
  have HP1 := Lib.hid (fun W => impl_putNum_any num W (by omega) (by omega))
  have HP2 := Lib.hid (fun W => impl_putNum_any (n : Int) W (by omega) (by omega))
  have l1 := (Bt.putNum_length num).2; have l2 := (Bt.putNum_length (n : Int)).2
  have HE0 : Hid (Bt.putNum num ++ Bt.putNum (n : Int) = ckTo num n (X.take 0)) := by show _ = _; rw [List.take_zero, ckTo_nil]
  have HAS := Lib.hid (fun W => assemble_two (Bt.putNum num) (Bt.putNum (n : Int)) (by omega) W)
  rw [HE0.out] at HAS
  generalize Bt.putNum num = L1 at HP1 HAS
  generalize Bt.putNum (n : Int) = L2 at HP2 HAS
  rw [hok]
  have d0 : w1.cell? ⟨w.heap.size, 0, none⟩ = some (.slice A n ca) := HK1.out.cell rfl
  have hgl := HK1.out.lt
  clear hok hnr l1 l2 HE0
  go_wp2_with fail
  go_cut [5] (fun v5 wx => v5 = strV (ckTo num n (X.take 0)) ∧ wx.cell? ⟨w.heap.size, 0, none⟩ = some (.slice A n ca) ∧ Below w.heap.size w wx)
  case first =>
    go_region_held3 (fun w' => w'.cell? ⟨w.heap.size, 0, none⟩ = some (.slice A n ca))
      (first | exact d0 | exact hs1 | exact hs2 | exact hs3 | go_keep)
      (first
        | (go_at_call 154
           with_reducible refine Calls.mono (HP1.out _) ?_
           rintro e wa ⟨rfl, hba⟩
           have hs1 : wa.cell? ⟨w.heap.size, 0, none⟩ = some (.slice A n ca) := (hba.cell (p := ⟨w.heap.size, 0, none⟩) hgl).trans d0
           have HBa : Hid (Below w.heap.size w wa) := HB1.out.drew.trans (hba.mono HB1.out.size)
           have hgla : w.heap.size < wa.heap.size := Nat.lt_of_lt_of_le hgl hba.size
           clear hba)
        | (go_at_call 154
           with_reducible refine Calls.mono (HP2.out _) ?_
           rintro e wb ⟨rfl, hbb⟩
           have hs2 : wb.cell? ⟨w.heap.size, 0, none⟩ = some (.slice A n ca) := (hbb.cell (p := ⟨w.heap.size, 0, none⟩) hgla).trans hs1
           have HBb : Hid (Below w.heap.size w wb) := HBa.out.trans (hbb.mono HBa.out.size)
           have hglb : w.heap.size < wb.heap.size := Nat.lt_of_lt_of_le hgla hbb.size
           clear hbb)
        | (go_at_call 129
           with_reducible refine Calls.mono (HAS.out _) ?_
           rintro e wd ⟨rfl, hbd⟩
           have hs3 : wd.cell? ⟨w.heap.size, 0, none⟩ = some (.slice A n ca) := (hbd.cell (p := ⟨w.heap.size, 0, none⟩) hglb).trans hs2
           have HBd : Hid (Below w.heap.size w wd) := HBb.out.trans (hbd.mono HBb.out.size)
           clear hbd))
    all_goals (go_wp2_with fail; go_meet)
    all_goals exact ⟨rfl, hs3, HBd.out⟩
  case rest =>
    obtain ⟨rfl, hx, hbc⟩ := hcut
    have HBC := Lib.hid hbc
    clear d0 hgl HP1 HP2 HAS hbc
    go_wp2
    clear hx
    go_loopw [5, 23] (fun t i wr => ∃ (k : Nat), k ≤ n ∧ i = .int .i64 (k : Nat) ∧ t = strV (ckTo num n (X.take k)) ∧ Below w.heap.size w wr) (fun _ i wr => n - (intOf i).toNat)
    case atStart => exact ⟨0, by omega, rfl, rfl, HBC.out⟩
    case round =>
      obtain ⟨k, hk, rfl, rfl, hbel⟩ := hrel
      have HW := Lib.hid hbel
      by_cases hlt : k < n
      · obtain ⟨g, off, rfl, hg, hc0, hc1, hc2, hc3, hc4, hc5⟩ := (HA.out.below hbel).at hlt
        have hrok := (hRight_at HOK.out (k := k) (by have := HL.out; omega)).1
        have HT := Lib.hid (ck_take (X := X) (k := k) (by have := HL.out; omega))
        have hel := ckTo_take_len HOK.out num n k (by have := HL.out; omega)
        clear hbel
        generalize X.getD k Rc.zero = r at hc0 hc1 hc2 hc3 hc4 hc5 hrok HT
        have hds : r.d.size ≤ maxLen := by have := hrok.2.2.2.2.2.2.2.2.2.2.1; unfold maxLen; omega
        have HZ : Hid (ckTo num n (X.take (k + 1)) = ckTo num n (X.take k) ++ Bt.putText (bstr r.bytes)) := by show _ = _; rw [HT.out, ckTo_snoc]
        have hone := ck_one hrok
        have hbz := Bt.Rc.bytes_short hrok
        have HRB := Lib.hid (fun W => impl_recBytes_any r W hds)
        have HPT := Lib.hid (fun W => impl_putText_any (bstr r.bytes) W (by rw [bstr_size]; unfold maxLen; omega))
        have HAS := Lib.hid (fun W => assemble_two (ckTo num n (X.take k)) (Bt.putText (bstr r.bytes)) (by omega) W)
        rw [← HZ.out] at HAS
        generalize ckTo num n (X.take k) = E at *
        generalize Bt.putText (bstr r.bytes) = PT at HPT HAS
        generalize r.bytes = RB at HRB HPT
        obtain ⟨rk, rs, rq, rt, ro, rd⟩ := r
        simp only at hc0 hc1 hc2 hc3 hc4 hc5
        clear hrok hds hone hbz HZ HT hel
        go_wp2_with fail
        refine (HRB.out _).mono ?_
        rintro e w3 ⟨rfl, hb3⟩
        have HB3 : Hid (Below w.heap.size w w3) := (HW.out.alloc HW.out.size _).trans (hb3.mono (by simp; have := HW.out.size; omega))
        clear hb3
        go_wp2_with fail
        refine (HPT.out _).mono ?_
        rintro e w4 ⟨rfl, hb4⟩
        have HB4 : Hid (Below w.heap.size w w4) := HB3.out.trans (hb4.mono HB3.out.size)
        clear hb4
        go_wp2_with fail
        refine (HAS.out _).mono ?_
        rintro e w5 ⟨rfl, hb5⟩
        have HB5 : Hid (Below w.heap.size w w5) := HB4.out.trans (hb5.mono HB4.out.size)
        clear hb5
        go_wp2
        go_roundw
        case rel => exact ⟨k + 1, by omega, by go_num, rfl, HB5.out⟩
        case measure => simp [intOf]; omega
      · obtain rfl : k = n := by omega
        have e : X.take k = X := by rw [← HL.out]; exact List.take_length
        have HE : Hid (ckTo num k (X.take k) = ckTo num X.length X) := by show _ = _; rw [e, HL.out]
        have hbl := ckTo_len (num := num) HOK.out
        rw [HE.out]
        clear hbel e
        go_wp2_with fail
        refine (impl_seal_any _ _ (by rw [bstr_size]; unfold maxLen; omega)).mono ?_
        rintro e w5 ⟨rfl, hb5⟩
        have HB5 := Lib.hid (HW.out.trans (hb5.mono HW.out.size))
        clear hb5
        go_wp2
        go_ret
        exact ⟨by rw [HDD.out]; rfl, HB5.out⟩
end Go.Proofs.YtloaeglmngcenaaGreatDoor
