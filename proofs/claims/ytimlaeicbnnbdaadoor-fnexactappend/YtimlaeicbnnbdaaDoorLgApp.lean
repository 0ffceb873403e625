/-
  Append and Torn, of the program and of the model.
-/
import Derived.Test.YtimlaeicbnnbdaaDoorChecked
import Derived.Test.YtimlaeicbnnbdaaDoorLgProg
import Derived.Test.YtimlaeicbnnbdaaDoorRcBytes
import Derived.Test.YtimlaeicbnnbdaaDoorRcBack
import Derived.Deep.RegionHeld3
import Derived.Deep.DeepCutAuto
import Derived.Deep.CutBlock
import Derived.IntWalk
namespace Go.Proofs.YtimlaeicbnnbdaaDoor
open Go.RowKit
open Bt (Rc)

/-- a box with a chip, made since u -/
structure NdBox (u w : World) (b lo hi : Nat) (A : Option Addr) (c : Nat) (Y : List Bk) : Prop where
  bel : Below u.heap.size u w
  blk : IsBlk w b 30 [.slice A Y.length c]
  own : OwNd w lo hi A Y.length Y
  at_b : u.heap.size ≤ b
  at_lo : u.heap.size ≤ lo
  at_hi : hi ≤ w.heap.size
/-- the box was there ahead of the answer -/
theorem nd_first {u w4 w5 : World} {b : Nat} {A : Option Addr} {c : Nat} {Y : List Bk} (hu : Below u.heap.size u w4) (hb : u.heap.size ≤ b) (hk : IsBlk w4 b 30 [.slice none 0 0])
    (ho : OwNd w5 w4.heap.size w5.heap.size A Y.length Y) (h45 : Below w4.heap.size w4 w5) :
    NdBox u (w5.setCell ⟨b, 0, none⟩ (.slice A Y.length c)) b w4.heap.size w5.heap.size A c Y :=
  ⟨(hu.trans (h45.mono hu.size)).setCell hb _, (hk.below h45 hk.lt).set _, ho.same fun k h1 _ => by have := hk.lt; rw [Below.heap_setCell _ _ _ _ (by dsimp only; omega)], hb, hu.size, by simp [World.setCell]⟩
/-- the box was made behind the answer -/
theorem nd_last {u w4 w5 : World} {A : Option Addr} {c : Nat} {Y : List Bk} (hu : Below u.heap.size u w4)
    (ho : OwNd w5 w4.heap.size w5.heap.size A Y.length Y) (h45 : Below w4.heap.size w4 w5) :
    NdBox u (w5.alloc (.cells #[.slice A Y.length c] 30)) w5.heap.size w4.heap.size w5.heap.size A c Y :=
  ⟨(hu.trans (h45.mono hu.size)).alloc (Nat.le_trans hu.size h45.size) _, isBlk_new w5 30 [.slice A Y.length c], ho.below ((Below.refl _ _).alloc (Nat.le_refl _) _) (Nat.le_refl _), Nat.le_trans hu.size h45.size, hu.size, by simp⟩
/-- the cells of the two arguments, in every later world -/
theorem app_keep {u w' : World} {b0 b1 : Nat} {e0 e1 : TypeId} {A : Option Addr} {n c : Nat} {r : Rc} (h0 : IsBlk u b0 e0 [.slice A n c]) (h1 : IsBlk u b1 e1 (recC r)) (hb : Below u.heap.size u w') :
    w'.cell? ⟨b0, 0, none⟩ = some (.slice A n c) ∧ w'.cell? ⟨b1, 0, none⟩ = some (.int .i64 r.k) ∧ w'.cell? ⟨b1, 1, none⟩ = some (.int .i64 r.s) ∧ w'.cell? ⟨b1, 2, none⟩ = some (.int .i64 r.q) ∧ w'.cell? ⟨b1, 3, none⟩ = some (.int .i64 r.t) ∧
      w'.cell? ⟨b1, 4, none⟩ = some (.int .i64 r.o) ∧ w'.cell? ⟨b1, 5, none⟩ = some (.string r.d) ∧ Hid (Below u.heap.size u w') := by
  obtain ⟨x0, x1, x2, x3, x4, x5⟩ := rcCells (h1.below hb h1.lt)
  exact ⟨(h0.below hb h0.lt).cell rfl, x0, x1, x2, x3, x4, x5, hb⟩
theorem app_of {u w' : World} {b0 b1 : Nat} {A : Option Addr} {n c : Nat} {r : Rc} (h : w'.cell? ⟨b0, 0, none⟩ = some (.slice A n c) ∧ w'.cell? ⟨b1, 0, none⟩ = some (.int .i64 r.k) ∧ w'.cell? ⟨b1, 1, none⟩ = some (.int .i64 r.s) ∧ w'.cell? ⟨b1, 2, none⟩ = some (.int .i64 r.q) ∧ w'.cell? ⟨b1, 3, none⟩ = some (.int .i64 r.t) ∧
      w'.cell? ⟨b1, 4, none⟩ = some (.int .i64 r.o) ∧ w'.cell? ⟨b1, 5, none⟩ = some (.string r.d) ∧ Hid (Below u.heap.size u w')) : Below u.heap.size u w' := h.2.2.2.2.2.2.2.out

theorem app_cells {w' : World} {b0 b1 : Nat} {e0 e1 : TypeId} {A : Option Addr} {n c : Nat} {r : Rc} (h0 : IsBlk w' b0 e0 [.slice A n c]) (h1 : IsBlk w' b1 e1 (recC r)) :
    w'.cell? ⟨b0, 0, none⟩ = some (.slice A n c) ∧ w'.cell? ⟨b1, 0, none⟩ = some (.int .i64 r.k) ∧ w'.cell? ⟨b1, 1, none⟩ = some (.int .i64 r.s) ∧ w'.cell? ⟨b1, 2, none⟩ = some (.int .i64 r.q) ∧ w'.cell? ⟨b1, 3, none⟩ = some (.int .i64 r.t) ∧
      w'.cell? ⟨b1, 4, none⟩ = some (.int .i64 r.o) ∧ w'.cell? ⟨b1, 5, none⟩ = some (.string r.d) := by
  obtain ⟨x0, x1, x2, x3, x4, x5⟩ := rcCells h1
  exact ⟨h0.cell rfl, x0, x1, x2, x3, x4, x5⟩
theorem torn_of {u w' : World} {b0 : Nat} {A : Option Addr} {n c : Nat} (h : w'.cell? ⟨b0, 0, none⟩ = some (.slice A n c) ∧ Hid (Below u.heap.size u w')) : Below u.heap.size u w' := h.2.out
/-- what programNext and failureCode answer together -/
theorem next_answers (X : List Bk) (D : ByteArray) (r : Int) (a0 a1 a2 : Addr) (hD : D.size ≤ 60) (hX : Small X) : ∃ (Y : List Bk) (E : Value) (C : Int),
    (⟨Y, ⟨#[]⟩, C⟩ : NdAns) = appAns X true D r ∧
    (∀ (A : Option Addr) (n ca : Nat) (W : World), Sents W a0 a1 a2 → RdBk W W.heap.size A n X → Calls Tryd.prog 38 #[.agg #[.slice A n ca], .string D, .int .i64 r] W (RetPN W Y E)) ∧
    (∀ W : World, Sents W a0 a1 a2 → Calls Tryd.prog 40 #[E] W fun e w' => e = .returned (.int .i64 C) ∧ W = w') := by
  by_cases h : NdOk X ∧ (0 ≤ r ∧ r ≤ 12)
  · by_cases hf : nextR X r = -1
    · refine ⟨[], .iface 177 (.pointer (some a1)), 9, ?_, fun A n ca W hs hA => programNext_full A n ca X D r a0 a1 a2 W h.1 h.2 hf hs hX hA, fun W hs => failure_room a0 a1 a2 W hs⟩
      unfold appAns; rw [if_pos ⟨h.1, rfl, h.2⟩, putAns_full hf]; rfl
    · obtain ⟨k, hk, hkl, hb, hu⟩ := next_ready hf
      have hl := late_ok (d := D) hb hu
      refine ⟨(progLate X k D).nd, .nilIface, 0, ?_, fun A n ca W hs hA => programNext_ok A n ca X D r k W h.1 h.2 hk hkl hD hX hA, fun W hs => failure_nil a0 a1 a2 W hs⟩
      unfold appAns; rw [if_pos ⟨h.1, rfl, h.2⟩, putAns_at hk]
      rw [← hl.1, ← hl.2]
  · refine ⟨[], .iface 177 (.pointer (some a0)), 1, ?_, fun A n ca W hs hA => programNext_inv A n ca X D r a0 a1 a2 W h hs hX hA, fun W hs => failure_inv a0 a1 a2 W hs⟩
    unfold appAns; rw [if_neg (fun x => h ⟨x.1, x.2.2⟩)]; rfl

/-- the answer, stored in its box -/
theorem nd_ends {w u wc : World} {b lo hi b2 yl : Nat} {A : Option Addr} {c : Nat} {Y : List Bk} {C : Int} (hN : NdBox u wc b lo hi A c Y) (hB : Below w.heap.size w wc) (h1 : w.heap.size ≤ b2) (h2 : b2 < u.heap.size) (hy : yl = Y.length) (x y z : Value) {R : NdAns} (hR : R = ⟨Y, ⟨#[]⟩, C⟩) :
    RetAns w R (.returned (.agg #[.slice A yl c, .string ⟨#[]⟩, .int .i64 C])) (((wc.setCell ⟨b2, 0, none⟩ x).setCell ⟨b2, 1, none⟩ y).setCell ⟨b2, 2, none⟩ z).drew := by
  subst hy hR
  have hlo := hN.at_lo; have hhi := hN.at_hi; have hu := hN.bel.size
  refine ⟨A, c, rfl, ?_, ?_⟩
  · refine (hN.own.same fun j h1 h2 => ?_).mono (by have := hB.size; omega) (by show hi ≤ (((wc.setCell _ _).setCell _ _).setCell _ _).heap.size; simp [World.setCell]; omega)
    show (((wc.setCell _ _).setCell _ _).setCell _ _).heap[j]? = _
    rw [Below.heap_setCell _ _ _ _ (by dsimp only; omega), Below.heap_setCell _ _ _ _ (by dsimp only; omega), Below.heap_setCell _ _ _ _ (by dsimp only; omega)]
  · exact (((hB.setCell (p := ⟨b2, 0, none⟩) h1 _).setCell (p := ⟨b2, 1, none⟩) h1 _).setCell (p := ⟨b2, 2, none⟩) h1 _).drew

set_option maxHeartbeats 4000000 in
set_option maxRecDepth 100000 in
theorem impl_append (A : Option Addr) (n ca : Nat) (X : List Bk) (r : Rc) (res : Int) (a0 a1 a2 : Addr) (w : World) (hd : r.d.size ≤ maxLen) (hX : Small X) (hS : Sents w a0 a1 a2) (hA : RdBk w w.heap.size A n X) :
    Calls Tryd.prog 18 #[.agg #[.slice A n ca], recV r, .int .i64 res] w (RetAns w (appAns X (decide r.Ok) (bstr r.bytes) res)) := by
  have HA := Lib.hid hA; have HX := Lib.hid hX; have HS := Lib.hid hS; clear hA hX hS
  go_enter Tryd.func18, Tryd.ntmps18
  go_wp2_with fail
  have hb0 : Below w.heap.size w (((w.alloc (.cells #[.slice A n ca] 30)).alloc (.cells #[.int .i64 r.k, .int .i64 r.s, .int .i64 r.q, .int .i64 r.t, .int .i64 r.o, .string r.d] 43)).alloc (.cells #[.slice none 0 0, .string ⟨#[]⟩, .int .i64 0] 41)) := (((Below.refl _ _).alloc (Nat.le_refl _) _).alloc (by simp) _).alloc (by simp; omega) _
  have k0 := ((isBlk_new w 30 [.slice A n ca]).alloc (.cells #[.int .i64 r.k, .int .i64 r.s, .int .i64 r.q, .int .i64 r.t, .int .i64 r.o, .string r.d] 43)).alloc (.cells #[.slice none 0 0, .string ⟨#[]⟩, .int .i64 0] 41)
  have k1 := (isBlk_new (w.alloc (.cells #[.slice A n ca] 30)) 43 (recC r)).alloc (.cells #[.slice none 0 0, .string ⟨#[]⟩, .int .i64 0] 41)
  have k2 := isBlk_new ((w.alloc (.cells #[.slice A n ca] 30)).alloc (.cells #[.int .i64 r.k, .int .i64 r.s, .int .i64 r.q, .int .i64 r.t, .int .i64 r.o, .string r.d] 43)) 41 [.slice none 0 0, .string ⟨#[]⟩, .int .i64 0]
  change IsBlk (((w.alloc (.cells #[.slice A n ca] 30)).alloc (.cells #[.int .i64 r.k, .int .i64 r.s, .int .i64 r.q, .int .i64 r.t, .int .i64 r.o, .string r.d] 43)).alloc (.cells #[.slice none 0 0, .string ⟨#[]⟩, .int .i64 0] 41)) _ _ _ at k0 k1 k2
  rw [size_alloc] at k1
  rw [size_alloc, size_alloc] at k2
  generalize (((w.alloc (.cells #[.slice A n ca] 30)).alloc (.cells #[.int .i64 r.k, .int .i64 r.s, .int .i64 r.q, .int .i64 r.t, .int .i64 r.o, .string r.d] 43)).alloc (.cells #[.slice none 0 0, .string ⟨#[]⟩, .int .i64 0] 41)) = W at hb0 k0 k1 k2 ⊢
  refine (impl_recRight_any r W hd).mono ?_
  rintro e u ⟨rfl, hbu⟩
  have HB := Lib.hid (bel_step hb0 hbu)
  have HK0 := Lib.hid (k0.below hbu k0.lt); have HK1 := Lib.hid (k1.below hbu k1.lt); have HK2 := Lib.hid (k2.below hbu k2.lt)
  clear hb0 k0 k1 k2 hbu
  obtain ⟨d0, d1, d2, fd0, fd1, fd2⟩ := blk3 HK2.out
  by_cases hok : r.Ok
  case neg =>
    have HANS : Hid (appAns X (decide r.Ok) (bstr r.bytes) res = ill 1) := by show _ = _; unfold appAns; rw [if_neg (fun h => by have := h.2.1; simp [hok] at this)]
    rw [decide_eq_false hok]
    clear hok
    go_wp2
    refine bodyPost_ret (v := .agg #[.slice none 0 0, .string ⟨#[]⟩, .int .i64 1]) (by simp [results, Tryd.results18, go_sem, d0, d1, d2]) rfl ?_
    first | rw [HANS.out] | (rw [decide_eq_false (by assumption)] at HANS; rw [HANS.out])
    refine ⟨none, 0, rfl, ow_nil _ _ _ _, ?_⟩
    repeat (with_reducible refine Below.setCell ?_ ?_ _)
    all_goals first | exact HB.out | (dsimp only; omega)
  clear d0 d1 d2 fd0 fd1 fd2
  rw [decide_eq_true hok]
  obtain ⟨D, hDe⟩ : ∃ D, D = bstr r.bytes := ⟨_, rfl⟩
  have hD : D.size ≤ 60 := by rw [hDe]; have := Rc.bytes_short hok; have h2 : (bstr r.bytes).size = r.bytes.length := by simp [bstr, ByteArray.size]
                              omega
  have HRB : Hid (∀ W : World, Calls Tryd.prog 39 #[recV r] W fun e w' => e = .returned (.string D) ∧ Below W.heap.size W w') := fun W => by rw [hDe]; exact impl_recBytes_any r W hd
  obtain ⟨Y, E, C, hans, hpn, hfc⟩ := next_answers X D res a0 a1 a2 hD HX.out
  have HANS : Hid (appAns X (decide r.Ok) (bstr r.bytes) res = ⟨Y, ⟨#[]⟩, C⟩) := by show _ = _; rw [hans, decide_eq_true hok, ← hDe]
  clear hDe hok
  have HPN : Hid (∀ W : World, Below u.heap.size u W → Calls Tryd.prog 38 #[.agg #[.slice A n ca], .string D, .int .i64 res] W (RetPN W Y E)) := fun W h => hpn A n ca W (HS.out.below (bel_step HB.out h)) (rd_step HA.out (bel_step HB.out h))
  have HFC : Hid (∀ W : World, Below u.heap.size u W → Calls Tryd.prog 40 #[E] W fun e w' => e = .returned (.int .i64 C) ∧ W = w') := fun W h => hfc W (HS.out.below (bel_step HB.out h))
  clear hans hpn hfc
  go_wp2
  go_cut [7, 8] (fun v7 v8 wx => ∃ b lo hi A c, v7 = .pointer (some ⟨b, 0, none⟩) ∧ v8 = E ∧ NdBox u wx b lo hi A c Y)
  case first =>
    have hlt0 : w.heap.size < u.heap.size := HK0.out.lt
    have hlt1 : w.heap.size + 1 < u.heap.size := HK1.out.lt
    go_region_held3 (fun w' => w'.cell? ⟨w.heap.size, 0, none⟩ = some (.slice A n ca) ∧ w'.cell? ⟨w.heap.size + 1, 0, none⟩ = some (.int .i64 r.k) ∧ w'.cell? ⟨w.heap.size + 1, 1, none⟩ = some (.int .i64 r.s) ∧ w'.cell? ⟨w.heap.size + 1, 2, none⟩ = some (.int .i64 r.q) ∧ w'.cell? ⟨w.heap.size + 1, 3, none⟩ = some (.int .i64 r.t) ∧
        w'.cell? ⟨w.heap.size + 1, 4, none⟩ = some (.int .i64 r.o) ∧ w'.cell? ⟨w.heap.size + 1, 5, none⟩ = some (.string r.d) ∧ Hid (Below u.heap.size u w'))
      (first | exact hsB | exact hsC | exact app_keep HK0.out HK1.out (Below.refl _ _).drew | exact app_keep HK0.out HK1.out ((app_of (by assumption)).alloc (app_of (by assumption)).size _) | exact app_keep HK0.out HK1.out HKY.out.bel)
      (first
        | (go_at_call 39
           refine (HRB.out _).mono ?_
           rintro e wB ⟨rfl, hbB⟩
           have hsB := app_keep HK0.out HK1.out ((app_of (by assumption)).trans (hbB.mono (app_of (by assumption)).size))
           have HBB := Lib.hid hbB
           have hzB := (app_of hsB).size
           clear hbB)
        | (go_at_call 38
           refine (HPN.out _ (app_of (by assumption))).mono ?_
           rintro e wC ⟨Aw, cw, rfl, hoC, hbC⟩
           have hsC := app_keep HK0.out HK1.out ((app_of (by assumption)).trans (hbC.mono (app_of (by assumption)).size))
           first
           | (have kW := isBlk_new wB 30 [.slice none 0 0]
              have HKY := Lib.hid (nd_first (c := cw) (app_of (by assumption)) hzB kW hoC hbC)
              obtain ⟨e0, fe0⟩ := (⟨(kW.below hbC kW.lt).cell rfl, (kW.below hbC kW.lt).free⟩ : wC.cell? ⟨wB.heap.size, 0, none⟩ = some (.slice none 0 0) ∧ wC.frozen? ⟨wB.heap.size, 0, none⟩ = false)
              clear kW)
           | (have kW := (show IsBlk (u.alloc (.cells #[.slice none 0 0] 30)).drew u.heap.size 30 [.slice none 0 0] from isBlk_new u 30 [.slice none 0 0]).below HBB.out (by simp)
              have HKY := Lib.hid (nd_first (c := cw) (app_of (by assumption)) (Nat.le_refl _) kW hoC hbC)
              obtain ⟨e0, fe0⟩ := (⟨(kW.below hbC kW.lt).cell rfl, (kW.below hbC kW.lt).free⟩ : wC.cell? ⟨u.heap.size, 0, none⟩ = some (.slice none 0 0) ∧ wC.frozen? ⟨u.heap.size, 0, none⟩ = false)
              clear kW)
           | (have HKY := Lib.hid (nd_last (c := cw) (app_of (by assumption)) hoC hbC))
           clear hoC hbC))
    all_goals (go_wp2_with fail; go_meet)
    all_goals exact ⟨_, _, _, Aw, cw, rfl, rfl, HKY.out⟩
  case rest =>
    obtain ⟨b, lo, hi, A', c', rfl, rfl, hN⟩ := hcut
    have hb := hN.bel
    have HN := Lib.hid hN
    have x0 : wc.cell? ⟨b, 0, none⟩ = some (.slice A' Y.length c') := hN.blk.cell rfl
    obtain ⟨d0, d1, d2, fd0, fd1, fd2⟩ := blk3 (HK2.out.below hb HK2.out.lt)
    have hlt2 : w.heap.size + 1 + 1 < u.heap.size := HK2.out.lt
    have hub := hN.at_b
    have hlo := hN.at_lo
    have hhi := hN.at_hi
    have hne : ¬ w.heap.size + 1 + 1 = b := by omega
    have hne' : ¬ b = w.heap.size + 1 + 1 := by omega
    have HBU := Lib.hid (bel_step HB.out hb)
    have HBW : Hid (Below u.heap.size u wc.drew) := hb.drew
    clear hb hN
    obtain ⟨yl, hyl⟩ : ∃ yl, yl = Y.length := ⟨_, rfl⟩
    rw [← hyl] at x0
    have HYL := Lib.hid hyl
    clear hyl
    go_wp2_with fail
    go_region_held3 (fun w' => w'.cell? ⟨b, 0, none⟩ = some (.slice A' yl c'))
      (first | exact x0 | go_keep)
      ((go_at_call 40
        refine (HFC.out _ HBW.out).mono ?_
        rintro e wF ⟨rfl, rfl⟩))
    all_goals
      go_wp2
      refine bodyPost_ret (v := .agg #[.slice A' yl c', .string ⟨#[]⟩, .int .i64 C]) (by simp [results, Tryd.results18, go_sem, d0, d1, d2]) rfl ?_
      exact nd_ends HN.out HBU.out (by omega) hlt2 HYL.out _ _ _ HANS.out

set_option maxHeartbeats 4000000 in
set_option maxRecDepth 100000 in
theorem impl_torn (A : Option Addr) (n ca : Nat) (X : List Bk) (d : ByteArray) (a0 a1 a2 : Addr) (w : World) (hd : d.size ≤ 2147483648) (hX : Small X) (hS : Sents w a0 a1 a2) (hA : RdBk w w.heap.size A n X) :
    Calls Tryd.prog 23 #[.agg #[.slice A n ca], .string d] w (RetAns w (tornAns X d)) := by
  have HA := Lib.hid hA; have HX := Lib.hid hX; have HS := Lib.hid hS; clear hA hX hS
  have HB0 : Hid (∀ o1 o2 : Obj, Below w.heap.size w ((w.alloc o1).alloc o2)) := fun o1 o2 => ((Below.refl _ _).alloc (Nat.le_refl _) _).alloc (by simp) _
  by_cases hbig : 8000 < d.size
  · have HANS : Hid (tornAns X d = ill 2) := by show _ = _; unfold tornAns; rw [if_pos hbig]
    go_enter Tryd.func23, Tryd.ntmps23
    go_wp2
    refine bodyPost_ret (v := .agg #[.slice none 0 0, .string ⟨#[]⟩, .int .i64 2]) (by simp [results, Tryd.results23, go_sem]) rfl ?_
    rw [HANS.out]
    refine ⟨none, 0, rfl, ow_nil _ _ _ _, ?_⟩
    repeat (first | exact HB0.out _ _ | with_reducible refine Below.setCell ?_ ?_ _)
    all_goals (dsimp only; omega)
  by_cases h60 : 60 < d.size
  · have HANS : Hid (tornAns X d = ill 1) := by show _ = _; unfold tornAns; rw [if_neg hbig, if_neg (by omega)]
    go_enter Tryd.func23, Tryd.ntmps23
    go_wp2
    refine bodyPost_ret (v := .agg #[.slice none 0 0, .string ⟨#[]⟩, .int .i64 1]) (by simp [results, Tryd.results23, go_sem]) rfl ?_
    rw [HANS.out]
    refine ⟨none, 0, rfl, ow_nil _ _ _ _, ?_⟩
    repeat (first | exact HB0.out _ _ | with_reducible refine Below.setCell ?_ ?_ _)
    all_goals (dsimp only; omega)
  obtain ⟨D, hDe⟩ : ∃ D, D = d.extract 0 (d.size / 2) := ⟨_, rfl⟩
  have hD : D.size ≤ 60 := by rw [hDe, ext_half]; omega
  obtain ⟨Y, E, C, hans, hpn, hfc⟩ := next_answers X D 0 a0 a1 a2 hD HX.out
  have HANS : Hid (tornAns X d = ⟨Y, ⟨#[]⟩, C⟩) := by
    show _ = _
    rw [hans]
    unfold tornAns appAns
    rw [if_neg hbig, ← hDe]
    by_cases hok : NdOk X
    · rw [if_pos ⟨hok, by omega⟩, if_pos ⟨hok, rfl, by omega⟩]
    · rw [if_neg (fun h => hok h.1), if_neg (fun h => hok h.1)]
  have hd60 : d.size ≤ 60 := by omega
  go_enter Tryd.func23, Tryd.ntmps23
  go_wp2
  have hb0 := HB0.out (.cells #[.slice A n ca] 30) (.cells #[.slice none 0 0, .string ⟨#[]⟩, .int .i64 0] 41)
  have k0 := (isBlk_new w 30 [.slice A n ca]).alloc (.cells #[.slice none 0 0, .string ⟨#[]⟩, .int .i64 0] 41)
  have k1 := isBlk_new (w.alloc (.cells #[.slice A n ca] 30)) 41 [.slice none 0 0, .string ⟨#[]⟩, .int .i64 0]
  change IsBlk ((w.alloc (.cells #[.slice A n ca] 30)).alloc (.cells #[.slice none 0 0, .string ⟨#[]⟩, .int .i64 0] 41)) _ _ _ at k0 k1
  rw [size_alloc] at k1
  generalize (w.alloc (.cells #[.slice A n ca] 30)).alloc (.cells #[.slice none 0 0, .string ⟨#[]⟩, .int .i64 0] 41) = u at hb0 k0 k1 ⊢
  have HB := Lib.hid hb0; have HK0 := Lib.hid k0; have HK2 := Lib.hid k1
  have x0 : u.cell? ⟨w.heap.size, 0, none⟩ = some (.slice A n ca) := k0.cell rfl
  have HPN : Hid (∀ W : World, Below u.heap.size u W → Calls Tryd.prog 38 #[.agg #[.slice A n ca], .string D, .int .i64 0] W (RetPN W Y E)) := fun W h => hpn A n ca W (HS.out.below (bel_step HB.out h)) (rd_step HA.out (bel_step HB.out h))
  have HFC : Hid (∀ W : World, Below u.heap.size u W → Calls Tryd.prog 40 #[E] W fun e w' => e = .returned (.int .i64 C) ∧ W = w') := fun W h => hfc W (HS.out.below (bel_step HB.out h))
  obtain ⟨m, hm⟩ : ∃ m, m = d.size / 2 := ⟨_, rfl⟩
  have hx : d.extract 0 m = D := by rw [hDe, hm]
  have hq1 : (d.size : Int).tdiv 2 = (m : Int) := by rw [hm]; rfl
  have hq2 : (d.size : Int) / 2 = (m : Int) := by rw [hm]; omega
  have hq3 : IntKind.i64.wrap (m : Int) = (m : Int) := IntWalk.i64_in _ (by omega)
  have hm0 : (0 : Int) ≤ (m : Int) := by omega
  have hm1 : (m : Int) ≤ (d.size : Int) := by omega
  have hm2 : m ≤ d.size := by omega
  have HNU : Hid (∀ W : World, Below u.heap.size u W → W.cell? ⟨w.heap.size, 0, none⟩ = some (.slice A n ca) ∧ Hid (Below u.heap.size u W)) := fun W h => ⟨(HK0.out.below h HK0.out.lt).cell rfl, h⟩
  clear hb0 k0 k1 hans hpn hfc hDe HB0 hm
  go_cut [5, 6] (fun v7 v8 wx => ∃ b lo hi A c, v7 = .pointer (some ⟨b, 0, none⟩) ∧ v8 = E ∧ NdBox u wx b lo hi A c Y)
  case first =>
    have hlt0 : w.heap.size < u.heap.size := HK0.out.lt
    go_region_held3 (fun w' => w'.cell? ⟨w.heap.size, 0, none⟩ = some (.slice A n ca) ∧ Hid (Below u.heap.size u w'))
      (first | exact hsC | exact HNU.out _ (Below.refl _ _).drew | exact HNU.out _ ((torn_of (by assumption)).alloc (torn_of (by assumption)).size _) | exact HNU.out _ HKY.out.bel)
      ((go_at_call 38
        refine (HPN.out _ ?_).mono ?_
        · first | exact (Below.refl _ _).drew | exact ((Below.refl _ _).drew).alloc (by simp) _ | exact ((Below.refl _ _).alloc (Nat.le_refl _) _).drew
        rintro e wC ⟨Aw, cw, rfl, hoC, hbC⟩
        first
        | (have hsC := HNU.out _ (((Below.refl _ _).drew).trans hbC)
           have HKY := Lib.hid (nd_last (c := cw) ((Below.refl _ _).drew) hoC hbC))
        | (have hu1 : Below u.heap.size u (u.alloc (.cells #[.slice none 0 0] 30)).drew := ((Below.refl _ _).alloc (Nat.le_refl _) _).drew
           have hsC := HNU.out _ (hu1.trans (hbC.mono hu1.size))
           have kW := (show IsBlk (u.alloc (.cells #[.slice none 0 0] 30)).drew u.heap.size 30 [.slice none 0 0] from isBlk_new u 30 [.slice none 0 0])
           have HKY := Lib.hid (nd_first (c := cw) hu1 (Nat.le_refl _) kW hoC hbC)
           obtain ⟨e0, fe0⟩ := (⟨(kW.below hbC kW.lt).cell rfl, (kW.below hbC kW.lt).free⟩ : wC.cell? ⟨u.heap.size, 0, none⟩ = some (.slice none 0 0) ∧ wC.frozen? ⟨u.heap.size, 0, none⟩ = false)
           clear kW hu1)
        clear hoC hbC))
    all_goals (go_wp2_with fail; go_meet)
    all_goals exact ⟨_, _, _, Aw, cw, rfl, rfl, HKY.out⟩
  case rest =>
    obtain ⟨b, lo, hi, A', c', rfl, rfl, hN⟩ := hcut
    have hb := hN.bel
    have HN := Lib.hid hN
    have x1 : wc.cell? ⟨b, 0, none⟩ = some (.slice A' Y.length c') := hN.blk.cell rfl
    obtain ⟨d0, d1, d2, fd0, fd1, fd2⟩ := blk3 (HK2.out.below hb HK2.out.lt)
    have hlt2 : w.heap.size + 1 < u.heap.size := HK2.out.lt
    have hub := hN.at_b
    have hne : ¬ w.heap.size + 1 = b := by omega
    have hne' : ¬ b = w.heap.size + 1 := by omega
    have HBU := Lib.hid (bel_step HB.out hb)
    have HBW : Hid (Below u.heap.size u wc.drew) := hb.drew
    clear hb hN x0 hq1 hq2 hq3 hm0 hm1 hm2 hx
    obtain ⟨yl, hyl⟩ : ∃ yl, yl = Y.length := ⟨_, rfl⟩
    rw [← hyl] at x1
    have HYL := Lib.hid hyl
    clear hyl
    go_wp2_with fail
    go_region_held3 (fun w' => w'.cell? ⟨b, 0, none⟩ = some (.slice A' yl c'))
      (first | exact x1 | go_keep)
      ((go_at_call 40
        refine (HFC.out _ HBW.out).mono ?_
        rintro e wF ⟨rfl, rfl⟩))
    all_goals
      go_wp2
      refine bodyPost_ret (v := .agg #[.slice A' yl c', .string ⟨#[]⟩, .int .i64 C]) (by simp [results, Tryd.results23, go_sem, d0, d1, d2]) rfl ?_
      exact nd_ends HN.out HBU.out (by omega) hlt2 HYL.out _ _ _ HANS.out

set_option maxHeartbeats 4000000 in
set_option maxRecDepth 100000 in
theorem spec_torn (A : Option Addr) (n ca : Nat) (X : List Bk) (d : ByteArray) (w : World) (hd : d.size ≤ 2147483648) (hX : Small X) (hA : RdBk w w.heap.size A n X) :
    Calls Tryd.prog 22 #[.agg #[.slice A n ca], .string d] w (RetAns w (tornAns X d)) := by
  have HA := Lib.hid hA; have HX := Lib.hid hX; clear hA hX
  have hb0 : Below w.heap.size w ((w.alloc (.cells #[.slice A n ca] 30)).alloc (.cells #[.slice none 0 0, .string ⟨#[]⟩, .int .i64 0] 41)) := ((Below.refl _ _).alloc (Nat.le_refl _) _).alloc (by simp) _
  have k0 := (isBlk_new w 30 [.slice A n ca]).alloc (.cells #[.slice none 0 0, .string ⟨#[]⟩, .int .i64 0] 41)
  have k1 := isBlk_new (w.alloc (.cells #[.slice A n ca] 30)) 41 [.slice none 0 0, .string ⟨#[]⟩, .int .i64 0]
  change IsBlk ((w.alloc (.cells #[.slice A n ca] 30)).alloc (.cells #[.slice none 0 0, .string ⟨#[]⟩, .int .i64 0] 41)) _ _ _ at k0 k1
  rw [size_alloc] at k1
  have HB := Lib.hid hb0; have HK0 := Lib.hid k0; have HK2 := Lib.hid k1
  clear hb0 k0 k1
  have HILL : Hid (∀ (c : Int) (w2 w3 : World) (x y z : Value), Below w.heap.size w w2 → Below w2.heap.size w2 w3 → RetAns w (ill c) (.returned (.agg #[.slice none 0 0, .string ⟨#[]⟩, .int .i64 c])) (((w3.setCell ⟨w.heap.size + 1, 0, none⟩ x).setCell ⟨w.heap.size + 1, 1, none⟩ y).setCell ⟨w.heap.size + 1, 2, none⟩ z)) := fun c w2 w3 x y z h1 h2 =>
    ⟨none, 0, rfl, ow_nil _ _ _ _, (((bel_step h1 h2).setCell (p := ⟨w.heap.size + 1, 0, none⟩) (by dsimp only; omega) _).setCell (p := ⟨w.heap.size + 1, 1, none⟩) (by dsimp only; omega) _).setCell (p := ⟨w.heap.size + 1, 2, none⟩) (by dsimp only; omega) _⟩
  by_cases hbig : 8000 < d.size
  · have HANS : Hid (tornAns X d = ill 2) := by show _ = _; unfold tornAns; rw [if_pos hbig]
    go_enter Tryd.func22, Tryd.ntmps22
    go_wp2_with fail
    generalize (w.alloc (.cells #[.slice A n ca] 30)).alloc (.cells #[.slice none 0 0, .string ⟨#[]⟩, .int .i64 0] 41) = u at *
    refine (l02Ill_any 2 u).mono ?_
    rintro e w3 ⟨rfl, hb3⟩
    obtain ⟨d0, d1, d2, fd0, fd1, fd2⟩ := blk3 (HK2.out.below hb3 HK2.out.lt)
    have HB3 := Lib.hid hb3
    clear hb3
    go_wp2
    refine bodyPost_ret (v := .agg #[.slice none 0 0, .string ⟨#[]⟩, .int .i64 2]) (by simp [results, Tryd.results22, go_sem, d0, d1, d2]) rfl ?_
    rw [HANS.out]
    exact HILL.out 2 _ _ _ _ _ HB.out HB3.out
  go_enter Tryd.func22, Tryd.ntmps22
  go_wp2_with fail
  generalize (w.alloc (.cells #[.slice A n ca] 30)).alloc (.cells #[.slice none 0 0, .string ⟨#[]⟩, .int .i64 0] 41) = u at *
  refine (spec_nandRight A n ca X u HX.out (rd_step HA.out HB.out)).mono ?_
  rintro e w2 ⟨rfl, hb2⟩
  have HB2 := Lib.hid (bel_step HB.out hb2)
  have HK02 := Lib.hid (HK0.out.below hb2 HK0.out.lt); have HK22 := Lib.hid (HK2.out.below hb2 HK2.out.lt)
  have x0 : w2.cell? ⟨w.heap.size, 0, none⟩ = some (.slice A n ca) := HK02.out.cell rfl
  clear hb2
  by_cases hok : NdOk X
  case neg =>
    have HANS : Hid (tornAns X d = ill 1) := by show _ = _; unfold tornAns; rw [if_neg hbig, if_neg (fun h => hok h.1)]
    rw [ndB_no hok]
    clear hok
    go_wp2_with fail
    refine (l02Ill_any 1 w2).mono ?_
    rintro e w3 ⟨rfl, hb3⟩
    obtain ⟨d0, d1, d2, fd0, fd1, fd2⟩ := blk3 (HK22.out.below hb3 HK22.out.lt)
    have HB3 := Lib.hid hb3
    clear hb3
    go_wp2
    refine bodyPost_ret (v := .agg #[.slice none 0 0, .string ⟨#[]⟩, .int .i64 1]) (by simp [results, Tryd.results22, go_sem, d0, d1, d2]) rfl ?_
    rw [HANS.out]
    exact HILL.out 1 _ _ _ _ _ HB2.out HB3.out
  rw [ndB_yes hok]
  by_cases h60 : 60 < d.size
  · have HANS : Hid (tornAns X d = ill 1) := by show _ = _; unfold tornAns; rw [if_neg hbig, if_neg (by omega)]
    clear hok
    go_wp2_with fail
    refine (l02Ill_any 1 w2).mono ?_
    rintro e w3 ⟨rfl, hb3⟩
    obtain ⟨d0, d1, d2, fd0, fd1, fd2⟩ := blk3 (HK22.out.below hb3 HK22.out.lt)
    have HB3 := Lib.hid hb3
    clear hb3
    go_wp2
    refine bodyPost_ret (v := .agg #[.slice none 0 0, .string ⟨#[]⟩, .int .i64 1]) (by simp [results, Tryd.results22, go_sem, d0, d1, d2]) rfl ?_
    rw [HANS.out]
    exact HILL.out 1 _ _ _ _ _ HB2.out HB3.out
  obtain ⟨D, hDe⟩ : ∃ D, D = d.extract 0 (d.size / 2) := ⟨_, rfl⟩
  have HANS : Hid (tornAns X d = putAns X 0 D) := by show _ = _; unfold tornAns; rw [if_neg hbig, if_pos ⟨hok, by omega⟩, ← hDe]
  have HPUT : Hid (∀ W : World, Below w2.heap.size w2 W → Calls Tryd.prog 35 #[.agg #[.slice A n ca], .string D, .int .i64 0] W (RetAns W (putAns X 0 D))) := fun W h => l05Append_any A n ca X D 0 W hok HX.out (rd_step HA.out (bel_step HB2.out h))
  obtain ⟨m, hm⟩ : ∃ m, m = d.size / 2 := ⟨_, rfl⟩
  have hx : d.extract 0 m = D := by rw [hDe, hm]
  have hq1 : (d.size : Int).tdiv 2 = (m : Int) := by rw [hm]; rfl
  have hq2 : (d.size : Int) / 2 = (m : Int) := by rw [hm]; omega
  have hq3 : IntKind.i64.wrap (m : Int) = (m : Int) := IntWalk.i64_in _ (by omega)
  have hm0 : (0 : Int) ≤ (m : Int) := by omega
  have hm1 : (m : Int) ≤ (d.size : Int) := by omega
  have hm2 : m ≤ d.size := by omega
  obtain ⟨d0, d1, d2, fd0, fd1, fd2⟩ := blk3 HK22.out
  have hlt2 : w.heap.size + 1 < w2.heap.size := HK22.out.lt
  clear hok hDe hm
  generalize putAns X 0 D = R at *
  go_wp2_with fail
  go_region_held3 (fun w' => w'.cell? ⟨w.heap.size, 0, none⟩ = some (.slice A n ca))
    (first | exact x0 | exact hsC | go_keep)
    ((go_at_call 35
      refine (HPUT.out _ (Below.refl _ _).drew).mono ?_
      rintro e wC ⟨Aw, cw, rfl, hoC, hbC⟩
      have hsC : wC.cell? ⟨w.heap.size, 0, none⟩ = some (.slice A n ca) := (hbC.cell (p := ⟨w.heap.size, 0, none⟩) HK02.out.lt).trans x0
      obtain ⟨e0, e1, e2, fe0, fe1, fe2⟩ := blk3 (HK22.out.below (((Below.refl _ _).drew).trans hbC) HK22.out.lt)
      have HOC : Hid (OwNd wC w2.heap.size wC.heap.size Aw R.nd.length R.nd) := hoC
      have HBC : Hid (Below w2.heap.size w2 wC) := ((Below.refl _ _).drew).trans hbC
      clear hoC hbC))
  all_goals
    have hzC := HBC.out.size
    go_wp2
    refine bodyPost_ret (v := .agg #[.slice Aw R.nd.length cw, .string R.data, .int .i64 R.code]) (by simp [results, Tryd.results22, go_sem, e0, e1, e2]) rfl ?_
    rw [HANS.out]
    refine ⟨Aw, cw, rfl, ?_, ?_⟩
    · refine (HOC.out.same fun j h1 h2 => ?_).mono (by omega) (by simp [World.setCell])
      rw [Below.heap_setCell _ _ _ _ (by dsimp only; omega), Below.heap_setCell _ _ _ _ (by dsimp only; omega), Below.heap_setCell _ _ _ _ (by dsimp only; omega)]
    · exact (((bel_step HB2.out HBC.out).setCell (p := ⟨w.heap.size + 1, 0, none⟩) (by dsimp only; omega) _).setCell (p := ⟨w.heap.size + 1, 1, none⟩) (by dsimp only; omega) _).setCell (p := ⟨w.heap.size + 1, 2, none⟩) (by dsimp only; omega) _

set_option maxHeartbeats 4000000 in
set_option maxRecDepth 100000 in
theorem spec_append (A : Option Addr) (n ca : Nat) (X : List Bk) (r : Rc) (res : Int) (w : World) (hd : r.d.size ≤ maxLen) (hX : Small X) (hA : RdBk w w.heap.size A n X) :
    Calls Tryd.prog 16 #[.agg #[.slice A n ca], recV r, .int .i64 res] w (RetAns w (appAns X (decide r.Ok) (bstr r.bytes) res)) := by
  have HA := Lib.hid hA; have HX := Lib.hid hX; clear hA hX
  have HILL : Hid (∀ (c : Int) (w2 w3 : World) (x y z : Value), Below w.heap.size w w2 → Below w2.heap.size w2 w3 → RetAns w (ill c) (.returned (.agg #[.slice none 0 0, .string ⟨#[]⟩, .int .i64 c])) (((w3.setCell ⟨w.heap.size + 1 + 1, 0, none⟩ x).setCell ⟨w.heap.size + 1 + 1, 1, none⟩ y).setCell ⟨w.heap.size + 1 + 1, 2, none⟩ z)) := fun c w2 w3 x y z h1 h2 =>
    ⟨none, 0, rfl, ow_nil _ _ _ _, (((bel_step h1 h2).setCell (p := ⟨w.heap.size + 1 + 1, 0, none⟩) (by dsimp only; omega) _).setCell (p := ⟨w.heap.size + 1 + 1, 1, none⟩) (by dsimp only; omega) _).setCell (p := ⟨w.heap.size + 1 + 1, 2, none⟩) (by dsimp only; omega) _⟩
  go_enter Tryd.func16, Tryd.ntmps16
  go_wp2_with fail
  have hb0 : Below w.heap.size w (((w.alloc (.cells #[.slice A n ca] 30)).alloc (.cells #[.int .i64 r.k, .int .i64 r.s, .int .i64 r.q, .int .i64 r.t, .int .i64 r.o, .string r.d] 43)).alloc (.cells #[.slice none 0 0, .string ⟨#[]⟩, .int .i64 0] 41)) := (((Below.refl _ _).alloc (Nat.le_refl _) _).alloc (by simp) _).alloc (by simp; omega) _
  have k0 := ((isBlk_new w 30 [.slice A n ca]).alloc (.cells #[.int .i64 r.k, .int .i64 r.s, .int .i64 r.q, .int .i64 r.t, .int .i64 r.o, .string r.d] 43)).alloc (.cells #[.slice none 0 0, .string ⟨#[]⟩, .int .i64 0] 41)
  have k1 := (isBlk_new (w.alloc (.cells #[.slice A n ca] 30)) 43 (recC r)).alloc (.cells #[.slice none 0 0, .string ⟨#[]⟩, .int .i64 0] 41)
  have k2 := isBlk_new ((w.alloc (.cells #[.slice A n ca] 30)).alloc (.cells #[.int .i64 r.k, .int .i64 r.s, .int .i64 r.q, .int .i64 r.t, .int .i64 r.o, .string r.d] 43)) 41 [.slice none 0 0, .string ⟨#[]⟩, .int .i64 0]
  change IsBlk (((w.alloc (.cells #[.slice A n ca] 30)).alloc (.cells #[.int .i64 r.k, .int .i64 r.s, .int .i64 r.q, .int .i64 r.t, .int .i64 r.o, .string r.d] 43)).alloc (.cells #[.slice none 0 0, .string ⟨#[]⟩, .int .i64 0] 41)) _ _ _ at k0 k1 k2
  rw [size_alloc] at k1
  rw [size_alloc, size_alloc] at k2
  generalize (((w.alloc (.cells #[.slice A n ca] 30)).alloc (.cells #[.int .i64 r.k, .int .i64 r.s, .int .i64 r.q, .int .i64 r.t, .int .i64 r.o, .string r.d] 43)).alloc (.cells #[.slice none 0 0, .string ⟨#[]⟩, .int .i64 0] 41)) = W at hb0 k0 k1 k2 ⊢
  refine (spec_nandRight A n ca X W HX.out (rd_step HA.out hb0)).mono ?_
  rintro e u ⟨rfl, hbu⟩
  have HB := Lib.hid (bel_step hb0 hbu)
  have HK0 := Lib.hid (k0.below hbu k0.lt); have HK1 := Lib.hid (k1.below hbu k1.lt); have HK2 := Lib.hid (k2.below hbu k2.lt)
  clear hb0 k0 k1 k2 hbu
  by_cases hok : NdOk X
  case neg =>
    have HANS : Hid (appAns X (decide r.Ok) (bstr r.bytes) res = ill 1) := by show _ = _; unfold appAns; rw [if_neg (fun h => hok h.1)]
    rw [ndB_no hok]
    clear hok
    go_wp2_with fail
    refine (l02Ill_any 1 u).mono ?_
    rintro e w3 ⟨rfl, hb3⟩
    obtain ⟨d0, d1, d2, fd0, fd1, fd2⟩ := blk3 (HK2.out.below hb3 HK2.out.lt)
    have HB3 := Lib.hid hb3
    clear hb3
    go_wp2
    refine bodyPost_ret (v := .agg #[.slice none 0 0, .string ⟨#[]⟩, .int .i64 1]) (by simp [results, Tryd.results16, go_sem, d0, d1, d2]) rfl ?_
    rw [HANS.out]
    exact HILL.out 1 _ _ _ _ _ HB.out HB3.out
  rw [ndB_yes hok]
  obtain ⟨x0, x1, x2, x3, x4, x5⟩ := rcCells HK1.out
  go_wp2_with fail
  refine (spec_recRight_any r u hd).mono ?_
  rintro e u2 ⟨rfl, hb2⟩
  have HB2 := Lib.hid (bel_step HB.out hb2)
  have HK02 := Lib.hid (HK0.out.below hb2 HK0.out.lt); have HK12 := Lib.hid (HK1.out.below hb2 HK1.out.lt); have HK22 := Lib.hid (HK2.out.below hb2 HK2.out.lt)
  clear hb2 x0 x1 x2 x3 x4 x5
  by_cases hro : r.Ok
  case neg =>
    have HANS : Hid (appAns X (decide r.Ok) (bstr r.bytes) res = ill 1) := by show _ = _; unfold appAns; rw [if_neg (fun h => by have := h.2.1; simp [hro] at this)]
    rw [decide_eq_false hro]
    clear hok hro
    go_wp2_with fail
    refine (l02Ill_any 1 u2).mono ?_
    rintro e w3 ⟨rfl, hb3⟩
    obtain ⟨d0, d1, d2, fd0, fd1, fd2⟩ := blk3 (HK22.out.below hb3 HK22.out.lt)
    have HB3 := Lib.hid hb3
    clear hb3
    go_wp2
    refine bodyPost_ret (v := .agg #[.slice none 0 0, .string ⟨#[]⟩, .int .i64 1]) (by simp [results, Tryd.results16, go_sem, d0, d1, d2]) rfl ?_
    rw [HANS.out]
    exact HILL.out 1 _ _ _ _ _ HB2.out HB3.out
  rw [decide_eq_true hro]
  go_wp2_with fail
  refine (l05Reserve_any res u2).mono ?_
  rintro e u3 ⟨rfl, rfl⟩
  by_cases hres : 0 ≤ res ∧ res ≤ 12
  case neg =>
    have HANS : Hid (appAns X (decide r.Ok) (bstr r.bytes) res = ill 1) := by show _ = _; unfold appAns; rw [if_neg (fun h => hres h.2.2)]
    rw [isB_no hres]
    clear hok hro
    go_wp2_with fail
    refine (l02Ill_any 1 u2).mono ?_
    rintro e w3 ⟨rfl, hb3⟩
    obtain ⟨d0, d1, d2, fd0, fd1, fd2⟩ := blk3 (HK22.out.below hb3 HK22.out.lt)
    have HB3 := Lib.hid hb3
    clear hb3
    go_wp2
    refine bodyPost_ret (v := .agg #[.slice none 0 0, .string ⟨#[]⟩, .int .i64 1]) (by simp [results, Tryd.results16, go_sem, d0, d1, d2]) rfl ?_
    rw [HANS.out]
    exact HILL.out 1 _ _ _ _ _ HB2.out HB3.out
  rw [isB_yes hres]
  obtain ⟨D, hDe⟩ : ∃ D, D = bstr r.bytes := ⟨_, rfl⟩
  have HANS : Hid (appAns X (decide r.Ok) (bstr r.bytes) res = putAns X res D) := by show _ = _; unfold appAns; rw [if_pos ⟨hok, decide_eq_true hro, hres⟩, ← hDe]
  have HRB : Hid (∀ W : World, Calls Tryd.prog 36 #[recV r] W fun e w' => e = .returned (.string D) ∧ Below W.heap.size W w') := fun W => by rw [hDe]; exact l03Bytes_any r W hro
  have HPUT : Hid (∀ W : World, Below u2.heap.size u2 W → Calls Tryd.prog 35 #[.agg #[.slice A n ca], .string D, .int .i64 res] W (RetAns W (putAns X res D))) := fun W h => l05Append_any A n ca X D res W hok HX.out (rd_step HA.out (bel_step HB2.out h))
  have hlt2 : w.heap.size + 1 + 1 < u2.heap.size := HK22.out.lt
  clear hok hro hres hDe
  generalize putAns X res D = R at *
  go_wp2_with fail
  go_region_held3 (fun w' => w'.cell? ⟨w.heap.size, 0, none⟩ = some (.slice A n ca) ∧ w'.cell? ⟨w.heap.size + 1, 0, none⟩ = some (.int .i64 r.k) ∧ w'.cell? ⟨w.heap.size + 1, 1, none⟩ = some (.int .i64 r.s) ∧ w'.cell? ⟨w.heap.size + 1, 2, none⟩ = some (.int .i64 r.q) ∧ w'.cell? ⟨w.heap.size + 1, 3, none⟩ = some (.int .i64 r.t) ∧
      w'.cell? ⟨w.heap.size + 1, 4, none⟩ = some (.int .i64 r.o) ∧ w'.cell? ⟨w.heap.size + 1, 5, none⟩ = some (.string r.d))
    (first | exact hsB | exact hsC | exact hsD | exact app_cells HK02.out HK12.out)
    (first
      | (go_at_call 36
         refine (HRB.out u2.drew).mono ?_
         rintro e wB ⟨rfl, hbB⟩
         have HBB : Hid (Below u2.heap.size u2 wB) := ((Below.refl _ _).drew).trans hbB
         have hsB := app_cells (HK02.out.below HBB.out HK02.out.lt) (HK12.out.below HBB.out HK12.out.lt)
         clear hbB)
      | (go_at_call 35
         refine (HPUT.out wB HBB.out).mono ?_
         rintro e wC ⟨Aw, cw, rfl, hoC, hbC⟩
         have HBC : Hid (Below u2.heap.size u2 wC) := bel_step HBB.out hbC
         have hsC := app_cells (HK02.out.below HBC.out HK02.out.lt) (HK12.out.below HBC.out HK12.out.lt)
         have hzC := HBC.out.size
         have hzB := HBB.out.size
         obtain ⟨e0, e1, e2, fe0, fe1, fe2⟩ := blk3 (HK22.out.below HBC.out HK22.out.lt)
         have HOC : Hid (OwNd wC wB.heap.size wC.heap.size Aw R.nd.length R.nd) := hoC
         have hsD := app_cells
           ((((HK02.out.below HBC.out HK02.out.lt).other (a := ⟨w.heap.size + 1 + 1, 0, none⟩) (by dsimp only; omega) (.slice Aw R.nd.length cw)).other (a := ⟨w.heap.size + 1 + 1, 1, none⟩) (by dsimp only; omega) (.string R.data)).other (a := ⟨w.heap.size + 1 + 1, 2, none⟩) (by dsimp only; omega) (.int .i64 R.code))
           ((((HK12.out.below HBC.out HK12.out.lt).other (a := ⟨w.heap.size + 1 + 1, 0, none⟩) (by dsimp only; omega) (.slice Aw R.nd.length cw)).other (a := ⟨w.heap.size + 1 + 1, 1, none⟩) (by dsimp only; omega) (.string R.data)).other (a := ⟨w.heap.size + 1 + 1, 2, none⟩) (by dsimp only; omega) (.int .i64 R.code))
         clear hoC hbC))
  all_goals
    go_wp2
    refine bodyPost_ret (v := .agg #[.slice Aw R.nd.length cw, .string R.data, .int .i64 R.code]) (by simp [results, Tryd.results16, go_sem, e0, e1, e2]) rfl ?_
    rw [HANS.out]
    refine ⟨Aw, cw, rfl, ?_, ?_⟩
    · refine (HOC.out.same fun j h1 h2 => ?_).mono (by have := HB2.out.size; omega) (by simp [World.setCell])
      rw [Below.heap_setCell _ _ _ _ (by dsimp only; omega), Below.heap_setCell _ _ _ _ (by dsimp only; omega), Below.heap_setCell _ _ _ _ (by dsimp only; omega)]
    · exact (((bel_step HB2.out HBC.out).setCell (p := ⟨w.heap.size + 1 + 1, 0, none⟩) (by dsimp only; omega) _).setCell (p := ⟨w.heap.size + 1 + 1, 1, none⟩) (by dsimp only; omega) _).setCell (p := ⟨w.heap.size + 1 + 1, 2, none⟩) (by dsimp only; omega) _
end Go.Proofs.YtimlaeicbnnbdaaDoor
