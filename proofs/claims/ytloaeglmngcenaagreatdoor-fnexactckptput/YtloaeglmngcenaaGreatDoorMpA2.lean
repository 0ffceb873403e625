/-
  written, of the program: a text written byte after byte till the power fails.
  Times, of the program.
  timesFrom, and the test that neededTest gives back.
  neededTest of the program.
  Trail, of the document's model: the Seqs of the places.
  Needed, of the program and of the model.
  Prune, of the program and of the model.
  CkptPut, of the program.
-/
import Derived.Test.YtloaeglmngcenaaGreatDoorProg
import Derived.KernelRfl
import Derived.Test.YtloaeglmngcenaaGreatDoorCkPutP
import Derived.Test.YtloaeglmngcenaaGreatDoorMpA1
import Derived.Test.YtloaeglmngcenaaGreatDoorBtText
import Derived.WalkKit
import Derived.WalkLawsBesides
import Derived.Defers
import Derived.Recover
import Derived.Deep.AppendLies
import Derived.OwnWalk
import Derived.Test.YtloaeglmngcenaaGreatDoorHsApp
import Derived.Test.YtloaeglmngcenaaGreatDoorBtNum
import Derived.Test.YtloaeglmngcenaaGreatDoorHsTimesP
import Derived.Test.YtloaeglmngcenaaGreatDoorHsTouch
import Derived.Test.YtloaeglmngcenaaGreatDoorHsFloor
import Derived.Test.YtloaeglmngcenaaGreatDoorHsNeedP
import Derived.Test.YtloaeglmngcenaaGreatDoorHsLast
import Derived.Test.YtloaeglmngcenaaGreatDoorHsTrailI
import Derived.Test.YtloaeglmngcenaaGreatDoorHsAsOf
import Derived.Test.YtloaeglmngcenaaGreatDoorHsTrailS
import Derived.Deep.RegionLaw
import Derived.Test.YtloaeglmngcenaaGreatDoorHsLaw
import Derived.Test.YtloaeglmngcenaaGreatDoorHsRight
namespace Go.Proofs.YtloaeglmngcenaaGreatDoor
open Go.RowKit
open Bt (Rc)

/-- the panic of a power failure -/
def powP : List PanicEntry := [{ v := .iface 238 (.agg #[]), recovered := false }]
theorem as_noneP (w : World) : (Instr.typeAssert .nilIface 20 238 true).run Tryz.prog w = .ok (.tuple #[.agg #[], .bool false]) w := by kernel_rfl
theorem as_powP (w : World) : (Instr.typeAssert (.iface 238 (.agg #[])) 20 238 true).run Tryz.prog w = .ok (.tuple #[.agg #[], .bool true]) w := by kernel_rfl

theorem catchP_idle (p q : Addr) (w : World) :
    CallsD Tryz.prog 197 #[.pointer (some p), .pointer (some q)] .returning w fun e u' w' => e = .returned (.tuple #[]) ∧ u' = .returning ∧ w' = w.alloc (.cells #[] 238) := by
  refine callsD_of_wpS Tryz.func197 rfl fun c₀ cs hu => ?_
  apply wpS_seq
  apply wpS_region
  simp [wpOpsS, go_sem, recoverD, hu, Tryz.ntmps197, Exit.thenS, as_noneP]
  apply wpS_seq
  apply wpS_region
  simp [wpOpsS, go_sem, Exit.thenS]
  refine wpS_cond (t := false) (by simp [Act.eval, Array.replicate]) ?_
  simp only [Bool.false_eq_true, if_false]
  refine wpS_of_wp (wp_skip ?_)
  cases c₀
  simp_all [bodyPostS, results, Tryz.results197]

theorem catchP_hit (p q : Addr) (v x : Value) (l : List UInt8) (w : World) (hk : w.cell? p = some v) (hp : p.block < w.heap.size) (hv : (convert 22 9 v).run Tryz.prog (w.alloc (.cells #[] 238)) = .ok (strV l) (w.alloc (.cells #[] 238))) (hc : w.cell? q = some x) (hq : q.block < w.heap.size) (hz : w.frozen? q = false) :
    CallsD Tryz.prog 197 #[.pointer (some p), .pointer (some q)] (.panicking powP) w fun e u' w' =>
      e = .returned (.tuple #[]) ∧ u' = .panicking [{ v := .iface 238 (.agg #[]), recovered := true }] ∧ w' = (w.alloc (.cells #[] 238)).setCell q (strV l) := by
  have hk' : (w.alloc (.cells #[] 238)).cell? p = some v := ((box_belK w _).cell hp).trans hk
  have hc' : (w.alloc (.cells #[] 238)).cell? q = some x := ((box_belK w _).cell hq).trans hc
  have hz' : (w.alloc (.cells #[] 238)).frozen? q = false := ((box_belK w _).frozen hq).trans hz
  refine callsD_of_wpS Tryz.func197 rfl fun c₀ cs hu => ?_
  unfold powP at hu
  apply wpS_seq
  apply wpS_region
  simp [wpOpsS, go_sem, recoverD, hu, Tryz.ntmps197, Exit.thenS, as_powP]
  apply wpS_seq
  apply wpS_region
  simp [wpOpsS, go_sem, Exit.thenS]
  refine wpS_cond (t := true) (by simp [Act.eval, Array.replicate]) ?_
  simp only [if_true]
  apply wpS_region
  simp [wpOpsS, go_sem, hk', hv, hc', hz', bodyPostS, results, Tryz.results197]

theorem cut_lt {p : Int} {l : List UInt8} {k : Nat} (hp : (k : Int) = p) (hk : k < l.length) : cutTo p l = l.take k := by
  rw [cutTo_in (by omega)]; congr 1; omega
theorem idx_W (s : ByteArray) (k : Nat) (h : k < s.size) (W : World) : (Instr.index 9 (.string s) (.int .i64 (k : Int))).run Tryz.prog W = .ok (.int .u8 (s[k].toNat : Int)) W := by
  rw [run_index_string W _ s _ _ Tryz.underlying9, dif_pos ⟨by omega, by omega⟩]
  simp
/-- what stands while a text is written -/
structure WrSt (w wr : World) (t : ByteArray) (k : Nat) (v : Value) : Prop where
  slot : IsBlk wr w.heap.size 9 [.string ⟨#[]⟩]
  kept : IsBlk wr (w.heap.size + 1) 22 [v]
  own : wr.ownsRow (w.heap.size + 2) 5 1 v k ((t.data.toList.take k).map byteV)
  bel : Below w.heap.size w wr
theorem WrSt.more {w wr w' : World} {t : ByteArray} {k : Nat} {v v' : Value} (h : WrSt w wr t k v) (o : Obj) (ho : w'.ownsRow (w.heap.size + 2) 5 1 v' (k + 1) ((t.data.toList.take (k + 1)).map byteV)) (hg : (wr.alloc o).drew.grownBy w' v.ownBlock) :
    WrSt w (w'.setCell ⟨w.heap.size + 1, 0, none⟩ v') t (k + 1) v' := by
  have hlt : ∀ g, v.ownBlock = some g → w.heap.size + 2 ≤ g := fun g hg => (own_block_ltR h.own hg).1
  have hk : ∀ j, j < wr.heap.size → j < w.heap.size + 2 → w'.heap[j]? = wr.heap[j]? := fun j hj h2 =>
    (hg.block j (by show j < (wr.alloc o).heap.size; simp; omega) (fun e => by have := hlt _ e.symm; omega)).trans (Below.heap_alloc _ _ _ hj)
  have hz : wr.heap.size ≤ w'.heap.size := Nat.le_trans (by show wr.heap.size ≤ (wr.alloc o).heap.size; simp) hg.size
  refine ⟨IsBlk.other ((hk _ h.slot.lt (by omega)).trans h.slot) (by dsimp only; omega) _, IsBlk.set (j := 0) ((hk _ h.kept.lt (by omega)).trans h.kept) v', own_otherR ho (by dsimp only; omega) _, ?_⟩
  have hb : Below w.heap.size w w' := ((h.bel.alloc h.bel.size o).drew).grown hg (by have := h.bel.size; show _ ≤ (wr.alloc o).heap.size; simp; omega) fun j hj => by have := hlt j hj; omega
  exact hb.setCell (by dsimp only; omega) _
theorem WrSt.keptG {w wr u : World} {t : ByteArray} {k : Nat} {v : Value} (h : WrSt w wr t k v) (o : Obj) (hg : (wr.alloc o).drew.grownBy u v.ownBlock) : IsBlk u (w.heap.size + 1) 22 [v] :=
  (hg.block _ (by show _ < (wr.alloc o).heap.size; have := h.kept.lt; simp; omega) (fun e => by have := (own_block_ltR h.own e.symm).1; omega)).trans ((Below.heap_alloc _ _ _ h.kept.lt).trans h.kept)
theorem own_slK' {w : World} {base n k : Nat} {e : TypeId} {v : Value} {xs : List Value} (h : w.ownsRow base e k v n xs) : ∃ A c, v = .slice A n c := by
  rcases h.2 with ⟨rfl, rfl⟩ | ⟨g, cap, cur, rfl, -⟩
  · exact ⟨none, 0, rfl⟩
  · exact ⟨_, cap, rfl⟩
/-- how far a round has come -/
def WrInv (Fr : Value → Value → Value → Value → Value → Value → Act) (w wr : World) (t : ByteArray) (k : Nat) (v b : Value) (L : Array Bool) (x : Act) (u : World) : Prop :=
  L.size = 7 ∧ (Dn L 6 → ∀ j, j < 6 → Dn L j) ∧ (Dn L 5 → Dn L 4 ∧ Dn L 0) ∧ ∃ (s18 s19 s20 s21 s22 s23 : Value), x = Fr s18 s19 s20 s21 s22 s23 ∧
    (Dn L 0 → s18 = v) ∧ (Dn L 1 → s19 = .string t) ∧ (Dn L 2 → s20 = .int .i64 (k : Int)) ∧ (Dn L 3 → s21 = b) ∧ (Dn L 4 → s22 = .slice (some ⟨wr.heap.size, 0, none⟩) 1 1) ∧
    (¬ Dn L 4 → u = wr.drew) ∧ (Dn L 4 → ¬ Dn L 5 → u = (wr.alloc (.cells #[b] 5)).drew) ∧
    (Dn L 5 → ¬ Dn L 6 → (wr.alloc (.cells #[b] 5)).drew.grownBy u v.ownBlock ∧ u.ownsRow (w.heap.size + 2) 5 1 s23 (k + 1) ((t.data.toList.take (k + 1)).map byteV)) ∧
    (Dn L 6 → WrSt w u t (k + 1) s23)
set_option maxHeartbeats 4000000 in
set_option maxRecDepth 100000 in
theorem written_any (t : ByteArray) (p : Int) (w : World) (ht : t.size ≤ 2147483648) :
    Calls Tryz.prog 133 #[.string t, .int .i64 p] w fun e w' => e = .returned (.string (bstr (cutTo p t.data.toList))) ∧ Below w.heap.size w w' := by
  have hmf : ∀ (fn : Fn) (first cap : Array Value) (w : World), (Instr.makeFunc fn first cap).run Tryz.prog w = .ok (.func fn first cap) w := fun _ _ _ _ => rfl
  have hlen : t.data.toList.length = t.size := rfl
  obtain ⟨i0, hi, hz0, hz1, hz2⟩ := info_parts byte_one.info
  have Hi := Lib.hid hi; have Z0 := Lib.hid hz0; have Z1 := Lib.hid hz1; have Z2 := Lib.hid hz2
  clear hi hz0 hz1 hz2
  have H0 : Hid (WrSt w ((w.alloc (.cells #[.string ⟨#[]⟩] 9)).alloc (.cells #[.slice none 0 0] 22)) t 0 (.slice none 0 0)) := by
    have k1 := isBlk_new (w.alloc (.cells #[.string ⟨#[]⟩] 9)) 22 [.slice none 0 0]
    rw [size_alloc] at k1
    exact ⟨(isBlk_new w 9 [.string ⟨#[]⟩]).alloc _, k1, ⟨rfl, .inl ⟨rfl, rfl⟩⟩, ((Below.refl _ _).alloc (Nat.le_refl _) _).alloc (by simp) _⟩
  go_enter_defers Tryz.func133, Tryz.ntmps133
  go_wp2_with fail
  go_loopw [6, 10] (fun _ kv wr => ∃ (k : Nat) (v : Value), k ≤ t.size ∧ kv = .int .i64 (k : Nat) ∧ Hid (∀ j : Nat, j < k → (j : Int) ≠ p) ∧ Hid (WrSt w wr t k v)) (fun _ kv _ => t.size - (intOf kv).toNat)
  case atStart => exact ⟨0, _, Nat.zero_le _, rfl, fun j hj => absurd hj (by omega), H0⟩
  case round =>
    obtain ⟨k, v, hk, rfl, HNF, HW⟩ := hrel
    clear H0
    by_cases hlt : k < t.size
    · by_cases hp : (k : Int) = p
      · subst hp
        have x0 : wr.cell? ⟨w.heap.size + 1, 0, none⟩ = some v := HW.out.kept.cell rfl
        have y0 : wr.cell? ⟨w.heap.size, 0, none⟩ = some (.string ⟨#[]⟩) := HW.out.slot.cell rfl
        have fy0 : wr.frozen? ⟨w.heap.size, 0, none⟩ = false := HW.out.slot.free
        have hsz : w.heap.size + 1 < wr.heap.size := HW.out.kept.lt
        have HCV := Lib.hid (conv_own (src := 22) (dst := 9) Tryz.underlying22 Tryz.underlying5 Tryz.underlying9 (HW.out.own.alloc (.cells #[] 238)))
        go_wp2_with fail
        change bodyPostD _ _ _ (Exit.panic powP) _ wr
        refine leaves_cons (f := 197) (args := #[.pointer (some ⟨w.heap.size + 1, 0, none⟩), .pointer (some ⟨w.heap.size, 0, none⟩)]) (by simp) (by simp [go_sem]) ?_
        refine (catchP_hit ⟨w.heap.size + 1, 0, none⟩ ⟨w.heap.size, 0, none⟩ v _ (t.data.toList.take k) wr x0 hsz HCV.out y0 (by dsimp only; omega) fy0).mono ?_
        rintro e u' w'' ⟨rfl, rfl, rfl⟩
        simp only [settle]
        have y1 : (wr.alloc (.cells #[] 238)).cell? ⟨w.heap.size, 0, none⟩ = some (.string ⟨#[]⟩) := (HW.out.slot.alloc _).cell rfl
        refine ⟨.string (bstr (t.data.toList.take k)), ?_, by rw [cut_lt rfl (by omega)], (HW.out.bel.alloc HW.out.bel.size _).setCell (by dsimp only; omega) _⟩
        simp [results, Tryz.results133, go_sem, y1, strV]
      · have hx := idx_W t k hlt
        have x0 : wr.cell? ⟨w.heap.size + 1, 0, none⟩ = some v := HW.out.kept.cell rfl
        have fx0 : wr.frozen? ⟨w.heap.size + 1, 0, none⟩ = false := HW.out.kept.free
        have hsw : w.heap.size + 1 < wr.heap.size := HW.out.kept.lt
        go_wp2_with fail
        refine wp_region_any (by kernel_rfl) (wpAny_inv (WrInv (fun s18 s19 s20 s21 s22 s23 => { tmps := #[.string t, .int .i64 p, undef, undef, .pointer (some ⟨w.heap.size, 0, none⟩), .pointer (some ⟨w.heap.size + 1, 0, none⟩), .int .i64 (k : Int), .func (.func 197) #[] #[.pointer (some ⟨w.heap.size + 1, 0, none⟩), .pointer (some ⟨w.heap.size, 0, none⟩)], .string t, .int .i64 (t.size : Int), .int .i64 (k : Int), .bool true, .int .i64 (k : Int), .int .i64 (k : Int), .int .i64 p, .bool ((k : Int) == p), u16, u17, s18, s19, s20, s21, s22, s23, u24, undef, undef], defers := [{ target := .fn (.func 197) #[.pointer (some ⟨w.heap.size + 1, 0, none⟩), .pointer (some ⟨w.heap.size, 0, none⟩)], args := #[] }] }) w wr t k v (.int .u8 (t[k].toNat : Int))) ?sz ?step ?rend _ _ _ _ (by decide) ?start)
        case sz => intro L x u h; exact h.1
        case start =>
          refine ⟨by simp, fun h => ?_, fun h => ?_, _, _, _, _, _, _, rfl, fun h => ?_, fun h => ?_, fun h => ?_, fun h => ?_, fun h => ?_, fun _ => rfl, fun h => ?_, fun h => ?_, fun h => ?_⟩
          all_goals (simp only [dn_zero] at h)
        case step =>
          intro L x u hI i o ho hi hL hd
          obtain ⟨hsz, k6, k5, s18, s19, s20, s21, s22, s23, rfl, e0, e1, e2, e3, e4, w0, w4, w5, e6⟩ := hI
          have hcase : i = 0 ∨ i = 1 ∨ i = 2 ∨ i = 3 ∨ i = 4 ∨ i = 5 ∨ i = 6 := by omega
          rcases hcase with rfl | rfl | rfl | rfl | rfl | rfl | rfl
          · refine wpOp_of_list ho (by cases ho; rfl) ?_
            cases ho
            have nl : ¬ Dn L 6 := fun h => Dn.not hi hL (k6 h _ (by decide))
            have n5 : ¬ Dn L 5 := fun h => Dn.not hi hL (k5 h).2
            have hu0 : u.cell? ⟨w.heap.size + 1, 0, none⟩ = some v := by
              by_cases h4 : Dn L 4
              · rw [w4 h4 n5]; exact ((box_belK wr _).cell (p := ⟨w.heap.size + 1, 0, none⟩) hsw).trans x0
              · rw [w0 h4]; exact x0
            go_wp2_with fail
            refine ⟨by simp [hsz], fun h j hj => ((k6 ((h.set).resolve_left (by decide))) j hj).stay, fun h => (k5 ((h.set).resolve_left (by decide))).imp Dn.stay Dn.stay, _, _, _, _, _, _, rfl, ?_⟩
            simp only [dn_not (L := L) (i := 0) (j := 1) (by decide), dn_not (L := L) (i := 0) (j := 2) (by decide), dn_not (L := L) (i := 0) (j := 3) (by decide), dn_not (L := L) (i := 0) (j := 4) (by decide), dn_not (L := L) (i := 0) (j := 5) (by decide), dn_not (L := L) (i := 0) (j := 6) (by decide), dn_yes (L := L) (i := 0) hi]
            exact ⟨fun _ => by first | rfl | trivial, e1, e2, e3, e4, w0, w4, w5, e6⟩
          · refine wpOp_of_list ho (by cases ho; rfl) ?_
            cases ho
            have nl : ¬ Dn L 6 := fun h => Dn.not hi hL (k6 h _ (by decide))
            go_wp2_with fail
            refine ⟨by simp [hsz], fun h j hj => ((k6 ((h.set).resolve_left (by decide))) j hj).stay, fun h => (k5 ((h.set).resolve_left (by decide))).imp Dn.stay Dn.stay, _, _, _, _, _, _, rfl, ?_⟩
            simp only [dn_not (L := L) (i := 1) (j := 0) (by decide), dn_not (L := L) (i := 1) (j := 2) (by decide), dn_not (L := L) (i := 1) (j := 3) (by decide), dn_not (L := L) (i := 1) (j := 4) (by decide), dn_not (L := L) (i := 1) (j := 5) (by decide), dn_not (L := L) (i := 1) (j := 6) (by decide), dn_yes (L := L) (i := 1) hi]
            exact ⟨e0, fun _ => by first | rfl | trivial, e2, e3, e4, w0, w4, w5, e6⟩
          · refine wpOp_of_list ho (by cases ho; rfl) ?_
            cases ho
            have nl : ¬ Dn L 6 := fun h => Dn.not hi hL (k6 h _ (by decide))
            go_wp2_with fail
            refine ⟨by simp [hsz], fun h j hj => ((k6 ((h.set).resolve_left (by decide))) j hj).stay, fun h => (k5 ((h.set).resolve_left (by decide))).imp Dn.stay Dn.stay, _, _, _, _, _, _, rfl, ?_⟩
            simp only [dn_not (L := L) (i := 2) (j := 0) (by decide), dn_not (L := L) (i := 2) (j := 1) (by decide), dn_not (L := L) (i := 2) (j := 3) (by decide), dn_not (L := L) (i := 2) (j := 4) (by decide), dn_not (L := L) (i := 2) (j := 5) (by decide), dn_not (L := L) (i := 2) (j := 6) (by decide), dn_yes (L := L) (i := 2) hi]
            exact ⟨e0, e1, fun _ => by first | rfl | trivial, e3, e4, w0, w4, w5, e6⟩
          · refine wpOp_of_list ho (by cases ho; rfl) ?_
            cases ho
            have nl : ¬ Dn L 6 := fun h => Dn.not hi hL (k6 h _ (by decide))
            obtain rfl := e1 (hd ⟨1, .data⟩ (by simp) rfl)
            obtain rfl := e2 (hd ⟨2, .data⟩ (by simp) rfl)
            go_wp2_with fail
            refine ⟨by simp [hsz], fun h j hj => ((k6 ((h.set).resolve_left (by decide))) j hj).stay, fun h => (k5 ((h.set).resolve_left (by decide))).imp Dn.stay Dn.stay, _, _, _, _, _, _, rfl, ?_⟩
            simp only [dn_not (L := L) (i := 3) (j := 0) (by decide), dn_not (L := L) (i := 3) (j := 1) (by decide), dn_not (L := L) (i := 3) (j := 2) (by decide), dn_not (L := L) (i := 3) (j := 4) (by decide), dn_not (L := L) (i := 3) (j := 5) (by decide), dn_not (L := L) (i := 3) (j := 6) (by decide), dn_yes (L := L) (i := 3) hi]
            exact ⟨e0, fun _ => by first | rfl | trivial, fun _ => by first | rfl | trivial, fun _ => by first | rfl | trivial, e4, w0, w4, w5, e6⟩
          · refine wpOp_of_list ho (by cases ho; rfl) ?_
            cases ho
            have nl : ¬ Dn L 6 := fun h => Dn.not hi hL (k6 h _ (by decide))
            obtain rfl := e3 (hd ⟨3, .data⟩ (by simp) rfl)
            obtain rfl := w0 (Dn.not hi hL)
            go_wp2_with fail
            refine ⟨by simp [hsz], fun h j hj => ((k6 ((h.set).resolve_left (by decide))) j hj).stay, fun h => (k5 ((h.set).resolve_left (by decide))).imp Dn.stay Dn.stay, _, _, _, _, _, _, rfl, ?_⟩
            simp only [dn_not (L := L) (i := 4) (j := 0) (by decide), dn_not (L := L) (i := 4) (j := 1) (by decide), dn_not (L := L) (i := 4) (j := 2) (by decide), dn_not (L := L) (i := 4) (j := 3) (by decide), dn_not (L := L) (i := 4) (j := 5) (by decide), dn_not (L := L) (i := 4) (j := 6) (by decide), dn_yes (L := L) (i := 4) hi]
            exact ⟨e0, e1, e2, fun _ => by first | rfl | trivial, fun _ => by first | rfl | trivial, fun h => absurd trivial h, fun _ _ => by first | rfl | trivial, fun h => absurd (k5 h).1 (Dn.not hi hL), fun h => absurd h nl⟩
          · refine wpOp_of_list ho (by cases ho; rfl) ?_
            cases ho
            have nl : ¬ Dn L 6 := fun h => Dn.not hi hL (k6 h _ (by decide))
            have d4 : Dn L 4 := hd ⟨4, .data⟩ (by simp) rfl
            have d0 : Dn L 0 := hd ⟨0, .data⟩ (by simp) rfl
            obtain rfl := e0 d0
            obtain rfl := e4 d4
            obtain rfl := w4 d4 (Dn.not hi hL)
            refine wpList_append_own _ rfl (.tmp 18) (.tmp 22) 22 rfl (w.heap.size + 2) 5 i0 _ 1 1 Tryz.underlying22 Hi.out Z0.out Z1.out Z2.out rfl (by omega) _ k _ (by rfl) (HW.out.own.alloc _) ⟨wr.heap.size, 0, none⟩ 1 1 [.int .u8 (t[k].toNat : Int)] (by rfl) (by rfl) (World.news_of_block (heap_alloc_new _ _)) (by intro u hu; simp at hu; subst hu; rfl) (by unfold maxLen; omega) (by omega) (by show w.heap.size + 2 ≤ (wr.alloc _).heap.size; simp; omega) ?_
            intro v9 w9 hown9 hgrow9 _
            go_wp2_with fail
            refine ⟨by simp [hsz], fun h j hj => ((k6 ((h.set).resolve_left (by decide))) j hj).stay, fun _ => ⟨d4.stay, d0.stay⟩, _, _, _, _, _, _, rfl, ?_⟩
            simp only [dn_not (L := L) (i := 5) (j := 0) (by decide), dn_not (L := L) (i := 5) (j := 1) (by decide), dn_not (L := L) (i := 5) (j := 2) (by decide), dn_not (L := L) (i := 5) (j := 3) (by decide), dn_not (L := L) (i := 5) (j := 4) (by decide), dn_not (L := L) (i := 5) (j := 6) (by decide), dn_yes (L := L) (i := 5) hi]
            exact ⟨fun _ => by first | rfl | trivial, e1, e2, e3, fun _ => by first | rfl | trivial, fun h => absurd d4 h, fun _ h => absurd trivial h, fun _ _ => ⟨hgrow9, by rw [Bt.take_snoc _ _ hlt, List.map_append]; exact hown9⟩, fun h => absurd h nl⟩
          · refine wpOp_of_list ho (by cases ho; rfl) ?_
            cases ho
            have dall : ∀ j, j < 6 → Dn L j := by
              intro j hj
              have hcj : j = 0 ∨ j = 1 ∨ j = 2 ∨ j = 3 ∨ j = 4 ∨ j = 5 := by omega
              rcases hcj with rfl | rfl | rfl | rfl | rfl | rfl
              all_goals exact hd ⟨_, .phase⟩ (by simp) rfl
            obtain ⟨hg, ho'⟩ := w5 (dall 5 (by omega)) (Dn.not hi hL)
            have hkk := HW.out.keptG _ hg
            have q0 : u.cell? ⟨w.heap.size + 1, 0, none⟩ = some v := hkk.cell rfl
            have fq0 : u.frozen? ⟨w.heap.size + 1, 0, none⟩ = false := hkk.free
            obtain ⟨A9, c9, rfl⟩ := own_slK' ho'
            clear hkk
            go_wp2_with fail
            refine ⟨by simp [hsz], fun _ j hj => (dall j hj).stay, fun h => (k5 ((h.set).resolve_left (by decide))).imp Dn.stay Dn.stay, _, _, _, _, _, _, rfl, ?_⟩
            simp only [dn_not (L := L) (i := 6) (j := 0) (by decide), dn_not (L := L) (i := 6) (j := 1) (by decide), dn_not (L := L) (i := 6) (j := 2) (by decide), dn_not (L := L) (i := 6) (j := 3) (by decide), dn_not (L := L) (i := 6) (j := 4) (by decide), dn_not (L := L) (i := 6) (j := 5) (by decide), dn_yes (L := L) (i := 6) hi]
            exact ⟨fun _ => by first | rfl | trivial, fun _ => by first | rfl | trivial, fun _ => by first | rfl | trivial, fun _ => by first | rfl | trivial, fun _ => by first | rfl | trivial, fun h => absurd (dall 4 (by omega)) h, fun _ h => absurd (dall 5 (by omega)) h, fun _ h => absurd trivial h, fun _ => HW.out.more _ ho' hg⟩
        case rend =>
          intro L x u hI hr
          obtain ⟨hsz, -, -, s18, s19, s20, s21, s22, s23, rfl, -, -, -, -, -, -, -, -, e6⟩ := hI
          have d0 : Dn L 0 := ready_nil hr hsz (i := 0) rfl (by simp)
          have d1 : Dn L 1 := ready_nil hr hsz (i := 1) rfl (by simp)
          have d2 : Dn L 2 := ready_nil hr hsz (i := 2) rfl (by simp)
          have d3 : Dn L 3 := ready_nil hr hsz (i := 3) rfl (by simp [d1, d2])
          have d4 : Dn L 4 := ready_nil hr hsz (i := 4) rfl (by simp [d3])
          have d5 : Dn L 5 := ready_nil hr hsz (i := 5) rfl (by simp [d0, d4])
          have d6 : Dn L 6 := ready_nil hr hsz (i := 6) rfl (by simp [d0, d1, d2, d3, d4, d5])
          have HN := Lib.hid (e6 d6)
          clear e6
          go_wp2
          go_roundw
          case rel =>
            (repeat apply Exists.intro)
            exact ⟨⟨k + 1, s23, by omega, by go_num, fun j hj => (by by_cases e : j = k; exact e ▸ hp; exact HNF.out j (by omega)), HN⟩, rfl⟩
          case measure => simp [intOf]; omega
    · obtain rfl : k = t.size := by omega
      have x0 : wr.cell? ⟨w.heap.size + 1, 0, none⟩ = some v := HW.out.kept.cell rfl
      have y0 : wr.cell? ⟨w.heap.size, 0, none⟩ = some (.string ⟨#[]⟩) := HW.out.slot.cell rfl
      have fy0 : wr.frozen? ⟨w.heap.size, 0, none⟩ = false := HW.out.slot.free
      have hT : t.data.toList.take t.size = t.data.toList := List.take_of_length_le (by rw [hlen]; exact Nat.le_refl _)
      have hcv := conv_own (src := 22) (dst := 9) Tryz.underlying22 Tryz.underlying5 Tryz.underlying9 HW.out.own
      rw [hT] at hcv
      have hcut : cutTo p t.data.toList = t.data.toList := cutTo_all fun h => HNF.out p.toNat (by omega) (by omega)
      have HCUT := Lib.hid hcut
      clear hT hcut
      go_wp2_with fail
      refine leaves_cons (f := 197) (args := #[.pointer (some ⟨w.heap.size + 1, 0, none⟩), .pointer (some ⟨w.heap.size, 0, none⟩)]) (by simp) (by simp [go_sem]) ?_
      refine (catchP_idle ⟨w.heap.size + 1, 0, none⟩ ⟨w.heap.size, 0, none⟩ _).mono ?_
      rintro e u' w'' ⟨rfl, rfl, rfl⟩
      simp only [Leaves, settle]
      have y1 : ((wr.setCell ⟨w.heap.size, 0, none⟩ (.string (bstr t.data.toList))).alloc (.cells #[] 238)).cell? ⟨w.heap.size, 0, none⟩ = some (.string (bstr t.data.toList)) := ((HW.out.slot.set (j := 0) _).alloc _).cell rfl
      refine ⟨.string (bstr t.data.toList), ?_, by rw [HCUT.out], (HW.out.bel.setCell (by dsimp only; omega) _).alloc (by have := HW.out.bel.size; simpa [World.setCell] using this) _⟩
      simp [results, Tryz.results133, go_sem, y1]
end Go.Proofs.YtloaeglmngcenaaGreatDoor

namespace Go.Proofs.YtloaeglmngcenaaGreatDoor
open Go.RowKit
open Bt (Rc)

theorem times_nil {X : List Rc} {s : Int} (h : ¬ (hRight X = true ∧ 0 ≤ s ∧ s ≤ 5)) : timesOf X s = [] := by unfold timesOf; rw [if_neg h]
theorem times_yes {X : List Rc} {s : Int} (h : hRight X = true ∧ 0 ≤ s ∧ s ≤ 5) : timesOf X s = timesTo X s (floorR X) X.length := by unfold timesOf; rw [if_pos h]
theorem Fr.below {B base : Nat} {v : Value} {w w' : World} {n size : Nat} {e : TypeId} {xs : List Value} (h : Fr B v w w') (ho : w.ownsRow base e size v n xs) (hb : B ≤ base) (hs : B ≤ w.heap.size) : Below B w w' :=
  ⟨h.os, h.tape, h.output, h.size, fun k hk => h.block k (by omega) (by omega) (fun e => by have := (own_block_ltR ho e).1; omega)⟩

end Go.Proofs.YtloaeglmngcenaaGreatDoor

namespace Go.Proofs.YtloaeglmngcenaaGreatDoor
open Go.RowKit
open Bt (Rc)

theorem rcEq_iff {a b : Rc} : rcEq a b = true ↔ a = b := by
  obtain ⟨k, s, q, t, o, d⟩ := a
  obtain ⟨k', s', q', t', o', d'⟩ := b
  simp only [rcEq, Bool.and_eq_true, beq_iff_eq, Rc.mk.injEq]
  constructor
  · rintro ⟨h1, h2, h3, h4, h5, h6⟩
    rw [ByteArray.toList_eq, ByteArray.toList_eq] at h6
    refine ⟨h1, h2, h3, h4, h5, ?_⟩
    rw [← bstr_of d, ← bstr_of d', h6]
  · rintro ⟨h1, h2, h3, h4, h5, h6⟩
    exact ⟨h1, h2, h3, h4, h5, by rw [h6]⟩

set_option maxHeartbeats 4000000 in
set_option maxRecDepth 100000 in
theorem timesFrom_any (A : Option Addr) (n ca : Nat) (X : List Rc) (f : Int) (w : World) (hr : hRight X = true) (hA : RdRc w w.heap.size A n X) :
    Calls Tryz.prog 246 #[.slice A n ca, .int .i64 f] w (RetNs w (tmsTo X f n)) := by
  have hn : n ≤ 48 := by rw [← hA.1]; exact hRight_len hr
  have HL := Lib.hid hA.1
  have HA := Lib.hid hA; have HR := Lib.hid hr; clear hA hr
  go_enter Tryz.func246, Tryz.ntmps246
  go_wp2_with fail
  have hb4 : Below w.heap.size w (w.alloc (.cells #[.slice none 0 0] 276)) := (Below.refl _ _).alloc (Nat.le_refl _) _
  have k4 := isBlk_new w 276 [.slice none 0 0]
  have hs4 : w.heap.size + 1 ≤ (w.alloc (.cells #[.slice none 0 0] 276)).heap.size := by simp
  change IsBlk (w.alloc (.cells #[.slice none 0 0] 276)) _ _ _ at k4
  generalize w.alloc (.cells #[.slice none 0 0] 276) = W4 at hb4 k4 hs4 ⊢
  have HB4 := Lib.hid hb4
  refine (add_end w.heap.size (.slice none 0 0) (w.heap.size + 1) [] f W4 (by simp) (by omega) hs4 (fun a b _ h => absurd h (by simp)) (fun i hc => .inr (by have := hc.le; simp at this; simp; omega)) k4 (World.ownsRow_nil _ _ _ _)).mono ?_
  rintro e w5 ⟨rv, v5, T5, rfl, had, hbl5, how5, hfr5, -⟩
  have hT5 : T5 = [f] := (upw_nil f).added had
  subst hT5
  have HBL5 := Lib.hid hbl5; have HOW5 := Lib.hid how5
  have HW5 : Hid (Below w.heap.size w w5) := hb4.trans (hfr5.below (World.ownsRow_nil W4 (w.heap.size + 1) 2 1) (by omega) (by omega))
  clear hbl5 how5 hfr5 had hb4 k4
  go_wp2
  go_loopw [12] (fun i wr => ∃ (k : Nat) (v : Value), k ≤ n ∧ i = .int .i64 (k : Nat) ∧ IsBlk wr w.heap.size 276 [v] ∧ wr.ownsRow (w.heap.size + 1) 2 1 v (tmsTo X f k).length ((tmsTo X f k).map numV) ∧ Below w.heap.size w wr) (fun i _ => n - (intOf i).toNat)
  case atStart => exact ⟨0, v5, by omega, rfl, HBL5.out, HOW5.out, HW5.out⟩
  case round =>
    obtain ⟨k, v, hk, rfl, hblk, hown, hbel⟩ := hrel
    have HBL := Lib.hid hblk; have HOW := Lib.hid hown; have HW := Lib.hid hbel
    have hzr : w.heap.size < wr.heap.size := hblk.lt
    clear hblk hown
    by_cases hlt : k < n
    · obtain ⟨g, off, rfl, hg, hc0, hc1, hc2, hc3, hc4, hc5⟩ := ((HA.out.below hbel)).at hlt
      have HYE := Lib.hid (fun h => tmsTo_yes (X := X) (f := f) (k := k) h)
      have HNO := Lib.hid (fun h => tmsTo_no (X := X) (f := f) (k := k) h)
      have HU : Hid (f ≤ (X.getD k Rc.zero).t → Upw (tmsTo X f k) (X.getD k Rc.zero).t) := Lib.hid (fun h => tms_next HR.out (by rw [HL.out]; exact hlt) h)
      have hTl := tmsTo_len X f k
      generalize X.getD k Rc.zero = r at *
      generalize tmsTo X f k = T at *
      clear hbel
      have hb5 : ∀ o, Below wr.heap.size wr (wr.alloc o) := fun o => (Below.refl _ _).alloc (Nat.le_refl _) _
      have HB5 := Lib.hid hb5
      clear hb5
      by_cases ht : f ≤ r.t
      · have HU' := Lib.hid (HU.out ht)
        have HYE' := Lib.hid (HYE.out ht)
        clear HYE HNO HU
        go_wp2_with fail
        have hb6 := HB5.out (.cells #[.int .i64 r.k, .int .i64 r.s, .int .i64 r.q, .int .i64 r.t, .int .i64 r.o, .string r.d] 34)
        generalize wr.alloc (.cells #[.int .i64 r.k, .int .i64 r.s, .int .i64 r.q, .int .i64 r.t, .int .i64 r.o, .string r.d] 34) = w6 at hb6 ⊢
        have HBL6 := Lib.hid (HBL.out.below hb6 HBL.out.lt)
        have HOW6 := Lib.hid (own_belowR HOW.out hb6)
        have HW6 := Lib.hid (HW.out.trans (hb6.mono (by omega)))
        have hz6 : w.heap.size < w6.heap.size := HBL6.out.lt
        clear hb6
        refine (add_end w.heap.size v (w.heap.size + 1) T r.t w6 (by omega) (by omega) (by omega) HU'.out.srt HU'.out.ends HBL6.out HOW6.out).mono ?_
        rintro e w7 ⟨rv, v', T', rfl, had, hbl7, how7, hfr7, -⟩
        have hT' := HU'.out.added had
        subst hT'
        have HBL7 := Lib.hid hbl7; have HOW7 := Lib.hid how7
        have HW7 := Lib.hid (HW6.out.trans (hfr7.below HOW6.out (by omega) (by omega)))
        clear hbl7 how7 hfr7 had
        go_wp2
        go_roundw
        case rel => exact ⟨k + 1, v', by omega, by go_num, HBL7.out, by rw [HYE'.out]; exact HOW7.out, HW7.out⟩
        case measure => simp [intOf]; omega
      · have HNO' := Lib.hid (HNO.out ht)
        have ht' : r.t < f := by omega
        clear ht HYE HNO HU
        go_wp2
        go_roundw
        case rel => exact ⟨k + 1, v, by omega, by go_num, HBL.out.alloc _, by rw [HNO'.out]; exact own_belowR HOW.out (HB5.out _), HW.out.trans ((HB5.out _).mono (by omega))⟩
        case measure => simp [intOf]; omega
    · obtain rfl : k = n := by omega
      obtain ⟨Av, cv, rfl⟩ := own_slice HOW.out
      have hv : wr.cell? ⟨w.heap.size, 0, none⟩ = some (.slice Av (tmsTo X f k).length cv) := HBL.out.cell rfl
      clear hbel
      go_wp2
      go_ret
      exact ⟨Av, cv, rfl, (owNs_of_own HOW.out).mono (by omega) (Nat.le_refl _), HW.out⟩

theorem cut_mem {L : List Int} {x : Int} {i : Nat} (hS : Srt L) (hc : Cut L x i) : (i < L.length ∧ L.getD i 0 = x) ↔ x ∈ L := by
  constructor
  · rintro ⟨h1, h2⟩; rw [← h2]; exact getD_lt h1
  · intro h
    obtain ⟨j, hj, hjx⟩ := mem_getD h 0
    have e : i = j := by
      rcases Nat.lt_trichotomy i j with h | h | h
      · have h1 := hc.hi i (Nat.le_refl _) (by omega); have h2 := hS i j h hj; omega
      · exact h
      · have h1 := hc.lo j h; omega
    subst e; exact ⟨hj, hjx⟩
set_option maxHeartbeats 1000000 in
theorem has_any (B : Nat) (A : Option Addr) (cap : Nat) (L : List Int) (x : Int) (w : World) (hn : L.length ≤ 1048576) (hS : Srt L) (hB : w.cell? ⟨B, 0, none⟩ = some (.slice A L.length cap)) (hA : RdNs w w.heap.size A L.length L) :
    Calls Tryz.prog 250 #[.pointer (some ⟨B, 0, none⟩), .int .i64 x] w fun e w' => e = .returned (.bool (decide (x ∈ L))) ∧ w = w' := by
  have HA := Lib.hid hA; have HS := Lib.hid hS
  clear hA hS
  go_enter Tryz.func250, Tryz.ntmps250
  go_wp2_with fail
  refine (search_any A L.length cap L x w hn HS.out HA.out).mono ?_
  rintro e w1 ⟨i, hcut, rfl, rfl⟩
  have HC : Hid (decide (i < L.length ∧ L.getD i 0 = x) = decide (x ∈ L)) := by show _ = _; exact decide_eq_decide.2 (cut_mem HS.out hcut)
  rw [HC.out]
  clear hcut
  go_wp2
  go_ret
  exact ⟨rfl, rfl⟩

/-- what the test that neededTest gives back holds on to -/
structure Held (w : World) (B3 B4 : Nat) (fl : Rc) (L : List Int) : Prop where
  b3 : IsBlk w B3 34 (recC fl)
  srt : Srt L
  len : L.length ≤ 1048576
  b4 : ∃ A cap, IsBlk w B4 276 [.slice A L.length cap] ∧ RdNs w w.heap.size A L.length L
theorem Held.below {w w' : World} {B3 B4 : Nat} {fl : Rc} {L : List Int} (h : Held w B3 B4 fl L) (hb : Below w.heap.size w w') : Held w' B3 B4 fl L := by
  obtain ⟨A, cap, h1, h2⟩ := h.b4
  refine ⟨h.b3.below hb h.b3.lt, h.srt, h.len, A, cap, h1.below hb h1.lt, ?_⟩
  have := h2.below hb
  exact ⟨this.1, fun hn => by obtain ⟨g, h3, h4, h5⟩ := this.2 hn; exact ⟨g, h3, Nat.lt_of_lt_of_le h4 hb.size, h5⟩⟩
def tstB (fl : Rc) (L : List Int) (r : Rc) : Bool := rcEq r fl || decide (r.q ∈ L)
set_option maxHeartbeats 1000000 in
set_option maxRecDepth 100000 in
theorem test_any (B3 B4 : Nat) (fl r : Rc) (L : List Int) (w : World) (hH : Held w B3 B4 fl L) :
    Calls Tryz.prog 249 #[recV r, .pointer (some ⟨B3, 0, none⟩), .pointer (some ⟨B4, 0, none⟩)] w fun e w' => e = .returned (.bool (tstB fl L r)) ∧ Below w.heap.size w w' := by
  have hne := equalIn_rec r fl
  have hgu := rec_guard
  have HH := Lib.hid (hH.below ((Below.refl _ w).alloc (Nat.le_refl _) (.cells #[.int .i64 r.k, .int .i64 r.s, .int .i64 r.q, .int .i64 r.t, .int .i64 r.o, .string r.d] 34)))
  have hlt3 := hH.b3.lt
  clear hH
  obtain ⟨y0, y1, y2, y3, y4, y5⟩ := rcCells HH.out.b3
  have HB : Hid (∀ o, Below w.heap.size w (w.alloc o)) := fun o => (Below.refl _ _).alloc (Nat.le_refl _) _
  have HT : Hid (tstB fl L r = (rcEq r fl || decide (r.q ∈ L))) := Lib.hid rfl
  obtain ⟨O, hO⟩ : ∃ O, O = tstB fl L r := ⟨_, rfl⟩
  rw [← hO] at HT ⊢
  clear hO
  cases he : rcEq r fl with
  | true =>
    have HO : Hid (O = true) := by show _ = _; rw [HT.out, he]; rfl
    rw [he] at hne
    clear he HT
    go_enter Tryz.func249, Tryz.ntmps249
    go_wp2
    go_ret
    exact ⟨ret_b HO.out.symm, HB.out _⟩
  | false =>
    have HO : Hid (O = decide (r.q ∈ L)) := by show _ = _; rw [HT.out, he]; rfl
    rw [he] at hne
    clear he HT
    obtain ⟨A, cap, k4, hL⟩ := HH.out.b4
    have c4 := k4.cell (j := 0) rfl
    have HL := Lib.hid hL
    clear k4 hL
    go_enter Tryz.func249, Tryz.ntmps249
    go_wp2_with fail
    refine (has_any B4 A cap L r.q _ HH.out.len HH.out.srt c4 HL.out).mono ?_
    rintro e w2 ⟨rfl, rfl⟩
    generalize decide (r.q ∈ L) = bb at HO
    go_wp2
    go_ret
    exact ⟨ret_b HO.out.symm, HB.out _⟩
end Go.Proofs.YtloaeglmngcenaaGreatDoor

namespace Go.Proofs.YtloaeglmngcenaaGreatDoor
open Go.RowKit Go.Shelf
open Bt (Rc)
attribute [local go_sem] Oper.semAt_some

/-- the marks that ranges over a function leave among a function's deferred calls -/
def mkD (D : Nat) : Deferred := { target := .collected D, args := #[] }
structure MarkD (wr : World) (Ds : List Nat) : Prop where
  down : Ds.Pairwise (· > ·)
  held : ∀ D ∈ Ds, wr.heap[D]? = some (.deferred (some []))
theorem MarkD.lt {wr : World} {Ds : List Nat} (h : MarkD wr Ds) : ∀ D ∈ Ds, D < wr.heap.size := fun D hD => (Array.getElem?_eq_some_iff.1 (h.held D hD)).1
theorem leaves_marks {F : Fence} {n : Nat} {P : Program} {fn : Func} {tmps : Array Value} {R : Ending → World → Prop} : ∀ (Ds : List Nat) (w : World), MarkD w Ds →
    (∀ w' : World, w'.os = w.os → w'.tape = w.tape → w'.output = w.output → w'.heap.size = w.heap.size → (∀ k, k ∉ Ds → w'.heap[k]? = w.heap[k]?) → LeavesInM F n P fn tmps R [] .returning w') →
    LeavesInM F n P fn tmps R (Ds.map mkD) .returning w := by
  intro Ds
  induction Ds with
  | nil => intro w _ h; exact h w rfl rfl rfl rfl (fun _ _ => rfl)
  | cons D Ds ih =>
    intro w hM h
    have hD := hM.held D (List.mem_cons_self ..)
    refine ⟨by simp, .inl ⟨D, _, rfl, run_takeDeferred hD, ?_⟩⟩
    have hp := List.pairwise_cons.1 hM.down
    refine ih _ ⟨hp.2, fun D' hD' => ?_⟩ fun w' h1 h2 h3 h4 h5 => h w' h1 h2 h3 (by rw [h4]; simp) fun k hk => ?_
    · rw [World.putObj_heap_other (fun e => by have := hp.1 D' hD'; omega)]; exact hM.held D' (List.mem_cons_of_mem _ hD')
    · rw [h5 k (fun e => hk (List.mem_cons_of_mem _ e)), World.putObj_heap_other (fun e => hk (by rw [e]; exact List.mem_cons_self ..))]

theorem Fr.trans {B : Nat} {v v0 : Value} {w0 w w' : World} (h : Fr B v0 w0 w) (k : Fr B v w w') (hv : ∀ q, v.ownBlock = some q → v0.ownBlock = some q ∨ w0.heap.size ≤ q) : Fr B v0 w0 w' :=
  ⟨k.os.trans h.os, k.tape.trans h.tape, k.output.trans h.output, Nat.le_trans h.size k.size, fun j h1 h2 h3 => (k.block j (Nat.lt_of_lt_of_le h1 h.size) h2 (fun e => by rcases hv j e with h' | h'; exact h3 h'; omega)).trans (h.block j h1 h2 h3)⟩
theorem Fr.of_below {B : Nat} {v : Value} {w w' : World} (h : Below w.heap.size w w') : Fr B v w w' := ⟨h.os, h.tape, h.output, h.size, fun k hk _ _ => h.block k hk⟩

/-- what neededTest's loops keep: the list L in its box B4, the marks Ds; nothing else of wT has turned -/
structure NInv (B4 : Nat) (wT : World) (v : Value) (L : List Int) (Ds : List Nat) (wr : World) : Prop where
  box : IsBlk wr B4 276 [v]
  own : wr.ownsRow wT.heap.size 2 1 v L.length (L.map numV)
  fr : Fr B4 (.slice none 0 0) wT wr
  marks : MarkD wr Ds
  above : ∀ D ∈ Ds, wT.heap.size ≤ D
theorem NInv.row {B4 : Nat} {wT wr : World} {v : Value} {L : List Int} {Ds : List Nat} (h : NInv B4 wT v L Ds wr) : ∀ q, v.ownBlock = some q → wT.heap.size ≤ q ∧ q < wr.heap.size ∧ ∃ c t, wr.heap[q]? = some (.cells c t (0, 0)) := fun q hq => by
  have h1 := own_block_ltR h.own hq
  refine ⟨h1.1, h1.2, ?_⟩
  rcases h.own.2 with ⟨h0, -⟩ | ⟨g, cap, cur, hv, hb, hh, -⟩
  · rw [h0] at hq; cases hq
  · rw [hv] at hq; simp [Value.ownBlock] at hq; subst hq; exact ⟨cur, _, hh⟩
theorem NInv.below {B4 : Nat} {wT wr wr' : World} {v : Value} {L : List Int} {Ds : List Nat} (h : NInv B4 wT v L Ds wr) (hb : Below wr.heap.size wr wr') : NInv B4 wT v L Ds wr' :=
  ⟨h.box.below hb h.box.lt, own_belowR h.own hb, h.fr.trans (Fr.of_below (v := .slice none 0 0) hb) (fun q e => by cases e), ⟨h.marks.down, fun D hD => (hb.block D (h.marks.lt D hD)).trans (h.marks.held D hD)⟩, h.above⟩
theorem NInv.add {B4 : Nat} {wT wr wr' : World} {v v' : Value} {L L' : List Int} {Ds : List Nat} (h : NInv B4 wT v L Ds wr) (hk : IsBlk wr' B4 276 [v']) (ho : wr'.ownsRow wT.heap.size 2 1 v' L'.length (L'.map numV)) (hf : Fr B4 v wr wr') : NInv B4 wT v' L' Ds wr' := by
  refine ⟨hk, ho, h.fr.trans hf (fun q e => .inr (h.row q e).1), ⟨h.marks.down, fun D hD => ?_⟩, h.above⟩
  have hD' := h.marks.held D hD
  rw [hf.block D (h.marks.lt D hD) (fun e => ?_) (fun e => ?_)]
  · exact hD'
  · subst e; have hx := h.box; unfold IsBlk at hx; rw [hx] at hD'; cases hD'
  · obtain ⟨-, -, c, t, hc⟩ := h.row D e; rw [hc] at hD'; cases hD'
theorem own_keep {w w' : World} {base n size : Nat} {e : TypeId} {v : Value} {xs : List Value} (h : w.ownsRow base e size v n xs) (hb : ∀ g, v.ownBlock = some g → w'.heap[g]? = w.heap[g]?) : w'.ownsRow base e size v n xs := by
  rcases h.2 with ⟨rfl, rfl⟩ | ⟨g, cap, cur, rfl, hb', hh, r⟩
  · exact ⟨h.1, .inl ⟨rfl, rfl⟩⟩
  · exact ⟨h.1, .inr ⟨g, cap, cur, rfl, hb', (hb g rfl).trans hh, r⟩⟩
theorem NInv.grown {B4 B : Nat} {wT wr wr' : World} {v : Value} {L : List Int} {Ds : List Nat} {row : Option Nat} (h : NInv B4 wT v L Ds wr) (hg : wr.grownBy wr' row) (hr : ∀ r, row = some r → B ≤ r ∧ ∃ o : Obj, wr.heap[r]? = some o ∧ o.isCells = false) (hB : wT.heap.size ≤ B) (hD : ∀ D ∈ Ds, D < B) : NInv B4 wT v L Ds wr' := by
  refine ⟨h.box.kept hg (fun r e => (hr r e).2), own_keep h.own fun g hg' => ?_, ⟨hg.os.trans h.fr.os, hg.tape.trans h.fr.tape, hg.output.trans h.fr.output, Nat.le_trans h.fr.size hg.size, fun k h1 h2 h3 => ?_⟩, ⟨h.marks.down, fun D hD' => ?_⟩, h.above⟩
  · obtain ⟨-, hlt, c, t, hc⟩ := h.row g hg'
    refine hg.block g hlt fun e => ?_
    obtain ⟨-, o, ho, hc'⟩ := hr g e.symm
    rw [hc] at ho; cases ho; cases hc'
  · have hs := h.fr.size
    refine (hg.block k (by omega) fun e => ?_).trans (h.fr.block k h1 h2 h3)
    have := (hr k e.symm).1; omega
  · refine (hg.block D (h.marks.lt D hD') fun e => ?_).trans (h.marks.held D hD')
    have := (hr D e.symm).1; have := hD D hD'; omega
theorem NInv.keeps {B4 : Nat} {wT wr wr' : World} {v : Value} {L : List Int} {Ds : List Nat} (h : NInv B4 wT v L Ds wr) (hf : Fr B4 v wr wr') : KeepsOthers wr wr' := by
  refine ⟨hf.size, fun k o hk ho => ?_⟩
  rw [hf.block k (Array.getElem?_eq_some_iff.1 hk).1 (fun e => ?_) (fun e => ?_)]
  · exact hk
  · subst e; have hx := h.box; unfold IsBlk at hx; rw [hx] at hk; cases hk; cases ho
  · obtain ⟨-, -, c, t, hc⟩ := h.row k e; rw [hc] at hk; cases hk; cases ho
/-- Seqs in the trails of the first s sectors at time t -/
def SeenAt (X : List Rc) (t : Int) (s : Nat) (q : Int) : Prop := ∃ s', s' < s ∧ ∃ r ∈ trlR X (s' : Int) X.length t, r.q = q

set_option maxRecDepth 100000 in
set_option maxHeartbeats 8000000 in
theorem neededTest_any (A : Option Addr) (n ca : Nat) (X : List Rc) (w : World) (hr : hRight X = true) (hca : n ≤ ca) (hA : RdRc w w.heap.size A n X) :
    Calls Tryz.prog 199 #[.slice A n ca] w fun e w' => ∃ B3 B4 L, e = .returned (.func (.func 249) #[] #[.pointer (some ⟨B3, 0, none⟩), .pointer (some ⟨B4, 0, none⟩)]) ∧ Held w' B3 B4 (flR X) L ∧ (∀ q, q ∈ L ↔ Seen X (tmsTo X (floorR X) X.length) q) ∧ Below w.heap.size w w' := by
  have hn : n ≤ 48 := by rw [← hA.1]; exact hRight_len hr
  have HL := Lib.hid hA.1
  have HA := Lib.hid hA; have HR := Lib.hid hr; clear hA hr
  refine (callsIn_wide (n := 3)).1 ?_
  refine callsIn_of_wp_marks Tryz.func199 rfl trivial ?_ rfl
  simp only [Tryz.ntmps199, List.size_toArray, List.length_cons, List.length_nil, Nat.reduceAdd, Nat.reduceSub, Array.replicate_succ, Array.replicate_zero, List.push_toArray, List.append_toArray, List.nil_append, List.cons_append]
  gi_wp2_with fail
  refine ⟨trivial, ?_⟩
  refine (callsIn_wide.2 (floorRec_any A n ca X w (by omega) HA.out)).mono ?_
  rintro e w1 ⟨rfl, hb1⟩
  have HFL : Hid (flR X = floorRecTo X n) := by show floorRecTo X X.length = _; rw [HL.out]
  have HFO : Hid ((floorRecTo X n).o = floorR X) := by show _ = floorTo X X.length; rw [floorRecTo_o, HL.out]
  obtain ⟨fl, hfl⟩ : ∃ fl, fl = floorRecTo X n := ⟨_, rfl⟩
  rw [← hfl] at HFL HFO ⊢
  clear hfl
  have k3 := (isBlk_new w1 34 (recC fl)).alloc (.cells #[.slice none 0 0] 276)
  have k4 := isBlk_new (w1.alloc (.cells #[.int .i64 fl.k, .int .i64 fl.s, .int .i64 fl.q, .int .i64 fl.t, .int .i64 fl.o, .string fl.d] 34)) 276 [.slice none 0 0]
  have hb2 : Below w1.heap.size w1 ((w1.alloc (.cells #[.int .i64 fl.k, .int .i64 fl.s, .int .i64 fl.q, .int .i64 fl.t, .int .i64 fl.o, .string fl.d] 34)).alloc (.cells #[.slice none 0 0] 276)) := ((Below.refl _ _).alloc (Nat.le_refl _) _).alloc (by simp) _
  change IsBlk ((w1.alloc (.cells #[.int .i64 fl.k, .int .i64 fl.s, .int .i64 fl.q, .int .i64 fl.t, .int .i64 fl.o, .string fl.d] 34)).alloc (.cells #[.slice none 0 0] 276)) _ _ _ at k3 k4
  rw [size_alloc] at k4
  gi_wp2_with fail
  generalize (w1.alloc (.cells #[.int .i64 fl.k, .int .i64 fl.s, .int .i64 fl.q, .int .i64 fl.t, .int .i64 fl.o, .string fl.d] 34)).alloc (.cells #[.slice none 0 0] 276) = w2 at k3 k4 hb2 ⊢
  have HB2 := Lib.hid (hb1.trans (hb2.mono hb1.size))
  have h12 := hb1.size
  refine ⟨trivial, ?_⟩
  refine (callsIn_wide.2 (timesFrom_any A n ca X fl.o w2 HR.out (HA.out.next HB2.out))).mono ?_
  rintro e wT ⟨At, ct, rfl, hoT, hbT⟩
  obtain ⟨T, hT⟩ : ∃ T, T = tmsTo X fl.o n := ⟨_, rfl⟩
  have HT : Hid (T = tmsTo X (floorR X) X.length) := by show _ = _; rw [hT, HFO.out, HL.out]
  have hTl : T.length ≤ 49 := by rw [hT]; have := tmsTo_len X fl.o n; omega
  rw [← hT] at hoT ⊢
  clear hT
  obtain ⟨nt, hnt⟩ : ∃ nt, nt = T.length := ⟨_, rfl⟩
  rw [← hnt] at hoT hTl ⊢
  have HNT := Lib.hid hnt
  have HKT := Lib.hid (k3.below hbT k3.lt)
  have HK4 := Lib.hid (k4.below hbT k4.lt)
  have HBT := Lib.hid (HB2.out.trans (hbT.mono HB2.out.size))
  have HTN := Lib.hid hoT
  have h24 : w1.heap.size + 1 < w2.heap.size := k4.lt
  have h4T : w1.heap.size + 1 < wT.heap.size := HK4.out.lt
  have HLE := Lib.hid h12
  clear hnt k3 k4 hb1 hb2 hbT hoT
  gi_wp2
  have HN0 : Hid (NInv (w1.heap.size + 1) wT (.slice none 0 0) [] [] wT) := ⟨HK4.out, World.ownsRow_nil _ _ _ _, ⟨rfl, rfl, rfl, Nat.le_refl _, fun _ _ _ _ => rfl⟩, ⟨List.Pairwise.nil, fun D h => by cases h⟩, fun D h => by cases h⟩
  refine wpIn_loop (fun a' wr => ∃ (u6 u7 u17 u18 u19 u20 u21 u22 u23 u24 u25 u26 u31 u32 : Value) (j : Nat) (v : Value) (L : List Int) (Ds : List Nat), (j ≤ nt ∧ Srt L ∧ L.length ≤ 288 * j ∧ (∀ q, q ∈ L ↔ Seen X (T.take j) q) ∧ NInv (w1.heap.size + 1) wT v L Ds wr) ∧
      a' = { tmps := #[.slice A n ca, undef, .nilFunc, .pointer (some ⟨w1.heap.size, 0, none⟩), .pointer (some ⟨w1.heap.size + 1, 0, none⟩), undef, u6, u7, undef, .slice A n ca, recV fl, .slice A n ca, .pointer (some ⟨w1.heap.size, 4, none⟩), .int .i64 fl.o, .slice At nt ct, .int .i64 (nt : Int), .int .i64 (j : Int), u17, u18, u19, u20, u21, u22, u23, u24, u25, u26, undef, undef, undef, undef, u31, u32, undef], defers := Ds.map mkD }) (fun a' _ => nt - (intOf (a'.tmps.getD 16 undef)).toNat) ?_ ?_
  · exact ⟨_, _, _, _, _, _, _, _, _, _, _, _, _, _, 0, _, [], [], ⟨by omega, fun a b _ h => absurd h (by simp), by simp, fun q => ⟨fun h => absurd h (by simp), fun ⟨t, ht, _⟩ => by simp at ht⟩, HN0.out⟩, rfl⟩
  rintro a' wr ⟨u6, u7, u17, u18, u19, u20, u21, u22, u23, u24, u25, u26, u31, u32, j, v, L, Ds, ⟨hj, hS, hLl, hLm, hI⟩, rfl⟩
  have HS := Lib.hid hS; have HLM := Lib.hid hLm; have HI := Lib.hid hI
  clear hS hLm hI
  by_cases hjt : j < nt
  case neg =>
    obtain rfl : j = nt := by omega
    gi_wp2
    refine leaves_marks Ds wr HI.out.marks fun w' g1 g2 g3 g4 g5 => ?_
    refine ⟨_, results_tmp rfl _ _ _, ?_⟩
    have hfr := HI.out.fr
    have hno : ∀ (k : Nat) (c : Array Value) (t : TypeId), wr.heap[k]? = some (Obj.cells c t (0, 0)) → w'.heap[k]? = wr.heap[k]? := fun k c t hk => g5 k fun hk' => by
      have := HI.out.marks.held k hk'; rw [hk] at this; cases this
    have k3 : IsBlk wr w1.heap.size 34 (recC fl) := (hfr.block w1.heap.size (by omega) (by omega) (fun e => by cases e)).trans HKT.out
    obtain ⟨Av, cv, rfl⟩ := own_slice HI.out.own
    have ho' : w'.ownsRow wT.heap.size 2 1 (.slice Av L.length cv) L.length (L.map numV) := own_keep HI.out.own fun g hg => by
      obtain ⟨-, -, c, t, hc⟩ := HI.out.row g hg; exact hno g c t hc
    refine ⟨w1.heap.size, w1.heap.size + 1, L, rfl, ⟨?_, HS.out, by omega, Av, cv, (hno _ _ _ HI.out.box).trans HI.out.box, (owNs_of_own ho').rd (Nat.le_refl _)⟩, fun q => ?_, ?_⟩
    · rw [HFL.out]; exact (hno _ _ _ k3).trans k3
    · rw [HLM.out q, ← HT.out, HNT.out, List.take_length]
    · refine ⟨g1.trans (hfr.os.trans HBT.out.os), g2.trans (hfr.tape.trans HBT.out.tape), g3.trans (hfr.output.trans HBT.out.output), by have h1 := HBT.out.size; have h2 := hfr.size; omega, fun k hk => ?_⟩
      have hkT : k < wT.heap.size := by have := HBT.out.size; omega
      rw [g5 k (fun e => by have := HI.out.above k e; omega), hfr.block k hkT (by omega) (fun e => by cases e)]
      exact HBT.out.block k hk
  obtain ⟨gT, rfl, hgl, hgT, hrT⟩ := HTN.out.2 (by omega)
  have HCT : Hid (∀ wr' : World, Fr (w1.heap.size + 1) (.slice none 0 0) wT wr' → wr'.cell? ⟨gT, j, none⟩ = some (.int .i64 (T.getD j 0))) := fun wr' hf => by
    have h := hrT.cell hjt
    rw [World.cell?_of_block (a := ⟨gT, j, none⟩) (hf.block gT hgT (by omega) (fun e => by cases e))]
    exact h
  have hcT := HCT.out wr HI.out.fr
  obtain ⟨t, ht⟩ : ∃ t, t = T.getD j 0 := ⟨_, rfl⟩
  rw [← ht] at hcT
  have HTJ : Hid (∀ q, Seen X (T.take (j + 1)) q ↔ Seen X (T.take j) q ∨ SeenAt X t 6 q) := fun q => by
    rw [take_snoc' 0 (by rw [← HNT.out]; exact hjt), ← ht]
    constructor
    · rintro ⟨t', ht', s, hs, hx⟩
      rcases List.mem_append.1 ht' with h | h
      · exact .inl ⟨t', h, s, hs, hx⟩
      · rw [List.mem_singleton.1 h] at hx; exact .inr ⟨s, hs, hx⟩
    · rintro (⟨t', ht', s, hs, hx⟩ | ⟨s, hs, hx⟩)
      · exact ⟨t', List.mem_append.2 (.inl ht'), s, hs, hx⟩
      · exact ⟨t, List.mem_append.2 (.inr (List.mem_singleton.2 rfl)), s, hs, hx⟩
  clear hrT ht
  gi_wp2
  clear hcT
  refine wpIn_loop (fun a' wx => ∃ (u7 u21 u22 u23 u24 u25 u26 u31 : Value) (s : Nat) (v : Value) (L : List Int) (Ds : List Nat), (s ≤ 6 ∧ Srt L ∧ L.length ≤ 288 * j + 48 * s ∧ (∀ q, q ∈ L ↔ Seen X (T.take j) q ∨ SeenAt X t s q) ∧ NInv (w1.heap.size + 1) wT v L Ds wx) ∧
      a' = { tmps := #[.slice A n ca, undef, .nilFunc, .pointer (some ⟨w1.heap.size, 0, none⟩), .pointer (some ⟨w1.heap.size + 1, 0, none⟩), undef, .int .i64 t, u7, undef, .slice A n ca, recV fl, .slice A n ca, .pointer (some ⟨w1.heap.size, 4, none⟩), .int .i64 fl.o, .slice (some ⟨gT, 0, none⟩) nt ct, .int .i64 (nt : Int), .int .i64 (j : Int), .bool true, .pointer (some ⟨gT, j, none⟩), .int .i64 t, .int .i64 (s : Int), u21, u22, u23, u24, u25, u26, undef, undef, undef, undef, u31, u32, undef], defers := Ds.map mkD }) (fun a' _ => 6 - (intOf (a'.tmps.getD 20 undef)).toNat) ?_ ?_
  · exact ⟨_, _, _, _, _, _, _, _, 0, v, L, Ds, ⟨by omega, HS.out, by omega, fun q => ⟨fun h => .inl ((HLM.out q).1 h), fun h => by
      rcases h with h | ⟨s', h, -⟩
      · exact (HLM.out q).2 h
      · omega⟩, HI.out⟩, rfl⟩
  clear HS HLM HI hLl
  obtain ⟨wz, hwz⟩ : ∃ wz, wz = wr := ⟨_, rfl⟩
  clear hwz
  rintro a' wr ⟨u7, u21, u22, u23, u24, u25, u26, u31, s, v, L, Ds, ⟨hs, hS, hLl, hLm, hI⟩, rfl⟩
  have HS := Lib.hid hS; have HLM := Lib.hid hLm; have HI := Lib.hid hI
  clear hS hLm hI
  by_cases hs6 : s < 6
  case neg =>
    obtain rfl : s = 6 := by omega
    gi_wp2
    refine ⟨⟨_, _, _, _, _, _, _, _, _, _, _, _, _, _, j + 1, v, L, Ds, ⟨by omega, HS.out, by omega, fun q => (HLM.out q).trans (HTJ.out q).symm, HI.out⟩, rfl⟩, ?_⟩
    simp [intOf]; omega
  have hs0 : (s : Int) < 6 := by omega
  gi_wp2_with fail
  refine ⟨trivial, ?_⟩
  refine (callsIn_wide.2 (trailOf_any A n ca (s : Int) t wr)).mono ?_
  rintro e w3 ⟨rfl, rfl⟩
  have b0 := ((Boxed.new wr 27 (.slice A n ca)).alloc (.cells #[.int .i64 (s : Int)] 2)).alloc (.cells #[.int .i64 t] 2)
  have b1 := (Boxed.new (wr.alloc (.cells #[.slice A n ca] 27)) 2 (.int .i64 (s : Int))).alloc (.cells #[.int .i64 t] 2)
  have b2 := Boxed.new ((wr.alloc (.cells #[.slice A n ca] 27)).alloc (.cells #[.int .i64 (s : Int)] 2)) 2 (.int .i64 t)
  have hb3 : Below wr.heap.size wr (((wr.alloc (.cells #[.slice A n ca] 27)).alloc (.cells #[.int .i64 (s : Int)] 2)).alloc (.cells #[.int .i64 t] 2)) := (((Below.refl _ _).alloc (Nat.le_refl _) _).alloc (by simp) _).alloc (by simp; omega) _
  have hs3 : (((wr.alloc (.cells #[.slice A n ca] 27)).alloc (.cells #[.int .i64 (s : Int)] 2)).alloc (.cells #[.int .i64 t] 2)).heap.size = wr.heap.size + 3 := by simp
  simp only [World.size_alloc] at b1 b2
  generalize ((wr.alloc (.cells #[.slice A n ca] 27)).alloc (.cells #[.int .i64 (s : Int)] 2)).alloc (.cells #[.int .i64 t] 2) = W0 at b0 b1 b2 hb3 hs3 ⊢
  have hI0 := HI.out.below hb3
  have hrow0 : ∀ q, v.ownBlock = some q → q < wr.heap.size := fun q hq => (HI.out.row q hq).2.1
  have hDs : ∀ D ∈ Ds, D < wr.heap.size := HI.out.marks.lt
  have hTr : wT.heap.size ≤ wr.heap.size := HI.out.fr.size
  have hnw : w.heap.size ≤ wT.heap.size := HBT.out.size
  have hR0 : RdRc W0 w.heap.size A n X := by
    have h1 := HA.out.below HBT.out
    refine (h1.below ⟨HI.out.fr.os, HI.out.fr.tape, HI.out.fr.output, HI.out.fr.size, fun k hk => HI.out.fr.block k (by omega) (by omega) (fun e => by cases e)⟩).below (hb3.mono (by omega))
  have h3 : wr.heap.size + 3 ≤ W0.heap.size := by omega
  clear hs3 hb3
  gi_wp2
  refine wpIn_rangeFunc_ownH rfl (by omega) (gf := 270) (lb := #[.pointer (some ⟨wr.heap.size, 0, none⟩), .pointer (some ⟨wr.heap.size + 1 + 1, 0, none⟩), .pointer (some ⟨wr.heap.size + 1, 0, none⟩)]) rfl trivial (enters_of Tryz.func270 (by kernel_rfl) rfl)
    (trail_stops _ (by omega) wr.heap.size (wr.heap.size + 1 + 1) (wr.heap.size + 1) w.heap.size A n ca X (s : Int) t W0 (by omega) hca (by omega) (by omega) (by omega) b0.cell b2.cell b1 hR0) KpB.t (KpB.b (by omega) (by omega)) (Below.refl _ _) (fun _ => rfl)
    (fun pre W => ∃ v' L', ((Srt L' ∧ L'.length ≤ L.length + pre.length ∧ (∀ q, q ∈ L' ↔ q ∈ L ∨ ∃ r ∈ pre, r.q = q)) ∧ NInv (w1.heap.size + 1) wT v' L' Ds W) ∧ ((∀ q, v'.ownBlock = some q → q < wr.heap.size ∨ W0.heap.size ≤ q) ∧ W0.heap.size ≤ W.heap.size))
    (fun _ _ _ => False)
    (fun pre W W' row hx hg hr => by obtain ⟨v', L', ⟨g1, g2⟩, g3, g4⟩ := hx; exact ⟨v', L', ⟨g1, g2.grown hg hr (by omega) (fun D hD => by have := hDs D hD; omega)⟩, g3, Nat.le_trans g4 hg.size⟩)
    (fun _ _ _ _ _ hs _ _ => hs)
    ⟨v, L, ⟨⟨HS.out, by simp, fun q => ⟨.inl, fun h => by rcases h with h | ⟨r, hr, -⟩; exact h; cases hr⟩⟩, hI0⟩, fun q hq => .inl (hrow0 q hq), Nat.le_refl _⟩
    (fun x a' W => ∃ Bx, W0.heap.size ≤ Bx ∧ IsBlk W Bx 34 (recC x) ∧ a' = { tmps := #[.slice A n ca, undef, .nilFunc, .pointer (some ⟨w1.heap.size, 0, none⟩), .pointer (some ⟨w1.heap.size + 1, 0, none⟩), undef, .int .i64 t, .int .i64 (s : Int), .pointer (some ⟨Bx, 0, none⟩), .slice A n ca, recV fl, .slice A n ca, .pointer (some ⟨w1.heap.size, 4, none⟩), .int .i64 fl.o, .slice (some ⟨gT, 0, none⟩) nt ct, .int .i64 (nt : Int), .int .i64 (j : Int), .bool true, .pointer (some ⟨gT, j, none⟩), .int .i64 t, .int .i64 (s : Int), .bool true, .int .i64 (s : Int), .slice A n ca, .int .i64 (s : Int), .int .i64 t, .func (.func 270) #[] #[.pointer (some ⟨wr.heap.size, 0, none⟩), .pointer (some ⟨wr.heap.size + 1 + 1, 0, none⟩), .pointer (some ⟨wr.heap.size + 1, 0, none⟩)], recV x, undef, undef, undef, u31, u32, undef], defers := [] })
    (fun x a' _ X' Y row hs hg hr => by obtain ⟨Bx, h1, h2, h3⟩ := hs; exact ⟨Bx, h1, h2.kept hg (fun r e => (hr r e).2), h3⟩)
    ?assign ?body ?done ?stop
  case assign =>
    rintro l pre x W K ⟨v', L', ⟨g1, g2⟩, g3, g4⟩ hK
    gi_wp2
    exact hK _ _ ((KeepsOthers.alloc _ _).from _) ⟨(Below.refl _ W).alloc (by omega) _, Below.heap_alloc _ _ _ (by omega)⟩ ⟨v', L', ⟨g1, g2.below ((Below.refl _ _).alloc (Nat.le_refl _) _)⟩, g3, by simp; omega⟩ ⟨W.heap.size, g4, isBlk_new W 34 (recC x), rfl⟩
  case body =>
    rintro l pre x a' W hl ⟨r, hr⟩ ⟨v', L', ⟨⟨g1, g1', g1''⟩, g2⟩, g3, g4⟩ ⟨Bx, hBx, kX, rfl⟩ hlt
    obtain ⟨x0, x1, x2, x3, x4, x5⟩ := rcCells kX
    have G1 := Lib.hid g1; have G1'' := Lib.hid g1''; have G2 := Lib.hid g2; have G3 := Lib.hid g3
    have hpl : pre.length ≤ 48 := by omega
    clear g1 g1'' g2 g3
    gi_wp2_with fail
    refine ⟨trivial, ?_⟩
    refine (CallsIn.inRound l (callsIn_wide.2 (add_any (w1.heap.size + 1) v' wT.heap.size L' x.q W (by omega) (by omega) (by omega) G1.out G2.out.box G2.out.own))).mono ?_
    rintro e W' ⟨rv, v2, L2, rfl, had, hbl, how, hfr, hmv⟩
    obtain ⟨hs2, hm2⟩ := added_srt G1.out had
    have hl2 := added_len had
    have hn2 := G2.out.add hbl how hfr
    have hkp := G2.out.keeps hfr
    gi_wp2
    refine ⟨hkp.from _, ⟨⟨hfr.os, hfr.tape, hfr.output, hfr.size, fun k hk => hfr.block k (by omega) (by omega) (fun e => by have := (G2.out.row k e).1; omega)⟩, hfr.block (wr.heap.size + 1) (by omega) (by omega) (fun e => by rcases G3.out _ e with h | h <;> omega)⟩, v2, L2, ⟨⟨hs2, by rw [List.length_append]; simp; omega, fun q => ?_⟩, hn2⟩, fun q hq => ?_, Nat.le_trans g4 hfr.size⟩
    · rw [hm2 q, G1''.out q]
      constructor
      · rintro (h | h | ⟨r', h, h'⟩)
        · exact .inr ⟨x, by simp, h.symm⟩
        · exact .inl h
        · exact .inr ⟨r', by simp [h], h'⟩
      · rintro (h | ⟨r', h, h'⟩)
        · exact .inr (.inl h)
        · rcases List.mem_append.1 h with h | h
          · exact .inr (.inr ⟨r', h, h'⟩)
          · rw [List.mem_singleton.1 h] at h'; exact .inl h'.symm
    · rcases hmv q hq with h | h
      · exact G3.out q h
      · right; omega
  case done =>
    rintro D ys W hD rfl ⟨v', L', ⟨⟨g1, g1', g1''⟩, g2⟩, g3, g4⟩ hK
    have hyl := trlR_len X (s : Int) n t
    have G1 := Lib.hid g1; have G1'' := Lib.hid g1''
    have G5 : Hid (NInv (w1.heap.size + 1) wT v' L' (D :: Ds) W) := ⟨g2.box, g2.own, g2.fr, ⟨List.pairwise_cons.2 ⟨fun D' hD' => by have := hDs D' hD'; show D > D'; omega, g2.marks.down⟩, fun D' hD' => by
      rcases List.mem_cons.1 hD' with rfl | h
      · exact hK
      · exact g2.marks.held D' h⟩, fun D' hD' => by
      rcases List.mem_cons.1 hD' with rfl | h
      · omega
      · exact g2.above D' h⟩
    clear g1 g1'' g2 g3 hK
    gi_wp2
    refine ⟨⟨_, _, _, _, _, _, _, _, s + 1, v', L', D :: Ds, ⟨by omega, G1.out, by omega, fun q => ?_, G5.out⟩, rfl⟩, ?_⟩
    · rw [G1''.out q, HLM.out q]
      constructor
      · rintro ((h | ⟨s', h1, h2⟩) | ⟨r', h1, h2⟩)
        · exact .inl h
        · exact .inr ⟨s', by omega, h2⟩
        · exact .inr ⟨s, by omega, r', by rw [HL.out]; exact h1, h2⟩
      · rintro (h | ⟨s', h1, r', h2, h3⟩)
        · exact .inl (.inl h)
        · by_cases e : s' = s
          · subst e; rw [HL.out] at h2; exact .inr ⟨r', h2, h3⟩
          · exact .inl (.inr ⟨s', by omega, r', h2, h3⟩)
    · simp [intOf]; omega
  case stop =>
    rintro D c pre W _ _ h _
    exact h.elim
end Go.Proofs.YtloaeglmngcenaaGreatDoor

namespace Go.Proofs.YtloaeglmngcenaaGreatDoor
open Go.RowKit
open Bt (Rc)

theorem trail_nil {X : List Rc} {s a : Int} (h : ¬ (hRight X = true ∧ 0 ≤ s ∧ s ≤ 5)) : trailOf X s a = [] := by unfold trailOf; rw [if_neg h]
def seqAt (X : List Rc) (i : Nat) : Int := (X.getD i Rc.zero).q
theorem trail_seqs {X : List Rc} {s a : Int} (h : hRight X = true ∧ 0 ≤ s ∧ s ≤ 5) : trailOf X s a = (trl X s X.length a).map (seqAt X) := by
  unfold trailOf trlR; rw [if_pos h, List.map_map]; rfl
theorem nmF_plcs {P : List Nat} {k : Nat} (h : k < P.length) : nmF (plcs P) k = .int .i64 ((P.getD k 0 : Nat) : Int) := by
  unfold nmF plcs
  simp [List.getD_eq_getElem?_getD, List.getElem?_eq_getElem h]

end Go.Proofs.YtloaeglmngcenaaGreatDoor

namespace Go.Proofs.YtloaeglmngcenaaGreatDoor
open Go.RowKit
open Bt (Rc)

theorem tst_nd {X : List Rc} (hX : hRight X = true) {L : List Int} (hL : ∀ q, q ∈ L ↔ Seen X (tmsTo X (floorR X) X.length) q) {k : Nat} (hk : k < X.length) : tstB (flR X) L (X.getD k Rc.zero) = nd X k := by
  rw [Bool.eq_iff_iff, nd_iff hX hk]
  unfold tstB
  rw [Bool.or_eq_true, rcEq_iff, decide_eq_true_eq, hL]

/-! the model -/
/-- a row of marks -/
def BRow (w : World) (g n : Nat) (f : Nat → Bool) : Prop := Row w g n (fun j => .bool (f j))
theorem kinds_ok {X : List Rc} (hX : hRight X = true) : ∀ i, i < X.length → 1 ≤ (X.getD i Rc.zero).k := fun _ hi => (hRight_at hX hi).1.1
def RetU (w w' : World) (g n : Nat) (P : Nat → Prop) : Prop := ∃ f, BRow w' g n f ∧ (∀ j, j < n → (f j = true ↔ P j)) ∧ Btw g (g + 1) w w'

set_option maxHeartbeats 4000000 in
set_option maxRecDepth 100000 in
theorem l04Mark_any (A : Option Addr) (n ca gm cm : Nat) (X : List Rc) (t : Int) (m : Nat → Bool) (w : World) (hr : hRight X = true) (hA : RdRc w gm A n X) (hM : BRow w gm n m) :
    Calls Tryz.prog 242 #[.agg #[.slice A n ca], .slice (some ⟨gm, 0, none⟩) n cm, .int .i64 t] w fun e w' => (∃ rv, e = .returned rv) ∧ RetU w w' gm n (fun j => m j = true ∨ ∃ s : Nat, s < 6 ∧ j ∈ trl X (s : Int) n t) := by
  have hn : n ≤ 48 := by rw [← hA.1]; exact hRight_len hr
  have HL := Lib.hid hA.1
  have HA := Lib.hid hA; have HR := Lib.hid hr; have HM := Lib.hid hM
  have hgm := Row.lt hM
  clear hA hr hM
  go_enter Tryz.func242, Tryz.ntmps242
  go_wp2
  have k0 := isBlk_new w 29 [.slice A n ca]
  change IsBlk (w.alloc (.cells #[.slice A n ca] 29)) _ _ _ at k0
  have hb0 : Btw gm (gm + 1) w (w.alloc (.cells #[.slice A n ca] 29)) := (Btw.refl _ _ _).alloc _
  have hM0 : BRow (w.alloc (.cells #[.slice A n ca] 29)) gm n m := Row.alloc HM.out _
  generalize w.alloc (.cells #[.slice A n ca] 29) = W at k0 hb0 hM0 ⊢
  have HK0 := Lib.hid k0; have HB0 := Lib.hid hb0; have HM0 := Lib.hid hM0
  clear k0 hb0 hM0
  go_loopw [6] (fun a wr => ∃ (s : Nat) (f : Nat → Bool), s ≤ 6 ∧ a = .int .i64 (s : Nat) ∧ BRow wr gm n f ∧ (∀ j, j < n → (f j = true ↔ (m j = true ∨ ∃ s' : Nat, s' < s ∧ j ∈ trl X (s' : Int) n t))) ∧ Btw gm (gm + 1) w wr ∧ IsBlk wr w.heap.size 29 [.slice A n ca]) (fun a _ => 6 - (intOf a).toNat)
  case atStart => exact ⟨0, m, by omega, rfl, HM0.out, fun j hj => ⟨.inl, fun h => by rcases h with h | ⟨s', h, -⟩; exact h; omega⟩, HB0.out, HK0.out⟩
  case round =>
    obtain ⟨s, f, hs, rfl, hrow, hf, hbw, hblk⟩ := hrel
    have HRO := Lib.hid hrow; have HF := Lib.hid hf; have HBW := Lib.hid hbw; have HBK := Lib.hid hblk
    have hx : wr.cell? ⟨w.heap.size, 0, none⟩ = some (.slice A n ca) := hblk.cell rfl
    have hzr := hbw.size
    have hA2 : RdRc wr wr.heap.size A n X := (HA.out.below (hbw.below (by omega))).mono (by omega)
    have HA2 := Lib.hid hA2
    clear hrow hf hbw hblk hA2
    by_cases hs6 : s < 6
    · go_wp2_with fail
      refine (l04Trail_any A n ca X (s : Int) t wr (by omega) (fun i hi => kinds_ok HR.out i (by rw [HL.out]; exact hi)) HA2.out).mono ?_
      rintro e w2 ⟨A2, c2, rfl, ho2, hb2⟩
      obtain ⟨P, hP⟩ : ∃ P, P = trl X (s : Int) n t := ⟨_, rfl⟩
      have HPL : Hid (∀ i ∈ P, i < n) := fun i hi => by rw [hP] at hi; exact trl_lt X _ _ _ i hi
      have HPE := Lib.hid hP
      have hPl : P.length ≤ 48 := by rw [hP]; have := trl_len X (s : Int) n t; omega
      rw [← hP] at ho2 ⊢
      obtain ⟨np, hnp⟩ : ∃ np, np = (plcs P).length := ⟨_, rfl⟩
      rw [← hnp] at ho2 ⊢
      have hnpl : np = P.length := by rw [hnp, plcs_len]
      have hnp48 : np ≤ 48 := by omega
      have HO2 := Lib.hid ho2
      have HR2 := Lib.hid (Row.below HRO.out hb2 (by have := Row.lt HRO.out; omega))
      have HB2 : Hid (Btw gm (gm + 1) w w2) := HBW.out.trans (Btw.of_below hb2)
      have HK2 := Lib.hid (HBK.out.below hb2 HBK.out.lt)
      have h2 := hb2.size
      have HNP := Lib.hid hnpl
      clear hb2 ho2 hP hnp hnpl hx
      go_wp2
      obtain ⟨wz, hwz⟩ : ∃ wz, wr = wz := ⟨_, rfl⟩
      subst hwz
      go_loopw [8] (fun i wq => ∃ (k : Nat) (f' : Nat → Bool), k ≤ np ∧ i = .int .i64 (k : Nat) ∧ BRow wq gm n f' ∧ (∀ j, j < n → (f' j = true ↔ (f j = true ∨ j ∈ P.take k))) ∧ Btw gm (gm + 1) w2 wq) (fun i _ => np - (intOf i).toNat)
      case atStart => exact ⟨0, f, by omega, rfl, HR2.out, fun j hj => ⟨.inl, fun h => by rcases h with h | h; exact h; simp at h⟩, Btw.refl _ _ _⟩
      case round =>
        obtain ⟨k, f', hk, rfl, hrow, hf, hbw⟩ := hrel
        have HRO' := Lib.hid hrow; have HF' := Lib.hid hf; have HBW' := Lib.hid hbw
        clear hrow hf
        by_cases hlt : k < np
        · obtain ⟨g3, rfl, hl3, hh3, hr3⟩ := HO2.out.2 (by omega)
          have hkP : k < P.length := by have := HNP.out; omega
          obtain ⟨p, hp⟩ : ∃ p, p = P.getD k 0 := ⟨_, rfl⟩
          have hpn : p < n := by rw [hp]; exact HPL.out _ (getD_lt hkP)
          have hc : wr.cell? ⟨g3, k, none⟩ = some (.int .i64 (p : Int)) := by
            have h := Row.cell (Row.same hr3 (hbw.block g3 (by omega) (by have := Row.lt HRO.out; omega))) hlt
            rw [h]
            simp only [nmF]
            congr 2
            rw [hp]
            unfold plcs
            rw [List.getD_eq_getElem?_getD, List.getElem?_map, List.getD_eq_getElem?_getD, List.getElem?_eq_getElem hkP]
            rfl
          have hm := Row.cell HRO'.out hpn
          have hfm := Row.free HRO'.out p
          have HTK : Hid (P.take (k + 1) = P.take k ++ [p]) := by show _ = _; rw [take_snoc' 0 hkP, hp]
          have hp0 : (0 : Int) ≤ (p : Int) := by omega
          have hpn' : (p : Int) < (n : Int) := by omega
          clear hp hbw hr3
          go_wp2
          go_roundw
          case rel =>
            refine ⟨k + 1, fun j => if j = p then true else f' j, by omega, by go_num, (Row.set HRO'.out p (.bool true)).congr fun j hj => by by_cases e : j = p <;> simp [e], fun j hj => ?_, HBW'.out.setCell (.inl (by dsimp only; omega)) _⟩
            rw [HTK.out, List.mem_append, List.mem_singleton]
            by_cases e : j = p
            · subst e; simp
            · show (if j = p then true else f' j) = true ↔ _
              rw [if_neg e, HF'.out j hj]
              exact ⟨fun h => by rcases h with h | h; exact .inl h; exact .inr (.inl h), fun h => by rcases h with h | h | h; exact .inl h; exact .inr h; exact absurd h e⟩
          case measure => simp [intOf]; omega
        · obtain rfl : k = np := by omega
          clear hbw
          go_wp2
          go_roundw
          case rel =>
            refine ⟨s + 1, f', by omega, by go_num, HRO'.out, fun j hj => ?_, HB2.out.trans HBW'.out, (HBW'.out.block w.heap.size HK2.out.lt (by omega)).trans HK2.out⟩
            rw [HF'.out j hj, HF.out j hj, HNP.out, List.take_length, HPE.out]
            constructor
            · rintro ((h | ⟨s', h1, h2⟩) | h)
              · exact .inl h
              · exact .inr ⟨s', by omega, h2⟩
              · exact .inr ⟨s, by omega, h⟩
            · rintro (h | ⟨s', h1, h2⟩)
              · exact .inl (.inl h)
              · by_cases e : s' = s
                · subst e; exact .inr h2
                · exact .inl (.inr ⟨s', by omega, h2⟩)
          case measure => simp [intOf]; omega
    · obtain rfl : s = 6 := by omega
      go_wp2
      first | refine bodyPost_end (results_none rfl _ _ _) rfl ?_ | refine bodyPost_ret (results_none rfl _ _ _) rfl ?_
      exact ⟨⟨_, rfl⟩, f, HRO.out, HF.out, HBW.out⟩

theorem info_bool : (Tryz.prog.info? 4).map (fun i => (i.zero, i.size, i.bytes)) = some (some (.bool false), 1, 1) := by kernel_rfl
/-- the first k records' times, and the floor -/
def tmsK (X : List Rc) (f : Int) (k : Nat) (t : Int) : Prop := t = f ∨ ∃ j, j < k ∧ f ≤ (X.getD j Rc.zero).t ∧ (X.getD j Rc.zero).t = t
def MkK (X : List Rc) (f : Int) (k i : Nat) : Prop := ∃ t, tmsK X f k t ∧ ∃ s : Nat, s < 6 ∧ i ∈ trl X (s : Int) X.length t
theorem mkK_all {X : List Rc} (hX : hRight X = true) (i : Nat) : MkK X (floorR X) X.length i ↔ Mk X (tmsTo X (floorR X) X.length) i := by
  constructor
  · rintro ⟨t, ht, h⟩; exact ⟨t, (tms_mem hX _ t X.length (Nat.le_refl _)).2 ht, h⟩
  · rintro ⟨t, ht, h⟩; exact ⟨t, (tms_mem hX _ t X.length (Nat.le_refl _)).1 ht, h⟩
theorem mkK_zero (X : List Rc) (f : Int) (i : Nat) : MkK X f 0 i ↔ ∃ s : Nat, s < 6 ∧ i ∈ trl X (s : Int) X.length f := by
  constructor
  · rintro ⟨t, (rfl | ⟨j, h, -⟩), h'⟩
    · exact h'
    · omega
  · intro h; exact ⟨f, .inl rfl, h⟩
theorem mkK_yes {X : List Rc} {f : Int} {k : Nat} (h : f ≤ (X.getD k Rc.zero).t) (i : Nat) : MkK X f (k + 1) i ↔ MkK X f k i ∨ ∃ s : Nat, s < 6 ∧ i ∈ trl X (s : Int) X.length (X.getD k Rc.zero).t := by
  constructor
  · rintro ⟨t, (rfl | ⟨j, h1, h2, h3⟩), h'⟩
    · exact .inl ⟨_, .inl rfl, h'⟩
    · by_cases e : j = k
      · subst e; rw [← h3] at h'; exact .inr h'
      · exact .inl ⟨t, .inr ⟨j, by omega, h2, h3⟩, h'⟩
  · rintro (⟨t, (rfl | ⟨j, h1, h2⟩), h'⟩ | h')
    · exact ⟨_, .inl rfl, h'⟩
    · exact ⟨t, .inr ⟨j, by omega, h2⟩, h'⟩
    · exact ⟨_, .inr ⟨k, by omega, h, rfl⟩, h'⟩
theorem mkK_no {X : List Rc} {f : Int} {k : Nat} (h : ¬ f ≤ (X.getD k Rc.zero).t) (i : Nat) : MkK X f (k + 1) i ↔ MkK X f k i := by
  constructor
  · rintro ⟨t, (rfl | ⟨j, h1, h2, h3⟩), h'⟩
    · exact ⟨_, .inl rfl, h'⟩
    · by_cases e : j = k
      · subst e; exact absurd h2 h
      · exact ⟨t, .inr ⟨j, by omega, h2, h3⟩, h'⟩
  · rintro ⟨t, (rfl | ⟨j, h1, h2⟩), h'⟩
    · exact ⟨_, .inl rfl, h'⟩
    · exact ⟨t, .inr ⟨j, by omega, h2⟩, h'⟩
theorem flP_yes {X : List Rc} {k : Nat} (h : (X.getD k Rc.zero).k = 4 ∧ (X.getD k Rc.zero).o = floorR X) : flP X (k + 1) = (k : Int) := by simp only [flP]; rw [if_pos h]
theorem flP_no {X : List Rc} {k : Nat} (h : ¬ ((X.getD k Rc.zero).k = 4 ∧ (X.getD k Rc.zero).o = floorR X)) : flP X (k + 1) = flP X k := by simp only [flP]; rw [if_neg h]
theorem flP_range (X : List Rc) (k : Nat) : flP X k = -1 ∨ (0 ≤ flP X k ∧ flP X k < k) := by
  induction k with
  | zero => exact .inl rfl
  | succ k ih =>
    simp only [flP]
    split
    · right; omega
    · rcases ih with h | h
      · exact .inl h
      · right; omega
/-- a function that gives a row of marks back -/
def RetBs (w : World) (n : Nat) (f : Nat → Bool) (e : Ending) (w' : World) : Prop := ∃ g, e = .returned (.slice (some ⟨g, 0, none⟩) n n) ∧ w.heap.size ≤ g ∧ BRow w' g n f ∧ Below w.heap.size w w'
open Classical in
theorem nd_of {X : List Rc} (hX : hRight X = true) (i : Nat) : nd X i = true ↔ MkK X (floorR X) X.length i ∨ flP X X.length = (i : Int) := by
  unfold nd; rw [decide_eq_true_eq, mkK_all hX]

set_option maxHeartbeats 4000000 in
set_option maxRecDepth 100000 in
theorem l04Needed_any (A : Option Addr) (n ca : Nat) (X : List Rc) (w : World) (hr : hRight X = true) (hA : RdRc w w.heap.size A n X) :
    Calls Tryz.prog 193 #[.agg #[.slice A n ca]] w (RetBs w n (nd X)) := by
  have hn : n ≤ 48 := by rw [← hA.1]; exact hRight_len hr
  have HL := Lib.hid hA.1
  have HA := Lib.hid hA; have HR := Lib.hid hr
  clear hA hr
  have hmk := fun W => run_makeN (P := Tryz.prog) 234 4 (.bool false) 1 1 Tryz.underlying234 info_bool n (by omega) (by omega) W
  go_enter Tryz.func193, Tryz.ntmps193
  go_wp2_with fail
  have k0 := (isBlk_new w 29 [.slice A n ca]).alloc (.cells (madeCells #[.bool false] n) 4)
  have hM0 : BRow ((w.alloc (.cells #[.slice A n ca] 29)).alloc (.cells (madeCells #[.bool false] n) 4)) (w.heap.size + 1) n (fun _ => false) := by
    have h := row_made (w.alloc (.cells #[.slice A n ca] 29)) 4 #[.bool false] n (fun _ => .bool false) (fun i hi => by simp [Nat.mod_one])
    rw [size_alloc] at h
    exact h
  have hb0 : Below w.heap.size w ((w.alloc (.cells #[.slice A n ca] 29)).alloc (.cells (madeCells #[.bool false] n) 4)) := ((Below.refl _ _).alloc (Nat.le_refl _) _).alloc (by simp) _
  change IsBlk ((w.alloc (.cells #[.slice A n ca] 29)).alloc (.cells (madeCells #[.bool false] n) 4)) _ _ _ at k0
  generalize (w.alloc (.cells #[.slice A n ca] 29)).alloc (.cells (madeCells #[.bool false] n) 4) = W at k0 hM0 hb0 ⊢
  clear hmk
  refine (l04Floor_any A n ca X W (by omega) (HA.out.next hb0)).mono ?_
  rintro e w1 ⟨rfl, hb1⟩
  have HF : Hid (floorTo X n = floorR X) := by show _ = floorTo X X.length; rw [HL.out]
  obtain ⟨fl, hfl⟩ : ∃ fl, fl = floorTo X n := ⟨_, rfl⟩
  rw [← hfl] at HF ⊢
  clear hfl
  have HB1 := Lib.hid (hb0.trans (hb1.mono hb0.size))
  have HK1 := Lib.hid (k0.below hb1 k0.lt)
  have HM1 := Lib.hid (Row.below hM0 hb1 (Row.lt hM0))
  have hx1 : w1.cell? ⟨w.heap.size, 0, none⟩ = some (.slice A n ca) := HK1.out.cell rfl
  clear hb0 hb1 k0 hM0
  go_wp2_with fail
  refine (l04Mark_any A n ca (w.heap.size + 1) n X fl (fun _ => false) w1 HR.out ((HA.out.below HB1.out).mono (by omega)) HM1.out).mono ?_
  rintro e w2 ⟨⟨rv, rfl⟩, f2, hrow2, hf2, hbw2⟩
  have hlt1 : w.heap.size + 1 < w1.heap.size := Row.lt HM1.out
  have HB2 : Hid (Below w.heap.size w w2) := HB1.out.trans ((hbw2.below (by omega)).mono (by omega))
  have HK2 : Hid (IsBlk w2 w.heap.size 29 [.slice A n ca]) := (hbw2.block w.heap.size (by omega) (.inl (by omega))).trans HK1.out
  have HM2 := Lib.hid hrow2
  have HF2 : Hid (∀ j, j < n → (f2 j = true ↔ MkK X fl 0 j)) := fun j hj => by
    rw [hf2 j hj, mkK_zero, HL.out]
    exact ⟨fun h => by rcases h with h | h; cases h; exact h, .inr⟩
  clear hrow2 hf2 hbw2 hx1
  go_wp2
  go_loopw [5, 6] (fun last i wr => ∃ (k : Nat) (f : Nat → Bool), k ≤ n ∧ i = .int .i64 (k : Nat) ∧ last = .int .i64 (flP X k) ∧ BRow wr (w.heap.size + 1) n f ∧ (∀ j, j < n → (f j = true ↔ MkK X fl k j)) ∧ Below w.heap.size w wr ∧ IsBlk wr w.heap.size 29 [.slice A n ca]) (fun _ i _ => n - (intOf i).toNat)
  case atStart => exact ⟨0, f2, by omega, rfl, rfl, HM2.out, HF2.out, HB2.out, HK2.out⟩
  case round =>
    obtain ⟨k, f, hk, rfl, rfl, hrow, hf, hbel, hblk⟩ := hrel
    have HRO := Lib.hid hrow; have HF' := Lib.hid hf; have HW := Lib.hid hbel; have HBK := Lib.hid hblk
    have hx : wr.cell? ⟨w.heap.size, 0, none⟩ = some (.slice A n ca) := hblk.cell rfl
    have hltr : w.heap.size + 1 < wr.heap.size := Row.lt hrow
    have hltw : w.heap.size < wr.heap.size := by omega
    clear hrow hf hblk
    by_cases hlt : k < n
    · obtain ⟨g, off, rfl, hg, hc0, hc1, hc2, hc3, hc4, hc5⟩ := (HA.out.below hbel).at hlt
      have HMY : Hid (fl ≤ (X.getD k Rc.zero).t → ∀ i, MkK X fl (k + 1) i ↔ MkK X fl k i ∨ ∃ s : Nat, s < 6 ∧ i ∈ trl X (s : Int) X.length (X.getD k Rc.zero).t) := Lib.hid (fun h i => mkK_yes h i)
      have HMN : Hid (¬ fl ≤ (X.getD k Rc.zero).t → ∀ i, MkK X fl (k + 1) i ↔ MkK X fl k i) := Lib.hid (fun h i => mkK_no h i)
      have HPY : Hid ((X.getD k Rc.zero).k = 4 ∧ (X.getD k Rc.zero).o = fl → flP X (k + 1) = (k : Int)) := fun h => flP_yes (by rw [← HF.out]; exact h)
      have HPN : Hid (¬ ((X.getD k Rc.zero).k = 4 ∧ (X.getD k Rc.zero).o = fl) → flP X (k + 1) = flP X k) := fun h => flP_no (by rw [← HF.out]; exact h)
      generalize X.getD k Rc.zero = r at *
      have hkn : (k : Int) < (n : Int) := by omega
      have hb5 : Below wr.heap.size wr (wr.alloc (.cells #[.int .i64 r.k, .int .i64 r.s, .int .i64 r.q, .int .i64 r.t, .int .i64 r.o, .string r.d] 34)) := (Below.refl _ _).alloc (Nat.le_refl _) _
      have k5 := isBlk_new wr 34 (recC r)
      change IsBlk (wr.alloc (.cells #[.int .i64 r.k, .int .i64 r.s, .int .i64 r.q, .int .i64 r.t, .int .i64 r.o, .string r.d] 34)) _ _ _ at k5
      have HK5 := Lib.hid k5; have HB5 := Lib.hid hb5
      clear k5 hb5 hbel
      -- behind the marks: the last floor
      have HREST : Hid (∀ (w6 : World) (f6 : Nat → Bool), BRow w6 (w.heap.size + 1) n f6 → (∀ j, j < n → (f6 j = true ↔ MkK X fl (k + 1) j)) → Below w.heap.size w w6 → IsBlk w6 w.heap.size 29 [.slice (some ⟨g, off, none⟩) n ca] →
          ∀ z, flP X (k + 1) = z → ∃ (k' : Nat) (f' : Nat → Bool), k' ≤ n ∧ Value.int .i64 ((k : Int) + 1) = .int .i64 (k' : Nat) ∧ Value.int .i64 z = .int .i64 (flP X k') ∧ BRow w6 (w.heap.size + 1) n f' ∧ (∀ j, j < n → (f' j = true ↔ MkK X fl k' j)) ∧ Below w.heap.size w w6 ∧ IsBlk w6 w.heap.size 29 [.slice (some ⟨g, off, none⟩) n ca]) :=
        fun w6 f6 h1 h2 h3 h4 z hz => ⟨k + 1, f6, by omega, by go_num, by rw [hz], h1, h2, h3, h4⟩
      by_cases ht : fl ≤ r.t
      · have HMY' := Lib.hid (HMY.out ht)
        clear HMY HMN
        go_wp2_with fail
        generalize wr.alloc (.cells #[.int .i64 r.k, .int .i64 r.s, .int .i64 r.q, .int .i64 r.t, .int .i64 r.o, .string r.d] 34) = w5 at HK5 HB5 ⊢
        have h5 : wr.heap.size < w5.heap.size := HK5.out.lt
        refine (l04Mark_any (some ⟨g, off, none⟩) n ca (w.heap.size + 1) n X r.t f w5 HR.out ((HA.out.below (HW.out.trans (HB5.out.mono HW.out.size))).mono (by omega)) (Row.below HRO.out HB5.out (by omega))).mono ?_
        rintro e w6 ⟨⟨rv, rfl⟩, f6, hrow6, hf6, hbw6⟩
        have HM6 := Lib.hid hrow6
        have HF6 : Hid (∀ j, j < n → (f6 j = true ↔ MkK X fl (k + 1) j)) := fun j hj => (hf6 j hj).trans (by show (f j = true ∨ ∃ s : Nat, s < 6 ∧ j ∈ trl X (s : Int) n r.t) ↔ _; rw [HMY'.out j, HF'.out j hj, HL.out])
        have HB6 : Hid (Below w.heap.size w w6) := HW.out.trans ((HB5.out.mono HW.out.size).trans ((hbw6.below (by omega)).mono (by omega)))
        have HK6 : Hid (IsBlk w6 w.heap.size 29 [.slice (some ⟨g, off, none⟩) n ca]) := (hbw6.block w.heap.size (by omega) (.inl (by omega))).trans (HBK.out.below HB5.out HBK.out.lt)
        obtain ⟨x0, x1, x2, x3, x4, x5⟩ := rcCells ((hbw6.block wr.heap.size h5 (.inr (by omega))).trans HK5.out)
        clear hrow6 hf6 hbw6 hc0 hc1 hc2 hc3 hc4 hc5
        by_cases h4 : r.k = 4
        · have h4' : (r.k == 4) = true := by simpa using h4
          by_cases ho : r.o = fl
          · have ho' : (r.o == fl) = true := by simpa using ho
            have HP := Lib.hid (HPY.out ⟨h4, ho⟩)
            clear HPY HPN h4 ho
            go_wp2
            go_roundw
            case rel => exact HREST.out w6 f6 HM6.out HF6.out HB6.out HK6.out _ HP.out
            case measure => simp [intOf]; omega
          · have ho' : (r.o == fl) = false := by simpa using ho
            have HP := Lib.hid (HPN.out (fun h => ho h.2))
            clear HPY HPN h4 ho
            go_wp2
            go_roundw
            case rel => exact HREST.out w6 f6 HM6.out HF6.out HB6.out HK6.out _ HP.out
            case measure => simp [intOf]; omega
        · have h4' : (r.k == 4) = false := by simpa using h4
          have HP := Lib.hid (HPN.out (fun h => h4 h.1))
          clear HPY HPN h4
          go_wp2
          go_roundw
          case rel => exact HREST.out w6 f6 HM6.out HF6.out HB6.out HK6.out _ HP.out
          case measure => simp [intOf]; omega
      · have HMN' := Lib.hid (HMN.out ht)
        have ht' : r.t < fl := by omega
        have HF6 : Hid (∀ j, j < n → (f j = true ↔ MkK X fl (k + 1) j)) := fun j hj => by rw [HF'.out j hj, HMN'.out j]
        have HM6 : Hid (BRow (wr.alloc (.cells #[.int .i64 r.k, .int .i64 r.s, .int .i64 r.q, .int .i64 r.t, .int .i64 r.o, .string r.d] 34)) (w.heap.size + 1) n f) := Row.below HRO.out HB5.out (by omega)
        have HB6 := Lib.hid (HW.out.trans (HB5.out.mono HW.out.size))
        have HK6 := Lib.hid (HBK.out.below HB5.out HBK.out.lt)
        clear HMY HMN ht
        by_cases h4 : r.k = 4
        · have h4' : (r.k == 4) = true := by simpa using h4
          by_cases ho : r.o = fl
          · have ho' : (r.o == fl) = true := by simpa using ho
            have HP := Lib.hid (HPY.out ⟨h4, ho⟩)
            clear HPY HPN h4 ho
            go_wp2
            go_roundw
            case rel => exact HREST.out _ f HM6.out HF6.out HB6.out HK6.out _ HP.out
            case measure => simp [intOf]; omega
          · have ho' : (r.o == fl) = false := by simpa using ho
            have HP := Lib.hid (HPN.out (fun h => ho h.2))
            clear HPY HPN h4 ho
            go_wp2
            go_roundw
            case rel => exact HREST.out _ f HM6.out HF6.out HB6.out HK6.out _ HP.out
            case measure => simp [intOf]; omega
        · have h4' : (r.k == 4) = false := by simpa using h4
          have HP := Lib.hid (HPN.out (fun h => h4 h.1))
          clear HPY HPN h4
          go_wp2
          go_roundw
          case rel => exact HREST.out _ f HM6.out HF6.out HB6.out HK6.out _ HP.out
          case measure => simp [intOf]; omega
    · obtain rfl : k = n := by omega
      clear hbel
      have hpr := flP_range X k
      have HND : Hid (∀ i, nd X i = true ↔ MkK X fl k i ∨ flP X k = (i : Int)) := fun i => by rw [nd_of HR.out, ← HF.out, HL.out]
      obtain ⟨z, hz⟩ : ∃ z, z = flP X k := ⟨_, rfl⟩
      rw [← hz] at hpr HND ⊢
      clear hz
      rcases hpr with rfl | ⟨h0, h1⟩
      · go_wp2
        go_ret
        refine ⟨w.heap.size + 1, rfl, by omega, Row.congr HRO.out fun j hj => ?_, HW.out⟩
        congr 1
        rw [Bool.eq_iff_iff, HF'.out j hj, HND.out j]
        exact ⟨.inl, fun h => by rcases h with h | h; exact h; omega⟩
      · obtain ⟨p, rfl⟩ : ∃ p : Nat, z = (p : Int) := ⟨z.toNat, by omega⟩
        have hpn : p < k := by omega
        have hm := Row.cell HRO.out hpn
        have hfm := Row.free HRO.out p
        have hp0 : (0 : Int) ≤ (p : Int) := by omega
        go_wp2
        go_ret
        refine ⟨w.heap.size + 1, rfl, by omega, (Row.set HRO.out p (.bool true)).congr fun j hj => ?_, HW.out.setCell (by dsimp only; omega) _⟩
        by_cases e : j = p
        · subst e; rw [if_pos rfl]; congr 1; exact ((HND.out j).2 (.inr rfl)).symm
        · rw [if_neg e]
          congr 1
          rw [Bool.eq_iff_iff, HF'.out j hj, HND.out j]
          exact ⟨.inl, fun h => by rcases h with h | h; exact h; omega⟩

theorem own_ne_brow {w : World} {base g2 gm cap n m : Nat} {T : List Int} {x : Int} {f : Nat → Bool} (ho : w.ownsRow base 2 1 (.slice (some ⟨g2, 0, none⟩) m cap) m ((T ++ [x]).map numV)) (hb : BRow w gm n f) (hn : 0 < n) : g2 ≠ gm := by
  rintro rfl
  have hl := ho.1
  rw [List.length_map, List.length_append] at hl
  simp at hl
  obtain ⟨f', hrow, h1, -, -, hf⟩ := rowIs_of_own ho
  have c1 := rowIs_cell hrow (show 0 < cap by omega)
  have c2 := Row.cell hb hn
  rw [c1] at c2
  have hx : ((T ++ [x]).map numV)[0]? = some (numV ((T ++ [x]).getD 0 0)) := by
    rw [List.getElem?_map, List.getD_eq_getElem?_getD, List.getElem?_eq_getElem (by simp)]; rfl
  rw [hf 0 _ hx] at c2
  simp [numV] at c2

end Go.Proofs.YtloaeglmngcenaaGreatDoor

namespace Go.Proofs.YtloaeglmngcenaaGreatDoor
open Go.RowKit
open Bt (Rc)

/-- a history, in memory of its own -/
def RetHs (w : World) (Y : List Rc) (e : Ending) (w' : World) : Prop :=
  ∃ (A : Option Addr) (ca : Nat), e = .returned (.agg #[.slice A Y.length ca]) ∧ OwRc w' w.heap.size w'.heap.size A Y.length Y ∧ Below w.heap.size w w'
theorem last_eq {X : List Rc} (hX : hRight X = true) {k : Nat} (hk : k < X.length) : rcEq (X.getD k Rc.zero) (lastOf X) = decide (k + 1 = X.length) := by
  have e : lastOf X = X.getD (X.length - 1) Rc.zero := by unfold lastOf; rw [if_pos hX]; rfl
  rw [Bool.eq_iff_iff, rcEq_iff, decide_eq_true_eq, e]
  constructor
  · intro h
    have := seq_inj hX hk (show X.length - 1 < X.length by omega) (by rw [h])
    omega
  · intro h
    rw [show X.length - 1 = k by omega]
theorem bel_stepR {w a b : World} (h : Below w.heap.size w a) (k : Below a.heap.size a b) : Below w.heap.size w b := h.trans (k.mono h.size)
theorem bel_allocR (w : World) (o : Obj) : Below w.heap.size w (w.alloc o) := (Below.refl _ _).alloc (Nat.le_refl _) _
theorem size_setP (w : World) (a : Addr) (u : Value) : (w.setCell a u).heap.size = w.heap.size := by simp [World.setCell]

set_option maxHeartbeats 8000000 in
set_option maxRecDepth 100000 in
theorem impl_prune (A : Option Addr) (n ca : Nat) (X : List Rc) (w : World) (hS : SmallR X) (hca : n ≤ ca) (hA : RdRc w w.heap.size A n X) :
    Calls Tryz.prog 135 #[.agg #[.slice A n ca]] w (RetHs w (pruneOf X)) := by
  have HL := Lib.hid hA.1
  have HA := Lib.hid hA; have HS := Lib.hid hS; clear hA hS
  go_enter Tryz.func135, Tryz.ntmps135
  go_wp2_with fail
  have hb0 : Below w.heap.size w ((w.alloc (.cells #[.slice A n ca] 29)).alloc (.cells #[.slice none 0 0] 29)) := ((Below.refl _ _).alloc (Nat.le_refl _) _).alloc (by simp) _
  have k0 := (isBlk_new w 29 [.slice A n ca]).alloc (.cells #[.slice none 0 0] 29)
  have k1 := isBlk_new (w.alloc (.cells #[.slice A n ca] 29)) 29 [.slice none 0 0]
  change IsBlk ((w.alloc (.cells #[.slice A n ca] 29)).alloc (.cells #[.slice none 0 0] 29)) _ _ _ at k0 k1
  rw [size_alloc] at k1
  generalize (w.alloc (.cells #[.slice A n ca] 29)).alloc (.cells #[.slice none 0 0] 29) = W at hb0 k0 k1 ⊢
  refine (impl_histRight_any A n ca X W HS.out (HA.out.next hb0)).mono ?_
  rintro e w1 ⟨rfl, hb1⟩
  have HB1 := Lib.hid (hb0.trans (hb1.mono hb0.size))
  have HK1 := Lib.hid (k0.below hb1 k0.lt)
  have HR1 := Lib.hid (k1.below hb1 k1.lt)
  have hx : w1.cell? ⟨w.heap.size, 0, none⟩ = some (.slice A n ca) := HK1.out.cell rfl
  clear hb0 hb1 k0 k1
  by_cases hr : hRight X = true
  case neg =>
    have HT := Lib.hid (pruneOf_no hr)
    have hr : hRight X = false := by simpa using hr
    have d0 : w1.cell? ⟨w.heap.size + 1, 0, none⟩ = some (.slice none 0 0) := HR1.out.cell rfl
    have fd0 : w1.frozen? ⟨w.heap.size + 1, 0, none⟩ = false := HR1.out.free
    rw [hr]
    clear hr
    go_wp2
    refine bodyPost_ret (v := .agg #[.slice none 0 0]) (by simp [results, Tryz.results135, go_sem, d0]) rfl ?_
    rw [HT.out]
    exact ⟨none, 0, rfl, ow_nilR _ _ _ _, HB1.out.setCell (by dsimp only; omega) _⟩
  have hn : n ≤ 48 := by rw [← HL.out]; exact hRight_len hr
  have HT : Hid (pruneOf X = prTo X n) := by show _ = _; rw [pruneOf_yes hr, HL.out]
  have HR := Lib.hid hr
  rw [hr]
  clear hr
  go_wp2_with fail
  refine (neededTest_any A n ca X w1 HR.out hca (HA.out.next HB1.out)).mono ?_
  rintro e wN ⟨B3, B4, L, rfl, hH, hLm, hbN⟩
  have HND : Hid (∀ k, k < n → tstB (flR X) L (X.getD k Rc.zero) = nd X k) := fun k hk => tst_nd HR.out hLm (by rw [HL.out]; exact hk)
  have HLA : Hid (∀ k, k < n → rcEq (X.getD k Rc.zero) (lastOf X) = decide (k + 1 = X.length)) := fun k hk => last_eq HR.out (by rw [HL.out]; exact hk)
  have HH := Lib.hid hH
  have HBN := Lib.hid (HB1.out.trans (hbN.mono HB1.out.size))
  have HKN := Lib.hid (HK1.out.below hbN HK1.out.lt)
  have HRN := Lib.hid (HR1.out.below hbN HR1.out.lt)
  have hxN : wN.cell? ⟨w.heap.size, 0, none⟩ = some (.slice A n ca) := HKN.out.cell rfl
  generalize flR X = fl at HH HND
  clear hbN hx hH hLm
  go_wp2_with fail
  refine (lastRec_any A n ca X wN HS.out (HA.out.next HBN.out)).mono ?_
  rintro e w4 ⟨rfl, hb4⟩
  generalize lastOf X = la at HLA ⊢
  have HB4 := Lib.hid (HBN.out.trans (hb4.mono HBN.out.size))
  have HH4 := Lib.hid (HH.out.below hb4)
  have HK4 := Lib.hid (HKN.out.below hb4 HKN.out.lt)
  have HR4 := Lib.hid (HRN.out.below hb4 HRN.out.lt)
  have hx4 : w4.cell? ⟨w.heap.size, 0, none⟩ = some (.slice A n ca) := HK4.out.cell rfl
  have hlt4 : w.heap.size + 1 < w4.heap.size := HR4.out.lt
  have hlt4' : w.heap.size < w4.heap.size := by omega
  clear hb4 hxN
  go_wp2
  have kl := (isBlk_new w4 34 (recC la)).alloc (.cells #[.slice none 0 0] 29)
  have kk := isBlk_new (w4.alloc (.cells #[.int .i64 la.k, .int .i64 la.s, .int .i64 la.q, .int .i64 la.t, .int .i64 la.o, .string la.d] 34)) 29 [.slice none 0 0]
  have hb5 : Below w4.heap.size w4 ((w4.alloc (.cells #[.int .i64 la.k, .int .i64 la.s, .int .i64 la.q, .int .i64 la.t, .int .i64 la.o, .string la.d] 34)).alloc (.cells #[.slice none 0 0] 29)) := ((Below.refl _ _).alloc (Nat.le_refl _) _).alloc (by simp) _
  have hs5 : ((w4.alloc (.cells #[.int .i64 la.k, .int .i64 la.s, .int .i64 la.q, .int .i64 la.t, .int .i64 la.o, .string la.d] 34)).alloc (.cells #[.slice none 0 0] 29)).heap.size = w4.heap.size + 2 := by simp
  change IsBlk ((w4.alloc (.cells #[.int .i64 la.k, .int .i64 la.s, .int .i64 la.q, .int .i64 la.t, .int .i64 la.o, .string la.d] 34)).alloc (.cells #[.slice none 0 0] 29)) _ _ _ at kl kk
  rw [size_alloc] at kk
  generalize (w4.alloc (.cells #[.int .i64 la.k, .int .i64 la.s, .int .i64 la.q, .int .i64 la.t, .int .i64 la.o, .string la.d] 34)).alloc (.cells #[.slice none 0 0] 29) = w5 at kl kk hb5 hs5 ⊢
  have HKL := Lib.hid kl; have HKK := Lib.hid kk
  have HB5 := Lib.hid (HB4.out.trans (hb5.mono HB4.out.size))
  have HB45 := Lib.hid hb5
  have HK5 := Lib.hid (HK4.out.below hb5 HK4.out.lt)
  have HR5 := Lib.hid (HR4.out.below hb5 HR4.out.lt)
  have HS5 := Lib.hid hs5
  clear kl kk hb5 hs5 hx4
  obtain ⟨ir, hir, zr0, zr1, zr2⟩ := info_parts info_recL
  have Hir := Lib.hid hir; have Zr0 := Lib.hid zr0; have Zr1 := Lib.hid zr1; have Zr2 := Lib.hid zr2
  clear hir zr0 zr1 zr2
  -- the box of what is kept lies behind all that the loop reads: B = w4.heap.size + 1
  obtain ⟨B, hB⟩ : ∃ B, B = w4.heap.size + 1 := ⟨_, rfl⟩
  rw [← hB] at HKK ⊢
  have hB5 : B + 1 ≤ w5.heap.size := by rw [HS5.out, hB]; exact Nat.le_refl _
  have hBl : w4.heap.size < B := by omega
  have hB1 : w.heap.size + 1 < B := by omega
  clear hB HS5
  go_loopw [20] (fun i wr => ∃ (k : Nat) (v : Value), k ≤ n ∧ i = .int .i64 (k : Nat) ∧ wr.ownsRow (B + 1) 34 6 v (prTo X k).length (rcA (prTo X k)) ∧ Below B w5 wr ∧ IsBlk wr B 29 [v]) (fun i _ => n - (intOf i).toNat)
  case atStart => exact ⟨0, _, by omega, rfl, ⟨by simp [rcA, prTo], .inl ⟨rfl, rfl⟩⟩, Below.refl _ _, HKK.out⟩
  case round =>
    obtain ⟨k, v, hk, rfl, hown, hbw, hkv⟩ := hrel
    have HOWN := Lib.hid hown; have HBW := Lib.hid hbw; have HKV := Lib.hid hkv
    have HHR := Lib.hid (HH4.out.below (HB45.out.trans (hbw.mono (by omega))))
    have hzw : w5.heap.size ≤ wr.heap.size := hbw.size
    by_cases hlt : k < n
    · obtain ⟨g, off, rfl, hg, hc0, hc1, hc2, hc3, hc4, hc5⟩ := ((HA.out.below HB5.out).below (hbw.mono (by omega))).at hlt
      have hds := HS.out.at k
      have HPY := Lib.hid (fun h => prTo_yes (X := X) (k := k) h)
      have HPN := Lib.hid (fun h => prTo_no (X := X) (k := k) h)
      have HTS := Lib.hid (HND.out k hlt)
      have HLS := Lib.hid (HLA.out k hlt)
      have hTl := prTo_len X k
      generalize X.getD k Rc.zero = p at *
      generalize prTo X k = Y at *
      generalize nd X k = b at *
      generalize decide (k + 1 = X.length) = lb at *
      have hv0 : wr.cell? ⟨B, 0, none⟩ = some v := hkv.cell rfl
      have hz2 : B < wr.heap.size := hkv.lt
      have kla := HKL.out.below (B := B) hbw (by omega)
      have HKLA := Lib.hid kla
      clear hown hbw hkv kla
      go_wp2_with fail
      have hb4 : Below wr.heap.size wr (wr.alloc (.cells #[.int .i64 p.k, .int .i64 p.s, .int .i64 p.q, .int .i64 p.t, .int .i64 p.o, .string p.d] 34)) := (Below.refl _ _).alloc (Nat.le_refl _) _
      have k4 := isBlk_new wr 34 (recC p)
      change IsBlk (wr.alloc (.cells #[.int .i64 p.k, .int .i64 p.s, .int .i64 p.q, .int .i64 p.t, .int .i64 p.o, .string p.d] 34)) _ _ _ at k4
      generalize wr.alloc (.cells #[.int .i64 p.k, .int .i64 p.s, .int .i64 p.q, .int .i64 p.t, .int .i64 p.o, .string p.d] 34) = w6 at hb4 k4 ⊢
      refine (test_any B3 B4 fl p L w6 (HHR.out.below hb4)).mono ?_
      rintro e w7 ⟨rfl, hb7⟩
      rw [HTS.out]
      have hb47 : Below wr.heap.size wr w7 := hb4.trans (hb7.mono hb4.size)
      have HB47 := Lib.hid hb47
      obtain ⟨p0, p1, p2, p3, p4, p5⟩ := rcCells (k4.below hb7 k4.lt)
      obtain ⟨y0, y1, y2, y3, y4, y5⟩ := rcCells (HKLA.out.below hb47 HKLA.out.lt)
      have hv7 : w7.cell? ⟨B, 0, none⟩ = some v := (HKV.out.below hb47 hz2).cell rfl
      have hz7 : wr.heap.size ≤ w7.heap.size := hb47.size
      have hz27 : B < w7.heap.size := by omega
      have hne := equalIn_rec p la
      rw [HLS.out] at hne
      have hgu := rec_guard
      clear hb4 hb7 k4 hb47 hc0 hc1 hc2 hc3 hc4 hc5 hv0 HTS HLS HND HLA
      by_cases hyes : (b || lb) = true
      · have HPY' := Lib.hid (HPY.out hyes)
        have hbl : (b = true) ∨ (b = false ∧ lb = true) := by cases b <;> cases lb <;> simp_all
        clear HPY HPN hyes
        have HSTEP : True := trivial
        rcases hbl with rfl | ⟨rfl, rfl⟩
        all_goals
          go_wp2
          go_region_law (first
            | (go_simp
               go_at_call 201
               refine (copyRec_any p _ (by omega)).mono ?_
               rintro e w8 ⟨rfl, hb8⟩
               have hb48 : Below wr.heap.size wr w8 := HB47.out.trans (((Below.refl _ _).drew.trans hb8).mono HB47.out.size)
               have hv8 : w8.cell? ⟨B, 0, none⟩ = some v := (HKV.out.below hb48 hz2).cell rfl
               have hb89 : Below w8.heap.size w8 (w8.alloc (.cells (recC p).toArray 34)) := (Below.refl _ _).alloc (Nat.le_refl _) _
               have HOWN8 := Lib.hid (own_belowR (own_belowR HOWN.out hb48) hb89)
               have HNEWS8 := Lib.hid (fun j u (hj : (recC p)[j]? = some u) => (show (w8.alloc (.cells (recC p).toArray 34)).cell? ((⟨w8.heap.size, 0, none⟩ : Addr).add j) = some u by rw [add_plain]; exact (isBlk_new w8 34 (recC p)).cell hj))
               have HB8 := Lib.hid (hb48.trans (hb89.mono hb48.size))
               have hz8 : wr.heap.size ≤ w8.heap.size := hb48.size
               have hz28 : B < w8.heap.size := by omega
               clear hb8 hb48 hb89)
            | (refine step_append_lies _ rfl (.tmp 33) (.tmp 36) 27 rfl (B + 1) 34 ir _ 6 56 Tryz.underlying27 Hir.out Zr0.out Zr1.out Zr2.out rfl (by omega) v Y.length (rcA Y) (by rfl) HOWN8.out ⟨w8.heap.size, 0, none⟩ 1 1 (recC p) (by rfl) (by rfl) HNEWS8.out (recC_one p) (by omega) (by unfold maxLen; omega) (by omega) (by simp; omega) (w8.heap.size + 1) (by simp) ?_
               intro g2 cap2 w9 hown9 hgrow9 hat9 hlt9
               have hvb : ∀ q, v.ownBlock = some q → B + 1 ≤ q := fun q hq => (own_block_ltR HOWN.out hq).1
               have hb9 : Below (B + 1) (w8.alloc (.cells (recC p).toArray 34)) w9 := (Below.refl _ _).grown hgrow9 (by simp; omega) hvb
               have HB9 := Lib.hid ((HBW.out.trans (HB8.out.mono (by omega))).trans (hb9.mono (by omega)))
               have k9 := (HKV.out.below HB8.out hz2).below hb9 (by omega)
               have HK9 := Lib.hid k9
               have hv9 : w9.cell? ⟨B, 0, none⟩ = some v := k9.cell rfl
               have fv9 : w9.frozen? ⟨B, 0, none⟩ = false := k9.free
               have HOWN9 : Hid (w9.ownsRow (B + 1) 34 6 (.slice (some ⟨g2, 0, none⟩) (Y.length + 1) cap2) (Y.length + 1) (rcA (Y ++ [p]))) := by
                 show World.ownsRow _ _ _ _ _ _ _
                 rw [rcA_snoc]; exact hown9
               clear hvb hb9 k9 hown9 hgrow9 hat9 hlt9))
          all_goals
            go_wp2
            go_roundw
            case rel => exact ⟨k + 1, .slice (some ⟨g2, 0, none⟩) (Y.length + 1) cap2, by omega, by go_num, by rw [HPY'.out, List.length_append]; exact own_otherR HOWN9.out (by dsimp only; omega) _, HB9.out.setCell (by dsimp only; omega) _, HK9.out.set _⟩
            case measure => simp [intOf]; omega
      · have hno : (b || lb) = false := by simpa using hyes
        have HPN' := Lib.hid (HPN.out hno)
        obtain ⟨rfl, rfl⟩ : b = false ∧ lb = false := by cases b <;> cases lb <;> simp_all
        clear HPY HPN hyes hno
        have HOWN7 := Lib.hid (own_belowR HOWN.out HB47.out)
        have HB7' := Lib.hid (HBW.out.trans (HB47.out.mono (by omega)))
        have HK7 := Lib.hid (HKV.out.below HB47.out hz2)
        go_wp2
        go_roundw
        case rel => exact ⟨k + 1, v, by omega, by go_num, by rw [HPN'.out]; exact HOWN7.out, HB7'.out, HK7.out⟩
        case measure => simp [intOf]; omega
    · obtain rfl : k = n := by omega
      obtain ⟨Av, cv, rfl⟩ := own_slice HOWN.out
      have hv0 : wr.cell? ⟨B, 0, none⟩ = some (.slice Av (prTo X k).length cv) := hkv.cell rfl
      have kr := HR5.out.below (B := B) hbw (by omega)
      have d0 : wr.cell? ⟨w.heap.size + 1, 0, none⟩ = some (.slice none 0 0) := kr.cell rfl
      have fd0 : wr.frozen? ⟨w.heap.size + 1, 0, none⟩ = false := kr.free
      clear hown hbw hkv kr
      go_wp2
      refine bodyPost_ret (v := .agg #[.slice Av (prTo X k).length cv]) (by simp [results, Tryz.results135, go_sem, d0]) rfl ?_
      rw [HT.out]
      refine ⟨Av, cv, rfl, ?_, (HB5.out.trans (HBW.out.mono (by omega))).setCell (by dsimp only; omega) _⟩
      refine ((ow_of_own HOWN.out).same fun j h1 h2 => Below.heap_setCell _ _ _ _ (by dsimp only; omega)).mono (by omega) (by rw [size_setP]; exact Nat.le_refl _)

set_option maxHeartbeats 8000000 in
set_option maxRecDepth 100000 in
theorem l04Prune_any (A : Option Addr) (n ca : Nat) (X : List Rc) (w : World) (hr : hRight X = true) (hA : RdRc w w.heap.size A n X) :
    Calls Tryz.prog 127 #[.agg #[.slice A n ca]] w (RetHs w (prTo X n)) := by
  have hn : n ≤ 48 := by rw [← hA.1]; exact hRight_len hr
  have HL := Lib.hid hA.1
  have HA := Lib.hid hA; have HR := Lib.hid hr; clear hA hr
  go_enter Tryz.func127, Tryz.ntmps127
  go_wp2_with fail
  have hb0 : Below w.heap.size w ((w.alloc (.cells #[.slice A n ca] 29)).alloc (.cells #[.slice none 0 0] 29)) := ((Below.refl _ _).alloc (Nat.le_refl _) _).alloc (by simp) _
  have k0 := (isBlk_new w 29 [.slice A n ca]).alloc (.cells #[.slice none 0 0] 29)
  have k1 := isBlk_new (w.alloc (.cells #[.slice A n ca] 29)) 29 [.slice none 0 0]
  change IsBlk ((w.alloc (.cells #[.slice A n ca] 29)).alloc (.cells #[.slice none 0 0] 29)) _ _ _ at k0 k1
  rw [size_alloc] at k1
  generalize (w.alloc (.cells #[.slice A n ca] 29)).alloc (.cells #[.slice none 0 0] 29) = W at hb0 k0 k1 ⊢
  refine (l04Needed_any A n ca X W HR.out (HA.out.next hb0)).mono ?_
  rintro e w4 ⟨gm, rfl, hgm, hrow, hb1⟩
  have HB4 := Lib.hid (hb0.trans (hb1.mono hb0.size))
  have HK4 := Lib.hid (k0.below hb1 k0.lt)
  have HR4 := Lib.hid (k1.below hb1 k1.lt)
  have HM4 := Lib.hid hrow
  have hlt4 : w.heap.size + 1 < w4.heap.size := HR4.out.lt
  have hgl : gm < w4.heap.size := Row.lt hrow
  clear hb0 hb1 k0 k1 hrow
  go_wp2
  have kk := isBlk_new w4 29 [.slice none 0 0]
  have hb5 : Below w4.heap.size w4 (w4.alloc (.cells #[.slice none 0 0] 29)) := (Below.refl _ _).alloc (Nat.le_refl _) _
  have hs5 : (w4.alloc (.cells #[.slice none 0 0] 29)).heap.size = w4.heap.size + 1 := by simp
  change IsBlk (w4.alloc (.cells #[.slice none 0 0] 29)) _ _ _ at kk
  generalize w4.alloc (.cells #[.slice none 0 0] 29) = w5 at kk hb5 hs5 ⊢
  have HKK := Lib.hid kk
  have HB5 := Lib.hid (HB4.out.trans (hb5.mono HB4.out.size))
  have HK5 := Lib.hid (HK4.out.below hb5 HK4.out.lt)
  have HR5 := Lib.hid (HR4.out.below hb5 HR4.out.lt)
  have HM5 := Lib.hid (Row.below HM4.out hb5 hgl)
  clear kk hb5
  obtain ⟨ir, hir, zr0, zr1, zr2⟩ := info_parts info_recL
  have Hir := Lib.hid hir; have Zr0 := Lib.hid zr0; have Zr1 := Lib.hid zr1; have Zr2 := Lib.hid zr2
  clear hir zr0 zr1 zr2
  obtain ⟨B, hB⟩ : ∃ B, B = w4.heap.size := ⟨_, rfl⟩
  rw [← hB] at HKK hs5 hlt4 hgl ⊢
  have HS5 := Lib.hid hs5
  clear hB hs5
  go_loopw [5] (fun i wr => ∃ (k : Nat) (v : Value), k ≤ n ∧ i = .int .i64 (k : Nat) ∧ wr.ownsRow (B + 1) 34 6 v (prTo X k).length (rcA (prTo X k)) ∧ Below B w5 wr ∧ IsBlk wr B 29 [v]) (fun i _ => n - (intOf i).toNat)
  case atStart => exact ⟨0, _, by omega, rfl, ⟨by simp [rcA, prTo], .inl ⟨rfl, rfl⟩⟩, Below.refl _ _, HKK.out⟩
  case round =>
    obtain ⟨k, v, hk, rfl, hown, hbw, hkv⟩ := hrel
    have HOWN := Lib.hid hown; have HBW := Lib.hid hbw; have HKV := Lib.hid hkv
    have hzw : w5.heap.size ≤ wr.heap.size := hbw.size
    by_cases hlt : k < n
    · obtain ⟨g, off, rfl, hg, hc0, hc1, hc2, hc3, hc4, hc5⟩ := ((HA.out.below HB5.out).below (hbw.mono (by omega))).at hlt
      have hx : wr.cell? ⟨w.heap.size, 0, none⟩ = some (.slice (some ⟨g, off, none⟩) n ca) := (HK5.out.below (B := B) hbw (by omega)).cell rfl
      have hm := Row.cell (Row.below HM5.out (B := B) hbw hgl) hlt
      have HPY := Lib.hid (fun h => prTo_yes (X := X) (k := k) h)
      have HPN := Lib.hid (fun h => prTo_no (X := X) (k := k) h)
      have hTl := prTo_len X k
      obtain ⟨b, hb⟩ : ∃ b, b = nd X k := ⟨_, rfl⟩
      rw [← hb] at hm HPY HPN
      rw [HL.out] at HPY HPN
      clear hb
      generalize X.getD k Rc.zero = p at *
      generalize prTo X k = Y at *
      have hv0 : wr.cell? ⟨B, 0, none⟩ = some v := hkv.cell rfl
      have fv0 : wr.frozen? ⟨B, 0, none⟩ = false := hkv.free
      have hz2 : B < wr.heap.size := hkv.lt
      have hk0 : (0 : Int) ≤ (k : Int) := by omega
      have hkn : (k : Int) < (n : Int) := by omega
      clear hown hbw hkv
      by_cases hyes : (b || decide (k + 1 = n)) = true
      · have HPY' := Lib.hid (HPY.out hyes)
        have hbl : (b = true) ∨ (b = false ∧ k + 1 = n) := by cases b <;> simp_all
        clear HPY HPN hyes
        have e1 : b = false → ((k : Int) == (n : Int) - 1) = true := fun h => by rcases hbl with h' | ⟨-, h'⟩; rw [h] at h'; cases h'; simp; omega
        have hb8 : Below wr.heap.size wr (wr.alloc (.cells (recC p).toArray 34)).drew := ((Below.refl _ _).alloc (Nat.le_refl _) _).drew
        have HOWN8 := Lib.hid (own_belowR HOWN.out hb8)
        have HB8 := Lib.hid hb8
        have HNEWS8 := Lib.hid (fun j u (hj : (recC p)[j]? = some u) => (show (wr.alloc (.cells (recC p).toArray 34)).drew.cell? ((⟨wr.heap.size, 0, none⟩ : Addr).add j) = some u by rw [add_plain]; exact (isBlk_new wr 34 (recC p)).cell hj))
        have E1 := Lib.hid e1
        clear hb8 e1 hbl
        cases b
        · have e2 := E1.out rfl
          clear E1
          go_wp2
          go_region_law (refine step_append_lies _ rfl (.tmp 27) (.tmp 33) 27 rfl (B + 1) 34 ir _ 6 56 Tryz.underlying27 Hir.out Zr0.out Zr1.out Zr2.out rfl (by omega) v Y.length (rcA Y) (by rfl) HOWN8.out ⟨wr.heap.size, 0, none⟩ 1 1 (recC p) (by rfl) (by rfl) HNEWS8.out (recC_one p) (by omega) (by unfold maxLen; omega) (by omega) (by show B + 1 ≤ (wr.alloc _).heap.size; simp; omega) (wr.heap.size + 1) (by show (wr.alloc _).heap.size = _; simp) ?_
                         intro g2 cap2 w9 hown9 hgrow9 hat9 hlt9
                         have hvb : ∀ q, v.ownBlock = some q → B + 1 ≤ q := fun q hq => (own_block_ltR HOWN.out hq).1
                         have hb9 : Below (B + 1) (wr.alloc (.cells (recC p).toArray 34)).drew w9 := (Below.refl _ _).grown hgrow9 (by show B + 1 ≤ (wr.alloc _).heap.size; simp; omega) hvb
                         have HB9 := Lib.hid ((HBW.out.trans (HB8.out.mono (by omega))).trans (hb9.mono (by omega)))
                         have k9 := (HKV.out.below HB8.out hz2).below hb9 (by omega)
                         have HK9 := Lib.hid k9
                         have hv9 : w9.cell? ⟨B, 0, none⟩ = some v := k9.cell rfl
                         have fv9 : w9.frozen? ⟨B, 0, none⟩ = false := k9.free
                         have HOWN9 : Hid (w9.ownsRow (B + 1) 34 6 (.slice (some ⟨g2, 0, none⟩) (Y.length + 1) cap2) (Y.length + 1) (rcA (Y ++ [p]))) := by
                           show World.ownsRow _ _ _ _ _ _ _
                           rw [rcA_snoc]; exact hown9
                         clear hvb hb9 k9 hown9 hgrow9 hat9 hlt9)
          all_goals
            go_wp2
            go_roundw
            case rel => exact ⟨k + 1, .slice (some ⟨g2, 0, none⟩) (Y.length + 1) cap2, by omega, by go_num, by rw [HPY'.out, List.length_append]; exact own_otherR HOWN9.out (by dsimp only; omega) _, HB9.out.setCell (by dsimp only; omega) _, HK9.out.set _⟩
            case measure => simp [intOf]; omega
        · clear E1
          go_wp2
          go_region_law (refine step_append_lies _ rfl (.tmp 27) (.tmp 33) 27 rfl (B + 1) 34 ir _ 6 56 Tryz.underlying27 Hir.out Zr0.out Zr1.out Zr2.out rfl (by omega) v Y.length (rcA Y) (by rfl) HOWN8.out ⟨wr.heap.size, 0, none⟩ 1 1 (recC p) (by rfl) (by rfl) HNEWS8.out (recC_one p) (by omega) (by unfold maxLen; omega) (by omega) (by show B + 1 ≤ (wr.alloc _).heap.size; simp; omega) (wr.heap.size + 1) (by show (wr.alloc _).heap.size = _; simp) ?_
                         intro g2 cap2 w9 hown9 hgrow9 hat9 hlt9
                         have hvb : ∀ q, v.ownBlock = some q → B + 1 ≤ q := fun q hq => (own_block_ltR HOWN.out hq).1
                         have hb9 : Below (B + 1) (wr.alloc (.cells (recC p).toArray 34)).drew w9 := (Below.refl _ _).grown hgrow9 (by show B + 1 ≤ (wr.alloc _).heap.size; simp; omega) hvb
                         have HB9 := Lib.hid ((HBW.out.trans (HB8.out.mono (by omega))).trans (hb9.mono (by omega)))
                         have k9 := (HKV.out.below HB8.out hz2).below hb9 (by omega)
                         have HK9 := Lib.hid k9
                         have hv9 : w9.cell? ⟨B, 0, none⟩ = some v := k9.cell rfl
                         have fv9 : w9.frozen? ⟨B, 0, none⟩ = false := k9.free
                         have HOWN9 : Hid (w9.ownsRow (B + 1) 34 6 (.slice (some ⟨g2, 0, none⟩) (Y.length + 1) cap2) (Y.length + 1) (rcA (Y ++ [p]))) := by
                           show World.ownsRow _ _ _ _ _ _ _
                           rw [rcA_snoc]; exact hown9
                         clear hvb hb9 k9 hown9 hgrow9 hat9 hlt9)
          all_goals
            go_wp2
            go_roundw
            case rel => exact ⟨k + 1, .slice (some ⟨g2, 0, none⟩) (Y.length + 1) cap2, by omega, by go_num, by rw [HPY'.out, List.length_append]; exact own_otherR HOWN9.out (by dsimp only; omega) _, HB9.out.setCell (by dsimp only; omega) _, HK9.out.set _⟩
            case measure => simp [intOf]; omega
      · have hno : (b || decide (k + 1 = n)) = false := by simpa using hyes
        have HPN' := Lib.hid (HPN.out hno)
        obtain ⟨rfl, hkl⟩ : b = false ∧ k + 1 ≠ n := by cases b <;> simp_all
        have e1 : ((k : Int) == (n : Int) - 1) = false := by simp; omega
        clear HPY HPN hyes hno hkl
        go_wp2
        go_roundw
        case rel => exact ⟨k + 1, v, by omega, by go_num, by rw [HPN'.out]; exact HOWN.out, HBW.out, HKV.out⟩
        case measure => simp [intOf]; omega
    · obtain rfl : k = n := by omega
      obtain ⟨Av, cv, rfl⟩ := own_slice HOWN.out
      have hv0 : wr.cell? ⟨B, 0, none⟩ = some (.slice Av (prTo X k).length cv) := hkv.cell rfl
      have kr := HR5.out.below (B := B) hbw (by omega)
      have d0 : wr.cell? ⟨w.heap.size + 1, 0, none⟩ = some (.slice none 0 0) := kr.cell rfl
      have fd0 : wr.frozen? ⟨w.heap.size + 1, 0, none⟩ = false := kr.free
      clear hown hbw hkv kr
      go_wp2
      refine bodyPost_ret (v := .agg #[.slice Av (prTo X k).length cv]) (by simp [results, Tryz.results127, go_sem, d0]) rfl ?_
      refine ⟨Av, cv, rfl, ?_, (HB5.out.trans (HBW.out.mono (by omega))).setCell (by dsimp only; omega) _⟩
      refine ((ow_of_own HOWN.out).same fun j h1 h2 => Below.heap_setCell _ _ _ _ (by dsimp only; omega)).mono (by omega) (by rw [size_setP]; exact Nat.le_refl _)

end Go.Proofs.YtloaeglmngcenaaGreatDoor

namespace Go.Proofs.YtloaeglmngcenaaGreatDoor
open Go.RowKit
open Bt (Rc)

/-- a row of one text -/
def RowOne (u : World) (v : Value) (t : ByteArray) : Prop := ∃ r, v = .slice (some ⟨r, 0, none⟩) 1 1 ∧ u.cell? ⟨r, 0, none⟩ = some (.string t)
theorem RowOne.next {u u' : World} {v : Value} {t : ByteArray} (h : RowOne u v t) (hb : Below u.heap.size u u') : RowOne u' v t := by
  obtain ⟨r, hv, hc⟩ := h
  exact ⟨r, hv, (hb.cell (p := ⟨r, 0, none⟩) (World.block_lt_of_cell? _ _ hc)).trans hc⟩
def CpInv (Fr : Value → Value → Value → Value → Value → Value → Value → Value → Value → Value → Act) (W : World) (B : Nat) (a b : ByteArray) (L : Array Bool) (x : Act) (u : World) : Prop :=
  L.size = 11 ∧ (Dn L 10 → ∀ j, j < 10 → Dn L j) ∧ ∃ (s7 s11 s12 s13 s14 s15 s16 s17 s18 s19 : Value) (gn : Nat), x = Fr s7 s11 s12 s13 s14 s15 s16 s17 s18 s19 ∧ Below W.heap.size W u ∧
    (Dn L 0 → s11 = .pointer (some ⟨B, 0, none⟩)) ∧
    (Dn L 1 → s12 = .string a) ∧
    (Dn L 2 → ¬ Dn L 10 → RowOne u s13 a) ∧
    (Dn L 3 → s14 = .string a) ∧
    (Dn L 4 → s15 = .pointer (some ⟨B, 1, none⟩)) ∧
    (Dn L 5 → s16 = .string b) ∧
    (Dn L 6 → ¬ Dn L 10 → RowOne u s17 b) ∧
    (Dn L 7 → s18 = .string b) ∧
    (Dn L 8 → s19 = slotsV a b) ∧
    (Dn L 9 → (s7 = .pointer (some ⟨gn, 0, none⟩) ∧ W.heap.size ≤ gn)) ∧
    (Dn L 9 → ¬ Dn L 10 → IsBlk u gn 88 [.string ⟨#[]⟩, .string ⟨#[]⟩]) ∧
    (Dn L 10 → IsBlk u gn 88 [.string a, .string b])

/-- what stands while slots are written -/
structure PtSt (w u : World) (gn : Nat) (a b : ByteArray) (A : Option Addr) (n ca : Nat) : Prop where
  bel : Below w.heap.size w u
  ks : IsBlk u w.heap.size 88 [.string a, .string b]
  kh : IsBlk u (w.heap.size + 1) 29 [.slice A n ca]
  kr : IsBlk u (w.heap.size + 1 + 1) 88 [.string ⟨#[]⟩, .string ⟨#[]⟩]
  kn : IsBlk u gn 88 [.string a, .string b]
  gl : w.heap.size + 3 ≤ gn
theorem PtSt.below {w u u' : World} {gn : Nat} {a b : ByteArray} {A : Option Addr} {n ca : Nat} (h : PtSt w u gn a b A n ca) (hb : Below u.heap.size u u') : PtSt w u' gn a b A n ca :=
  ⟨bel_thru h.bel hb, h.ks.below hb h.ks.lt, h.kh.below hb h.kh.lt, h.kr.below hb h.kr.lt, h.kn.below hb h.kn.lt, h.gl⟩
theorem pt_fin {w u : World} {gn n ca : Nat} {a b : ByteArray} {X : List Rc} {p : Int} {A : Option Addr} (hc : cpA a b X p = a ∧ cpB a b X p = b) (h : PtSt w u gn a b A n ca) (x y : Value) :
    Ending.returned (slotsV a b) = .returned (slotsV (cpA a b X p) (cpB a b X p)) ∧ Below w.heap.size w ((u.setCell ⟨w.heap.size + 1 + 1, 0, none⟩ x).setCell ⟨w.heap.size + 1 + 1, 1, none⟩ y) :=
  ⟨by rw [hc.1, hc.2], (h.bel.setCell (by dsimp only; omega) _).setCell (by dsimp only; omega) _⟩
theorem hRight_small {X : List Rc} (h : hRight X = true) : SmallR X := by
  refine ⟨by have := hRight_len h; omega, fun r hr => ?_⟩
  obtain ⟨i, hi, rfl⟩ := mem_getD hr Rc.zero
  have := (hRight_at h hi).1.2.2.2.2.2.2.2.2.2.2.1
  omega
def CpInv7 (Fr : Value → Value → Value → Value → Value → Value → Value → Value → Value → Act) (W : World) (A : Option Addr) (n ca : Nat) (X : List Rc) (p m : Int) (g8 : Nat) (L : Array Bool) (x : Act) (u : World) : Prop :=
  L.size = 9 ∧ ∃ (s10 s42 s43 s44 s45 s46 s47 s48 s49 : Value), x = Fr s10 s42 s43 s44 s45 s46 s47 s48 s49 ∧ Below W.heap.size W u ∧
    (Dn L 0 → s42 = .pointer (some ⟨g8, 0, none⟩)) ∧
    (Dn L 1 → s43 = .int .i64 m) ∧
    (Dn L 2 → s44 = .int .i64 (m + 1)) ∧
    (Dn L 3 → s45 = .agg #[.slice A n ca]) ∧
    (Dn L 4 → (∃ (A' : Option Addr) (c' : Nat), s46 = .agg #[.slice A' (pruneOf X).length c'] ∧ RdRc u u.heap.size A' (pruneOf X).length (pruneOf X))) ∧
    (Dn L 5 → s47 = strV (ckBytes (m + 1) (pruneOf X))) ∧
    (Dn L 6 → s48 = .int .i64 p) ∧
    (Dn L 7 → s49 = .string (bstr (cutTo p (ckBytes (m + 1) (pruneOf X))))) ∧
    (Dn L 8 → s10 = .string (bstr (cutTo p (ckBytes (m + 1) (pruneOf X)))))

set_option maxHeartbeats 8000000 in
set_option maxRecDepth 100000 in
theorem impl_ckptPut (A : Option Addr) (n ca : Nat) (X : List Rc) (a b : ByteArray) (p : Int) (w : World) (ha : a.size ≤ 1048576) (hb : b.size ≤ 1048576) (hX : SmallR X) (hca : n ≤ ca) (hA : RdRc w w.heap.size A n X) (hg : ErrType w) (hp : p ≤ 9223372036854775807) :
    Calls Tryz.prog 57 #[slotsV a b, .agg #[.slice A n ca], .int .i64 p] w fun e w' => e = .returned (slotsV (cpA a b X p) (cpB a b X p)) ∧ Below w.heap.size w w' := by
  have HG := Lib.hid hg; have HX := Lib.hid hX; have HA := Lib.hid hA; clear hg hX hA
  go_enter Tryz.func57, Tryz.ntmps57
  go_wp2_with fail
  have hb0 : Below w.heap.size w (((w.alloc (.cells #[.string a, .string b] 88)).alloc (.cells #[.slice A n ca] 29)).alloc (.cells #[.string ⟨#[]⟩, .string ⟨#[]⟩] 88)) := (((Below.refl _ _).alloc (Nat.le_refl _) _).alloc (by simp) _).alloc (by simp; omega) _
  have k0 := ((isBlk_new w 88 [.string a, .string b]).alloc (.cells #[.slice A n ca] 29)).alloc (.cells #[.string ⟨#[]⟩, .string ⟨#[]⟩] 88)
  have k1 := (isBlk_new (w.alloc (.cells #[.string a, .string b] 88)) 29 [.slice A n ca]).alloc (.cells #[.string ⟨#[]⟩, .string ⟨#[]⟩] 88)
  have k2 := isBlk_new ((w.alloc (.cells #[.string a, .string b] 88)).alloc (.cells #[.slice A n ca] 29)) 88 [.string ⟨#[]⟩, .string ⟨#[]⟩]
  simp only [size_alloc] at k1 k2
  have hz : (((w.alloc (.cells #[.string a, .string b] 88)).alloc (.cells #[.slice A n ca] 29)).alloc (.cells #[.string ⟨#[]⟩, .string ⟨#[]⟩] 88)).heap.size = w.heap.size + 3 := by simp
  change IsBlk (((w.alloc (.cells #[.string a, .string b] 88)).alloc (.cells #[.slice A n ca] 29)).alloc (.cells #[.string ⟨#[]⟩, .string ⟨#[]⟩] 88)) _ _ _ at k0 k1 k2
  generalize ((w.alloc (.cells #[.string a, .string b] 88)).alloc (.cells #[.slice A n ca] 29)).alloc (.cells #[.string ⟨#[]⟩, .string ⟨#[]⟩] 88) = W at hb0 k0 k1 k2 hz ⊢
  have c0 : W.cell? ⟨w.heap.size, 0, none⟩ = some (.string a) := k0.cell rfl
  have c1 : W.cell? ⟨w.heap.size, 1, none⟩ = some (.string b) := k0.cell rfl
  have hl0 := k0.lt
  have HB0 := Lib.hid hb0; have HK0 := Lib.hid k0; have HK1 := Lib.hid k1; have HK2 := Lib.hid k2
  clear hb0 k0 k1 k2
  go_cut [7] (fun v7 u => ∃ gn, v7 = .pointer (some ⟨gn, 0, none⟩) ∧ W.heap.size ≤ gn ∧ IsBlk u gn 88 [.string a, .string b] ∧ Below W.heap.size W u)
  case first =>
    rename_i J K hJ hK
    refine wp_region_any (by kernel_rfl) (wpAny_inv (CpInv (fun s7 s11 s12 s13 s14 s15 s16 s17 s18 s19 => { tmps := #[slotsV a b, .agg #[.slice A n ca], .int .i64 p, .pointer (some ⟨w.heap.size, 0, none⟩), .pointer (some ⟨w.heap.size + 1, 0, none⟩), undef, .pointer (some ⟨w.heap.size + 1 + 1, 0, none⟩), s7, undef, undef, undef, s11, s12, s13, s14, s15, s16, s17, s18, s19, undef, undef, undef, undef, undef, undef, undef, undef, undef, undef, undef, undef, undef, undef, undef, undef, undef, undef, undef, undef, undef, undef, undef, undef, undef, undef, undef, undef, undef, undef, undef, undef, undef, undef, undef, undef], defers := [] }) W w.heap.size a b) ?sz ?step ?rend _ _ _ _ (by decide) ?start)
    case sz => intro L x u h; exact h.1
    case start =>
      refine ⟨by simp, fun h => ?_, _, _, _, _, _, _, _, _, _, _, 0, rfl, (Below.refl _ W).drew, fun h => ?_, fun h => ?_, fun h => ?_, fun h => ?_, fun h => ?_, fun h => ?_, fun h => ?_, fun h => ?_, fun h => ?_, fun h => ?_, fun h => ?_, fun h => ?_⟩
      all_goals (simp only [dn_zero] at h)
    case step =>
      intro L x u hI i o ho hi hL hd
      obtain ⟨hsz, kl, s7, s11, s12, s13, s14, s15, s16, s17, s18, s19, gn, rfl, hB, e0, e1, e2, e3, e4, e5, e6, e7, e8, e9, f9, f10⟩ := hI
      have hcase : i = 0 ∨ i = 1 ∨ i = 2 ∨ i = 3 ∨ i = 4 ∨ i = 5 ∨ i = 6 ∨ i = 7 ∨ i = 8 ∨ i = 9 ∨ i = 10 := by omega
      rcases hcase with rfl | rfl | rfl | rfl | rfl | rfl | rfl | rfl | rfl | rfl | rfl
      · -- operation 0
        refine wpOp_of_list ho (by cases ho; rfl) ?_
        cases ho
        have nl : ¬ Dn L 10 := fun h => Dn.not hi hL (kl h _ (by decide))
        go_wp2_with fail
        exact ⟨by simp [hsz], fun h j hj => ((kl ((h.set).resolve_left (by decide))) j hj).stay, _, _, _, _, _, _, _, _, _, _, gn, rfl, hB, fun _ => rfl, fun h => e1 ((h.set).resolve_left (by decide)), fun h _ => e2 ((h.set).resolve_left (by decide)) nl, fun h => e3 ((h.set).resolve_left (by decide)), fun h => e4 ((h.set).resolve_left (by decide)), fun h => e5 ((h.set).resolve_left (by decide)), fun h _ => e6 ((h.set).resolve_left (by decide)) nl, fun h => e7 ((h.set).resolve_left (by decide)), fun h => e8 ((h.set).resolve_left (by decide)), fun h => e9 ((h.set).resolve_left (by decide)), fun h _ => f9 ((h.set).resolve_left (by decide)) nl, fun h => f10 ((h.set).resolve_left (by decide))⟩
      · -- operation 1
        refine wpOp_of_list ho (by cases ho; rfl) ?_
        cases ho
        have nl : ¬ Dn L 10 := fun h => Dn.not hi hL (kl h _ (by decide))
        obtain rfl := e0 (hd ⟨0, .data⟩ (by simp) rfl)
        have hc : u.cell? ⟨w.heap.size, 0, none⟩ = some (.string a) := (hB.cell (p := ⟨w.heap.size, 0, none⟩) hl0).trans c0
        go_wp2_with fail
        exact ⟨by simp [hsz], fun h j hj => ((kl ((h.set).resolve_left (by decide))) j hj).stay, _, _, _, _, _, _, _, _, _, _, gn, rfl, hB, fun _ => rfl, fun _ => rfl, fun h _ => e2 ((h.set).resolve_left (by decide)) nl, fun h => e3 ((h.set).resolve_left (by decide)), fun h => e4 ((h.set).resolve_left (by decide)), fun h => e5 ((h.set).resolve_left (by decide)), fun h _ => e6 ((h.set).resolve_left (by decide)) nl, fun h => e7 ((h.set).resolve_left (by decide)), fun h => e8 ((h.set).resolve_left (by decide)), fun h => e9 ((h.set).resolve_left (by decide)), fun h _ => f9 ((h.set).resolve_left (by decide)) nl, fun h => f10 ((h.set).resolve_left (by decide))⟩
      · -- operation 2
        refine wpOp_of_list ho (by cases ho; rfl) ?_
        cases ho
        have nl : ¬ Dn L 10 := fun h => Dn.not hi hL (kl h _ (by decide))
        obtain rfl := e1 (hd ⟨1, .data⟩ (by simp) rfl)
        have hb := box_belK u (.cells #[.string a] 9)
        go_wp2_with fail
        exact ⟨by simp [hsz], fun h j hj => ((kl ((h.set).resolve_left (by decide))) j hj).stay, _, _, _, _, _, _, _, _, _, _, gn, rfl, hB.trans (hb.mono hB.size), fun h => e0 ((h.set).resolve_left (by decide)), fun _ => rfl, fun _ _ => ⟨_, rfl, (isBlk_new u _ [.string a]).cell rfl⟩, fun h => e3 ((h.set).resolve_left (by decide)), fun h => e4 ((h.set).resolve_left (by decide)), fun h => e5 ((h.set).resolve_left (by decide)), fun h _ => (e6 ((h.set).resolve_left (by decide)) nl).next hb, fun h => e7 ((h.set).resolve_left (by decide)), fun h => e8 ((h.set).resolve_left (by decide)), fun h => e9 ((h.set).resolve_left (by decide)), fun h _ => (f9 ((h.set).resolve_left (by decide)) nl).below hb (f9 ((h.set).resolve_left (by decide)) nl).lt, fun h => (f10 ((h.set).resolve_left (by decide))).below hb (f10 ((h.set).resolve_left (by decide))).lt⟩
      · -- operation 3
        refine wpOp_of_list ho (by cases ho; rfl) ?_
        cases ho
        have nl : ¬ Dn L 10 := fun h => Dn.not hi hL (kl h _ (by decide))
        obtain ⟨r, rfl, hc⟩ := e2 (hd ⟨2, .data⟩ (by simp) rfl) nl
        go_wp2_with fail
        refine (assemble_oneR a _ _ u hc (by omega)).mono ?_
        rintro e w1 ⟨rfl, hb⟩
        go_wp2_with fail
        exact ⟨by simp [hsz], fun h j hj => ((kl ((h.set).resolve_left (by decide))) j hj).stay, _, _, _, _, _, _, _, _, _, _, gn, rfl, hB.trans (hb.mono hB.size), fun h => e0 ((h.set).resolve_left (by decide)), fun h => e1 ((h.set).resolve_left (by decide)), fun _ _ => (show RowOne u _ a from ⟨r, rfl, hc⟩).next hb, fun _ => rfl, fun h => e4 ((h.set).resolve_left (by decide)), fun h => e5 ((h.set).resolve_left (by decide)), fun h _ => (e6 ((h.set).resolve_left (by decide)) nl).next hb, fun h => e7 ((h.set).resolve_left (by decide)), fun h => e8 ((h.set).resolve_left (by decide)), fun h => e9 ((h.set).resolve_left (by decide)), fun h _ => (f9 ((h.set).resolve_left (by decide)) nl).below hb (f9 ((h.set).resolve_left (by decide)) nl).lt, fun h => (f10 ((h.set).resolve_left (by decide))).below hb (f10 ((h.set).resolve_left (by decide))).lt⟩
      · -- operation 4
        refine wpOp_of_list ho (by cases ho; rfl) ?_
        cases ho
        have nl : ¬ Dn L 10 := fun h => Dn.not hi hL (kl h _ (by decide))
        go_wp2_with fail
        exact ⟨by simp [hsz], fun h j hj => ((kl ((h.set).resolve_left (by decide))) j hj).stay, _, _, _, _, _, _, _, _, _, _, gn, rfl, hB, fun h => e0 ((h.set).resolve_left (by decide)), fun h => e1 ((h.set).resolve_left (by decide)), fun h _ => e2 ((h.set).resolve_left (by decide)) nl, fun h => e3 ((h.set).resolve_left (by decide)), fun _ => rfl, fun h => e5 ((h.set).resolve_left (by decide)), fun h _ => e6 ((h.set).resolve_left (by decide)) nl, fun h => e7 ((h.set).resolve_left (by decide)), fun h => e8 ((h.set).resolve_left (by decide)), fun h => e9 ((h.set).resolve_left (by decide)), fun h _ => f9 ((h.set).resolve_left (by decide)) nl, fun h => f10 ((h.set).resolve_left (by decide))⟩
      · -- operation 5
        refine wpOp_of_list ho (by cases ho; rfl) ?_
        cases ho
        have nl : ¬ Dn L 10 := fun h => Dn.not hi hL (kl h _ (by decide))
        obtain rfl := e4 (hd ⟨4, .data⟩ (by simp) rfl)
        have hc : u.cell? ⟨w.heap.size, 1, none⟩ = some (.string b) := (hB.cell (p := ⟨w.heap.size, 1, none⟩) hl0).trans c1
        go_wp2_with fail
        exact ⟨by simp [hsz], fun h j hj => ((kl ((h.set).resolve_left (by decide))) j hj).stay, _, _, _, _, _, _, _, _, _, _, gn, rfl, hB, fun h => e0 ((h.set).resolve_left (by decide)), fun h => e1 ((h.set).resolve_left (by decide)), fun h _ => e2 ((h.set).resolve_left (by decide)) nl, fun h => e3 ((h.set).resolve_left (by decide)), fun _ => rfl, fun _ => rfl, fun h _ => e6 ((h.set).resolve_left (by decide)) nl, fun h => e7 ((h.set).resolve_left (by decide)), fun h => e8 ((h.set).resolve_left (by decide)), fun h => e9 ((h.set).resolve_left (by decide)), fun h _ => f9 ((h.set).resolve_left (by decide)) nl, fun h => f10 ((h.set).resolve_left (by decide))⟩
      · -- operation 6
        refine wpOp_of_list ho (by cases ho; rfl) ?_
        cases ho
        have nl : ¬ Dn L 10 := fun h => Dn.not hi hL (kl h _ (by decide))
        obtain rfl := e5 (hd ⟨5, .data⟩ (by simp) rfl)
        have hb := box_belK u (.cells #[.string b] 9)
        go_wp2_with fail
        exact ⟨by simp [hsz], fun h j hj => ((kl ((h.set).resolve_left (by decide))) j hj).stay, _, _, _, _, _, _, _, _, _, _, gn, rfl, hB.trans (hb.mono hB.size), fun h => e0 ((h.set).resolve_left (by decide)), fun h => e1 ((h.set).resolve_left (by decide)), fun h _ => (e2 ((h.set).resolve_left (by decide)) nl).next hb, fun h => e3 ((h.set).resolve_left (by decide)), fun h => e4 ((h.set).resolve_left (by decide)), fun _ => rfl, fun _ _ => ⟨_, rfl, (isBlk_new u _ [.string b]).cell rfl⟩, fun h => e7 ((h.set).resolve_left (by decide)), fun h => e8 ((h.set).resolve_left (by decide)), fun h => e9 ((h.set).resolve_left (by decide)), fun h _ => (f9 ((h.set).resolve_left (by decide)) nl).below hb (f9 ((h.set).resolve_left (by decide)) nl).lt, fun h => (f10 ((h.set).resolve_left (by decide))).below hb (f10 ((h.set).resolve_left (by decide))).lt⟩
      · -- operation 7
        refine wpOp_of_list ho (by cases ho; rfl) ?_
        cases ho
        have nl : ¬ Dn L 10 := fun h => Dn.not hi hL (kl h _ (by decide))
        obtain ⟨r, rfl, hc⟩ := e6 (hd ⟨6, .data⟩ (by simp) rfl) nl
        go_wp2_with fail
        refine (assemble_oneR b _ _ u hc (by omega)).mono ?_
        rintro e w1 ⟨rfl, hb⟩
        go_wp2_with fail
        exact ⟨by simp [hsz], fun h j hj => ((kl ((h.set).resolve_left (by decide))) j hj).stay, _, _, _, _, _, _, _, _, _, _, gn, rfl, hB.trans (hb.mono hB.size), fun h => e0 ((h.set).resolve_left (by decide)), fun h => e1 ((h.set).resolve_left (by decide)), fun h _ => (e2 ((h.set).resolve_left (by decide)) nl).next hb, fun h => e3 ((h.set).resolve_left (by decide)), fun h => e4 ((h.set).resolve_left (by decide)), fun h => e5 ((h.set).resolve_left (by decide)), fun _ _ => (show RowOne u _ b from ⟨r, rfl, hc⟩).next hb, fun _ => rfl, fun h => e8 ((h.set).resolve_left (by decide)), fun h => e9 ((h.set).resolve_left (by decide)), fun h _ => (f9 ((h.set).resolve_left (by decide)) nl).below hb (f9 ((h.set).resolve_left (by decide)) nl).lt, fun h => (f10 ((h.set).resolve_left (by decide))).below hb (f10 ((h.set).resolve_left (by decide))).lt⟩
      · -- operation 8
        refine wpOp_of_list ho (by cases ho; rfl) ?_
        cases ho
        have nl : ¬ Dn L 10 := fun h => Dn.not hi hL (kl h _ (by decide))
        obtain rfl := e3 (hd ⟨3, .data⟩ (by simp) rfl)
        obtain rfl := e7 (hd ⟨7, .data⟩ (by simp) rfl)
        go_wp2_with fail
        exact ⟨by simp [hsz], fun h j hj => ((kl ((h.set).resolve_left (by decide))) j hj).stay, _, _, _, _, _, _, _, _, _, _, gn, rfl, hB, fun h => e0 ((h.set).resolve_left (by decide)), fun h => e1 ((h.set).resolve_left (by decide)), fun h _ => e2 ((h.set).resolve_left (by decide)) nl, fun _ => rfl, fun h => e4 ((h.set).resolve_left (by decide)), fun h => e5 ((h.set).resolve_left (by decide)), fun h _ => e6 ((h.set).resolve_left (by decide)) nl, fun _ => rfl, fun _ => rfl, fun h => e9 ((h.set).resolve_left (by decide)), fun h _ => f9 ((h.set).resolve_left (by decide)) nl, fun h => f10 ((h.set).resolve_left (by decide))⟩
      · -- operation 9
        refine wpOp_of_list ho (by cases ho; rfl) ?_
        cases ho
        have nl : ¬ Dn L 10 := fun h => Dn.not hi hL (kl h _ (by decide))
        have hb := box_belK u (.cells #[.string ⟨#[]⟩, .string ⟨#[]⟩] 88)
        have hs0 := hB.size
        go_wp2_with fail
        exact ⟨by simp [hsz], fun h j hj => ((kl ((h.set).resolve_left (by decide))) j hj).stay, _, _, _, _, _, _, _, _, _, _, u.heap.size, rfl, hB.trans (hb.mono hB.size), fun h => e0 ((h.set).resolve_left (by decide)), fun h => e1 ((h.set).resolve_left (by decide)), fun h _ => (e2 ((h.set).resolve_left (by decide)) nl).next hb, fun h => e3 ((h.set).resolve_left (by decide)), fun h => e4 ((h.set).resolve_left (by decide)), fun h => e5 ((h.set).resolve_left (by decide)), fun h _ => (e6 ((h.set).resolve_left (by decide)) nl).next hb, fun h => e7 ((h.set).resolve_left (by decide)), fun h => e8 ((h.set).resolve_left (by decide)), fun _ => ⟨rfl, hs0⟩, fun _ _ => isBlk_new u _ [.string ⟨#[]⟩, .string ⟨#[]⟩], fun h => absurd (h.set.resolve_left (by decide)) nl⟩
      · -- operation 10
        refine wpOp_of_list ho (by cases ho; rfl) ?_
        cases ho
        have dall : ∀ j, j < 10 → Dn L j := by
          intro j hj
          have hcj : j = 0 ∨ j = 1 ∨ j = 2 ∨ j = 3 ∨ j = 4 ∨ j = 5 ∨ j = 6 ∨ j = 7 ∨ j = 8 ∨ j = 9 := by omega
          rcases hcj with rfl | rfl | rfl | rfl | rfl | rfl | rfl | rfl | rfl | rfl
          all_goals exact hd ⟨_, .phase⟩ (by simp) rfl
        have nl := Dn.not hi hL
        obtain rfl := e8 (dall 8 (by omega))
        obtain ⟨rfl, hgn⟩ := e9 (dall 9 (by omega))
        have hk := f9 (dall 9 (by omega)) nl
        obtain ⟨p0, p1, fr0, fr1⟩ := blk2 hk
        go_wp2_with fail
        exact ⟨by simp [hsz], fun _ j hj => (dall j hj).stay, _, _, _, _, _, _, _, _, _, _, gn, rfl, (hB.setCell (p := ⟨gn, 0, none⟩) hgn _).setCell (p := ⟨gn, 1, none⟩) hgn _, fun _ => rfl, fun _ => rfl, fun _ h => absurd (Dn.new hi) h, fun _ => rfl, fun _ => rfl, fun _ => rfl, fun _ h => absurd (Dn.new hi) h, fun _ => rfl, fun _ => rfl, fun _ => ⟨rfl, hgn⟩, fun _ h => absurd (Dn.new hi) h, fun _ => ((hk.set (j := 0) _).set (j := 1) _)⟩
    case rend =>
      intro L x u hI hr
      obtain ⟨hsz, -, s7, s11, s12, s13, s14, s15, s16, s17, s18, s19, gn, rfl, hB, e0, e1, e2, e3, e4, e5, e6, e7, e8, e9, f9, f10⟩ := hI
      have d0 : Dn L 0 := ready_nil hr hsz (i := 0) rfl (by simp)
      have d1 : Dn L 1 := ready_nil hr hsz (i := 1) rfl (by simp [d0])
      have d2 : Dn L 2 := ready_nil hr hsz (i := 2) rfl (by simp [d1])
      have d3 : Dn L 3 := ready_nil hr hsz (i := 3) rfl (by simp [d2])
      have d4 : Dn L 4 := ready_nil hr hsz (i := 4) rfl (by simp)
      have d5 : Dn L 5 := ready_nil hr hsz (i := 5) rfl (by simp [d4])
      have d6 : Dn L 6 := ready_nil hr hsz (i := 6) rfl (by simp [d5])
      have d7 : Dn L 7 := ready_nil hr hsz (i := 7) rfl (by simp [d6, d3])
      have d8 : Dn L 8 := ready_nil hr hsz (i := 8) rfl (by simp [d3, d7])
      have d9 : Dn L 9 := ready_nil hr hsz (i := 9) rfl (by simp)
      have d10 : Dn L 10 := ready_nil hr hsz (i := 10) rfl (by simp [d0, d1, d2, d3, d4, d5, d6, d7, d8, d9])
      obtain ⟨rfl, hgn⟩ := e9 d9
      refine Met.intro (hK _ _ (Met.intro (hJ _ _ ?_)))
      repeat apply Exists.intro
      refine ⟨?_, rfl⟩
      exact ⟨gn, rfl, hgn, f10 d10, hB⟩
  case rest =>
    obtain ⟨gn, rfl, hgn, hkn, hbn⟩ := hcut
    have H1 : Hid (PtSt w wc gn a b A n ca) := ⟨HB0.out.trans (hbn.mono (by omega)), HK0.out.below hbn HK0.out.lt, HK1.out.below hbn HK1.out.lt, HK2.out.below hbn HK2.out.lt, hkn, by omega⟩
    clear hgn hkn hbn HB0 HK0 HK1 HK2 hl0 hz c0 c1 W
    obtain ⟨c0, c1, -, -⟩ := blk2 H1.out.ks
    go_wp2_with fail
    refine (impl_slotsRight a b wc (by unfold maxLen; omega) (by unfold maxLen; omega)).mono ?_
    rintro e w1 ⟨rfl, hb1⟩
    have H2 := Lib.hid (H1.out.below hb1)
    clear hb1 c0 c1
    cases hs : slotB a b with
    | false =>
      have HC := Lib.hid (cp_no (a := a) (b := b) (X := X) (p := p) (fun h => by have h' := h.1; rw [hs] at h'; cases h'))
      obtain ⟨n0, n1, -, -⟩ := blk2 H2.out.kn
      obtain ⟨r0, r1, f0, f1⟩ := blk2 H2.out.kr
      go_wp2_with fail
      refine bodyPost_ret (v := slotsV a b) (by simp [results, Tryz.results57, go_sem, r0, r1]) rfl ?_
      exact pt_fin HC.out H2.out _ _
    | true =>
    have hh0 : w1.cell? ⟨w.heap.size + 1, 0, none⟩ = some (.slice A n ca) := H2.out.kh.cell rfl
    go_wp2_with fail
    refine (impl_histRight_any A n ca X w1 HX.out (HA.out.next H2.out.bel)).mono ?_
    rintro e w2 ⟨rfl, hb2⟩
    have H3 := Lib.hid (H2.out.below hb2)
    clear hb2 hh0
    cases hr : hRight X with
    | false =>
      have HC := Lib.hid (cp_no (a := a) (b := b) (X := X) (p := p) (fun h => by have h' := h.2.1; rw [hr] at h'; cases h'))
      obtain ⟨n0, n1, -, -⟩ := blk2 H3.out.kn
      obtain ⟨r0, r1, f0, f1⟩ := blk2 H3.out.kr
      go_wp2_with fail
      refine bodyPost_ret (v := slotsV a b) (by simp [results, Tryz.results57, go_sem, r0, r1]) rfl ?_
      exact pt_fin HC.out H3.out _ _
    | true =>
    by_cases hp1 : p < -1
    · have HC := Lib.hid (cp_no (a := a) (b := b) (X := X) (p := p) (fun h => by have := h.2.2.1; omega))
      obtain ⟨n0, n1, -, -⟩ := blk2 H3.out.kn
      obtain ⟨r0, r1, f0, f1⟩ := blk2 H3.out.kr
      go_wp2_with fail
      refine bodyPost_ret (v := slotsV a b) (by simp [results, Tryz.results57, go_sem, r0, r1]) rfl ?_
      exact pt_fin HC.out H3.out _ _
    have hp1' : -1 ≤ p := by omega
    obtain ⟨c0, c1, -, -⟩ := blk2 H3.out.ks
    go_wp2_with fail
    refine (bestOf_any a b w2 (by unfold maxLen; omega) (by unfold maxLen; omega) (HG.out.below H3.out.bel)).mono ?_
    rintro e w3 ⟨Ab, cb, rfl, -, hb3⟩
    have H4 := Lib.hid (H3.out.below hb3)
    clear hb3 c0 c1
    have hrange := ckRNum_range (ckTxt a b)
    have HGO := Lib.hid (fun (h : ckRNum (ckTxt a b) ≠ 1000000) => (show cpGo a b X p from ⟨hs, hr, hp1', h⟩))
    have HNG := Lib.hid (fun (h : ckRNum (ckTxt a b) = 1000000) => cp_no (a := a) (b := b) (X := X) (p := p) (fun h' => h'.2.2.2 h))
    have HTX : Hid (∀ h : ckRNum (ckTxt a b) ≠ 1000000, cpNew a b X p = cutTo p (ckBytes (ckRNum (ckTxt a b) + 1) (pruneOf X))) := fun h => by unfold cpNew; rw [ckBytes_text ⟨by omega, by omega⟩ (ckPrune_right hr)]
    obtain ⟨m, hm⟩ : ∃ m, m = ckRNum (ckTxt a b) := ⟨_, rfl⟩
    rw [← hm] at hrange HGO HNG HTX ⊢
    generalize ckList (ckTxt a b) = Lb at *
    generalize ckCode (ckTxt a b) = Cb at *
    clear hm
    have hbx := box_belK w3 (.cells #[.int .i64 m, .slice Ab Lb.length cb, .int .i64 Cb] 175)
    have k8 := isBlk_new w3 175 [.int .i64 m, .slice Ab Lb.length cb, .int .i64 Cb]
    change IsBlk (w3.alloc (.cells #[.int .i64 m, .slice Ab Lb.length cb, .int .i64 Cb] 175)) _ _ _ at k8
    have H5 := Lib.hid (H4.out.below hbx)
    have hl8 := k8.lt
    have q0 : (w3.alloc (.cells #[.int .i64 m, .slice Ab Lb.length cb, .int .i64 Cb] 175)).cell? ⟨w3.heap.size, 0, none⟩ = some (.int .i64 m) := k8.cell rfl
    clear hbx k8
    by_cases hm : m = 1000000
    · have HC := Lib.hid (HNG.out hm)
      subst hm
      obtain ⟨n0, n1, -, -⟩ := blk2 H5.out.kn
      obtain ⟨r0, r1, f0, f1⟩ := blk2 H5.out.kr
      go_wp2_with fail
      refine bodyPost_ret (v := slotsV a b) (by simp [results, Tryz.results57, go_sem, r0, r1]) rfl ?_
      exact pt_fin HC.out H5.out _ _
    have HGO2 := Lib.hid (HGO.out hm); have HTX2 := Lib.hid (HTX.out hm)
    have hmq : (m == 1000000) = false := by simpa using hm
    have hwm : IntKind.i64.wrap (m + 1) = m + 1 := IntWalk.i64_in _ (by omega)
    clear HGO HNG HTX
    go_wp2_with fail
    generalize w3.alloc (.cells #[.int .i64 m, .slice Ab Lb.length cb, .int .i64 Cb] 175) = WB at H5 hl8 q0 ⊢
    have qh : WB.cell? ⟨w.heap.size + 1, 0, none⟩ = some (.slice A n ca) := H5.out.kh.cell rfl
    have hlh := H5.out.kh.lt
    generalize w3.heap.size = g8 at *
    have HAB : Hid (∀ u, Below WB.heap.size WB u → RdRc u u.heap.size A n X) := fun u h => HA.out.next (bel_thru H5.out.bel h)
    have HPR := ckPrune_right hr
    have HPS : Hid (SmallR (pruneOf X)) := hRight_small HPR
    have HCL : Hid ((ckBytes (m + 1) (pruneOf X)).length ≤ 2147483648) := by
      show _ ≤ _
      rw [ckBytes_text ⟨by omega, by omega⟩ HPR]
      have := ckText_len (num := m + 1) HPR
      omega
    clear HPR
    have HCB := Lib.hid (fun h => cp_a (a := a) (b := b) (X := X) (p := p) HGO2.out h); have HCA := Lib.hid (fun h => cp_b (a := a) (b := b) (X := X) (p := p) HGO2.out h)
    rw [HTX2.out] at HCB HCA
    go_cut [10] (fun v10 u => v10 = .string (bstr (cutTo p (ckBytes (m + 1) (pruneOf X)))) ∧ Below WB.heap.size WB u)
    case first =>
      rename_i J K hJ hK
      refine wp_region_any (by kernel_rfl) (wpAny_inv (CpInv7 (fun s10 s42 s43 s44 s45 s46 s47 s48 s49 => { tmps := #[slotsV a b, .agg #[.slice A n ca], .int .i64 p, .pointer (some ⟨w.heap.size, 0, none⟩), .pointer (some ⟨w.heap.size + 1, 0, none⟩), undef, .pointer (some ⟨w.heap.size + 1 + 1, 0, none⟩), .pointer (some ⟨gn, 0, none⟩), .pointer (some ⟨g8, 0, none⟩), .bool (ckSel a b), s10, u11, u12, u13, u14, u15, u16, u17, u18, u19, .agg #[.string a, .string b], .bool true, .bool false, .bool false, .agg #[.slice A n ca], .bool true, .bool false, .bool false, .bool false, .int .i64 p, .bool (decide (p < -1)), .bool (decide (p < -1)), u32, .tuple #[ckV m Ab Lb.length cb Cb, .bool (ckSel a b)], .agg #[.string a, .string b], .tuple #[ckV m Ab Lb.length cb Cb, .bool (ckSel a b)], ckV m Ab Lb.length cb Cb, .bool (ckSel a b), .pointer (some ⟨g8, 0, none⟩), .int .i64 m, .bool false, u41, s42, s43, s44, s45, s46, s47, s48, s49, u50, u51, u52, u53, u54, u55], defers := [] }) WB A n ca X p m g8) ?sz ?step ?rend _ _ _ _ (by decide) ?start)
      case sz => intro L x u h; exact h.1
      case start =>
        refine ⟨by simp, _, _, _, _, _, _, _, _, _, rfl, (Below.refl _ WB).drew, fun h => ?_, fun h => ?_, fun h => ?_, fun h => ?_, fun h => ?_, fun h => ?_, fun h => ?_, fun h => ?_, fun h => ?_⟩
        all_goals (simp only [dn_zero] at h)
      case step =>
        intro L x u hI i o ho hi hL hd
        obtain ⟨hsz, s10, s42, s43, s44, s45, s46, s47, s48, s49, rfl, hB, e0, e1, e2, e3, e4, e5, e6, e7, e8⟩ := hI
        have hcase : i = 0 ∨ i = 1 ∨ i = 2 ∨ i = 3 ∨ i = 4 ∨ i = 5 ∨ i = 6 ∨ i = 7 ∨ i = 8 := by omega
        rcases hcase with rfl | rfl | rfl | rfl | rfl | rfl | rfl | rfl | rfl
        · -- operation 0
          refine wpOp_of_list ho (by cases ho; rfl) ?_
          cases ho
          go_wp2_with fail
          exact ⟨by simp [hsz], _, _, _, _, _, _, _, _, _, rfl, hB, fun _ => rfl, fun h => e1 ((h.set).resolve_left (by decide)), fun h => e2 ((h.set).resolve_left (by decide)), fun h => e3 ((h.set).resolve_left (by decide)), fun h => e4 ((h.set).resolve_left (by decide)), fun h => e5 ((h.set).resolve_left (by decide)), fun h => e6 ((h.set).resolve_left (by decide)), fun h => e7 ((h.set).resolve_left (by decide)), fun h => e8 ((h.set).resolve_left (by decide))⟩
        · -- operation 1
          refine wpOp_of_list ho (by cases ho; rfl) ?_
          cases ho
          obtain rfl := e0 (hd ⟨0, .data⟩ (by simp) rfl)
          have hc := (hB.cell (p := ⟨g8, 0, none⟩) hl8).trans q0
          go_wp2_with fail
          exact ⟨by simp [hsz], _, _, _, _, _, _, _, _, _, rfl, hB, fun _ => rfl, fun _ => rfl, fun h => e2 ((h.set).resolve_left (by decide)), fun h => e3 ((h.set).resolve_left (by decide)), fun h => e4 ((h.set).resolve_left (by decide)), fun h => e5 ((h.set).resolve_left (by decide)), fun h => e6 ((h.set).resolve_left (by decide)), fun h => e7 ((h.set).resolve_left (by decide)), fun h => e8 ((h.set).resolve_left (by decide))⟩
        · -- operation 2
          refine wpOp_of_list ho (by cases ho; rfl) ?_
          cases ho
          obtain rfl := e1 (hd ⟨1, .data⟩ (by simp) rfl)
          go_wp2_with fail
          exact ⟨by simp [hsz], _, _, _, _, _, _, _, _, _, rfl, hB, fun h => e0 ((h.set).resolve_left (by decide)), fun _ => rfl, fun _ => rfl, fun h => e3 ((h.set).resolve_left (by decide)), fun h => e4 ((h.set).resolve_left (by decide)), fun h => e5 ((h.set).resolve_left (by decide)), fun h => e6 ((h.set).resolve_left (by decide)), fun h => e7 ((h.set).resolve_left (by decide)), fun h => e8 ((h.set).resolve_left (by decide))⟩
        · -- operation 3
          refine wpOp_of_list ho (by cases ho; rfl) ?_
          cases ho
          have hc := (hB.cell (p := ⟨w.heap.size + 1, 0, none⟩) hlh).trans qh
          go_wp2_with fail
          exact ⟨by simp [hsz], _, _, _, _, _, _, _, _, _, rfl, hB, fun h => e0 ((h.set).resolve_left (by decide)), fun h => e1 ((h.set).resolve_left (by decide)), fun h => e2 ((h.set).resolve_left (by decide)), fun _ => rfl, fun h => e4 ((h.set).resolve_left (by decide)), fun h => e5 ((h.set).resolve_left (by decide)), fun h => e6 ((h.set).resolve_left (by decide)), fun h => e7 ((h.set).resolve_left (by decide)), fun h => e8 ((h.set).resolve_left (by decide))⟩
        · -- operation 4
          refine wpOp_of_list ho (by cases ho; rfl) ?_
          cases ho
          obtain rfl := e3 (hd ⟨3, .data⟩ (by simp) rfl)
          go_wp2_with fail
          refine (impl_prune A n ca X u HX.out hca (HAB.out u hB)).mono ?_
          rintro e w9 ⟨A9, c9, rfl, ho9, hb⟩
          go_wp2_with fail
          exact ⟨by simp [hsz], _, _, _, _, _, _, _, _, _, rfl, hB.trans (hb.mono hB.size), fun h => e0 ((h.set).resolve_left (by decide)), fun h => e1 ((h.set).resolve_left (by decide)), fun h => e2 ((h.set).resolve_left (by decide)), fun _ => rfl, fun _ => ⟨A9, c9, rfl, ho9.rd (Nat.le_refl _)⟩, fun h => e5 ((h.set).resolve_left (by decide)), fun h => e6 ((h.set).resolve_left (by decide)), fun h => e7 ((h.set).resolve_left (by decide)), fun h => e8 ((h.set).resolve_left (by decide))⟩
        · -- operation 5
          refine wpOp_of_list ho (by cases ho; rfl) ?_
          cases ho
          obtain rfl := e2 (hd ⟨2, .data⟩ (by simp) rfl)
          obtain ⟨A9, c9, rfl, hr9⟩ := e4 (hd ⟨4, .data⟩ (by simp) rfl)
          go_wp2_with fail
          refine (impl_ckptBytes (m + 1) A9 _ c9 (pruneOf X) u HPS.out hr9).mono ?_
          rintro e w9 ⟨rfl, hb⟩
          go_wp2_with fail
          exact ⟨by simp [hsz], _, _, _, _, _, _, _, _, _, rfl, hB.trans (hb.mono hB.size), fun h => e0 ((h.set).resolve_left (by decide)), fun h => e1 ((h.set).resolve_left (by decide)), fun _ => rfl, fun h => e3 ((h.set).resolve_left (by decide)), fun _ => ⟨A9, c9, rfl, hr9.next hb⟩, fun _ => rfl, fun h => e6 ((h.set).resolve_left (by decide)), fun h => e7 ((h.set).resolve_left (by decide)), fun h => e8 ((h.set).resolve_left (by decide))⟩
        · -- operation 6
          refine wpOp_of_list ho (by cases ho; rfl) ?_
          cases ho
          go_wp2_with fail
          exact ⟨by simp [hsz], _, _, _, _, _, _, _, _, _, rfl, hB, fun h => e0 ((h.set).resolve_left (by decide)), fun h => e1 ((h.set).resolve_left (by decide)), fun h => e2 ((h.set).resolve_left (by decide)), fun h => e3 ((h.set).resolve_left (by decide)), fun h => e4 ((h.set).resolve_left (by decide)), fun h => e5 ((h.set).resolve_left (by decide)), fun _ => rfl, fun h => e7 ((h.set).resolve_left (by decide)), fun h => e8 ((h.set).resolve_left (by decide))⟩
        · -- operation 7
          refine wpOp_of_list ho (by cases ho; rfl) ?_
          cases ho
          obtain rfl := e5 (hd ⟨5, .data⟩ (by simp) rfl)
          obtain rfl := e6 (hd ⟨6, .data⟩ (by simp) rfl)
          go_wp2_with fail
          refine (written_any _ p u (by rw [bstr_size]; exact HCL.out)).mono ?_
          rw [bstr_list]
          rintro e w9 ⟨rfl, hb⟩
          go_wp2_with fail
          exact ⟨by simp [hsz], _, _, _, _, _, _, _, _, _, rfl, hB.trans (hb.mono hB.size), fun h => e0 ((h.set).resolve_left (by decide)), fun h => e1 ((h.set).resolve_left (by decide)), fun h => e2 ((h.set).resolve_left (by decide)), fun h => e3 ((h.set).resolve_left (by decide)), fun h => let ⟨A', c', he, hr⟩ := e4 ((h.set).resolve_left (by decide)); ⟨A', c', he, hr.next hb⟩, fun _ => rfl, fun _ => rfl, fun _ => rfl, fun h => e8 ((h.set).resolve_left (by decide))⟩
        · -- operation 8
          refine wpOp_of_list ho (by cases ho; rfl) ?_
          cases ho
          obtain rfl := e7 (hd ⟨7, .data⟩ (by simp) rfl)
          go_wp2_with fail
          exact ⟨by simp [hsz], _, _, _, _, _, _, _, _, _, rfl, hB, fun h => e0 ((h.set).resolve_left (by decide)), fun h => e1 ((h.set).resolve_left (by decide)), fun h => e2 ((h.set).resolve_left (by decide)), fun h => e3 ((h.set).resolve_left (by decide)), fun h => e4 ((h.set).resolve_left (by decide)), fun h => e5 ((h.set).resolve_left (by decide)), fun h => e6 ((h.set).resolve_left (by decide)), fun _ => rfl, fun _ => rfl⟩
      case rend =>
        intro L x u hI hr
        obtain ⟨hsz, s10, s42, s43, s44, s45, s46, s47, s48, s49, rfl, hB, e0, e1, e2, e3, e4, e5, e6, e7, e8⟩ := hI
        have d0 : Dn L 0 := ready_nil hr hsz (i := 0) rfl (by simp)
        have d1 : Dn L 1 := ready_nil hr hsz (i := 1) rfl (by simp [d0])
        have d2 : Dn L 2 := ready_nil hr hsz (i := 2) rfl (by simp [d1])
        have d3 : Dn L 3 := ready_nil hr hsz (i := 3) rfl (by simp)
        have d4 : Dn L 4 := ready_nil hr hsz (i := 4) rfl (by simp [d3])
        have d5 : Dn L 5 := ready_nil hr hsz (i := 5) rfl (by simp [d2, d4])
        have d6 : Dn L 6 := ready_nil hr hsz (i := 6) rfl (by simp)
        have d7 : Dn L 7 := ready_nil hr hsz (i := 7) rfl (by simp [d5, d6])
        have d8 : Dn L 8 := ready_nil hr hsz (i := 8) rfl (by simp [d0, d1, d2, d3, d4, d5, d6, d7])
        obtain rfl := e8 d8
        refine Met.intro (hK _ _ (Met.intro (hJ _ _ ?_)))
        repeat apply Exists.intro
        refine ⟨?_, rfl⟩
        exact ⟨rfl, hB⟩
    case rest =>
      obtain ⟨rfl, hbw⟩ := hcut
      have H6 := Lib.hid (H5.out.below hbw)
      clear H5 hbw q0 qh HPS HCL HAB
      generalize cutTo p (ckBytes (m + 1) (pruneOf X)) = D at *
      obtain ⟨n0, n1, g0, g1⟩ := blk2 H6.out.kn
      obtain ⟨r0, r1, f0, f1⟩ := blk2 H6.out.kr
      have hgl := H6.out.gl
      have hne : ¬ gn = w.heap.size + 1 + 1 := by omega
      have hne' : ¬ w.heap.size + 1 + 1 = gn := by omega
      cases hsel : ckSel a b with
      | true =>
        have HC := Lib.hid (HCB.out hsel)
        clear HCA HCB
        go_wp2_with fail
        refine bodyPost_ret (v := slotsV a (bstr D)) (by simp [results, Tryz.results57, go_sem, r0, r1]) rfl ?_
        exact ⟨by rw [HC.out.1, HC.out.2], ((H6.out.bel.setCell (by dsimp only; omega) _).setCell (by dsimp only; omega) _).setCell (by dsimp only; omega) _⟩
      | false =>
        have HC := Lib.hid (HCA.out hsel)
        clear HCA HCB
        go_wp2_with fail
        refine bodyPost_ret (v := slotsV (bstr D) b) (by simp [results, Tryz.results57, go_sem, r0, r1]) rfl ?_
        exact ⟨by rw [HC.out.1, HC.out.2], ((H6.out.bel.setCell (by dsimp only; omega) _).setCell (by dsimp only; omega) _).setCell (by dsimp only; omega) _⟩
end Go.Proofs.YtloaeglmngcenaaGreatDoor
