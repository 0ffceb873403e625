/-
  New chips and copies of chips, as the document's model makes them.
-/
import Derived.Test.YtimlaeicbnnbdaaDoorChecked
import Derived.Test.YtimlaeicbnnbdaaDoorNdUpd
import Derived.Deep.AppendLies
import Derived.Deep.RegionHeld3
import Derived.OwnWalk
namespace Go.Proofs.YtimlaeicbnnbdaaDoor
open Go.RowKit

/-! blocks appended one by one: a row that may move when it grows -/
def bkL (pa cp : Nat → Nat) (X : List Bk) (k : Nat) : List Value := (List.range (k * 3)).map (bkF (fun i => some ⟨pa i, 0, none⟩) cp X)
theorem bkL_succ (pa cp : Nat → Nat) (X : List Bk) (k : Nat) : bkL pa cp X (k + 1) = bkL pa cp X k ++ [.slice (some ⟨pa k, 0, none⟩) (X.getD k zeroBk).pages.length (cp k), .int .i64 (X.getD k zeroBk).erases, .bool (X.getD k zeroBk).bad] := by
  unfold bkL
  rw [show (k + 1) * 3 = k * 3 + 1 + 1 + 1 by omega, List.range_succ, List.range_succ, List.range_succ]
  simp only [List.map_append, List.map_cons, List.map_nil, List.append_assoc, List.cons_append, List.nil_append]
  rw [bkF_0, bkF_1, bkF_2]
theorem bkL_congr {pa pa' cp cp' : Nat → Nat} {X : List Bk} {k : Nat} (h : ∀ i, i < k → pa i = pa' i ∧ cp i = cp' i) : bkL pa cp X k = bkL pa' cp' X k := by
  unfold bkL
  apply List.map_congr_left
  intro c hc
  have hc' : c < k * 3 := by simpa using hc
  obtain ⟨h1, h2⟩ := h (c / 3) (by omega)
  exact bkF_other (by rw [h1]) h2 rfl

structure App (wr : World) (lo : Nat) (e : TypeId) (v : Value) (k : Nat) (pa cp : Nat → Nat) (X : List Bk) : Prop where
  own : wr.ownsRow lo e 3 v k (bkL pa cp X k)
  pages : ∀ i, i < k → lo ≤ pa i ∧ pa i < wr.heap.size ∧ OwPg wr (pa i) (X.getD i zeroBk).pages ∧ v.ownBlock ≠ some (pa i)
  room : ∀ i, i < k → Room wr (pa i) (cp i) (X.getD i zeroBk).pages.length
  apart : ∀ i j, i < k → j < i → pa j < pa i
def AppEx (wr : World) (lo : Nat) (e : TypeId) (v : Value) (k : Nat) (X : List Bk) : Prop := ∃ pa cp, App wr lo e v k pa cp X
theorem own_block_lt {w : World} {lo n size : Nat} {e : TypeId} {v : Value} {xs : List Value} (h : w.ownsRow lo e size v n xs) {g : Nat} (hg : v.ownBlock = some g) : lo ≤ g ∧ g < w.heap.size := by
  rcases h.2 with ⟨rfl, -⟩ | ⟨g', cap, cur, rfl, hb, hh, -⟩
  · cases hg
  · have : g' = g := by simpa [Value.ownBlock] using hg
    subst this
    exact ⟨hb, lt_of_block hh⟩
theorem own_same {w w' : World} {lo n size : Nat} {e : TypeId} {v : Value} {xs : List Value} (h : w.ownsRow lo e size v n xs) (hb : ∀ g, v.ownBlock = some g → w'.heap[g]? = w.heap[g]?) : w'.ownsRow lo e size v n xs := by
  refine ⟨h.1, ?_⟩
  rcases h.2 with h0 | ⟨g, cap, cur, hv, hl, hh, r⟩
  · exact .inl h0
  · exact .inr ⟨g, cap, cur, hv, hl, (hb g (by rw [hv]; rfl)).trans hh, r⟩
theorem own_below {w w' : World} {lo n size : Nat} {e : TypeId} {v : Value} {xs : List Value} (h : w.ownsRow lo e size v n xs) (hb : Below w.heap.size w w') : w'.ownsRow lo e size v n xs := own_same h fun g hg => hb.block g (own_block_lt h hg).2
theorem app_nil (w : World) (lo : Nat) (e : TypeId) (X : List Bk) : AppEx w lo e (.slice none 0 0) 0 X :=
  ⟨fun _ => 0, fun _ => 0, ⟨by simp [bkL], .inl ⟨rfl, rfl⟩⟩, fun i h => absurd h (by omega), fun i h => absurd h (by omega), fun i j h => absurd h (by omega)⟩
/-- one block more: its pages at p, laid since; the row may have moved -/
theorem App.more {wr w2 w3 : World} {lo k p c g : Nat} {e : TypeId} {v v' : Value} {pa cp : Nat → Nat} {X : List Bk} (h : App wr lo e v k pa cp X) (hlo : lo ≤ wr.heap.size) (hb : Below wr.heap.size wr w2) (hp : wr.heap.size ≤ p) (ho : OwPg w2 p (X.getD k zeroBk).pages) (hrm : Room w2 p c (X.getD k zeroBk).pages.length)
    (hg : w2.grownBy w3 v.ownBlock) (hv' : v'.ownBlock = some g) (hat : v.ownBlock = some g ∨ g = w2.heap.size)
    (hown : w3.ownsRow lo e 3 v' (k + 1) (bkL pa cp X k ++ [.slice (some ⟨p, 0, none⟩) (X.getD k zeroBk).pages.length c, .int .i64 (X.getD k zeroBk).erases, .bool (X.getD k zeroBk).bad])) :
    AppEx w3 lo e v' (k + 1) X := by
  have hp2 : p < w2.heap.size := Row.lt ho
  have hgp : v.ownBlock ≠ some p := fun e => by have := (own_block_lt h.own e).2; omega
  have hlt : ∀ q, q < w2.heap.size → v.ownBlock ≠ some q → w3.heap[q]? = w2.heap[q]? := fun q h1 h2 => hg.block q h1 (fun e => h2 e.symm)
  have hne : ∀ q, q < w2.heap.size → v.ownBlock ≠ some q → v'.ownBlock ≠ some q := fun q h1 h2 e => by
    rw [hv'] at e
    injection e with e
    rcases hat with hat | hat
    · exact h2 (by rw [hat, e])
    · omega
  refine ⟨fun i => if i = k then p else pa i, fun i => if i = k then c else cp i, ?_, ?_, ?_, ?_⟩
  · rw [bkL_succ, if_pos rfl, if_pos rfl, ← bkL_congr (pa := pa) (cp := cp) (fun i hi => ⟨by rw [if_neg (by omega)], by rw [if_neg (by omega)]⟩)]
    exact hown
  · intro i hi
    by_cases e : i = k
    · rw [if_pos e]
      subst e
      exact ⟨by omega, Nat.lt_of_lt_of_le hp2 hg.size, Row.same ho (hlt p hp2 hgp), hne p hp2 hgp⟩
    · rw [if_neg e]
      obtain ⟨h1, h2, h3, h4⟩ := h.pages i (by omega)
      have hb2 := hb.size
      exact ⟨h1, by have := hg.size; omega, Row.same (Row.below h3 hb h2) (hlt _ (by omega) h4), hne _ (by omega) h4⟩
  · intro i hi
    by_cases e : i = k
    · rw [if_pos e, if_pos e]
      subst e
      exact hrm.same (hlt p hp2 hgp)
    · rw [if_neg e, if_neg e]
      obtain ⟨h1, h2, h3, h4⟩ := h.pages i (by omega)
      have hb2 := hb.size
      exact ((h.room i (by omega)).same (hb.block _ h2)).same (hlt _ (by omega) h4)
  · intro i j hi hj
    by_cases e : i = k
    · rw [if_pos e, if_neg (by omega)]
      have := (h.pages j (by omega)).2.1; omega
    · rw [if_neg e, if_neg (by omega)]
      exact h.apart i j (by omega) hj
theorem row_of_own {w : World} {lo n size g cap : Nat} {e : TypeId} {xs : List Value} {f : Nat → Value} (h : w.ownsRow lo e size (.slice (some ⟨g, 0, none⟩) n cap) n xs) (hf : ∀ i, i < n * size → xs[i]? = some (f i)) : Row w g (n * size) f := by
  rcases h.2 with ⟨hv, -⟩ | ⟨g', cap', cur, hv, -, hh, hn, -, hs, ht⟩
  · cases hv
  · simp only [Value.slice.injEq, Option.some.injEq, Addr.mk.injEq] at hv
    obtain ⟨⟨rfl, -⟩, -, rfl⟩ := hv
    refine ⟨e, cur, hh, by rw [hs]; exact Nat.mul_le_mul_right _ hn, fun i hi => ?_⟩
    rw [← hf i hi, ← ht, List.getElem?_take_of_lt hi]
    simp
theorem room_of_own {w : World} {lo n g cap : Nat} {xs : List Value} (h : w.ownsRow lo 75 2 (.slice (some ⟨g, 0, none⟩) n cap) n xs) : Room w g cap n := by
  rcases h.2 with ⟨hv, -⟩ | ⟨g', cap', cur, hv, -, hh, hn, hm, hs, ht⟩
  · cases hv
  · simp only [Value.slice.injEq, Option.some.injEq, Addr.mk.injEq] at hv
    obtain ⟨⟨rfl, -⟩, -, rfl⟩ := hv
    exact ⟨hn, Or.inr ⟨cur, hh, hs, hm⟩⟩
theorem AppEx.own {w : World} {lo n : Nat} {e : TypeId} {A : Option Addr} {cap : Nat} {X : List Bk} (h : AppEx w lo e (.slice A n cap) n X) (hl : X.length = n) : OwNd w lo w.heap.size A n X := by
  obtain ⟨pa, cp, h⟩ := h
  subst hl
  refine ⟨rfl, fun hn => ?_⟩
  obtain ⟨g, cap', hv, hb, hlt⟩ := h.own.form hn
  simp only [Value.slice.injEq] at hv
  obtain ⟨rfl, -, rfl⟩ := hv
  have hrow := row_of_own (f := bkF (fun i => some ⟨pa i, 0, none⟩) cp X) h.own (fun i hi => by unfold bkL; simp [hi])
  refine ⟨g, pa, cp, rfl, hb, hlt, hrow, fun i hi => ?_, fun i j hi hj hne => ?_, fun i hi => (h.pages i hi).2.2.1, h.room⟩
  · obtain ⟨h1, h2, -, h4⟩ := h.pages i hi
    exact ⟨h1, h2, fun e => h4 (by rw [e]; rfl)⟩
  · rcases Nat.lt_or_gt_of_ne hne with h' | h'
    · have := h.apart j i hj h'; omega
    · have := h.apart i j hi h'; omega

/-- a store below all that is appended -/
theorem AppEx.other {w : World} {lo k : Nat} {e : TypeId} {v : Value} {X : List Bk} (h : AppEx w lo e v k X) {a : Addr} (ha : a.block < lo) (u : Value) : AppEx (w.setCell a u) lo e v k X := by
  obtain ⟨pa, cp, h⟩ := h
  refine ⟨pa, cp, own_same h.own fun g hg => Below.heap_setCell _ _ _ _ (by have := (own_block_lt h.own hg).1; omega), fun i hi => ?_, fun i hi => (h.room i hi).same (Below.heap_setCell _ _ _ _ (by have := (h.pages i hi).1; omega)), h.apart⟩
  obtain ⟨h1, h2, h3, h4⟩ := h.pages i hi
  exact ⟨h1, by simpa [World.setCell] using h2, Row.other h3 (by omega) _, h4⟩
theorem size_setS (w : World) (a : Addr) (u : Value) : (w.setCell a u).heap.size = w.heap.size := by simp [World.setCell]
theorem bk_one (v : Value) (hv : v.oneCell' = true) (er : Int) (bd : Bool) : ∀ u ∈ [v, .int .i64 er, .bool bd], u.oneCell' = true := by
  intro u hu
  simp only [List.mem_cons, List.not_mem_nil, or_false] at hu
  rcases hu with h | h | h <;> subst h
  · exact hv
  · rfl
  · rfl

set_option maxHeartbeats 1000000 in
theorem l02Ill_any (c : Int) (w : World) :
    Calls Tryd.prog 34 #[.int .i64 c] w fun e w' => e = .returned (.agg #[.slice none 0 0, .string ⟨#[]⟩, .int .i64 c]) ∧ Below w.heap.size w w' := by
  go_enter Tryd.func34, Tryd.ntmps34
  go_wp2
  exact bodyPost_ret (v := .agg #[.slice none 0 0, .string ⟨#[]⟩, .int .i64 c]) (by simp [results, Tryd.results34, go_sem]) rfl ⟨rfl, box_below _ _⟩

set_option maxHeartbeats 4000000 in
set_option maxRecDepth 100000 in
theorem spec_l02Copy (A : Option Addr) (n ca : Nat) (X : List Bk) (w : World) (hok : NdOk X) (hA : RdBk w w.heap.size A n X) :
    Calls Tryd.prog 85 #[.agg #[.slice A n ca]] w (RetNd w X) := by
  have HL := Lib.hid hA.1
  have hn12 : n ≤ 12 := by have := hok.1; have := hA.1; omega
  have HA := Lib.hid hA; have HOK := Lib.hid hok; clear hA hok
  obtain ⟨ib, hib, zb0, zb1, zb2⟩ := info_parts info_block
  obtain ⟨ip, hip, zp0, zp1, zp2⟩ := info_parts info_page
  have Hib := Lib.hid hib; have Zb0 := Lib.hid zb0; have Zb1 := Lib.hid zb1; have Zb2 := Lib.hid zb2
  have Hip := Lib.hid hip; have Zp0 := Lib.hid zp0; have Zp1 := Lib.hid zp1; have Zp2 := Lib.hid zp2
  clear hib zb0 zb1 zb2 hip zp0 zp1 zp2
  go_enter Tryd.func85, Tryd.ntmps85
  go_wp2
  have k0 := ((isBlk_new w 30 [.slice A n ca]).alloc (.cells #[.slice none 0 0] 30)).alloc (.cells #[.slice none 0 0] 30)
  have k1 := (isBlk_new (w.alloc (.cells #[.slice A n ca] 30)) 30 [.slice none 0 0]).alloc (.cells #[.slice none 0 0] 30)
  have k2 := isBlk_new ((w.alloc (.cells #[.slice A n ca] 30)).alloc (.cells #[.slice none 0 0] 30)) 30 [.slice none 0 0]
  have hb0 : Below w.heap.size w (((w.alloc (.cells #[.slice A n ca] 30)).alloc (.cells #[.slice none 0 0] 30)).alloc (.cells #[.slice none 0 0] 30)) := (((Below.refl _ _).alloc (Nat.le_refl _) _).alloc (by simp) _).alloc (by simp; omega) _
  have hs0 : (((w.alloc (.cells #[.slice A n ca] 30)).alloc (.cells #[.slice none 0 0] 30)).alloc (.cells #[.slice none 0 0] 30)).heap.size = w.heap.size + 3 := by simp
  simp only [size_alloc] at k1 k2
  change Code.wp _ _ _ _ (((w.alloc (.cells #[.slice A n ca] 30)).alloc (.cells #[.slice none 0 0] 30)).alloc (.cells #[.slice none 0 0] 30))
  generalize ((w.alloc (.cells #[.slice A n ca] 30)).alloc (.cells #[.slice none 0 0] 30)).alloc (.cells #[.slice none 0 0] 30) = W at k0 k1 k2 hb0 hs0 ⊢
  have HK0 := Lib.hid k0; have HK1 := Lib.hid k1; have HK2 := Lib.hid k2; have HB0 := Lib.hid hb0; have HS0 := Lib.hid hs0
  have hW3 : w.heap.size + 3 ≤ W.heap.size := by omega
  clear k0 k1 k2 hb0 hs0
  go_loopw [4] (fun i wr => ∃ (k : Nat) (v : Value), k ≤ n ∧ i = .int .i64 (k : Nat) ∧ AppEx wr (w.heap.size + 3) 73 v k X ∧ Below (w.heap.size + 2) W wr ∧ IsBlk wr (w.heap.size + 1 + 1) 30 [v]) (fun i _ => n - (intOf i).toNat)
  case atStart => exact ⟨0, _, by omega, rfl, app_nil _ _ _ _, Below.refl _ _, HK2.out⟩
  case round =>
    obtain ⟨k, v, hk, rfl, happ, hbw, hkv⟩ := hrel
    have HAPP := Lib.hid happ; have HBW := Lib.hid hbw; have HKV := Lib.hid hkv
    have hbel : Below w.heap.size w wr := HB0.out.trans (hbw.mono (by omega))
    have hx0 : wr.cell? ⟨w.heap.size, 0, none⟩ = some (.slice A n ca) := (HK0.out.below hbw (by omega)).cell rfl
    by_cases hlt : k < n
    · obtain ⟨g, off, pA, pc, rfl, hg, hc0, hc1, hc2, hpg⟩ := (HA.out.below hbel).at hlt
      have hkl : k < X.length := by have := HL.out; omega
      have h4 := (HOK.out.2 k hkl).1
      have hv0 : wr.cell? ⟨w.heap.size + 1 + 1, 0, none⟩ = some v := hkv.cell rfl
      have fv0 : wr.frozen? ⟨w.heap.size + 1 + 1, 0, none⟩ = false := hkv.free
      have HPG := Lib.hid (hpg.mono hbel.size)
      have hwz := hbw.size
      obtain ⟨b, hb⟩ : ∃ b, b = X.getD k zeroBk := ⟨_, rfl⟩
      rw [← hb] at hc0 hc1 hc2 HPG h4
      have HBK := Lib.hid hb
      clear happ hbw hkv hbel hpg hb
      obtain ⟨ps, er, bd⟩ := b
      simp only at hc0 hc1 hc2 HPG h4
      obtain ⟨a, b, c, d, rfl⟩ := four_of_length h4
      clear h4
      obtain ⟨pg, po, rfl, hpgl, hpc⟩ := HPG.out.2 (by simp)
      have HPC := Lib.hid hpc; clear hpc
      have hz2 : w.heap.size + 1 + 1 < wr.heap.size := by omega
      obtain ⟨va, vc, happ⟩ := HAPP.out
      have HAP := Lib.hid happ; clear happ
      have hb2 : Below wr.heap.size wr ((wr.alloc (.cells #[.slice (some ⟨pg, po, none⟩) 4 pc, .int .i64 er, .bool bd] 73)).alloc (.cells #[] 75)) := ((Below.refl _ _).alloc (Nat.le_refl _) _).alloc (by simp) _
      have HB2 := Lib.hid hb2
      have kb := (isBlk_new wr 73 [.slice (some ⟨pg, po, none⟩) 4 pc, .int .i64 er, .bool bd]).alloc (.cells #[] 75)
      have HKB := Lib.hid kb
      have ke := isBlk_new (wr.alloc (.cells #[.slice (some ⟨pg, po, none⟩) 4 pc, .int .i64 er, .bool bd] 73)) 75 []
      simp only [size_alloc] at ke
      have HKE := Lib.hid ke
      clear hb2 kb ke
      have ne0 : ¬ w.heap.size + 1 + 1 = wr.heap.size := by omega
      have ne0' : ¬ wr.heap.size = w.heap.size + 1 + 1 := by omega
      go_wp2_with (first
        | (at_builtin
           refine wpList_append_lies _ rfl (.tmp 19) (.tmp 21) 71 rfl wr.heap.size 75 ip _ 2 24 Tryd.underlying71 Hip.out Zp0.out Zp1.out Zp2.out rfl (by omega) (.slice (some ⟨wr.heap.size + 1, 0, none⟩) 0 0) 0 [] rfl ?_
             ⟨pg, po, none⟩ 4 pc (pcells a b c d) rfl rfl ?_ (pcells_one a b c d) (by omega) (by unfold maxLen; omega) (by omega) (by simp; omega) (wr.heap.size + 1 + 1) (by simp) ?_
           · exact ⟨rfl, .inr ⟨wr.heap.size + 1, 0, #[], rfl, by omega, HKE.out, Nat.le_refl _, by unfold maxLen; omega, rfl, rfl⟩⟩
           · intro j u hj
             obtain ⟨h8, hu⟩ := pcells_F a b c d j u hj
             rw [add_off]
             have h := (HB2.out.cell (p := ⟨pg, po + j, none⟩) hpgl).trans (HPC.out j (by simp; omega))
             rw [hu] at h
             exact h
           intro g1 cap1 w4 hown4 hgrow4 hat4 hlt4
           have hb4 : Below (wr.heap.size + 1) ((wr.alloc (.cells #[.slice (some ⟨pg, po, none⟩) 4 pc, .int .i64 er, .bool bd] 73)).alloc (.cells #[] 75)) w4 := (Below.refl _ _).grown hgrow4 (by simp) (fun q hq => by simp [Value.ownBlock] at hq; omega)
           have HB4 : Hid (Below wr.heap.size wr w4) := HB2.out.trans (hb4.mono (by omega))
           have hg1 : wr.heap.size < g1 := by rcases hat4 with h | h
                                              · simp [Value.ownBlock] at h; omega
                                              · omega
           have HRM4 : Hid (Room w4 g1 cap1 4) := room_of_own hown4
           have HPG4 : Hid (OwPg w4 g1 [a, b, c, d]) := row_of_own (size := 2) (n := 4) hown4 (fun i hi => pgF_four a b c d i hi)
           obtain ⟨q0, q1, q2, fq0, fq1, fq2⟩ := blk3 (HKB.out.below hb4 (by omega))
           have hv4 : w4.cell? ⟨w.heap.size + 1 + 1, 0, none⟩ = some v := (HB4.out.cell (p := ⟨w.heap.size + 1 + 1, 0, none⟩) hz2).trans hv0
           have fv4 : w4.frozen? ⟨w.heap.size + 1 + 1, 0, none⟩ = false := (HB4.out.frozen (p := ⟨w.heap.size + 1 + 1, 0, none⟩) hz2).trans fv0
           have hz4 : w.heap.size + 1 + 1 < w4.heap.size := by have := HB4.out.size; omega
           have hr4 : wr.heap.size < w4.heap.size := by omega
           have HLT4 := Lib.hid hlt4
           clear hown4 hgrow4 hat4 hb4 hlt4)
        | (at_builtin
           refine wpList_append_lies _ rfl (.tmp 25) (.tmp 27) 28 rfl (w.heap.size + 3) 73 ib _ 3 40 Tryd.underlying28 Hib.out Zb0.out Zb1.out Zb2.out rfl (by omega) v k (bkL va vc X k) rfl ?_
             ⟨w4.heap.size, 0, none⟩ 1 1 [.slice (some ⟨g1, 0, none⟩) 4 cap1, .int .i64 er, .bool bd] rfl rfl ?_ (bk_one _ rfl _ _) (by omega) (by unfold maxLen; omega) (by omega) (by simp [World.setCell]; omega) (w4.heap.size + 1) (by simp [World.setCell]) ?_
           · exact own_below HAP.out.own ((HB4.out.setCell (p := ⟨wr.heap.size, 0, none⟩) (Nat.le_refl _) _).alloc (by simp [World.setCell]; omega) _)
           · intro j u hj
             rw [add_plain]
             have h := (isBlk_new (w4.setCell ⟨wr.heap.size, 0, none⟩ (.slice (some ⟨g1, 0, none⟩) 4 cap1)) 73 [.slice (some ⟨g1, 0, none⟩) 4 cap1, .int .i64 er, .bool bd]).cell hj
             rw [size_setS] at h
             exact h
           intro g2 cap2 w6 hown6 hgrow6 hat6 hlt6
           have hb5 : Below wr.heap.size wr ((w4.setCell ⟨wr.heap.size, 0, none⟩ (.slice (some ⟨g1, 0, none⟩) 4 cap1)).alloc (.cells #[.slice (some ⟨g1, 0, none⟩) 4 cap1, .int .i64 er, .bool bd] 73)) := (HB4.out.setCell (p := ⟨wr.heap.size, 0, none⟩) (Nat.le_refl _) _).alloc (by simp [World.setCell]; omega) _
           have ho5 : OwPg ((w4.setCell ⟨wr.heap.size, 0, none⟩ (.slice (some ⟨g1, 0, none⟩) 4 cap1)).alloc (.cells #[.slice (some ⟨g1, 0, none⟩) 4 cap1, .int .i64 er, .bool bd] 73)) g1 (X.getD k zeroBk).pages := by rw [← HBK.out]; exact Row.alloc (Row.other HPG4.out (by dsimp only; omega) _) _
           have hr5 : Room ((w4.setCell ⟨wr.heap.size, 0, none⟩ (.slice (some ⟨g1, 0, none⟩) 4 cap1)).alloc (.cells #[.slice (some ⟨g1, 0, none⟩) 4 cap1, .int .i64 er, .bool bd] 73)) g1 cap1 (X.getD k zeroBk).pages.length := by rw [← HBK.out]; exact (HRM4.out.set _ _ _).same (Below.heap_alloc _ _ _ (by rw [size_setS]; exact HLT4.out))
           have hz5 : ((w4.setCell ⟨wr.heap.size, 0, none⟩ (.slice (some ⟨g1, 0, none⟩) 4 cap1)).alloc (.cells #[.slice (some ⟨g1, 0, none⟩) 4 cap1, .int .i64 er, .bool bd] 73)).heap.size = w4.heap.size + 1 := by simp [World.setCell]
           generalize (w4.setCell ⟨wr.heap.size, 0, none⟩ (.slice (some ⟨g1, 0, none⟩) 4 cap1)).alloc (.cells #[.slice (some ⟨g1, 0, none⟩) 4 cap1, .int .i64 er, .bool bd] 73) = w5 at hb5 ho5 hr5 hz5 hgrow6
           have hvb : ∀ q, v.ownBlock = some q → w.heap.size + 3 ≤ q := fun q hq => (own_block_lt HAP.out.own hq).1
           have HAP6 : Hid (AppEx w6 (w.heap.size + 3) 73 (.slice (some ⟨g2, 0, none⟩) (k + 1) cap2) (k + 1) X) :=
             HAP.out.more (p := g1) (c := cap1) (by omega) hb5 (by omega) ho5 hr5 hgrow6 rfl (hat6.imp id fun h => h.trans hz5.symm) (by rw [← HBK.out]; exact hown6)
           have hb6 : Below (w.heap.size + 3) w5 w6 := (Below.refl _ _).grown hgrow6 (by have := hb5.size; omega) hvb
           have HB6 : Hid (Below (w.heap.size + 2) W w6) := (HBW.out.trans (hb5.mono (by omega))).trans (hb6.mono (by omega))
           have k6 := (HKV.out.below hb5 (by omega)).below hb6 (by omega)
           have HK6 := Lib.hid k6
           have hv6 : w6.cell? ⟨w.heap.size + 1 + 1, 0, none⟩ = some v := k6.cell rfl
           have fv6 : w6.frozen? ⟨w.heap.size + 1 + 1, 0, none⟩ = false := k6.free
           clear hb5 ho5 hr5 hz5 hvb hb6 k6 hown6 hgrow6 hat6 hlt6))
      go_roundw
      case rel => exact ⟨k + 1, .slice (some ⟨g2, 0, none⟩) (k + 1) cap2, by omega, by go_num, HAP6.out.other (by dsimp only; omega) _, HB6.out.setCell (by dsimp only; omega) _, HK6.out.set _⟩
      case measure => simp [intOf]; omega
    · obtain rfl : k = n := by omega
      have hn1 : 0 < k := by have := HOK.out.1; have := HL.out; omega
      obtain ⟨va, vc, happ⟩ := HAPP.out
      obtain ⟨g, cap, rfl, hgb, hgl⟩ := happ.own.form hn1
      have HOWN := Lib.hid (HAPP.out.own HL.out)
      have hv0 : wr.cell? ⟨w.heap.size + 1 + 1, 0, none⟩ = some (.slice (some ⟨g, 0, none⟩) k cap) := hkv.cell rfl
      have k1 := HK1.out.below hbw (by omega)
      have d0 : wr.cell? ⟨w.heap.size + 1, 0, none⟩ = some (.slice none 0 0) := k1.cell rfl
      have fd0 : wr.frozen? ⟨w.heap.size + 1, 0, none⟩ = false := k1.free
      have HBL := Lib.hid hbel
      clear happ hbw hkv hbel k1
      go_wp2
      refine bodyPost_ret (v := .agg #[.slice (some ⟨g, 0, none⟩) k cap]) (by simp [results, Tryd.results85, go_sem, d0]) rfl ⟨some ⟨g, 0, none⟩, cap, by rw [HL.out], ?_, ?_⟩
      · rw [HL.out]
        exact (HOWN.out.same fun j h1 _ => Below.heap_setCell _ _ _ _ (by dsimp only; omega)).mono (by omega) (by simp [World.setCell])
      · exact HBL.out.setCell (by dsimp only; omega) _
end Go.Proofs.YtimlaeicbnnbdaaDoor
