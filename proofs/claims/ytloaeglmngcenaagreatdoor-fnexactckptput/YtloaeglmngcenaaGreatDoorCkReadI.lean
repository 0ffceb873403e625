/-
  The records of a checkpoint read, of the program.
-/
import Derived.Test.YtloaeglmngcenaaGreatDoorProg
import Derived.KernelRfl
import Derived.Test.YtloaeglmngcenaaGreatDoorCkReadR
import Derived.Test.YtloaeglmngcenaaGreatDoorHsApp
import Derived.OwnWalk
namespace Go.Proofs.YtloaeglmngcenaaGreatDoor
open Go.RowKit
open Bt (Rc)

theorem info_recK : (Tryz.prog.info? 34).map (fun i => (i.zero, i.size, i.bytes)) = some (some (recV Rc.zero), 6, 56) := by kernel_rfl
/-- 's = append(s, x)' of one record, s the call's own -/
theorem wpList_append_rec {P : Program} {w0 wr : World} {ops : Array Oper} {rest : List Oper} {o : Oper} {a : Act} {Q : Exit → Act → World → Prop}
    (hgd : o.guard = none) (s x : Operand) (t e : TypeId) (i0 : TypeInfo) (z : Value) (size bytes : Nat) (ht : P.underlying t = some (.slice e)) (hi : P.info? e = some i0) (hz : i0.zero = some z) (hsize : i0.size = size) (hby : i0.bytes = bytes) (hzs : z.cells.size = size) (hsz : 0 < size)
    (ho : o.op = .call { callee := .builtin .append, args := #[s, x], argTypes := #[t, t] })
    {base n : Nat} {v : Value} {xs : List Value} (hown : wr.ownsRow base e size v n xs) (hbel : Below base w0 wr) (hbase : base ≤ wr.heap.size)
    {g0 : Nat} (hg0 : g0 = wr.heap.size) (hs : a.eval s = v) (hx : a.eval x = .slice (some ⟨g0, 0, none⟩) 1 1) (cs : List Value) {ar : Array Value} (har : ar = cs.toArray) (hcs : cs.length = size) (h1 : ∀ u ∈ cs, u.oneCell' = true) (hb1 : n + 1 ≤ 4294967296) (hb2 : bytes ≤ 64)
    (h : ∀ v' w', w'.ownsRow base e size v' (n + 1) (xs ++ cs) → Below base w0 w' → wpList P ops Q rest (a.put o.dst v') w') :
    wpList P ops Q (o :: rest) a (wr.alloc (.cells ar e)) := by
  subst har hg0
  refine wpList_append_own _ hgd s x t ho base e i0 z size bytes ht hi hz hsize hby hzs hsz v n xs hs (hown.alloc _) ⟨wr.heap.size, 0, none⟩ 1 1 cs hx (by omega) ?_ h1 ?_ ?_ ?_ ?_
  · intro j u hj
    rw [add_plain]
    exact (isBlk_new wr e cs).cell hj
  · unfold maxLen; omega
  · calc (n + 1) * bytes ≤ 4294967296 * 64 := Nat.mul_le_mul hb1 hb2
      _ ≤ 140737488355328 := by decide
  · simp; omega
  · intro v' w' ho' hg _
    exact h v' w' ho' ((hbel.alloc hbase _).grown hg (by simp; omega) fun k hk => (hown.lt k hk).1)
theorem cap_ownK {w : World} {lo k n cap : Nat} {e : TypeId} {A : Option Addr} {xs : List Value} (h : w.ownsRow lo e k (.slice A n cap) n xs) : n ≤ cap := by
  rcases h.2 with ⟨h1, h2⟩ | ⟨g, c, cur, h1, -, -, h4, -⟩
  · simp at h1; omega
  · simp only [Value.slice.injEq] at h1; omega
theorem own_slK {w : World} {base n k : Nat} {e : TypeId} {v : Value} {xs : List Value} (h : w.ownsRow base e k v n xs) : ∃ A c, v = .slice A n c := by
  rcases h.2 with ⟨rfl, rfl⟩ | ⟨g, cap, cur, rfl, -⟩
  · exact ⟨none, 0, rfl⟩
  · exact ⟨_, cap, rfl⟩
/-- records that were read, in memory of the call's own, and whether they are whole -/
def RetRL (s : ByteArray) (w : World) (e : Ending) (w' : World) : Prop :=
  ∃ (A : Option Addr) (ca : Nat) (L : List Rc) (b : Bool), e = .returned (.tuple #[.slice A L.length ca, .bool b]) ∧ OwRc w' w.heap.size w'.heap.size A L.length L ∧ L.length ≤ ca ∧ L.length ≤ 48 ∧ (∀ r ∈ L, r.d.size ≤ 16) ∧
    (b = true → ckWhole s ∧ L = (ckSt s (ckN s).toNat).1) ∧ (b = false → ¬ ckWhole s) ∧ Below w.heap.size w w'
theorem ret_noneK {s : ByteArray} {w w' : World} (h : ¬ ckWhole s) (hb : Below w.heap.size w w') : RetRL s w (.returned (.tuple #[.slice none 0 0, .bool false])) w' :=
  ⟨none, 0, [], false, rfl, ow_nilR _ _ _ _, by simp, by simp, by simp, by simp, fun _ => h, hb⟩

set_option maxHeartbeats 4000000 in
set_option maxRecDepth 100000 in
theorem readList_any (s : ByteArray) (p : Int) (w : World) (hs : s.size ≤ maxLen) (hp : p ≤ 9223372036854775807) (hp0 : (Bt.rdNum s (0, false)).2 = (p, false)) (hg : ErrType w) :
    Calls Tryz.prog 268 #[.string s, .int .i64 p, .int .i64 48, .func (.func 269) #[] #[]] w (RetRL s w) := by
  have HG := Lib.hid hg
  have HNUM := Lib.hid (impl_getNum_any s p w hs hp hg)
  have hr0 : (Bt.getNum s p).2.2 = 0 → (ckSt s 0).2 = ((Bt.getNum s p).2.1, false) ∧ ckN s = (Bt.getNum s p).1 := by
    intro h
    have e : Bt.rdNum s (p, false) = ((Bt.getNum s p).1, ((Bt.getNum s p).2.1, false)) := Bt.rdNum_ok (by simp [h])
    exact ⟨by rw [ckSt, hp0, e], by rw [ckN, hp0, e]⟩
  have hr1 : (Bt.getNum s p).2.2 ≠ 0 → (ckSt s 0).2.2 = true := by
    intro h
    rw [ckSt, hp0, Bt.rdNum_bad (.inr h)]
  clear hg hp0
  generalize Bt.getNum s p = G at HNUM hr0 hr1
  obtain ⟨n, a, c⟩ := G
  simp only at hr0 hr1
  go_enter Tryz.func268, Tryz.ntmps268
  go_wp2_with fail
  refine HNUM.out.mono ?_
  rintro e w1 ⟨rfl, hb1⟩
  have HB1 := Lib.hid hb1
  have HB2 : Hid (Below w.heap.size w (w1.alloc (.cells #[.int .i64 n, .int .i64 a, .int .i64 c] 218))) := hb1.alloc hb1.size _
  clear hb1
  by_cases h0 : c = 0
  case neg =>
    have HNW : Hid (¬ ckWhole s) := fun h => by have := hr1 h0; rw [h.1] at this; cases this
    have hcc : (c != 0) = true := by simpa using h0
    clear hr0 hr1 h0
    go_wp2
    go_ret2
    exact ret_noneK HNW.out HB2.out
  obtain ⟨e1, e2⟩ := hr0 h0
  subst h0
  have E1 := Lib.hid e1; have E2 := Lib.hid e2
  clear hr0 hr1 e1 e2
  by_cases h1 : n < 0
  · have HNW : Hid (¬ ckWhole s) := fun h => by have := h.2.1; rw [E2.out] at this; omega
    go_wp2
    go_ret2
    exact ret_noneK HNW.out HB2.out
  by_cases h2 : 48 < n
  · have HNW : Hid (¬ ckWhole s) := fun h => by have := h.2.2.1; rw [E2.out] at this; omega
    have h1' : 0 ≤ n := by omega
    go_wp2
    go_ret2
    exact ret_noneK HNW.out HB2.out
  obtain ⟨N, rfl⟩ := Int.eq_ofNat_of_zero_le (by omega : 0 ≤ n)
  have hN40 : N ≤ 48 := by omega
  have HNN : Hid ((ckN s).toNat = N) := by show _ = _; rw [E2.out]; omega
  clear h1 h2
  obtain ⟨i0, hi, hz0, hz1, hz2⟩ := info_parts info_recK
  have Hi := Lib.hid hi; have Z0 := Lib.hid hz0; have Z1 := Lib.hid hz1; have Z2 := Lib.hid hz2
  clear hi hz0 hz1 hz2
  have E0 : Hid (a = (ckSt s 0).2.1) := by show _ = _; rw [E1.out]
  have E00 : Hid ((ckSt s 0).2.2 = false) := by show _ = _; rw [E1.out]
  go_wp2_with fail
  have hszb : w.heap.size ≤ (w1.alloc (.cells #[.int .i64 ((N : Nat) : Int), .int .i64 a, .int .i64 0] 218)).heap.size := HB2.out.size
  have hgb := HG.out.below HB2.out
  generalize w1.alloc (.cells #[.int .i64 ((N : Nat) : Int), .int .i64 a, .int .i64 0] 218) = W at *
  have HGB := Lib.hid hgb
  clear hgb
  go_loopw [11, 12, 37] (fun v p i wr => ∃ (k : Nat) (v' : Value), k ≤ N ∧ i = .int .i64 (k : Nat) ∧ v' = v ∧ p = .int .i64 (ckSt s k).2.1 ∧ Hid ((ckSt s k).2.2 = false) ∧ Hid (wr.ownsRow W.heap.size 34 6 v' k (rcA (ckSt s k).1)) ∧ Hid (Below W.heap.size W wr)) (fun _ _ i wr => N - (intOf i).toNat)
  case atStart => exact ⟨0, _, Nat.zero_le _, rfl, rfl, by rw [E0.out], E00, ⟨rfl, .inl ⟨rfl, rfl⟩⟩, Below.refl _ _⟩
  case round =>
    obtain ⟨k, v, hk, rfl, rfl, rfl, HGOOD, HOW, HW⟩ := hrel
    have hpos := (ckSt_bytes k HGOOD.out).2.2.1
    have HLEN := Lib.hid (ckSt_len s k)
    by_cases hlt : k < N
    · have HD2 : Hid ((ckSt s k).2 = ((ckSt s k).2.1, false)) := by show _ = _; rw [← HGOOD.out]
      have hrok := fun h => ckR_ok (s := s) (p := (ckSt s k).2.1) h
      have hrno := fun h => ckR_no (s := s) (p := (ckSt s k).2.1) h
      have HNX : Hid (ckSt s (k + 1) = ((ckSt s k).1 ++ [(ckRec s (ckSt s k).2).1], (ckRec s (ckSt s k).2).2)) := rfl
      rw [HD2.out] at HNX
      have HRO := Lib.hid (readRecText_any s (ckSt s k).2.1 wr hs (by unfold maxLen at hs; omega) (HGB.out.below HW.out))
      generalize ckR s (ckSt s k).2.1 = RR at hrok hrno HRO
      obtain ⟨r, p', b⟩ := RR
      simp only at hrok hrno HRO
      have HOK := Lib.hid hrok; have HNO := Lib.hid hrno
      clear hrok hrno
      have hsz := HW.out.size
      go_wp2_with fail
      with_reducible refine HRO.out.mono ?_
      rintro e w2 ⟨rfl, hb2⟩
      obtain ⟨rk, rs, rq, rt, ro, rd⟩ := r
      have HB3 : Hid (Below W.heap.size W (w2.alloc (.cells #[.int .i64 rk, .int .i64 rs, .int .i64 rq, .int .i64 rt, .int .i64 ro, .string rd] 34))) := (HW.out.trans (hb2.mono hsz)).alloc (by have := hb2.size; omega) _
      have HOW3 : Hid ((w2.alloc (.cells #[.int .i64 rk, .int .i64 rs, .int .i64 rq, .int .i64 rt, .int .i64 ro, .string rd] 34)).ownsRow W.heap.size 34 6 v k (rcA (ckSt s k).1)) := (own_belowR HOW.out hb2).alloc _
      have hsz2 := hb2.size
      have k2 := isBlk_new w2 34 [.int .i64 rk, .int .i64 rs, .int .i64 rq, .int .i64 rt, .int .i64 ro, .string rd]
      change IsBlk (w2.alloc (.cells #[.int .i64 rk, .int .i64 rs, .int .i64 rq, .int .i64 rt, .int .i64 ro, .string rd] 34)) _ _ _ at k2
      clear hb2 HRO
      cases b with
      | false =>
        have HNW : Hid (¬ ckWhole s) := by
          intro h
          have h1 : (ckSt s (k + 1)).2.2 = true := by rw [HNX.out]; exact HNO.out rfl
          have h2 := ckSt_bad (n := N) h1 (by omega)
          have h3 := h.2.2.2.1
          rw [HNN.out, h2] at h3
          cases h3
        have HB4 := Lib.hid (HB2.out.trans (HB3.out.mono hszb))
        clear k2
        go_wp2
        go_ret2
        exact ret_noneK HNW.out HB4.out
      | true =>
        have HDO := Lib.hid (HOK.out rfl)
        have HNX2 : Hid (ckSt s (k + 1) = ((ckSt s k).1 ++ [⟨rk, rs, rq, rt, ro, rd⟩], (p', false))) := by show _ = _; rw [HNX.out, HDO.out]
        have hsz3 := HB3.out.size
        obtain ⟨d0, d1, d2, d3, d4, d5⟩ := rcCells (r := ⟨rk, rs, rq, rt, ro, rd⟩) k2
        clear k2
        go_wp2_with (at_builtin; refine wpList_append_rec rfl _ _ 27 34 i0 _ 6 56 Tryz.underlying27 Hi.out Z0.out Z1.out Z2.out rfl (by omega) rfl HOW3.out HB3.out hsz3 (by first | rfl | simp) rfl rfl (recC ⟨rk, rs, rq, rt, ro, rd⟩) rfl rfl (recC_one _) (by omega) (by omega) ?_; intro v' w5 ho5 hb5; have HB5 := Lib.hid hb5; have HO5 := Lib.hid ho5; clear hb5 ho5)
        go_roundw
        case rel => exact ⟨k + 1, _, by omega, by go_num, rfl, by rw [HNX2.out], by rw [HNX2.out]; exact Lib.hid rfl, by rw [HNX2.out, rcA_snoc]; exact HO5, HB5⟩
        case measure => simp [intOf]; omega
    · obtain rfl : k = N := by omega
      have HOWL := HOW.out
      have hcp : ∃ Ao co, v = .slice Ao (ckSt s k).1.length co := by rw [HLEN.out]; exact own_slK HOWL
      obtain ⟨Ao, co, rfl⟩ := hcp
      have hcap : (ckSt s k).1.length ≤ co := by have h := HOWL; rw [HLEN.out] at h ⊢; exact cap_ownK h
      have hoo := ow_of_own (lo := W.heap.size) (Y := (ckSt s k).1) (by rw [HLEN.out]; rw [HLEN.out] at HOWL; exact HOWL)
      have HOO := Lib.hid hoo
      have HWW := Lib.hid (HB2.out.trans (HW.out.mono hszb))
      have HSM := Lib.hid (ckSt_small s k)
      have HCAP := Lib.hid hcap
      clear HOWL hcap hoo
      by_cases he : (ckSt s k).2.1 = (s.size : Int)
      · have HWH : Hid (ckWhole s) := ⟨E00.out, by rw [E2.out]; omega, by rw [E2.out]; omega, by rw [HNN.out]; exact HGOOD.out, by rw [HNN.out]; exact he⟩
        have hq : ((ckSt s k).2.1 == (s.size : Int)) = true := by simpa using he
        clear he
        go_wp2
        go_ret2
        exact ⟨Ao, co, _, true, rfl, HOO.out.mono hszb (Nat.le_refl _), HCAP.out, by rw [HLEN.out]; omega, HSM.out, fun _ => ⟨HWH.out, by rw [HNN.out]⟩, (fun h => by cases h), HWW.out⟩
      · have HNW : Hid (¬ ckWhole s) := fun h => he (by have := h.2.2.2.2; rw [HNN.out] at this; exact this)
        have hq : ((ckSt s k).2.1 == (s.size : Int)) = false := by simpa using he
        clear he
        go_wp2
        go_ret2
        exact ⟨Ao, co, _, false, rfl, HOO.out.mono hszb (Nat.le_refl _), HCAP.out, by rw [HLEN.out]; omega, HSM.out, (fun h => by cases h), fun _ => HNW.out, HWW.out⟩
end Go.Proofs.YtloaeglmngcenaaGreatDoor
