/-
  The draws of chapter 10: operations.
-/
import Derived.Test.YtpgemeojhbeooaaDoorProg
import Derived.KernelRfl
import Derived.Test.YtpgemeojhbeooaaDoorDlDraw
import Derived.Test.YtpgemeojhbeooaaDoorDlGain
namespace Go.Proofs.YtpgemeojhbeooaaDoor
open Go.RowKit
open Bt (Dop dok)

theorem doA_setk : ∀ (L : List Dop) (k j : Nat) (u : Value) (o : Dop), k < L.length → j < 3 → (dopC (L.getD k Dop.zero)).set j u = dopC o → (doA L).set (k * 3 + j) u = doA (L.set k o)
  | [], k, _, _, _, h, _, _ => by simp at h
  | r :: L, 0, j, u, o, _, hj, he => by
    have e : doA (r :: L) = dopC r ++ doA L := by simp [doA]
    have he' : (dopC r).set j u = dopC o := he
    rw [e, List.set_append_left _ _ (by simp; omega), Nat.zero_mul, Nat.zero_add, he']
    simp [doA]
  | r :: L, k + 1, j, u, o, h, hj, he => by
    have e : doA (r :: L) = dopC r ++ doA L := by simp [doA]
    have ih := doA_setk L k j u o (by simpa using h) hj he
    rw [e, List.set_append_right _ _ (by simp; omega)]
    have hx : (k + 1) * 3 + j - (dopC r).length = k * 3 + j := by simp; omega
    rw [hx, ih]
    simp [doA]
/-- operations of some size -/
def FineD (L : List Dop) : Prop := ∀ o ∈ L, o.x.size ≤ 1000 ∧ o.f ≤ 9223372036854775807
theorem FineD.set {L : List Dop} (h : FineD L) (k : Nat) {o : Dop} (ho : o.x.size ≤ 1000 ∧ o.f ≤ 9223372036854775807) : FineD (L.set k o) := by
  intro p hp
  rcases List.mem_or_eq_of_mem_set hp with h1 | h1
  · exact h p h1
  · subst h1; exact ho
theorem FineD.snoc {L : List Dop} (h : FineD L) {o : Dop} (ho : o.x.size ≤ 1000 ∧ o.f ≤ 9223372036854775807) : FineD (L ++ [o]) := by
  intro p hp
  rcases List.mem_append.1 hp with h1 | h1
  · exact h p h1
  · rw [List.mem_singleton.1 h1]; exact ho
theorem FineD.at {L : List Dop} (h : FineD L) {k : Nat} (hk : k < L.length) : (L.getD k Dop.zero).x.size ≤ 1000 ∧ (L.getD k Dop.zero).f ≤ 9223372036854775807 := h _ (getD_lt hk)
theorem fine_of (base text : ByteArray) : FineD (Bt.dOfList base text) := by
  by_cases h : Bt.dOfCode base text = 0
  · intro o ho
    have h1 := dOfList_from h o ho
    have h2 := Bt.okL_mem (Bt.dOfList_ok base text) ho
    refine ⟨?_, h1.2⟩
    rcases Bt.ok_cases h2 with hh | hh <;> omega
  · intro o ho
    unfold Bt.dOfList at ho
    rw [if_neg h] at ho; cases ho
theorem own_drawn {w w' : World} {lo n size g : Nat} {e : TypeId} {v : Value} {xs : List Value} (h : w.ownsRow lo e size v n xs) (hb : Btw g (g + 1) w w') (hg : g < lo) : w'.ownsRow lo e size v n xs := by
  refine ⟨h.1, ?_⟩
  rcases h.2 with h0 | ⟨g', cap, cur, hv, hl, hh, r⟩
  · exact .inl h0
  · exact .inr ⟨g', cap, cur, hv, hl, (hb.block g' (lt_of_block hh) (.inr (by omega))).trans hh, r⟩
/-- an operation of an owned row: where it lies -/
theorem own_atD {w : World} {lo n : Nat} {e : TypeId} {v : Value} {L : List Dop} (h : w.ownsRow lo e 3 v n (doA L)) (hn : L.length = n) {k : Nat} (hk : k < n) :
    ∃ g cap, v = .slice (some ⟨g, 0, none⟩) n cap ∧ lo ≤ g ∧ g < w.heap.size ∧ w.cell? ⟨g, k * 3, none⟩ = some (.int .i64 (L.getD k Dop.zero).f) ∧ w.cell? ⟨g, k * 3 + 1, none⟩ = some (.int .i64 (L.getD k Dop.zero).c) ∧ w.cell? ⟨g, k * 3 + 2, none⟩ = some (.string (L.getD k Dop.zero).x) ∧ (∀ j, w.frozen? ⟨g, j, none⟩ = false) := by
  rcases h.2 with ⟨rfl, h0⟩ | ⟨g, cap, cur, rfl, hb, hh, hnc, -, hs, ht⟩
  · exfalso; have := h.1; rw [doA_len] at this; omega
  · have hc : ∀ j, j < n * 3 → w.cell? ⟨g, j, none⟩ = some (dopF L j) := fun j hj => by
      have := h.cells (g := g) rfl j _ (doA_at L j (by rw [hn]; exact hj))
      simpa [add_plain] using this
    refine ⟨g, cap, rfl, hb, lt_of_block hh, ?_, ?_, ?_, fun j => by simp [World.frozen?, hh]⟩
    · rw [← dopF_0]; exact hc _ (by omega)
    · rw [← dopF_1]; exact hc _ (by omega)
    · rw [← dopF_2]; exact hc _ (by omega)
def sliceLen : Value → Nat | .slice _ n _ => n | _ => 0
/-- what l09Ops answers -/
def RetDOps (w : World) (s : Nat) (e : Ending) (w' : World) : Prop :=
  ∃ (b : ByteArray) (A : Option Addr) (n ca : Nat) (L : List Dop), e = .returned (.tuple #[.string b, .slice A n ca]) ∧ b.size ≤ 1000 ∧ n ≤ 41 ∧ FineD L ∧ OwDo w' w.heap.size w'.heap.size A n L ∧ Src w' s ∧ Btw s (s + 1) w w'

theorem field_ops (v : Value) (c : Int) (w : World) : (Instr.field 27 (.agg #[v, .int .i64 c]) 0).run Tryd.prog w = .ok v w := by
  simp [Instr.field, run_underlying Tryd.underlying27, part, asAgg, go_sem]

set_option maxHeartbeats 8000000 in
set_option maxRecDepth 100000 in
theorem draw_ops (s : Nat) (w : World) (hS : Src w s) : Calls Tryd.prog 28 #[.pointer (some ⟨s, 0, none⟩)] w (RetDOps w s) := by
  have hsl := hS.lt
  have HS := Lib.hid hS; clear hS
  obtain ⟨i0, hi, hz0, hz1, hz2⟩ := info_parts info_dop
  have Hi := Lib.hid hi; have Z0 := Lib.hid hz0; have Z1 := Lib.hid hz1; have Z2 := Lib.hid hz2
  clear hi hz0 hz1 hz2
  go_enter Tryd.func28, Tryd.ntmps28
  go_wp2_with fail
  refine (draw_pair s w HS.out).mono ?_
  rintro e w1 ⟨b, t, rfl, hzb, hzt, hS1, hb1⟩
  have D1 : Hid (DrAt w w1 s) := ⟨hS1, hb1⟩
  have hs1 := hS1.lt
  have hw1 : w.heap.size ≤ w1.heap.size := hb1.size
  clear hS1 hb1
  go_wp2_with fail
  refine (spec_deltaOfW b t w1 (by omega) (by omega)).mono ?_
  rintro e w2 ⟨A, ca, rfl, ho2, hb2⟩
  have D2 : Hid (DrAt w w2 s) := ⟨D1.out.src.below hb2 hs1, D1.out.bt.trans (Btw.of_below hb2)⟩
  have hfn := fine_of b t
  have hl40 := Bt.okL_len (Bt.dOfList_ok b t)
  generalize Bt.dOfList b t = L at ho2 hfn hl40 ⊢
  generalize Bt.dOfCode b t = C
  obtain ⟨n, hn⟩ : ∃ n, n = L.length := ⟨_, rfl⟩
  rw [← hn] at ho2 hl40 ⊢
  have HN : Hid (L.length = n) := hn.symm
  have hfld := field_ops (.slice A n ca) C
  have HO2 := Lib.hid ho2; have HF := Lib.hid hfn
  have hs2 := hb2.size
  clear hb2 hfn hn ho2
  by_cases h0 : 0 < n
  case neg =>
    obtain rfl : n = 0 := by omega
    obtain ⟨A', ca', hv, hod⟩ := ow_of_ownD HO2.out HN.out
    simp only [Value.slice.injEq] at hv
    obtain ⟨rfl, -, rfl⟩ := hv
    have HOD := Lib.hid (hod.mono hw1 (Nat.le_refl _))
    clear hod
    clear h0
    go_wp2
    go_ret2
    exact ⟨b, A, 0, ca, L, rfl, hzb, by omega, HF.out, HOD.out, D2.out.src, D2.out.bt⟩
  go_wp2_with fail
  refine (draw_one s 4 w2 (by omega) D2.out.src).mono ?_
  rintro e w3 ⟨bb, rfl, hS3, hb3⟩
  have D3 : Hid (DrAt w w3 s) := D2.out.draw hS3 hb3
  have HO3 := Lib.hid (own_drawn HO2.out hb3 (by omega))
  have hs3 := hb3.size
  clear hS3 hb3 HO2
  cases bb with
  | false =>
    obtain ⟨A', ca', hv, hod⟩ := ow_of_ownD HO3.out HN.out
    simp only [Value.slice.injEq] at hv
    obtain ⟨rfl, -, rfl⟩ := hv
    have HOD := Lib.hid (hod.mono hw1 (Nat.le_refl _))
    clear hod
    go_wp2
    go_ret2
    exact ⟨b, A, n, ca, L, rfl, hzb, by omega, HF.out, HOD.out, D3.out.src, D3.out.bt⟩
  | true =>
    go_wp2_with fail
    refine (draw_n s (n : Int) w3 (by omega) D3.out.src).mono ?_
    rintro e w4 ⟨k, rfl, hk, hS4, hb4⟩
    have hk := hk (by omega)
    have D4 : Hid (DrAt w w4 s) := D3.out.draw hS4 hb4
    have HO4 := Lib.hid (own_drawn HO3.out hb4 (by omega))
    clear hS4 hb4 HO3
    go_wp2_with fail
    refine (draw_n s 4 w4 (by omega) D4.out.src).mono ?_
    rintro e w5 ⟨q, rfl, hq, hS5, hb5⟩
    have hq := hq (by omega)
    have D5 : Hid (DrAt w w5 s) := D4.out.draw hS5 hb5
    have HO5 := Lib.hid (own_drawn HO4.out hb5 (by omega))
    clear hS5 hb5 HO4
    have hkn : k < n := by omega
    have hq4 : q = 0 ∨ q = 1 ∨ q = 2 ∨ q = 3 := by omega
    have hLk := HF.out.at (k := k) (by have := HN.out; omega)
    have hsL : ∀ o : Dop, (L.set k o).length = n := fun o => by rw [List.length_set]; exact HN.out
    have HSL := Lib.hid hsL; clear hsL
    rcases hq4 with rfl | rfl | rfl | rfl
    · go_wp2_with fail
      refine (draw_n s 9 w5 (by omega) D5.out.src).mono ?_
      rintro e w7 ⟨z, rfl, hz, hS7, hb7⟩
      have D7 : Hid (DrAt w w7 s) := D5.out.draw hS7 hb7
      have HO7 := Lib.hid (own_drawn HO5.out hb7 (by omega))
      clear hS7 hb7 HO5
      obtain ⟨g, cap, hv, hgl, hgs, c0, c1, c2, hfz⟩ := own_atD HO7.out HN.out hkn
      simp only [Value.slice.injEq] at hv
      obtain ⟨rfl, -, rfl⟩ := hv
      have hset := own_setD HO7.out (k * 3 + 1) (.int .i64 (z : Int))
      rw [doA_setk L k 1 (.int .i64 (z : Int)) ⟨(L.getD k Dop.zero).f, (z : Int), (L.getD k Dop.zero).x⟩ (by have := HN.out; omega) (by omega) rfl] at hset
      obtain ⟨A', ca', hv, hod⟩ := ow_of_ownD hset (HSL.out _)
      simp only [Value.slice.injEq] at hv
      obtain ⟨rfl, -, rfl⟩ := hv
      have HOD := Lib.hid (hod.mono hw1 (Nat.le_refl _))
      have D8 : Hid (DrAt w (w7.setCell ⟨g, k * 3 + 1, none⟩ (.int .i64 (z : Int))) s) := D7.out.set (by omega) (by omega) _
      have HFN := Lib.hid (HF.out.set k (o := ⟨(L.getD k Dop.zero).f, (z : Int), (L.getD k Dop.zero).x⟩) hLk)
      have f1 := hfz (k * 3 + 1)
      clear hset hod hfz c0 c2
      go_wp2
      go_ret2
      exact ⟨b, _, n, _, _, rfl, hzb, by omega, HFN.out, HOD.out, D8.out.src, D8.out.bt⟩
    · go_wp2_with fail
      refine (draw_edge s w5 D5.out.src).mono ?_
      rintro e w7 ⟨z, rfl, hz1, hz2, hS7, hb7⟩
      have D7 : Hid (DrAt w w7 s) := D5.out.draw hS7 hb7
      have HO7 := Lib.hid (own_drawn HO5.out hb7 (by omega))
      clear hS7 hb7 HO5
      obtain ⟨g, cap, hv, hgl, hgs, c0, c1, c2, hfz⟩ := own_atD HO7.out HN.out hkn
      simp only [Value.slice.injEq] at hv
      obtain ⟨rfl, -, rfl⟩ := hv
      have hset := own_setD HO7.out (k * 3 + 0) (.int .i64 z)
      rw [doA_setk L k 0 (.int .i64 z) ⟨z, (L.getD k Dop.zero).c, (L.getD k Dop.zero).x⟩ (by have := HN.out; omega) (by omega) rfl, Nat.add_zero] at hset
      obtain ⟨A', ca', hv, hod⟩ := ow_of_ownD hset (HSL.out _)
      simp only [Value.slice.injEq] at hv
      obtain ⟨rfl, -, rfl⟩ := hv
      have HOD := Lib.hid (hod.mono hw1 (Nat.le_refl _))
      have D8 : Hid (DrAt w (w7.setCell ⟨g, k * 3, none⟩ (.int .i64 z)) s) := D7.out.set (by omega) (by omega) _
      have HFN := Lib.hid (HF.out.set k (o := ⟨z, (L.getD k Dop.zero).c, (L.getD k Dop.zero).x⟩) ⟨hLk.1, hz2⟩)
      have f1 := hfz (k * 3)
      clear hset hod hfz c1 c2
      go_wp2
      go_ret2
      exact ⟨b, _, n, _, _, rfl, hzb, by omega, HFN.out, HOD.out, D8.out.src, D8.out.bt⟩
    · go_wp2_with fail
      refine (draw_n s 3 w5 (by omega) D5.out.src).mono ?_
      rintro e w6 ⟨z, rfl, hz, hS6, hb6⟩
      have hz := hz (by omega)
      have D6 : Hid (DrAt w w6 s) := D5.out.draw hS6 hb6
      have HO6 := Lib.hid (own_drawn HO5.out hb6 (by omega))
      clear hS6 hb6 HO5
      go_wp2_with fail
      refine (draw_bytes s z w6 (by omega) D6.out.src).mono ?_
      rintro e w7 ⟨tt, rfl, htt, hS7, hb7⟩
      have D7 : Hid (DrAt w w7 s) := D6.out.draw hS7 hb7
      have HO7 := Lib.hid (own_drawn HO6.out hb7 (by omega))
      clear hS7 hb7 HO6
      obtain ⟨g, cap, hv, hgl, hgs, c0, c1, c2, hfz⟩ := own_atD HO7.out HN.out hkn
      simp only [Value.slice.injEq] at hv
      obtain ⟨rfl, -, rfl⟩ := hv
      have hset := own_setD HO7.out (k * 3 + 2) (.string tt)
      rw [doA_setk L k 2 (.string tt) ⟨(L.getD k Dop.zero).f, (L.getD k Dop.zero).c, tt⟩ (by have := HN.out; omega) (by omega) rfl] at hset
      obtain ⟨A', ca', hv, hod⟩ := ow_of_ownD hset (HSL.out _)
      simp only [Value.slice.injEq] at hv
      obtain ⟨rfl, -, rfl⟩ := hv
      have HOD := Lib.hid (hod.mono hw1 (Nat.le_refl _))
      have D8 : Hid (DrAt w (w7.setCell ⟨g, k * 3 + 2, none⟩ (.string tt)) s) := D7.out.set (by omega) (by omega) _
      have HFN := Lib.hid (HF.out.set k (o := ⟨(L.getD k Dop.zero).f, (L.getD k Dop.zero).c, tt⟩) ⟨by simp only; omega, hLk.2⟩)
      have f1 := hfz (k * 3 + 2)
      clear hset hod hfz c0 c1
      go_wp2
      go_ret2
      exact ⟨b, _, n, _, _, rfl, hzb, by omega, HFN.out, HOD.out, D8.out.src, D8.out.bt⟩
    · go_wp2_with fail
      go_loopw [6] (fun v wr => ∃ (n' : Nat) (L' : List Dop) (v' : Value), v' = v ∧ k < n' ∧ n' ≤ 41 ∧ Hid (L'.length = n') ∧ Hid (FineD L') ∧ Hid (wr.ownsRow w1.heap.size 41 3 v' n' (doA L')) ∧ Hid (DrAt w wr s)) (fun v wr => 41 - sliceLen v)
      case atStart => exact ⟨n, L, _, rfl, hkn, by omega, HN, HF, HO5, D5⟩
      case round =>
        clear HN HF HO5 D5 hkn hLk HSL h0 hl40 hfld
        obtain ⟨n', L', v, rfl, hkn, hn41, HN, HF, HO5, D5⟩ := hrel
        obtain ⟨A0, ca0, rfl, -⟩ := ow_of_ownD HO5.out HN.out
        have hn0 : 0 < n' := by omega
        go_wp2_with fail
        refine (draw_n s 2 wr (by omega) D5.out.src).mono ?_
        rintro e w7 ⟨r, rfl, hr, hS7, hb7⟩
        have hr := hr (by omega)
        have D7 : Hid (DrAt w w7 s) := D5.out.draw hS7 hb7
        have HO7 := Lib.hid (own_drawn HO5.out hb7 (by omega))
        clear hS7 hb7 HO5
        by_cases hlt : n' < 40 + r
        · obtain ⟨g, cap, hv, hgl, hgs, c0, c1, c2, -⟩ := own_atD HO7.out HN.out hkn
          simp only [Value.slice.injEq] at hv
          obtain ⟨rfl, -, rfl⟩ := hv
          have hfk := HF.out.at (k := k) (by have := HN.out; omega)
          have HFS := Lib.hid (HF.out.snoc hfk)
          generalize L'.getD k Dop.zero = o at c0 c1 c2 hfk HFS
          have hw7 : w1.heap.size ≤ w7.heap.size := by omega
          go_wp2_with (at_builtin; refine wpList_append_kD (w0 := w7) rfl _ _ 25 41 i0 _ 3 32 Tryd.underlying25 Hi.out Z0.out Z1.out Z2.out rfl (by omega) rfl HO7.out (Below.refl _ _) hw7 rfl rfl rfl (dopC o) rfl rfl (dopC_one o) (by omega) (by omega) ?_; intro v' w8 ho8 hb8; have HB8 := Lib.hid hb8; have HO8 := Lib.hid ho8; clear hb8 ho8)
          have HN8 : Hid ((L' ++ [o]).length = n' + 1) := by show _ = _; rw [List.length_append, HN.out]; rfl
          rw [← doA_snoc] at HO8
          obtain ⟨A8, ca8, rfl, -⟩ := ow_of_ownD HO8.out HN8.out
          have D8 : Hid (DrAt w w8 s) := ⟨D7.out.src.below HB8.out hs1, ⟨HB8.out.os.trans D7.out.bt.os, HB8.out.tape.trans D7.out.bt.tape, HB8.out.output.trans D7.out.bt.output, Nat.le_trans D7.out.bt.size HB8.out.size, fun j hj ho => (HB8.out.block j (by have := D7.out.bt.size; omega)).trans (D7.out.bt.block j hj ho)⟩⟩
          go_roundw
          case rel => exact ⟨n' + 1, L' ++ [o], _, rfl, by omega, by omega, HN8, HFS, HO8, D8⟩
          case measure => simp [sliceLen]; omega
        · obtain ⟨A', ca', hv, hod⟩ := ow_of_ownD HO7.out HN.out
          simp only [Value.slice.injEq] at hv
          obtain ⟨rfl, -, rfl⟩ := hv
          have HOD := Lib.hid (hod.mono hw1 (Nat.le_refl _))
          have hle : 40 + r ≤ n' := by omega
          clear hod
          go_wp2
          go_ret2
          exact ⟨b, _, n', _, L', rfl, hzb, by omega, HF.out, HOD.out, D7.out.src, D7.out.bt⟩
end Go.Proofs.YtpgemeojhbeooaaDoor
