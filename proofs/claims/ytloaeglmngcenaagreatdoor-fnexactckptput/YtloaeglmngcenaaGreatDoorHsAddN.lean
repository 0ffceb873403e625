/-
  A number added to a sorted list, where it belongs at the end or is there.
-/
import Derived.Test.YtloaeglmngcenaaGreatDoorProg
import Derived.KernelRfl
import Derived.Test.YtloaeglmngcenaaGreatDoorHsSort
import Derived.Test.YtloaeglmngcenaaGreatDoorHsTrailS
namespace Go.Proofs.YtloaeglmngcenaaGreatDoor
open Go.RowKit

/-- how a slice's value may come out of what it was: its row is the old one, or a new one -/
def Moved (w : World) (v v' : Value) : Prop := ∀ q, v'.ownBlock = some q → v.ownBlock = some q ∨ w.heap.size ≤ q
/-- nothing but block B and v's row has turned -/
structure Fr (B : Nat) (v : Value) (w w' : World) : Prop where
  os : w'.os = w.os
  tape : w'.tape = w.tape
  output : w'.output = w.output
  size : w.heap.size ≤ w'.heap.size
  block : ∀ k, k < w.heap.size → k ≠ B → v.ownBlock ≠ some k → w'.heap[k]? = w.heap[k]?

set_option maxHeartbeats 4000000 in
set_option maxRecDepth 100000 in
theorem insert_end (v : Value) (base n : Nat) (L : List Int) (x : Int) (w : World) (hn : n ≤ 1048576) (hbase : base ≤ w.heap.size) (hown : w.ownsRow base 2 1 v n (L.map numV)) :
    Calls Tryz.prog 273 #[v, .int .i64 (n : Int), .slice (some ⟨w.heap.size, 0, none⟩) 1 1] (w.alloc (.cells #[.int .i64 x] 2)) fun e w' =>
      ∃ g cap, e = .returned (.slice (some ⟨g, 0, none⟩) (n + 1) cap) ∧ w'.ownsRow base 2 1 (.slice (some ⟨g, 0, none⟩) (n + 1) cap) (n + 1) ((L ++ [x]).map numV) ∧ Fr w.heap.size v w w' ∧ Moved w v (.slice (some ⟨g, 0, none⟩) (n + 1) cap) := by
  obtain ⟨i0, hi, hz0, hz1, hz2⟩ := info_parts info_num
  have Hi := Lib.hid hi; have Z0 := Lib.hid hz0; have Z1 := Lib.hid hz1; have Z2 := Lib.hid hz2
  clear hi hz0 hz1 hz2
  have HOW := Lib.hid hown
  have hnn : ((n : Int) == (n : Int)) = true := by simp
  have HNEWS : Hid (∀ j u, [Value.int .i64 x][j]? = some u → (w.alloc (.cells #[.int .i64 x] 2)).cell? ((⟨w.heap.size, 0, none⟩ : Addr).add j) = some u) := fun j u hj => by
    rw [add_plain]; exact (isBlk_new w 2 [.int .i64 x]).cell hj
  rcases hown.2 with ⟨rfl, rfl⟩ | ⟨g, cap, cur, rfl, hbg, hh, hnc, hcm, hcs, hct⟩
  · clear hown
    go_enter Tryz.func273, Tryz.ntmps273
    go_wp2_with (at_builtin; refine wpList_append_lies _ rfl _ _ 48 rfl base 2 i0 _ 1 8 Tryz.underlying48 Hi.out Z0.out Z1.out Z2.out rfl (by omega) (.slice none 0 0) 0 (L.map numV) rfl (HOW.out.alloc _) ⟨w.heap.size, 0, none⟩ 1 1 [.int .i64 x] rfl rfl HNEWS.out (by simp [Value.oneCell']) (by omega) (by unfold maxLen; omega) (by omega) (by simp; omega) (w.heap.size + 1) (by simp) ?_; intro g2 cap2 w2 ho2 hg2 hat2 hlt2; have HO2 := Lib.hid ho2; have HG2 := Lib.hid hg2; have HAT := Lib.hid hat2; clear ho2 hg2 hat2 hlt2)
    all_goals
      go_ret
      have hs2 := HG2.out.size
      rw [size_alloc] at hs2
      refine ⟨g2, cap2, by first | rfl | simp, by first | exact HO2.out | (rw [List.map_append]; exact HO2.out), ⟨HG2.out.os, HG2.out.tape, HG2.out.output, by omega, fun k h1 h2 h3 => (HG2.out.block k (by rw [size_alloc]; omega) (fun e => h3 e.symm)).trans (Below.heap_alloc _ _ _ h1)⟩, fun q hq => ?_⟩
      have hq' : g2 = q := by simpa [Value.ownBlock] using hq
      subst hq'
      rcases HAT.out with h | h
      · exact .inl h
      · right; omega
  · clear hown hh hcs hct
    go_enter Tryz.func273, Tryz.ntmps273
    go_wp2_with (at_builtin; refine wpList_append_lies _ rfl _ _ 48 rfl base 2 i0 _ 1 8 Tryz.underlying48 Hi.out Z0.out Z1.out Z2.out rfl (by omega) _ n (L.map numV) rfl (HOW.out.alloc _) ⟨w.heap.size, 0, none⟩ 1 1 [.int .i64 x] rfl rfl HNEWS.out (by simp [Value.oneCell']) (by omega) (by unfold maxLen; omega) (by omega) (by simp; omega) (w.heap.size + 1) (by simp) ?_; intro g2 cap2 w2 ho2 hg2 hat2 hlt2; have HO2 := Lib.hid ho2; have HG2 := Lib.hid hg2; have HAT := Lib.hid hat2; clear ho2 hg2 hat2 hlt2)
    all_goals
      go_ret
      have hs2 := HG2.out.size
      rw [size_alloc] at hs2
      refine ⟨g2, cap2, by first | rfl | simp, by first | exact HO2.out | (rw [List.map_append]; exact HO2.out), ⟨HG2.out.os, HG2.out.tape, HG2.out.output, by omega, fun k h1 h2 h3 => (HG2.out.block k (by rw [size_alloc]; omega) (fun e => h3 e.symm)).trans (Below.heap_alloc _ _ _ h1)⟩, fun q hq => ?_⟩
      have hq' : g2 = q := by simpa [Value.ownBlock] using hq
      subst hq'
      rcases HAT.out with h | h
      · exact .inl h
      · right; omega

/-- a number added to a list at its place, unless it is there -/
def Added (L : List Int) (x : Int) (L' : List Int) : Prop := ∃ i, Cut L x i ∧ L' = if i < L.length ∧ L.getD i 0 = x then L else L.take i ++ x :: L.drop i
def RetAdd (B base : Nat) (v : Value) (L : List Int) (x : Int) (w : World) (e : Ending) (w' : World) : Prop :=
  ∃ (r v' : Value) (L' : List Int), e = .returned r ∧ Added L x L' ∧ IsBlk w' B 276 [v'] ∧ w'.ownsRow base 2 1 v' L'.length (L'.map numV) ∧ Fr B v w w' ∧ Moved w v v'

set_option maxHeartbeats 4000000 in
set_option maxRecDepth 100000 in
theorem add_end (B : Nat) (v : Value) (base : Nat) (L : List Int) (x : Int) (w : World) (hn : L.length ≤ 1048576) (hBb : B < base) (hbase : base ≤ w.heap.size) (hS : Srt L) (hend : ∀ i, Cut L x i → (i < L.length ∧ L.getD i 0 = x) ∨ i = L.length)
    (hB : IsBlk w B 276 [v]) (hown : w.ownsRow base 2 1 v L.length (L.map numV)) :
    Calls Tryz.prog 248 #[.pointer (some ⟨B, 0, none⟩), .int .i64 x] w (RetAdd B base v L x w) := by
  obtain ⟨A, cap, rfl⟩ := own_slice hown
  have hc : w.cell? ⟨B, 0, none⟩ = some (.slice A L.length cap) := hB.cell rfl
  have hBlt := hB.lt
  have HOW := Lib.hid hown; have HBK := Lib.hid hB; have HS := Lib.hid hS; have HE := Lib.hid hend
  clear hown hB hS hend
  go_enter Tryz.func248, Tryz.ntmps248
  go_wp2_with fail
  refine (search_any A L.length cap L x w hn HS.out ((owNs_of_own HOW.out).rd (Nat.le_refl _))).mono ?_
  rintro e w1 ⟨i, hcut, rfl, rfl⟩
  have HC := Lib.hid hcut
  rcases HE.out i hcut with hf | rfl
  · have HF := Lib.hid hf
    rw [decide_eq_true hf]
    clear hf hcut
    go_wp2
    refine bodyPost_ret (results_none rfl _ _ _) rfl ?_
    exact ⟨_, _, L, rfl, ⟨i, HC.out, by rw [if_pos HF.out]⟩, HBK.out, HOW.out, ⟨rfl, rfl, rfl, Nat.le_refl _, fun k h1 h2 h3 => rfl⟩, fun q hq => .inl hq⟩
  · have hf : ¬ (L.length < L.length ∧ L.getD L.length 0 = x) := fun h => absurd h.1 (by omega)
    have HF := Lib.hid hf
    rw [decide_eq_false hf]
    clear hf hcut
    go_wp2_with fail
    refine (insert_end _ base L.length L x w hn hbase HOW.out).mono ?_
    rintro e w2 ⟨g2, cap2, rfl, ho2, hfr2, hmv2⟩
    have HO2 := Lib.hid ho2; have HFR := Lib.hid hfr2; have HMV := Lib.hid hmv2
    have hb2 : IsBlk w2 B 276 [.slice A L.length cap] := (hfr2.block B hBlt (by omega) (fun e => by have := (own_block_ltR HOW.out e).1; omega)).trans HBK.out
    have HB2 := Lib.hid hb2
    have hc2 : w2.cell? ⟨B, 0, none⟩ = some (.slice A L.length cap) := hb2.cell rfl
    have hf2 : w2.frozen? ⟨B, 0, none⟩ = false := hb2.free
    clear ho2 hfr2 hmv2 hb2 hc
    go_wp2
    refine bodyPost_ret (results_none rfl _ _ _) rfl ?_
    have hl : (L ++ [x]).length = L.length + 1 := by simp
    refine ⟨_, .slice (some ⟨g2, 0, none⟩) (L.length + 1) cap2, L ++ [x], rfl, ⟨L.length, HC.out, by rw [if_neg HF.out, List.take_of_length_le (Nat.le_refl _), List.drop_eq_nil_of_le (Nat.le_refl _)]⟩, HB2.out.set _, by rw [hl]; exact own_otherR HO2.out hBb _, ⟨HFR.out.os, HFR.out.tape, HFR.out.output, by simpa [World.setCell] using HFR.out.size, fun k h1 h2 h3 => (Below.heap_setCell _ _ _ _ (by dsimp only; omega)).trans (HFR.out.block k h1 (by omega) h3)⟩, HMV.out⟩
end Go.Proofs.YtloaeglmngcenaaGreatDoor
