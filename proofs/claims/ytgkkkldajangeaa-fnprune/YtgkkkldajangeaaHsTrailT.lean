/-
  Trail, of the document's model: the Seqs of the places.
-/
import Derived.Test.YtgkkkldajangeaaProg
import Derived.KernelRfl
import Derived.Test.YtgkkkldajangeaaHsTrailS
import Derived.Deep.AppendLies
import Derived.Deep.RegionLaw
namespace Go.Proofs.Ytgkkkldajangeaa
open Go.RowKit
open Bt (Rc)

theorem trail_nil {X : List Rc} {s a : Int} (h : ¬ (hRight X = true ∧ 0 ≤ s ∧ s ≤ 5)) : trailOf X s a = [] := by unfold trailOf; rw [if_neg h]
def seqAt (X : List Rc) (i : Nat) : Int := (X.getD i Rc.zero).q
theorem trail_seqs {X : List Rc} {s a : Int} (h : hRight X = true ∧ 0 ≤ s ∧ s ≤ 5) : trailOf X s a = (trl X s X.length a).map (seqAt X) := by
  unfold trailOf trlR; rw [if_pos h, List.map_map]; rfl
theorem nmF_plcs {P : List Nat} {k : Nat} (h : k < P.length) : nmF (plcs P) k = .int .i64 ((P.getD k 0 : Nat) : Int) := by
  unfold nmF plcs
  simp [List.getD_eq_getElem?_getD, List.getElem?_eq_getElem h]

set_option maxHeartbeats 4000000 in
set_option maxRecDepth 100000 in
theorem spec_trail (A : Option Addr) (n ca : Nat) (X : List Rc) (s a : Int) (w : World) (hS : SmallR X) (hA : RdRc w w.heap.size A n X) :
    Calls Try.prog 18 #[.agg #[.slice A n ca], .int .i64 s, .int .i64 a] w (RetNs w (trailOf X s a)) := by
  have hn : n ≤ 1048576 := by rw [← hA.1]; exact hS.1
  have HL := Lib.hid hA.1
  have HA := Lib.hid hA; have HS := Lib.hid hS; clear hA hS
  obtain ⟨i0, hi, hz0, hz1, hz2⟩ := info_parts info_num
  have Hi := Lib.hid hi; have Z0 := Lib.hid hz0; have Z1 := Lib.hid hz1; have Z2 := Lib.hid hz2
  clear hi hz0 hz1 hz2
  go_enter Try.func18, Try.ntmps18
  go_wp2_with fail
  have hb0 : Below w.heap.size w ((w.alloc (.cells #[.slice A n ca] 25)).alloc (.cells #[] 2)) := ((Below.refl _ _).alloc (Nat.le_refl _) _).alloc (by simp) _
  have k0 := (isBlk_new w 25 [.slice A n ca]).alloc (.cells #[] 2)
  have k1 := isBlk_new (w.alloc (.cells #[.slice A n ca] 25)) 2 []
  rw [size_alloc] at k1
  change IsBlk ((w.alloc (.cells #[.slice A n ca] 25)).alloc (.cells #[] 2)) _ _ _ at k0
  change IsBlk ((w.alloc (.cells #[.slice A n ca] 25)).alloc (.cells #[] 2)) _ _ _ at k1
  generalize (w.alloc (.cells #[.slice A n ca] 25)).alloc (.cells #[] 2) = W at hb0 k0 k1 ⊢
  refine (spec_histRight_any A n ca X W HS.out (HA.out.next hb0)).mono ?_
  rintro e w1 ⟨rfl, hb1⟩
  have HB1 := Lib.hid (hb0.trans (hb1.mono hb0.size))
  have HK0 := Lib.hid (k0.below hb1 k0.lt)
  have HK1 := Lib.hid (k1.below hb1 k1.lt)
  have hx : w1.cell? ⟨w.heap.size, 0, none⟩ = some (.slice A n ca) := HK0.out.cell rfl
  have hz1 : w.heap.size + 1 < w1.heap.size := HK1.out.lt
  have HRD1 := Lib.hid (HA.out.next HB1.out)
  clear hb0 hb1 k0 k1
  by_cases hr : hRight X = true
  case neg =>
    have HT := Lib.hid (trail_nil (s := s) (a := a) (X := X) (fun h => hr h.1))
    have hr : hRight X = false := by simpa using hr
    rw [hr]
    clear hr
    go_wp2
    go_ret
    rw [HT.out]
    exact ⟨some ⟨w.heap.size + 1, 0, none⟩, 0, rfl, owNs_nil _ _ _ _, HB1.out⟩
  rw [hr]
  go_wp2_with fail
  refine (l04Sector_any s w1).mono ?_
  rintro e w2 ⟨rfl, rfl⟩
  by_cases hs : 0 ≤ s ∧ s ≤ 5
  case neg =>
    have HT := Lib.hid (trail_nil (s := s) (a := a) (X := X) (fun h => hs h.2))
    rw [rcIs_no hs]
    clear hr hs
    go_wp2
    go_ret
    rw [HT.out]
    exact ⟨some ⟨w.heap.size + 1, 0, none⟩, 0, rfl, owNs_nil _ _ _ _, HB1.out⟩
  have HT := Lib.hid (trail_seqs (a := a) ⟨hr, hs⟩)
  rw [rcIs_yes hs]
  have HV : Hid (∀ i, i < n → 1 ≤ (X.getD i Rc.zero).k) := fun i hi => (hRight_at hr (by rw [HL.out]; exact hi)).1.1
  rw [HL.out] at HT
  clear hr hs
  go_wp2_with fail
  refine (l04Trail_any A n ca X s a w1 hn HV.out HRD1.out).mono ?_
  rintro e w3 ⟨Al, cl, rfl, ho3, hb3⟩
  obtain ⟨P, hP⟩ : ∃ P, P = trl X s n a := ⟨_, rfl⟩
  have HPL : Hid (∀ i ∈ P, i < n) := fun i hi => by rw [hP] at hi; exact trl_lt X s n a i hi
  have hPn : P.length ≤ n := by rw [hP]; exact trl_len X s n a
  rw [← hP] at ho3 HT ⊢
  rw [plcs_len] at ho3 ⊢
  clear hP
  have HO3 := Lib.hid ho3; have HB13 := Lib.hid hb3
  have HB3 := Lib.hid (HB1.out.trans (hb3.mono HB1.out.size))
  have HK03 := Lib.hid (HK0.out.below hb3 HK0.out.lt)
  have HK13 := Lib.hid (HK1.out.below hb3 HK1.out.lt)
  have h13 : w1.heap.size ≤ w3.heap.size := hb3.size
  have HRD3 := Lib.hid (HA.out.next HB3.out)
  clear hb3 ho3 hx
  go_wp2
  go_loopw [7, 9] (fun out i wr => ∃ (k : Nat) (v : Value), k ≤ P.length ∧ i = .int .i64 (k : Nat) ∧ v = out ∧ wr.ownsRow (w.heap.size + 1) 2 1 v k (((P.take k).map (seqAt X)).map numV) ∧ (∀ q, v.ownBlock = some q → q = w.heap.size + 1 ∨ w3.heap.size ≤ q) ∧ Btw (w.heap.size + 1) (w.heap.size + 2) w3 wr) (fun _ i _ => P.length - (intOf i).toNat)
  case atStart => exact ⟨0, _, by omega, rfl, rfl, ⟨rfl, .inr ⟨w.heap.size + 1, 0, #[], rfl, Nat.le_refl _, HK13.out, Nat.le_refl _, by simp [maxLen], rfl, rfl⟩⟩, fun q hq => .inl (by simpa [Value.ownBlock] using hq.symm), Btw.refl _ _ _⟩
  case round =>
    obtain ⟨k, v, hk, rfl, rfl, hown, hq, hbt⟩ := hrel
    have HOW := Lib.hid hown; have HQ := Lib.hid hq; have HBT := Lib.hid hbt
    have hzr : w3.heap.size ≤ wr.heap.size := hbt.size
    clear hown hq
    by_cases hlt : k < P.length
    · have hx : wr.cell? ⟨w.heap.size, 0, none⟩ = some (.slice A n ca) := IsBlk.cell (show IsBlk wr _ _ _ from (hbt.block _ HK03.out.lt (by omega)).trans HK03.out) rfl
      obtain ⟨gl, rfl, hgl1, hgl2, hrl⟩ := HO3.out.2 (by omega)
      have hrl' : Row wr gl P.length (nmF (plcs P)) := hrl.same (hbt.block gl hgl2 (by omega))
      have hcl := hrl'.cell hlt
      rw [nmF_plcs hlt] at hcl
      have hpn : P.getD k 0 < n := HPL.out _ (getD_lt hlt)
      have hrd : RdRc wr w.heap.size A n X := HA.out.below (HB3.out.trans ((hbt.below (by omega)).mono (by omega)))
      obtain ⟨g, off, rfl, hg, hc0, hc1, hc2, hc3, hc4, hc5⟩ := hrd.at hpn
      have HTK : Hid (P.take (k + 1) = P.take k ++ [P.getD k 0]) := take_snoc' 0 hlt
      obtain ⟨z, hz⟩ : ∃ z, z = seqAt X (P.getD k 0) := ⟨_, rfl⟩
      have HZ := Lib.hid hz
      have hc2' : wr.cell? ⟨g, off + P.getD k 0 * 6 + 2, none⟩ = some (.int .i64 z) := by rw [hz]; exact hc2
      generalize P.getD k 0 = pk at *
      clear hbt hrl hrl' hrd hc0 hc1 hc2 hc3 hc4 hc5 hz
      have hi0 : (0 : Int) ≤ (k : Int) := by omega
      have hi1 : (k : Int) < (P.length : Int) := by omega
      have hi2 : (0 : Int) ≤ (pk : Int) := by omega
      have hi3 : (pk : Int) < (n : Int) := by omega
      have hkl : k ≤ 1048576 := by omega
      have HOWN2 : Hid ((wr.alloc (.cells #[.int .i64 z] 2)).drew.ownsRow (w.heap.size + 1) 2 1 v k (((P.take k).map (seqAt X)).map numV)) := own_belowR HOW.out (((Below.refl _ _).alloc (Nat.le_refl _) _).drew)
      have HNEWS : Hid (∀ j u, [Value.int .i64 z][j]? = some u → (wr.alloc (.cells #[.int .i64 z] 2)).drew.cell? ((⟨wr.heap.size, 0, none⟩ : Addr).add j) = some u) := fun j u hj => by
        rw [add_plain]; exact (isBlk_new wr 2 [.int .i64 z]).cell hj
      go_wp2
      go_region_law (
        (refine step_append_lies _ rfl (.tmp 31) (.tmp 41) 40 rfl (w.heap.size + 1) 2 i0 _ 1 8 Try.underlying40 Hi.out Z0.out Z1.out Z2.out rfl (by omega) v k (((P.take k).map (seqAt X)).map numV) (by rfl) HOWN2.out ⟨wr.heap.size, 0, none⟩ 1 1 [.int .i64 z] (by rfl) (by rfl) HNEWS.out (by simp [Value.oneCell']) (by omega) (by unfold maxLen; omega) (by omega) (by simp; omega) (wr.heap.size + 1) (by simp) ?_
         intro g2 cap2 w6 hown6 hgrow6 hat6 hlt6
         have hs6 : wr.heap.size + 1 ≤ w6.heap.size := by have := hgrow6.size; simpa using this
         have hbt6 : Btw (w.heap.size + 1) (w.heap.size + 2) w3 w6 := ⟨hgrow6.os.trans HBT.out.os, hgrow6.tape.trans HBT.out.tape, hgrow6.output.trans HBT.out.output, by omega, fun j h1 h2 => ((hgrow6.block j (by simp; omega) (fun e => by rcases HQ.out j e.symm with h | h <;> omega)).trans (Below.heap_alloc _ _ _ (by omega))).trans (HBT.out.block j h1 h2)⟩
         have HBT6 := Lib.hid hbt6
         have HQ6 : Hid (∀ q, (Value.slice (some ⟨g2, 0, none⟩) (k + 1) cap2).ownBlock = some q → q = w.heap.size + 1 ∨ w3.heap.size ≤ q) := fun q hq => by
           have : g2 = q := by simpa [Value.ownBlock] using hq
           subst this
           rcases hat6 with h | h
           · exact HQ.out _ h
           · right; omega
         have HOWN6 : Hid (w6.ownsRow (w.heap.size + 1) 2 1 (.slice (some ⟨g2, 0, none⟩) (k + 1) cap2) (k + 1) (((P.take (k + 1)).map (seqAt X)).map numV)) := by
           show World.ownsRow _ _ _ _ _ _ _
           rw [HTK.out, List.map_append, List.map_append]
           simp only [List.map_cons, List.map_nil]
           rw [← HZ.out]; exact hown6
         clear hbt6 hown6 hgrow6 hat6 hlt6 hs6))
      all_goals
        go_wp2
        go_roundw
        case rel => exact ⟨k + 1, _, by omega, by go_num, rfl, HOWN6.out, HQ6.out, HBT6.out⟩
        case measure => simp [intOf]; omega
    · obtain rfl : k = P.length := by omega
      obtain ⟨Av, cv, rfl⟩ := own_slice HOW.out
      have HBB := Lib.hid (HB3.out.trans ((hbt.below (by omega)).mono (by omega)))
      clear hbt
      go_wp2
      go_ret
      rw [HT.out]
      have h := HOW.out
      rw [List.take_of_length_le (Nat.le_refl _)] at h
      have hl : (P.map (seqAt X)).length = P.length := List.length_map _
      rw [← hl] at h
      exact ⟨Av, cv, by rw [hl]; rfl, (owNs_of_own h).mono (by omega) (Nat.le_refl _), HBB.out⟩
end Go.Proofs.Ytgkkkldajangeaa
