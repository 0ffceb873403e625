/-
  Records appended one by one: the row that the call owns, a record copied, and what HistAdd answers.
-/
import Derived.Test.YtloaeglmngcenaaGreatDoorProg
import Derived.KernelRfl
import Derived.Test.YtloaeglmngcenaaGreatDoorHsFloor
import Derived.Test.YtloaeglmngcenaaGreatDoorBtText
import Derived.Deep.AppendLies
import Derived.Deep.RegionHeld3
import Derived.Deep.RegionLaw
import Derived.OwnWalk
namespace Go.Proofs.YtloaeglmngcenaaGreatDoor
open Go.RowKit
open Bt (Rc)

/-! records appended one by one -/
def rcA (Y : List Rc) : List Value := Y.flatMap recC
theorem rcA_nil : rcA [] = [] := rfl
theorem rcA_snoc (Y : List Rc) (r : Rc) : rcA (Y ++ [r]) = rcA Y ++ recC r := by simp [rcA]
theorem rcA_len (Y : List Rc) : (rcA Y).length = Y.length * 6 := by
  induction Y with
  | nil => rfl
  | cons r Y ih => simp [rcA] at ih ⊢; omega
theorem rcA_at (Y : List Rc) : ∀ i, i < Y.length * 6 → (rcA Y)[i]? = some (rcF Y i) := by
  induction Y with
  | nil => intro i h; simp at h
  | cons r Y ih =>
    intro i h
    have e : rcA (r :: Y) = recC r ++ rcA Y := by simp [rcA]
    rw [e]
    by_cases h6 : i < 6
    · rw [List.getElem?_append_left (by simpa using h6)]
      unfold rcF
      rw [show i / 6 = 0 by omega, show i % 6 = i by omega]
      rw [List.getElem?_eq_getElem (by simpa using h6)]
      simp [List.getElem?_eq_getElem (show i < [Value.int .i64 r.k, .int .i64 r.s, .int .i64 r.q, .int .i64 r.t, .int .i64 r.o, .string r.d].length by simpa using h6)]
    · rw [List.getElem?_append_right (by simp; omega)]
      have hl : (recC r).length = 6 := rfl
      rw [hl, ih (i - 6) (by simp at h; omega)]
      unfold rcF
      rw [show i / 6 = (i - 6) / 6 + 1 by omega, show i % 6 = (i - 6) % 6 by omega]
      rfl
theorem recC_one (r : Rc) : ∀ u ∈ recC r, u.oneCell' = true := by
  intro u hu
  simp only [recC, List.mem_cons, List.not_mem_nil, or_false] at hu
  rcases hu with h | h | h | h | h | h <;> subst h <;> rfl
theorem own_block_ltR {w : World} {lo n size : Nat} {e : TypeId} {v : Value} {xs : List Value} (h : w.ownsRow lo e size v n xs) {g : Nat} (hg : v.ownBlock = some g) : lo ≤ g ∧ g < w.heap.size := by
  rcases h.2 with ⟨rfl, -⟩ | ⟨g', cap, cur, rfl, hb, hh, -⟩
  · cases hg
  · have : g' = g := by simpa [Value.ownBlock] using hg
    subst this
    exact ⟨hb, lt_of_block hh⟩
theorem own_sameR {w w' : World} {lo n size : Nat} {e : TypeId} {v : Value} {xs : List Value} (h : w.ownsRow lo e size v n xs) (hb : ∀ g, v.ownBlock = some g → w'.heap[g]? = w.heap[g]?) : w'.ownsRow lo e size v n xs := by
  refine ⟨h.1, ?_⟩
  rcases h.2 with h0 | ⟨g, cap, cur, hv, hl, hh, r⟩
  · exact .inl h0
  · exact .inr ⟨g, cap, cur, hv, hl, (hb g (by rw [hv]; rfl)).trans hh, r⟩
theorem own_belowR {w w' : World} {lo n size : Nat} {e : TypeId} {v : Value} {xs : List Value} (h : w.ownsRow lo e size v n xs) (hb : Below w.heap.size w w') : w'.ownsRow lo e size v n xs := own_sameR h fun g hg => hb.block g (own_block_ltR h hg).2
theorem own_otherR {w : World} {lo n size : Nat} {e : TypeId} {v : Value} {xs : List Value} (h : w.ownsRow lo e size v n xs) {a : Addr} (ha : a.block < lo) (u : Value) : (w.setCell a u).ownsRow lo e size v n xs :=
  own_sameR h fun g hg => Below.heap_setCell _ _ _ _ (by have := (own_block_ltR h hg).1; omega)
theorem row_of_ownR {w : World} {lo n size g cap : Nat} {e : TypeId} {xs : List Value} {f : Nat → Value} (h : w.ownsRow lo e size (.slice (some ⟨g, 0, none⟩) n cap) n xs) (hf : ∀ i, i < n * size → xs[i]? = some (f i)) : Row w g (n * size) f := by
  rcases h.2 with ⟨hv, -⟩ | ⟨g', cap', cur, hv, -, hh, hn, -, hs, ht⟩
  · cases hv
  · simp only [Value.slice.injEq, Option.some.injEq, Addr.mk.injEq] at hv
    obtain ⟨⟨rfl, -⟩, -, rfl⟩ := hv
    refine ⟨e, cur, hh, by rw [hs]; exact Nat.mul_le_mul_right _ hn, fun i hi => ?_⟩
    rw [← hf i hi, ← ht, List.getElem?_take_of_lt hi]
    simp
/-- the appended records, as what is owned -/
theorem ow_of_own {w : World} {lo cap : Nat} {e : TypeId} {A : Option Addr} {Y : List Rc} (h : w.ownsRow lo e 6 (.slice A Y.length cap) Y.length (rcA Y)) : OwRc w lo w.heap.size A Y.length Y := by
  refine ⟨rfl, fun hn => ?_⟩
  obtain ⟨g, cap', hv, hb, hlt⟩ := h.form hn
  simp only [Value.slice.injEq] at hv
  obtain ⟨rfl, -, rfl⟩ := hv
  exact ⟨g, rfl, hb, hlt, row_of_ownR h (rcA_at Y)⟩
theorem ow_nilR (w : World) (lo hi : Nat) (A : Option Addr) : OwRc w lo hi A 0 [] := ⟨rfl, fun h => absurd h (by omega)⟩

theorem assemble_oneR (t : ByteArray) (g cap : Nat) (w : World) (hc : w.cell? ⟨g, 0, none⟩ = some (.string t)) (ht : t.size ≤ 2147483648) :
    Calls Tryz.prog 129 #[.slice (some ⟨g, 0, none⟩) 1 cap] w fun e w' => e = .returned (.string t) ∧ Below w.heap.size w w' := by
  have h := assemble_any [t] g 0 cap w (fun i hi => by
    have : i = 0 := by simp at hi; omega
    subst this
    simpa using hc) (by have := World.block_lt_of_cell? _ _ hc; simpa using this) (by simp) (by rw [flat_one, len_list]; exact ht)
  rw [flat_one] at h
  rwa [show strV t.data.toList = Value.string t by unfold strV; rw [bstr_of]] at h

set_option maxHeartbeats 1000000 in
theorem copyRec_any (r : Rc) (w : World) (hd : r.d.size ≤ 2147483648) : Calls Tryz.prog 201 #[recV r] w fun e w' => e = .returned (recV r) ∧ Below w.heap.size w w' := by
  obtain ⟨k, s, q, t, o, d⟩ := r
  simp only at hd
  go_enter Tryz.func201, Tryz.ntmps201
  go_wp2_with fail
  refine (assemble_oneR d _ 1 _ ?_ hd).mono ?_
  · have h := isBlk_new ((w.alloc (.cells (recC ⟨k, s, q, t, o, d⟩).toArray 34)).alloc (.cells (recC Rc.zero).toArray 34)) 9 [Value.string d]
    rw [size_alloc, size_alloc] at h
    exact h.cell rfl
  rintro e w1 ⟨rfl, hb1⟩
  have hb0 := ((((Below.refl w.heap.size w).alloc (Nat.le_refl _) (.cells (recC ⟨k, s, q, t, o, d⟩).toArray 34)).alloc (by simp) (.cells (recC Rc.zero).toArray 34)).alloc (by simp; omega) (.cells #[.string d] 9))
  have k0 := ((isBlk_new w 34 (recC ⟨k, s, q, t, o, d⟩)).alloc (.cells (recC Rc.zero).toArray 34)).alloc (.cells #[.string d] 9)
  have k1 := (isBlk_new (w.alloc (.cells (recC ⟨k, s, q, t, o, d⟩).toArray 34)) 34 (recC Rc.zero)).alloc (.cells #[.string d] 9)
  rw [size_alloc] at k1
  have k0' := k0.below hb1 k0.lt
  have k1' := k1.below hb1 k1.lt
  have HB1 := Lib.hid (hb0.trans (hb1.mono hb0.size))
  obtain ⟨a0, a1, a2, a3, a4, a5⟩ := rcCells k0'
  obtain ⟨b0, b1, b2, b3, b4, b5⟩ := rcCells k1'
  have fa : w1.frozen? ⟨w.heap.size, 5, none⟩ = false := k0'.free
  have f0 : w1.frozen? ⟨w.heap.size + 1, 0, none⟩ = false := k1'.free
  have f1 : w1.frozen? ⟨w.heap.size + 1, 1, none⟩ = false := k1'.free
  have f2 : w1.frozen? ⟨w.heap.size + 1, 2, none⟩ = false := k1'.free
  have f3 : w1.frozen? ⟨w.heap.size + 1, 3, none⟩ = false := k1'.free
  have f4 : w1.frozen? ⟨w.heap.size + 1, 4, none⟩ = false := k1'.free
  have f5 : w1.frozen? ⟨w.heap.size + 1, 5, none⟩ = false := k1'.free
  clear hb1 hb0 k0 k1 k0' k1'
  go_wp2
  exact bodyPost_ret (v := recV ⟨k, s, q, t, o, d⟩) (by simp [results, Tryz.results201, go_sem, b0, b1, b2, b3, b4, b5]) rfl ⟨rfl, ((((((HB1.out.setCell (Nat.le_refl _) _).setCell (by simp) _).setCell (by simp) _).setCell (by simp) _).setCell (by simp) _).setCell (by simp) _).setCell (by simp) _⟩

/-! what HistAdd answers -/
def addCode (X : List Rc) (r : Rc) : Int := if (hRight X && (decide r.Ok && flw (lastR X) r)) = true then (if X.length = 48 then 9 else 0) else 1
def addList (X : List Rc) (r : Rc) : List Rc := if addCode X r = 0 then X ++ [r] else []
/-- an answer with a history, in memory of its own -/
def RetHO (w : World) (Y : List Rc) (code : Int) (e : Ending) (w' : World) : Prop :=
  ∃ (A : Option Addr) (ca : Nat), e = .returned (.agg #[.slice A Y.length ca, .int .i64 code]) ∧ OwRc w' w.heap.size w'.heap.size A Y.length Y ∧ Below w.heap.size w w'
theorem add_no {X : List Rc} {r : Rc} (h : (hRight X && (decide r.Ok && flw (lastR X) r)) = false) : addCode X r = 1 ∧ addList X r = [] := by
  have e : addCode X r = 1 := by unfold addCode; rw [h, if_neg (by simp)]
  exact ⟨e, by unfold addList; rw [e, if_neg (by decide)]⟩
theorem add_full {X : List Rc} {r : Rc} (h : (hRight X && (decide r.Ok && flw (lastR X) r)) = true) (hl : X.length = 48) : addCode X r = 9 ∧ addList X r = [] := by
  have e : addCode X r = 9 := by unfold addCode; rw [h, if_pos rfl, if_pos hl]
  exact ⟨e, by unfold addList; rw [e, if_neg (by decide)]⟩
theorem add_ok {X : List Rc} {r : Rc} (h : (hRight X && (decide r.Ok && flw (lastR X) r)) = true) (hl : X.length ≠ 48) : addCode X r = 0 ∧ addList X r = X ++ [r] := by
  have e : addCode X r = 0 := by unfold addCode; rw [h, if_pos rfl, if_neg hl]
  exact ⟨e, by unfold addList; rw [e, if_pos rfl]⟩
end Go.Proofs.YtloaeglmngcenaaGreatDoor
