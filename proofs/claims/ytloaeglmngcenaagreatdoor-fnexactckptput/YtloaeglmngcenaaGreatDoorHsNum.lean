/-
  Lists of numbers in memory, and the laws' own steps over them: comparing, marking, looking at the marks.
-/
import Derived.Test.YtloaeglmngcenaaGreatDoorProg
import Derived.KernelRfl
import Derived.Test.YtloaeglmngcenaaGreatDoorHsMem
import Derived.Test.YtloaeglmngcenaaGreatDoorHsApp
import Derived.BigQuiet
import Derived.Lib.QuietBelow
namespace Go.Proofs.YtloaeglmngcenaaGreatDoor
open Go.RowKit

abbrev numV (z : Int) : Value := .int .i64 z
def nmF (L : List Int) (c : Nat) : Value := .int .i64 (L.getD c 0)
def RdNs (w : World) (B : Nat) (A : Option Addr) (n : Nat) (L : List Int) : Prop :=
  L.length = n ∧ (0 < n → ∃ g, A = some ⟨g, 0, none⟩ ∧ g < B ∧ Row w g n (nmF L))
def OwNs (w : World) (lo hi : Nat) (A : Option Addr) (n : Nat) (L : List Int) : Prop :=
  L.length = n ∧ (0 < n → ∃ g, A = some ⟨g, 0, none⟩ ∧ lo ≤ g ∧ g < hi ∧ Row w g n (nmF L))
section
variable {w w' : World} {lo hi lo' hi' B B' n : Nat} {A : Option Addr} {L : List Int}
theorem RdNs.below (h : RdNs w B A n L) (hb : Below B w w') : RdNs w' B A n L :=
  ⟨h.1, fun hn => by obtain ⟨g, hA, hg, hr⟩ := h.2 hn; exact ⟨g, hA, hg, hr.below hb hg⟩⟩
theorem OwNs.same (h : OwNs w lo hi A n L) (hb : ∀ k, lo ≤ k → k < hi → w'.heap[k]? = w.heap[k]?) : OwNs w' lo hi A n L :=
  ⟨h.1, fun hn => by obtain ⟨g, hA, h1, h2, hr⟩ := h.2 hn; exact ⟨g, hA, h1, h2, hr.same (hb g h1 h2)⟩⟩
theorem OwNs.below (h : OwNs w lo hi A n L) (hb : Below B w w') (hB : hi ≤ B) : OwNs w' lo hi A n L := h.same fun k _ hk => hb.block k (by omega)
theorem OwNs.btw (h : OwNs w lo hi A n L) (hb : Btw lo' hi' w w') (hs : hi ≤ w.heap.size) (hd : hi ≤ lo' ∨ hi' ≤ lo) : OwNs w' lo hi A n L :=
  h.same fun k _ hk => hb.block k (by omega) (by omega)
theorem OwNs.mono (h : OwNs w lo hi A n L) (hl : lo' ≤ lo) (hh : hi ≤ hi') : OwNs w lo' hi' A n L :=
  ⟨h.1, fun hn => by obtain ⟨g, hA, h1, h2, hr⟩ := h.2 hn; exact ⟨g, hA, by omega, by omega, hr⟩⟩
theorem OwNs.rd (h : OwNs w lo hi A n L) (hB : hi ≤ B) : RdNs w B A n L :=
  ⟨h.1, fun hn => by obtain ⟨g, hA, h1, h2, hr⟩ := h.2 hn; exact ⟨g, hA, by omega, hr⟩⟩
end
theorem owNs_nil (w : World) (lo hi : Nat) (A : Option Addr) : OwNs w lo hi A 0 [] := ⟨rfl, fun h => absurd h (by omega)⟩
theorem nums_at (L : List Int) : ∀ i, i < L.length * 1 → (L.map numV)[i]? = some (nmF L i) := by
  intro i hi
  rw [Nat.mul_one] at hi
  simp [nmF, List.getD_eq_getElem?_getD, List.getElem?_eq_getElem hi]
theorem owNs_of_own {w : World} {lo cap : Nat} {e : TypeId} {A : Option Addr} {L : List Int} (h : w.ownsRow lo e 1 (.slice A L.length cap) L.length (L.map numV)) : OwNs w lo w.heap.size A L.length L := by
  refine ⟨rfl, fun hn => ?_⟩
  obtain ⟨g, cap', hv, hb, hlt⟩ := h.form hn
  simp only [Value.slice.injEq] at hv
  obtain ⟨rfl, -, rfl⟩ := hv
  have hr := row_of_ownR h (nums_at L)
  rw [Nat.mul_one] at hr
  exact ⟨g, rfl, hb, hlt, hr⟩
theorem own_slice {w : World} {lo n : Nat} {e : TypeId} {v : Value} {xs : List Value} {size : Nat} (h : w.ownsRow lo e size v n xs) : ∃ A cap, v = .slice A n cap := by
  rcases h.2 with ⟨rfl, rfl⟩ | ⟨g, cap, cur, rfl, -⟩
  · exact ⟨none, 0, rfl⟩
  · exact ⟨_, cap, rfl⟩
/-- an answer with a list of numbers, in memory of its own -/
def RetNs (w : World) (L : List Int) (e : Ending) (w' : World) : Prop :=
  ∃ (A : Option Addr) (ca : Nat), e = .returned (.slice A L.length ca) ∧ OwNs w' w.heap.size w'.heap.size A L.length L ∧ Below w.heap.size w w'

/-! numbers marked from k on -/
def mkN (k c : Nat) : Value := .int .i64 ((k + c : Nat) : Int)
theorem upto_set1 {α : Type} {k c : Nat} {f z : Nat → α} {u : α} (h : f k = u) : (if c = k then u else upto k 1 f z c) = upto (k + 1) 1 f z c := by
  subst h
  by_cases e : c = k
  · rw [if_pos e, upto_lt (by omega), e]
  · rw [if_neg e]
    by_cases hc : c < k
    · rw [upto_lt (by omega), upto_lt (by omega)]
    · rw [upto_ge (by omega), upto_ge (by omega)]
def MkNs (w : World) (lo hi : Nat) (A : Option Addr) (n k : Nat) : Prop := 0 < n → ∃ g, A = some ⟨g, 0, none⟩ ∧ lo ≤ g ∧ g < hi ∧ Row w g n (mkN k)
theorem MkNs.same {w w' : World} {lo hi n k : Nat} {A : Option Addr} (h : MkNs w lo hi A n k) (hb : ∀ j, lo ≤ j → j < hi → w'.heap[j]? = w.heap[j]?) : MkNs w' lo hi A n k :=
  fun hn => by obtain ⟨g, hA, h1, h2, hr⟩ := h hn; exact ⟨g, hA, h1, h2, hr.same (hb g h1 h2)⟩
theorem MkNs.below {w w' : World} {lo hi n k B : Nat} {A : Option Addr} (h : MkNs w lo hi A n k) (hb : Below B w w') (hB : hi ≤ B) : MkNs w' lo hi A n k :=
  h.same fun j _ hj => hb.block j (by omega)
end Go.Proofs.YtloaeglmngcenaaGreatDoor
