/-
  Bytes that come in as an argument, opened; many facts of one memory carried together past calls that leave old memory alone.
-/
import Derived.Test.YtgkkkldajangeaaProg
import Derived.KernelRfl
import Derived.Test.YtgkkkldajangeaaDrSrc
import Derived.Deep.Slices
import Derived.Deep.Fields
import Derived.ChangeSame
import Derived.KernelRfl
namespace Go.Proofs.Ytgkkkldajangeaa
open Go.RowKit Go.ChangeShapes Go.WideShapes Go.Deep

section
variable {H : Type} {enc : TypeId × Value → H} {P : Program} {w : World} {base : Nat} {spare : Nat → Bool} {held : Bool}
theorem open_bytes {t e : TypeId} {fuel : Nat} {v : Value} {x : DataW H × List MemPlace} (ht : P.underlying t = some (.slice e)) (he : P.underlying e = some (.int .u8)) (hC : P.cellsOf e = 1)
    (h : DataW.trod enc P w base spare held fuel t [v] = some x) : ∃ (A : Option Addr) (n cap : Nat), v = .slice A n cap ∧ n ≤ maxLen ∧ RdBy w w.heap.size A n := by
  rcases open_slice ht h with ⟨h0, -⟩ | ⟨a, len, cap, m, n, D, Pl, hcs, -, hl, hm, hmm, -, hi⟩
  · simp only [List.cons.injEq, and_true] at h0
    exact ⟨none, 0, 0, h0, by simp [maxLen], fun hn => absurd hn (by omega)⟩
  · simp only [List.cons.injEq, and_true] at hcs
    refine ⟨some a, len, cap, hcs, by omega, fun hn => ?_⟩
    have hml : len ≤ m := by rw [hmm]; split <;> omega
    have hcell : ∀ i, i < len → ∃ z : Nat, z < 256 ∧ w.cell? (a.add i) = some (.int .u8 (z : Int)) := by
      intro i hil
      obtain ⟨cs', hc, ht'⟩ := hi i (by omega)
      rw [hC] at hc
      obtain ⟨z, hz, -, hwf⟩ := DataW.trod_int he ht'
      obtain ⟨-, -, hat⟩ := World.cells?_some hc
      have h1 := hat 0 (by omega)
      subst hz
      simp only [Lit.wf, Bool.and_eq_true, decide_eq_true_eq] at hwf
      have hlo : 0 ≤ z := hwf.1
      have hhi : z ≤ 255 := hwf.2
      refine ⟨z.toNat, by omega, ?_⟩
      rw [show ((z.toNat : Nat) : Int) = z by omega]
      have e : (a.add (i * 1)).add 0 = a.add i := by rw [Go.Deep.add_add]; congr 1; omega
      rw [← e, h1]; rfl
    obtain ⟨g, off, spot⟩ := a
    obtain ⟨z, -, hu⟩ := hcell 0 hn
    have hspot : spot = none := by
      have := World.cell?_spot hu
      simpa [Addr.add] using this
    subst hspot
    refine ⟨g, off, rfl, ?_, fun i hil => ?_⟩
    · rw [add_off] at hu; exact block_lt_of_cell hu
    · obtain ⟨z, hz, hc⟩ := hcell i hil
      exact ⟨z, hz, by rw [add_off] at hc; exact hc⟩
end
theorem open_bytesV {H : Type} {enc : TypeId × Value → H} {P : Program} {w : World} {base : Nat} {spare : Nat → Bool} {held : Bool} {r : Reach} {b0 : Nat} {t e : TypeId} {v : Value} {d : DataW H} {ps : List MemPlace}
    (ht : P.underlying t = some (.slice e)) (he : P.underlying e = some (.int .u8)) (hC : P.cellsOf e = 1) (hval : Value.okWide P w r b0 t v) (h : DataW.Trod enc P w base spare held t v d ps) :
    ∃ (A : Option Addr) (n cap : Nat), v = .slice A n cap ∧ n ≤ maxLen ∧ RdBy w w.heap.size A n := by
  obtain ⟨A, n, c, rfl⟩ := okWide_slice ht hval
  obtain ⟨fuel, hf⟩ := h
  exact open_bytes ht he hC hf
end Go.Proofs.Ytgkkkldajangeaa
