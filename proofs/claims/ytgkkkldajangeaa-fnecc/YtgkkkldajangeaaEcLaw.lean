/-
  What the law of error correction itself calls: a byte of its argument, and the comparison of two equal answers. No condition.
-/
import Derived.Test.YtgkkkldajangeaaProg
import Derived.KernelRfl
import Derived.Test.YtgkkkldajangeaaEcS
import Derived.Test.YtgkkkldajangeaaDrSrc
namespace Go.Proofs.Ytgkkkldajangeaa
open Go.RowKit

theorem fix_fields : Try.prog.underlying 58 = some (.struct (Try.prog.fieldsOf 58)) := by kernel_rfl
theorem fix_held : Try.prog.stoodInHeld 58 = false := by kernel_rfl
theorem fix_guard : Try.prog.eqGuardType Try.prog.depth 58 = false := by kernel_rfl
set_option maxHeartbeats 2000000 in
theorem equalIn_fix (a : ByteArray) (b c : Int) (w : World) : (Op.equalIn 10000 58 (.agg #[.string a, .int .i64 b, .int .i64 c]) (.agg #[.string a, .int .i64 b, .int .i64 c])).run Try.prog w = .ok true w := by
  rw [run_equalIn_agg w 9999 _ _ _ fix_fields fix_held]
  simp [Program.fieldsOf, Try.underlying58, Op.eqFields, part, go_sem, Try.underlying2, Try.underlying9]

theorem field_fixC (a : ByteArray) (b c : Int) (w : World) : (Instr.field 58 (.agg #[.string a, .int .i64 b, .int .i64 c]) 2).run Try.prog w = .ok (.int .i64 c) w := by
  simp [Instr.field, run_underlying Try.underlying58, part, asAgg, go_sem]

theorem rdBy_on {w w' : World} {n : Nat} {A : Option Addr} (h : RdBy w w.heap.size A n) (hb : Below w.heap.size w w') : RdBy w' w'.heap.size A n := fun hn => by
  obtain ⟨g, off, hA, hg, hc⟩ := h.same (fun k hk => hb.block k hk) hn
  exact ⟨g, off, hA, by have := hb.size; omega, hc⟩

theorem lwAt_any (A : Option Addr) (n c k : Nat) (w : World) (hn : n ≤ 1048576) (hk : k < 100) (hA : RdBy w w.heap.size A n) :
    Calls Try.prog 43 #[.slice A n c, .int .i64 (k : Int), .int .i64 256] w fun e w' => ∃ r : Nat, e = .returned (.int .i64 (r : Int)) ∧ r < 256 ∧ w = w' := by
  have HA := Lib.hid hA; clear hA
  by_cases h0 : n = 0
  · subst h0
    go_enter Try.func43, Try.ntmps43
    go_wp2
    go_ret
    exact ⟨0, rfl, by omega, rfl⟩
  · obtain ⟨g, off, rfl, hg, hc⟩ := HA.out (by omega)
    obtain ⟨z, hz, hcell⟩ := hc (k % n) (Nat.mod_lt _ (by omega))
    have hkn : k % n < n := Nat.mod_lt _ (by omega)
    have htm : ((k : Int)).tmod (n : Int) = ((k % n : Nat) : Int) := by
      rw [Int.tmod_eq_emod_of_nonneg (by omega)]; rfl
    have hin : (0 : Int) ≤ ((k % n : Nat) : Int) ∧ ((k % n : Nat) : Int) < (n : Int) := by omega
    have hnz : ((n : Int) == 0) = false := beq_eq_false_iff_ne.2 (by omega)
    have hni : 0 < (n : Int) := by omega
    clear hc
    generalize k % n = m at *
    go_enter Try.func43, Try.ntmps43
    go_wp2
    go_ret
    exact ⟨z % 256, rfl, by omega, rfl⟩

theorem flip_facts {W : World} {g p : Nat} {l : List UInt8} (h : ByRow W g l) (hp : p < 8 * l.length) : ∃ x y : Nat, W.cell? ⟨g, p / 8, none⟩ = some (.int .u8 (x : Int)) ∧ W.frozen? ⟨g, p / 8, none⟩ = false ∧
    bits .xor .u8 (x : Int) (IntKind.u8.wrap (2 ^ (p % 8))) = (y : Int) ∧ ByRow (W.setCell ⟨g, p / 8, none⟩ (.int .u8 (y : Int))) g (Bt.flip1 l p) := by
  have hq : p / 8 < l.length := by omega
  have hxl := Bt.by8_lt l (p / 8)
  have hpw := Bt.pow8_lt p
  have hfl := Bt.flip_lt l p
  refine ⟨Bt.by8 l (p / 8), Bt.by8 l (p / 8) ^^^ 2 ^ (p % 8), h.cell hq, h.free hq, ?_, ?_⟩
  · rw [← u8_xor_nat _ (2 ^ (p % 8)) hxl hpw, IntKind.wrap_u8']
    congr 1
    have : ((2 : Int) ^ (p % 8)) = ((2 ^ (p % 8) : Nat) : Int) := by simp
    rw [this]
    generalize 2 ^ (p % 8) = z at hpw
    omega
  · have hs := h.set hq (UInt8.ofNat (Bt.by8 l (p / 8) ^^^ 2 ^ (p % 8)))
    rw [UInt8.toNat_ofNat', Nat.mod_eq_of_lt (by omega)] at hs
    exact hs
theorem ByRow.drew {w : World} {g : Nat} {l : List UInt8} (h : ByRow w g l) : ByRow w.drew g l := h
end Go.Proofs.Ytgkkkldajangeaa
