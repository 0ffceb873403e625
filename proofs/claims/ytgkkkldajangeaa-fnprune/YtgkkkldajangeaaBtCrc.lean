/-
  The contracts of the checksum functions: crcStep and CrcMore of the program, l01Crc and CrcMore of the model, in terms of 'Bt.crcMore'.
-/
import Derived.Test.YtgkkkldajangeaaProg
import Derived.KernelRfl
import Derived.Test.YtgkkkldajangeaaBtPure
import Derived.WalkKit
import Derived.Lib.Hide
import Derived.Laws.BitsAllLaws
namespace Go.Proofs.Ytgkkkldajangeaa
open Go.RowKit

theorem low_one {q : Nat} (hq : q < 4294967296) (h : q % 2 = 1) : bits .and .u32 (q : Int) 1 = 1 := by
  have := u32_and_nat q 1 hq (by omega)
  rw [show ((1 : Nat) : Int) = 1 from rfl] at this
  rw [this, Nat.and_one_is_mod, h]; rfl
theorem low_zero {q : Nat} (hq : q < 4294967296) (h : ¬ q % 2 = 1) : bits .and .u32 (q : Int) 1 = 0 := by
  have := u32_and_nat q 1 hq (by omega)
  rw [show ((1 : Nat) : Int) = 1 from rfl] at this
  rw [this, Nat.and_one_is_mod, show q % 2 = 0 by omega]; rfl
theorem bit_one {q : Nat} (hq : q < 4294967296) (h : q % 2 = 1) : bits .xor .u32 ((q : Int) / 2) 3988292384 = ((Bt.crcBit q : Nat) : Int) := by
  have := u32_xor_nat (q / 2) 3988292384 (by omega) (by omega)
  rw [show ((3988292384 : Nat) : Int) = 3988292384 from rfl, show ((q / 2 : Nat) : Int) = (q : Int) / 2 by omega] at this
  rw [this, Bt.crcBit, if_pos h]
theorem bit_zero {q : Nat} (h : ¬ q % 2 = 1) : (q : Int) / 2 = ((Bt.crcBit q : Nat) : Int) := by
  rw [Bt.crcBit, if_neg h]; omega

theorem not_u32 {c : Nat} (h : c < 4294967296) : bits .xor .u32 (c : Int) 4294967295 = ((c ^^^ 4294967295 : Nat) : Int) := u32_xor_nat c 4294967295 h (by omega)

theorem wrap64_nat {n : Nat} (h : n < 4294967296) : wrap64 (n : Int) = n := by unfold wrap64; omega
theorem not_u32' {c : Nat} (h : c < 4294967296) : bits .xor .u32 IntKind.u32.max (c : Int) = ((c ^^^ 4294967295 : Nat) : Int) := by
  rw [Nat.xor_comm]; exact u32_xor_nat 4294967295 c (by omega) h

end Go.Proofs.Ytgkkkldajangeaa
