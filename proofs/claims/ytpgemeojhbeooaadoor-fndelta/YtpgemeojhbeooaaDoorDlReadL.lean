/-
  How many operations DeltaRead answers. No condition.
-/
import Derived.Test.YtpgemeojhbeooaaDoorDlPure
namespace Go.Proofs.YtpgemeojhbeooaaDoor.Bt
theorem dReadList_len (t : ByteArray) : (dReadList t).length ≤ 40 := by
  by_cases h : (opened t).2 = 0
  · by_cases ha : drAcc (bstr (opened t).1)
    · rw [(dRead_ok h ha).2, drTo_len]
      have := ha.2.2.1
      omega
    · rw [(dRead_no h ha).2]; simp
  · rw [(dRead_seal h).2]; simp
end Go.Proofs.YtpgemeojhbeooaaDoor.Bt
