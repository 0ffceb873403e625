/-
  The steps of a delta, of the program: an operation as a step, the parts of a result; DeltaRight and DeltaApply.
-/
import Derived.Test.YtpgemeojhbeooaaDoorProg
import Derived.KernelRfl
import Derived.Test.YtpgemeojhbeooaaDoorDlMem
import Derived.Test.YtpgemeojhbeooaaDoorBtText
import Derived.OwnWalk
namespace Go.Proofs.YtpgemeojhbeooaaDoor
open Go.RowKit
open Bt (Dop dok inB)

/-- an operation as a step -/
def stepV (o : Dop) : Value := if o.c = 0 then .iface 104 (.agg #[.string o.x]) else .iface 84 (.agg #[.int .i64 o.f, .int .i64 o.c])
theorem stepV_ins {o : Dop} (h : o.c = 0) : stepV o = .iface 104 (.agg #[.string o.x]) := by simp [stepV, h]
theorem stepV_cp {o : Dop} (h : o.c ≠ 0) : stepV o = .iface 84 (.agg #[.int .i64 o.f, .int .i64 o.c]) := by simp [stepV, h]
theorem stepV_one (o : Dop) : (stepV o).oneCell' = true := by unfold stepV; split <;> rfl
theorem empty_of {x : ByteArray} (h : x.size = 0) : x = ⟨#[]⟩ := by
  obtain ⟨⟨l⟩⟩ := x
  have : l.length = 0 := h
  rw [List.eq_nil_of_length_eq_zero this]
theorem some_of {x : ByteArray} (h : x.size ≠ 0) : x.toList.isEmpty = false ∧ (x.toList == []) = false := by
  rw [ByteArray.toList_eq]
  have h2 : x.data.toList ≠ [] := fun e => h (by have := congrArg List.length e; exact this)
  exact ⟨by simpa using h2, by simpa using h2⟩

set_option maxHeartbeats 2000000 in
theorem stepOf_any (o : Dop) (w : World) (hx : o.x.size ≤ 9223372036854775807) :
    Calls Tryd.prog 59 #[dopV o] w fun e w' => e = .returned (.tuple #[stepV o, .bool (dok o)]) ∧ Below w.heap.size w w' := by
  have HI := fun h => Lib.hid (Bt.dok_ins (o := o) h)
  have HC := fun h => Lib.hid (Bt.dok_cp (o := o) h)
  have SI := fun h => Lib.hid (stepV_ins (o := o) h)
  have SC := fun h => Lib.hid (stepV_cp (o := o) h)
  generalize dok o = D at HI HC ⊢
  generalize stepV o = S at SI SC ⊢
  obtain ⟨f, c, x⟩ := o
  simp only at hx HI HC SI SC ⊢
  by_cases h0 : c = 0
  · replace HI := HI h0; replace SI := SI h0
    clear HC SC
    subst h0
    by_cases h1 : f = 0
    · subst h1
      by_cases h2 : 1 ≤ x.size
      · by_cases h3 : x.size ≤ 200
        · have HD : Hid (D = true) := by show D = true; rw [HI.out]; exact decide_eq_true ⟨rfl, h2, h3⟩
          clear HI
          go_enter Tryd.func59, Tryd.ntmps59
          go_wp2
          go_ret2
          exact ⟨by rw [HD.out, SI.out]; first | rfl | (simp; omega), (Below.refl _ _).alloc (Nat.le_refl _) _⟩
        · have HD : Hid (D = false) := by show D = false; rw [HI.out]; exact decide_eq_false (by omega)
          clear HI
          go_enter Tryd.func59, Tryd.ntmps59
          go_wp2
          go_ret2
          exact ⟨by rw [HD.out, SI.out]; first | rfl | (simp; omega), (Below.refl _ _).alloc (Nat.le_refl _) _⟩
      · obtain rfl := empty_of (x := x) (by omega)
        have HD : Hid (D = false) := by show D = false; rw [HI.out]; exact decide_eq_false (by omega)
        clear HI h2
        go_enter Tryd.func59, Tryd.ntmps59
        go_wp2
        go_ret2
        exact ⟨by rw [HD.out, SI.out]; first | rfl | (simp; omega), (Below.refl _ _).alloc (Nat.le_refl _) _⟩
    · have HD : Hid (D = false) := by show D = false; rw [HI.out]; exact decide_eq_false (by omega)
      have e1 : (f == 0) = false := by simpa using h1
      clear HI
      go_enter Tryd.func59, Tryd.ntmps59
      go_wp2
      go_ret2
      exact ⟨by rw [HD.out, SI.out]; first | rfl | (simp; omega), (Below.refl _ _).alloc (Nat.le_refl _) _⟩
  · replace HC := HC h0; replace SC := SC h0
    clear HI SI
    have e0 : (c == 0) = false := by simpa using h0
    by_cases h1 : 1 ≤ c
    · by_cases h2 : c ≤ 200
      · by_cases h3 : 0 ≤ f
        · by_cases h4 : x.size = 0
          · obtain rfl := empty_of h4
            have HD : Hid (D = true) := by show D = true; rw [HC.out]; exact decide_eq_true ⟨h1, h2, h3, rfl⟩
            clear HC h0
            go_enter Tryd.func59, Tryd.ntmps59
            go_wp2
            go_ret2
            exact ⟨by rw [HD.out, SC.out]; first | rfl | (simp; omega), (Below.refl _ _).alloc (Nat.le_refl _) _⟩
          · obtain ⟨n1, n2⟩ := some_of h4
            have HD : Hid (D = false) := by show D = false; rw [HC.out]; exact decide_eq_false (by omega)
            clear HC h0 h4
            go_enter Tryd.func59, Tryd.ntmps59
            go_wp2
            go_ret2
            exact ⟨by rw [HD.out, SC.out]; first | rfl | (simp; omega), (Below.refl _ _).alloc (Nat.le_refl _) _⟩
        · have HD : Hid (D = false) := by show D = false; rw [HC.out]; exact decide_eq_false (by omega)
          have h3 : f < 0 := by omega
          clear HC h0
          go_enter Tryd.func59, Tryd.ntmps59
          go_wp2
          go_ret2
          exact ⟨by rw [HD.out, SC.out]; first | rfl | (simp; omega), (Below.refl _ _).alloc (Nat.le_refl _) _⟩
      · have HD : Hid (D = false) := by show D = false; rw [HC.out]; exact decide_eq_false (by omega)
        have h2 : 200 < c := by omega
        clear HC h0
        go_enter Tryd.func59, Tryd.ntmps59
        go_wp2
        go_ret2
        exact ⟨by rw [HD.out, SC.out]; first | rfl | (simp; omega), (Below.refl _ _).alloc (Nat.le_refl _) _⟩
    · have HD : Hid (D = false) := by show D = false; rw [HC.out]; exact decide_eq_false (by omega)
      have h1 : c < 1 := by omega
      clear HC h0
      go_enter Tryd.func59, Tryd.ntmps59
      go_wp2
      go_ret2
      exact ⟨by rw [HD.out, SC.out]; first | rfl | (simp; omega), (Below.refl _ _).alloc (Nat.le_refl _) _⟩
end Go.Proofs.YtpgemeojhbeooaaDoor
