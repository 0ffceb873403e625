/-
  The encodings of steps; DeltaBytes of the program.
-/
import Derived.Test.YtpgemeojhbeooaaDoorProg
import Derived.KernelRfl
import Derived.Test.YtpgemeojhbeooaaDoorDlPart
import Derived.OwnWalk
import Derived.Deep.RegionHeld3
namespace Go.Proofs.YtpgemeojhbeooaaDoor
open Go.RowKit
open Bt (Dop dok)

set_option maxHeartbeats 2000000 in
set_option maxRecDepth 100000 in
theorem copying_enc (f c : Int) (w : World) (h1 : 0 ≤ f) (h2 : f ≤ 9223372036854775807) (h3 : 1 ≤ c) (h4 : c ≤ 200) :
    Calls Tryd.prog 99 #[.agg #[.int .i64 f, .int .i64 c]] w fun e w' => e = .returned (strV (Bt.putNum c ++ Bt.putNum f)) ∧ Below w.heap.size w w' := by
  have HP1 := Lib.hid (fun W => impl_putNum_any c W (by omega) (by omega))
  have HP2 := Lib.hid (fun W => impl_putNum_any f W (by omega) (by omega))
  have l1 := (Bt.putNum_length c).2; have l2 := (Bt.putNum_length f).2
  generalize Bt.putNum c = L1 at *
  generalize Bt.putNum f = L2 at *
  have hb0 : Below w.heap.size w (w.alloc (.cells #[.int .i64 f, .int .i64 c] 84)) := (Below.refl _ _).alloc (Nat.le_refl _) _
  have k0 := isBlk_new w 84 [.int .i64 f, .int .i64 c]
  change IsBlk (w.alloc (.cells #[.int .i64 f, .int .i64 c] 84)) _ _ _ at k0
  obtain ⟨d0, d1, -, -⟩ := blk2 k0
  have hgl := k0.lt
  have HB0 := Lib.hid hb0
  clear hb0 k0
  have HAS : Hid (∀ W : World, Calls Tryd.prog 39 #[.slice (some ⟨W.heap.size, 0, none⟩) 2 2] (W.alloc (.cells #[strV L1, strV L2] 9)) fun e w' => e = .returned (strV (L1 ++ L2)) ∧ Below W.heap.size W w') := fun W => by
    have h := assemble_any [bstr L1, bstr L2] W.heap.size 0 2 _ (parts_two W 9 _ _) (by simp) (by simp) (by rw [flat_two, bstr_list, bstr_list, List.length_append]; omega)
    rw [flat_two, bstr_list, bstr_list] at h
    exact h.mono fun e w' ⟨he, hb⟩ => ⟨he, ((Below.refl _ _).alloc (Nat.le_refl _) _).trans (hb.mono (by simp))⟩
  go_enter Tryd.func99, Tryd.ntmps99
  go_wp2_with fail
  generalize w.alloc (.cells #[.int .i64 f, .int .i64 c] 84) = W at *
  go_region_held3 (fun w' => w'.cell? ⟨w.heap.size, 0, none⟩ = some (.int .i64 f) ∧ w'.cell? ⟨w.heap.size, 1, none⟩ = some (.int .i64 c))
    (first | exact ⟨d0, d1⟩ | exact hs1 | exact hs2 | exact hs3 | go_keep)
    (first
      | (go_at_call 41
         with_reducible refine Calls.mono (HP1.out _) ?_
         rintro e wa ⟨rfl, hba⟩
         have hs1 : wa.cell? ⟨w.heap.size, 0, none⟩ = some (.int .i64 f) ∧ wa.cell? ⟨w.heap.size, 1, none⟩ = some (.int .i64 c) :=
           ⟨(hba.cell (p := ⟨w.heap.size, 0, none⟩) hgl).trans d0, (hba.cell (p := ⟨w.heap.size, 1, none⟩) hgl).trans d1⟩
         have HBa : Hid (Below w.heap.size w wa) := HB0.out.drew.trans (hba.mono HB0.out.size)
         have hgla : w.heap.size < wa.heap.size := Nat.lt_of_lt_of_le hgl hba.size
         clear hba)
      | (go_at_call 41
         with_reducible refine Calls.mono (HP2.out _) ?_
         rintro e wb ⟨rfl, hbb⟩
         have hs2 : wb.cell? ⟨w.heap.size, 0, none⟩ = some (.int .i64 f) ∧ wb.cell? ⟨w.heap.size, 1, none⟩ = some (.int .i64 c) :=
           ⟨(hbb.cell (p := ⟨w.heap.size, 0, none⟩) hgla).trans hs1.1, (hbb.cell (p := ⟨w.heap.size, 1, none⟩) hgla).trans hs1.2⟩
         have HBb : Hid (Below w.heap.size w wb) := HBa.out.trans (hbb.mono HBa.out.size)
         have hglb : w.heap.size < wb.heap.size := Nat.lt_of_lt_of_le hgla hbb.size
         clear hbb)
      | (go_at_call 39
         with_reducible refine Calls.mono (HAS.out _) ?_
         rintro e wd ⟨rfl, hbd⟩
         have hs3 : wd.cell? ⟨w.heap.size, 0, none⟩ = some (.int .i64 f) ∧ wd.cell? ⟨w.heap.size, 1, none⟩ = some (.int .i64 c) :=
           ⟨(hbd.cell (p := ⟨w.heap.size, 0, none⟩) hglb).trans hs2.1, (hbd.cell (p := ⟨w.heap.size, 1, none⟩) hglb).trans hs2.2⟩
         have HBd : Hid (Below w.heap.size w wd) := HBb.out.trans (hbd.mono HBb.out.size)
         clear hbd))
  all_goals
    go_wp2
    go_ret
    exact ⟨rfl, HBd.out⟩

set_option maxHeartbeats 2000000 in
set_option maxRecDepth 100000 in
theorem inserting_enc (x : ByteArray) (w : World) (hx : x.size ≤ 200) :
    Calls Tryd.prog 101 #[.agg #[.string x]] w fun e w' => e = .returned (strV (Bt.putNum 0 ++ Bt.putText x)) ∧ Below w.heap.size w w' := by
  have HP1 := Lib.hid (fun W => impl_putNum_any 0 W (by omega) (by omega))
  have HP2 := Lib.hid (fun W => impl_putText_any x W (by unfold maxLen; omega))
  have l1 := (Bt.putNum_length 0).2
  have l2 : (Bt.putText x).length ≤ 210 := by
    rw [Bt.putText_ok (by omega), List.length_append, len_list]; have := (Bt.putNum_length (x.size : Int)).2; omega
  generalize Bt.putNum 0 = L1 at *
  generalize Bt.putText x = L2 at *
  have hb0 : Below w.heap.size w (w.alloc (.cells #[.string x] 104)) := (Below.refl _ _).alloc (Nat.le_refl _) _
  have k0 := isBlk_new w 104 [.string x]
  change IsBlk (w.alloc (.cells #[.string x] 104)) _ _ _ at k0
  have d0 : (w.alloc (.cells #[.string x] 104)).cell? ⟨w.heap.size, 0, none⟩ = some (.string x) := k0.cell rfl
  have hgl := k0.lt
  have HB0 := Lib.hid hb0
  clear hb0 k0
  have HAS : Hid (∀ W : World, Calls Tryd.prog 39 #[.slice (some ⟨W.heap.size, 0, none⟩) 2 2] (W.alloc (.cells #[strV L1, strV L2] 9)) fun e w' => e = .returned (strV (L1 ++ L2)) ∧ Below W.heap.size W w') := fun W => by
    have h := assemble_any [bstr L1, bstr L2] W.heap.size 0 2 _ (parts_two W 9 _ _) (by simp) (by simp) (by rw [flat_two, bstr_list, bstr_list, List.length_append]; omega)
    rw [flat_two, bstr_list, bstr_list] at h
    exact h.mono fun e w' ⟨he, hb⟩ => ⟨he, ((Below.refl _ _).alloc (Nat.le_refl _) _).trans (hb.mono (by simp))⟩
  go_enter Tryd.func101, Tryd.ntmps101
  go_wp2_with fail
  generalize w.alloc (.cells #[.string x] 104) = W at *
  go_region_held3 (fun w' => w'.cell? ⟨w.heap.size, 0, none⟩ = some (.string x))
    (first | exact d0 | exact hs1 | exact hs2 | exact hs3 | go_keep)
    (first
      | (go_at_call 41
         with_reducible refine Calls.mono (HP1.out _) ?_
         rintro e wa ⟨rfl, hba⟩
         have hs1 : wa.cell? ⟨w.heap.size, 0, none⟩ = some (.string x) := (hba.cell (p := ⟨w.heap.size, 0, none⟩) hgl).trans d0
         have HBa : Hid (Below w.heap.size w wa) := HB0.out.drew.trans (hba.mono HB0.out.size)
         have hgla : w.heap.size < wa.heap.size := Nat.lt_of_lt_of_le hgl hba.size
         clear hba)
      | (go_at_call 103
         with_reducible refine Calls.mono (HP2.out _) ?_
         rintro e wb ⟨rfl, hbb⟩
         have hs2 : wb.cell? ⟨w.heap.size, 0, none⟩ = some (.string x) := (hbb.cell (p := ⟨w.heap.size, 0, none⟩) hgla).trans hs1
         have HBb : Hid (Below w.heap.size w wb) := HBa.out.trans (hbb.mono HBa.out.size)
         have hglb : w.heap.size < wb.heap.size := Nat.lt_of_lt_of_le hgla hbb.size
         clear hbb)
      | (go_at_call 39
         with_reducible refine Calls.mono (HAS.out _) ?_
         rintro e wd ⟨rfl, hbd⟩
         have hs3 : wd.cell? ⟨w.heap.size, 0, none⟩ = some (.string x) := (hbd.cell (p := ⟨w.heap.size, 0, none⟩) hglb).trans hs2
         have HBd : Hid (Below w.heap.size w wd) := HBb.out.trans (hbd.mono HBb.out.size)
         clear hbd))
  all_goals
    go_wp2
    go_ret
    exact ⟨rfl, HBd.out⟩

theorem meth_enc_cp (v : Value) (w : World) : (Go.method 273 84 v "loop.example/g00637/impl.encoding").run Tryd.prog w = .ok (99, v) w := by kernel_rfl
theorem meth_enc_ins (v : Value) (w : World) : (Go.method 273 104 v "loop.example/g00637/impl.encoding").run Tryd.prog w = .ok (101, v) w := by kernel_rfl
/-- a step's encoding, whichever it is -/
theorem step_enc (o : Dop) (hd : dok o = true) (hf : o.f ≤ 9223372036854775807) :
    (∃ y, stepV o = .iface 104 y ∧ ∀ w, Calls Tryd.prog 101 #[y] w fun e w' => e = .returned (strV o.enc) ∧ Below w.heap.size w w') ∨
    (∃ y, stepV o = .iface 84 y ∧ ∀ w, Calls Tryd.prog 99 #[y] w fun e w' => e = .returned (strV o.enc) ∧ Below w.heap.size w w') := by
  rcases Bt.ok_cases hd with ⟨h0, h1, h2, h3⟩ | ⟨h1, h2, h3, h4⟩
  · refine .inl ⟨_, stepV_ins h0, fun w => ?_⟩
    rw [Bt.enc_ins h0]; exact inserting_enc o.x w h3
  · refine .inr ⟨_, stepV_cp (by omega), fun w => ?_⟩
    rw [Bt.enc_cp (by omega)]; exact copying_enc o.f o.c w h3 hf h1 h2
end Go.Proofs.YtpgemeojhbeooaaDoor
