/-
  A record is decoded from its encoding, which fits a page (plain mathematics). No condition.
-/
import Derived.Test.YtloaeglmngcenaaGreatDoorRcPure
namespace Go.Proofs.YtloaeglmngcenaaGreatDoor.Bt

theorem vput_three {u : Nat} (h : u < 2097152) : (vput 9 u).length ≤ 3 := by
  by_cases h1 : u < 128
  · rw [vput_small h1]; simp
  · rw [vput_big h1]
    by_cases h2 : u / 128 < 128
    · rw [vput_small h2]; simp
    · rw [vput_big h2, vput_small (by omega)]; simp
theorem putNum_three {n : Int} (h0 : 0 ≤ n) (h1 : n ≤ 1000000) : (putNum n).length ≤ 3 := by
  refine vput_three ?_
  unfold zig; split <;> omega
theorem Rc.bytes_short {r : Rc} (h : r.Ok) : r.bytes.length ≤ 40 := by
  have hbl := Rc.body_length h
  have ho := h
  obtain ⟨h1, h2, h3, h4, h5, h6, h7, h8, h9, h10, h11, -⟩ := h
  rw [Rc.bytes_ok ho, seal_ok (by rw [bstr_size]; omega), bstr_list, List.length_append, sum_length]
  have p1 := putNum_three (n := r.k) (by omega) (by omega)
  have p2 := putNum_three (n := r.s) (by omega) (by omega)
  have p3 := putNum_three (n := r.q) (by omega) (by omega)
  have p4 := putNum_three (n := r.t) (by omega) (by omega)
  have p5 := putNum_three (n := r.o) (by omega) (by omega)
  have p6 := putNum_three (n := (r.d.size : Int)) (by omega) (by omega)
  have hl : r.d.data.toList.length = r.d.size := rfl
  simp only [Rc.body, putText_ok (show ¬ 8000 < r.d.size by omega), List.length_append, hl]
  omega
theorem opened_sealed {s : ByteArray} (h : ¬ 7996 < s.size) : opened (bstr (sealed s)) = (s.data.toList, 0) := by
  have hsz : (bstr (sealed s)).size = s.size + 4 := by rw [bstr_size, seal_ok h, List.length_append, sum_length]; rfl
  have hl : s.data.toList.length = s.size := rfl
  have ht : (bstr (sealed s)).data.toList.take ((bstr (sealed s)).size - 4) = s.data.toList := by
    rw [hsz, bstr_list, seal_ok h, Nat.add_sub_cancel, ← hl, List.take_left]
  have hd : (bstr (sealed s)).data.toList.drop ((bstr (sealed s)).size - 4) = sum s.data.toList := by
    rw [hsz, bstr_list, seal_ok h, Nat.add_sub_cancel, ← hl, List.drop_left]
  rw [opened_ok (by omega) (by omega) (by rw [ht, hd]), ht]

/-- where the reader stands behind k numbers of a record's own encoding -/
def Rc.val (r : Rc) (k : Nat) : Int := match k with | 0 => r.k | 1 => r.s | 2 => r.q | 3 => r.t | _ => r.o
def Rc.head (r : Rc) : Nat → List UInt8
  | 0 => []
  | k + 1 => r.head k ++ putNum (r.val k)
theorem Rc.head_body (r : Rc) : r.head 5 ++ putText r.d = r.body := by simp [Rc.head, Rc.val, Rc.body, List.append_assoc]
theorem Rc.head_split (r : Rc) {k : Nat} (hk : k < 5) : ∃ rest, r.body = r.head k ++ (putNum (r.val k) ++ rest) := by
  match k, hk with
  | 0, _ => exact ⟨putNum r.s ++ (putNum r.q ++ (putNum r.t ++ (putNum r.o ++ putText r.d))), by simp [Rc.head, Rc.val, Rc.body]⟩
  | 1, _ => exact ⟨putNum r.q ++ (putNum r.t ++ (putNum r.o ++ putText r.d)), by simp [Rc.head, Rc.val, Rc.body]⟩
  | 2, _ => exact ⟨putNum r.t ++ (putNum r.o ++ putText r.d), by simp [Rc.head, Rc.val, Rc.body]⟩
  | 3, _ => exact ⟨putNum r.o ++ putText r.d, by simp [Rc.head, Rc.val, Rc.body]⟩
  | 4, _ => exact ⟨putText r.d, by simp [Rc.head, Rc.val, Rc.body]⟩
theorem Rc.val_small {r : Rc} (h : r.Ok) (k : Nat) : -9223372036854775808 ≤ r.val k ∧ r.val k ≤ 9223372036854775807 := by
  obtain ⟨h1, h2, h3, h4, h5, h6, h7, h8, h9, h10, -⟩ := h
  unfold Rc.val
  split <;> omega
theorem rdAt_own {r : Rc} (h : r.Ok) : ∀ k, k ≤ 5 → rdAt (bstr r.body) k = ((((r.head k).length : Nat) : Int), false) ∧ ∀ j, j < k → rdVal (bstr r.body) j = r.val j
  | 0, _ => ⟨rfl, fun j hj => absurd hj (by omega)⟩
  | k + 1, hk => by
    obtain ⟨ih, iv⟩ := rdAt_own h k (by omega)
    have hbl := Rc.body_length h
    obtain ⟨rest, hr⟩ := r.head_split (show k < 5 by omega)
    have hg : getNum (bstr r.body) (((r.head k).length : Nat) : Int) = (r.val k, (((r.head k).length + (putNum (r.val k)).length : Nat) : Int), 0) :=
      getNum_put (by rw [bstr_size]; omega) (Rc.val_small h k).1 (Rc.val_small h k).2 ⟨rest, by rw [bstr_list, hr, List.drop_left]⟩
    have hc : ¬ ((rdAt (bstr r.body) k).2 = true ∨ (getNum (bstr r.body) (rdAt (bstr r.body) k).1).2.2 ≠ 0) := by rw [ih, hg]; simp
    refine ⟨?_, fun j hj => ?_⟩
    · rw [rdAt, rdNum_ok hc, ih, hg]; simp [Rc.head]
    · by_cases e : j = k
      · subst e; rw [rdVal, rdNum_ok hc, ih, hg]
      · exact iv j (by omega)
/-- a record is decoded from its encoding -/
theorem recRead_bytes {r : Rc} (h : r.Ok) : recRead (bstr r.bytes) = (r, 0) := by
  have hbl := Rc.body_length h
  have hop : opened (bstr r.bytes) = (r.body, 0) := by
    rw [Rc.bytes_ok h, opened_sealed (by rw [bstr_size]; omega), bstr_list]
  obtain ⟨h5, hv⟩ := rdAt_own h 5 (by omega)
  have hd : r.d.size ≤ 16 := h.2.2.2.2.2.2.2.2.2.2.1
  have hg : getText (bstr r.body) (((r.head 5).length : Nat) : Int) = (r.d.data.toList, (((r.head 5).length + (putText r.d).length : Nat) : Int), 0) :=
    getText_put (by rw [bstr_size]; omega) (by omega) ⟨[], by rw [bstr_list, ← r.head_body, List.drop_left, List.append_nil]⟩
  have hc : ¬ ((rdAt (bstr r.body) 5).2 = true ∨ (getText (bstr r.body) (rdAt (bstr r.body) 5).1).2.2 ≠ 0) := by rw [h5, hg]; simp
  have he : rdEnd (bstr r.body) = (r.d.data.toList, ((((r.head 5).length + (putText r.d).length : Nat) : Int), false)) := by rw [rdEnd, rdText_ok hc, h5, hg]
  have hrec : rdRec (bstr r.body) = r := by
    unfold rdRec
    rw [hv 0 (by omega), hv 1 (by omega), hv 2 (by omega), hv 3 (by omega), hv 4 (by omega), he, bstr_of]
    rfl
  rw [recRead_ok (by rw [hop]; simp)]
  · rw [hop]; simp only; rw [hrec]
  · rw [hop]; simp only
    refine ⟨by rw [he], ?_, by rw [hrec]; exact h⟩
    rw [he, bstr_size, ← r.head_body, List.length_append]
/-- an accepted text is the encoding of its record -/
theorem recRead_back {t : ByteArray} (h : (recRead t).2 = 0) : (recRead t).1.bytes = t.data.toList := by
  by_cases h1 : (opened t).2 ≠ 0
  · rw [recRead_code h1] at h; exact absurd h h1
  by_cases h2 : (rdEnd (bstr (opened t).1)).2.2 = false ∧ (rdEnd (bstr (opened t).1)).2.1 = ((bstr (opened t).1).size : Int) ∧ (rdRec (bstr (opened t).1)).Ok
  · rw [recRead_ok h1 h2]
    exact (ends_iff (by simpa using h1) h2.1).2 h2.2
  · rw [recRead_bad h1 h2] at h; cases h
end Go.Proofs.YtloaeglmngcenaaGreatDoor.Bt
