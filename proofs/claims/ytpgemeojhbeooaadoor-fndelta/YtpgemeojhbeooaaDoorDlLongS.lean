/-
  The longest match, of the model.
-/
import Derived.Test.YtpgemeojhbeooaaDoorProg
import Derived.KernelRfl
import Derived.Test.YtpgemeojhbeooaaDoorDlMatch
import Derived.IntWalk
namespace Go.Proofs.YtpgemeojhbeooaaDoor
open Go.RowKit

theorem idx_at (s : ByteArray) (k c : Nat) (h : k + c < s.size) (W : World) : (Instr.index 9 (.string s) (.int .i64 ((k : Int) + (c : Int)))).run Tryd.prog W = .ok (.int .u8 (s[k + c].toNat : Int)) W := by
  rw [run_index_string W _ s _ _ Tryd.underlying9, dif_pos ⟨by omega, by omega⟩]
  have e : ((k : Int) + (c : Int)).toNat = k + c := by omega
  simp [e]

set_option maxHeartbeats 4000000 in
set_option maxRecDepth 100000 in
theorem l09Longest_any (base text : ByteArray) (at_ : Nat) (w : World) (hb : base.size ≤ 200) (ht : text.size ≤ 200) (hat : at_ ≤ text.size) :
    Calls Tryd.prog 27 #[.string base, .string text, .int .i64 (at_ : Nat)] w fun e w' => e = .returned (.tuple #[.int .i64 (((Bt.lg base.data.toList (text.data.toList.drop at_)).1 : Nat) : Int), .int .i64 (((Bt.lg base.data.toList (text.data.toList.drop at_)).2 : Nat) : Int)]) ∧ Below w.heap.size w w' := by
  obtain ⟨B, hB⟩ : ∃ B, B = base.data.toList := ⟨_, rfl⟩
  obtain ⟨X, hX⟩ : ∃ X, X = text.data.toList.drop at_ := ⟨_, rfl⟩
  rw [← hB, ← hX]
  have HBL : Hid (B.length = base.size) := by show _ = _; rw [hB]; rfl
  have HXL : Hid (X.length = text.size - at_) := by show _ = _; rw [hX, List.length_drop]; rfl
  have HBG : Hid (∀ k c (h : k + c < base.size) (h' : c < (B.drop k).length), (B.drop k)[c] = base[k + c]) := by intro k c h h'; subst hB; simp [ByteArray.getElem_eq_getElem_data]
  have HXG : Hid (∀ c (h : at_ + c < text.size) (h' : c < X.length), X[c] = text[at_ + c]) := by intro c h h'; subst hX; simp [ByteArray.getElem_eq_getElem_data]
  clear hB hX
  go_enter Tryd.func27, Tryd.ntmps27
  go_wp2
  go_loopw [8, 9, 10] (fun f l i wr => ∃ (k : Nat), k ≤ base.size ∧ i = .int .i64 (k : Nat) ∧ f = .int .i64 (((Bt.lgTo B X k).1 : Nat) : Int) ∧ l = .int .i64 (((Bt.lgTo B X k).2 : Nat) : Int) ∧ Hid (Below w.heap.size w wr)) (fun _ _ i wr => base.size - (intOf i).toNat)
  case atStart => exact ⟨0, Nat.zero_le _, rfl, rfl, rfl, Below.refl _ _⟩
  case round =>
    obtain ⟨k, hk, rfl, rfl, rfl, HW⟩ := hrel
    by_cases hlt : k < base.size
    · have HY := fun h => Lib.hid (Bt.lgTo_yes (base := B) (x := X) (k := k) h)
      have HN := fun h => Lib.hid (Bt.lgTo_no (base := B) (x := X) (k := k) h)
      have hle := (Bt.lgTo_le B X k (by have := HBL.out; omega)).2
      have hxl : X.length ≤ 200 := by have := HXL.out; omega
      generalize hL : Bt.lgTo B X k = L at *
      have HLL := Lib.hid hL; clear hL
      obtain ⟨l1, l2⟩ := L
      simp only at HY HN hle ⊢
      go_wp2
      go_loopw [11] (fun i wr => ∃ (c : Nat), Hid (c ≤ Bt.pre (B.drop k) X) ∧ i = .int .i64 (c : Nat) ∧ Hid (Below w.heap.size w wr)) (fun i wr => base.size - (intOf i).toNat)
      case atStart => exact ⟨0, Nat.zero_le _, rfl, HW⟩
      case round =>
        clear HW
        obtain ⟨c, HC, rfl, HW⟩ := hrel
        have hpl := Bt.pre_le (B.drop k) X
        rw [List.length_drop] at hpl
        have hkc : k + c ≤ base.size := by have := HC.out; have := HBL.out; omega
        have hac : at_ + c ≤ text.size := by have := HC.out; have := HXL.out; omega
        have HSTEP := fun x y z => Lib.hid (Bt.pre_step c (B.drop k) X HC.out x y z)
        have HSTOP := fun x => Lib.hid (Bt.pre_stop c (B.drop k) X HC.out x)
        clear hpl
        by_cases h1 : k + c < base.size
        · by_cases h2 : at_ + c < text.size
          · have ha1 : c < (B.drop k).length := by rw [List.length_drop]; have := HBL.out; omega
            have ha2 : c < X.length := by have := HXL.out; omega
            have g1 := HBG.out k c h1 ha1
            have g2 := HXG.out c h2 ha2
            have hq := byteV_eq (a := base[k + c]) (b := text[at_ + c])
            have hw1 : IntKind.i64.wrap ((k : Int) + (c : Int)) = (k : Int) + (c : Int) := IntWalk.i64_in _ (by omega)
            have hw2 : IntKind.i64.wrap ((at_ : Int) + (c : Int)) = (at_ : Int) + (c : Int) := IntWalk.i64_in _ (by omega)
            have hd1 : decide ((k : Int) + (c : Int) < (base.size : Int)) = true := decide_eq_true (by omega)
            have hd2 : decide ((at_ : Int) + (c : Int) < (text.size : Int)) = true := decide_eq_true (by omega)
            have hi1 := idx_at base k c h1
            have hi2 := idx_at text at_ c h2
            by_cases he : (B.drop k)[c] = X[c]
            · have HS := HSTEP ha1 ha2 he
              rw [decide_eq_true (by rw [← g1, ← g2]; exact he)] at hq
              clear HSTEP HSTOP
              go_wp2
              refine wp_region_quiet_below (by kernel_rfl) (by kernel_rfl) ?_
              repeat (go_big_quiet_step (fail))
              refine wpQuiet_nil ?_
              intro w2 hw'
              have hb2 : Below wr.heap.size wr w2 := by obtain ⟨⟨dq, osq⟩, rfl⟩ := hw'; exact below_regrown wr dq osq
              clear hw'
              have HB2 := Lib.hid (HW.out.trans (hb2.mono HW.out.size))
              clear hb2
              clear hw1 hw2
              go_wp2
              go_roundw
              case rel => exact ⟨c + 1, HS, by go_num, HB2⟩
              case measure => simp [intOf]; omega
            · have HS := HSTOP (fun _ _ => he)
              rw [decide_eq_false (by rw [← g1, ← g2]; exact he)] at hq
              clear HSTEP HSTOP
              go_wp2
              refine wp_region_quiet_below (by kernel_rfl) (by kernel_rfl) ?_
              repeat (go_big_quiet_step (fail))
              refine wpQuiet_nil ?_
              intro w2 hw'
              have hb2 : Below wr.heap.size wr w2 := by obtain ⟨⟨dq, osq⟩, rfl⟩ := hw'; exact below_regrown wr dq osq
              clear hw'
              have HB2 := Lib.hid (HW.out.trans (hb2.mono HW.out.size))
              clear hb2
              clear hw1 hw2
              by_cases hc : l2 < c
              · have hc2 : l2 < Bt.pre (B.drop k) X := by rw [HS.out]; exact hc
                have HSY := HY hc2
                clear HY HN hc2
                go_wp2
                go_roundw
                case rel => exact ⟨k + 1, by omega, by go_num, by rw [HSY.out], by rw [HSY.out, HS.out], HB2⟩
                case measure => simp [intOf]; omega
              · have hc2 : ¬ l2 < Bt.pre (B.drop k) X := by rw [HS.out]; exact hc
                have HSN := HN hc2
                have hc' : c ≤ l2 := by omega
                clear HY HN hc2
                go_wp2
                go_roundw
                case rel => exact ⟨k + 1, by omega, by go_num, by rw [HSN.out], by rw [HSN.out], HB2⟩
                case measure => simp [intOf]; omega
          · have HS := HSTOP (fun _ h => absurd h (by have := HXL.out; omega))
            have hw1 : IntKind.i64.wrap ((k : Int) + (c : Int)) = (k : Int) + (c : Int) := IntWalk.i64_in _ (by omega)
            have hw2 : IntKind.i64.wrap ((at_ : Int) + (c : Int)) = (at_ : Int) + (c : Int) := IntWalk.i64_in _ (by omega)
            have hd1 : decide ((k : Int) + (c : Int) < (base.size : Int)) = true := decide_eq_true (by omega)
            have hd2 : decide ((at_ : Int) + (c : Int) < (text.size : Int)) = false := decide_eq_false (by omega)
            clear HSTEP HSTOP
            go_wp2
            refine wp_region_quiet_below (by kernel_rfl) (by kernel_rfl) ?_
            repeat (go_big_quiet_step (fail))
            refine wpQuiet_nil ?_
            intro w2 hw'
            have hb2 : Below wr.heap.size wr w2 := by obtain ⟨⟨dq, osq⟩, rfl⟩ := hw'; exact below_regrown wr dq osq
            clear hw'
            have HB2 := Lib.hid (HW.out.trans (hb2.mono HW.out.size))
            clear hb2
            clear hw1 hw2
            by_cases hc : l2 < c
            · have hc2 : l2 < Bt.pre (B.drop k) X := by rw [HS.out]; exact hc
              have HSY := HY hc2
              clear HY HN hc2
              go_wp2
              go_roundw
              case rel => exact ⟨k + 1, by omega, by go_num, by rw [HSY.out], by rw [HSY.out, HS.out], HB2⟩
              case measure => simp [intOf]; omega
            · have hc2 : ¬ l2 < Bt.pre (B.drop k) X := by rw [HS.out]; exact hc
              have HSN := HN hc2
              have hc' : c ≤ l2 := by omega
              clear HY HN hc2
              go_wp2
              go_roundw
              case rel => exact ⟨k + 1, by omega, by go_num, by rw [HSN.out], by rw [HSN.out], HB2⟩
              case measure => simp [intOf]; omega
        · have HS := HSTOP (fun h _ => absurd h (by rw [List.length_drop]; have := HBL.out; omega))
          have hw1 : IntKind.i64.wrap ((k : Int) + (c : Int)) = (k : Int) + (c : Int) := IntWalk.i64_in _ (by omega)
          have hd1 : decide ((k : Int) + (c : Int) < (base.size : Int)) = false := decide_eq_false (by omega)
          clear HSTEP HSTOP
          go_wp2
          refine wp_region_quiet_below (by kernel_rfl) (by kernel_rfl) ?_
          repeat (go_big_quiet_step (fail))
          refine wpQuiet_nil ?_
          intro w2 hw'
          have hb2 : Below wr.heap.size wr w2 := by obtain ⟨⟨dq, osq⟩, rfl⟩ := hw'; exact below_regrown wr dq osq
          clear hw'
          have HB2 := Lib.hid (HW.out.trans (hb2.mono HW.out.size))
          clear hb2
          clear hw1
          by_cases hc : l2 < c
          · have hc2 : l2 < Bt.pre (B.drop k) X := by rw [HS.out]; exact hc
            have HSY := HY hc2
            clear HY HN hc2
            go_wp2
            go_roundw
            case rel => exact ⟨k + 1, by omega, by go_num, by rw [HSY.out], by rw [HSY.out, HS.out], HB2⟩
            case measure => simp [intOf]; omega
          · have hc2 : ¬ l2 < Bt.pre (B.drop k) X := by rw [HS.out]; exact hc
            have HSN := HN hc2
            have hc' : c ≤ l2 := by omega
            clear HY HN hc2
            go_wp2
            go_roundw
            case rel => exact ⟨k + 1, by omega, by go_num, by rw [HSN.out], by rw [HSN.out], HB2⟩
            case measure => simp [intOf]; omega
    · obtain rfl : k = base.size := by omega
      have HE : Hid (Bt.lgTo B X base.size = Bt.lg B X) := by show _ = _; unfold Bt.lg; rw [HBL.out]
      rw [HE.out]
      go_wp2
      go_ret2
      exact ⟨rfl, HW.out⟩
end Go.Proofs.YtpgemeojhbeooaaDoor
