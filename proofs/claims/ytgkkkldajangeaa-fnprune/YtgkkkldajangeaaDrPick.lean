/-
  A draw of one of some texts.
-/
import Derived.Test.YtgkkkldajangeaaDrMore
import Derived.Test.YtgkkkldajangeaaRcRight
import Derived.Deep.RegionHeld3
import Derived.Deep.RegionLaw
import Derived.Deep.DeepCutAuto
import Derived.Deep.CutBlock
namespace Go.Proofs.Ytgkkkldajangeaa
open Go.RowKit
open Bt (Rc)

theorem pick_at {a b c d : ByteArray} (ha : a.size ≤ 5) (hb : b.size ≤ 5) (hc : c.size ≤ 5) (hd : d.size ≤ 5) : (r : Nat) → r < 4 → ∃ t : ByteArray, t.size ≤ 5 ∧ [Value.string a, .string b, .string c, .string d][r]? = some (.string t)
  | 0, _ => ⟨a, ha, rfl⟩
  | 1, _ => ⟨b, hb, rfl⟩
  | 2, _ => ⟨c, hc, rfl⟩
  | 3, _ => ⟨d, hd, rfl⟩
  | r + 4, h => absurd h (by omega)
set_option maxRecDepth 100000 in
theorem draw_pick (s g : Nat) (a b c d : ByteArray) (w : World) (hS : Src w s) (hg : s ≠ g) (hk : IsBlk w g 9 [.string a, .string b, .string c, .string d]) (ha : a.size ≤ 5) (hb : b.size ≤ 5) (hc : c.size ≤ 5) (hd : d.size ≤ 5) :
    Calls Try.prog 78 #[.pointer (some ⟨s, 0, none⟩), .slice (some ⟨g, 0, none⟩) 4 4] w (fun e w' => ∃ t : ByteArray, e = .returned (.string t) ∧ t.size ≤ 5 ∧ Src w' s ∧ Btw s (s + 1) w w') := by
  have HS := Lib.hid hS; have HK := Lib.hid hk; clear hS hk
  have hsl := HS.out.lt
  go_enter Try.func78, Try.ntmps78
  go_wp2_with fail
  refine (draw_n s 4 w (by omega) HS.out).mono ?_
  rintro e w1 ⟨r, rfl, hr, hS1, hb1⟩
  have hr := hr (by omega)
  obtain ⟨t, ht, hz3⟩ := pick_at ha hb hc hd r (by omega)
  have hk1 : IsBlk w1 g 9 [.string a, .string b, .string c, .string d] := (hb1.block _ HK.out.lt (by omega)).trans HK.out
  have cz : w1.cell? ⟨g, r, none⟩ = some (.string t) := hk1.cell hz3
  have HS1 := Lib.hid hS1; have HB1 := Lib.hid hb1; clear hS1 hb1 hk1 hz3
  go_wp2
  go_ret
  exact ⟨_, rfl, ht, HS1.out, HB1.out⟩

end Go.Proofs.Ytgkkkldajangeaa
