/-
  DERIVED. GIVEN WITH THE SEED: THE CARDS: each row of YtkiklcdkliebaaaGreatDoorRows.lean that lists a variable, with what it lists TIED to the program's text (the seventh form; the later family's looks); each row that meets fmt, with fmt's text TOLD by the authors' own Lean function (tested against real Go, not proved from fmt's source: count such statements apart). THE CARD IS WHAT COUNTS. Prove the row's statement (the work); the ties are given (YtkiklcdkliebaaaGreatDoorTie.lean); close each card by the builder's one call (the guide's Derived/Test/ToyasCard.lean, 'card_holds'). Laid BY PROGRAM, IN A SANDBOX (cutbox-door.mjs). By AI agents, Wed Nov 11 2026. No macro, syntax, notation, axiom, sorry.
-/
import Derived.Test.YtkiklcdkliebaaaGreatDoorRows
import GoSem.ClaimSeven
namespace Go.Proofs.YtkiklcdkliebaaaGreatDoor
namespace Rows

/-- THE TIED CARD OF 'laws.FnExactMount'. -/
def fnExactMountCard : Claim7 := { stood := { row := fnExactMountRow, standIns := [], harness := (true, "9cab9cf8a0254c60a8274e6a32b1e497f89dd31cb751e38eeae04f558ac8dae3"), looks := true }, kinds := [], alts := [], laidByText := true, laidKinds := [.handle, .sentinel, .sentinel, .sentinel], laidTests := true, laidLooks := .later }
def FnExactMountCardSaid : Prop := Claim7.holds Tryz.pinned (.plain (OpenSpec.ofChange fnExactMountSpec)) fnExactMountCard

/-- THE TIED CARD OF 'laws.FnExactLoad'. -/
def fnExactLoadCard : Claim7 := { stood := { row := fnExactLoadRow, standIns := [], harness := (true, "9cab9cf8a0254c60a8274e6a32b1e497f89dd31cb751e38eeae04f558ac8dae3"), looks := true }, kinds := [], alts := [], laidByText := true, laidKinds := [.handle, .sentinel, .sentinel], laidTests := true, laidLooks := .later }
def FnExactLoadCardSaid : Prop := Claim7.holds Tryz.pinned (.plain (OpenSpec.ofChange fnExactLoadSpec)) fnExactLoadCard

/-- THE TIED CARD OF 'laws.FnExactVictim'. -/
def fnExactVictimCard : Claim7 := { stood := { row := fnExactVictimRow, standIns := [], harness := (true, "9cab9cf8a0254c60a8274e6a32b1e497f89dd31cb751e38eeae04f558ac8dae3"), looks := true }, kinds := [], alts := [], laidByText := true, laidKinds := [.handle, .sentinel, .sentinel], laidTests := true, laidLooks := .later }
def FnExactVictimCardSaid : Prop := Claim7.holds Tryz.pinned (.plain (OpenSpec.ofChange fnExactVictimSpec)) fnExactVictimCard

/-- THE TIED CARD OF 'laws.FnExactGc'. -/
def fnExactGcCard : Claim7 := { stood := { row := fnExactGcRow, standIns := [], harness := (true, "9cab9cf8a0254c60a8274e6a32b1e497f89dd31cb751e38eeae04f558ac8dae3"), looks := true }, kinds := [], alts := [], laidByText := true, laidKinds := [.handle, .sentinel, .sentinel, .sentinel], laidTests := true, laidLooks := .later }
def FnExactGcCardSaid : Prop := Claim7.holds Tryz.pinned (.plain (OpenSpec.ofChange fnExactGcSpec)) fnExactGcCard

/-- THE TIED CARD OF 'laws.FnExactRoom'. -/
def fnExactRoomCard : Claim7 := { stood := { row := fnExactRoomRow, standIns := [], harness := (true, "9cab9cf8a0254c60a8274e6a32b1e497f89dd31cb751e38eeae04f558ac8dae3"), looks := true }, kinds := [], alts := [], laidByText := true, laidKinds := [.handle, .sentinel, .sentinel], laidTests := true, laidLooks := .later }
def FnExactRoomCardSaid : Prop := Claim7.holds Tryz.pinned (.plain (OpenSpec.ofChange fnExactRoomSpec)) fnExactRoomCard

/-- THE SECOND FORM's CARD OF 'laws.FnExactMount'. -/
def fnExactMountUptoCard : Claim7 := { stood := { row := fnExactMountUptoRow, standIns := [], harness := (true, "9cab9cf8a0254c60a8274e6a32b1e497f89dd31cb751e38eeae04f558ac8dae3"), looks := true }, kinds := [], alts := [], laidByText := true, laidKinds := [.handle, .sentinel, .sentinel, .sentinel], laidTests := true, laidLooks := .later }
def FnExactMountUptoCardSaid : Prop := Claim7.holds Tryz.pinned (.plain (OpenSpec.upto fnExactMountSpec)) fnExactMountUptoCard

/-- THE SECOND FORM's CARD OF 'laws.FnExactLoad'. -/
def fnExactLoadUptoCard : Claim7 := { stood := { row := fnExactLoadUptoRow, standIns := [], harness := (true, "9cab9cf8a0254c60a8274e6a32b1e497f89dd31cb751e38eeae04f558ac8dae3"), looks := true }, kinds := [], alts := [], laidByText := true, laidKinds := [.handle, .sentinel, .sentinel], laidTests := true, laidLooks := .later }
def FnExactLoadUptoCardSaid : Prop := Claim7.holds Tryz.pinned (.plain (OpenSpec.upto fnExactLoadSpec)) fnExactLoadUptoCard

/-- THE SECOND FORM's CARD OF 'laws.FnExactVictim'. -/
def fnExactVictimUptoCard : Claim7 := { stood := { row := fnExactVictimUptoRow, standIns := [], harness := (true, "9cab9cf8a0254c60a8274e6a32b1e497f89dd31cb751e38eeae04f558ac8dae3"), looks := true }, kinds := [], alts := [], laidByText := true, laidKinds := [.handle, .sentinel, .sentinel], laidTests := true, laidLooks := .later }
def FnExactVictimUptoCardSaid : Prop := Claim7.holds Tryz.pinned (.plain (OpenSpec.upto fnExactVictimSpec)) fnExactVictimUptoCard

/-- THE SECOND FORM's CARD OF 'laws.FnExactGc'. -/
def fnExactGcUptoCard : Claim7 := { stood := { row := fnExactGcUptoRow, standIns := [], harness := (true, "9cab9cf8a0254c60a8274e6a32b1e497f89dd31cb751e38eeae04f558ac8dae3"), looks := true }, kinds := [], alts := [], laidByText := true, laidKinds := [.handle, .sentinel, .sentinel, .sentinel], laidTests := true, laidLooks := .later }
def FnExactGcUptoCardSaid : Prop := Claim7.holds Tryz.pinned (.plain (OpenSpec.upto fnExactGcSpec)) fnExactGcUptoCard

/-- THE SECOND FORM's CARD OF 'laws.FnExactRoom'. -/
def fnExactRoomUptoCard : Claim7 := { stood := { row := fnExactRoomUptoRow, standIns := [], harness := (true, "9cab9cf8a0254c60a8274e6a32b1e497f89dd31cb751e38eeae04f558ac8dae3"), looks := true }, kinds := [], alts := [], laidByText := true, laidKinds := [.handle, .sentinel, .sentinel], laidTests := true, laidLooks := .later }
def FnExactRoomUptoCardSaid : Prop := Claim7.holds Tryz.pinned (.plain (OpenSpec.upto fnExactRoomSpec)) fnExactRoomUptoCard
end Rows
end Go.Proofs.YtkiklcdkliebaaaGreatDoor
