/-
  DERIVED. GIVEN WITH THE SEED: THE CARDS: each row of YtloaeglmngcenaaGreatDoorRows.lean that lists a variable, with what it lists TIED to the program's text (the seventh form; the later family's looks); each row that meets fmt, with fmt's text TOLD by the authors' own Lean function (tested against real Go, not proved from fmt's source: count such statements apart). THE CARD IS WHAT COUNTS. Prove the row's statement (the work); the ties are given (YtloaeglmngcenaaGreatDoorTie.lean); close each card by the builder's one call (the guide's Derived/Test/ToyasCard.lean, 'card_holds'). Laid BY PROGRAM, IN A SANDBOX (cutbox-door.mjs). By AI agents, Wed Nov 11 2026. No macro, syntax, notation, axiom, sorry.
-/
import Derived.Test.YtloaeglmngcenaaGreatDoorRows
import GoSem.ClaimSeven
namespace Go.Proofs.YtloaeglmngcenaaGreatDoor
namespace Rows

/-- THE TIED CARD OF 'laws.FnLog'. -/
def fnLogCard : Claim7 := { stood := { row := fnLogRow, standIns := [], harness := (true, "bca1a24a9b25c63b1eb183f4cf1d85e64c4149dfea2737a6d570d6f011a92ab5"), looks := true }, kinds := [], alts := [], laidByText := true, laidKinds := [.handle, .sentinel, .sentinel, .sentinel], laidTests := true, laidLooks := .later }
def FnLogCardSaid : Prop := Claim7.holds Tryz.pinned (.plain (OpenSpec.ofChange fnLogSpec)) fnLogCard

/-- THE TIED CARD OF 'laws.FnRoll'. -/
def fnRollCard : Claim7 := { stood := { row := fnRollRow, standIns := [], harness := (true, "bca1a24a9b25c63b1eb183f4cf1d85e64c4149dfea2737a6d570d6f011a92ab5"), looks := true }, kinds := [], alts := [], laidByText := true, laidKinds := [.handle, .sentinel, .sentinel, .sentinel], laidTests := true, laidLooks := .later }
def FnRollCardSaid : Prop := Claim7.holds Tryz.pinned (.plain (OpenSpec.ofChange fnRollSpec)) fnRollCard

/-- THE TIED CARD OF 'laws.FnPast'. -/
def fnPastCard : Claim7 := { stood := { row := fnPastRow, standIns := [], harness := (true, "bca1a24a9b25c63b1eb183f4cf1d85e64c4149dfea2737a6d570d6f011a92ab5"), looks := true }, kinds := [], alts := [], laidByText := true, laidKinds := [.handle, .sentinel, .sentinel, .sentinel], laidTests := true, laidLooks := .later }
def FnPastCardSaid : Prop := Claim7.holds Tryz.pinned (.plain (OpenSpec.ofChange fnPastSpec)) fnPastCard

/-- THE TIED CARD OF 'laws.FnExactCkptPut'. -/
def fnExactCkptPutCard : Claim7 := { stood := { row := fnExactCkptPutRow, standIns := [], harness := (true, "bca1a24a9b25c63b1eb183f4cf1d85e64c4149dfea2737a6d570d6f011a92ab5"), looks := true }, kinds := [], alts := [], laidByText := true, laidKinds := [.handle], laidTests := true, laidLooks := .later }
def FnExactCkptPutCardSaid : Prop := Claim7.holds Tryz.pinned (.plain (OpenSpec.ofChange fnExactCkptPutSpec)) fnExactCkptPutCard

/-- THE TIED CARD OF 'laws.FnExactMountWith'. -/
def fnExactMountWithCard : Claim7 := { stood := { row := fnExactMountWithRow, standIns := [], harness := (true, "bca1a24a9b25c63b1eb183f4cf1d85e64c4149dfea2737a6d570d6f011a92ab5"), looks := true }, kinds := [], alts := [], laidByText := true, laidKinds := [.handle, .sentinel, .sentinel, .sentinel], laidTests := true, laidLooks := .later }
def FnExactMountWithCardSaid : Prop := Claim7.holds Tryz.pinned (.plain (OpenSpec.ofChange fnExactMountWithSpec)) fnExactMountWithCard

/-- THE SECOND FORM's CARD OF 'laws.FnLog'. -/
def fnLogUptoCard : Claim7 := { stood := { row := fnLogUptoRow, standIns := [], harness := (true, "bca1a24a9b25c63b1eb183f4cf1d85e64c4149dfea2737a6d570d6f011a92ab5"), looks := true }, kinds := [], alts := [], laidByText := true, laidKinds := [.handle, .sentinel, .sentinel, .sentinel], laidTests := true, laidLooks := .later }
def FnLogUptoCardSaid : Prop := Claim7.holds Tryz.pinned (.plain (OpenSpec.upto fnLogSpec)) fnLogUptoCard

/-- THE SECOND FORM's CARD OF 'laws.FnRoll'. -/
def fnRollUptoCard : Claim7 := { stood := { row := fnRollUptoRow, standIns := [], harness := (true, "bca1a24a9b25c63b1eb183f4cf1d85e64c4149dfea2737a6d570d6f011a92ab5"), looks := true }, kinds := [], alts := [], laidByText := true, laidKinds := [.handle, .sentinel, .sentinel, .sentinel], laidTests := true, laidLooks := .later }
def FnRollUptoCardSaid : Prop := Claim7.holds Tryz.pinned (.plain (OpenSpec.upto fnRollSpec)) fnRollUptoCard

/-- THE SECOND FORM's CARD OF 'laws.FnPast'. -/
def fnPastUptoCard : Claim7 := { stood := { row := fnPastUptoRow, standIns := [], harness := (true, "bca1a24a9b25c63b1eb183f4cf1d85e64c4149dfea2737a6d570d6f011a92ab5"), looks := true }, kinds := [], alts := [], laidByText := true, laidKinds := [.handle, .sentinel, .sentinel, .sentinel], laidTests := true, laidLooks := .later }
def FnPastUptoCardSaid : Prop := Claim7.holds Tryz.pinned (.plain (OpenSpec.upto fnPastSpec)) fnPastUptoCard

/-- THE SECOND FORM's CARD OF 'laws.FnExactCkptPut'. -/
def fnExactCkptPutUptoCard : Claim7 := { stood := { row := fnExactCkptPutUptoRow, standIns := [], harness := (true, "bca1a24a9b25c63b1eb183f4cf1d85e64c4149dfea2737a6d570d6f011a92ab5"), looks := true }, kinds := [], alts := [], laidByText := true, laidKinds := [.handle], laidTests := true, laidLooks := .later }
def FnExactCkptPutUptoCardSaid : Prop := Claim7.holds Tryz.pinned (.plain (OpenSpec.upto fnExactCkptPutSpec)) fnExactCkptPutUptoCard

/-- THE SECOND FORM's CARD OF 'laws.FnExactMountWith'. -/
def fnExactMountWithUptoCard : Claim7 := { stood := { row := fnExactMountWithUptoRow, standIns := [], harness := (true, "bca1a24a9b25c63b1eb183f4cf1d85e64c4149dfea2737a6d570d6f011a92ab5"), looks := true }, kinds := [], alts := [], laidByText := true, laidKinds := [.handle, .sentinel, .sentinel, .sentinel], laidTests := true, laidLooks := .later }
def FnExactMountWithUptoCardSaid : Prop := Claim7.holds Tryz.pinned (.plain (OpenSpec.upto fnExactMountWithSpec)) fnExactMountWithUptoCard
end Rows
end Go.Proofs.YtloaeglmngcenaaGreatDoor
