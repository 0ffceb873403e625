/-
  DERIVED. GIVEN WITH THE SEED: THE CARDS: each row of YtohmkjgmhippoaaGreatDoorRows.lean that lists a variable, with what it lists TIED to the program's text (the seventh form; the later family's looks); each row that meets fmt, with fmt's text TOLD by the authors' own Lean function (tested against real Go, not proved from fmt's source: count such statements apart). THE CARD IS WHAT COUNTS. Prove the row's statement (the work); the ties are given (YtohmkjgmhippoaaGreatDoorTie.lean); close each card by the builder's one call (the guide's Derived/Test/ToyasCard.lean, 'card_holds'). Laid BY PROGRAM, IN A SANDBOX (cutbox-door.mjs). By AI agents, Wed Nov 11 2026. No macro, syntax, notation, axiom, sorry.
-/
import Derived.Test.YtohmkjgmhippoaaGreatDoorRows
import GoSem.ClaimSeven
namespace Go.Proofs.YtohmkjgmhippoaaGreatDoor
namespace Rows

/-- THE TIED CARD OF 'laws.FnExactDriveRight'. -/
def fnExactDriveRightCard : Claim7 := { stood := { row := fnExactDriveRightRow, standIns := [], harness := (true, "c6ceed834f57a4e572c2faf0c085f61dd5a60e6e4efc41ea51c0a802c2f1f0f8"), looks := true }, kinds := [], alts := [], laidByText := true, laidKinds := [.handle, .sentinel, .sentinel], laidTests := true, laidLooks := .later }
def FnExactDriveRightCardSaid : Prop := Claim7.holds Tryz.pinned (.plain (OpenSpec.ofChange fnExactDriveRightSpec)) fnExactDriveRightCard

/-- THE TIED CARD OF 'laws.FnExactFormat'. -/
def fnExactFormatCard : Claim7 := { stood := { row := fnExactFormatRow, standIns := [], harness := (true, "c6ceed834f57a4e572c2faf0c085f61dd5a60e6e4efc41ea51c0a802c2f1f0f8"), looks := true }, kinds := [], alts := [], laidByText := true, laidKinds := [.handle, .sentinel, .sentinel], laidTests := true, laidLooks := .later }
def FnExactFormatCardSaid : Prop := Claim7.holds Tryz.pinned (.plain (OpenSpec.ofChange fnExactFormatSpec)) fnExactFormatCard

/-- THE TIED CARD OF 'laws.FnExactTick'. -/
def fnExactTickCard : Claim7 := { stood := { row := fnExactTickRow, standIns := [], harness := (true, "c6ceed834f57a4e572c2faf0c085f61dd5a60e6e4efc41ea51c0a802c2f1f0f8"), looks := true }, kinds := [], alts := [], laidByText := true, laidKinds := [.handle, .sentinel, .sentinel, .sentinel], laidTests := true, laidLooks := .later }
def FnExactTickCardSaid : Prop := Claim7.holds Tryz.pinned (.plain (OpenSpec.ofChange fnExactTickSpec)) fnExactTickCard

/-- THE TIED CARD OF 'laws.FnExactWrite'. -/
def fnExactWriteCard : Claim7 := { stood := { row := fnExactWriteRow, standIns := [], harness := (true, "c6ceed834f57a4e572c2faf0c085f61dd5a60e6e4efc41ea51c0a802c2f1f0f8"), looks := true }, kinds := [], alts := [], laidByText := true, laidKinds := [.handle, .sentinel, .sentinel, .sentinel], laidTests := true, laidLooks := .later }
def FnExactWriteCardSaid : Prop := Claim7.holds Tryz.pinned (.plain (OpenSpec.ofChange fnExactWriteSpec)) fnExactWriteCard

/-- THE TIED CARD OF 'laws.FnExactTrim'. -/
def fnExactTrimCard : Claim7 := { stood := { row := fnExactTrimRow, standIns := [], harness := (true, "c6ceed834f57a4e572c2faf0c085f61dd5a60e6e4efc41ea51c0a802c2f1f0f8"), looks := true }, kinds := [], alts := [], laidByText := true, laidKinds := [.handle, .sentinel, .sentinel, .sentinel], laidTests := true, laidLooks := .later }
def FnExactTrimCardSaid : Prop := Claim7.holds Tryz.pinned (.plain (OpenSpec.ofChange fnExactTrimSpec)) fnExactTrimCard

/-- THE TIED CARD OF 'laws.FnExactRead'. -/
def fnExactReadCard : Claim7 := { stood := { row := fnExactReadRow, standIns := [], harness := (true, "c6ceed834f57a4e572c2faf0c085f61dd5a60e6e4efc41ea51c0a802c2f1f0f8"), looks := true }, kinds := [], alts := [], laidByText := true, laidKinds := [.handle, .sentinel, .sentinel], laidTests := true, laidLooks := .later }
def FnExactReadCardSaid : Prop := Claim7.holds Tryz.pinned (.plain (OpenSpec.ofChange fnExactReadSpec)) fnExactReadCard

/-- THE TIED CARD OF 'laws.FnExactReadAt'. -/
def fnExactReadAtCard : Claim7 := { stood := { row := fnExactReadAtRow, standIns := [], harness := (true, "c6ceed834f57a4e572c2faf0c085f61dd5a60e6e4efc41ea51c0a802c2f1f0f8"), looks := true }, kinds := [], alts := [], laidByText := true, laidKinds := [.handle, .sentinel, .sentinel], laidTests := true, laidLooks := .later }
def FnExactReadAtCardSaid : Prop := Claim7.holds Tryz.pinned (.plain (OpenSpec.ofChange fnExactReadAtSpec)) fnExactReadAtCard

/-- THE TIED CARD OF 'laws.FnExactRollTo'. -/
def fnExactRollToCard : Claim7 := { stood := { row := fnExactRollToRow, standIns := [], harness := (true, "c6ceed834f57a4e572c2faf0c085f61dd5a60e6e4efc41ea51c0a802c2f1f0f8"), looks := true }, kinds := [], alts := [], laidByText := true, laidKinds := [.handle, .sentinel, .sentinel, .sentinel], laidTests := true, laidLooks := .later }
def FnExactRollToCardSaid : Prop := Claim7.holds Tryz.pinned (.plain (OpenSpec.ofChange fnExactRollToSpec)) fnExactRollToCard

/-- THE TIED CARD OF 'laws.FnExactRaise'. -/
def fnExactRaiseCard : Claim7 := { stood := { row := fnExactRaiseRow, standIns := [], harness := (true, "c6ceed834f57a4e572c2faf0c085f61dd5a60e6e4efc41ea51c0a802c2f1f0f8"), looks := true }, kinds := [], alts := [], laidByText := true, laidKinds := [.handle, .sentinel, .sentinel, .sentinel], laidTests := true, laidLooks := .later }
def FnExactRaiseCardSaid : Prop := Claim7.holds Tryz.pinned (.plain (OpenSpec.ofChange fnExactRaiseSpec)) fnExactRaiseCard

/-- THE TIED CARD OF 'laws.FnExactCollect'. -/
def fnExactCollectCard : Claim7 := { stood := { row := fnExactCollectRow, standIns := [], harness := (true, "c6ceed834f57a4e572c2faf0c085f61dd5a60e6e4efc41ea51c0a802c2f1f0f8"), looks := true }, kinds := [], alts := [], laidByText := true, laidKinds := [.handle, .sentinel, .sentinel, .sentinel], laidTests := true, laidLooks := .later }
def FnExactCollectCardSaid : Prop := Claim7.holds Tryz.pinned (.plain (OpenSpec.ofChange fnExactCollectSpec)) fnExactCollectCard

/-- THE TIED CARD OF 'laws.FnExactRestart'. -/
def fnExactRestartCard : Claim7 := { stood := { row := fnExactRestartRow, standIns := [], harness := (true, "c6ceed834f57a4e572c2faf0c085f61dd5a60e6e4efc41ea51c0a802c2f1f0f8"), looks := true }, kinds := [], alts := [], laidByText := true, laidKinds := [.handle, .sentinel, .sentinel], laidTests := true, laidLooks := .later }
def FnExactRestartCardSaid : Prop := Claim7.holds Tryz.pinned (.plain (OpenSpec.ofChange fnExactRestartSpec)) fnExactRestartCard

/-- THE TIED CARD OF 'laws.FnExactWear'. -/
def fnExactWearCard : Claim7 := { stood := { row := fnExactWearRow, standIns := [], harness := (true, "c6ceed834f57a4e572c2faf0c085f61dd5a60e6e4efc41ea51c0a802c2f1f0f8"), looks := true }, kinds := [], alts := [], laidByText := true, laidKinds := [.handle, .sentinel, .sentinel], laidTests := true, laidLooks := .later }
def FnExactWearCardSaid : Prop := Claim7.holds Tryz.pinned (.plain (OpenSpec.ofChange fnExactWearSpec)) fnExactWearCard

/-- THE SECOND FORM's CARD OF 'laws.FnExactDriveRight'. -/
def fnExactDriveRightUptoCard : Claim7 := { stood := { row := fnExactDriveRightUptoRow, standIns := [], harness := (true, "c6ceed834f57a4e572c2faf0c085f61dd5a60e6e4efc41ea51c0a802c2f1f0f8"), looks := true }, kinds := [], alts := [], laidByText := true, laidKinds := [.handle, .sentinel, .sentinel], laidTests := true, laidLooks := .later }
def FnExactDriveRightUptoCardSaid : Prop := Claim7.holds Tryz.pinned (.plain (OpenSpec.upto fnExactDriveRightSpec)) fnExactDriveRightUptoCard

/-- THE SECOND FORM's CARD OF 'laws.FnExactFormat'. -/
def fnExactFormatUptoCard : Claim7 := { stood := { row := fnExactFormatUptoRow, standIns := [], harness := (true, "c6ceed834f57a4e572c2faf0c085f61dd5a60e6e4efc41ea51c0a802c2f1f0f8"), looks := true }, kinds := [], alts := [], laidByText := true, laidKinds := [.handle, .sentinel, .sentinel], laidTests := true, laidLooks := .later }
def FnExactFormatUptoCardSaid : Prop := Claim7.holds Tryz.pinned (.plain (OpenSpec.upto fnExactFormatSpec)) fnExactFormatUptoCard

/-- THE SECOND FORM's CARD OF 'laws.FnExactTick'. -/
def fnExactTickUptoCard : Claim7 := { stood := { row := fnExactTickUptoRow, standIns := [], harness := (true, "c6ceed834f57a4e572c2faf0c085f61dd5a60e6e4efc41ea51c0a802c2f1f0f8"), looks := true }, kinds := [], alts := [], laidByText := true, laidKinds := [.handle, .sentinel, .sentinel, .sentinel], laidTests := true, laidLooks := .later }
def FnExactTickUptoCardSaid : Prop := Claim7.holds Tryz.pinned (.plain (OpenSpec.upto fnExactTickSpec)) fnExactTickUptoCard

/-- THE SECOND FORM's CARD OF 'laws.FnExactWrite'. -/
def fnExactWriteUptoCard : Claim7 := { stood := { row := fnExactWriteUptoRow, standIns := [], harness := (true, "c6ceed834f57a4e572c2faf0c085f61dd5a60e6e4efc41ea51c0a802c2f1f0f8"), looks := true }, kinds := [], alts := [], laidByText := true, laidKinds := [.handle, .sentinel, .sentinel, .sentinel], laidTests := true, laidLooks := .later }
def FnExactWriteUptoCardSaid : Prop := Claim7.holds Tryz.pinned (.plain (OpenSpec.upto fnExactWriteSpec)) fnExactWriteUptoCard

/-- THE SECOND FORM's CARD OF 'laws.FnExactTrim'. -/
def fnExactTrimUptoCard : Claim7 := { stood := { row := fnExactTrimUptoRow, standIns := [], harness := (true, "c6ceed834f57a4e572c2faf0c085f61dd5a60e6e4efc41ea51c0a802c2f1f0f8"), looks := true }, kinds := [], alts := [], laidByText := true, laidKinds := [.handle, .sentinel, .sentinel, .sentinel], laidTests := true, laidLooks := .later }
def FnExactTrimUptoCardSaid : Prop := Claim7.holds Tryz.pinned (.plain (OpenSpec.upto fnExactTrimSpec)) fnExactTrimUptoCard

/-- THE SECOND FORM's CARD OF 'laws.FnExactRead'. -/
def fnExactReadUptoCard : Claim7 := { stood := { row := fnExactReadUptoRow, standIns := [], harness := (true, "c6ceed834f57a4e572c2faf0c085f61dd5a60e6e4efc41ea51c0a802c2f1f0f8"), looks := true }, kinds := [], alts := [], laidByText := true, laidKinds := [.handle, .sentinel, .sentinel], laidTests := true, laidLooks := .later }
def FnExactReadUptoCardSaid : Prop := Claim7.holds Tryz.pinned (.plain (OpenSpec.upto fnExactReadSpec)) fnExactReadUptoCard

/-- THE SECOND FORM's CARD OF 'laws.FnExactReadAt'. -/
def fnExactReadAtUptoCard : Claim7 := { stood := { row := fnExactReadAtUptoRow, standIns := [], harness := (true, "c6ceed834f57a4e572c2faf0c085f61dd5a60e6e4efc41ea51c0a802c2f1f0f8"), looks := true }, kinds := [], alts := [], laidByText := true, laidKinds := [.handle, .sentinel, .sentinel], laidTests := true, laidLooks := .later }
def FnExactReadAtUptoCardSaid : Prop := Claim7.holds Tryz.pinned (.plain (OpenSpec.upto fnExactReadAtSpec)) fnExactReadAtUptoCard

/-- THE SECOND FORM's CARD OF 'laws.FnExactRollTo'. -/
def fnExactRollToUptoCard : Claim7 := { stood := { row := fnExactRollToUptoRow, standIns := [], harness := (true, "c6ceed834f57a4e572c2faf0c085f61dd5a60e6e4efc41ea51c0a802c2f1f0f8"), looks := true }, kinds := [], alts := [], laidByText := true, laidKinds := [.handle, .sentinel, .sentinel, .sentinel], laidTests := true, laidLooks := .later }
def FnExactRollToUptoCardSaid : Prop := Claim7.holds Tryz.pinned (.plain (OpenSpec.upto fnExactRollToSpec)) fnExactRollToUptoCard

/-- THE SECOND FORM's CARD OF 'laws.FnExactRaise'. -/
def fnExactRaiseUptoCard : Claim7 := { stood := { row := fnExactRaiseUptoRow, standIns := [], harness := (true, "c6ceed834f57a4e572c2faf0c085f61dd5a60e6e4efc41ea51c0a802c2f1f0f8"), looks := true }, kinds := [], alts := [], laidByText := true, laidKinds := [.handle, .sentinel, .sentinel, .sentinel], laidTests := true, laidLooks := .later }
def FnExactRaiseUptoCardSaid : Prop := Claim7.holds Tryz.pinned (.plain (OpenSpec.upto fnExactRaiseSpec)) fnExactRaiseUptoCard

/-- THE SECOND FORM's CARD OF 'laws.FnExactCollect'. -/
def fnExactCollectUptoCard : Claim7 := { stood := { row := fnExactCollectUptoRow, standIns := [], harness := (true, "c6ceed834f57a4e572c2faf0c085f61dd5a60e6e4efc41ea51c0a802c2f1f0f8"), looks := true }, kinds := [], alts := [], laidByText := true, laidKinds := [.handle, .sentinel, .sentinel, .sentinel], laidTests := true, laidLooks := .later }
def FnExactCollectUptoCardSaid : Prop := Claim7.holds Tryz.pinned (.plain (OpenSpec.upto fnExactCollectSpec)) fnExactCollectUptoCard

/-- THE SECOND FORM's CARD OF 'laws.FnExactRestart'. -/
def fnExactRestartUptoCard : Claim7 := { stood := { row := fnExactRestartUptoRow, standIns := [], harness := (true, "c6ceed834f57a4e572c2faf0c085f61dd5a60e6e4efc41ea51c0a802c2f1f0f8"), looks := true }, kinds := [], alts := [], laidByText := true, laidKinds := [.handle, .sentinel, .sentinel], laidTests := true, laidLooks := .later }
def FnExactRestartUptoCardSaid : Prop := Claim7.holds Tryz.pinned (.plain (OpenSpec.upto fnExactRestartSpec)) fnExactRestartUptoCard

/-- THE SECOND FORM's CARD OF 'laws.FnExactWear'. -/
def fnExactWearUptoCard : Claim7 := { stood := { row := fnExactWearUptoRow, standIns := [], harness := (true, "c6ceed834f57a4e572c2faf0c085f61dd5a60e6e4efc41ea51c0a802c2f1f0f8"), looks := true }, kinds := [], alts := [], laidByText := true, laidKinds := [.handle, .sentinel, .sentinel], laidTests := true, laidLooks := .later }
def FnExactWearUptoCardSaid : Prop := Claim7.holds Tryz.pinned (.plain (OpenSpec.upto fnExactWearSpec)) fnExactWearUptoCard
end Rows
end Go.Proofs.YtohmkjgmhippoaaGreatDoor
