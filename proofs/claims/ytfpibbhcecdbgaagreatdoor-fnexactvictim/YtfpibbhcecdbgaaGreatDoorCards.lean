/-
  DERIVED. GIVEN WITH THE SEED: THE CARDS: each row of YtfpibbhcecdbgaaGreatDoorRows.lean that lists a variable, with what it lists TIED to the program's text (the seventh form; the later family's looks); each row that meets fmt, with fmt's text TOLD by the authors' own Lean function (tested against real Go, not proved from fmt's source: count such statements apart). THE CARD IS WHAT COUNTS. Prove the row's statement (the work); the ties are given (YtfpibbhcecdbgaaGreatDoorTie.lean); close each card by the builder's one call (the guide's Derived/Test/ToyasCard.lean, 'card_holds'). Laid BY PROGRAM, IN A SANDBOX (cutbox-door.mjs). By AI agents, Wed Nov 11 2026. No macro, syntax, notation, axiom, sorry.
-/
import Derived.Test.YtfpibbhcecdbgaaGreatDoorRows
import GoSem.ClaimSeven
namespace Go.Proofs.YtfpibbhcecdbgaaGreatDoor
namespace Rows

/-- THE TIED CARD OF 'laws.FnExactMoveOut'. -/
def fnExactMoveOutCard : Claim7 := { stood := { row := fnExactMoveOutRow, standIns := [], harness := (true, "58358f82c1d6350424ce03cfc9d603867f8bd3613966a76f4f59e8e28c3b2992"), looks := true }, kinds := [], alts := [], laidByText := true, laidKinds := [.handle, .sentinel, .sentinel, .sentinel], laidTests := true, laidLooks := .later }
def FnExactMoveOutCardSaid : Prop := Claim7.holds Tryz.pinned (.plain (OpenSpec.ofChange fnExactMoveOutSpec)) fnExactMoveOutCard

/-- THE TIED CARD OF 'laws.FnExactLevel'. -/
def fnExactLevelCard : Claim7 := { stood := { row := fnExactLevelRow, standIns := [], harness := (true, "58358f82c1d6350424ce03cfc9d603867f8bd3613966a76f4f59e8e28c3b2992"), looks := true }, kinds := [], alts := [], laidByText := true, laidKinds := [.handle, .sentinel, .sentinel, .sentinel], laidTests := true, laidLooks := .later }
def FnExactLevelCardSaid : Prop := Claim7.holds Tryz.pinned (.plain (OpenSpec.ofChange fnExactLevelSpec)) fnExactLevelCard

/-- THE TIED CARD OF 'laws.FnExactGc'. -/
def fnExactGcCard : Claim7 := { stood := { row := fnExactGcRow, standIns := [], harness := (true, "58358f82c1d6350424ce03cfc9d603867f8bd3613966a76f4f59e8e28c3b2992"), looks := true }, kinds := [], alts := [], laidByText := true, laidKinds := [.handle, .sentinel, .sentinel, .sentinel], laidTests := true, laidLooks := .later }
def FnExactGcCardSaid : Prop := Claim7.holds Tryz.pinned (.plain (OpenSpec.ofChange fnExactGcSpec)) fnExactGcCard

/-- THE TIED CARD OF 'laws.FnExactVictim'. -/
def fnExactVictimCard : Claim7 := { stood := { row := fnExactVictimRow, standIns := [], harness := (true, "58358f82c1d6350424ce03cfc9d603867f8bd3613966a76f4f59e8e28c3b2992"), looks := true }, kinds := [], alts := [], laidByText := true, laidKinds := [.handle, .sentinel, .sentinel], laidTests := true, laidLooks := .later }
def FnExactVictimCardSaid : Prop := Claim7.holds Tryz.pinned (.plain (OpenSpec.ofChange fnExactVictimSpec)) fnExactVictimCard

/-- THE TIED CARD OF 'laws.FnRoll'. -/
def fnRollCard : Claim7 := { stood := { row := fnRollRow, standIns := [], harness := (true, "58358f82c1d6350424ce03cfc9d603867f8bd3613966a76f4f59e8e28c3b2992"), looks := true }, kinds := [], alts := [], laidByText := true, laidKinds := [.handle, .sentinel, .sentinel, .sentinel], laidTests := true, laidLooks := .later }
def FnRollCardSaid : Prop := Claim7.holds Tryz.pinned (.plain (OpenSpec.ofChange fnRollSpec)) fnRollCard

/-- THE TIED CARD OF 'laws.FnLog'. -/
def fnLogCard : Claim7 := { stood := { row := fnLogRow, standIns := [], harness := (true, "58358f82c1d6350424ce03cfc9d603867f8bd3613966a76f4f59e8e28c3b2992"), looks := true }, kinds := [], alts := [], laidByText := true, laidKinds := [.handle, .sentinel, .sentinel, .sentinel], laidTests := true, laidLooks := .later }
def FnLogCardSaid : Prop := Claim7.holds Tryz.pinned (.plain (OpenSpec.ofChange fnLogSpec)) fnLogCard

/-- THE TIED CARD OF 'laws.FnPast'. -/
def fnPastCard : Claim7 := { stood := { row := fnPastRow, standIns := [], harness := (true, "58358f82c1d6350424ce03cfc9d603867f8bd3613966a76f4f59e8e28c3b2992"), looks := true }, kinds := [], alts := [], laidByText := true, laidKinds := [.handle, .sentinel, .sentinel, .sentinel], laidTests := true, laidLooks := .later }
def FnPastCardSaid : Prop := Claim7.holds Tryz.pinned (.plain (OpenSpec.ofChange fnPastSpec)) fnPastCard

/-- THE SECOND FORM's CARD OF 'laws.FnExactMoveOut'. -/
def fnExactMoveOutUptoCard : Claim7 := { stood := { row := fnExactMoveOutUptoRow, standIns := [], harness := (true, "58358f82c1d6350424ce03cfc9d603867f8bd3613966a76f4f59e8e28c3b2992"), looks := true }, kinds := [], alts := [], laidByText := true, laidKinds := [.handle, .sentinel, .sentinel, .sentinel], laidTests := true, laidLooks := .later }
def FnExactMoveOutUptoCardSaid : Prop := Claim7.holds Tryz.pinned (.plain (OpenSpec.upto fnExactMoveOutSpec)) fnExactMoveOutUptoCard

/-- THE SECOND FORM's CARD OF 'laws.FnExactLevel'. -/
def fnExactLevelUptoCard : Claim7 := { stood := { row := fnExactLevelUptoRow, standIns := [], harness := (true, "58358f82c1d6350424ce03cfc9d603867f8bd3613966a76f4f59e8e28c3b2992"), looks := true }, kinds := [], alts := [], laidByText := true, laidKinds := [.handle, .sentinel, .sentinel, .sentinel], laidTests := true, laidLooks := .later }
def FnExactLevelUptoCardSaid : Prop := Claim7.holds Tryz.pinned (.plain (OpenSpec.upto fnExactLevelSpec)) fnExactLevelUptoCard

/-- THE SECOND FORM's CARD OF 'laws.FnExactGc'. -/
def fnExactGcUptoCard : Claim7 := { stood := { row := fnExactGcUptoRow, standIns := [], harness := (true, "58358f82c1d6350424ce03cfc9d603867f8bd3613966a76f4f59e8e28c3b2992"), looks := true }, kinds := [], alts := [], laidByText := true, laidKinds := [.handle, .sentinel, .sentinel, .sentinel], laidTests := true, laidLooks := .later }
def FnExactGcUptoCardSaid : Prop := Claim7.holds Tryz.pinned (.plain (OpenSpec.upto fnExactGcSpec)) fnExactGcUptoCard

/-- THE SECOND FORM's CARD OF 'laws.FnExactVictim'. -/
def fnExactVictimUptoCard : Claim7 := { stood := { row := fnExactVictimUptoRow, standIns := [], harness := (true, "58358f82c1d6350424ce03cfc9d603867f8bd3613966a76f4f59e8e28c3b2992"), looks := true }, kinds := [], alts := [], laidByText := true, laidKinds := [.handle, .sentinel, .sentinel], laidTests := true, laidLooks := .later }
def FnExactVictimUptoCardSaid : Prop := Claim7.holds Tryz.pinned (.plain (OpenSpec.upto fnExactVictimSpec)) fnExactVictimUptoCard

/-- THE SECOND FORM's CARD OF 'laws.FnRoll'. -/
def fnRollUptoCard : Claim7 := { stood := { row := fnRollUptoRow, standIns := [], harness := (true, "58358f82c1d6350424ce03cfc9d603867f8bd3613966a76f4f59e8e28c3b2992"), looks := true }, kinds := [], alts := [], laidByText := true, laidKinds := [.handle, .sentinel, .sentinel, .sentinel], laidTests := true, laidLooks := .later }
def FnRollUptoCardSaid : Prop := Claim7.holds Tryz.pinned (.plain (OpenSpec.upto fnRollSpec)) fnRollUptoCard

/-- THE SECOND FORM's CARD OF 'laws.FnLog'. -/
def fnLogUptoCard : Claim7 := { stood := { row := fnLogUptoRow, standIns := [], harness := (true, "58358f82c1d6350424ce03cfc9d603867f8bd3613966a76f4f59e8e28c3b2992"), looks := true }, kinds := [], alts := [], laidByText := true, laidKinds := [.handle, .sentinel, .sentinel, .sentinel], laidTests := true, laidLooks := .later }
def FnLogUptoCardSaid : Prop := Claim7.holds Tryz.pinned (.plain (OpenSpec.upto fnLogSpec)) fnLogUptoCard

/-- THE SECOND FORM's CARD OF 'laws.FnPast'. -/
def fnPastUptoCard : Claim7 := { stood := { row := fnPastUptoRow, standIns := [], harness := (true, "58358f82c1d6350424ce03cfc9d603867f8bd3613966a76f4f59e8e28c3b2992"), looks := true }, kinds := [], alts := [], laidByText := true, laidKinds := [.handle, .sentinel, .sentinel, .sentinel], laidTests := true, laidLooks := .later }
def FnPastUptoCardSaid : Prop := Claim7.holds Tryz.pinned (.plain (OpenSpec.upto fnPastSpec)) fnPastUptoCard
end Rows
end Go.Proofs.YtfpibbhcecdbgaaGreatDoor
