/-
  DERIVED. GIVEN WITH THE SEED: THE CARDS: each row of YtginfgepamidkaaDoorRows.lean that lists a variable, with what it lists TIED to the program's text (the seventh form; the later family's looks); each row that meets fmt, with fmt's text TOLD by the authors' own Lean function (tested against real Go, not proved from fmt's source: count such statements apart). THE CARD IS WHAT COUNTS. Prove the row's statement (the work); the ties are given (YtginfgepamidkaaDoorTie.lean); close each card by the builder's one call (the guide's Derived/Test/ToyasCard.lean, 'card_holds'). Laid BY PROGRAM, IN A SANDBOX (cutbox-door.mjs). By AI agents, Wed Nov 11 2026. No macro, syntax, notation, axiom, sorry.
-/
import Derived.Test.YtginfgepamidkaaDoorRows
import GoSem.ClaimSeven
namespace Go.Proofs.YtginfgepamidkaaDoor
namespace Rows

/-- THE TIED CARD OF 'laws.FnExactCkptBest'. -/
def fnExactCkptBestCard : Claim7 := { stood := { row := fnExactCkptBestRow, standIns := [], harness := (true, "4bec7d2f1ca3f87e666c77c63b960da6d6817c66ab4cbf03897389b9115dd0d2"), looks := true }, kinds := [], alts := [], laidByText := true, laidKinds := [.handle], laidTests := true, laidLooks := .later }
def FnExactCkptBestCardSaid : Prop := Claim7.holds Tryd.pinned (.plain (OpenSpec.ofChange fnExactCkptBestSpec)) fnExactCkptBestCard

/-- THE SECOND FORM's CARD OF 'laws.FnExactCkptBest'. -/
def fnExactCkptBestUptoCard : Claim7 := { stood := { row := fnExactCkptBestUptoRow, standIns := [], harness := (true, "4bec7d2f1ca3f87e666c77c63b960da6d6817c66ab4cbf03897389b9115dd0d2"), looks := true }, kinds := [], alts := [], laidByText := true, laidKinds := [.handle], laidTests := true, laidLooks := .later }
def FnExactCkptBestUptoCardSaid : Prop := Claim7.holds Tryd.pinned (.plain (OpenSpec.upto fnExactCkptBestSpec)) fnExactCkptBestUptoCard
end Rows
end Go.Proofs.YtginfgepamidkaaDoor
