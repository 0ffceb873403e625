/-
  DERIVED. GIVEN WITH THE SEED: THE CARDS: each row of YtmpadpaeejefnaaDoorRows.lean that lists a variable, with what it lists TIED to the program's text (the seventh form; the later family's looks); each row that meets fmt, with fmt's text TOLD by the authors' own Lean function (tested against real Go, not proved from fmt's source: count such statements apart). THE CARD IS WHAT COUNTS. Prove the row's statement (the work); the ties are given (YtmpadpaeejefnaaDoorTie.lean); close each card by the builder's one call (the guide's Derived/Test/ToyasCard.lean, 'card_holds'). Laid BY PROGRAM, IN A SANDBOX (cutbox-door.mjs). By AI agents, Wed Nov 11 2026. No macro, syntax, notation, axiom, sorry.
-/
import Derived.Test.YtmpadpaeejefnaaDoorRows
import GoSem.ClaimSeven
namespace Go.Proofs.YtmpadpaeejefnaaDoor
namespace Rows

/-- THE TIED CARD OF 'laws.FnExactCkptRead'. -/
def fnExactCkptReadCard : Claim7 := { stood := { row := fnExactCkptReadRow, standIns := [], harness := (true, "38ba59ac67d6c6090e09af667624b9ab58b0989e66ab9618cc035f26c740c6a2"), looks := true }, kinds := [], alts := [], laidByText := true, laidKinds := [.handle], laidTests := true, laidLooks := .later }
def FnExactCkptReadCardSaid : Prop := Claim7.holds Tryd.pinned (.plain (OpenSpec.ofChange fnExactCkptReadSpec)) fnExactCkptReadCard

/-- THE TIED CARD OF 'laws.FnExactCkptBest'. -/
def fnExactCkptBestCard : Claim7 := { stood := { row := fnExactCkptBestRow, standIns := [], harness := (true, "38ba59ac67d6c6090e09af667624b9ab58b0989e66ab9618cc035f26c740c6a2"), looks := true }, kinds := [], alts := [], laidByText := true, laidKinds := [.handle], laidTests := true, laidLooks := .later }
def FnExactCkptBestCardSaid : Prop := Claim7.holds Tryd.pinned (.plain (OpenSpec.ofChange fnExactCkptBestSpec)) fnExactCkptBestCard

/-- THE SECOND FORM's CARD OF 'laws.FnExactCkptRead'. -/
def fnExactCkptReadUptoCard : Claim7 := { stood := { row := fnExactCkptReadUptoRow, standIns := [], harness := (true, "38ba59ac67d6c6090e09af667624b9ab58b0989e66ab9618cc035f26c740c6a2"), looks := true }, kinds := [], alts := [], laidByText := true, laidKinds := [.handle], laidTests := true, laidLooks := .later }
def FnExactCkptReadUptoCardSaid : Prop := Claim7.holds Tryd.pinned (.plain (OpenSpec.upto fnExactCkptReadSpec)) fnExactCkptReadUptoCard

/-- THE SECOND FORM's CARD OF 'laws.FnExactCkptBest'. -/
def fnExactCkptBestUptoCard : Claim7 := { stood := { row := fnExactCkptBestUptoRow, standIns := [], harness := (true, "38ba59ac67d6c6090e09af667624b9ab58b0989e66ab9618cc035f26c740c6a2"), looks := true }, kinds := [], alts := [], laidByText := true, laidKinds := [.handle], laidTests := true, laidLooks := .later }
def FnExactCkptBestUptoCardSaid : Prop := Claim7.holds Tryd.pinned (.plain (OpenSpec.upto fnExactCkptBestSpec)) fnExactCkptBestUptoCard
end Rows
end Go.Proofs.YtmpadpaeejefnaaDoor
