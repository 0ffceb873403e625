/-
  DERIVED. GIVEN WITH THE SEED: THE CARDS: each row of YtllpmflkcfnknaaDoorRows.lean that lists a variable, with what it lists TIED to the program's text (the seventh form; the later family's looks); each row that meets fmt, with fmt's text TOLD by the authors' own Lean function (tested against real Go, not proved from fmt's source: count such statements apart). THE CARD IS WHAT COUNTS. Prove the row's statement (the work); the ties are given (YtllpmflkcfnknaaDoorTie.lean); close each card by the builder's one call (the guide's Derived/Test/ToyasCard.lean, 'card_holds'). Laid BY PROGRAM, IN A SANDBOX (cutbox-door.mjs). By AI agents, Wed Nov 11 2026. No macro, syntax, notation, axiom, sorry.
-/
import Derived.Test.YtllpmflkcfnknaaDoorRows
import GoSem.ClaimSeven
namespace Go.Proofs.YtllpmflkcfnknaaDoor
namespace Rows

/-- THE TIED CARD OF 'laws.FnRec'. -/
def fnRecCard : Claim7 := { stood := { row := fnRecRow, standIns := [], harness := (true, "49bf8dad034b94aa2c5db4392250c713fbb1f2d92d678c1335d87092848d183e"), looks := true }, kinds := [], alts := [], laidByText := true, laidKinds := [.handle], laidTests := true, laidLooks := .later }
def FnRecCardSaid : Prop := Claim7.holds Tryd.pinned (.plain (OpenSpec.ofChange fnRecSpec)) fnRecCard

/-- THE TIED CARD OF 'laws.FnExactRecRead'. -/
def fnExactRecReadCard : Claim7 := { stood := { row := fnExactRecReadRow, standIns := [], harness := (true, "49bf8dad034b94aa2c5db4392250c713fbb1f2d92d678c1335d87092848d183e"), looks := true }, kinds := [], alts := [], laidByText := true, laidKinds := [.handle], laidTests := true, laidLooks := .later }
def FnExactRecReadCardSaid : Prop := Claim7.holds Tryd.pinned (.plain (OpenSpec.ofChange fnExactRecReadSpec)) fnExactRecReadCard

/-- THE SECOND FORM's CARD OF 'laws.FnRec'. -/
def fnRecUptoCard : Claim7 := { stood := { row := fnRecUptoRow, standIns := [], harness := (true, "49bf8dad034b94aa2c5db4392250c713fbb1f2d92d678c1335d87092848d183e"), looks := true }, kinds := [], alts := [], laidByText := true, laidKinds := [.handle], laidTests := true, laidLooks := .later }
def FnRecUptoCardSaid : Prop := Claim7.holds Tryd.pinned (.plain (OpenSpec.upto fnRecSpec)) fnRecUptoCard

/-- THE SECOND FORM's CARD OF 'laws.FnExactRecRead'. -/
def fnExactRecReadUptoCard : Claim7 := { stood := { row := fnExactRecReadUptoRow, standIns := [], harness := (true, "49bf8dad034b94aa2c5db4392250c713fbb1f2d92d678c1335d87092848d183e"), looks := true }, kinds := [], alts := [], laidByText := true, laidKinds := [.handle], laidTests := true, laidLooks := .later }
def FnExactRecReadUptoCardSaid : Prop := Claim7.holds Tryd.pinned (.plain (OpenSpec.upto fnExactRecReadSpec)) fnExactRecReadUptoCard
end Rows
end Go.Proofs.YtllpmflkcfnknaaDoor
