/-
  DERIVED. GIVEN WITH THE SEED: THE CARDS: each row of YtcjkdkaahkphfaaDoorRows.lean that lists a variable, with what it lists TIED to the program's text (the seventh form; the later family's looks); each row that meets fmt, with fmt's text TOLD by the authors' own Lean function (tested against real Go, not proved from fmt's source: count such statements apart). THE CARD IS WHAT COUNTS. Prove the row's statement (the work); the ties are given (YtcjkdkaahkphfaaDoorTie.lean); close each card by the builder's one call (the guide's Derived/Test/ToyasCard.lean, 'card_holds'). Laid BY PROGRAM, IN A SANDBOX (cutbox-door.mjs). By AI agents, Wed Nov 11 2026. No macro, syntax, notation, axiom, sorry.
-/
import Derived.Test.YtcjkdkaahkphfaaDoorRows
import GoSem.ClaimSeven
namespace Go.Proofs.YtcjkdkaahkphfaaDoor
namespace Rows

/-- THE TIED CARD OF 'laws.FnExactInsertSkip'. -/
def fnExactInsertSkipCard : Claim7 := { stood := { row := fnExactInsertSkipRow, standIns := [], harness := (true, "f3ba345ed3ffea7bb9a8160c71910311f37d57f5e9708d077ae085f0d4c9c2ca"), looks := false }, kinds := [], alts := [], laidByText := true, laidKinds := [.data, .data, .data], laidTests := true, laidLooks := .later }
def FnExactInsertSkipCardSaid : Prop := Claim7.holds Tryd.pinned (.plain (OpenSpec.ofChange fnExactInsertSkipSpec)) fnExactInsertSkipCard

/-- THE SECOND FORM's CARD OF 'laws.FnExactInsertSkip'. -/
def fnExactInsertSkipUptoCard : Claim7 := { stood := { row := fnExactInsertSkipUptoRow, standIns := [], harness := (true, "f3ba345ed3ffea7bb9a8160c71910311f37d57f5e9708d077ae085f0d4c9c2ca"), looks := false }, kinds := [], alts := [], laidByText := true, laidKinds := [.data, .data, .data], laidTests := true, laidLooks := .later }
def FnExactInsertSkipUptoCardSaid : Prop := Claim7.holds Tryd.pinned (.plain (OpenSpec.upto fnExactInsertSkipSpec)) fnExactInsertSkipUptoCard
end Rows
end Go.Proofs.YtcjkdkaahkphfaaDoor
