/-
  DERIVED. GIVEN WITH THE SEED: THE CARDS: each row of YthbbccckccdekaaDoorRows.lean that lists a variable, with what it lists TIED to the program's text (the seventh form; the later family's looks); each row that meets fmt, with fmt's text TOLD by the authors' own Lean function (tested against real Go, not proved from fmt's source: count such statements apart). THE CARD IS WHAT COUNTS. Prove the row's statement (the work); the ties are given (YthbbccckccdekaaDoorTie.lean); close each card by the builder's one call (the guide's Derived/Test/ToyasCard.lean, 'card_holds'). Laid BY PROGRAM, IN A SANDBOX (cutbox-door.mjs). By AI agents, Wed Nov 11 2026. No macro, syntax, notation, axiom, sorry.
-/
import Derived.Test.YthbbccckccdekaaDoorRows
import GoSem.ClaimSeven
namespace Go.Proofs.YthbbccckccdekaaDoor
namespace Rows

/-- THE TIED CARD OF 'laws.FnExactRegnalText'. -/
def fnExactRegnalTextCard : Claim7 := { stood := { row := fnExactRegnalTextRow, standIns := [], harness := (true, "5c229926a3c2e7848abdf2053b73f53cb21c0dce0c2a4e0a68f029755326787c"), looks := false }, kinds := [], alts := [], laidByText := true, laidKinds := [.data, .data, .data], laidTests := true, laidLooks := .later }
def FnExactRegnalTextCardSaid : Prop := Claim7.holds Tryd.pinned (.plain (OpenSpec.ofChange fnExactRegnalTextSpec)) fnExactRegnalTextCard

/-- THE SECOND FORM's CARD OF 'laws.FnExactRegnalText'. -/
def fnExactRegnalTextUptoCard : Claim7 := { stood := { row := fnExactRegnalTextUptoRow, standIns := [], harness := (true, "5c229926a3c2e7848abdf2053b73f53cb21c0dce0c2a4e0a68f029755326787c"), looks := false }, kinds := [], alts := [], laidByText := true, laidKinds := [.data, .data, .data], laidTests := true, laidLooks := .later }
def FnExactRegnalTextUptoCardSaid : Prop := Claim7.holds Tryd.pinned (.plain (OpenSpec.upto fnExactRegnalTextSpec)) fnExactRegnalTextUptoCard
end Rows
end Go.Proofs.YthbbccckccdekaaDoor
