/-
  DERIVED. GIVEN WITH THE SEED: THE CARDS: each row of YtfhcakpmlppbkaaDoorRows.lean that lists a variable, with what it lists TIED to the program's text (the seventh form; the later family's looks); each row that meets fmt, with fmt's text TOLD by the authors' own Lean function (tested against real Go, not proved from fmt's source: count such statements apart). THE CARD IS WHAT COUNTS. Prove the row's statement (the work); the ties are given (YtfhcakpmlppbkaaDoorTie.lean); close each card by the builder's one call (the guide's Derived/Test/ToyasCard.lean, 'card_holds'). Laid BY PROGRAM, IN A SANDBOX (cutbox-door.mjs). By AI agents, Wed Nov 11 2026. No macro, syntax, notation, axiom, sorry.
-/
import Derived.Test.YtfhcakpmlppbkaaDoorRows
import GoSem.ClaimSeven
namespace Go.Proofs.YtfhcakpmlppbkaaDoor
namespace Rows

/-- THE TIED CARD OF 'laws.FnExactReadSet'. -/
def fnExactReadSetCard : Claim7 := { stood := { row := fnExactReadSetRow, standIns := [], harness := (true, "c10678ef12aaec5f5d5d4dae6ef29142a8d748ca91c751bf4842c0a4b835f732"), looks := false }, kinds := [], alts := [], laidByText := true, laidKinds := [.data, .data, .data, .data, .pinned], laidTests := true, laidLooks := .later }
def FnExactReadSetCardSaid : Prop := Claim7.holds Tryd.pinned (.plain (OpenSpec.ofChange fnExactReadSetSpec)) fnExactReadSetCard

/-- THE TIED CARD OF 'laws.FnExactRegnalText'. -/
def fnExactRegnalTextCard : Claim7 := { stood := { row := fnExactRegnalTextRow, standIns := [], harness := (true, "c10678ef12aaec5f5d5d4dae6ef29142a8d748ca91c751bf4842c0a4b835f732"), looks := false }, kinds := [], alts := [], laidByText := true, laidKinds := [.data, .data, .data], laidTests := true, laidLooks := .later }
def FnExactRegnalTextCardSaid : Prop := Claim7.holds Tryd.pinned (.plain (OpenSpec.ofChange fnExactRegnalTextSpec)) fnExactRegnalTextCard

/-- THE SECOND FORM's CARD OF 'laws.FnExactReadSet'. -/
def fnExactReadSetUptoCard : Claim7 := { stood := { row := fnExactReadSetUptoRow, standIns := [], harness := (true, "c10678ef12aaec5f5d5d4dae6ef29142a8d748ca91c751bf4842c0a4b835f732"), looks := false }, kinds := [], alts := [], laidByText := true, laidKinds := [.data, .data, .data, .data, .pinned], laidTests := true, laidLooks := .later }
def FnExactReadSetUptoCardSaid : Prop := Claim7.holds Tryd.pinned (.plain (OpenSpec.upto fnExactReadSetSpec)) fnExactReadSetUptoCard

/-- THE SECOND FORM's CARD OF 'laws.FnExactRegnalText'. -/
def fnExactRegnalTextUptoCard : Claim7 := { stood := { row := fnExactRegnalTextUptoRow, standIns := [], harness := (true, "c10678ef12aaec5f5d5d4dae6ef29142a8d748ca91c751bf4842c0a4b835f732"), looks := false }, kinds := [], alts := [], laidByText := true, laidKinds := [.data, .data, .data], laidTests := true, laidLooks := .later }
def FnExactRegnalTextUptoCardSaid : Prop := Claim7.holds Tryd.pinned (.plain (OpenSpec.upto fnExactRegnalTextSpec)) fnExactRegnalTextUptoCard
end Rows
end Go.Proofs.YtfhcakpmlppbkaaDoor
