/-
  DERIVED. GIVEN WITH THE SEED: THE CARDS: each row of YtfhcakpmlppbkaaGreatDoorRows.lean that lists a variable, with what it lists TIED to the program's text (the seventh form; the later family's looks); each row that meets fmt, with fmt's text TOLD by the authors' own Lean function (tested against real Go, not proved from fmt's source: count such statements apart). THE CARD IS WHAT COUNTS. Prove the row's statement (the work); the ties are given (YtfhcakpmlppbkaaGreatDoorTie.lean); close each card by the builder's one call (the guide's Derived/Test/ToyasCard.lean, 'card_holds'). Laid BY PROGRAM, IN A SANDBOX (cutbox-door.mjs). By AI agents, Wed Nov 11 2026. No macro, syntax, notation, axiom, sorry.
-/
import Derived.Test.YtfhcakpmlppbkaaGreatDoorRows
import GoSem.ClaimSeven
namespace Go.Proofs.YtfhcakpmlppbkaaGreatDoor
namespace Rows

/-- THE TIED CARD OF 'laws.FnSetTexts'. -/
def fnSetTextsCard : Claim7 := { stood := { row := fnSetTextsRow, standIns := [], harness := (true, "ff573939184802b3bd582743bb35c8d196cd6fa6d5735a7fa061b3aff92e3a44"), looks := false }, kinds := [], alts := [], laidByText := true, laidKinds := [.data, .data, .data, .data, .pinned], laidTests := true, laidLooks := .later }
def FnSetTextsCardSaid : Prop := Claim7.holds Tryz.pinned (.plain (OpenSpec.ofChange fnSetTextsSpec)) fnSetTextsCard

/-- THE TIED CARD OF 'laws.FnReignLists'. -/
def fnReignListsCard : Claim7 := { stood := { row := fnReignListsRow, standIns := [], harness := (true, "ff573939184802b3bd582743bb35c8d196cd6fa6d5735a7fa061b3aff92e3a44"), looks := false }, kinds := [], alts := [], laidByText := true, laidKinds := [.data, .data, .data], laidTests := true, laidLooks := .later }
def FnReignListsCardSaid : Prop := Claim7.holds Tryz.pinned (.plain (OpenSpec.ofChange fnReignListsSpec)) fnReignListsCard

/-- THE SECOND FORM's CARD OF 'laws.FnSetTexts'. -/
def fnSetTextsUptoCard : Claim7 := { stood := { row := fnSetTextsUptoRow, standIns := [], harness := (true, "ff573939184802b3bd582743bb35c8d196cd6fa6d5735a7fa061b3aff92e3a44"), looks := false }, kinds := [], alts := [], laidByText := true, laidKinds := [.data, .data, .data, .data, .pinned], laidTests := true, laidLooks := .later }
def FnSetTextsUptoCardSaid : Prop := Claim7.holds Tryz.pinned (.plain (OpenSpec.upto fnSetTextsSpec)) fnSetTextsUptoCard

/-- THE SECOND FORM's CARD OF 'laws.FnReignLists'. -/
def fnReignListsUptoCard : Claim7 := { stood := { row := fnReignListsUptoRow, standIns := [], harness := (true, "ff573939184802b3bd582743bb35c8d196cd6fa6d5735a7fa061b3aff92e3a44"), looks := false }, kinds := [], alts := [], laidByText := true, laidKinds := [.data, .data, .data], laidTests := true, laidLooks := .later }
def FnReignListsUptoCardSaid : Prop := Claim7.holds Tryz.pinned (.plain (OpenSpec.upto fnReignListsSpec)) fnReignListsUptoCard
end Rows
end Go.Proofs.YtfhcakpmlppbkaaGreatDoor
