/-
  DERIVED. GIVEN WITH THE SEED: THE CARDS: each row of YtkmkfpglnmpnmaaDoorRows.lean that lists a variable, with what it lists TIED to the program's text (the seventh form; the later family's looks); each row that meets fmt, with fmt's text TOLD by the authors' own Lean function (tested against real Go, not proved from fmt's source: count such statements apart). THE CARD IS WHAT COUNTS. Prove the row's statement (the work); the ties are given (YtkmkfpglnmpnmaaDoorTie.lean); close each card by the builder's one call (the guide's Derived/Test/ToyasCard.lean, 'card_holds'). Laid BY PROGRAM, IN A SANDBOX (cutbox-door.mjs). By AI agents, Wed Nov 11 2026. No macro, syntax, notation, axiom, sorry.
-/
import Derived.Test.YtkmkfpglnmpnmaaDoorRows
import GoSem.ClaimSeven
namespace Go.Proofs.YtkmkfpglnmpnmaaDoor
namespace Rows

/-- THE TIED CARD OF 'laws.FnNewDays'. -/
def fnNewDaysCard : Claim7 := { stood := { row := fnNewDaysRow, standIns := [], harness := (true, "44100b93c5e0f4660941212d8090ae4deeee16e6c12e322f78aa388abfd8bf49"), looks := false }, kinds := [], alts := [], laidByText := true, laidKinds := [.data, .data, .data], laidTests := true, laidLooks := .later }
def FnNewDaysCardSaid : Prop := Claim7.holds Tryd.pinned (.plain (OpenSpec.ofChange fnNewDaysSpec)) fnNewDaysCard

/-- THE TIED CARD OF 'laws.FnExactDateText'. -/
def fnExactDateTextCard : Claim7 := { stood := { row := fnExactDateTextRow, standIns := [], harness := (true, "44100b93c5e0f4660941212d8090ae4deeee16e6c12e322f78aa388abfd8bf49"), looks := false }, kinds := [], alts := [], laidByText := true, laidKinds := [.data, .data, .data], laidTests := true, laidLooks := .later }
def FnExactDateTextCardSaid : Prop := Claim7.holds Tryd.pinned (.plain (OpenSpec.ofChange fnExactDateTextSpec)) fnExactDateTextCard

/-- THE SECOND FORM's CARD OF 'laws.FnNewDays'. -/
def fnNewDaysUptoCard : Claim7 := { stood := { row := fnNewDaysUptoRow, standIns := [], harness := (true, "44100b93c5e0f4660941212d8090ae4deeee16e6c12e322f78aa388abfd8bf49"), looks := false }, kinds := [], alts := [], laidByText := true, laidKinds := [.data, .data, .data], laidTests := true, laidLooks := .later }
def FnNewDaysUptoCardSaid : Prop := Claim7.holds Tryd.pinned (.plain (OpenSpec.upto fnNewDaysSpec)) fnNewDaysUptoCard

/-- THE SECOND FORM's CARD OF 'laws.FnExactDateText'. -/
def fnExactDateTextUptoCard : Claim7 := { stood := { row := fnExactDateTextUptoRow, standIns := [], harness := (true, "44100b93c5e0f4660941212d8090ae4deeee16e6c12e322f78aa388abfd8bf49"), looks := false }, kinds := [], alts := [], laidByText := true, laidKinds := [.data, .data, .data], laidTests := true, laidLooks := .later }
def FnExactDateTextUptoCardSaid : Prop := Claim7.holds Tryd.pinned (.plain (OpenSpec.upto fnExactDateTextSpec)) fnExactDateTextUptoCard
end Rows
end Go.Proofs.YtkmkfpglnmpnmaaDoor
