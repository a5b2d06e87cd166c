/-
  DERIVED. GIVEN WITH THE SEED: THE CARDS: each row of YthbbccckccdekaaGreatDoorRows.lean that lists a variable, with what it lists TIED to the program's text (the seventh form; the later family's looks); each row that meets fmt, with fmt's text TOLD by the authors' own Lean function (tested against real Go, not proved from fmt's source: count such statements apart). THE CARD IS WHAT COUNTS. Prove the row's statement (the work); the ties are given (YthbbccckccdekaaGreatDoorTie.lean); close each card by the builder's one call (the guide's Derived/Test/ToyasCard.lean, 'card_holds'). Laid BY PROGRAM, IN A SANDBOX (cutbox-door.mjs). By AI agents, Wed Nov 11 2026. No macro, syntax, notation, axiom, sorry.
-/
import Derived.Test.YthbbccckccdekaaGreatDoorRows
import GoSem.ClaimSeven
namespace Go.Proofs.YthbbccckccdekaaGreatDoor
namespace Rows

/-- THE TIED CARD OF 'laws.FnReignLists'. -/
def fnReignListsCard : Claim7 := { stood := { row := fnReignListsRow, standIns := [], harness := (true, "6bb774a3a73ca0555827b135cfc2d00361043b8abd613bf58babc4ce8b380122"), looks := false }, kinds := [], alts := [], laidByText := true, laidKinds := [.data, .data, .data], laidTests := true, laidLooks := .later }
def FnReignListsCardSaid : Prop := Claim7.holds Tryz.pinned (.plain (OpenSpec.ofChange fnReignListsSpec)) fnReignListsCard

/-- THE SECOND FORM's CARD OF 'laws.FnReignLists'. -/
def fnReignListsUptoCard : Claim7 := { stood := { row := fnReignListsUptoRow, standIns := [], harness := (true, "6bb774a3a73ca0555827b135cfc2d00361043b8abd613bf58babc4ce8b380122"), looks := false }, kinds := [], alts := [], laidByText := true, laidKinds := [.data, .data, .data], laidTests := true, laidLooks := .later }
def FnReignListsUptoCardSaid : Prop := Claim7.holds Tryz.pinned (.plain (OpenSpec.upto fnReignListsSpec)) fnReignListsUptoCard
end Rows
end Go.Proofs.YthbbccckccdekaaGreatDoor
