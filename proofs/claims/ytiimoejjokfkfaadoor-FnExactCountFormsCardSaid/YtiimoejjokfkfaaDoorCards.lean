/-
  DERIVED. GIVEN WITH THE SEED: THE CARDS: each row of YtiimoejjokfkfaaDoorRows.lean that lists a variable, with what it lists TIED to the program's text (the seventh form; the later family's looks); each row that meets fmt, with fmt's text TOLD by the authors' own Lean function (tested against real Go, not proved from fmt's source: count such statements apart). THE CARD IS WHAT COUNTS. Prove the row's statement (the work); the ties are given (YtiimoejjokfkfaaDoorTie.lean); close each card by the builder's one call (the guide's Derived/Test/ToyasCard.lean, 'card_holds'). Laid BY PROGRAM, IN A SANDBOX (cutbox-door.mjs). By AI agents, Wed Nov 11 2026. No macro, syntax, notation, axiom, sorry.
-/
import Derived.Test.YtiimoejjokfkfaaDoorRows
import GoSem.ClaimSeven
namespace Go.Proofs.YtiimoejjokfkfaaDoor
namespace Rows

/-- THE TIED CARD OF 'laws.FnNumerals'. -/
def fnNumeralsCard : Claim7 := { stood := { row := fnNumeralsRow, standIns := [], harness := (true, "915ce06302f56cf4da8112afa2ff5921707e861ccf9fbdefac8849cbdf44b993"), looks := false }, kinds := [], alts := [], laidByText := true, laidKinds := [.data, .data, .data, .data, .pinned], laidTests := true, laidLooks := .later }
def FnNumeralsCardSaid : Prop := Claim7.holds Tryd.pinned (.plain (OpenSpec.ofChange fnNumeralsSpec)) fnNumeralsCard

/-- THE TIED CARD OF 'laws.FnExactReadNumeral'. -/
def fnExactReadNumeralCard : Claim7 := { stood := { row := fnExactReadNumeralRow, standIns := [], harness := (true, "915ce06302f56cf4da8112afa2ff5921707e861ccf9fbdefac8849cbdf44b993"), looks := false }, kinds := [], alts := [], laidByText := true, laidKinds := [.data, .pinned], laidTests := true, laidLooks := .later }
def FnExactReadNumeralCardSaid : Prop := Claim7.holds Tryd.pinned (.plain (OpenSpec.ofChange fnExactReadNumeralSpec)) fnExactReadNumeralCard

/-- THE TIED CARD OF 'laws.FnExactReadNumber'. -/
def fnExactReadNumberCard : Claim7 := { stood := { row := fnExactReadNumberRow, standIns := [], harness := (true, "915ce06302f56cf4da8112afa2ff5921707e861ccf9fbdefac8849cbdf44b993"), looks := false }, kinds := [], alts := [], laidByText := true, laidKinds := [.data, .data, .data, .data, .pinned], laidTests := true, laidLooks := .later }
def FnExactReadNumberCardSaid : Prop := Claim7.holds Tryd.pinned (.plain (OpenSpec.ofChange fnExactReadNumberSpec)) fnExactReadNumberCard

/-- THE TIED CARD OF 'laws.FnExactCountForms'. -/
def fnExactCountFormsCard : Claim7 := { stood := { row := fnExactCountFormsRow, standIns := [], harness := (true, "915ce06302f56cf4da8112afa2ff5921707e861ccf9fbdefac8849cbdf44b993"), looks := false }, kinds := [], alts := [], laidByText := true, laidKinds := [.data, .pinned], laidTests := true, laidLooks := .later }
def FnExactCountFormsCardSaid : Prop := Claim7.holds Tryd.pinned (.plain (OpenSpec.ofChange fnExactCountFormsSpec)) fnExactCountFormsCard

/-- THE SECOND FORM's CARD OF 'laws.FnNumerals'. -/
def fnNumeralsUptoCard : Claim7 := { stood := { row := fnNumeralsUptoRow, standIns := [], harness := (true, "915ce06302f56cf4da8112afa2ff5921707e861ccf9fbdefac8849cbdf44b993"), looks := false }, kinds := [], alts := [], laidByText := true, laidKinds := [.data, .data, .data, .data, .pinned], laidTests := true, laidLooks := .later }
def FnNumeralsUptoCardSaid : Prop := Claim7.holds Tryd.pinned (.plain (OpenSpec.upto fnNumeralsSpec)) fnNumeralsUptoCard

/-- THE SECOND FORM's CARD OF 'laws.FnExactReadNumeral'. -/
def fnExactReadNumeralUptoCard : Claim7 := { stood := { row := fnExactReadNumeralUptoRow, standIns := [], harness := (true, "915ce06302f56cf4da8112afa2ff5921707e861ccf9fbdefac8849cbdf44b993"), looks := false }, kinds := [], alts := [], laidByText := true, laidKinds := [.data, .pinned], laidTests := true, laidLooks := .later }
def FnExactReadNumeralUptoCardSaid : Prop := Claim7.holds Tryd.pinned (.plain (OpenSpec.upto fnExactReadNumeralSpec)) fnExactReadNumeralUptoCard

/-- THE SECOND FORM's CARD OF 'laws.FnExactReadNumber'. -/
def fnExactReadNumberUptoCard : Claim7 := { stood := { row := fnExactReadNumberUptoRow, standIns := [], harness := (true, "915ce06302f56cf4da8112afa2ff5921707e861ccf9fbdefac8849cbdf44b993"), looks := false }, kinds := [], alts := [], laidByText := true, laidKinds := [.data, .data, .data, .data, .pinned], laidTests := true, laidLooks := .later }
def FnExactReadNumberUptoCardSaid : Prop := Claim7.holds Tryd.pinned (.plain (OpenSpec.upto fnExactReadNumberSpec)) fnExactReadNumberUptoCard

/-- THE SECOND FORM's CARD OF 'laws.FnExactCountForms'. -/
def fnExactCountFormsUptoCard : Claim7 := { stood := { row := fnExactCountFormsUptoRow, standIns := [], harness := (true, "915ce06302f56cf4da8112afa2ff5921707e861ccf9fbdefac8849cbdf44b993"), looks := false }, kinds := [], alts := [], laidByText := true, laidKinds := [.data, .pinned], laidTests := true, laidLooks := .later }
def FnExactCountFormsUptoCardSaid : Prop := Claim7.holds Tryd.pinned (.plain (OpenSpec.upto fnExactCountFormsSpec)) fnExactCountFormsUptoCard
end Rows
end Go.Proofs.YtiimoejjokfkfaaDoor
