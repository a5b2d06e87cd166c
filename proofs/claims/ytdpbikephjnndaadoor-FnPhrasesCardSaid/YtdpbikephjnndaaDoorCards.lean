/-
  DERIVED. GIVEN WITH THE SEED: THE CARDS: each row of YtdpbikephjnndaaDoorRows.lean that lists a variable, with what it lists TIED to the program's text (the seventh form; the later family's looks); each row that meets fmt, with fmt's text TOLD by the authors' own Lean function (tested against real Go, not proved from fmt's source: count such statements apart). THE CARD IS WHAT COUNTS. Prove the row's statement (the work); the ties are given (YtdpbikephjnndaaDoorTie.lean); close each card by the builder's one call (the guide's Derived/Test/ToyasCard.lean, 'card_holds'). Laid BY PROGRAM, IN A SANDBOX (cutbox-door.mjs). By AI agents, Wed Nov 11 2026. No macro, syntax, notation, axiom, sorry.
-/
import Derived.Test.YtdpbikephjnndaaDoorRows
import GoSem.ClaimSeven
namespace Go.Proofs.YtdpbikephjnndaaDoor
namespace Rows

/-- THE TIED CARD OF 'laws.FnPhrases'. -/
def fnPhrasesCard : Claim7 := { stood := { row := fnPhrasesRow, standIns := [], harness := (true, "85b4e270df8f6b0ed4d79dc2cf8f3f1f537590bd610263dd85ae6c8623ae8a2d"), looks := false }, kinds := [], alts := [], laidByText := true, laidKinds := [.data, .pinned], laidTests := true, laidLooks := .later }
def FnPhrasesCardSaid : Prop := Claim7.holds Tryd.pinned (.plain (OpenSpec.ofChange fnPhrasesSpec)) fnPhrasesCard

/-- THE TIED CARD OF 'laws.FnExactSplitPhrase'. -/
def fnExactSplitPhraseCard : Claim7 := { stood := { row := fnExactSplitPhraseRow, standIns := [], harness := (true, "85b4e270df8f6b0ed4d79dc2cf8f3f1f537590bd610263dd85ae6c8623ae8a2d"), looks := false }, kinds := [], alts := [], laidByText := true, laidKinds := [.data, .pinned], laidTests := true, laidLooks := .later }
def FnExactSplitPhraseCardSaid : Prop := Claim7.holds Tryd.pinned (.plain (OpenSpec.ofChange fnExactSplitPhraseSpec)) fnExactSplitPhraseCard

/-- THE SECOND FORM's CARD OF 'laws.FnPhrases'. -/
def fnPhrasesUptoCard : Claim7 := { stood := { row := fnPhrasesUptoRow, standIns := [], harness := (true, "85b4e270df8f6b0ed4d79dc2cf8f3f1f537590bd610263dd85ae6c8623ae8a2d"), looks := false }, kinds := [], alts := [], laidByText := true, laidKinds := [.data, .pinned], laidTests := true, laidLooks := .later }
def FnPhrasesUptoCardSaid : Prop := Claim7.holds Tryd.pinned (.plain (OpenSpec.upto fnPhrasesSpec)) fnPhrasesUptoCard

/-- THE SECOND FORM's CARD OF 'laws.FnExactSplitPhrase'. -/
def fnExactSplitPhraseUptoCard : Claim7 := { stood := { row := fnExactSplitPhraseUptoRow, standIns := [], harness := (true, "85b4e270df8f6b0ed4d79dc2cf8f3f1f537590bd610263dd85ae6c8623ae8a2d"), looks := false }, kinds := [], alts := [], laidByText := true, laidKinds := [.data, .pinned], laidTests := true, laidLooks := .later }
def FnExactSplitPhraseUptoCardSaid : Prop := Claim7.holds Tryd.pinned (.plain (OpenSpec.upto fnExactSplitPhraseSpec)) fnExactSplitPhraseUptoCard
end Rows
end Go.Proofs.YtdpbikephjnndaaDoor
