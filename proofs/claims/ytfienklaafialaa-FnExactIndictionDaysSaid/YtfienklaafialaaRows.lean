/-
  No cell of these rows narrows 'for every input' (looked for: loops, veiled, ifaces, maps, wideKeys, modest, calm, conditions, laid).
  DERIVED. THE GIVEN ROWS OF THIS SEAT. 10 by the template 'for every input the law returns true; each argument reads behind the call as it read before'; 0 by the template 'total and deterministic' (their statements: YtfienklaafialaaTotals.lean).
  GIVEN WITH THE SEED: the statements are not yours to turn. If you find one false, say at which input.
  Laid BY PROGRAM, IN A SANDBOX (cutbox-rows.mjs): the forced cells as the released guide's own fill.sh prints them over the translation 1a561d45dcb54b90… (all of the seat's roots in one cut). By AI agents, Wed Nov 11 2026. No macro, syntax, notation, axiom, sorry.
-/
import Derived.Test.YtfienklaafialaaChecked
import GoSem.Claim
import GoSem.ClaimJoined
import GoSem.ClaimMapViews
import Derived.JoinedTies
import Derived.KernelRfl
namespace Go.Proofs.Ytfienklaafialaa
/- THE CELL 'sum', in the pinned program and in every row, IS THE sha256 OF THE DUMP (.gsa) THAT YtfienklaafialaaProg.lean LOADS. Nothing in Lean hashes anything: it is a label: what it is worth is what the hold of that sum in a sandbox is worth. -/
noncomputable def Try.pinned : Pinned := { name := "ytfienklaafialaa", sum := "1a561d45dcb54b9083f5012f21793505caaa14b90def5ffdefbc79ac35307373", checked := Try.checked }
namespace Rows
def none {H : Type} : Left H := { results := [], args := [] }

/-- 'laws.FnIndictions': WHATEVER THE INPUT: true; the input reads as it did. -/
def fnIndictionsSpec : ChangeSpec := { name := "fnIndictions", fn := fun _ => fun
  | [d] => { results := [.lit (.bool true)], args := [d] }
  | _ => none }
def fnIndictionsRow : OpenClaim := { program := "ytfienklaafialaa", sum := "1a561d45dcb54b9083f5012f21793505caaa14b90def5ffdefbc79ac35307373", func := "loop.example/g01034/laws.FnIndictions", spec := "fnIndictions", unfollowed := true, recurses := true, plainKeys := false, apart := false }
def FnIndictionsSaid : Prop := fnIndictionsRow.holds Try.pinned (OpenSpec.ofChange fnIndictionsSpec)

/-- ITS FALSE NEIGHBOUR: 'it returns false'. Refute it at one input. -/
def fnIndictionsWrong : ChangeSpec := { name := "fnIndictions", fn := fun _ => fun
  | [d] => { results := [.lit (.bool false)], args := [d] }
  | _ => none }
def FnIndictionsWrongFalsely : Prop := fnIndictionsRow.holds Try.pinned (OpenSpec.ofChange fnIndictionsWrong)

/-- 'laws.FnYearMarks': WHATEVER THE INPUT: true; the input reads as it did. -/
def fnYearMarksSpec : ChangeSpec := { name := "fnYearMarks", fn := fun _ => fun
  | [d] => { results := [.lit (.bool true)], args := [d] }
  | _ => none }
def fnYearMarksRow : OpenClaim := { program := "ytfienklaafialaa", sum := "1a561d45dcb54b9083f5012f21793505caaa14b90def5ffdefbc79ac35307373", func := "loop.example/g01034/laws.FnYearMarks", spec := "fnYearMarks", unfollowed := true, recurses := true, plainKeys := false, apart := false }
def FnYearMarksSaid : Prop := fnYearMarksRow.holds Try.pinned (OpenSpec.ofChange fnYearMarksSpec)

/-- ITS FALSE NEIGHBOUR: 'it returns false'. Refute it at one input. -/
def fnYearMarksWrong : ChangeSpec := { name := "fnYearMarks", fn := fun _ => fun
  | [d] => { results := [.lit (.bool false)], args := [d] }
  | _ => none }
def FnYearMarksWrongFalsely : Prop := fnYearMarksRow.holds Try.pinned (OpenSpec.ofChange fnYearMarksWrong)

/-- 'laws.FnExactIndictionOf': WHATEVER THE INPUT: true; the input reads as it did. -/
def fnExactIndictionOfSpec : ChangeSpec := { name := "fnExactIndictionOf", fn := fun _ => fun
  | [d] => { results := [.lit (.bool true)], args := [d] }
  | _ => none }
def fnExactIndictionOfRow : OpenClaim := { program := "ytfienklaafialaa", sum := "1a561d45dcb54b9083f5012f21793505caaa14b90def5ffdefbc79ac35307373", func := "loop.example/g01034/laws.FnExactIndictionOf", spec := "fnExactIndictionOf", plainKeys := false, apart := false }
def FnExactIndictionOfSaid : Prop := fnExactIndictionOfRow.holds Try.pinned (OpenSpec.ofChange fnExactIndictionOfSpec)

/-- ITS FALSE NEIGHBOUR: 'it returns false'. Refute it at one input. -/
def fnExactIndictionOfWrong : ChangeSpec := { name := "fnExactIndictionOf", fn := fun _ => fun
  | [d] => { results := [.lit (.bool false)], args := [d] }
  | _ => none }
def FnExactIndictionOfWrongFalsely : Prop := fnExactIndictionOfRow.holds Try.pinned (OpenSpec.ofChange fnExactIndictionOfWrong)

/-- 'laws.FnExactIndictionOn': WHATEVER THE INPUT: true; the input reads as it did. -/
def fnExactIndictionOnSpec : ChangeSpec := { name := "fnExactIndictionOn", fn := fun _ => fun
  | [d1, d2] => { results := [.lit (.bool true)], args := [d1, d2] }
  | _ => none }
def fnExactIndictionOnRow : OpenClaim := { program := "ytfienklaafialaa", sum := "1a561d45dcb54b9083f5012f21793505caaa14b90def5ffdefbc79ac35307373", func := "loop.example/g01034/laws.FnExactIndictionOn", spec := "fnExactIndictionOn", plainKeys := false, apart := false }
def FnExactIndictionOnSaid : Prop := fnExactIndictionOnRow.holds Try.pinned (OpenSpec.ofChange fnExactIndictionOnSpec)

/-- ITS FALSE NEIGHBOUR: 'it returns false'. Refute it at one input. -/
def fnExactIndictionOnWrong : ChangeSpec := { name := "fnExactIndictionOn", fn := fun _ => fun
  | [d1, d2] => { results := [.lit (.bool false)], args := [d1, d2] }
  | _ => none }
def FnExactIndictionOnWrongFalsely : Prop := fnExactIndictionOnRow.holds Try.pinned (OpenSpec.ofChange fnExactIndictionOnWrong)

/-- 'laws.FnExactIndictionDays': WHATEVER THE INPUT: true; the input reads as it did. -/
def fnExactIndictionDaysSpec : ChangeSpec := { name := "fnExactIndictionDays", fn := fun _ => fun
  | [d1, d2, d3, d4] => { results := [.lit (.bool true)], args := [d1, d2, d3, d4] }
  | _ => none }
def fnExactIndictionDaysRow : OpenClaim := { program := "ytfienklaafialaa", sum := "1a561d45dcb54b9083f5012f21793505caaa14b90def5ffdefbc79ac35307373", func := "loop.example/g01034/laws.FnExactIndictionDays", spec := "fnExactIndictionDays", plainKeys := false, apart := false }
def FnExactIndictionDaysSaid : Prop := fnExactIndictionDaysRow.holds Try.pinned (OpenSpec.ofChange fnExactIndictionDaysSpec)

/-- ITS FALSE NEIGHBOUR: 'it returns false'. Refute it at one input. -/
def fnExactIndictionDaysWrong : ChangeSpec := { name := "fnExactIndictionDays", fn := fun _ => fun
  | [d1, d2, d3, d4] => { results := [.lit (.bool false)], args := [d1, d2, d3, d4] }
  | _ => none }
def FnExactIndictionDaysWrongFalsely : Prop := fnExactIndictionDaysRow.holds Try.pinned (OpenSpec.ofChange fnExactIndictionDaysWrong)

/-- 'laws.FnExactEpactOf': WHATEVER THE INPUT: true; the input reads as it did. -/
def fnExactEpactOfSpec : ChangeSpec := { name := "fnExactEpactOf", fn := fun _ => fun
  | [d] => { results := [.lit (.bool true)], args := [d] }
  | _ => none }
def fnExactEpactOfRow : OpenClaim := { program := "ytfienklaafialaa", sum := "1a561d45dcb54b9083f5012f21793505caaa14b90def5ffdefbc79ac35307373", func := "loop.example/g01034/laws.FnExactEpactOf", spec := "fnExactEpactOf", plainKeys := false, apart := false }
def FnExactEpactOfSaid : Prop := fnExactEpactOfRow.holds Try.pinned (OpenSpec.ofChange fnExactEpactOfSpec)

/-- ITS FALSE NEIGHBOUR: 'it returns false'. Refute it at one input. -/
def fnExactEpactOfWrong : ChangeSpec := { name := "fnExactEpactOf", fn := fun _ => fun
  | [d] => { results := [.lit (.bool false)], args := [d] }
  | _ => none }
def FnExactEpactOfWrongFalsely : Prop := fnExactEpactOfRow.holds Try.pinned (OpenSpec.ofChange fnExactEpactOfWrong)

/-- 'laws.FnExactConcurrentOf': WHATEVER THE INPUT: true; the input reads as it did. -/
def fnExactConcurrentOfSpec : ChangeSpec := { name := "fnExactConcurrentOf", fn := fun _ => fun
  | [d] => { results := [.lit (.bool true)], args := [d] }
  | _ => none }
def fnExactConcurrentOfRow : OpenClaim := { program := "ytfienklaafialaa", sum := "1a561d45dcb54b9083f5012f21793505caaa14b90def5ffdefbc79ac35307373", func := "loop.example/g01034/laws.FnExactConcurrentOf", spec := "fnExactConcurrentOf", plainKeys := false, apart := false }
def FnExactConcurrentOfSaid : Prop := fnExactConcurrentOfRow.holds Try.pinned (OpenSpec.ofChange fnExactConcurrentOfSpec)

/-- ITS FALSE NEIGHBOUR: 'it returns false'. Refute it at one input. -/
def fnExactConcurrentOfWrong : ChangeSpec := { name := "fnExactConcurrentOf", fn := fun _ => fun
  | [d] => { results := [.lit (.bool false)], args := [d] }
  | _ => none }
def FnExactConcurrentOfWrongFalsely : Prop := fnExactConcurrentOfRow.holds Try.pinned (OpenSpec.ofChange fnExactConcurrentOfWrong)

/-- 'laws.FnExactIsYearMark': WHATEVER THE INPUT: true; the input reads as it did. -/
def fnExactIsYearMarkSpec : ChangeSpec := { name := "fnExactIsYearMark", fn := fun _ => fun
  | [d] => { results := [.lit (.bool true)], args := [d] }
  | _ => none }
def fnExactIsYearMarkRow : OpenClaim := { program := "ytfienklaafialaa", sum := "1a561d45dcb54b9083f5012f21793505caaa14b90def5ffdefbc79ac35307373", func := "loop.example/g01034/laws.FnExactIsYearMark", spec := "fnExactIsYearMark", plainKeys := false, apart := false }
def FnExactIsYearMarkSaid : Prop := fnExactIsYearMarkRow.holds Try.pinned (OpenSpec.ofChange fnExactIsYearMarkSpec)

/-- ITS FALSE NEIGHBOUR: 'it returns false'. Refute it at one input. -/
def fnExactIsYearMarkWrong : ChangeSpec := { name := "fnExactIsYearMark", fn := fun _ => fun
  | [d] => { results := [.lit (.bool false)], args := [d] }
  | _ => none }
def FnExactIsYearMarkWrongFalsely : Prop := fnExactIsYearMarkRow.holds Try.pinned (OpenSpec.ofChange fnExactIsYearMarkWrong)

/-- 'laws.FnExactYearsMarked': WHATEVER THE INPUT: true; the input reads as it did. -/
def fnExactYearsMarkedSpec : ChangeSpec := { name := "fnExactYearsMarked", fn := fun _ => fun
  | [d1, d2, d3] => { results := [.lit (.bool true)], args := [d1, d2, d3] }
  | _ => none }
def fnExactYearsMarkedRow : OpenClaim := { program := "ytfienklaafialaa", sum := "1a561d45dcb54b9083f5012f21793505caaa14b90def5ffdefbc79ac35307373", func := "loop.example/g01034/laws.FnExactYearsMarked", spec := "fnExactYearsMarked", unfollowed := true, recurses := true, plainKeys := false, apart := false }
def FnExactYearsMarkedSaid : Prop := fnExactYearsMarkedRow.holds Try.pinned (OpenSpec.ofChange fnExactYearsMarkedSpec)

/-- ITS FALSE NEIGHBOUR: 'it returns false'. Refute it at one input. -/
def fnExactYearsMarkedWrong : ChangeSpec := { name := "fnExactYearsMarked", fn := fun _ => fun
  | [d1, d2, d3] => { results := [.lit (.bool false)], args := [d1, d2, d3] }
  | _ => none }
def FnExactYearsMarkedWrongFalsely : Prop := fnExactYearsMarkedRow.holds Try.pinned (OpenSpec.ofChange fnExactYearsMarkedWrong)

/-- 'laws.FnExactMarkOf': WHATEVER THE INPUT: true; the input reads as it did. -/
def fnExactMarkOfSpec : ChangeSpec := { name := "fnExactMarkOf", fn := fun _ => fun
  | [d] => { results := [.lit (.bool true)], args := [d] }
  | _ => none }
def fnExactMarkOfRow : OpenClaim := { program := "ytfienklaafialaa", sum := "1a561d45dcb54b9083f5012f21793505caaa14b90def5ffdefbc79ac35307373", func := "loop.example/g01034/laws.FnExactMarkOf", spec := "fnExactMarkOf", plainKeys := false, apart := false }
def FnExactMarkOfSaid : Prop := fnExactMarkOfRow.holds Try.pinned (OpenSpec.ofChange fnExactMarkOfSpec)

/-- ITS FALSE NEIGHBOUR: 'it returns false'. Refute it at one input. -/
def fnExactMarkOfWrong : ChangeSpec := { name := "fnExactMarkOf", fn := fun _ => fun
  | [d] => { results := [.lit (.bool false)], args := [d] }
  | _ => none }
def FnExactMarkOfWrongFalsely : Prop := fnExactMarkOfRow.holds Try.pinned (OpenSpec.ofChange fnExactMarkOfWrong)

/- THE SECOND FORM. 'bulk': how many values and letters a reading holds, each counted each time it is reached (what is shared counts as often as it is met; a slice's spare places count too). A statement '..UptoSaid' is the law's where the arguments, and the package variables that the reading takes, are together of bulk at most 1048576: NARROWER than '..Said'. Prove '..Said' where nothing that the law and all that it calls make is longer than what came in: it says more and counts as full. Else prove '..UptoSaid'. A law counts once. -/
mutual
def uptoBulk {H : Type} : DataW H → Nat
  | .lit (.string bytes) => bytes.length + 1
  | .lit _ => 1
  | .nil => 1
  | .ptr d => uptoBulk d + 1
  | .slice elems spare => uptoBulkAll elems + uptoBulkAll spare + 1
  | .agg parts => uptoBulkAll parts + 1
  | .iface _ d => uptoBulk d + 1
  | .map entries => uptoBulkEntries entries + 1
  | .held _ => 1
def uptoBulkAll {H : Type} : List (DataW H) → Nat
  | [] => 0
  | d :: r => uptoBulk d + uptoBulkAll r
def uptoBulkEntries {H : Type} : List (Lit × DataW H) → Nat
  | [] => 0
  | x :: r => uptoBulkEntry x + uptoBulkEntries r
def uptoBulkEntry {H : Type} : Lit × DataW H → Nat
  | (.string bytes, d) => bytes.length + uptoBulk d + 1
  | (_, d) => uptoBulk d + 1
 end
def uptoSmall : (H : Type) → List (DataW H) → Bool := fun _ ds => decide (uptoBulkAll ds ≤ 1048576)
def OpenSpec.upto (s : _root_.Go.ChangeSpec) : _root_.Go.OpenSpec := { _root_.Go.OpenSpec.ofChange s with cond := some uptoSmall }

/-- 'laws.FnIndictions', WHERE WHAT IT READS IS OF BULK AT MOST 1048576: true; the input reads as it did. -/
def fnIndictionsUptoRow : OpenClaim := { program := "ytfienklaafialaa", sum := "1a561d45dcb54b9083f5012f21793505caaa14b90def5ffdefbc79ac35307373", func := "loop.example/g01034/laws.FnIndictions", spec := "fnIndictions", unfollowed := true, recurses := true, plainKeys := false, apart := false, narrowed := true }
def FnIndictionsUptoSaid : Prop := fnIndictionsUptoRow.holds Try.pinned (OpenSpec.upto fnIndictionsSpec)

/-- 'laws.FnYearMarks', WHERE WHAT IT READS IS OF BULK AT MOST 1048576: true; the input reads as it did. -/
def fnYearMarksUptoRow : OpenClaim := { program := "ytfienklaafialaa", sum := "1a561d45dcb54b9083f5012f21793505caaa14b90def5ffdefbc79ac35307373", func := "loop.example/g01034/laws.FnYearMarks", spec := "fnYearMarks", unfollowed := true, recurses := true, plainKeys := false, apart := false, narrowed := true }
def FnYearMarksUptoSaid : Prop := fnYearMarksUptoRow.holds Try.pinned (OpenSpec.upto fnYearMarksSpec)

/-- 'laws.FnExactIndictionOf', WHERE WHAT IT READS IS OF BULK AT MOST 1048576: true; the input reads as it did. -/
def fnExactIndictionOfUptoRow : OpenClaim := { program := "ytfienklaafialaa", sum := "1a561d45dcb54b9083f5012f21793505caaa14b90def5ffdefbc79ac35307373", func := "loop.example/g01034/laws.FnExactIndictionOf", spec := "fnExactIndictionOf", plainKeys := false, apart := false, narrowed := true }
def FnExactIndictionOfUptoSaid : Prop := fnExactIndictionOfUptoRow.holds Try.pinned (OpenSpec.upto fnExactIndictionOfSpec)

/-- 'laws.FnExactIndictionOn', WHERE WHAT IT READS IS OF BULK AT MOST 1048576: true; the input reads as it did. -/
def fnExactIndictionOnUptoRow : OpenClaim := { program := "ytfienklaafialaa", sum := "1a561d45dcb54b9083f5012f21793505caaa14b90def5ffdefbc79ac35307373", func := "loop.example/g01034/laws.FnExactIndictionOn", spec := "fnExactIndictionOn", plainKeys := false, apart := false, narrowed := true }
def FnExactIndictionOnUptoSaid : Prop := fnExactIndictionOnUptoRow.holds Try.pinned (OpenSpec.upto fnExactIndictionOnSpec)

/-- 'laws.FnExactIndictionDays', WHERE WHAT IT READS IS OF BULK AT MOST 1048576: true; the input reads as it did. -/
def fnExactIndictionDaysUptoRow : OpenClaim := { program := "ytfienklaafialaa", sum := "1a561d45dcb54b9083f5012f21793505caaa14b90def5ffdefbc79ac35307373", func := "loop.example/g01034/laws.FnExactIndictionDays", spec := "fnExactIndictionDays", plainKeys := false, apart := false, narrowed := true }
def FnExactIndictionDaysUptoSaid : Prop := fnExactIndictionDaysUptoRow.holds Try.pinned (OpenSpec.upto fnExactIndictionDaysSpec)

/-- 'laws.FnExactEpactOf', WHERE WHAT IT READS IS OF BULK AT MOST 1048576: true; the input reads as it did. -/
def fnExactEpactOfUptoRow : OpenClaim := { program := "ytfienklaafialaa", sum := "1a561d45dcb54b9083f5012f21793505caaa14b90def5ffdefbc79ac35307373", func := "loop.example/g01034/laws.FnExactEpactOf", spec := "fnExactEpactOf", plainKeys := false, apart := false, narrowed := true }
def FnExactEpactOfUptoSaid : Prop := fnExactEpactOfUptoRow.holds Try.pinned (OpenSpec.upto fnExactEpactOfSpec)

/-- 'laws.FnExactConcurrentOf', WHERE WHAT IT READS IS OF BULK AT MOST 1048576: true; the input reads as it did. -/
def fnExactConcurrentOfUptoRow : OpenClaim := { program := "ytfienklaafialaa", sum := "1a561d45dcb54b9083f5012f21793505caaa14b90def5ffdefbc79ac35307373", func := "loop.example/g01034/laws.FnExactConcurrentOf", spec := "fnExactConcurrentOf", plainKeys := false, apart := false, narrowed := true }
def FnExactConcurrentOfUptoSaid : Prop := fnExactConcurrentOfUptoRow.holds Try.pinned (OpenSpec.upto fnExactConcurrentOfSpec)

/-- 'laws.FnExactIsYearMark', WHERE WHAT IT READS IS OF BULK AT MOST 1048576: true; the input reads as it did. -/
def fnExactIsYearMarkUptoRow : OpenClaim := { program := "ytfienklaafialaa", sum := "1a561d45dcb54b9083f5012f21793505caaa14b90def5ffdefbc79ac35307373", func := "loop.example/g01034/laws.FnExactIsYearMark", spec := "fnExactIsYearMark", plainKeys := false, apart := false, narrowed := true }
def FnExactIsYearMarkUptoSaid : Prop := fnExactIsYearMarkUptoRow.holds Try.pinned (OpenSpec.upto fnExactIsYearMarkSpec)

/-- 'laws.FnExactYearsMarked', WHERE WHAT IT READS IS OF BULK AT MOST 1048576: true; the input reads as it did. -/
def fnExactYearsMarkedUptoRow : OpenClaim := { program := "ytfienklaafialaa", sum := "1a561d45dcb54b9083f5012f21793505caaa14b90def5ffdefbc79ac35307373", func := "loop.example/g01034/laws.FnExactYearsMarked", spec := "fnExactYearsMarked", unfollowed := true, recurses := true, plainKeys := false, apart := false, narrowed := true }
def FnExactYearsMarkedUptoSaid : Prop := fnExactYearsMarkedUptoRow.holds Try.pinned (OpenSpec.upto fnExactYearsMarkedSpec)

/-- 'laws.FnExactMarkOf', WHERE WHAT IT READS IS OF BULK AT MOST 1048576: true; the input reads as it did. -/
def fnExactMarkOfUptoRow : OpenClaim := { program := "ytfienklaafialaa", sum := "1a561d45dcb54b9083f5012f21793505caaa14b90def5ffdefbc79ac35307373", func := "loop.example/g01034/laws.FnExactMarkOf", spec := "fnExactMarkOf", plainKeys := false, apart := false, narrowed := true }
def FnExactMarkOfUptoSaid : Prop := fnExactMarkOfUptoRow.holds Try.pinned (OpenSpec.upto fnExactMarkOfSpec)

end Rows
end Go.Proofs.Ytfienklaafialaa
