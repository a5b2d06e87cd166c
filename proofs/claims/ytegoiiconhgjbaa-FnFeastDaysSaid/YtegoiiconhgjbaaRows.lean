/-
  No cell of these rows narrows 'for every input' (looked for: loops, veiled, ifaces, maps, wideKeys, modest, calm, conditions, laid).
  DERIVED. THE GIVEN ROWS OF THIS SEAT. 15 by the template 'for every input the law returns true; each argument reads behind the call as it read before'; 0 by the template 'total and deterministic' (their statements: YtegoiiconhgjbaaTotals.lean).
  GIVEN WITH THE SEED: the statements are not yours to turn. If you find one false, say at which input.
  Laid BY PROGRAM, IN A SANDBOX (cutbox-rows.mjs): the forced cells as the released guide's own fill.sh prints them over the translation f72b5bc6ba67a333… (all of the seat's roots in one cut). By AI agents, Wed Nov 11 2026. No macro, syntax, notation, axiom, sorry.
-/
import Derived.Test.YtegoiiconhgjbaaChecked
import GoSem.Claim
import GoSem.ClaimJoined
import GoSem.ClaimMapViews
import Derived.JoinedTies
import Derived.KernelRfl
namespace Go.Proofs.Ytegoiiconhgjbaa
/- THE CELL 'sum', in the pinned program and in every row, IS THE sha256 OF THE DUMP (.gsa) THAT YtegoiiconhgjbaaProg.lean LOADS. Nothing in Lean hashes anything: it is a label: what it is worth is what the hold of that sum in a sandbox is worth. -/
noncomputable def Try.pinned : Pinned := { name := "ytegoiiconhgjbaa", sum := "f72b5bc6ba67a333960c4c008ff044745ca5ed81c9ef40b8edbf7c4ed4161c08", checked := Try.checked }
namespace Rows
def none {H : Type} : Left H := { results := [], args := [] }

/-- 'laws.FnLetters': WHATEVER THE INPUT: true; the input reads as it did. -/
def fnLettersSpec : ChangeSpec := { name := "fnLetters", fn := fun _ => fun
  | [d] => { results := [.lit (.bool true)], args := [d] }
  | _ => none }
def fnLettersRow : OpenClaim := { program := "ytegoiiconhgjbaa", sum := "f72b5bc6ba67a333960c4c008ff044745ca5ed81c9ef40b8edbf7c4ed4161c08", func := "loop.example/g01034/laws.FnLetters", spec := "fnLetters", apart := false }
def FnLettersSaid : Prop := fnLettersRow.holds Try.pinned (OpenSpec.ofChange fnLettersSpec)

/-- ITS FALSE NEIGHBOUR: 'it returns false'. Refute it at one input. -/
def fnLettersWrong : ChangeSpec := { name := "fnLetters", fn := fun _ => fun
  | [d] => { results := [.lit (.bool false)], args := [d] }
  | _ => none }
def FnLettersWrongFalsely : Prop := fnLettersRow.holds Try.pinned (OpenSpec.ofChange fnLettersWrong)

/-- 'laws.FnFeasts': WHATEVER THE INPUT: true; the input reads as it did. -/
def fnFeastsSpec : ChangeSpec := { name := "fnFeasts", fn := fun _ => fun
  | [d] => { results := [.lit (.bool true)], args := [d] }
  | _ => none }
def fnFeastsRow : OpenClaim := { program := "ytegoiiconhgjbaa", sum := "f72b5bc6ba67a333960c4c008ff044745ca5ed81c9ef40b8edbf7c4ed4161c08", func := "loop.example/g01034/laws.FnFeasts", spec := "fnFeasts", unfollowed := true, recurses := true, apart := false }
def FnFeastsSaid : Prop := fnFeastsRow.holds Try.pinned (OpenSpec.ofChange fnFeastsSpec)

/-- ITS FALSE NEIGHBOUR: 'it returns false'. Refute it at one input. -/
def fnFeastsWrong : ChangeSpec := { name := "fnFeasts", fn := fun _ => fun
  | [d] => { results := [.lit (.bool false)], args := [d] }
  | _ => none }
def FnFeastsWrongFalsely : Prop := fnFeastsRow.holds Try.pinned (OpenSpec.ofChange fnFeastsWrong)

/-- 'laws.FnFeastDays': WHATEVER THE INPUT: true; the input reads as it did. -/
def fnFeastDaysSpec : ChangeSpec := { name := "fnFeastDays", fn := fun _ => fun
  | [d] => { results := [.lit (.bool true)], args := [d] }
  | _ => none }
def fnFeastDaysRow : OpenClaim := { program := "ytegoiiconhgjbaa", sum := "f72b5bc6ba67a333960c4c008ff044745ca5ed81c9ef40b8edbf7c4ed4161c08", func := "loop.example/g01034/laws.FnFeastDays", spec := "fnFeastDays", unfollowed := true, recurses := true, apart := false }
def FnFeastDaysSaid : Prop := fnFeastDaysRow.holds Try.pinned (OpenSpec.ofChange fnFeastDaysSpec)

/-- ITS FALSE NEIGHBOUR: 'it returns false'. Refute it at one input. -/
def fnFeastDaysWrong : ChangeSpec := { name := "fnFeastDays", fn := fun _ => fun
  | [d] => { results := [.lit (.bool false)], args := [d] }
  | _ => none }
def FnFeastDaysWrongFalsely : Prop := fnFeastDaysRow.holds Try.pinned (OpenSpec.ofChange fnFeastDaysWrong)

/-- 'laws.FnExactOldEaster': WHATEVER THE INPUT: true; the input reads as it did. -/
def fnExactOldEasterSpec : ChangeSpec := { name := "fnExactOldEaster", fn := fun _ => fun
  | [d] => { results := [.lit (.bool true)], args := [d] }
  | _ => none }
def fnExactOldEasterRow : OpenClaim := { program := "ytegoiiconhgjbaa", sum := "f72b5bc6ba67a333960c4c008ff044745ca5ed81c9ef40b8edbf7c4ed4161c08", func := "loop.example/g01034/laws.FnExactOldEaster", spec := "fnExactOldEaster", apart := false }
def FnExactOldEasterSaid : Prop := fnExactOldEasterRow.holds Try.pinned (OpenSpec.ofChange fnExactOldEasterSpec)

/-- ITS FALSE NEIGHBOUR: 'it returns false'. Refute it at one input. -/
def fnExactOldEasterWrong : ChangeSpec := { name := "fnExactOldEaster", fn := fun _ => fun
  | [d] => { results := [.lit (.bool false)], args := [d] }
  | _ => none }
def FnExactOldEasterWrongFalsely : Prop := fnExactOldEasterRow.holds Try.pinned (OpenSpec.ofChange fnExactOldEasterWrong)

/-- 'laws.FnExactNewEaster': WHATEVER THE INPUT: true; the input reads as it did. -/
def fnExactNewEasterSpec : ChangeSpec := { name := "fnExactNewEaster", fn := fun _ => fun
  | [d] => { results := [.lit (.bool true)], args := [d] }
  | _ => none }
def fnExactNewEasterRow : OpenClaim := { program := "ytegoiiconhgjbaa", sum := "f72b5bc6ba67a333960c4c008ff044745ca5ed81c9ef40b8edbf7c4ed4161c08", func := "loop.example/g01034/laws.FnExactNewEaster", spec := "fnExactNewEaster", apart := false }
def FnExactNewEasterSaid : Prop := fnExactNewEasterRow.holds Try.pinned (OpenSpec.ofChange fnExactNewEasterSpec)

/-- ITS FALSE NEIGHBOUR: 'it returns false'. Refute it at one input. -/
def fnExactNewEasterWrong : ChangeSpec := { name := "fnExactNewEaster", fn := fun _ => fun
  | [d] => { results := [.lit (.bool false)], args := [d] }
  | _ => none }
def FnExactNewEasterWrongFalsely : Prop := fnExactNewEasterRow.holds Try.pinned (OpenSpec.ofChange fnExactNewEasterWrong)

/-- 'laws.FnExactEasterTerm': WHATEVER THE INPUT: true; the input reads as it did. -/
def fnExactEasterTermSpec : ChangeSpec := { name := "fnExactEasterTerm", fn := fun _ => fun
  | [d] => { results := [.lit (.bool true)], args := [d] }
  | _ => none }
def fnExactEasterTermRow : OpenClaim := { program := "ytegoiiconhgjbaa", sum := "f72b5bc6ba67a333960c4c008ff044745ca5ed81c9ef40b8edbf7c4ed4161c08", func := "loop.example/g01034/laws.FnExactEasterTerm", spec := "fnExactEasterTerm", apart := false }
def FnExactEasterTermSaid : Prop := fnExactEasterTermRow.holds Try.pinned (OpenSpec.ofChange fnExactEasterTermSpec)

/-- ITS FALSE NEIGHBOUR: 'it returns false'. Refute it at one input. -/
def fnExactEasterTermWrong : ChangeSpec := { name := "fnExactEasterTerm", fn := fun _ => fun
  | [d] => { results := [.lit (.bool false)], args := [d] }
  | _ => none }
def FnExactEasterTermWrongFalsely : Prop := fnExactEasterTermRow.holds Try.pinned (OpenSpec.ofChange fnExactEasterTermWrong)

/-- 'laws.FnExactYearsWithEaster': WHATEVER THE INPUT: true; the input reads as it did. -/
def fnExactYearsWithEasterSpec : ChangeSpec := { name := "fnExactYearsWithEaster", fn := fun _ => fun
  | [d1, d2, d3, d4] => { results := [.lit (.bool true)], args := [d1, d2, d3, d4] }
  | _ => none }
def fnExactYearsWithEasterRow : OpenClaim := { program := "ytegoiiconhgjbaa", sum := "f72b5bc6ba67a333960c4c008ff044745ca5ed81c9ef40b8edbf7c4ed4161c08", func := "loop.example/g01034/laws.FnExactYearsWithEaster", spec := "fnExactYearsWithEaster", apart := false }
def FnExactYearsWithEasterSaid : Prop := fnExactYearsWithEasterRow.holds Try.pinned (OpenSpec.ofChange fnExactYearsWithEasterSpec)

/-- ITS FALSE NEIGHBOUR: 'it returns false'. Refute it at one input. -/
def fnExactYearsWithEasterWrong : ChangeSpec := { name := "fnExactYearsWithEaster", fn := fun _ => fun
  | [d1, d2, d3, d4] => { results := [.lit (.bool false)], args := [d1, d2, d3, d4] }
  | _ => none }
def FnExactYearsWithEasterWrongFalsely : Prop := fnExactYearsWithEasterRow.holds Try.pinned (OpenSpec.ofChange fnExactYearsWithEasterWrong)

/-- 'laws.FnExactFeastName': WHATEVER THE INPUT: true; the input reads as it did. -/
def fnExactFeastNameSpec : ChangeSpec := { name := "fnExactFeastName", fn := fun _ => fun
  | [d] => { results := [.lit (.bool true)], args := [d] }
  | _ => none }
def fnExactFeastNameRow : OpenClaim := { program := "ytegoiiconhgjbaa", sum := "f72b5bc6ba67a333960c4c008ff044745ca5ed81c9ef40b8edbf7c4ed4161c08", func := "loop.example/g01034/laws.FnExactFeastName", spec := "fnExactFeastName", apart := false }
def FnExactFeastNameSaid : Prop := fnExactFeastNameRow.holds Try.pinned (OpenSpec.ofChange fnExactFeastNameSpec)

/-- ITS FALSE NEIGHBOUR: 'it returns false'. Refute it at one input. -/
def fnExactFeastNameWrong : ChangeSpec := { name := "fnExactFeastName", fn := fun _ => fun
  | [d] => { results := [.lit (.bool false)], args := [d] }
  | _ => none }
def FnExactFeastNameWrongFalsely : Prop := fnExactFeastNameRow.holds Try.pinned (OpenSpec.ofChange fnExactFeastNameWrong)

/-- 'laws.FnExactFeastNamed': WHATEVER THE INPUT: true; the input reads as it did. -/
def fnExactFeastNamedSpec : ChangeSpec := { name := "fnExactFeastNamed", fn := fun _ => fun
  | [d] => { results := [.lit (.bool true)], args := [d] }
  | _ => none }
def fnExactFeastNamedRow : OpenClaim := { program := "ytegoiiconhgjbaa", sum := "f72b5bc6ba67a333960c4c008ff044745ca5ed81c9ef40b8edbf7c4ed4161c08", func := "loop.example/g01034/laws.FnExactFeastNamed", spec := "fnExactFeastNamed", apart := false }
def FnExactFeastNamedSaid : Prop := fnExactFeastNamedRow.holds Try.pinned (OpenSpec.ofChange fnExactFeastNamedSpec)

/-- ITS FALSE NEIGHBOUR: 'it returns false'. Refute it at one input. -/
def fnExactFeastNamedWrong : ChangeSpec := { name := "fnExactFeastNamed", fn := fun _ => fun
  | [d] => { results := [.lit (.bool false)], args := [d] }
  | _ => none }
def FnExactFeastNamedWrongFalsely : Prop := fnExactFeastNamedRow.holds Try.pinned (OpenSpec.ofChange fnExactFeastNamedWrong)

/-- 'laws.FnExactFeastDay': WHATEVER THE INPUT: true; the input reads as it did. -/
def fnExactFeastDaySpec : ChangeSpec := { name := "fnExactFeastDay", fn := fun _ => fun
  | [d1, d2] => { results := [.lit (.bool true)], args := [d1, d2] }
  | _ => none }
def fnExactFeastDayRow : OpenClaim := { program := "ytegoiiconhgjbaa", sum := "f72b5bc6ba67a333960c4c008ff044745ca5ed81c9ef40b8edbf7c4ed4161c08", func := "loop.example/g01034/laws.FnExactFeastDay", spec := "fnExactFeastDay", unfollowed := true, recurses := true, apart := false }
def FnExactFeastDaySaid : Prop := fnExactFeastDayRow.holds Try.pinned (OpenSpec.ofChange fnExactFeastDaySpec)

/-- ITS FALSE NEIGHBOUR: 'it returns false'. Refute it at one input. -/
def fnExactFeastDayWrong : ChangeSpec := { name := "fnExactFeastDay", fn := fun _ => fun
  | [d1, d2] => { results := [.lit (.bool false)], args := [d1, d2] }
  | _ => none }
def FnExactFeastDayWrongFalsely : Prop := fnExactFeastDayRow.holds Try.pinned (OpenSpec.ofChange fnExactFeastDayWrong)

/-- 'laws.FnExactRelatedDay': WHATEVER THE INPUT: true; the input reads as it did. -/
def fnExactRelatedDaySpec : ChangeSpec := { name := "fnExactRelatedDay", fn := fun _ => fun
  | [d1, d2, d3, d4] => { results := [.lit (.bool true)], args := [d1, d2, d3, d4] }
  | _ => none }
def fnExactRelatedDayRow : OpenClaim := { program := "ytegoiiconhgjbaa", sum := "f72b5bc6ba67a333960c4c008ff044745ca5ed81c9ef40b8edbf7c4ed4161c08", func := "loop.example/g01034/laws.FnExactRelatedDay", spec := "fnExactRelatedDay", unfollowed := true, recurses := true, apart := false }
def FnExactRelatedDaySaid : Prop := fnExactRelatedDayRow.holds Try.pinned (OpenSpec.ofChange fnExactRelatedDaySpec)

/-- ITS FALSE NEIGHBOUR: 'it returns false'. Refute it at one input. -/
def fnExactRelatedDayWrong : ChangeSpec := { name := "fnExactRelatedDay", fn := fun _ => fun
  | [d1, d2, d3, d4] => { results := [.lit (.bool false)], args := [d1, d2, d3, d4] }
  | _ => none }
def FnExactRelatedDayWrongFalsely : Prop := fnExactRelatedDayRow.holds Try.pinned (OpenSpec.ofChange fnExactRelatedDayWrong)

/-- 'laws.FnExactFeastsOn': WHATEVER THE INPUT: true; the input reads as it did. -/
def fnExactFeastsOnSpec : ChangeSpec := { name := "fnExactFeastsOn", fn := fun _ => fun
  | [d] => { results := [.lit (.bool true)], args := [d] }
  | _ => none }
def fnExactFeastsOnRow : OpenClaim := { program := "ytegoiiconhgjbaa", sum := "f72b5bc6ba67a333960c4c008ff044745ca5ed81c9ef40b8edbf7c4ed4161c08", func := "loop.example/g01034/laws.FnExactFeastsOn", spec := "fnExactFeastsOn", unfollowed := true, recurses := true, apart := false }
def FnExactFeastsOnSaid : Prop := fnExactFeastsOnRow.holds Try.pinned (OpenSpec.ofChange fnExactFeastsOnSpec)

/-- ITS FALSE NEIGHBOUR: 'it returns false'. Refute it at one input. -/
def fnExactFeastsOnWrong : ChangeSpec := { name := "fnExactFeastsOn", fn := fun _ => fun
  | [d] => { results := [.lit (.bool false)], args := [d] }
  | _ => none }
def FnExactFeastsOnWrongFalsely : Prop := fnExactFeastsOnRow.holds Try.pinned (OpenSpec.ofChange fnExactFeastsOnWrong)

/-- 'laws.FnExactNextFeast': WHATEVER THE INPUT: true; the input reads as it did. -/
def fnExactNextFeastSpec : ChangeSpec := { name := "fnExactNextFeast", fn := fun _ => fun
  | [d] => { results := [.lit (.bool true)], args := [d] }
  | _ => none }
def fnExactNextFeastRow : OpenClaim := { program := "ytegoiiconhgjbaa", sum := "f72b5bc6ba67a333960c4c008ff044745ca5ed81c9ef40b8edbf7c4ed4161c08", func := "loop.example/g01034/laws.FnExactNextFeast", spec := "fnExactNextFeast", unfollowed := true, recurses := true, apart := false }
def FnExactNextFeastSaid : Prop := fnExactNextFeastRow.holds Try.pinned (OpenSpec.ofChange fnExactNextFeastSpec)

/-- ITS FALSE NEIGHBOUR: 'it returns false'. Refute it at one input. -/
def fnExactNextFeastWrong : ChangeSpec := { name := "fnExactNextFeast", fn := fun _ => fun
  | [d] => { results := [.lit (.bool false)], args := [d] }
  | _ => none }
def FnExactNextFeastWrongFalsely : Prop := fnExactNextFeastRow.holds Try.pinned (OpenSpec.ofChange fnExactNextFeastWrong)

/-- 'laws.FnExactNearestFeast': WHATEVER THE INPUT: true; the input reads as it did. -/
def fnExactNearestFeastSpec : ChangeSpec := { name := "fnExactNearestFeast", fn := fun _ => fun
  | [d] => { results := [.lit (.bool true)], args := [d] }
  | _ => none }
def fnExactNearestFeastRow : OpenClaim := { program := "ytegoiiconhgjbaa", sum := "f72b5bc6ba67a333960c4c008ff044745ca5ed81c9ef40b8edbf7c4ed4161c08", func := "loop.example/g01034/laws.FnExactNearestFeast", spec := "fnExactNearestFeast", unfollowed := true, recurses := true, apart := false }
def FnExactNearestFeastSaid : Prop := fnExactNearestFeastRow.holds Try.pinned (OpenSpec.ofChange fnExactNearestFeastSpec)

/-- ITS FALSE NEIGHBOUR: 'it returns false'. Refute it at one input. -/
def fnExactNearestFeastWrong : ChangeSpec := { name := "fnExactNearestFeast", fn := fun _ => fun
  | [d] => { results := [.lit (.bool false)], args := [d] }
  | _ => none }
def FnExactNearestFeastWrongFalsely : Prop := fnExactNearestFeastRow.holds Try.pinned (OpenSpec.ofChange fnExactNearestFeastWrong)

/-- 'laws.FnExactFeastDays': WHATEVER THE INPUT: true; the input reads as it did. -/
def fnExactFeastDaysSpec : ChangeSpec := { name := "fnExactFeastDays", fn := fun _ => fun
  | [d1, d2, d3, d4, d5] => { results := [.lit (.bool true)], args := [d1, d2, d3, d4, d5] }
  | _ => none }
def fnExactFeastDaysRow : OpenClaim := { program := "ytegoiiconhgjbaa", sum := "f72b5bc6ba67a333960c4c008ff044745ca5ed81c9ef40b8edbf7c4ed4161c08", func := "loop.example/g01034/laws.FnExactFeastDays", spec := "fnExactFeastDays", unfollowed := true, recurses := true, apart := false }
def FnExactFeastDaysSaid : Prop := fnExactFeastDaysRow.holds Try.pinned (OpenSpec.ofChange fnExactFeastDaysSpec)

/-- ITS FALSE NEIGHBOUR: 'it returns false'. Refute it at one input. -/
def fnExactFeastDaysWrong : ChangeSpec := { name := "fnExactFeastDays", fn := fun _ => fun
  | [d1, d2, d3, d4, d5] => { results := [.lit (.bool false)], args := [d1, d2, d3, d4, d5] }
  | _ => none }
def FnExactFeastDaysWrongFalsely : Prop := fnExactFeastDaysRow.holds Try.pinned (OpenSpec.ofChange fnExactFeastDaysWrong)

/- THE SECOND FORM. 'bulk': how many values and letters a reading holds, each counted each time it is reached (what is shared counts as often as it is met; a slice's spare places count too). A statement '..UptoSaid' is the law's where the arguments, and the package variables that the reading takes, are together of bulk at most 1048576: NARROWER than '..Said'. Prove '..Said' where nothing that the law and all that it calls make is longer than what came in: it says more and counts as full. Else prove '..UptoSaid'. A law counts once. -/
mutual
def uptoBulk {H : Type} : DataW H → Nat
  | .lit (.string bytes) => bytes.length + 1
  | .lit _ => 1
  | .nil => 1
  | .ptr d => uptoBulk d + 1
  | .slice elems spare => uptoBulkAll elems + uptoBulkAll spare + 1
  | .agg parts => uptoBulkAll parts + 1
  | .iface _ d => uptoBulk d + 1
  | .map entries => uptoBulkEntries entries + 1
  | .held _ => 1
def uptoBulkAll {H : Type} : List (DataW H) → Nat
  | [] => 0
  | d :: r => uptoBulk d + uptoBulkAll r
def uptoBulkEntries {H : Type} : List (Lit × DataW H) → Nat
  | [] => 0
  | x :: r => uptoBulkEntry x + uptoBulkEntries r
def uptoBulkEntry {H : Type} : Lit × DataW H → Nat
  | (.string bytes, d) => bytes.length + uptoBulk d + 1
  | (_, d) => uptoBulk d + 1
 end
def uptoSmall : (H : Type) → List (DataW H) → Bool := fun _ ds => decide (uptoBulkAll ds ≤ 1048576)
def OpenSpec.upto (s : _root_.Go.ChangeSpec) : _root_.Go.OpenSpec := { _root_.Go.OpenSpec.ofChange s with cond := some uptoSmall }

/-- 'laws.FnLetters', WHERE WHAT IT READS IS OF BULK AT MOST 1048576: true; the input reads as it did. -/
def fnLettersUptoRow : OpenClaim := { program := "ytegoiiconhgjbaa", sum := "f72b5bc6ba67a333960c4c008ff044745ca5ed81c9ef40b8edbf7c4ed4161c08", func := "loop.example/g01034/laws.FnLetters", spec := "fnLetters", apart := false, narrowed := true }
def FnLettersUptoSaid : Prop := fnLettersUptoRow.holds Try.pinned (OpenSpec.upto fnLettersSpec)

/-- 'laws.FnFeasts', WHERE WHAT IT READS IS OF BULK AT MOST 1048576: true; the input reads as it did. -/
def fnFeastsUptoRow : OpenClaim := { program := "ytegoiiconhgjbaa", sum := "f72b5bc6ba67a333960c4c008ff044745ca5ed81c9ef40b8edbf7c4ed4161c08", func := "loop.example/g01034/laws.FnFeasts", spec := "fnFeasts", unfollowed := true, recurses := true, apart := false, narrowed := true }
def FnFeastsUptoSaid : Prop := fnFeastsUptoRow.holds Try.pinned (OpenSpec.upto fnFeastsSpec)

/-- 'laws.FnFeastDays', WHERE WHAT IT READS IS OF BULK AT MOST 1048576: true; the input reads as it did. -/
def fnFeastDaysUptoRow : OpenClaim := { program := "ytegoiiconhgjbaa", sum := "f72b5bc6ba67a333960c4c008ff044745ca5ed81c9ef40b8edbf7c4ed4161c08", func := "loop.example/g01034/laws.FnFeastDays", spec := "fnFeastDays", unfollowed := true, recurses := true, apart := false, narrowed := true }
def FnFeastDaysUptoSaid : Prop := fnFeastDaysUptoRow.holds Try.pinned (OpenSpec.upto fnFeastDaysSpec)

/-- 'laws.FnExactOldEaster', WHERE WHAT IT READS IS OF BULK AT MOST 1048576: true; the input reads as it did. -/
def fnExactOldEasterUptoRow : OpenClaim := { program := "ytegoiiconhgjbaa", sum := "f72b5bc6ba67a333960c4c008ff044745ca5ed81c9ef40b8edbf7c4ed4161c08", func := "loop.example/g01034/laws.FnExactOldEaster", spec := "fnExactOldEaster", apart := false, narrowed := true }
def FnExactOldEasterUptoSaid : Prop := fnExactOldEasterUptoRow.holds Try.pinned (OpenSpec.upto fnExactOldEasterSpec)

/-- 'laws.FnExactNewEaster', WHERE WHAT IT READS IS OF BULK AT MOST 1048576: true; the input reads as it did. -/
def fnExactNewEasterUptoRow : OpenClaim := { program := "ytegoiiconhgjbaa", sum := "f72b5bc6ba67a333960c4c008ff044745ca5ed81c9ef40b8edbf7c4ed4161c08", func := "loop.example/g01034/laws.FnExactNewEaster", spec := "fnExactNewEaster", apart := false, narrowed := true }
def FnExactNewEasterUptoSaid : Prop := fnExactNewEasterUptoRow.holds Try.pinned (OpenSpec.upto fnExactNewEasterSpec)

/-- 'laws.FnExactEasterTerm', WHERE WHAT IT READS IS OF BULK AT MOST 1048576: true; the input reads as it did. -/
def fnExactEasterTermUptoRow : OpenClaim := { program := "ytegoiiconhgjbaa", sum := "f72b5bc6ba67a333960c4c008ff044745ca5ed81c9ef40b8edbf7c4ed4161c08", func := "loop.example/g01034/laws.FnExactEasterTerm", spec := "fnExactEasterTerm", apart := false, narrowed := true }
def FnExactEasterTermUptoSaid : Prop := fnExactEasterTermUptoRow.holds Try.pinned (OpenSpec.upto fnExactEasterTermSpec)

/-- 'laws.FnExactYearsWithEaster', WHERE WHAT IT READS IS OF BULK AT MOST 1048576: true; the input reads as it did. -/
def fnExactYearsWithEasterUptoRow : OpenClaim := { program := "ytegoiiconhgjbaa", sum := "f72b5bc6ba67a333960c4c008ff044745ca5ed81c9ef40b8edbf7c4ed4161c08", func := "loop.example/g01034/laws.FnExactYearsWithEaster", spec := "fnExactYearsWithEaster", apart := false, narrowed := true }
def FnExactYearsWithEasterUptoSaid : Prop := fnExactYearsWithEasterUptoRow.holds Try.pinned (OpenSpec.upto fnExactYearsWithEasterSpec)

/-- 'laws.FnExactFeastName', WHERE WHAT IT READS IS OF BULK AT MOST 1048576: true; the input reads as it did. -/
def fnExactFeastNameUptoRow : OpenClaim := { program := "ytegoiiconhgjbaa", sum := "f72b5bc6ba67a333960c4c008ff044745ca5ed81c9ef40b8edbf7c4ed4161c08", func := "loop.example/g01034/laws.FnExactFeastName", spec := "fnExactFeastName", apart := false, narrowed := true }
def FnExactFeastNameUptoSaid : Prop := fnExactFeastNameUptoRow.holds Try.pinned (OpenSpec.upto fnExactFeastNameSpec)

/-- 'laws.FnExactFeastNamed', WHERE WHAT IT READS IS OF BULK AT MOST 1048576: true; the input reads as it did. -/
def fnExactFeastNamedUptoRow : OpenClaim := { program := "ytegoiiconhgjbaa", sum := "f72b5bc6ba67a333960c4c008ff044745ca5ed81c9ef40b8edbf7c4ed4161c08", func := "loop.example/g01034/laws.FnExactFeastNamed", spec := "fnExactFeastNamed", apart := false, narrowed := true }
def FnExactFeastNamedUptoSaid : Prop := fnExactFeastNamedUptoRow.holds Try.pinned (OpenSpec.upto fnExactFeastNamedSpec)

/-- 'laws.FnExactFeastDay', WHERE WHAT IT READS IS OF BULK AT MOST 1048576: true; the input reads as it did. -/
def fnExactFeastDayUptoRow : OpenClaim := { program := "ytegoiiconhgjbaa", sum := "f72b5bc6ba67a333960c4c008ff044745ca5ed81c9ef40b8edbf7c4ed4161c08", func := "loop.example/g01034/laws.FnExactFeastDay", spec := "fnExactFeastDay", unfollowed := true, recurses := true, apart := false, narrowed := true }
def FnExactFeastDayUptoSaid : Prop := fnExactFeastDayUptoRow.holds Try.pinned (OpenSpec.upto fnExactFeastDaySpec)

/-- 'laws.FnExactRelatedDay', WHERE WHAT IT READS IS OF BULK AT MOST 1048576: true; the input reads as it did. -/
def fnExactRelatedDayUptoRow : OpenClaim := { program := "ytegoiiconhgjbaa", sum := "f72b5bc6ba67a333960c4c008ff044745ca5ed81c9ef40b8edbf7c4ed4161c08", func := "loop.example/g01034/laws.FnExactRelatedDay", spec := "fnExactRelatedDay", unfollowed := true, recurses := true, apart := false, narrowed := true }
def FnExactRelatedDayUptoSaid : Prop := fnExactRelatedDayUptoRow.holds Try.pinned (OpenSpec.upto fnExactRelatedDaySpec)

/-- 'laws.FnExactFeastsOn', WHERE WHAT IT READS IS OF BULK AT MOST 1048576: true; the input reads as it did. -/
def fnExactFeastsOnUptoRow : OpenClaim := { program := "ytegoiiconhgjbaa", sum := "f72b5bc6ba67a333960c4c008ff044745ca5ed81c9ef40b8edbf7c4ed4161c08", func := "loop.example/g01034/laws.FnExactFeastsOn", spec := "fnExactFeastsOn", unfollowed := true, recurses := true, apart := false, narrowed := true }
def FnExactFeastsOnUptoSaid : Prop := fnExactFeastsOnUptoRow.holds Try.pinned (OpenSpec.upto fnExactFeastsOnSpec)

/-- 'laws.FnExactNextFeast', WHERE WHAT IT READS IS OF BULK AT MOST 1048576: true; the input reads as it did. -/
def fnExactNextFeastUptoRow : OpenClaim := { program := "ytegoiiconhgjbaa", sum := "f72b5bc6ba67a333960c4c008ff044745ca5ed81c9ef40b8edbf7c4ed4161c08", func := "loop.example/g01034/laws.FnExactNextFeast", spec := "fnExactNextFeast", unfollowed := true, recurses := true, apart := false, narrowed := true }
def FnExactNextFeastUptoSaid : Prop := fnExactNextFeastUptoRow.holds Try.pinned (OpenSpec.upto fnExactNextFeastSpec)

/-- 'laws.FnExactNearestFeast', WHERE WHAT IT READS IS OF BULK AT MOST 1048576: true; the input reads as it did. -/
def fnExactNearestFeastUptoRow : OpenClaim := { program := "ytegoiiconhgjbaa", sum := "f72b5bc6ba67a333960c4c008ff044745ca5ed81c9ef40b8edbf7c4ed4161c08", func := "loop.example/g01034/laws.FnExactNearestFeast", spec := "fnExactNearestFeast", unfollowed := true, recurses := true, apart := false, narrowed := true }
def FnExactNearestFeastUptoSaid : Prop := fnExactNearestFeastUptoRow.holds Try.pinned (OpenSpec.upto fnExactNearestFeastSpec)

/-- 'laws.FnExactFeastDays', WHERE WHAT IT READS IS OF BULK AT MOST 1048576: true; the input reads as it did. -/
def fnExactFeastDaysUptoRow : OpenClaim := { program := "ytegoiiconhgjbaa", sum := "f72b5bc6ba67a333960c4c008ff044745ca5ed81c9ef40b8edbf7c4ed4161c08", func := "loop.example/g01034/laws.FnExactFeastDays", spec := "fnExactFeastDays", unfollowed := true, recurses := true, apart := false, narrowed := true }
def FnExactFeastDaysUptoSaid : Prop := fnExactFeastDaysUptoRow.holds Try.pinned (OpenSpec.upto fnExactFeastDaysSpec)

end Rows
end Go.Proofs.Ytegoiiconhgjbaa
