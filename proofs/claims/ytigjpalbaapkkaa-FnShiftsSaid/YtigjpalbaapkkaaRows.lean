/-
  No cell of these rows narrows 'for every input' (looked for: loops, veiled, ifaces, maps, wideKeys, modest, calm, conditions, laid).
  DERIVED. THE GIVEN ROWS OF THIS SEAT. 12 by the template 'for every input the law returns true; each argument reads behind the call as it read before'; 0 by the template 'total and deterministic' (their statements: YtigjpalbaapkkaaTotals.lean).
  GIVEN WITH THE SEED: the statements are not yours to turn. If you find one false, say at which input.
  Laid BY PROGRAM, IN A SANDBOX (cutbox-rows.mjs): the forced cells as the released guide's own fill.sh prints them over the translation d40f5194eaf29a29… (all of the seat's roots in one cut). By AI agents, Wed Nov 11 2026. No macro, syntax, notation, axiom, sorry.
-/
import Derived.Test.YtigjpalbaapkkaaChecked
import GoSem.Claim
import GoSem.ClaimJoined
import GoSem.ClaimMapViews
import Derived.JoinedTies
import Derived.KernelRfl
namespace Go.Proofs.Ytigjpalbaapkkaa
/- THE CELL 'sum', in the pinned program and in every row, IS THE sha256 OF THE DUMP (.gsa) THAT YtigjpalbaapkkaaProg.lean LOADS. Nothing in Lean hashes anything: it is a label: what it is worth is what the hold of that sum in a sandbox is worth. -/
noncomputable def Try.pinned : Pinned := { name := "ytigjpalbaapkkaa", sum := "d40f5194eaf29a290b2329acc435281657f63c03f37cebb388c2b86a0c3663b5", checked := Try.checked }
namespace Rows
def none {H : Type} : Left H := { results := [], args := [] }

/-- 'laws.FnStyles': WHATEVER THE INPUT: true; the input reads as it did. -/
def fnStylesSpec : ChangeSpec := { name := "fnStyles", fn := fun _ => fun
  | [d] => { results := [.lit (.bool true)], args := [d] }
  | _ => none }
def fnStylesRow : OpenClaim := { program := "ytigjpalbaapkkaa", sum := "d40f5194eaf29a290b2329acc435281657f63c03f37cebb388c2b86a0c3663b5", func := "loop.example/g01034/laws.FnStyles", spec := "fnStyles", unfollowed := true, recurses := true, apart := false }
def FnStylesSaid : Prop := fnStylesRow.holds Try.pinned (OpenSpec.ofChange fnStylesSpec)

/-- ITS FALSE NEIGHBOUR: 'it returns false'. Refute it at one input. -/
def fnStylesWrong : ChangeSpec := { name := "fnStyles", fn := fun _ => fun
  | [d] => { results := [.lit (.bool false)], args := [d] }
  | _ => none }
def FnStylesWrongFalsely : Prop := fnStylesRow.holds Try.pinned (OpenSpec.ofChange fnStylesWrong)

/-- 'laws.FnStyleDays': WHATEVER THE INPUT: true; the input reads as it did. -/
def fnStyleDaysSpec : ChangeSpec := { name := "fnStyleDays", fn := fun _ => fun
  | [d] => { results := [.lit (.bool true)], args := [d] }
  | _ => none }
def fnStyleDaysRow : OpenClaim := { program := "ytigjpalbaapkkaa", sum := "d40f5194eaf29a290b2329acc435281657f63c03f37cebb388c2b86a0c3663b5", func := "loop.example/g01034/laws.FnStyleDays", spec := "fnStyleDays", unfollowed := true, recurses := true, apart := false }
def FnStyleDaysSaid : Prop := fnStyleDaysRow.holds Try.pinned (OpenSpec.ofChange fnStyleDaysSpec)

/-- ITS FALSE NEIGHBOUR: 'it returns false'. Refute it at one input. -/
def fnStyleDaysWrong : ChangeSpec := { name := "fnStyleDays", fn := fun _ => fun
  | [d] => { results := [.lit (.bool false)], args := [d] }
  | _ => none }
def FnStyleDaysWrongFalsely : Prop := fnStyleDaysRow.holds Try.pinned (OpenSpec.ofChange fnStyleDaysWrong)

/-- 'laws.FnExactStyleName': WHATEVER THE INPUT: true; the input reads as it did. -/
def fnExactStyleNameSpec : ChangeSpec := { name := "fnExactStyleName", fn := fun _ => fun
  | [d] => { results := [.lit (.bool true)], args := [d] }
  | _ => none }
def fnExactStyleNameRow : OpenClaim := { program := "ytigjpalbaapkkaa", sum := "d40f5194eaf29a290b2329acc435281657f63c03f37cebb388c2b86a0c3663b5", func := "loop.example/g01034/laws.FnExactStyleName", spec := "fnExactStyleName", apart := false }
def FnExactStyleNameSaid : Prop := fnExactStyleNameRow.holds Try.pinned (OpenSpec.ofChange fnExactStyleNameSpec)

/-- ITS FALSE NEIGHBOUR: 'it returns false'. Refute it at one input. -/
def fnExactStyleNameWrong : ChangeSpec := { name := "fnExactStyleName", fn := fun _ => fun
  | [d] => { results := [.lit (.bool false)], args := [d] }
  | _ => none }
def FnExactStyleNameWrongFalsely : Prop := fnExactStyleNameRow.holds Try.pinned (OpenSpec.ofChange fnExactStyleNameWrong)

/-- 'laws.FnExactStyleNamed': WHATEVER THE INPUT: true; the input reads as it did. -/
def fnExactStyleNamedSpec : ChangeSpec := { name := "fnExactStyleNamed", fn := fun _ => fun
  | [d] => { results := [.lit (.bool true)], args := [d] }
  | _ => none }
def fnExactStyleNamedRow : OpenClaim := { program := "ytigjpalbaapkkaa", sum := "d40f5194eaf29a290b2329acc435281657f63c03f37cebb388c2b86a0c3663b5", func := "loop.example/g01034/laws.FnExactStyleNamed", spec := "fnExactStyleNamed", apart := false }
def FnExactStyleNamedSaid : Prop := fnExactStyleNamedRow.holds Try.pinned (OpenSpec.ofChange fnExactStyleNamedSpec)

/-- ITS FALSE NEIGHBOUR: 'it returns false'. Refute it at one input. -/
def fnExactStyleNamedWrong : ChangeSpec := { name := "fnExactStyleNamed", fn := fun _ => fun
  | [d] => { results := [.lit (.bool false)], args := [d] }
  | _ => none }
def FnExactStyleNamedWrongFalsely : Prop := fnExactStyleNamedRow.holds Try.pinned (OpenSpec.ofChange fnExactStyleNamedWrong)

/-- 'laws.FnExactYearSpan': WHATEVER THE INPUT: true; the input reads as it did. -/
def fnExactYearSpanSpec : ChangeSpec := { name := "fnExactYearSpan", fn := fun _ => fun
  | [d1, d2] => { results := [.lit (.bool true)], args := [d1, d2] }
  | _ => none }
def fnExactYearSpanRow : OpenClaim := { program := "ytigjpalbaapkkaa", sum := "d40f5194eaf29a290b2329acc435281657f63c03f37cebb388c2b86a0c3663b5", func := "loop.example/g01034/laws.FnExactYearSpan", spec := "fnExactYearSpan", unfollowed := true, recurses := true, apart := false }
def FnExactYearSpanSaid : Prop := fnExactYearSpanRow.holds Try.pinned (OpenSpec.ofChange fnExactYearSpanSpec)

/-- ITS FALSE NEIGHBOUR: 'it returns false'. Refute it at one input. -/
def fnExactYearSpanWrong : ChangeSpec := { name := "fnExactYearSpan", fn := fun _ => fun
  | [d1, d2] => { results := [.lit (.bool false)], args := [d1, d2] }
  | _ => none }
def FnExactYearSpanWrongFalsely : Prop := fnExactYearSpanRow.holds Try.pinned (OpenSpec.ofChange fnExactYearSpanWrong)

/-- 'laws.FnExactYearOn': WHATEVER THE INPUT: true; the input reads as it did. -/
def fnExactYearOnSpec : ChangeSpec := { name := "fnExactYearOn", fn := fun _ => fun
  | [d1, d2] => { results := [.lit (.bool true)], args := [d1, d2] }
  | _ => none }
def fnExactYearOnRow : OpenClaim := { program := "ytigjpalbaapkkaa", sum := "d40f5194eaf29a290b2329acc435281657f63c03f37cebb388c2b86a0c3663b5", func := "loop.example/g01034/laws.FnExactYearOn", spec := "fnExactYearOn", unfollowed := true, recurses := true, apart := false }
def FnExactYearOnSaid : Prop := fnExactYearOnRow.holds Try.pinned (OpenSpec.ofChange fnExactYearOnSpec)

/-- ITS FALSE NEIGHBOUR: 'it returns false'. Refute it at one input. -/
def fnExactYearOnWrong : ChangeSpec := { name := "fnExactYearOn", fn := fun _ => fun
  | [d1, d2] => { results := [.lit (.bool false)], args := [d1, d2] }
  | _ => none }
def FnExactYearOnWrongFalsely : Prop := fnExactYearOnRow.holds Try.pinned (OpenSpec.ofChange fnExactYearOnWrong)

/-- 'laws.FnExactDaysWith': WHATEVER THE INPUT: true; the input reads as it did. -/
def fnExactDaysWithSpec : ChangeSpec := { name := "fnExactDaysWith", fn := fun _ => fun
  | [d1, d2, d3, d4] => { results := [.lit (.bool true)], args := [d1, d2, d3, d4] }
  | _ => none }
def fnExactDaysWithRow : OpenClaim := { program := "ytigjpalbaapkkaa", sum := "d40f5194eaf29a290b2329acc435281657f63c03f37cebb388c2b86a0c3663b5", func := "loop.example/g01034/laws.FnExactDaysWith", spec := "fnExactDaysWith", unfollowed := true, recurses := true, apart := false }
def FnExactDaysWithSaid : Prop := fnExactDaysWithRow.holds Try.pinned (OpenSpec.ofChange fnExactDaysWithSpec)

/-- ITS FALSE NEIGHBOUR: 'it returns false'. Refute it at one input. -/
def fnExactDaysWithWrong : ChangeSpec := { name := "fnExactDaysWith", fn := fun _ => fun
  | [d1, d2, d3, d4] => { results := [.lit (.bool false)], args := [d1, d2, d3, d4] }
  | _ => none }
def FnExactDaysWithWrongFalsely : Prop := fnExactDaysWithRow.holds Try.pinned (OpenSpec.ofChange fnExactDaysWithWrong)

/-- 'laws.FnExactStylesFor': WHATEVER THE INPUT: true; the input reads as it did. -/
def fnExactStylesForSpec : ChangeSpec := { name := "fnExactStylesFor", fn := fun _ => fun
  | [d1, d2] => { results := [.lit (.bool true)], args := [d1, d2] }
  | _ => none }
def fnExactStylesForRow : OpenClaim := { program := "ytigjpalbaapkkaa", sum := "d40f5194eaf29a290b2329acc435281657f63c03f37cebb388c2b86a0c3663b5", func := "loop.example/g01034/laws.FnExactStylesFor", spec := "fnExactStylesFor", unfollowed := true, recurses := true, apart := false }
def FnExactStylesForSaid : Prop := fnExactStylesForRow.holds Try.pinned (OpenSpec.ofChange fnExactStylesForSpec)

/-- ITS FALSE NEIGHBOUR: 'it returns false'. Refute it at one input. -/
def fnExactStylesForWrong : ChangeSpec := { name := "fnExactStylesFor", fn := fun _ => fun
  | [d1, d2] => { results := [.lit (.bool false)], args := [d1, d2] }
  | _ => none }
def FnExactStylesForWrongFalsely : Prop := fnExactStylesForRow.holds Try.pinned (OpenSpec.ofChange fnExactStylesForWrong)

/-- 'laws.FnExactYearDifference': WHATEVER THE INPUT: true; the input reads as it did. -/
def fnExactYearDifferenceSpec : ChangeSpec := { name := "fnExactYearDifference", fn := fun _ => fun
  | [d1, d2, d3] => { results := [.lit (.bool true)], args := [d1, d2, d3] }
  | _ => none }
def fnExactYearDifferenceRow : OpenClaim := { program := "ytigjpalbaapkkaa", sum := "d40f5194eaf29a290b2329acc435281657f63c03f37cebb388c2b86a0c3663b5", func := "loop.example/g01034/laws.FnExactYearDifference", spec := "fnExactYearDifference", unfollowed := true, recurses := true, apart := false }
def FnExactYearDifferenceSaid : Prop := fnExactYearDifferenceRow.holds Try.pinned (OpenSpec.ofChange fnExactYearDifferenceSpec)

/-- ITS FALSE NEIGHBOUR: 'it returns false'. Refute it at one input. -/
def fnExactYearDifferenceWrong : ChangeSpec := { name := "fnExactYearDifference", fn := fun _ => fun
  | [d1, d2, d3] => { results := [.lit (.bool false)], args := [d1, d2, d3] }
  | _ => none }
def FnExactYearDifferenceWrongFalsely : Prop := fnExactYearDifferenceRow.holds Try.pinned (OpenSpec.ofChange fnExactYearDifferenceWrong)

/-- 'laws.FnExactLengthOfYear': WHATEVER THE INPUT: true; the input reads as it did. -/
def fnExactLengthOfYearSpec : ChangeSpec := { name := "fnExactLengthOfYear", fn := fun _ => fun
  | [d1, d2] => { results := [.lit (.bool true)], args := [d1, d2] }
  | _ => none }
def fnExactLengthOfYearRow : OpenClaim := { program := "ytigjpalbaapkkaa", sum := "d40f5194eaf29a290b2329acc435281657f63c03f37cebb388c2b86a0c3663b5", func := "loop.example/g01034/laws.FnExactLengthOfYear", spec := "fnExactLengthOfYear", unfollowed := true, recurses := true, apart := false }
def FnExactLengthOfYearSaid : Prop := fnExactLengthOfYearRow.holds Try.pinned (OpenSpec.ofChange fnExactLengthOfYearSpec)

/-- ITS FALSE NEIGHBOUR: 'it returns false'. Refute it at one input. -/
def fnExactLengthOfYearWrong : ChangeSpec := { name := "fnExactLengthOfYear", fn := fun _ => fun
  | [d1, d2] => { results := [.lit (.bool false)], args := [d1, d2] }
  | _ => none }
def FnExactLengthOfYearWrongFalsely : Prop := fnExactLengthOfYearRow.holds Try.pinned (OpenSpec.ofChange fnExactLengthOfYearWrong)

/-- 'laws.FnShifts': WHATEVER THE INPUT: true; the input reads as it did. -/
def fnShiftsSpec : ChangeSpec := { name := "fnShifts", fn := fun _ => fun
  | [d] => { results := [.lit (.bool true)], args := [d] }
  | _ => none }
def fnShiftsRow : OpenClaim := { program := "ytigjpalbaapkkaa", sum := "d40f5194eaf29a290b2329acc435281657f63c03f37cebb388c2b86a0c3663b5", func := "loop.example/g01034/laws.FnShifts", spec := "fnShifts", unfollowed := true, recurses := true, apart := false }
def FnShiftsSaid : Prop := fnShiftsRow.holds Try.pinned (OpenSpec.ofChange fnShiftsSpec)

/-- ITS FALSE NEIGHBOUR: 'it returns false'. Refute it at one input. -/
def fnShiftsWrong : ChangeSpec := { name := "fnShifts", fn := fun _ => fun
  | [d] => { results := [.lit (.bool false)], args := [d] }
  | _ => none }
def FnShiftsWrongFalsely : Prop := fnShiftsRow.holds Try.pinned (OpenSpec.ofChange fnShiftsWrong)

/-- 'laws.FnExactHasDay': WHATEVER THE INPUT: true; the input reads as it did. -/
def fnExactHasDaySpec : ChangeSpec := { name := "fnExactHasDay", fn := fun _ => fun
  | [d1, d2] => { results := [.lit (.bool true)], args := [d1, d2] }
  | _ => none }
def fnExactHasDayRow : OpenClaim := { program := "ytigjpalbaapkkaa", sum := "d40f5194eaf29a290b2329acc435281657f63c03f37cebb388c2b86a0c3663b5", func := "loop.example/g01034/laws.FnExactHasDay", spec := "fnExactHasDay", unfollowed := true, recurses := true, apart := false }
def FnExactHasDaySaid : Prop := fnExactHasDayRow.holds Try.pinned (OpenSpec.ofChange fnExactHasDaySpec)

/-- ITS FALSE NEIGHBOUR: 'it returns false'. Refute it at one input. -/
def fnExactHasDayWrong : ChangeSpec := { name := "fnExactHasDay", fn := fun _ => fun
  | [d1, d2] => { results := [.lit (.bool false)], args := [d1, d2] }
  | _ => none }
def FnExactHasDayWrongFalsely : Prop := fnExactHasDayRow.holds Try.pinned (OpenSpec.ofChange fnExactHasDayWrong)

/- THE SECOND FORM. 'bulk': how many values and letters a reading holds, each counted each time it is reached (what is shared counts as often as it is met; a slice's spare places count too). A statement '..UptoSaid' is the law's where the arguments, and the package variables that the reading takes, are together of bulk at most 1048576: NARROWER than '..Said'. Prove '..Said' where nothing that the law and all that it calls make is longer than what came in: it says more and counts as full. Else prove '..UptoSaid'. A law counts once. -/
mutual
def uptoBulk {H : Type} : DataW H → Nat
  | .lit (.string bytes) => bytes.length + 1
  | .lit _ => 1
  | .nil => 1
  | .ptr d => uptoBulk d + 1
  | .slice elems spare => uptoBulkAll elems + uptoBulkAll spare + 1
  | .agg parts => uptoBulkAll parts + 1
  | .iface _ d => uptoBulk d + 1
  | .map entries => uptoBulkEntries entries + 1
  | .held _ => 1
def uptoBulkAll {H : Type} : List (DataW H) → Nat
  | [] => 0
  | d :: r => uptoBulk d + uptoBulkAll r
def uptoBulkEntries {H : Type} : List (Lit × DataW H) → Nat
  | [] => 0
  | x :: r => uptoBulkEntry x + uptoBulkEntries r
def uptoBulkEntry {H : Type} : Lit × DataW H → Nat
  | (.string bytes, d) => bytes.length + uptoBulk d + 1
  | (_, d) => uptoBulk d + 1
 end
def uptoSmall : (H : Type) → List (DataW H) → Bool := fun _ ds => decide (uptoBulkAll ds ≤ 1048576)
def OpenSpec.upto (s : _root_.Go.ChangeSpec) : _root_.Go.OpenSpec := { _root_.Go.OpenSpec.ofChange s with cond := some uptoSmall }

/-- 'laws.FnStyles', WHERE WHAT IT READS IS OF BULK AT MOST 1048576: true; the input reads as it did. -/
def fnStylesUptoRow : OpenClaim := { program := "ytigjpalbaapkkaa", sum := "d40f5194eaf29a290b2329acc435281657f63c03f37cebb388c2b86a0c3663b5", func := "loop.example/g01034/laws.FnStyles", spec := "fnStyles", unfollowed := true, recurses := true, apart := false, narrowed := true }
def FnStylesUptoSaid : Prop := fnStylesUptoRow.holds Try.pinned (OpenSpec.upto fnStylesSpec)

/-- 'laws.FnStyleDays', WHERE WHAT IT READS IS OF BULK AT MOST 1048576: true; the input reads as it did. -/
def fnStyleDaysUptoRow : OpenClaim := { program := "ytigjpalbaapkkaa", sum := "d40f5194eaf29a290b2329acc435281657f63c03f37cebb388c2b86a0c3663b5", func := "loop.example/g01034/laws.FnStyleDays", spec := "fnStyleDays", unfollowed := true, recurses := true, apart := false, narrowed := true }
def FnStyleDaysUptoSaid : Prop := fnStyleDaysUptoRow.holds Try.pinned (OpenSpec.upto fnStyleDaysSpec)

/-- 'laws.FnExactStyleName', WHERE WHAT IT READS IS OF BULK AT MOST 1048576: true; the input reads as it did. -/
def fnExactStyleNameUptoRow : OpenClaim := { program := "ytigjpalbaapkkaa", sum := "d40f5194eaf29a290b2329acc435281657f63c03f37cebb388c2b86a0c3663b5", func := "loop.example/g01034/laws.FnExactStyleName", spec := "fnExactStyleName", apart := false, narrowed := true }
def FnExactStyleNameUptoSaid : Prop := fnExactStyleNameUptoRow.holds Try.pinned (OpenSpec.upto fnExactStyleNameSpec)

/-- 'laws.FnExactStyleNamed', WHERE WHAT IT READS IS OF BULK AT MOST 1048576: true; the input reads as it did. -/
def fnExactStyleNamedUptoRow : OpenClaim := { program := "ytigjpalbaapkkaa", sum := "d40f5194eaf29a290b2329acc435281657f63c03f37cebb388c2b86a0c3663b5", func := "loop.example/g01034/laws.FnExactStyleNamed", spec := "fnExactStyleNamed", apart := false, narrowed := true }
def FnExactStyleNamedUptoSaid : Prop := fnExactStyleNamedUptoRow.holds Try.pinned (OpenSpec.upto fnExactStyleNamedSpec)

/-- 'laws.FnExactYearSpan', WHERE WHAT IT READS IS OF BULK AT MOST 1048576: true; the input reads as it did. -/
def fnExactYearSpanUptoRow : OpenClaim := { program := "ytigjpalbaapkkaa", sum := "d40f5194eaf29a290b2329acc435281657f63c03f37cebb388c2b86a0c3663b5", func := "loop.example/g01034/laws.FnExactYearSpan", spec := "fnExactYearSpan", unfollowed := true, recurses := true, apart := false, narrowed := true }
def FnExactYearSpanUptoSaid : Prop := fnExactYearSpanUptoRow.holds Try.pinned (OpenSpec.upto fnExactYearSpanSpec)

/-- 'laws.FnExactYearOn', WHERE WHAT IT READS IS OF BULK AT MOST 1048576: true; the input reads as it did. -/
def fnExactYearOnUptoRow : OpenClaim := { program := "ytigjpalbaapkkaa", sum := "d40f5194eaf29a290b2329acc435281657f63c03f37cebb388c2b86a0c3663b5", func := "loop.example/g01034/laws.FnExactYearOn", spec := "fnExactYearOn", unfollowed := true, recurses := true, apart := false, narrowed := true }
def FnExactYearOnUptoSaid : Prop := fnExactYearOnUptoRow.holds Try.pinned (OpenSpec.upto fnExactYearOnSpec)

/-- 'laws.FnExactDaysWith', WHERE WHAT IT READS IS OF BULK AT MOST 1048576: true; the input reads as it did. -/
def fnExactDaysWithUptoRow : OpenClaim := { program := "ytigjpalbaapkkaa", sum := "d40f5194eaf29a290b2329acc435281657f63c03f37cebb388c2b86a0c3663b5", func := "loop.example/g01034/laws.FnExactDaysWith", spec := "fnExactDaysWith", unfollowed := true, recurses := true, apart := false, narrowed := true }
def FnExactDaysWithUptoSaid : Prop := fnExactDaysWithUptoRow.holds Try.pinned (OpenSpec.upto fnExactDaysWithSpec)

/-- 'laws.FnExactStylesFor', WHERE WHAT IT READS IS OF BULK AT MOST 1048576: true; the input reads as it did. -/
def fnExactStylesForUptoRow : OpenClaim := { program := "ytigjpalbaapkkaa", sum := "d40f5194eaf29a290b2329acc435281657f63c03f37cebb388c2b86a0c3663b5", func := "loop.example/g01034/laws.FnExactStylesFor", spec := "fnExactStylesFor", unfollowed := true, recurses := true, apart := false, narrowed := true }
def FnExactStylesForUptoSaid : Prop := fnExactStylesForUptoRow.holds Try.pinned (OpenSpec.upto fnExactStylesForSpec)

/-- 'laws.FnExactYearDifference', WHERE WHAT IT READS IS OF BULK AT MOST 1048576: true; the input reads as it did. -/
def fnExactYearDifferenceUptoRow : OpenClaim := { program := "ytigjpalbaapkkaa", sum := "d40f5194eaf29a290b2329acc435281657f63c03f37cebb388c2b86a0c3663b5", func := "loop.example/g01034/laws.FnExactYearDifference", spec := "fnExactYearDifference", unfollowed := true, recurses := true, apart := false, narrowed := true }
def FnExactYearDifferenceUptoSaid : Prop := fnExactYearDifferenceUptoRow.holds Try.pinned (OpenSpec.upto fnExactYearDifferenceSpec)

/-- 'laws.FnExactLengthOfYear', WHERE WHAT IT READS IS OF BULK AT MOST 1048576: true; the input reads as it did. -/
def fnExactLengthOfYearUptoRow : OpenClaim := { program := "ytigjpalbaapkkaa", sum := "d40f5194eaf29a290b2329acc435281657f63c03f37cebb388c2b86a0c3663b5", func := "loop.example/g01034/laws.FnExactLengthOfYear", spec := "fnExactLengthOfYear", unfollowed := true, recurses := true, apart := false, narrowed := true }
def FnExactLengthOfYearUptoSaid : Prop := fnExactLengthOfYearUptoRow.holds Try.pinned (OpenSpec.upto fnExactLengthOfYearSpec)

/-- 'laws.FnShifts', WHERE WHAT IT READS IS OF BULK AT MOST 1048576: true; the input reads as it did. -/
def fnShiftsUptoRow : OpenClaim := { program := "ytigjpalbaapkkaa", sum := "d40f5194eaf29a290b2329acc435281657f63c03f37cebb388c2b86a0c3663b5", func := "loop.example/g01034/laws.FnShifts", spec := "fnShifts", unfollowed := true, recurses := true, apart := false, narrowed := true }
def FnShiftsUptoSaid : Prop := fnShiftsUptoRow.holds Try.pinned (OpenSpec.upto fnShiftsSpec)

/-- 'laws.FnExactHasDay', WHERE WHAT IT READS IS OF BULK AT MOST 1048576: true; the input reads as it did. -/
def fnExactHasDayUptoRow : OpenClaim := { program := "ytigjpalbaapkkaa", sum := "d40f5194eaf29a290b2329acc435281657f63c03f37cebb388c2b86a0c3663b5", func := "loop.example/g01034/laws.FnExactHasDay", spec := "fnExactHasDay", unfollowed := true, recurses := true, apart := false, narrowed := true }
def FnExactHasDayUptoSaid : Prop := fnExactHasDayUptoRow.holds Try.pinned (OpenSpec.upto fnExactHasDaySpec)

end Rows
end Go.Proofs.Ytigjpalbaapkkaa
