/-
  No cell of these rows narrows 'for every input' (looked for: loops, veiled, ifaces, maps, wideKeys, modest, calm, conditions, laid).
  DERIVED. THE GIVEN ROWS OF THIS SEAT. 9 by the template 'for every input the law returns true; each argument reads behind the call as it read before'; 0 by the template 'total and deterministic' (their statements: YtfhcakpmlppbkaaTotals.lean).
  GIVEN WITH THE SEED: the statements are not yours to turn. If you find one false, say at which input.
  Laid BY PROGRAM, IN A SANDBOX (cutbox-rows.mjs): the forced cells as the released guide's own fill.sh prints them over the translation f9f2b8be2da1b84f… (all of the seat's roots in one cut). By AI agents, Wed Nov 11 2026. No macro, syntax, notation, axiom, sorry.
-/
import Derived.Test.YtfhcakpmlppbkaaChecked
import GoSem.Claim
import GoSem.ClaimJoined
import GoSem.ClaimMapViews
import Derived.JoinedTies
import Derived.KernelRfl
namespace Go.Proofs.Ytfhcakpmlppbkaa
/- THE CELL 'sum', in the pinned program and in every row, IS THE sha256 OF THE DUMP (.gsa) THAT YtfhcakpmlppbkaaProg.lean LOADS. Nothing in Lean hashes anything: it is a label: what it is worth is what the hold of that sum in a sandbox is worth. -/
noncomputable def Try.pinned : Pinned := { name := "ytfhcakpmlppbkaa", sum := "f9f2b8be2da1b84fd8717d51afebbc006fee1593de68b291bb4fcadfdf327d38", checked := Try.checked }
namespace Rows
def none {H : Type} : Left H := { results := [], args := [] }

/-- 'laws.FnReigns': WHATEVER THE INPUT: true; the input reads as it did. -/
def fnReignsSpec : ChangeSpec := { name := "fnReigns", fn := fun _ => fun
  | [d] => { results := [.lit (.bool true)], args := [d] }
  | _ => none }
def fnReignsRow : OpenClaim := { program := "ytfhcakpmlppbkaa", sum := "f9f2b8be2da1b84fd8717d51afebbc006fee1593de68b291bb4fcadfdf327d38", func := "loop.example/g01034/laws.FnReigns", spec := "fnReigns", unfollowed := true, recurses := true, apart := false }
def FnReignsSaid : Prop := fnReignsRow.holds Try.pinned (OpenSpec.ofChange fnReignsSpec)

/-- ITS FALSE NEIGHBOUR: 'it returns false'. Refute it at one input. -/
def fnReignsWrong : ChangeSpec := { name := "fnReigns", fn := fun _ => fun
  | [d] => { results := [.lit (.bool false)], args := [d] }
  | _ => none }
def FnReignsWrongFalsely : Prop := fnReignsRow.holds Try.pinned (OpenSpec.ofChange fnReignsWrong)

/-- 'laws.FnExactAreReigns': WHATEVER THE INPUT: true; the input reads as it did. -/
def fnExactAreReignsSpec : ChangeSpec := { name := "fnExactAreReigns", fn := fun _ => fun
  | [d] => { results := [.lit (.bool true)], args := [d] }
  | _ => none }
def fnExactAreReignsRow : OpenClaim := { program := "ytfhcakpmlppbkaa", sum := "f9f2b8be2da1b84fd8717d51afebbc006fee1593de68b291bb4fcadfdf327d38", func := "loop.example/g01034/laws.FnExactAreReigns", spec := "fnExactAreReigns", apart := false }
def FnExactAreReignsSaid : Prop := fnExactAreReignsRow.holds Try.pinned (OpenSpec.ofChange fnExactAreReignsSpec)

/-- ITS FALSE NEIGHBOUR: 'it returns false'. Refute it at one input. -/
def fnExactAreReignsWrong : ChangeSpec := { name := "fnExactAreReigns", fn := fun _ => fun
  | [d] => { results := [.lit (.bool false)], args := [d] }
  | _ => none }
def FnExactAreReignsWrongFalsely : Prop := fnExactAreReignsRow.holds Try.pinned (OpenSpec.ofChange fnExactAreReignsWrong)

/-- 'laws.FnExactRegnalYear': WHATEVER THE INPUT: true; the input reads as it did. -/
def fnExactRegnalYearSpec : ChangeSpec := { name := "fnExactRegnalYear", fn := fun _ => fun
  | [d1, d2] => { results := [.lit (.bool true)], args := [d1, d2] }
  | _ => none }
def fnExactRegnalYearRow : OpenClaim := { program := "ytfhcakpmlppbkaa", sum := "f9f2b8be2da1b84fd8717d51afebbc006fee1593de68b291bb4fcadfdf327d38", func := "loop.example/g01034/laws.FnExactRegnalYear", spec := "fnExactRegnalYear", unfollowed := true, recurses := true, apart := false }
def FnExactRegnalYearSaid : Prop := fnExactRegnalYearRow.holds Try.pinned (OpenSpec.ofChange fnExactRegnalYearSpec)

/-- ITS FALSE NEIGHBOUR: 'it returns false'. Refute it at one input. -/
def fnExactRegnalYearWrong : ChangeSpec := { name := "fnExactRegnalYear", fn := fun _ => fun
  | [d1, d2] => { results := [.lit (.bool false)], args := [d1, d2] }
  | _ => none }
def FnExactRegnalYearWrongFalsely : Prop := fnExactRegnalYearRow.holds Try.pinned (OpenSpec.ofChange fnExactRegnalYearWrong)

/-- 'laws.FnExactRegnalSpan': WHATEVER THE INPUT: true; the input reads as it did. -/
def fnExactRegnalSpanSpec : ChangeSpec := { name := "fnExactRegnalSpan", fn := fun _ => fun
  | [d1, d2] => { results := [.lit (.bool true)], args := [d1, d2] }
  | _ => none }
def fnExactRegnalSpanRow : OpenClaim := { program := "ytfhcakpmlppbkaa", sum := "f9f2b8be2da1b84fd8717d51afebbc006fee1593de68b291bb4fcadfdf327d38", func := "loop.example/g01034/laws.FnExactRegnalSpan", spec := "fnExactRegnalSpan", unfollowed := true, recurses := true, apart := false }
def FnExactRegnalSpanSaid : Prop := fnExactRegnalSpanRow.holds Try.pinned (OpenSpec.ofChange fnExactRegnalSpanSpec)

/-- ITS FALSE NEIGHBOUR: 'it returns false'. Refute it at one input. -/
def fnExactRegnalSpanWrong : ChangeSpec := { name := "fnExactRegnalSpan", fn := fun _ => fun
  | [d1, d2] => { results := [.lit (.bool false)], args := [d1, d2] }
  | _ => none }
def FnExactRegnalSpanWrongFalsely : Prop := fnExactRegnalSpanRow.holds Try.pinned (OpenSpec.ofChange fnExactRegnalSpanWrong)

/-- 'laws.FnExactCountYears': WHATEVER THE INPUT: true; the input reads as it did. -/
def fnExactCountYearsSpec : ChangeSpec := { name := "fnExactCountYears", fn := fun _ => fun
  | [d] => { results := [.lit (.bool true)], args := [d] }
  | _ => none }
def fnExactCountYearsRow : OpenClaim := { program := "ytfhcakpmlppbkaa", sum := "f9f2b8be2da1b84fd8717d51afebbc006fee1593de68b291bb4fcadfdf327d38", func := "loop.example/g01034/laws.FnExactCountYears", spec := "fnExactCountYears", unfollowed := true, recurses := true, apart := false }
def FnExactCountYearsSaid : Prop := fnExactCountYearsRow.holds Try.pinned (OpenSpec.ofChange fnExactCountYearsSpec)

/-- ITS FALSE NEIGHBOUR: 'it returns false'. Refute it at one input. -/
def fnExactCountYearsWrong : ChangeSpec := { name := "fnExactCountYears", fn := fun _ => fun
  | [d] => { results := [.lit (.bool false)], args := [d] }
  | _ => none }
def FnExactCountYearsWrongFalsely : Prop := fnExactCountYearsRow.holds Try.pinned (OpenSpec.ofChange fnExactCountYearsWrong)

/-- 'laws.FnExactReignsOn': WHATEVER THE INPUT: true; the input reads as it did. -/
def fnExactReignsOnSpec : ChangeSpec := { name := "fnExactReignsOn", fn := fun _ => fun
  | [d1, d2] => { results := [.lit (.bool true)], args := [d1, d2] }
  | _ => none }
def fnExactReignsOnRow : OpenClaim := { program := "ytfhcakpmlppbkaa", sum := "f9f2b8be2da1b84fd8717d51afebbc006fee1593de68b291bb4fcadfdf327d38", func := "loop.example/g01034/laws.FnExactReignsOn", spec := "fnExactReignsOn", apart := false }
def FnExactReignsOnSaid : Prop := fnExactReignsOnRow.holds Try.pinned (OpenSpec.ofChange fnExactReignsOnSpec)

/-- ITS FALSE NEIGHBOUR: 'it returns false'. Refute it at one input. -/
def fnExactReignsOnWrong : ChangeSpec := { name := "fnExactReignsOn", fn := fun _ => fun
  | [d1, d2] => { results := [.lit (.bool false)], args := [d1, d2] }
  | _ => none }
def FnExactReignsOnWrongFalsely : Prop := fnExactReignsOnRow.holds Try.pinned (OpenSpec.ofChange fnExactReignsOnWrong)

/-- 'laws.FnExactKingYearSet': WHATEVER THE INPUT: true; the input reads as it did. -/
def fnExactKingYearSetSpec : ChangeSpec := { name := "fnExactKingYearSet", fn := fun _ => fun
  | [d1, d2, d3] => { results := [.lit (.bool true)], args := [d1, d2, d3] }
  | _ => none }
def fnExactKingYearSetRow : OpenClaim := { program := "ytfhcakpmlppbkaa", sum := "f9f2b8be2da1b84fd8717d51afebbc006fee1593de68b291bb4fcadfdf327d38", func := "loop.example/g01034/laws.FnExactKingYearSet", spec := "fnExactKingYearSet", unfollowed := true, recurses := true, apart := false }
def FnExactKingYearSetSaid : Prop := fnExactKingYearSetRow.holds Try.pinned (OpenSpec.ofChange fnExactKingYearSetSpec)

/-- ITS FALSE NEIGHBOUR: 'it returns false'. Refute it at one input. -/
def fnExactKingYearSetWrong : ChangeSpec := { name := "fnExactKingYearSet", fn := fun _ => fun
  | [d1, d2, d3] => { results := [.lit (.bool false)], args := [d1, d2, d3] }
  | _ => none }
def FnExactKingYearSetWrongFalsely : Prop := fnExactKingYearSetRow.holds Try.pinned (OpenSpec.ofChange fnExactKingYearSetWrong)

/-- 'laws.FnExactVoidDays': WHATEVER THE INPUT: true; the input reads as it did. -/
def fnExactVoidDaysSpec : ChangeSpec := { name := "fnExactVoidDays", fn := fun _ => fun
  | [d1, d2, d3] => { results := [.lit (.bool true)], args := [d1, d2, d3] }
  | _ => none }
def fnExactVoidDaysRow : OpenClaim := { program := "ytfhcakpmlppbkaa", sum := "f9f2b8be2da1b84fd8717d51afebbc006fee1593de68b291bb4fcadfdf327d38", func := "loop.example/g01034/laws.FnExactVoidDays", spec := "fnExactVoidDays", unfollowed := true, recurses := true, apart := false }
def FnExactVoidDaysSaid : Prop := fnExactVoidDaysRow.holds Try.pinned (OpenSpec.ofChange fnExactVoidDaysSpec)

/-- ITS FALSE NEIGHBOUR: 'it returns false'. Refute it at one input. -/
def fnExactVoidDaysWrong : ChangeSpec := { name := "fnExactVoidDays", fn := fun _ => fun
  | [d1, d2, d3] => { results := [.lit (.bool false)], args := [d1, d2, d3] }
  | _ => none }
def FnExactVoidDaysWrongFalsely : Prop := fnExactVoidDaysRow.holds Try.pinned (OpenSpec.ofChange fnExactVoidDaysWrong)

/-- 'laws.FnExactDisputedDays': WHATEVER THE INPUT: true; the input reads as it did. -/
def fnExactDisputedDaysSpec : ChangeSpec := { name := "fnExactDisputedDays", fn := fun _ => fun
  | [d] => { results := [.lit (.bool true)], args := [d] }
  | _ => none }
def fnExactDisputedDaysRow : OpenClaim := { program := "ytfhcakpmlppbkaa", sum := "f9f2b8be2da1b84fd8717d51afebbc006fee1593de68b291bb4fcadfdf327d38", func := "loop.example/g01034/laws.FnExactDisputedDays", spec := "fnExactDisputedDays", unfollowed := true, recurses := true, apart := false }
def FnExactDisputedDaysSaid : Prop := fnExactDisputedDaysRow.holds Try.pinned (OpenSpec.ofChange fnExactDisputedDaysSpec)

/-- ITS FALSE NEIGHBOUR: 'it returns false'. Refute it at one input. -/
def fnExactDisputedDaysWrong : ChangeSpec := { name := "fnExactDisputedDays", fn := fun _ => fun
  | [d] => { results := [.lit (.bool false)], args := [d] }
  | _ => none }
def FnExactDisputedDaysWrongFalsely : Prop := fnExactDisputedDaysRow.holds Try.pinned (OpenSpec.ofChange fnExactDisputedDaysWrong)

/- THE SECOND FORM. 'bulk': how many values and letters a reading holds, each counted each time it is reached (what is shared counts as often as it is met; a slice's spare places count too). A statement '..UptoSaid' is the law's where the arguments, and the package variables that the reading takes, are together of bulk at most 1048576: NARROWER than '..Said'. Prove '..Said' where nothing that the law and all that it calls make is longer than what came in: it says more and counts as full. Else prove '..UptoSaid'. A law counts once. -/
mutual
def uptoBulk {H : Type} : DataW H → Nat
  | .lit (.string bytes) => bytes.length + 1
  | .lit _ => 1
  | .nil => 1
  | .ptr d => uptoBulk d + 1
  | .slice elems spare => uptoBulkAll elems + uptoBulkAll spare + 1
  | .agg parts => uptoBulkAll parts + 1
  | .iface _ d => uptoBulk d + 1
  | .map entries => uptoBulkEntries entries + 1
  | .held _ => 1
def uptoBulkAll {H : Type} : List (DataW H) → Nat
  | [] => 0
  | d :: r => uptoBulk d + uptoBulkAll r
def uptoBulkEntries {H : Type} : List (Lit × DataW H) → Nat
  | [] => 0
  | x :: r => uptoBulkEntry x + uptoBulkEntries r
def uptoBulkEntry {H : Type} : Lit × DataW H → Nat
  | (.string bytes, d) => bytes.length + uptoBulk d + 1
  | (_, d) => uptoBulk d + 1
 end
def uptoSmall : (H : Type) → List (DataW H) → Bool := fun _ ds => decide (uptoBulkAll ds ≤ 1048576)
def OpenSpec.upto (s : _root_.Go.ChangeSpec) : _root_.Go.OpenSpec := { _root_.Go.OpenSpec.ofChange s with cond := some uptoSmall }

/-- 'laws.FnReigns', WHERE WHAT IT READS IS OF BULK AT MOST 1048576: true; the input reads as it did. -/
def fnReignsUptoRow : OpenClaim := { program := "ytfhcakpmlppbkaa", sum := "f9f2b8be2da1b84fd8717d51afebbc006fee1593de68b291bb4fcadfdf327d38", func := "loop.example/g01034/laws.FnReigns", spec := "fnReigns", unfollowed := true, recurses := true, apart := false, narrowed := true }
def FnReignsUptoSaid : Prop := fnReignsUptoRow.holds Try.pinned (OpenSpec.upto fnReignsSpec)

/-- 'laws.FnExactAreReigns', WHERE WHAT IT READS IS OF BULK AT MOST 1048576: true; the input reads as it did. -/
def fnExactAreReignsUptoRow : OpenClaim := { program := "ytfhcakpmlppbkaa", sum := "f9f2b8be2da1b84fd8717d51afebbc006fee1593de68b291bb4fcadfdf327d38", func := "loop.example/g01034/laws.FnExactAreReigns", spec := "fnExactAreReigns", apart := false, narrowed := true }
def FnExactAreReignsUptoSaid : Prop := fnExactAreReignsUptoRow.holds Try.pinned (OpenSpec.upto fnExactAreReignsSpec)

/-- 'laws.FnExactRegnalYear', WHERE WHAT IT READS IS OF BULK AT MOST 1048576: true; the input reads as it did. -/
def fnExactRegnalYearUptoRow : OpenClaim := { program := "ytfhcakpmlppbkaa", sum := "f9f2b8be2da1b84fd8717d51afebbc006fee1593de68b291bb4fcadfdf327d38", func := "loop.example/g01034/laws.FnExactRegnalYear", spec := "fnExactRegnalYear", unfollowed := true, recurses := true, apart := false, narrowed := true }
def FnExactRegnalYearUptoSaid : Prop := fnExactRegnalYearUptoRow.holds Try.pinned (OpenSpec.upto fnExactRegnalYearSpec)

/-- 'laws.FnExactRegnalSpan', WHERE WHAT IT READS IS OF BULK AT MOST 1048576: true; the input reads as it did. -/
def fnExactRegnalSpanUptoRow : OpenClaim := { program := "ytfhcakpmlppbkaa", sum := "f9f2b8be2da1b84fd8717d51afebbc006fee1593de68b291bb4fcadfdf327d38", func := "loop.example/g01034/laws.FnExactRegnalSpan", spec := "fnExactRegnalSpan", unfollowed := true, recurses := true, apart := false, narrowed := true }
def FnExactRegnalSpanUptoSaid : Prop := fnExactRegnalSpanUptoRow.holds Try.pinned (OpenSpec.upto fnExactRegnalSpanSpec)

/-- 'laws.FnExactCountYears', WHERE WHAT IT READS IS OF BULK AT MOST 1048576: true; the input reads as it did. -/
def fnExactCountYearsUptoRow : OpenClaim := { program := "ytfhcakpmlppbkaa", sum := "f9f2b8be2da1b84fd8717d51afebbc006fee1593de68b291bb4fcadfdf327d38", func := "loop.example/g01034/laws.FnExactCountYears", spec := "fnExactCountYears", unfollowed := true, recurses := true, apart := false, narrowed := true }
def FnExactCountYearsUptoSaid : Prop := fnExactCountYearsUptoRow.holds Try.pinned (OpenSpec.upto fnExactCountYearsSpec)

/-- 'laws.FnExactReignsOn', WHERE WHAT IT READS IS OF BULK AT MOST 1048576: true; the input reads as it did. -/
def fnExactReignsOnUptoRow : OpenClaim := { program := "ytfhcakpmlppbkaa", sum := "f9f2b8be2da1b84fd8717d51afebbc006fee1593de68b291bb4fcadfdf327d38", func := "loop.example/g01034/laws.FnExactReignsOn", spec := "fnExactReignsOn", apart := false, narrowed := true }
def FnExactReignsOnUptoSaid : Prop := fnExactReignsOnUptoRow.holds Try.pinned (OpenSpec.upto fnExactReignsOnSpec)

/-- 'laws.FnExactKingYearSet', WHERE WHAT IT READS IS OF BULK AT MOST 1048576: true; the input reads as it did. -/
def fnExactKingYearSetUptoRow : OpenClaim := { program := "ytfhcakpmlppbkaa", sum := "f9f2b8be2da1b84fd8717d51afebbc006fee1593de68b291bb4fcadfdf327d38", func := "loop.example/g01034/laws.FnExactKingYearSet", spec := "fnExactKingYearSet", unfollowed := true, recurses := true, apart := false, narrowed := true }
def FnExactKingYearSetUptoSaid : Prop := fnExactKingYearSetUptoRow.holds Try.pinned (OpenSpec.upto fnExactKingYearSetSpec)

/-- 'laws.FnExactVoidDays', WHERE WHAT IT READS IS OF BULK AT MOST 1048576: true; the input reads as it did. -/
def fnExactVoidDaysUptoRow : OpenClaim := { program := "ytfhcakpmlppbkaa", sum := "f9f2b8be2da1b84fd8717d51afebbc006fee1593de68b291bb4fcadfdf327d38", func := "loop.example/g01034/laws.FnExactVoidDays", spec := "fnExactVoidDays", unfollowed := true, recurses := true, apart := false, narrowed := true }
def FnExactVoidDaysUptoSaid : Prop := fnExactVoidDaysUptoRow.holds Try.pinned (OpenSpec.upto fnExactVoidDaysSpec)

/-- 'laws.FnExactDisputedDays', WHERE WHAT IT READS IS OF BULK AT MOST 1048576: true; the input reads as it did. -/
def fnExactDisputedDaysUptoRow : OpenClaim := { program := "ytfhcakpmlppbkaa", sum := "f9f2b8be2da1b84fd8717d51afebbc006fee1593de68b291bb4fcadfdf327d38", func := "loop.example/g01034/laws.FnExactDisputedDays", spec := "fnExactDisputedDays", unfollowed := true, recurses := true, apart := false, narrowed := true }
def FnExactDisputedDaysUptoSaid : Prop := fnExactDisputedDaysUptoRow.holds Try.pinned (OpenSpec.upto fnExactDisputedDaysSpec)

end Rows
end Go.Proofs.Ytfhcakpmlppbkaa
