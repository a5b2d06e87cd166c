/-
  No cell of these rows narrows 'for every input' (looked for: loops, veiled, ifaces, maps, wideKeys, modest, calm, conditions, laid).
  DERIVED. THE GIVEN ROWS OF THIS SEAT. 4 by the template 'for every input the law returns true; each argument reads behind the call as it read before'; 0 by the template 'total and deterministic' (their statements: YtiimoejjokfkfaaTotals.lean).
  GIVEN WITH THE SEED: the statements are not yours to turn. If you find one false, say at which input.
  Laid BY PROGRAM, IN A SANDBOX (cutbox-rows.mjs): the forced cells as the released guide's own fill.sh prints them over the translation aede9ab1084edf62… (all of the seat's roots in one cut). By AI agents, Wed Nov 11 2026. No macro, syntax, notation, axiom, sorry.
-/
import Derived.Test.YtiimoejjokfkfaaChecked
import GoSem.Claim
import GoSem.ClaimJoined
import GoSem.ClaimMapViews
import Derived.JoinedTies
import Derived.KernelRfl
namespace Go.Proofs.Ytiimoejjokfkfaa
/- THE CELL 'sum', in the pinned program and in every row, IS THE sha256 OF THE DUMP (.gsa) THAT YtiimoejjokfkfaaProg.lean LOADS. Nothing in Lean hashes anything: it is a label: what it is worth is what the hold of that sum in a sandbox is worth. -/
noncomputable def Try.pinned : Pinned := { name := "ytiimoejjokfkfaa", sum := "aede9ab1084edf621e1724b5a0ab116842bb7d0f8488a884aa87e04c33b275a9", checked := Try.checked }
namespace Rows
def none {H : Type} : Left H := { results := [], args := [] }

/-- 'laws.FnExactNumeralText': WHATEVER THE INPUT: true; the input reads as it did. -/
def fnExactNumeralTextSpec : ChangeSpec := { name := "fnExactNumeralText", fn := fun _ => fun
  | [d] => { results := [.lit (.bool true)], args := [d] }
  | _ => none }
def fnExactNumeralTextRow : OpenClaim := { program := "ytiimoejjokfkfaa", sum := "aede9ab1084edf621e1724b5a0ab116842bb7d0f8488a884aa87e04c33b275a9", func := "loop.example/g01034/laws.FnExactNumeralText", spec := "fnExactNumeralText", inPlace := ["internal/abi.NoEscape", "internal/bytealg.MakeNoZero"], recurses := true, apart := false }
def FnExactNumeralTextSaid : Prop := fnExactNumeralTextRow.holds Try.pinned (OpenSpec.ofChange fnExactNumeralTextSpec)

/-- ITS FALSE NEIGHBOUR: 'it returns false'. Refute it at one input. -/
def fnExactNumeralTextWrong : ChangeSpec := { name := "fnExactNumeralText", fn := fun _ => fun
  | [d] => { results := [.lit (.bool false)], args := [d] }
  | _ => none }
def FnExactNumeralTextWrongFalsely : Prop := fnExactNumeralTextRow.holds Try.pinned (OpenSpec.ofChange fnExactNumeralTextWrong)

/-- 'laws.FnExactOldNumeral': WHATEVER THE INPUT: true; the input reads as it did. -/
def fnExactOldNumeralSpec : ChangeSpec := { name := "fnExactOldNumeral", fn := fun _ => fun
  | [d] => { results := [.lit (.bool true)], args := [d] }
  | _ => none }
def fnExactOldNumeralRow : OpenClaim := { program := "ytiimoejjokfkfaa", sum := "aede9ab1084edf621e1724b5a0ab116842bb7d0f8488a884aa87e04c33b275a9", func := "loop.example/g01034/laws.FnExactOldNumeral", spec := "fnExactOldNumeral", inPlace := ["internal/abi.NoEscape", "internal/bytealg.MakeNoZero"], recurses := true, apart := false }
def FnExactOldNumeralSaid : Prop := fnExactOldNumeralRow.holds Try.pinned (OpenSpec.ofChange fnExactOldNumeralSpec)

/-- ITS FALSE NEIGHBOUR: 'it returns false'. Refute it at one input. -/
def fnExactOldNumeralWrong : ChangeSpec := { name := "fnExactOldNumeral", fn := fun _ => fun
  | [d] => { results := [.lit (.bool false)], args := [d] }
  | _ => none }
def FnExactOldNumeralWrongFalsely : Prop := fnExactOldNumeralRow.holds Try.pinned (OpenSpec.ofChange fnExactOldNumeralWrong)

/-- 'laws.FnExactOrdinalText': WHATEVER THE INPUT: true; the input reads as it did. -/
def fnExactOrdinalTextSpec : ChangeSpec := { name := "fnExactOrdinalText", fn := fun _ => fun
  | [d] => { results := [.lit (.bool true)], args := [d] }
  | _ => none }
def fnExactOrdinalTextRow : OpenClaim := { program := "ytiimoejjokfkfaa", sum := "aede9ab1084edf621e1724b5a0ab116842bb7d0f8488a884aa87e04c33b275a9", func := "loop.example/g01034/laws.FnExactOrdinalText", spec := "fnExactOrdinalText", apart := false }
def FnExactOrdinalTextSaid : Prop := fnExactOrdinalTextRow.holds Try.pinned (OpenSpec.ofChange fnExactOrdinalTextSpec)

/-- ITS FALSE NEIGHBOUR: 'it returns false'. Refute it at one input. -/
def fnExactOrdinalTextWrong : ChangeSpec := { name := "fnExactOrdinalText", fn := fun _ => fun
  | [d] => { results := [.lit (.bool false)], args := [d] }
  | _ => none }
def FnExactOrdinalTextWrongFalsely : Prop := fnExactOrdinalTextRow.holds Try.pinned (OpenSpec.ofChange fnExactOrdinalTextWrong)

/-- 'laws.FnExactReadOrdinal': WHATEVER THE INPUT: true; the input reads as it did. -/
def fnExactReadOrdinalSpec : ChangeSpec := { name := "fnExactReadOrdinal", fn := fun _ => fun
  | [d] => { results := [.lit (.bool true)], args := [d] }
  | _ => none }
def fnExactReadOrdinalRow : OpenClaim := { program := "ytiimoejjokfkfaa", sum := "aede9ab1084edf621e1724b5a0ab116842bb7d0f8488a884aa87e04c33b275a9", func := "loop.example/g01034/laws.FnExactReadOrdinal", spec := "fnExactReadOrdinal", apart := false }
def FnExactReadOrdinalSaid : Prop := fnExactReadOrdinalRow.holds Try.pinned (OpenSpec.ofChange fnExactReadOrdinalSpec)

/-- ITS FALSE NEIGHBOUR: 'it returns false'. Refute it at one input. -/
def fnExactReadOrdinalWrong : ChangeSpec := { name := "fnExactReadOrdinal", fn := fun _ => fun
  | [d] => { results := [.lit (.bool false)], args := [d] }
  | _ => none }
def FnExactReadOrdinalWrongFalsely : Prop := fnExactReadOrdinalRow.holds Try.pinned (OpenSpec.ofChange fnExactReadOrdinalWrong)

/- THE SECOND FORM. 'bulk': how many values and letters a reading holds, each counted each time it is reached (what is shared counts as often as it is met; a slice's spare places count too). A statement '..UptoSaid' is the law's where the arguments, and the package variables that the reading takes, are together of bulk at most 1048576: NARROWER than '..Said'. Prove '..Said' where nothing that the law and all that it calls make is longer than what came in: it says more and counts as full. Else prove '..UptoSaid'. A law counts once. -/
mutual
def uptoBulk {H : Type} : DataW H → Nat
  | .lit (.string bytes) => bytes.length + 1
  | .lit _ => 1
  | .nil => 1
  | .ptr d => uptoBulk d + 1
  | .slice elems spare => uptoBulkAll elems + uptoBulkAll spare + 1
  | .agg parts => uptoBulkAll parts + 1
  | .iface _ d => uptoBulk d + 1
  | .map entries => uptoBulkEntries entries + 1
  | .held _ => 1
def uptoBulkAll {H : Type} : List (DataW H) → Nat
  | [] => 0
  | d :: r => uptoBulk d + uptoBulkAll r
def uptoBulkEntries {H : Type} : List (Lit × DataW H) → Nat
  | [] => 0
  | x :: r => uptoBulkEntry x + uptoBulkEntries r
def uptoBulkEntry {H : Type} : Lit × DataW H → Nat
  | (.string bytes, d) => bytes.length + uptoBulk d + 1
  | (_, d) => uptoBulk d + 1
 end
def uptoSmall : (H : Type) → List (DataW H) → Bool := fun _ ds => decide (uptoBulkAll ds ≤ 1048576)
def OpenSpec.upto (s : _root_.Go.ChangeSpec) : _root_.Go.OpenSpec := { _root_.Go.OpenSpec.ofChange s with cond := some uptoSmall }

/-- 'laws.FnExactNumeralText', WHERE WHAT IT READS IS OF BULK AT MOST 1048576: true; the input reads as it did. -/
def fnExactNumeralTextUptoRow : OpenClaim := { program := "ytiimoejjokfkfaa", sum := "aede9ab1084edf621e1724b5a0ab116842bb7d0f8488a884aa87e04c33b275a9", func := "loop.example/g01034/laws.FnExactNumeralText", spec := "fnExactNumeralText", inPlace := ["internal/abi.NoEscape", "internal/bytealg.MakeNoZero"], recurses := true, apart := false, narrowed := true }
def FnExactNumeralTextUptoSaid : Prop := fnExactNumeralTextUptoRow.holds Try.pinned (OpenSpec.upto fnExactNumeralTextSpec)

/-- 'laws.FnExactOldNumeral', WHERE WHAT IT READS IS OF BULK AT MOST 1048576: true; the input reads as it did. -/
def fnExactOldNumeralUptoRow : OpenClaim := { program := "ytiimoejjokfkfaa", sum := "aede9ab1084edf621e1724b5a0ab116842bb7d0f8488a884aa87e04c33b275a9", func := "loop.example/g01034/laws.FnExactOldNumeral", spec := "fnExactOldNumeral", inPlace := ["internal/abi.NoEscape", "internal/bytealg.MakeNoZero"], recurses := true, apart := false, narrowed := true }
def FnExactOldNumeralUptoSaid : Prop := fnExactOldNumeralUptoRow.holds Try.pinned (OpenSpec.upto fnExactOldNumeralSpec)

/-- 'laws.FnExactOrdinalText', WHERE WHAT IT READS IS OF BULK AT MOST 1048576: true; the input reads as it did. -/
def fnExactOrdinalTextUptoRow : OpenClaim := { program := "ytiimoejjokfkfaa", sum := "aede9ab1084edf621e1724b5a0ab116842bb7d0f8488a884aa87e04c33b275a9", func := "loop.example/g01034/laws.FnExactOrdinalText", spec := "fnExactOrdinalText", apart := false, narrowed := true }
def FnExactOrdinalTextUptoSaid : Prop := fnExactOrdinalTextUptoRow.holds Try.pinned (OpenSpec.upto fnExactOrdinalTextSpec)

/-- 'laws.FnExactReadOrdinal', WHERE WHAT IT READS IS OF BULK AT MOST 1048576: true; the input reads as it did. -/
def fnExactReadOrdinalUptoRow : OpenClaim := { program := "ytiimoejjokfkfaa", sum := "aede9ab1084edf621e1724b5a0ab116842bb7d0f8488a884aa87e04c33b275a9", func := "loop.example/g01034/laws.FnExactReadOrdinal", spec := "fnExactReadOrdinal", apart := false, narrowed := true }
def FnExactReadOrdinalUptoSaid : Prop := fnExactReadOrdinalUptoRow.holds Try.pinned (OpenSpec.upto fnExactReadOrdinalSpec)

end Rows
end Go.Proofs.Ytiimoejjokfkfaa
