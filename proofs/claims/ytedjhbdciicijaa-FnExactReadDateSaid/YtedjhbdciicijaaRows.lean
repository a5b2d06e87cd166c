/-
  No cell of these rows narrows 'for every input' (looked for: loops, veiled, ifaces, maps, wideKeys, modest, calm, conditions, laid).
  DERIVED. THE GIVEN ROWS OF THIS SEAT. 9 by the template 'for every input the law returns true; each argument reads behind the call as it read before'; 0 by the template 'total and deterministic' (their statements: YtedjhbdciicijaaTotals.lean).
  GIVEN WITH THE SEED: the statements are not yours to turn. If you find one false, say at which input.
  Laid BY PROGRAM, IN A SANDBOX (cutbox-rows.mjs): the forced cells as the released guide's own fill.sh prints them over the translation 8fb781fbc40be4b0… (all of the seat's roots in one cut). By AI agents, Wed Nov 11 2026. No macro, syntax, notation, axiom, sorry.
-/
import Derived.Test.YtedjhbdciicijaaChecked
import GoSem.Claim
import GoSem.ClaimJoined
import GoSem.ClaimMapViews
import Derived.JoinedTies
import Derived.KernelRfl
namespace Go.Proofs.Ytedjhbdciicijaa
/- THE CELL 'sum', in the pinned program and in every row, IS THE sha256 OF THE DUMP (.gsa) THAT YtedjhbdciicijaaProg.lean LOADS. Nothing in Lean hashes anything: it is a label: what it is worth is what the hold of that sum in a sandbox is worth. -/
noncomputable def Try.pinned : Pinned := { name := "ytedjhbdciicijaa", sum := "8fb781fbc40be4b06f150f19dd440e0595414a5cec58a7857c38bd91997be327", checked := Try.checked }
namespace Rows
def none {H : Type} : Left H := { results := [], args := [] }

/-- 'laws.FnDays': WHATEVER THE INPUT: true; the input reads as it did. -/
def fnDaysSpec : ChangeSpec := { name := "fnDays", fn := fun _ => fun
  | [d] => { results := [.lit (.bool true)], args := [d] }
  | _ => none }
def fnDaysRow : OpenClaim := { program := "ytedjhbdciicijaa", sum := "8fb781fbc40be4b06f150f19dd440e0595414a5cec58a7857c38bd91997be327", func := "loop.example/g01034/laws.FnDays", spec := "fnDays", apart := false }
def FnDaysSaid : Prop := fnDaysRow.holds Try.pinned (OpenSpec.ofChange fnDaysSpec)

/-- ITS FALSE NEIGHBOUR: 'it returns false'. Refute it at one input. -/
def fnDaysWrong : ChangeSpec := { name := "fnDays", fn := fun _ => fun
  | [d] => { results := [.lit (.bool false)], args := [d] }
  | _ => none }
def FnDaysWrongFalsely : Prop := fnDaysRow.holds Try.pinned (OpenSpec.ofChange fnDaysWrong)

/-- 'laws.FnExactIsOldDate': WHATEVER THE INPUT: true; the input reads as it did. -/
def fnExactIsOldDateSpec : ChangeSpec := { name := "fnExactIsOldDate", fn := fun _ => fun
  | [d] => { results := [.lit (.bool true)], args := [d] }
  | _ => none }
def fnExactIsOldDateRow : OpenClaim := { program := "ytedjhbdciicijaa", sum := "8fb781fbc40be4b06f150f19dd440e0595414a5cec58a7857c38bd91997be327", func := "loop.example/g01034/laws.FnExactIsOldDate", spec := "fnExactIsOldDate", apart := false }
def FnExactIsOldDateSaid : Prop := fnExactIsOldDateRow.holds Try.pinned (OpenSpec.ofChange fnExactIsOldDateSpec)

/-- ITS FALSE NEIGHBOUR: 'it returns false'. Refute it at one input. -/
def fnExactIsOldDateWrong : ChangeSpec := { name := "fnExactIsOldDate", fn := fun _ => fun
  | [d] => { results := [.lit (.bool false)], args := [d] }
  | _ => none }
def FnExactIsOldDateWrongFalsely : Prop := fnExactIsOldDateRow.holds Try.pinned (OpenSpec.ofChange fnExactIsOldDateWrong)

/-- 'laws.FnExactIsNewDate': WHATEVER THE INPUT: true; the input reads as it did. -/
def fnExactIsNewDateSpec : ChangeSpec := { name := "fnExactIsNewDate", fn := fun _ => fun
  | [d] => { results := [.lit (.bool true)], args := [d] }
  | _ => none }
def fnExactIsNewDateRow : OpenClaim := { program := "ytedjhbdciicijaa", sum := "8fb781fbc40be4b06f150f19dd440e0595414a5cec58a7857c38bd91997be327", func := "loop.example/g01034/laws.FnExactIsNewDate", spec := "fnExactIsNewDate", apart := false }
def FnExactIsNewDateSaid : Prop := fnExactIsNewDateRow.holds Try.pinned (OpenSpec.ofChange fnExactIsNewDateSpec)

/-- ITS FALSE NEIGHBOUR: 'it returns false'. Refute it at one input. -/
def fnExactIsNewDateWrong : ChangeSpec := { name := "fnExactIsNewDate", fn := fun _ => fun
  | [d] => { results := [.lit (.bool false)], args := [d] }
  | _ => none }
def FnExactIsNewDateWrongFalsely : Prop := fnExactIsNewDateRow.holds Try.pinned (OpenSpec.ofChange fnExactIsNewDateWrong)

/-- 'laws.FnExactOldDay': WHATEVER THE INPUT: true; the input reads as it did. -/
def fnExactOldDaySpec : ChangeSpec := { name := "fnExactOldDay", fn := fun _ => fun
  | [d] => { results := [.lit (.bool true)], args := [d] }
  | _ => none }
def fnExactOldDayRow : OpenClaim := { program := "ytedjhbdciicijaa", sum := "8fb781fbc40be4b06f150f19dd440e0595414a5cec58a7857c38bd91997be327", func := "loop.example/g01034/laws.FnExactOldDay", spec := "fnExactOldDay", apart := false }
def FnExactOldDaySaid : Prop := fnExactOldDayRow.holds Try.pinned (OpenSpec.ofChange fnExactOldDaySpec)

/-- ITS FALSE NEIGHBOUR: 'it returns false'. Refute it at one input. -/
def fnExactOldDayWrong : ChangeSpec := { name := "fnExactOldDay", fn := fun _ => fun
  | [d] => { results := [.lit (.bool false)], args := [d] }
  | _ => none }
def FnExactOldDayWrongFalsely : Prop := fnExactOldDayRow.holds Try.pinned (OpenSpec.ofChange fnExactOldDayWrong)

/-- 'laws.FnExactOldDate': WHATEVER THE INPUT: true; the input reads as it did. -/
def fnExactOldDateSpec : ChangeSpec := { name := "fnExactOldDate", fn := fun _ => fun
  | [d] => { results := [.lit (.bool true)], args := [d] }
  | _ => none }
def fnExactOldDateRow : OpenClaim := { program := "ytedjhbdciicijaa", sum := "8fb781fbc40be4b06f150f19dd440e0595414a5cec58a7857c38bd91997be327", func := "loop.example/g01034/laws.FnExactOldDate", spec := "fnExactOldDate", apart := false }
def FnExactOldDateSaid : Prop := fnExactOldDateRow.holds Try.pinned (OpenSpec.ofChange fnExactOldDateSpec)

/-- ITS FALSE NEIGHBOUR: 'it returns false'. Refute it at one input. -/
def fnExactOldDateWrong : ChangeSpec := { name := "fnExactOldDate", fn := fun _ => fun
  | [d] => { results := [.lit (.bool false)], args := [d] }
  | _ => none }
def FnExactOldDateWrongFalsely : Prop := fnExactOldDateRow.holds Try.pinned (OpenSpec.ofChange fnExactOldDateWrong)

/-- 'laws.FnExactNewDay': WHATEVER THE INPUT: true; the input reads as it did. -/
def fnExactNewDaySpec : ChangeSpec := { name := "fnExactNewDay", fn := fun _ => fun
  | [d] => { results := [.lit (.bool true)], args := [d] }
  | _ => none }
def fnExactNewDayRow : OpenClaim := { program := "ytedjhbdciicijaa", sum := "8fb781fbc40be4b06f150f19dd440e0595414a5cec58a7857c38bd91997be327", func := "loop.example/g01034/laws.FnExactNewDay", spec := "fnExactNewDay", apart := false }
def FnExactNewDaySaid : Prop := fnExactNewDayRow.holds Try.pinned (OpenSpec.ofChange fnExactNewDaySpec)

/-- ITS FALSE NEIGHBOUR: 'it returns false'. Refute it at one input. -/
def fnExactNewDayWrong : ChangeSpec := { name := "fnExactNewDay", fn := fun _ => fun
  | [d] => { results := [.lit (.bool false)], args := [d] }
  | _ => none }
def FnExactNewDayWrongFalsely : Prop := fnExactNewDayRow.holds Try.pinned (OpenSpec.ofChange fnExactNewDayWrong)

/-- 'laws.FnExactNewDate': WHATEVER THE INPUT: true; the input reads as it did. -/
def fnExactNewDateSpec : ChangeSpec := { name := "fnExactNewDate", fn := fun _ => fun
  | [d] => { results := [.lit (.bool true)], args := [d] }
  | _ => none }
def fnExactNewDateRow : OpenClaim := { program := "ytedjhbdciicijaa", sum := "8fb781fbc40be4b06f150f19dd440e0595414a5cec58a7857c38bd91997be327", func := "loop.example/g01034/laws.FnExactNewDate", spec := "fnExactNewDate", apart := false }
def FnExactNewDateSaid : Prop := fnExactNewDateRow.holds Try.pinned (OpenSpec.ofChange fnExactNewDateSpec)

/-- ITS FALSE NEIGHBOUR: 'it returns false'. Refute it at one input. -/
def fnExactNewDateWrong : ChangeSpec := { name := "fnExactNewDate", fn := fun _ => fun
  | [d] => { results := [.lit (.bool false)], args := [d] }
  | _ => none }
def FnExactNewDateWrongFalsely : Prop := fnExactNewDateRow.holds Try.pinned (OpenSpec.ofChange fnExactNewDateWrong)

/-- 'laws.FnExactWeekdayOf': WHATEVER THE INPUT: true; the input reads as it did. -/
def fnExactWeekdayOfSpec : ChangeSpec := { name := "fnExactWeekdayOf", fn := fun _ => fun
  | [d] => { results := [.lit (.bool true)], args := [d] }
  | _ => none }
def fnExactWeekdayOfRow : OpenClaim := { program := "ytedjhbdciicijaa", sum := "8fb781fbc40be4b06f150f19dd440e0595414a5cec58a7857c38bd91997be327", func := "loop.example/g01034/laws.FnExactWeekdayOf", spec := "fnExactWeekdayOf", apart := false }
def FnExactWeekdayOfSaid : Prop := fnExactWeekdayOfRow.holds Try.pinned (OpenSpec.ofChange fnExactWeekdayOfSpec)

/-- ITS FALSE NEIGHBOUR: 'it returns false'. Refute it at one input. -/
def fnExactWeekdayOfWrong : ChangeSpec := { name := "fnExactWeekdayOf", fn := fun _ => fun
  | [d] => { results := [.lit (.bool false)], args := [d] }
  | _ => none }
def FnExactWeekdayOfWrongFalsely : Prop := fnExactWeekdayOfRow.holds Try.pinned (OpenSpec.ofChange fnExactWeekdayOfWrong)

/-- 'laws.FnExactReadDate': WHATEVER THE INPUT: true; the input reads as it did. -/
def fnExactReadDateSpec : ChangeSpec := { name := "fnExactReadDate", fn := fun _ => fun
  | [d] => { results := [.lit (.bool true)], args := [d] }
  | _ => none }
def fnExactReadDateRow : OpenClaim := { program := "ytedjhbdciicijaa", sum := "8fb781fbc40be4b06f150f19dd440e0595414a5cec58a7857c38bd91997be327", func := "loop.example/g01034/laws.FnExactReadDate", spec := "fnExactReadDate", recurses := true, apart := false }
def FnExactReadDateSaid : Prop := fnExactReadDateRow.holds Try.pinned (OpenSpec.ofChange fnExactReadDateSpec)

/-- ITS FALSE NEIGHBOUR: 'it returns false'. Refute it at one input. -/
def fnExactReadDateWrong : ChangeSpec := { name := "fnExactReadDate", fn := fun _ => fun
  | [d] => { results := [.lit (.bool false)], args := [d] }
  | _ => none }
def FnExactReadDateWrongFalsely : Prop := fnExactReadDateRow.holds Try.pinned (OpenSpec.ofChange fnExactReadDateWrong)

/- THE SECOND FORM. 'bulk': how many values and letters a reading holds, each counted each time it is reached (what is shared counts as often as it is met; a slice's spare places count too). A statement '..UptoSaid' is the law's where the arguments, and the package variables that the reading takes, are together of bulk at most 1048576: NARROWER than '..Said'. Prove '..Said' where nothing that the law and all that it calls make is longer than what came in: it says more and counts as full. Else prove '..UptoSaid'. A law counts once. -/
mutual
def uptoBulk {H : Type} : DataW H → Nat
  | .lit (.string bytes) => bytes.length + 1
  | .lit _ => 1
  | .nil => 1
  | .ptr d => uptoBulk d + 1
  | .slice elems spare => uptoBulkAll elems + uptoBulkAll spare + 1
  | .agg parts => uptoBulkAll parts + 1
  | .iface _ d => uptoBulk d + 1
  | .map entries => uptoBulkEntries entries + 1
  | .held _ => 1
def uptoBulkAll {H : Type} : List (DataW H) → Nat
  | [] => 0
  | d :: r => uptoBulk d + uptoBulkAll r
def uptoBulkEntries {H : Type} : List (Lit × DataW H) → Nat
  | [] => 0
  | x :: r => uptoBulkEntry x + uptoBulkEntries r
def uptoBulkEntry {H : Type} : Lit × DataW H → Nat
  | (.string bytes, d) => bytes.length + uptoBulk d + 1
  | (_, d) => uptoBulk d + 1
 end
def uptoSmall : (H : Type) → List (DataW H) → Bool := fun _ ds => decide (uptoBulkAll ds ≤ 1048576)
def OpenSpec.upto (s : _root_.Go.ChangeSpec) : _root_.Go.OpenSpec := { _root_.Go.OpenSpec.ofChange s with cond := some uptoSmall }

/-- 'laws.FnDays', WHERE WHAT IT READS IS OF BULK AT MOST 1048576: true; the input reads as it did. -/
def fnDaysUptoRow : OpenClaim := { program := "ytedjhbdciicijaa", sum := "8fb781fbc40be4b06f150f19dd440e0595414a5cec58a7857c38bd91997be327", func := "loop.example/g01034/laws.FnDays", spec := "fnDays", apart := false, narrowed := true }
def FnDaysUptoSaid : Prop := fnDaysUptoRow.holds Try.pinned (OpenSpec.upto fnDaysSpec)

/-- 'laws.FnExactIsOldDate', WHERE WHAT IT READS IS OF BULK AT MOST 1048576: true; the input reads as it did. -/
def fnExactIsOldDateUptoRow : OpenClaim := { program := "ytedjhbdciicijaa", sum := "8fb781fbc40be4b06f150f19dd440e0595414a5cec58a7857c38bd91997be327", func := "loop.example/g01034/laws.FnExactIsOldDate", spec := "fnExactIsOldDate", apart := false, narrowed := true }
def FnExactIsOldDateUptoSaid : Prop := fnExactIsOldDateUptoRow.holds Try.pinned (OpenSpec.upto fnExactIsOldDateSpec)

/-- 'laws.FnExactIsNewDate', WHERE WHAT IT READS IS OF BULK AT MOST 1048576: true; the input reads as it did. -/
def fnExactIsNewDateUptoRow : OpenClaim := { program := "ytedjhbdciicijaa", sum := "8fb781fbc40be4b06f150f19dd440e0595414a5cec58a7857c38bd91997be327", func := "loop.example/g01034/laws.FnExactIsNewDate", spec := "fnExactIsNewDate", apart := false, narrowed := true }
def FnExactIsNewDateUptoSaid : Prop := fnExactIsNewDateUptoRow.holds Try.pinned (OpenSpec.upto fnExactIsNewDateSpec)

/-- 'laws.FnExactOldDay', WHERE WHAT IT READS IS OF BULK AT MOST 1048576: true; the input reads as it did. -/
def fnExactOldDayUptoRow : OpenClaim := { program := "ytedjhbdciicijaa", sum := "8fb781fbc40be4b06f150f19dd440e0595414a5cec58a7857c38bd91997be327", func := "loop.example/g01034/laws.FnExactOldDay", spec := "fnExactOldDay", apart := false, narrowed := true }
def FnExactOldDayUptoSaid : Prop := fnExactOldDayUptoRow.holds Try.pinned (OpenSpec.upto fnExactOldDaySpec)

/-- 'laws.FnExactOldDate', WHERE WHAT IT READS IS OF BULK AT MOST 1048576: true; the input reads as it did. -/
def fnExactOldDateUptoRow : OpenClaim := { program := "ytedjhbdciicijaa", sum := "8fb781fbc40be4b06f150f19dd440e0595414a5cec58a7857c38bd91997be327", func := "loop.example/g01034/laws.FnExactOldDate", spec := "fnExactOldDate", apart := false, narrowed := true }
def FnExactOldDateUptoSaid : Prop := fnExactOldDateUptoRow.holds Try.pinned (OpenSpec.upto fnExactOldDateSpec)

/-- 'laws.FnExactNewDay', WHERE WHAT IT READS IS OF BULK AT MOST 1048576: true; the input reads as it did. -/
def fnExactNewDayUptoRow : OpenClaim := { program := "ytedjhbdciicijaa", sum := "8fb781fbc40be4b06f150f19dd440e0595414a5cec58a7857c38bd91997be327", func := "loop.example/g01034/laws.FnExactNewDay", spec := "fnExactNewDay", apart := false, narrowed := true }
def FnExactNewDayUptoSaid : Prop := fnExactNewDayUptoRow.holds Try.pinned (OpenSpec.upto fnExactNewDaySpec)

/-- 'laws.FnExactNewDate', WHERE WHAT IT READS IS OF BULK AT MOST 1048576: true; the input reads as it did. -/
def fnExactNewDateUptoRow : OpenClaim := { program := "ytedjhbdciicijaa", sum := "8fb781fbc40be4b06f150f19dd440e0595414a5cec58a7857c38bd91997be327", func := "loop.example/g01034/laws.FnExactNewDate", spec := "fnExactNewDate", apart := false, narrowed := true }
def FnExactNewDateUptoSaid : Prop := fnExactNewDateUptoRow.holds Try.pinned (OpenSpec.upto fnExactNewDateSpec)

/-- 'laws.FnExactWeekdayOf', WHERE WHAT IT READS IS OF BULK AT MOST 1048576: true; the input reads as it did. -/
def fnExactWeekdayOfUptoRow : OpenClaim := { program := "ytedjhbdciicijaa", sum := "8fb781fbc40be4b06f150f19dd440e0595414a5cec58a7857c38bd91997be327", func := "loop.example/g01034/laws.FnExactWeekdayOf", spec := "fnExactWeekdayOf", apart := false, narrowed := true }
def FnExactWeekdayOfUptoSaid : Prop := fnExactWeekdayOfUptoRow.holds Try.pinned (OpenSpec.upto fnExactWeekdayOfSpec)

/-- 'laws.FnExactReadDate', WHERE WHAT IT READS IS OF BULK AT MOST 1048576: true; the input reads as it did. -/
def fnExactReadDateUptoRow : OpenClaim := { program := "ytedjhbdciicijaa", sum := "8fb781fbc40be4b06f150f19dd440e0595414a5cec58a7857c38bd91997be327", func := "loop.example/g01034/laws.FnExactReadDate", spec := "fnExactReadDate", recurses := true, apart := false, narrowed := true }
def FnExactReadDateUptoSaid : Prop := fnExactReadDateUptoRow.holds Try.pinned (OpenSpec.upto fnExactReadDateSpec)

end Rows
end Go.Proofs.Ytedjhbdciicijaa
