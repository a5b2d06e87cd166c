/-
  No cell of these rows narrows 'for every input' (looked for: loops, veiled, ifaces, maps, wideKeys, modest, calm, conditions, laid).
  DERIVED. THE GIVEN ROWS OF THIS SEAT. 21 by the template 'for every input the law returns true; each argument reads behind the call as it read before'; 0 by the template 'total and deterministic' (their statements: YtkmkfpglnmpnmaaTotals.lean).
  GIVEN WITH THE SEED: the statements are not yours to turn. If you find one false, say at which input.
  Laid BY PROGRAM, IN A SANDBOX (cutbox-rows.mjs): the forced cells as the released guide's own fill.sh prints them over the translation 095e643832f08076… (all of the seat's roots in one cut). By AI agents, Wed Nov 11 2026. No macro, syntax, notation, axiom, sorry.
-/
import Derived.Test.YtkmkfpglnmpnmaaChecked
import GoSem.Claim
import GoSem.ClaimJoined
import GoSem.ClaimMapViews
import Derived.JoinedTies
import Derived.KernelRfl
namespace Go.Proofs.Ytkmkfpglnmpnmaa
/- THE CELL 'sum', in the pinned program and in every row, IS THE sha256 OF THE DUMP (.gsa) THAT YtkmkfpglnmpnmaaProg.lean LOADS. Nothing in Lean hashes anything: it is a label: what it is worth is what the hold of that sum in a sandbox is worth. -/
noncomputable def Try.pinned : Pinned := { name := "ytkmkfpglnmpnmaa", sum := "095e643832f080766c0b97af696e857cc9cb3e0cdb87bdefd937eaddb29c3de3", checked := Try.checked }
namespace Rows
def none {H : Type} : Left H := { results := [], args := [] }

/-- 'laws.FnDays': WHATEVER THE INPUT: true; the input reads as it did. -/
def fnDaysSpec : ChangeSpec := { name := "fnDays", fn := fun _ => fun
  | [d] => { results := [.lit (.bool true)], args := [d] }
  | _ => none }
def fnDaysRow : OpenClaim := { program := "ytkmkfpglnmpnmaa", sum := "095e643832f080766c0b97af696e857cc9cb3e0cdb87bdefd937eaddb29c3de3", func := "loop.example/g01034/laws.FnDays", spec := "fnDays", apart := false }
def FnDaysSaid : Prop := fnDaysRow.holds Try.pinned (OpenSpec.ofChange fnDaysSpec)

/-- ITS FALSE NEIGHBOUR: 'it returns false'. Refute it at one input. -/
def fnDaysWrong : ChangeSpec := { name := "fnDays", fn := fun _ => fun
  | [d] => { results := [.lit (.bool false)], args := [d] }
  | _ => none }
def FnDaysWrongFalsely : Prop := fnDaysRow.holds Try.pinned (OpenSpec.ofChange fnDaysWrong)

/-- 'laws.FnCalendars': WHATEVER THE INPUT: true; the input reads as it did. -/
def fnCalendarsSpec : ChangeSpec := { name := "fnCalendars", fn := fun _ => fun
  | [d] => { results := [.lit (.bool true)], args := [d] }
  | _ => none }
def fnCalendarsRow : OpenClaim := { program := "ytkmkfpglnmpnmaa", sum := "095e643832f080766c0b97af696e857cc9cb3e0cdb87bdefd937eaddb29c3de3", func := "loop.example/g01034/laws.FnCalendars", spec := "fnCalendars", unfollowed := true, recurses := true, apart := false }
def FnCalendarsSaid : Prop := fnCalendarsRow.holds Try.pinned (OpenSpec.ofChange fnCalendarsSpec)

/-- ITS FALSE NEIGHBOUR: 'it returns false'. Refute it at one input. -/
def fnCalendarsWrong : ChangeSpec := { name := "fnCalendars", fn := fun _ => fun
  | [d] => { results := [.lit (.bool false)], args := [d] }
  | _ => none }
def FnCalendarsWrongFalsely : Prop := fnCalendarsRow.holds Try.pinned (OpenSpec.ofChange fnCalendarsWrong)

/-- 'laws.FnReforms': WHATEVER THE INPUT: true; the input reads as it did. -/
def fnReformsSpec : ChangeSpec := { name := "fnReforms", fn := fun _ => fun
  | [d] => { results := [.lit (.bool true)], args := [d] }
  | _ => none }
def fnReformsRow : OpenClaim := { program := "ytkmkfpglnmpnmaa", sum := "095e643832f080766c0b97af696e857cc9cb3e0cdb87bdefd937eaddb29c3de3", func := "loop.example/g01034/laws.FnReforms", spec := "fnReforms", unfollowed := true, recurses := true, apart := false }
def FnReformsSaid : Prop := fnReformsRow.holds Try.pinned (OpenSpec.ofChange fnReformsSpec)

/-- ITS FALSE NEIGHBOUR: 'it returns false'. Refute it at one input. -/
def fnReformsWrong : ChangeSpec := { name := "fnReforms", fn := fun _ => fun
  | [d] => { results := [.lit (.bool false)], args := [d] }
  | _ => none }
def FnReformsWrongFalsely : Prop := fnReformsRow.holds Try.pinned (OpenSpec.ofChange fnReformsWrong)

/-- 'laws.FnExactIsOldDate': WHATEVER THE INPUT: true; the input reads as it did. -/
def fnExactIsOldDateSpec : ChangeSpec := { name := "fnExactIsOldDate", fn := fun _ => fun
  | [d] => { results := [.lit (.bool true)], args := [d] }
  | _ => none }
def fnExactIsOldDateRow : OpenClaim := { program := "ytkmkfpglnmpnmaa", sum := "095e643832f080766c0b97af696e857cc9cb3e0cdb87bdefd937eaddb29c3de3", func := "loop.example/g01034/laws.FnExactIsOldDate", spec := "fnExactIsOldDate", apart := false }
def FnExactIsOldDateSaid : Prop := fnExactIsOldDateRow.holds Try.pinned (OpenSpec.ofChange fnExactIsOldDateSpec)

/-- ITS FALSE NEIGHBOUR: 'it returns false'. Refute it at one input. -/
def fnExactIsOldDateWrong : ChangeSpec := { name := "fnExactIsOldDate", fn := fun _ => fun
  | [d] => { results := [.lit (.bool false)], args := [d] }
  | _ => none }
def FnExactIsOldDateWrongFalsely : Prop := fnExactIsOldDateRow.holds Try.pinned (OpenSpec.ofChange fnExactIsOldDateWrong)

/-- 'laws.FnExactIsNewDate': WHATEVER THE INPUT: true; the input reads as it did. -/
def fnExactIsNewDateSpec : ChangeSpec := { name := "fnExactIsNewDate", fn := fun _ => fun
  | [d] => { results := [.lit (.bool true)], args := [d] }
  | _ => none }
def fnExactIsNewDateRow : OpenClaim := { program := "ytkmkfpglnmpnmaa", sum := "095e643832f080766c0b97af696e857cc9cb3e0cdb87bdefd937eaddb29c3de3", func := "loop.example/g01034/laws.FnExactIsNewDate", spec := "fnExactIsNewDate", apart := false }
def FnExactIsNewDateSaid : Prop := fnExactIsNewDateRow.holds Try.pinned (OpenSpec.ofChange fnExactIsNewDateSpec)

/-- ITS FALSE NEIGHBOUR: 'it returns false'. Refute it at one input. -/
def fnExactIsNewDateWrong : ChangeSpec := { name := "fnExactIsNewDate", fn := fun _ => fun
  | [d] => { results := [.lit (.bool false)], args := [d] }
  | _ => none }
def FnExactIsNewDateWrongFalsely : Prop := fnExactIsNewDateRow.holds Try.pinned (OpenSpec.ofChange fnExactIsNewDateWrong)

/-- 'laws.FnExactOldDay': WHATEVER THE INPUT: true; the input reads as it did. -/
def fnExactOldDaySpec : ChangeSpec := { name := "fnExactOldDay", fn := fun _ => fun
  | [d] => { results := [.lit (.bool true)], args := [d] }
  | _ => none }
def fnExactOldDayRow : OpenClaim := { program := "ytkmkfpglnmpnmaa", sum := "095e643832f080766c0b97af696e857cc9cb3e0cdb87bdefd937eaddb29c3de3", func := "loop.example/g01034/laws.FnExactOldDay", spec := "fnExactOldDay", apart := false }
def FnExactOldDaySaid : Prop := fnExactOldDayRow.holds Try.pinned (OpenSpec.ofChange fnExactOldDaySpec)

/-- ITS FALSE NEIGHBOUR: 'it returns false'. Refute it at one input. -/
def fnExactOldDayWrong : ChangeSpec := { name := "fnExactOldDay", fn := fun _ => fun
  | [d] => { results := [.lit (.bool false)], args := [d] }
  | _ => none }
def FnExactOldDayWrongFalsely : Prop := fnExactOldDayRow.holds Try.pinned (OpenSpec.ofChange fnExactOldDayWrong)

/-- 'laws.FnExactOldDate': WHATEVER THE INPUT: true; the input reads as it did. -/
def fnExactOldDateSpec : ChangeSpec := { name := "fnExactOldDate", fn := fun _ => fun
  | [d] => { results := [.lit (.bool true)], args := [d] }
  | _ => none }
def fnExactOldDateRow : OpenClaim := { program := "ytkmkfpglnmpnmaa", sum := "095e643832f080766c0b97af696e857cc9cb3e0cdb87bdefd937eaddb29c3de3", func := "loop.example/g01034/laws.FnExactOldDate", spec := "fnExactOldDate", apart := false }
def FnExactOldDateSaid : Prop := fnExactOldDateRow.holds Try.pinned (OpenSpec.ofChange fnExactOldDateSpec)

/-- ITS FALSE NEIGHBOUR: 'it returns false'. Refute it at one input. -/
def fnExactOldDateWrong : ChangeSpec := { name := "fnExactOldDate", fn := fun _ => fun
  | [d] => { results := [.lit (.bool false)], args := [d] }
  | _ => none }
def FnExactOldDateWrongFalsely : Prop := fnExactOldDateRow.holds Try.pinned (OpenSpec.ofChange fnExactOldDateWrong)

/-- 'laws.FnExactNewDay': WHATEVER THE INPUT: true; the input reads as it did. -/
def fnExactNewDaySpec : ChangeSpec := { name := "fnExactNewDay", fn := fun _ => fun
  | [d] => { results := [.lit (.bool true)], args := [d] }
  | _ => none }
def fnExactNewDayRow : OpenClaim := { program := "ytkmkfpglnmpnmaa", sum := "095e643832f080766c0b97af696e857cc9cb3e0cdb87bdefd937eaddb29c3de3", func := "loop.example/g01034/laws.FnExactNewDay", spec := "fnExactNewDay", apart := false }
def FnExactNewDaySaid : Prop := fnExactNewDayRow.holds Try.pinned (OpenSpec.ofChange fnExactNewDaySpec)

/-- ITS FALSE NEIGHBOUR: 'it returns false'. Refute it at one input. -/
def fnExactNewDayWrong : ChangeSpec := { name := "fnExactNewDay", fn := fun _ => fun
  | [d] => { results := [.lit (.bool false)], args := [d] }
  | _ => none }
def FnExactNewDayWrongFalsely : Prop := fnExactNewDayRow.holds Try.pinned (OpenSpec.ofChange fnExactNewDayWrong)

/-- 'laws.FnExactNewDate': WHATEVER THE INPUT: true; the input reads as it did. -/
def fnExactNewDateSpec : ChangeSpec := { name := "fnExactNewDate", fn := fun _ => fun
  | [d] => { results := [.lit (.bool true)], args := [d] }
  | _ => none }
def fnExactNewDateRow : OpenClaim := { program := "ytkmkfpglnmpnmaa", sum := "095e643832f080766c0b97af696e857cc9cb3e0cdb87bdefd937eaddb29c3de3", func := "loop.example/g01034/laws.FnExactNewDate", spec := "fnExactNewDate", apart := false }
def FnExactNewDateSaid : Prop := fnExactNewDateRow.holds Try.pinned (OpenSpec.ofChange fnExactNewDateSpec)

/-- ITS FALSE NEIGHBOUR: 'it returns false'. Refute it at one input. -/
def fnExactNewDateWrong : ChangeSpec := { name := "fnExactNewDate", fn := fun _ => fun
  | [d] => { results := [.lit (.bool false)], args := [d] }
  | _ => none }
def FnExactNewDateWrongFalsely : Prop := fnExactNewDateRow.holds Try.pinned (OpenSpec.ofChange fnExactNewDateWrong)

/-- 'laws.FnExactWeekdayOf': WHATEVER THE INPUT: true; the input reads as it did. -/
def fnExactWeekdayOfSpec : ChangeSpec := { name := "fnExactWeekdayOf", fn := fun _ => fun
  | [d] => { results := [.lit (.bool true)], args := [d] }
  | _ => none }
def fnExactWeekdayOfRow : OpenClaim := { program := "ytkmkfpglnmpnmaa", sum := "095e643832f080766c0b97af696e857cc9cb3e0cdb87bdefd937eaddb29c3de3", func := "loop.example/g01034/laws.FnExactWeekdayOf", spec := "fnExactWeekdayOf", apart := false }
def FnExactWeekdayOfSaid : Prop := fnExactWeekdayOfRow.holds Try.pinned (OpenSpec.ofChange fnExactWeekdayOfSpec)

/-- ITS FALSE NEIGHBOUR: 'it returns false'. Refute it at one input. -/
def fnExactWeekdayOfWrong : ChangeSpec := { name := "fnExactWeekdayOf", fn := fun _ => fun
  | [d] => { results := [.lit (.bool false)], args := [d] }
  | _ => none }
def FnExactWeekdayOfWrongFalsely : Prop := fnExactWeekdayOfRow.holds Try.pinned (OpenSpec.ofChange fnExactWeekdayOfWrong)

/-- 'laws.FnExactReadDate': WHATEVER THE INPUT: true; the input reads as it did. -/
def fnExactReadDateSpec : ChangeSpec := { name := "fnExactReadDate", fn := fun _ => fun
  | [d] => { results := [.lit (.bool true)], args := [d] }
  | _ => none }
def fnExactReadDateRow : OpenClaim := { program := "ytkmkfpglnmpnmaa", sum := "095e643832f080766c0b97af696e857cc9cb3e0cdb87bdefd937eaddb29c3de3", func := "loop.example/g01034/laws.FnExactReadDate", spec := "fnExactReadDate", recurses := true, apart := false }
def FnExactReadDateSaid : Prop := fnExactReadDateRow.holds Try.pinned (OpenSpec.ofChange fnExactReadDateSpec)

/-- ITS FALSE NEIGHBOUR: 'it returns false'. Refute it at one input. -/
def fnExactReadDateWrong : ChangeSpec := { name := "fnExactReadDate", fn := fun _ => fun
  | [d] => { results := [.lit (.bool false)], args := [d] }
  | _ => none }
def FnExactReadDateWrongFalsely : Prop := fnExactReadDateRow.holds Try.pinned (OpenSpec.ofChange fnExactReadDateWrong)

/-- 'laws.FnExactIsCalendar': WHATEVER THE INPUT: true; the input reads as it did. -/
def fnExactIsCalendarSpec : ChangeSpec := { name := "fnExactIsCalendar", fn := fun _ => fun
  | [d] => { results := [.lit (.bool true)], args := [d] }
  | _ => none }
def fnExactIsCalendarRow : OpenClaim := { program := "ytkmkfpglnmpnmaa", sum := "095e643832f080766c0b97af696e857cc9cb3e0cdb87bdefd937eaddb29c3de3", func := "loop.example/g01034/laws.FnExactIsCalendar", spec := "fnExactIsCalendar", apart := false }
def FnExactIsCalendarSaid : Prop := fnExactIsCalendarRow.holds Try.pinned (OpenSpec.ofChange fnExactIsCalendarSpec)

/-- ITS FALSE NEIGHBOUR: 'it returns false'. Refute it at one input. -/
def fnExactIsCalendarWrong : ChangeSpec := { name := "fnExactIsCalendar", fn := fun _ => fun
  | [d] => { results := [.lit (.bool false)], args := [d] }
  | _ => none }
def FnExactIsCalendarWrongFalsely : Prop := fnExactIsCalendarRow.holds Try.pinned (OpenSpec.ofChange fnExactIsCalendarWrong)

/-- 'laws.FnExactLocalDay': WHATEVER THE INPUT: true; the input reads as it did. -/
def fnExactLocalDaySpec : ChangeSpec := { name := "fnExactLocalDay", fn := fun _ => fun
  | [d1, d2] => { results := [.lit (.bool true)], args := [d1, d2] }
  | _ => none }
def fnExactLocalDayRow : OpenClaim := { program := "ytkmkfpglnmpnmaa", sum := "095e643832f080766c0b97af696e857cc9cb3e0cdb87bdefd937eaddb29c3de3", func := "loop.example/g01034/laws.FnExactLocalDay", spec := "fnExactLocalDay", unfollowed := true, recurses := true, apart := false }
def FnExactLocalDaySaid : Prop := fnExactLocalDayRow.holds Try.pinned (OpenSpec.ofChange fnExactLocalDaySpec)

/-- ITS FALSE NEIGHBOUR: 'it returns false'. Refute it at one input. -/
def fnExactLocalDayWrong : ChangeSpec := { name := "fnExactLocalDay", fn := fun _ => fun
  | [d1, d2] => { results := [.lit (.bool false)], args := [d1, d2] }
  | _ => none }
def FnExactLocalDayWrongFalsely : Prop := fnExactLocalDayRow.holds Try.pinned (OpenSpec.ofChange fnExactLocalDayWrong)

/-- 'laws.FnExactLocalDate': WHATEVER THE INPUT: true; the input reads as it did. -/
def fnExactLocalDateSpec : ChangeSpec := { name := "fnExactLocalDate", fn := fun _ => fun
  | [d1, d2] => { results := [.lit (.bool true)], args := [d1, d2] }
  | _ => none }
def fnExactLocalDateRow : OpenClaim := { program := "ytkmkfpglnmpnmaa", sum := "095e643832f080766c0b97af696e857cc9cb3e0cdb87bdefd937eaddb29c3de3", func := "loop.example/g01034/laws.FnExactLocalDate", spec := "fnExactLocalDate", unfollowed := true, recurses := true, apart := false }
def FnExactLocalDateSaid : Prop := fnExactLocalDateRow.holds Try.pinned (OpenSpec.ofChange fnExactLocalDateSpec)

/-- ITS FALSE NEIGHBOUR: 'it returns false'. Refute it at one input. -/
def fnExactLocalDateWrong : ChangeSpec := { name := "fnExactLocalDate", fn := fun _ => fun
  | [d1, d2] => { results := [.lit (.bool false)], args := [d1, d2] }
  | _ => none }
def FnExactLocalDateWrongFalsely : Prop := fnExactLocalDateRow.holds Try.pinned (OpenSpec.ofChange fnExactLocalDateWrong)

/-- 'laws.FnExactIsLocal': WHATEVER THE INPUT: true; the input reads as it did. -/
def fnExactIsLocalSpec : ChangeSpec := { name := "fnExactIsLocal", fn := fun _ => fun
  | [d1, d2] => { results := [.lit (.bool true)], args := [d1, d2] }
  | _ => none }
def fnExactIsLocalRow : OpenClaim := { program := "ytkmkfpglnmpnmaa", sum := "095e643832f080766c0b97af696e857cc9cb3e0cdb87bdefd937eaddb29c3de3", func := "loop.example/g01034/laws.FnExactIsLocal", spec := "fnExactIsLocal", unfollowed := true, recurses := true, apart := false }
def FnExactIsLocalSaid : Prop := fnExactIsLocalRow.holds Try.pinned (OpenSpec.ofChange fnExactIsLocalSpec)

/-- ITS FALSE NEIGHBOUR: 'it returns false'. Refute it at one input. -/
def fnExactIsLocalWrong : ChangeSpec := { name := "fnExactIsLocal", fn := fun _ => fun
  | [d1, d2] => { results := [.lit (.bool false)], args := [d1, d2] }
  | _ => none }
def FnExactIsLocalWrongFalsely : Prop := fnExactIsLocalRow.holds Try.pinned (OpenSpec.ofChange fnExactIsLocalWrong)

/-- 'laws.FnExactSkippedDates': WHATEVER THE INPUT: true; the input reads as it did. -/
def fnExactSkippedDatesSpec : ChangeSpec := { name := "fnExactSkippedDates", fn := fun _ => fun
  | [d] => { results := [.lit (.bool true)], args := [d] }
  | _ => none }
def fnExactSkippedDatesRow : OpenClaim := { program := "ytkmkfpglnmpnmaa", sum := "095e643832f080766c0b97af696e857cc9cb3e0cdb87bdefd937eaddb29c3de3", func := "loop.example/g01034/laws.FnExactSkippedDates", spec := "fnExactSkippedDates", apart := false }
def FnExactSkippedDatesSaid : Prop := fnExactSkippedDatesRow.holds Try.pinned (OpenSpec.ofChange fnExactSkippedDatesSpec)

/-- ITS FALSE NEIGHBOUR: 'it returns false'. Refute it at one input. -/
def fnExactSkippedDatesWrong : ChangeSpec := { name := "fnExactSkippedDates", fn := fun _ => fun
  | [d] => { results := [.lit (.bool false)], args := [d] }
  | _ => none }
def FnExactSkippedDatesWrongFalsely : Prop := fnExactSkippedDatesRow.holds Try.pinned (OpenSpec.ofChange fnExactSkippedDatesWrong)

/-- 'laws.FnExactDaysOfYear': WHATEVER THE INPUT: true; the input reads as it did. -/
def fnExactDaysOfYearSpec : ChangeSpec := { name := "fnExactDaysOfYear", fn := fun _ => fun
  | [d1, d2] => { results := [.lit (.bool true)], args := [d1, d2] }
  | _ => none }
def fnExactDaysOfYearRow : OpenClaim := { program := "ytkmkfpglnmpnmaa", sum := "095e643832f080766c0b97af696e857cc9cb3e0cdb87bdefd937eaddb29c3de3", func := "loop.example/g01034/laws.FnExactDaysOfYear", spec := "fnExactDaysOfYear", unfollowed := true, recurses := true, apart := false }
def FnExactDaysOfYearSaid : Prop := fnExactDaysOfYearRow.holds Try.pinned (OpenSpec.ofChange fnExactDaysOfYearSpec)

/-- ITS FALSE NEIGHBOUR: 'it returns false'. Refute it at one input. -/
def fnExactDaysOfYearWrong : ChangeSpec := { name := "fnExactDaysOfYear", fn := fun _ => fun
  | [d1, d2] => { results := [.lit (.bool false)], args := [d1, d2] }
  | _ => none }
def FnExactDaysOfYearWrongFalsely : Prop := fnExactDaysOfYearRow.holds Try.pinned (OpenSpec.ofChange fnExactDaysOfYearWrong)

/-- 'laws.FnExactSameDay': WHATEVER THE INPUT: true; the input reads as it did. -/
def fnExactSameDaySpec : ChangeSpec := { name := "fnExactSameDay", fn := fun _ => fun
  | [d1, d2, d3, d4] => { results := [.lit (.bool true)], args := [d1, d2, d3, d4] }
  | _ => none }
def fnExactSameDayRow : OpenClaim := { program := "ytkmkfpglnmpnmaa", sum := "095e643832f080766c0b97af696e857cc9cb3e0cdb87bdefd937eaddb29c3de3", func := "loop.example/g01034/laws.FnExactSameDay", spec := "fnExactSameDay", unfollowed := true, recurses := true, apart := false }
def FnExactSameDaySaid : Prop := fnExactSameDayRow.holds Try.pinned (OpenSpec.ofChange fnExactSameDaySpec)

/-- ITS FALSE NEIGHBOUR: 'it returns false'. Refute it at one input. -/
def fnExactSameDayWrong : ChangeSpec := { name := "fnExactSameDay", fn := fun _ => fun
  | [d1, d2, d3, d4] => { results := [.lit (.bool false)], args := [d1, d2, d3, d4] }
  | _ => none }
def FnExactSameDayWrongFalsely : Prop := fnExactSameDayRow.holds Try.pinned (OpenSpec.ofChange fnExactSameDayWrong)

/-- 'laws.FnExactGoldenNumber': WHATEVER THE INPUT: true; the input reads as it did. -/
def fnExactGoldenNumberSpec : ChangeSpec := { name := "fnExactGoldenNumber", fn := fun _ => fun
  | [d] => { results := [.lit (.bool true)], args := [d] }
  | _ => none }
def fnExactGoldenNumberRow : OpenClaim := { program := "ytkmkfpglnmpnmaa", sum := "095e643832f080766c0b97af696e857cc9cb3e0cdb87bdefd937eaddb29c3de3", func := "loop.example/g01034/laws.FnExactGoldenNumber", spec := "fnExactGoldenNumber", apart := false }
def FnExactGoldenNumberSaid : Prop := fnExactGoldenNumberRow.holds Try.pinned (OpenSpec.ofChange fnExactGoldenNumberSpec)

/-- ITS FALSE NEIGHBOUR: 'it returns false'. Refute it at one input. -/
def fnExactGoldenNumberWrong : ChangeSpec := { name := "fnExactGoldenNumber", fn := fun _ => fun
  | [d] => { results := [.lit (.bool false)], args := [d] }
  | _ => none }
def FnExactGoldenNumberWrongFalsely : Prop := fnExactGoldenNumberRow.holds Try.pinned (OpenSpec.ofChange fnExactGoldenNumberWrong)

/-- 'laws.FnExactSundayLetters': WHATEVER THE INPUT: true; the input reads as it did. -/
def fnExactSundayLettersSpec : ChangeSpec := { name := "fnExactSundayLetters", fn := fun _ => fun
  | [d] => { results := [.lit (.bool true)], args := [d] }
  | _ => none }
def fnExactSundayLettersRow : OpenClaim := { program := "ytkmkfpglnmpnmaa", sum := "095e643832f080766c0b97af696e857cc9cb3e0cdb87bdefd937eaddb29c3de3", func := "loop.example/g01034/laws.FnExactSundayLetters", spec := "fnExactSundayLetters", apart := false }
def FnExactSundayLettersSaid : Prop := fnExactSundayLettersRow.holds Try.pinned (OpenSpec.ofChange fnExactSundayLettersSpec)

/-- ITS FALSE NEIGHBOUR: 'it returns false'. Refute it at one input. -/
def fnExactSundayLettersWrong : ChangeSpec := { name := "fnExactSundayLetters", fn := fun _ => fun
  | [d] => { results := [.lit (.bool false)], args := [d] }
  | _ => none }
def FnExactSundayLettersWrongFalsely : Prop := fnExactSundayLettersRow.holds Try.pinned (OpenSpec.ofChange fnExactSundayLettersWrong)

/-- 'laws.FnExactEasterTerm': WHATEVER THE INPUT: true; the input reads as it did. -/
def fnExactEasterTermSpec : ChangeSpec := { name := "fnExactEasterTerm", fn := fun _ => fun
  | [d] => { results := [.lit (.bool true)], args := [d] }
  | _ => none }
def fnExactEasterTermRow : OpenClaim := { program := "ytkmkfpglnmpnmaa", sum := "095e643832f080766c0b97af696e857cc9cb3e0cdb87bdefd937eaddb29c3de3", func := "loop.example/g01034/laws.FnExactEasterTerm", spec := "fnExactEasterTerm", apart := false }
def FnExactEasterTermSaid : Prop := fnExactEasterTermRow.holds Try.pinned (OpenSpec.ofChange fnExactEasterTermSpec)

/-- ITS FALSE NEIGHBOUR: 'it returns false'. Refute it at one input. -/
def fnExactEasterTermWrong : ChangeSpec := { name := "fnExactEasterTerm", fn := fun _ => fun
  | [d] => { results := [.lit (.bool false)], args := [d] }
  | _ => none }
def FnExactEasterTermWrongFalsely : Prop := fnExactEasterTermRow.holds Try.pinned (OpenSpec.ofChange fnExactEasterTermWrong)

/- THE SECOND FORM. 'bulk': how many values and letters a reading holds, each counted each time it is reached (what is shared counts as often as it is met; a slice's spare places count too). A statement '..UptoSaid' is the law's where the arguments, and the package variables that the reading takes, are together of bulk at most 1048576: NARROWER than '..Said'. Prove '..Said' where nothing that the law and all that it calls make is longer than what came in: it says more and counts as full. Else prove '..UptoSaid'. A law counts once. -/
mutual
def uptoBulk {H : Type} : DataW H → Nat
  | .lit (.string bytes) => bytes.length + 1
  | .lit _ => 1
  | .nil => 1
  | .ptr d => uptoBulk d + 1
  | .slice elems spare => uptoBulkAll elems + uptoBulkAll spare + 1
  | .agg parts => uptoBulkAll parts + 1
  | .iface _ d => uptoBulk d + 1
  | .map entries => uptoBulkEntries entries + 1
  | .held _ => 1
def uptoBulkAll {H : Type} : List (DataW H) → Nat
  | [] => 0
  | d :: r => uptoBulk d + uptoBulkAll r
def uptoBulkEntries {H : Type} : List (Lit × DataW H) → Nat
  | [] => 0
  | x :: r => uptoBulkEntry x + uptoBulkEntries r
def uptoBulkEntry {H : Type} : Lit × DataW H → Nat
  | (.string bytes, d) => bytes.length + uptoBulk d + 1
  | (_, d) => uptoBulk d + 1
 end
def uptoSmall : (H : Type) → List (DataW H) → Bool := fun _ ds => decide (uptoBulkAll ds ≤ 1048576)
def OpenSpec.upto (s : _root_.Go.ChangeSpec) : _root_.Go.OpenSpec := { _root_.Go.OpenSpec.ofChange s with cond := some uptoSmall }

/-- 'laws.FnDays', WHERE WHAT IT READS IS OF BULK AT MOST 1048576: true; the input reads as it did. -/
def fnDaysUptoRow : OpenClaim := { program := "ytkmkfpglnmpnmaa", sum := "095e643832f080766c0b97af696e857cc9cb3e0cdb87bdefd937eaddb29c3de3", func := "loop.example/g01034/laws.FnDays", spec := "fnDays", apart := false, narrowed := true }
def FnDaysUptoSaid : Prop := fnDaysUptoRow.holds Try.pinned (OpenSpec.upto fnDaysSpec)

/-- 'laws.FnCalendars', WHERE WHAT IT READS IS OF BULK AT MOST 1048576: true; the input reads as it did. -/
def fnCalendarsUptoRow : OpenClaim := { program := "ytkmkfpglnmpnmaa", sum := "095e643832f080766c0b97af696e857cc9cb3e0cdb87bdefd937eaddb29c3de3", func := "loop.example/g01034/laws.FnCalendars", spec := "fnCalendars", unfollowed := true, recurses := true, apart := false, narrowed := true }
def FnCalendarsUptoSaid : Prop := fnCalendarsUptoRow.holds Try.pinned (OpenSpec.upto fnCalendarsSpec)

/-- 'laws.FnReforms', WHERE WHAT IT READS IS OF BULK AT MOST 1048576: true; the input reads as it did. -/
def fnReformsUptoRow : OpenClaim := { program := "ytkmkfpglnmpnmaa", sum := "095e643832f080766c0b97af696e857cc9cb3e0cdb87bdefd937eaddb29c3de3", func := "loop.example/g01034/laws.FnReforms", spec := "fnReforms", unfollowed := true, recurses := true, apart := false, narrowed := true }
def FnReformsUptoSaid : Prop := fnReformsUptoRow.holds Try.pinned (OpenSpec.upto fnReformsSpec)

/-- 'laws.FnExactIsOldDate', WHERE WHAT IT READS IS OF BULK AT MOST 1048576: true; the input reads as it did. -/
def fnExactIsOldDateUptoRow : OpenClaim := { program := "ytkmkfpglnmpnmaa", sum := "095e643832f080766c0b97af696e857cc9cb3e0cdb87bdefd937eaddb29c3de3", func := "loop.example/g01034/laws.FnExactIsOldDate", spec := "fnExactIsOldDate", apart := false, narrowed := true }
def FnExactIsOldDateUptoSaid : Prop := fnExactIsOldDateUptoRow.holds Try.pinned (OpenSpec.upto fnExactIsOldDateSpec)

/-- 'laws.FnExactIsNewDate', WHERE WHAT IT READS IS OF BULK AT MOST 1048576: true; the input reads as it did. -/
def fnExactIsNewDateUptoRow : OpenClaim := { program := "ytkmkfpglnmpnmaa", sum := "095e643832f080766c0b97af696e857cc9cb3e0cdb87bdefd937eaddb29c3de3", func := "loop.example/g01034/laws.FnExactIsNewDate", spec := "fnExactIsNewDate", apart := false, narrowed := true }
def FnExactIsNewDateUptoSaid : Prop := fnExactIsNewDateUptoRow.holds Try.pinned (OpenSpec.upto fnExactIsNewDateSpec)

/-- 'laws.FnExactOldDay', WHERE WHAT IT READS IS OF BULK AT MOST 1048576: true; the input reads as it did. -/
def fnExactOldDayUptoRow : OpenClaim := { program := "ytkmkfpglnmpnmaa", sum := "095e643832f080766c0b97af696e857cc9cb3e0cdb87bdefd937eaddb29c3de3", func := "loop.example/g01034/laws.FnExactOldDay", spec := "fnExactOldDay", apart := false, narrowed := true }
def FnExactOldDayUptoSaid : Prop := fnExactOldDayUptoRow.holds Try.pinned (OpenSpec.upto fnExactOldDaySpec)

/-- 'laws.FnExactOldDate', WHERE WHAT IT READS IS OF BULK AT MOST 1048576: true; the input reads as it did. -/
def fnExactOldDateUptoRow : OpenClaim := { program := "ytkmkfpglnmpnmaa", sum := "095e643832f080766c0b97af696e857cc9cb3e0cdb87bdefd937eaddb29c3de3", func := "loop.example/g01034/laws.FnExactOldDate", spec := "fnExactOldDate", apart := false, narrowed := true }
def FnExactOldDateUptoSaid : Prop := fnExactOldDateUptoRow.holds Try.pinned (OpenSpec.upto fnExactOldDateSpec)

/-- 'laws.FnExactNewDay', WHERE WHAT IT READS IS OF BULK AT MOST 1048576: true; the input reads as it did. -/
def fnExactNewDayUptoRow : OpenClaim := { program := "ytkmkfpglnmpnmaa", sum := "095e643832f080766c0b97af696e857cc9cb3e0cdb87bdefd937eaddb29c3de3", func := "loop.example/g01034/laws.FnExactNewDay", spec := "fnExactNewDay", apart := false, narrowed := true }
def FnExactNewDayUptoSaid : Prop := fnExactNewDayUptoRow.holds Try.pinned (OpenSpec.upto fnExactNewDaySpec)

/-- 'laws.FnExactNewDate', WHERE WHAT IT READS IS OF BULK AT MOST 1048576: true; the input reads as it did. -/
def fnExactNewDateUptoRow : OpenClaim := { program := "ytkmkfpglnmpnmaa", sum := "095e643832f080766c0b97af696e857cc9cb3e0cdb87bdefd937eaddb29c3de3", func := "loop.example/g01034/laws.FnExactNewDate", spec := "fnExactNewDate", apart := false, narrowed := true }
def FnExactNewDateUptoSaid : Prop := fnExactNewDateUptoRow.holds Try.pinned (OpenSpec.upto fnExactNewDateSpec)

/-- 'laws.FnExactWeekdayOf', WHERE WHAT IT READS IS OF BULK AT MOST 1048576: true; the input reads as it did. -/
def fnExactWeekdayOfUptoRow : OpenClaim := { program := "ytkmkfpglnmpnmaa", sum := "095e643832f080766c0b97af696e857cc9cb3e0cdb87bdefd937eaddb29c3de3", func := "loop.example/g01034/laws.FnExactWeekdayOf", spec := "fnExactWeekdayOf", apart := false, narrowed := true }
def FnExactWeekdayOfUptoSaid : Prop := fnExactWeekdayOfUptoRow.holds Try.pinned (OpenSpec.upto fnExactWeekdayOfSpec)

/-- 'laws.FnExactReadDate', WHERE WHAT IT READS IS OF BULK AT MOST 1048576: true; the input reads as it did. -/
def fnExactReadDateUptoRow : OpenClaim := { program := "ytkmkfpglnmpnmaa", sum := "095e643832f080766c0b97af696e857cc9cb3e0cdb87bdefd937eaddb29c3de3", func := "loop.example/g01034/laws.FnExactReadDate", spec := "fnExactReadDate", recurses := true, apart := false, narrowed := true }
def FnExactReadDateUptoSaid : Prop := fnExactReadDateUptoRow.holds Try.pinned (OpenSpec.upto fnExactReadDateSpec)

/-- 'laws.FnExactIsCalendar', WHERE WHAT IT READS IS OF BULK AT MOST 1048576: true; the input reads as it did. -/
def fnExactIsCalendarUptoRow : OpenClaim := { program := "ytkmkfpglnmpnmaa", sum := "095e643832f080766c0b97af696e857cc9cb3e0cdb87bdefd937eaddb29c3de3", func := "loop.example/g01034/laws.FnExactIsCalendar", spec := "fnExactIsCalendar", apart := false, narrowed := true }
def FnExactIsCalendarUptoSaid : Prop := fnExactIsCalendarUptoRow.holds Try.pinned (OpenSpec.upto fnExactIsCalendarSpec)

/-- 'laws.FnExactLocalDay', WHERE WHAT IT READS IS OF BULK AT MOST 1048576: true; the input reads as it did. -/
def fnExactLocalDayUptoRow : OpenClaim := { program := "ytkmkfpglnmpnmaa", sum := "095e643832f080766c0b97af696e857cc9cb3e0cdb87bdefd937eaddb29c3de3", func := "loop.example/g01034/laws.FnExactLocalDay", spec := "fnExactLocalDay", unfollowed := true, recurses := true, apart := false, narrowed := true }
def FnExactLocalDayUptoSaid : Prop := fnExactLocalDayUptoRow.holds Try.pinned (OpenSpec.upto fnExactLocalDaySpec)

/-- 'laws.FnExactLocalDate', WHERE WHAT IT READS IS OF BULK AT MOST 1048576: true; the input reads as it did. -/
def fnExactLocalDateUptoRow : OpenClaim := { program := "ytkmkfpglnmpnmaa", sum := "095e643832f080766c0b97af696e857cc9cb3e0cdb87bdefd937eaddb29c3de3", func := "loop.example/g01034/laws.FnExactLocalDate", spec := "fnExactLocalDate", unfollowed := true, recurses := true, apart := false, narrowed := true }
def FnExactLocalDateUptoSaid : Prop := fnExactLocalDateUptoRow.holds Try.pinned (OpenSpec.upto fnExactLocalDateSpec)

/-- 'laws.FnExactIsLocal', WHERE WHAT IT READS IS OF BULK AT MOST 1048576: true; the input reads as it did. -/
def fnExactIsLocalUptoRow : OpenClaim := { program := "ytkmkfpglnmpnmaa", sum := "095e643832f080766c0b97af696e857cc9cb3e0cdb87bdefd937eaddb29c3de3", func := "loop.example/g01034/laws.FnExactIsLocal", spec := "fnExactIsLocal", unfollowed := true, recurses := true, apart := false, narrowed := true }
def FnExactIsLocalUptoSaid : Prop := fnExactIsLocalUptoRow.holds Try.pinned (OpenSpec.upto fnExactIsLocalSpec)

/-- 'laws.FnExactSkippedDates', WHERE WHAT IT READS IS OF BULK AT MOST 1048576: true; the input reads as it did. -/
def fnExactSkippedDatesUptoRow : OpenClaim := { program := "ytkmkfpglnmpnmaa", sum := "095e643832f080766c0b97af696e857cc9cb3e0cdb87bdefd937eaddb29c3de3", func := "loop.example/g01034/laws.FnExactSkippedDates", spec := "fnExactSkippedDates", apart := false, narrowed := true }
def FnExactSkippedDatesUptoSaid : Prop := fnExactSkippedDatesUptoRow.holds Try.pinned (OpenSpec.upto fnExactSkippedDatesSpec)

/-- 'laws.FnExactDaysOfYear', WHERE WHAT IT READS IS OF BULK AT MOST 1048576: true; the input reads as it did. -/
def fnExactDaysOfYearUptoRow : OpenClaim := { program := "ytkmkfpglnmpnmaa", sum := "095e643832f080766c0b97af696e857cc9cb3e0cdb87bdefd937eaddb29c3de3", func := "loop.example/g01034/laws.FnExactDaysOfYear", spec := "fnExactDaysOfYear", unfollowed := true, recurses := true, apart := false, narrowed := true }
def FnExactDaysOfYearUptoSaid : Prop := fnExactDaysOfYearUptoRow.holds Try.pinned (OpenSpec.upto fnExactDaysOfYearSpec)

/-- 'laws.FnExactSameDay', WHERE WHAT IT READS IS OF BULK AT MOST 1048576: true; the input reads as it did. -/
def fnExactSameDayUptoRow : OpenClaim := { program := "ytkmkfpglnmpnmaa", sum := "095e643832f080766c0b97af696e857cc9cb3e0cdb87bdefd937eaddb29c3de3", func := "loop.example/g01034/laws.FnExactSameDay", spec := "fnExactSameDay", unfollowed := true, recurses := true, apart := false, narrowed := true }
def FnExactSameDayUptoSaid : Prop := fnExactSameDayUptoRow.holds Try.pinned (OpenSpec.upto fnExactSameDaySpec)

/-- 'laws.FnExactGoldenNumber', WHERE WHAT IT READS IS OF BULK AT MOST 1048576: true; the input reads as it did. -/
def fnExactGoldenNumberUptoRow : OpenClaim := { program := "ytkmkfpglnmpnmaa", sum := "095e643832f080766c0b97af696e857cc9cb3e0cdb87bdefd937eaddb29c3de3", func := "loop.example/g01034/laws.FnExactGoldenNumber", spec := "fnExactGoldenNumber", apart := false, narrowed := true }
def FnExactGoldenNumberUptoSaid : Prop := fnExactGoldenNumberUptoRow.holds Try.pinned (OpenSpec.upto fnExactGoldenNumberSpec)

/-- 'laws.FnExactSundayLetters', WHERE WHAT IT READS IS OF BULK AT MOST 1048576: true; the input reads as it did. -/
def fnExactSundayLettersUptoRow : OpenClaim := { program := "ytkmkfpglnmpnmaa", sum := "095e643832f080766c0b97af696e857cc9cb3e0cdb87bdefd937eaddb29c3de3", func := "loop.example/g01034/laws.FnExactSundayLetters", spec := "fnExactSundayLetters", apart := false, narrowed := true }
def FnExactSundayLettersUptoSaid : Prop := fnExactSundayLettersUptoRow.holds Try.pinned (OpenSpec.upto fnExactSundayLettersSpec)

/-- 'laws.FnExactEasterTerm', WHERE WHAT IT READS IS OF BULK AT MOST 1048576: true; the input reads as it did. -/
def fnExactEasterTermUptoRow : OpenClaim := { program := "ytkmkfpglnmpnmaa", sum := "095e643832f080766c0b97af696e857cc9cb3e0cdb87bdefd937eaddb29c3de3", func := "loop.example/g01034/laws.FnExactEasterTerm", spec := "fnExactEasterTerm", apart := false, narrowed := true }
def FnExactEasterTermUptoSaid : Prop := fnExactEasterTermUptoRow.holds Try.pinned (OpenSpec.upto fnExactEasterTermSpec)

end Rows
end Go.Proofs.Ytkmkfpglnmpnmaa
