/- Facts about the whole program that every claim of this seat asks: the head's word, its signs as numbers. -/
import Derived.Test.YtigjpalbaapkkaaRows
import Derived.JoinedOf
import Derived.ProofKit
namespace Go.Proofs.Ytigjpalbaapkkaa.Closed
open Go.RowKit

def codes : List Nat := [104, 97, 114, 110, 101, 115, 115, 32, 54, 53, 48, 101, 52, 99, 54, 98, 56, 48, 102, 52, 48, 101, 97, 97, 49, 98, 55, 53, 55, 49, 99, 99, 54, 57, 98, 49, 98, 102, 99, 49, 57, 53, 52, 48, 53, 57, 53, 56, 99, 50, 97, 50, 52, 50, 54, 48, 54, 98, 102, 51, 56, 51, 98, 55, 98, 52, 54, 55, 49, 102, 51, 49, 32, 99, 117, 116, 32, 97, 116, 32, 108, 111, 111, 112, 46, 101, 120, 97, 109, 112, 108, 101, 47, 103, 48, 49, 48, 51, 52, 47, 108, 97, 119, 115, 46, 70, 110, 83, 116, 121, 108, 101, 115, 32, 108, 111, 111, 112, 46, 101, 120, 97, 109, 112, 108, 101, 47, 103, 48, 49, 48, 51, 52, 47, 108, 97, 119, 115, 46, 70, 110, 83, 116, 121, 108, 101, 68, 97, 121, 115, 32, 108, 111, 111, 112, 46, 101, 120, 97, 109, 112, 108, 101, 47, 103, 48, 49, 48, 51, 52, 47, 108, 97, 119, 115, 46, 70, 110, 69, 120, 97, 99, 116, 83, 116, 121, 108, 101, 78, 97, 109, 101, 32, 108, 111, 111, 112, 46, 101, 120, 97, 109, 112, 108, 101, 47, 103, 48, 49, 48, 51, 52, 47, 108, 97, 119, 115, 46, 70, 110, 69, 120, 97, 99, 116, 83, 116, 121, 108, 101, 78, 97, 109, 101, 100, 32, 108, 111, 111, 112, 46, 101, 120, 97, 109, 112, 108, 101, 47, 103, 48, 49, 48, 51, 52, 47, 108, 97, 119, 115, 46, 70, 110, 69, 120, 97, 99, 116, 89, 101, 97, 114, 83, 112, 97, 110, 32, 108, 111, 111, 112, 46, 101, 120, 97, 109, 112, 108, 101, 47, 103, 48, 49, 48, 51, 52, 47, 108, 97, 119, 115, 46, 70, 110, 69, 120, 97, 99, 116, 89, 101, 97, 114, 79, 110, 32, 108, 111, 111, 112, 46, 101, 120, 97, 109, 112, 108, 101, 47, 103, 48, 49, 48, 51, 52, 47, 108, 97, 119, 115, 46, 70, 110, 69, 120, 97, 99, 116, 68, 97, 121, 115, 87, 105, 116, 104, 32, 108, 111, 111, 112, 46, 101, 120, 97, 109, 112, 108, 101, 47, 103, 48, 49, 48, 51, 52, 47, 108, 97, 119, 115, 46, 70, 110, 69, 120, 97, 99, 116, 83, 116, 121, 108, 101, 115, 70, 111, 114, 32, 108, 111, 111, 112, 46, 101, 120, 97, 109, 112, 108, 101, 47, 103, 48, 49, 48, 51, 52, 47, 108, 97, 119, 115, 46, 70, 110, 69, 120, 97, 99, 116, 89, 101, 97, 114, 68, 105, 102, 102, 101, 114, 101, 110, 99, 101, 32, 108, 111, 111, 112, 46, 101, 120, 97, 109, 112, 108, 101, 47, 103, 48, 49, 48, 51, 52, 47, 108, 97, 119, 115, 46, 70, 110, 69, 120, 97, 99, 116, 76, 101, 110, 103, 116, 104, 79, 102, 89, 101, 97, 114, 32, 108, 111, 111, 112, 46, 101, 120, 97, 109, 112, 108, 101, 47, 103, 48, 49, 48, 51, 52, 47, 108, 97, 119, 115, 46, 70, 110, 83, 104, 105, 102, 116, 115, 32, 108, 111, 111, 112, 46, 101, 120, 97, 109, 112, 108, 101, 47, 103, 48, 49, 48, 51, 52, 47, 108, 97, 119, 115, 46, 70, 110, 69, 120, 97, 99, 116, 72, 97, 115, 68, 97, 121]
set_option maxRecDepth 100000 in
theorem head_word : Try.pinned.checked.prog.initOrder = "harness 650e4c6b80f40eaa1b7571cc69b1bfc195405958c2a242606bf383b7b4671f31 cut at loop.example/g01034/laws.FnStyles loop.example/g01034/laws.FnStyleDays loop.example/g01034/laws.FnExactStyleName loop.example/g01034/laws.FnExactStyleNamed loop.example/g01034/laws.FnExactYearSpan loop.example/g01034/laws.FnExactYearOn loop.example/g01034/laws.FnExactDaysWith loop.example/g01034/laws.FnExactStylesFor loop.example/g01034/laws.FnExactYearDifference loop.example/g01034/laws.FnExactLengthOfYear loop.example/g01034/laws.FnShifts loop.example/g01034/laws.FnExactHasDay" := by kernel_rfl
set_option maxRecDepth 100000 in
theorem head_signs : ("harness 650e4c6b80f40eaa1b7571cc69b1bfc195405958c2a242606bf383b7b4671f31 cut at loop.example/g01034/laws.FnStyles loop.example/g01034/laws.FnStyleDays loop.example/g01034/laws.FnExactStyleName loop.example/g01034/laws.FnExactStyleNamed loop.example/g01034/laws.FnExactYearSpan loop.example/g01034/laws.FnExactYearOn loop.example/g01034/laws.FnExactDaysWith loop.example/g01034/laws.FnExactStylesFor loop.example/g01034/laws.FnExactYearDifference loop.example/g01034/laws.FnExactLengthOfYear loop.example/g01034/laws.FnShifts loop.example/g01034/laws.FnExactHasDay" : String) = String.ofList (List.map Char.ofNat [104, 97, 114, 110, 101, 115, 115, 32, 54, 53, 48, 101, 52, 99, 54, 98, 56, 48, 102, 52, 48, 101, 97, 97, 49, 98, 55, 53, 55, 49, 99, 99, 54, 57, 98, 49, 98, 102, 99, 49, 57, 53, 52, 48, 53, 57, 53, 56, 99, 50, 97, 50, 52, 50, 54, 48, 54, 98, 102, 51, 56, 51, 98, 55, 98, 52, 54, 55, 49, 102, 51, 49, 32, 99, 117, 116, 32, 97, 116, 32, 108, 111, 111, 112, 46, 101, 120, 97, 109, 112, 108, 101, 47, 103, 48, 49, 48, 51, 52, 47, 108, 97, 119, 115, 46, 70, 110, 83, 116, 121, 108, 101, 115, 32, 108, 111, 111, 112, 46, 101, 120, 97, 109, 112, 108, 101, 47, 103, 48, 49, 48, 51, 52, 47, 108, 97, 119, 115, 46, 70, 110, 83, 116, 121, 108, 101, 68, 97, 121, 115, 32, 108, 111, 111, 112, 46, 101, 120, 97, 109, 112, 108, 101, 47, 103, 48, 49, 48, 51, 52, 47, 108, 97, 119, 115, 46, 70, 110, 69, 120, 97, 99, 116, 83, 116, 121, 108, 101, 78, 97, 109, 101, 32, 108, 111, 111, 112, 46, 101, 120, 97, 109, 112, 108, 101, 47, 103, 48, 49, 48, 51, 52, 47, 108, 97, 119, 115, 46, 70, 110, 69, 120, 97, 99, 116, 83, 116, 121, 108, 101, 78, 97, 109, 101, 100, 32, 108, 111, 111, 112, 46, 101, 120, 97, 109, 112, 108, 101, 47, 103, 48, 49, 48, 51, 52, 47, 108, 97, 119, 115, 46, 70, 110, 69, 120, 97, 99, 116, 89, 101, 97, 114, 83, 112, 97, 110, 32, 108, 111, 111, 112, 46, 101, 120, 97, 109, 112, 108, 101, 47, 103, 48, 49, 48, 51, 52, 47, 108, 97, 119, 115, 46, 70, 110, 69, 120, 97, 99, 116, 89, 101, 97, 114, 79, 110, 32, 108, 111, 111, 112, 46, 101, 120, 97, 109, 112, 108, 101, 47, 103, 48, 49, 48, 51, 52, 47, 108, 97, 119, 115, 46, 70, 110, 69, 120, 97, 99, 116, 68, 97, 121, 115, 87, 105, 116, 104, 32, 108, 111, 111, 112, 46, 101, 120, 97, 109, 112, 108, 101, 47, 103, 48, 49, 48, 51, 52, 47, 108, 97, 119, 115, 46, 70, 110, 69, 120, 97, 99, 116, 83, 116, 121, 108, 101, 115, 70, 111, 114, 32, 108, 111, 111, 112, 46, 101, 120, 97, 109, 112, 108, 101, 47, 103, 48, 49, 48, 51, 52, 47, 108, 97, 119, 115, 46, 70, 110, 69, 120, 97, 99, 116, 89, 101, 97, 114, 68, 105, 102, 102, 101, 114, 101, 110, 99, 101, 32, 108, 111, 111, 112, 46, 101, 120, 97, 109, 112, 108, 101, 47, 103, 48, 49, 48, 51, 52, 47, 108, 97, 119, 115, 46, 70, 110, 69, 120, 97, 99, 116, 76, 101, 110, 103, 116, 104, 79, 102, 89, 101, 97, 114, 32, 108, 111, 111, 112, 46, 101, 120, 97, 109, 112, 108, 101, 47, 103, 48, 49, 48, 51, 52, 47, 108, 97, 119, 115, 46, 70, 110, 83, 104, 105, 102, 116, 115, 32, 108, 111, 111, 112, 46, 101, 120, 97, 109, 112, 108, 101, 47, 103, 48, 49, 48, 51, 52, 47, 108, 97, 119, 115, 46, 70, 110, 69, 120, 97, 99, 116, 72, 97, 115, 68, 97, 121]) := by kernel_rfl
theorem head_is : Try.pinned.checked.prog.initOrder = String.ofList (codes.map Char.ofNat) := head_word.trans head_signs
theorem head_list : Try.pinned.checked.prog.initOrder.toList = codes.map Char.ofNat := by rw [head_is, String.toList_ofList]
theorem head_words : behindMainWord (wordsSigns (codes.map Char.ofNat)) = "cut".toList :: (behindMainWord (wordsSigns (codes.map Char.ofNat))).tail := by kernel_rfl
theorem make_of {P : Program} {r : List (List Char)} (h : behindMainWord (wordsSigns P.initOrder.toList) = "cut".toList :: r) : P.make = some .cut := by
  unfold Program.make
  rw [h]
  rfl
theorem may_of {P : Program} {r : List (List Char)} (h : behindMainWord (wordsSigns P.initOrder.toList) = "cut".toList :: r) (h1 : (!P.laysLater) = true) (h2 : (!P.bearsReflect) = true) (h3 : P.doorFits [] = true) : P.mayEnter = true := by
  have e1 : stripLifts liftWords ("cut".toList :: r) = ([], "cut".toList :: r) := by rfl
  unfold Program.mayEnter
  rw [h]
  simp only [e1]
  rw [h1, h2, h3]
  simp
theorem lift_of {P : Program} {r : List (List Char)} (h : behindMainWord (wordsSigns P.initOrder.toList) = "cut".toList :: r) : P.liftsFinal = false := by
  have e1 : stripLifts liftWords ("cut".toList :: r) = ([], "cut".toList :: r) := by rfl
  unfold Program.liftsFinal Program.headLifts
  simp only [h, e1]
  rfl
theorem words : behindMainWord (wordsSigns Try.pinned.checked.prog.initOrder.toList) = "cut".toList :: (behindMainWord (wordsSigns (codes.map Char.ofNat))).tail := by rw [head_list]; exact head_words
theorem make : Try.pinned.checked.prog.make = some .cut := make_of words
theorem may : Try.pinned.checked.prog.mayEnter = true := may_of words (by kernel_rfl) (by kernel_rfl) (by kernel_rfl)
theorem lift : Try.pinned.checked.prog.liftsFinal = false := lift_of words
/-- What is left of a claim's closed facts where those of the head are known. -/
def rest (P : Program) (f : FuncId) (fn : Func) (s : ChangeSpec) (c : OpenClaim) : {b : Bool // P.mayEnter = true → P.liftsFinal = false → P.make = some .cut → c.lifted = false → c.make = .cut → b = true → joinedFacts P f fn s c = true} := by
  refine ⟨?b, ?h⟩
  case h =>
    intro h1 h2 h3 h4 h5 hb
    unfold joinedFacts
    rw [h1, h2, h3, h4, h5]
    exact hb
theorem closed {f : FuncId} {fn : Func} {s : ChangeSpec} {c : OpenClaim} (h4 : c.lifted = false) (h5 : c.make = .cut) (h : (rest Try.pinned.checked.prog f fn s c).1 = true) : joinedFacts Try.pinned.checked.prog f fn s c = true :=
  (rest _ f fn s c).2 may lift make h4 h5 h

end Go.Proofs.Ytigjpalbaapkkaa.Closed
