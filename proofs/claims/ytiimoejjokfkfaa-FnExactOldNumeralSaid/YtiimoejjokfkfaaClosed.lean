/- Facts about the whole program that every claim of this seat asks: the head's word, its signs as numbers. -/
import Derived.Test.YtiimoejjokfkfaaRows
import Derived.JoinedOf
import Derived.ProofKit
namespace Go.Proofs.Ytiimoejjokfkfaa.Closed
open Go.RowKit

def codes : List Nat := [104, 97, 114, 110, 101, 115, 115, 32, 50, 101, 48, 48, 98, 50, 56, 97, 56, 99, 50, 55, 100, 57, 48, 50, 54, 55, 51, 54, 52, 98, 54, 54, 48, 97, 54, 55, 49, 101, 98, 56, 57, 50, 97, 53, 98, 52, 50, 48, 101, 101, 48, 102, 97, 97, 49, 49, 53, 50, 51, 49, 52, 97, 52, 101, 56, 100, 57, 53, 55, 51, 50, 51, 32, 99, 117, 116, 32, 97, 116, 32, 108, 111, 111, 112, 46, 101, 120, 97, 109, 112, 108, 101, 47, 103, 48, 49, 48, 51, 52, 47, 108, 97, 119, 115, 46, 70, 110, 69, 120, 97, 99, 116, 78, 117, 109, 101, 114, 97, 108, 84, 101, 120, 116, 32, 108, 111, 111, 112, 46, 101, 120, 97, 109, 112, 108, 101, 47, 103, 48, 49, 48, 51, 52, 47, 108, 97, 119, 115, 46, 70, 110, 69, 120, 97, 99, 116, 79, 108, 100, 78, 117, 109, 101, 114, 97, 108, 32, 108, 111, 111, 112, 46, 101, 120, 97, 109, 112, 108, 101, 47, 103, 48, 49, 48, 51, 52, 47, 108, 97, 119, 115, 46, 70, 110, 69, 120, 97, 99, 116, 79, 114, 100, 105, 110, 97, 108, 84, 101, 120, 116, 32, 108, 111, 111, 112, 46, 101, 120, 97, 109, 112, 108, 101, 47, 103, 48, 49, 48, 51, 52, 47, 108, 97, 119, 115, 46, 70, 110, 69, 120, 97, 99, 116, 82, 101, 97, 100, 79, 114, 100, 105, 110, 97, 108]
set_option maxRecDepth 100000 in
theorem head_word : Try.pinned.checked.prog.initOrder = "harness 2e00b28a8c27d90267364b660a671eb892a5b420ee0faa1152314a4e8d957323 cut at loop.example/g01034/laws.FnExactNumeralText loop.example/g01034/laws.FnExactOldNumeral loop.example/g01034/laws.FnExactOrdinalText loop.example/g01034/laws.FnExactReadOrdinal" := by kernel_rfl
set_option maxRecDepth 100000 in
theorem head_signs : ("harness 2e00b28a8c27d90267364b660a671eb892a5b420ee0faa1152314a4e8d957323 cut at loop.example/g01034/laws.FnExactNumeralText loop.example/g01034/laws.FnExactOldNumeral loop.example/g01034/laws.FnExactOrdinalText loop.example/g01034/laws.FnExactReadOrdinal" : String) = String.ofList (List.map Char.ofNat [104, 97, 114, 110, 101, 115, 115, 32, 50, 101, 48, 48, 98, 50, 56, 97, 56, 99, 50, 55, 100, 57, 48, 50, 54, 55, 51, 54, 52, 98, 54, 54, 48, 97, 54, 55, 49, 101, 98, 56, 57, 50, 97, 53, 98, 52, 50, 48, 101, 101, 48, 102, 97, 97, 49, 49, 53, 50, 51, 49, 52, 97, 52, 101, 56, 100, 57, 53, 55, 51, 50, 51, 32, 99, 117, 116, 32, 97, 116, 32, 108, 111, 111, 112, 46, 101, 120, 97, 109, 112, 108, 101, 47, 103, 48, 49, 48, 51, 52, 47, 108, 97, 119, 115, 46, 70, 110, 69, 120, 97, 99, 116, 78, 117, 109, 101, 114, 97, 108, 84, 101, 120, 116, 32, 108, 111, 111, 112, 46, 101, 120, 97, 109, 112, 108, 101, 47, 103, 48, 49, 48, 51, 52, 47, 108, 97, 119, 115, 46, 70, 110, 69, 120, 97, 99, 116, 79, 108, 100, 78, 117, 109, 101, 114, 97, 108, 32, 108, 111, 111, 112, 46, 101, 120, 97, 109, 112, 108, 101, 47, 103, 48, 49, 48, 51, 52, 47, 108, 97, 119, 115, 46, 70, 110, 69, 120, 97, 99, 116, 79, 114, 100, 105, 110, 97, 108, 84, 101, 120, 116, 32, 108, 111, 111, 112, 46, 101, 120, 97, 109, 112, 108, 101, 47, 103, 48, 49, 48, 51, 52, 47, 108, 97, 119, 115, 46, 70, 110, 69, 120, 97, 99, 116, 82, 101, 97, 100, 79, 114, 100, 105, 110, 97, 108]) := by kernel_rfl
theorem head_is : Try.pinned.checked.prog.initOrder = String.ofList (codes.map Char.ofNat) := head_word.trans head_signs
theorem head_list : Try.pinned.checked.prog.initOrder.toList = codes.map Char.ofNat := by rw [head_is, String.toList_ofList]
theorem head_words : behindMainWord (wordsSigns (codes.map Char.ofNat)) = "cut".toList :: (behindMainWord (wordsSigns (codes.map Char.ofNat))).tail := by kernel_rfl
theorem make_of {P : Program} {r : List (List Char)} (h : behindMainWord (wordsSigns P.initOrder.toList) = "cut".toList :: r) : P.make = some .cut := by
  unfold Program.make
  rw [h]
  rfl
theorem may_of {P : Program} {r : List (List Char)} (h : behindMainWord (wordsSigns P.initOrder.toList) = "cut".toList :: r) (h1 : (!P.laysLater) = true) (h2 : (!P.bearsReflect) = true) (h3 : P.doorFits [] = true) : P.mayEnter = true := by
  have e1 : stripLifts liftWords ("cut".toList :: r) = ([], "cut".toList :: r) := by rfl
  unfold Program.mayEnter
  rw [h]
  simp only [e1]
  rw [h1, h2, h3]
  simp
theorem lift_of {P : Program} {r : List (List Char)} (h : behindMainWord (wordsSigns P.initOrder.toList) = "cut".toList :: r) : P.liftsFinal = false := by
  have e1 : stripLifts liftWords ("cut".toList :: r) = ([], "cut".toList :: r) := by rfl
  unfold Program.liftsFinal Program.headLifts
  simp only [h, e1]
  rfl
theorem words : behindMainWord (wordsSigns Try.pinned.checked.prog.initOrder.toList) = "cut".toList :: (behindMainWord (wordsSigns (codes.map Char.ofNat))).tail := by rw [head_list]; exact head_words
theorem make : Try.pinned.checked.prog.make = some .cut := make_of words
theorem may : Try.pinned.checked.prog.mayEnter = true := may_of words (by kernel_rfl) (by kernel_rfl) (by kernel_rfl)
theorem lift : Try.pinned.checked.prog.liftsFinal = false := lift_of words
/-- What is left of a claim's closed facts where those of the head are known. -/
def rest (P : Program) (f : FuncId) (fn : Func) (s : ChangeSpec) (c : OpenClaim) : {b : Bool // P.mayEnter = true → P.liftsFinal = false → P.make = some .cut → c.lifted = false → c.make = .cut → b = true → joinedFacts P f fn s c = true} := by
  refine ⟨?b, ?h⟩
  case h =>
    intro h1 h2 h3 h4 h5 hb
    unfold joinedFacts
    rw [h1, h2, h3, h4, h5]
    exact hb
theorem closed {f : FuncId} {fn : Func} {s : ChangeSpec} {c : OpenClaim} (h4 : c.lifted = false) (h5 : c.make = .cut) (h : (rest Try.pinned.checked.prog f fn s c).1 = true) : joinedFacts Try.pinned.checked.prog f fn s c = true :=
  (rest _ f fn s c).2 may lift make h4 h5 h

end Go.Proofs.Ytiimoejjokfkfaa.Closed
