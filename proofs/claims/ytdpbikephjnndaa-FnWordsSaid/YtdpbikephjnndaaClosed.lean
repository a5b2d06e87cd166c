/- Facts about the whole program that every claim of this seat asks: the head's word, its signs as numbers. -/
import Derived.Test.YtdpbikephjnndaaRows
import Derived.JoinedOf
import Derived.ProofKit
namespace Go.Proofs.Ytdpbikephjnndaa.Closed
open Go.RowKit

def codes : List Nat := [104, 97, 114, 110, 101, 115, 115, 32, 57, 56, 48, 56, 56, 56, 50, 97, 98, 53, 48, 49, 52, 102, 102, 53, 49, 49, 49, 51, 49, 57, 49, 56, 99, 101, 49, 53, 55, 54, 57, 50, 99, 52, 98, 48, 55, 97, 100, 57, 57, 100, 49, 98, 54, 50, 102, 51, 53, 57, 51, 55, 102, 51, 55, 102, 48, 55, 97, 51, 100, 53, 54, 56, 32, 99, 117, 116, 32, 97, 116, 32, 108, 111, 111, 112, 46, 101, 120, 97, 109, 112, 108, 101, 47, 103, 48, 49, 48, 51, 52, 47, 108, 97, 119, 115, 46, 70, 110, 87, 111, 114, 100, 115, 32, 108, 111, 111, 112, 46, 101, 120, 97, 109, 112, 108, 101, 47, 103, 48, 49, 48, 51, 52, 47, 108, 97, 119, 115, 46, 70, 110, 69, 120, 97, 99, 116, 73, 115, 87, 111, 114, 100, 32, 108, 111, 111, 112, 46, 101, 120, 97, 109, 112, 108, 101, 47, 103, 48, 49, 48, 51, 52, 47, 108, 97, 119, 115, 46, 70, 110, 69, 120, 97, 99, 116, 78, 111, 114, 109, 97, 108, 87, 111, 114, 100, 32, 108, 111, 111, 112, 46, 101, 120, 97, 109, 112, 108, 101, 47, 103, 48, 49, 48, 51, 52, 47, 108, 97, 119, 115, 46, 70, 110, 69, 120, 97, 99, 116, 87, 111, 114, 100, 68, 105, 115, 116, 97, 110, 99, 101, 32, 108, 111, 111, 112, 46, 101, 120, 97, 109, 112, 108, 101, 47, 103, 48, 49, 48, 51, 52, 47, 108, 97, 119, 115, 46, 70, 110, 69, 120, 97, 99, 116, 65, 114, 101, 65, 108, 105, 107, 101, 32, 108, 111, 111, 112, 46, 101, 120, 97, 109, 112, 108, 101, 47, 103, 48, 49, 48, 51, 52, 47, 108, 97, 119, 115, 46, 70, 110, 69, 120, 97, 99, 116, 78, 101, 97, 114, 101, 115, 116, 87, 111, 114, 100, 32, 108, 111, 111, 112, 46, 101, 120, 97, 109, 112, 108, 101, 47, 103, 48, 49, 48, 51, 52, 47, 108, 97, 119, 115, 46, 70, 110, 69, 120, 97, 99, 116, 80, 104, 114, 97, 115, 101, 84, 101, 120, 116, 32, 108, 111, 111, 112, 46, 101, 120, 97, 109, 112, 108, 101, 47, 103, 48, 49, 48, 51, 52, 47, 108, 97, 119, 115, 46, 70, 110, 69, 120, 97, 99, 116, 83, 104, 97, 114, 101, 100, 87, 111, 114, 100, 115]
set_option maxRecDepth 100000 in
theorem head_word : Try.pinned.checked.prog.initOrder = "harness 9808882ab5014ff511131918ce157692c4b07ad99d1b62f35937f37f07a3d568 cut at loop.example/g01034/laws.FnWords loop.example/g01034/laws.FnExactIsWord loop.example/g01034/laws.FnExactNormalWord loop.example/g01034/laws.FnExactWordDistance loop.example/g01034/laws.FnExactAreAlike loop.example/g01034/laws.FnExactNearestWord loop.example/g01034/laws.FnExactPhraseText loop.example/g01034/laws.FnExactSharedWords" := by kernel_rfl
set_option maxRecDepth 100000 in
theorem head_signs : ("harness 9808882ab5014ff511131918ce157692c4b07ad99d1b62f35937f37f07a3d568 cut at loop.example/g01034/laws.FnWords loop.example/g01034/laws.FnExactIsWord loop.example/g01034/laws.FnExactNormalWord loop.example/g01034/laws.FnExactWordDistance loop.example/g01034/laws.FnExactAreAlike loop.example/g01034/laws.FnExactNearestWord loop.example/g01034/laws.FnExactPhraseText loop.example/g01034/laws.FnExactSharedWords" : String) = String.ofList (List.map Char.ofNat [104, 97, 114, 110, 101, 115, 115, 32, 57, 56, 48, 56, 56, 56, 50, 97, 98, 53, 48, 49, 52, 102, 102, 53, 49, 49, 49, 51, 49, 57, 49, 56, 99, 101, 49, 53, 55, 54, 57, 50, 99, 52, 98, 48, 55, 97, 100, 57, 57, 100, 49, 98, 54, 50, 102, 51, 53, 57, 51, 55, 102, 51, 55, 102, 48, 55, 97, 51, 100, 53, 54, 56, 32, 99, 117, 116, 32, 97, 116, 32, 108, 111, 111, 112, 46, 101, 120, 97, 109, 112, 108, 101, 47, 103, 48, 49, 48, 51, 52, 47, 108, 97, 119, 115, 46, 70, 110, 87, 111, 114, 100, 115, 32, 108, 111, 111, 112, 46, 101, 120, 97, 109, 112, 108, 101, 47, 103, 48, 49, 48, 51, 52, 47, 108, 97, 119, 115, 46, 70, 110, 69, 120, 97, 99, 116, 73, 115, 87, 111, 114, 100, 32, 108, 111, 111, 112, 46, 101, 120, 97, 109, 112, 108, 101, 47, 103, 48, 49, 48, 51, 52, 47, 108, 97, 119, 115, 46, 70, 110, 69, 120, 97, 99, 116, 78, 111, 114, 109, 97, 108, 87, 111, 114, 100, 32, 108, 111, 111, 112, 46, 101, 120, 97, 109, 112, 108, 101, 47, 103, 48, 49, 48, 51, 52, 47, 108, 97, 119, 115, 46, 70, 110, 69, 120, 97, 99, 116, 87, 111, 114, 100, 68, 105, 115, 116, 97, 110, 99, 101, 32, 108, 111, 111, 112, 46, 101, 120, 97, 109, 112, 108, 101, 47, 103, 48, 49, 48, 51, 52, 47, 108, 97, 119, 115, 46, 70, 110, 69, 120, 97, 99, 116, 65, 114, 101, 65, 108, 105, 107, 101, 32, 108, 111, 111, 112, 46, 101, 120, 97, 109, 112, 108, 101, 47, 103, 48, 49, 48, 51, 52, 47, 108, 97, 119, 115, 46, 70, 110, 69, 120, 97, 99, 116, 78, 101, 97, 114, 101, 115, 116, 87, 111, 114, 100, 32, 108, 111, 111, 112, 46, 101, 120, 97, 109, 112, 108, 101, 47, 103, 48, 49, 48, 51, 52, 47, 108, 97, 119, 115, 46, 70, 110, 69, 120, 97, 99, 116, 80, 104, 114, 97, 115, 101, 84, 101, 120, 116, 32, 108, 111, 111, 112, 46, 101, 120, 97, 109, 112, 108, 101, 47, 103, 48, 49, 48, 51, 52, 47, 108, 97, 119, 115, 46, 70, 110, 69, 120, 97, 99, 116, 83, 104, 97, 114, 101, 100, 87, 111, 114, 100, 115]) := by kernel_rfl
theorem head_is : Try.pinned.checked.prog.initOrder = String.ofList (codes.map Char.ofNat) := head_word.trans head_signs
theorem head_list : Try.pinned.checked.prog.initOrder.toList = codes.map Char.ofNat := by rw [head_is, String.toList_ofList]
theorem head_words : behindMainWord (wordsSigns (codes.map Char.ofNat)) = "cut".toList :: (behindMainWord (wordsSigns (codes.map Char.ofNat))).tail := by kernel_rfl
theorem make_of {P : Program} {r : List (List Char)} (h : behindMainWord (wordsSigns P.initOrder.toList) = "cut".toList :: r) : P.make = some .cut := by
  unfold Program.make
  rw [h]
  rfl
theorem may_of {P : Program} {r : List (List Char)} (h : behindMainWord (wordsSigns P.initOrder.toList) = "cut".toList :: r) (h1 : (!P.laysLater) = true) (h2 : (!P.bearsReflect) = true) (h3 : P.doorFits [] = true) : P.mayEnter = true := by
  have e1 : stripLifts liftWords ("cut".toList :: r) = ([], "cut".toList :: r) := by rfl
  unfold Program.mayEnter
  rw [h]
  simp only [e1]
  rw [h1, h2, h3]
  simp
theorem lift_of {P : Program} {r : List (List Char)} (h : behindMainWord (wordsSigns P.initOrder.toList) = "cut".toList :: r) : P.liftsFinal = false := by
  have e1 : stripLifts liftWords ("cut".toList :: r) = ([], "cut".toList :: r) := by rfl
  unfold Program.liftsFinal Program.headLifts
  simp only [h, e1]
  rfl
theorem words : behindMainWord (wordsSigns Try.pinned.checked.prog.initOrder.toList) = "cut".toList :: (behindMainWord (wordsSigns (codes.map Char.ofNat))).tail := by rw [head_list]; exact head_words
theorem make : Try.pinned.checked.prog.make = some .cut := make_of words
theorem may : Try.pinned.checked.prog.mayEnter = true := may_of words (by kernel_rfl) (by kernel_rfl) (by kernel_rfl)
theorem lift : Try.pinned.checked.prog.liftsFinal = false := lift_of words
/-- What is left of a claim's closed facts where those of the head are known. -/
def rest (P : Program) (f : FuncId) (fn : Func) (s : ChangeSpec) (c : OpenClaim) : {b : Bool // P.mayEnter = true → P.liftsFinal = false → P.make = some .cut → c.lifted = false → c.make = .cut → b = true → joinedFacts P f fn s c = true} := by
  refine ⟨?b, ?h⟩
  case h =>
    intro h1 h2 h3 h4 h5 hb
    unfold joinedFacts
    rw [h1, h2, h3, h4, h5]
    exact hb
theorem closed {f : FuncId} {fn : Func} {s : ChangeSpec} {c : OpenClaim} (h4 : c.lifted = false) (h5 : c.make = .cut) (h : (rest Try.pinned.checked.prog f fn s c).1 = true) : joinedFacts Try.pinned.checked.prog f fn s c = true :=
  (rest _ f fn s c).2 may lift make h4 h5 h

end Go.Proofs.Ytdpbikephjnndaa.Closed
