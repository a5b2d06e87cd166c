/- Facts about the whole program that every claim of this seat asks: the head's word, its signs as numbers. -/
import Derived.Test.YtfienklaafialaaRows
import Derived.JoinedOf
import Derived.ProofKit
namespace Go.Proofs.Ytfienklaafialaa.Closed
open Go.RowKit

def codes : List Nat := [104, 97, 114, 110, 101, 115, 115, 32, 101, 57, 102, 49, 53, 97, 100, 52, 100, 97, 100, 50, 52, 97, 56, 102, 100, 53, 53, 97, 53, 57, 55, 49, 54, 98, 50, 53, 54, 55, 100, 48, 53, 54, 101, 56, 101, 50, 97, 52, 48, 54, 97, 49, 98, 49, 99, 51, 50, 50, 100, 52, 102, 51, 51, 50, 97, 51, 98, 50, 102, 54, 98, 56, 32, 99, 117, 116, 32, 97, 116, 32, 108, 111, 111, 112, 46, 101, 120, 97, 109, 112, 108, 101, 47, 103, 48, 49, 48, 51, 52, 47, 108, 97, 119, 115, 46, 70, 110, 73, 110, 100, 105, 99, 116, 105, 111, 110, 115, 32, 108, 111, 111, 112, 46, 101, 120, 97, 109, 112, 108, 101, 47, 103, 48, 49, 48, 51, 52, 47, 108, 97, 119, 115, 46, 70, 110, 89, 101, 97, 114, 77, 97, 114, 107, 115, 32, 108, 111, 111, 112, 46, 101, 120, 97, 109, 112, 108, 101, 47, 103, 48, 49, 48, 51, 52, 47, 108, 97, 119, 115, 46, 70, 110, 69, 120, 97, 99, 116, 73, 110, 100, 105, 99, 116, 105, 111, 110, 79, 102, 32, 108, 111, 111, 112, 46, 101, 120, 97, 109, 112, 108, 101, 47, 103, 48, 49, 48, 51, 52, 47, 108, 97, 119, 115, 46, 70, 110, 69, 120, 97, 99, 116, 73, 110, 100, 105, 99, 116, 105, 111, 110, 79, 110, 32, 108, 111, 111, 112, 46, 101, 120, 97, 109, 112, 108, 101, 47, 103, 48, 49, 48, 51, 52, 47, 108, 97, 119, 115, 46, 70, 110, 69, 120, 97, 99, 116, 73, 110, 100, 105, 99, 116, 105, 111, 110, 68, 97, 121, 115, 32, 108, 111, 111, 112, 46, 101, 120, 97, 109, 112, 108, 101, 47, 103, 48, 49, 48, 51, 52, 47, 108, 97, 119, 115, 46, 70, 110, 69, 120, 97, 99, 116, 69, 112, 97, 99, 116, 79, 102, 32, 108, 111, 111, 112, 46, 101, 120, 97, 109, 112, 108, 101, 47, 103, 48, 49, 48, 51, 52, 47, 108, 97, 119, 115, 46, 70, 110, 69, 120, 97, 99, 116, 67, 111, 110, 99, 117, 114, 114, 101, 110, 116, 79, 102, 32, 108, 111, 111, 112, 46, 101, 120, 97, 109, 112, 108, 101, 47, 103, 48, 49, 48, 51, 52, 47, 108, 97, 119, 115, 46, 70, 110, 69, 120, 97, 99, 116, 73, 115, 89, 101, 97, 114, 77, 97, 114, 107, 32, 108, 111, 111, 112, 46, 101, 120, 97, 109, 112, 108, 101, 47, 103, 48, 49, 48, 51, 52, 47, 108, 97, 119, 115, 46, 70, 110, 69, 120, 97, 99, 116, 89, 101, 97, 114, 115, 77, 97, 114, 107, 101, 100, 32, 108, 111, 111, 112, 46, 101, 120, 97, 109, 112, 108, 101, 47, 103, 48, 49, 48, 51, 52, 47, 108, 97, 119, 115, 46, 70, 110, 69, 120, 97, 99, 116, 77, 97, 114, 107, 79, 102]
set_option maxRecDepth 100000 in
theorem head_word : Try.pinned.checked.prog.initOrder = "harness e9f15ad4dad24a8fd55a59716b2567d056e8e2a406a1b1c322d4f332a3b2f6b8 cut at loop.example/g01034/laws.FnIndictions loop.example/g01034/laws.FnYearMarks loop.example/g01034/laws.FnExactIndictionOf loop.example/g01034/laws.FnExactIndictionOn loop.example/g01034/laws.FnExactIndictionDays loop.example/g01034/laws.FnExactEpactOf loop.example/g01034/laws.FnExactConcurrentOf loop.example/g01034/laws.FnExactIsYearMark loop.example/g01034/laws.FnExactYearsMarked loop.example/g01034/laws.FnExactMarkOf" := by kernel_rfl
set_option maxRecDepth 100000 in
theorem head_signs : ("harness e9f15ad4dad24a8fd55a59716b2567d056e8e2a406a1b1c322d4f332a3b2f6b8 cut at loop.example/g01034/laws.FnIndictions loop.example/g01034/laws.FnYearMarks loop.example/g01034/laws.FnExactIndictionOf loop.example/g01034/laws.FnExactIndictionOn loop.example/g01034/laws.FnExactIndictionDays loop.example/g01034/laws.FnExactEpactOf loop.example/g01034/laws.FnExactConcurrentOf loop.example/g01034/laws.FnExactIsYearMark loop.example/g01034/laws.FnExactYearsMarked loop.example/g01034/laws.FnExactMarkOf" : String) = String.ofList (List.map Char.ofNat [104, 97, 114, 110, 101, 115, 115, 32, 101, 57, 102, 49, 53, 97, 100, 52, 100, 97, 100, 50, 52, 97, 56, 102, 100, 53, 53, 97, 53, 57, 55, 49, 54, 98, 50, 53, 54, 55, 100, 48, 53, 54, 101, 56, 101, 50, 97, 52, 48, 54, 97, 49, 98, 49, 99, 51, 50, 50, 100, 52, 102, 51, 51, 50, 97, 51, 98, 50, 102, 54, 98, 56, 32, 99, 117, 116, 32, 97, 116, 32, 108, 111, 111, 112, 46, 101, 120, 97, 109, 112, 108, 101, 47, 103, 48, 49, 48, 51, 52, 47, 108, 97, 119, 115, 46, 70, 110, 73, 110, 100, 105, 99, 116, 105, 111, 110, 115, 32, 108, 111, 111, 112, 46, 101, 120, 97, 109, 112, 108, 101, 47, 103, 48, 49, 48, 51, 52, 47, 108, 97, 119, 115, 46, 70, 110, 89, 101, 97, 114, 77, 97, 114, 107, 115, 32, 108, 111, 111, 112, 46, 101, 120, 97, 109, 112, 108, 101, 47, 103, 48, 49, 48, 51, 52, 47, 108, 97, 119, 115, 46, 70, 110, 69, 120, 97, 99, 116, 73, 110, 100, 105, 99, 116, 105, 111, 110, 79, 102, 32, 108, 111, 111, 112, 46, 101, 120, 97, 109, 112, 108, 101, 47, 103, 48, 49, 48, 51, 52, 47, 108, 97, 119, 115, 46, 70, 110, 69, 120, 97, 99, 116, 73, 110, 100, 105, 99, 116, 105, 111, 110, 79, 110, 32, 108, 111, 111, 112, 46, 101, 120, 97, 109, 112, 108, 101, 47, 103, 48, 49, 48, 51, 52, 47, 108, 97, 119, 115, 46, 70, 110, 69, 120, 97, 99, 116, 73, 110, 100, 105, 99, 116, 105, 111, 110, 68, 97, 121, 115, 32, 108, 111, 111, 112, 46, 101, 120, 97, 109, 112, 108, 101, 47, 103, 48, 49, 48, 51, 52, 47, 108, 97, 119, 115, 46, 70, 110, 69, 120, 97, 99, 116, 69, 112, 97, 99, 116, 79, 102, 32, 108, 111, 111, 112, 46, 101, 120, 97, 109, 112, 108, 101, 47, 103, 48, 49, 48, 51, 52, 47, 108, 97, 119, 115, 46, 70, 110, 69, 120, 97, 99, 116, 67, 111, 110, 99, 117, 114, 114, 101, 110, 116, 79, 102, 32, 108, 111, 111, 112, 46, 101, 120, 97, 109, 112, 108, 101, 47, 103, 48, 49, 48, 51, 52, 47, 108, 97, 119, 115, 46, 70, 110, 69, 120, 97, 99, 116, 73, 115, 89, 101, 97, 114, 77, 97, 114, 107, 32, 108, 111, 111, 112, 46, 101, 120, 97, 109, 112, 108, 101, 47, 103, 48, 49, 48, 51, 52, 47, 108, 97, 119, 115, 46, 70, 110, 69, 120, 97, 99, 116, 89, 101, 97, 114, 115, 77, 97, 114, 107, 101, 100, 32, 108, 111, 111, 112, 46, 101, 120, 97, 109, 112, 108, 101, 47, 103, 48, 49, 48, 51, 52, 47, 108, 97, 119, 115, 46, 70, 110, 69, 120, 97, 99, 116, 77, 97, 114, 107, 79, 102]) := by kernel_rfl
theorem head_is : Try.pinned.checked.prog.initOrder = String.ofList (codes.map Char.ofNat) := head_word.trans head_signs
theorem head_list : Try.pinned.checked.prog.initOrder.toList = codes.map Char.ofNat := by rw [head_is, String.toList_ofList]
theorem head_words : behindMainWord (wordsSigns (codes.map Char.ofNat)) = "cut".toList :: (behindMainWord (wordsSigns (codes.map Char.ofNat))).tail := by kernel_rfl
theorem make_of {P : Program} {r : List (List Char)} (h : behindMainWord (wordsSigns P.initOrder.toList) = "cut".toList :: r) : P.make = some .cut := by
  unfold Program.make
  rw [h]
  rfl
theorem may_of {P : Program} {r : List (List Char)} (h : behindMainWord (wordsSigns P.initOrder.toList) = "cut".toList :: r) (h1 : (!P.laysLater) = true) (h2 : (!P.bearsReflect) = true) (h3 : P.doorFits [] = true) : P.mayEnter = true := by
  have e1 : stripLifts liftWords ("cut".toList :: r) = ([], "cut".toList :: r) := by rfl
  unfold Program.mayEnter
  rw [h]
  simp only [e1]
  rw [h1, h2, h3]
  simp
theorem lift_of {P : Program} {r : List (List Char)} (h : behindMainWord (wordsSigns P.initOrder.toList) = "cut".toList :: r) : P.liftsFinal = false := by
  have e1 : stripLifts liftWords ("cut".toList :: r) = ([], "cut".toList :: r) := by rfl
  unfold Program.liftsFinal Program.headLifts
  simp only [h, e1]
  rfl
theorem words : behindMainWord (wordsSigns Try.pinned.checked.prog.initOrder.toList) = "cut".toList :: (behindMainWord (wordsSigns (codes.map Char.ofNat))).tail := by rw [head_list]; exact head_words
theorem make : Try.pinned.checked.prog.make = some .cut := make_of words
theorem may : Try.pinned.checked.prog.mayEnter = true := may_of words (by kernel_rfl) (by kernel_rfl) (by kernel_rfl)
theorem lift : Try.pinned.checked.prog.liftsFinal = false := lift_of words
/-- What is left of a claim's closed facts where those of the head are known. -/
def rest (P : Program) (f : FuncId) (fn : Func) (s : ChangeSpec) (c : OpenClaim) : {b : Bool // P.mayEnter = true → P.liftsFinal = false → P.make = some .cut → c.lifted = false → c.make = .cut → b = true → joinedFacts P f fn s c = true} := by
  refine ⟨?b, ?h⟩
  case h =>
    intro h1 h2 h3 h4 h5 hb
    unfold joinedFacts
    rw [h1, h2, h3, h4, h5]
    exact hb
theorem closed {f : FuncId} {fn : Func} {s : ChangeSpec} {c : OpenClaim} (h4 : c.lifted = false) (h5 : c.make = .cut) (h : (rest Try.pinned.checked.prog f fn s c).1 = true) : joinedFacts Try.pinned.checked.prog f fn s c = true :=
  (rest _ f fn s c).2 may lift make h4 h5 h

end Go.Proofs.Ytfienklaafialaa.Closed
