/- Facts about the whole program that every claim of this seat asks: the head's word, its signs as numbers. -/
import Derived.Test.YtfhcakpmlppbkaaRows
import Derived.JoinedOf
import Derived.ProofKit
namespace Go.Proofs.Ytfhcakpmlppbkaa.Closed
open Go.RowKit

def codes : List Nat := [104, 97, 114, 110, 101, 115, 115, 32, 48, 98, 51, 100, 54, 50, 102, 56, 51, 98, 98, 51, 99, 49, 98, 101, 98, 100, 55, 56, 102, 53, 49, 49, 54, 53, 49, 102, 100, 56, 50, 56, 99, 56, 99, 99, 53, 51, 98, 50, 99, 55, 101, 97, 100, 99, 55, 97, 49, 53, 55, 54, 100, 57, 54, 54, 49, 54, 102, 98, 50, 49, 99, 101, 32, 99, 117, 116, 32, 97, 116, 32, 108, 111, 111, 112, 46, 101, 120, 97, 109, 112, 108, 101, 47, 103, 48, 49, 48, 51, 52, 47, 108, 97, 119, 115, 46, 70, 110, 82, 101, 105, 103, 110, 115, 32, 108, 111, 111, 112, 46, 101, 120, 97, 109, 112, 108, 101, 47, 103, 48, 49, 48, 51, 52, 47, 108, 97, 119, 115, 46, 70, 110, 69, 120, 97, 99, 116, 65, 114, 101, 82, 101, 105, 103, 110, 115, 32, 108, 111, 111, 112, 46, 101, 120, 97, 109, 112, 108, 101, 47, 103, 48, 49, 48, 51, 52, 47, 108, 97, 119, 115, 46, 70, 110, 69, 120, 97, 99, 116, 82, 101, 103, 110, 97, 108, 89, 101, 97, 114, 32, 108, 111, 111, 112, 46, 101, 120, 97, 109, 112, 108, 101, 47, 103, 48, 49, 48, 51, 52, 47, 108, 97, 119, 115, 46, 70, 110, 69, 120, 97, 99, 116, 82, 101, 103, 110, 97, 108, 83, 112, 97, 110, 32, 108, 111, 111, 112, 46, 101, 120, 97, 109, 112, 108, 101, 47, 103, 48, 49, 48, 51, 52, 47, 108, 97, 119, 115, 46, 70, 110, 69, 120, 97, 99, 116, 67, 111, 117, 110, 116, 89, 101, 97, 114, 115, 32, 108, 111, 111, 112, 46, 101, 120, 97, 109, 112, 108, 101, 47, 103, 48, 49, 48, 51, 52, 47, 108, 97, 119, 115, 46, 70, 110, 69, 120, 97, 99, 116, 82, 101, 105, 103, 110, 115, 79, 110, 32, 108, 111, 111, 112, 46, 101, 120, 97, 109, 112, 108, 101, 47, 103, 48, 49, 48, 51, 52, 47, 108, 97, 119, 115, 46, 70, 110, 69, 120, 97, 99, 116, 75, 105, 110, 103, 89, 101, 97, 114, 83, 101, 116, 32, 108, 111, 111, 112, 46, 101, 120, 97, 109, 112, 108, 101, 47, 103, 48, 49, 48, 51, 52, 47, 108, 97, 119, 115, 46, 70, 110, 69, 120, 97, 99, 116, 86, 111, 105, 100, 68, 97, 121, 115, 32, 108, 111, 111, 112, 46, 101, 120, 97, 109, 112, 108, 101, 47, 103, 48, 49, 48, 51, 52, 47, 108, 97, 119, 115, 46, 70, 110, 69, 120, 97, 99, 116, 68, 105, 115, 112, 117, 116, 101, 100, 68, 97, 121, 115]
set_option maxRecDepth 100000 in
theorem head_word : Try.pinned.checked.prog.initOrder = "harness 0b3d62f83bb3c1bebd78f511651fd828c8cc53b2c7eadc7a1576d96616fb21ce cut at loop.example/g01034/laws.FnReigns loop.example/g01034/laws.FnExactAreReigns loop.example/g01034/laws.FnExactRegnalYear loop.example/g01034/laws.FnExactRegnalSpan loop.example/g01034/laws.FnExactCountYears loop.example/g01034/laws.FnExactReignsOn loop.example/g01034/laws.FnExactKingYearSet loop.example/g01034/laws.FnExactVoidDays loop.example/g01034/laws.FnExactDisputedDays" := by kernel_rfl
set_option maxRecDepth 100000 in
theorem head_signs : ("harness 0b3d62f83bb3c1bebd78f511651fd828c8cc53b2c7eadc7a1576d96616fb21ce cut at loop.example/g01034/laws.FnReigns loop.example/g01034/laws.FnExactAreReigns loop.example/g01034/laws.FnExactRegnalYear loop.example/g01034/laws.FnExactRegnalSpan loop.example/g01034/laws.FnExactCountYears loop.example/g01034/laws.FnExactReignsOn loop.example/g01034/laws.FnExactKingYearSet loop.example/g01034/laws.FnExactVoidDays loop.example/g01034/laws.FnExactDisputedDays" : String) = String.ofList (List.map Char.ofNat [104, 97, 114, 110, 101, 115, 115, 32, 48, 98, 51, 100, 54, 50, 102, 56, 51, 98, 98, 51, 99, 49, 98, 101, 98, 100, 55, 56, 102, 53, 49, 49, 54, 53, 49, 102, 100, 56, 50, 56, 99, 56, 99, 99, 53, 51, 98, 50, 99, 55, 101, 97, 100, 99, 55, 97, 49, 53, 55, 54, 100, 57, 54, 54, 49, 54, 102, 98, 50, 49, 99, 101, 32, 99, 117, 116, 32, 97, 116, 32, 108, 111, 111, 112, 46, 101, 120, 97, 109, 112, 108, 101, 47, 103, 48, 49, 48, 51, 52, 47, 108, 97, 119, 115, 46, 70, 110, 82, 101, 105, 103, 110, 115, 32, 108, 111, 111, 112, 46, 101, 120, 97, 109, 112, 108, 101, 47, 103, 48, 49, 48, 51, 52, 47, 108, 97, 119, 115, 46, 70, 110, 69, 120, 97, 99, 116, 65, 114, 101, 82, 101, 105, 103, 110, 115, 32, 108, 111, 111, 112, 46, 101, 120, 97, 109, 112, 108, 101, 47, 103, 48, 49, 48, 51, 52, 47, 108, 97, 119, 115, 46, 70, 110, 69, 120, 97, 99, 116, 82, 101, 103, 110, 97, 108, 89, 101, 97, 114, 32, 108, 111, 111, 112, 46, 101, 120, 97, 109, 112, 108, 101, 47, 103, 48, 49, 48, 51, 52, 47, 108, 97, 119, 115, 46, 70, 110, 69, 120, 97, 99, 116, 82, 101, 103, 110, 97, 108, 83, 112, 97, 110, 32, 108, 111, 111, 112, 46, 101, 120, 97, 109, 112, 108, 101, 47, 103, 48, 49, 48, 51, 52, 47, 108, 97, 119, 115, 46, 70, 110, 69, 120, 97, 99, 116, 67, 111, 117, 110, 116, 89, 101, 97, 114, 115, 32, 108, 111, 111, 112, 46, 101, 120, 97, 109, 112, 108, 101, 47, 103, 48, 49, 48, 51, 52, 47, 108, 97, 119, 115, 46, 70, 110, 69, 120, 97, 99, 116, 82, 101, 105, 103, 110, 115, 79, 110, 32, 108, 111, 111, 112, 46, 101, 120, 97, 109, 112, 108, 101, 47, 103, 48, 49, 48, 51, 52, 47, 108, 97, 119, 115, 46, 70, 110, 69, 120, 97, 99, 116, 75, 105, 110, 103, 89, 101, 97, 114, 83, 101, 116, 32, 108, 111, 111, 112, 46, 101, 120, 97, 109, 112, 108, 101, 47, 103, 48, 49, 48, 51, 52, 47, 108, 97, 119, 115, 46, 70, 110, 69, 120, 97, 99, 116, 86, 111, 105, 100, 68, 97, 121, 115, 32, 108, 111, 111, 112, 46, 101, 120, 97, 109, 112, 108, 101, 47, 103, 48, 49, 48, 51, 52, 47, 108, 97, 119, 115, 46, 70, 110, 69, 120, 97, 99, 116, 68, 105, 115, 112, 117, 116, 101, 100, 68, 97, 121, 115]) := by kernel_rfl
theorem head_is : Try.pinned.checked.prog.initOrder = String.ofList (codes.map Char.ofNat) := head_word.trans head_signs
theorem head_list : Try.pinned.checked.prog.initOrder.toList = codes.map Char.ofNat := by rw [head_is, String.toList_ofList]
theorem head_words : behindMainWord (wordsSigns (codes.map Char.ofNat)) = "cut".toList :: (behindMainWord (wordsSigns (codes.map Char.ofNat))).tail := by kernel_rfl
theorem make_of {P : Program} {r : List (List Char)} (h : behindMainWord (wordsSigns P.initOrder.toList) = "cut".toList :: r) : P.make = some .cut := by
  unfold Program.make
  rw [h]
  rfl
theorem may_of {P : Program} {r : List (List Char)} (h : behindMainWord (wordsSigns P.initOrder.toList) = "cut".toList :: r) (h1 : (!P.laysLater) = true) (h2 : (!P.bearsReflect) = true) (h3 : P.doorFits [] = true) : P.mayEnter = true := by
  have e1 : stripLifts liftWords ("cut".toList :: r) = ([], "cut".toList :: r) := by rfl
  unfold Program.mayEnter
  rw [h]
  simp only [e1]
  rw [h1, h2, h3]
  simp
theorem lift_of {P : Program} {r : List (List Char)} (h : behindMainWord (wordsSigns P.initOrder.toList) = "cut".toList :: r) : P.liftsFinal = false := by
  have e1 : stripLifts liftWords ("cut".toList :: r) = ([], "cut".toList :: r) := by rfl
  unfold Program.liftsFinal Program.headLifts
  simp only [h, e1]
  rfl
theorem words : behindMainWord (wordsSigns Try.pinned.checked.prog.initOrder.toList) = "cut".toList :: (behindMainWord (wordsSigns (codes.map Char.ofNat))).tail := by rw [head_list]; exact head_words
theorem make : Try.pinned.checked.prog.make = some .cut := make_of words
theorem may : Try.pinned.checked.prog.mayEnter = true := may_of words (by kernel_rfl) (by kernel_rfl) (by kernel_rfl)
theorem lift : Try.pinned.checked.prog.liftsFinal = false := lift_of words
/-- What is left of a claim's closed facts where those of the head are known. -/
def rest (P : Program) (f : FuncId) (fn : Func) (s : ChangeSpec) (c : OpenClaim) : {b : Bool // P.mayEnter = true → P.liftsFinal = false → P.make = some .cut → c.lifted = false → c.make = .cut → b = true → joinedFacts P f fn s c = true} := by
  refine ⟨?b, ?h⟩
  case h =>
    intro h1 h2 h3 h4 h5 hb
    unfold joinedFacts
    rw [h1, h2, h3, h4, h5]
    exact hb
theorem closed {f : FuncId} {fn : Func} {s : ChangeSpec} {c : OpenClaim} (h4 : c.lifted = false) (h5 : c.make = .cut) (h : (rest Try.pinned.checked.prog f fn s c).1 = true) : joinedFacts Try.pinned.checked.prog f fn s c = true :=
  (rest _ f fn s c).2 may lift make h4 h5 h

end Go.Proofs.Ytfhcakpmlppbkaa.Closed
