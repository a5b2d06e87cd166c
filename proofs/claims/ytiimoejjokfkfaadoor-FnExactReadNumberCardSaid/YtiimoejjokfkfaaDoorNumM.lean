/- The mathematics of numerals, of words for numbers, and of what is read. -/
import Derived.Test.YtiimoejjokfkfaaDoorText
namespace Go.Proofs.YtiimoejjokfkfaaDoor.Num

/-- The letters a, b (for five) of a digit, one behind the other. -/
def dgo (a b : UInt8) (n : Nat) : List UInt8 := if 5 ≤ n then b :: List.replicate (n - 5) a else List.replicate n a
/-- .. in the usual or in the old form. -/
def dgL (a b c : UInt8) (n : Nat) (old : Bool) : List UInt8 := if n = 4 ∧ old = false then [a, b] else if n = 9 ∧ old = false then [a, c] else dgo a b n
/-- The usual or the old form, with v and i only. -/
def formN (n : Nat) (old : Bool) : List UInt8 := List.replicate (n / 1000) 109 ++ dgL 99 100 109 (n / 100 % 10) old ++ dgL 120 108 99 (n / 10 % 10) old ++ dgL 105 118 120 (n % 10) old
def form (n : Int) (old : Bool) : List UInt8 := formN n.toNat old
def isN (n : Int) : Prop := 1 ≤ n ∧ n ≤ 3999
instance (n : Int) : Decidable (isN n) := by unfold isN; exact inferInstance
def vu (c : UInt8) : UInt8 := if c = 118 then 117 else c
def uv (c : UInt8) : UInt8 := if c = 117 then 118 else c
/-- The last letter, if it is a, is b instead. -/
def last (a b : UInt8) : List UInt8 → List UInt8
  | [] => []
  | [c] => [if c = a then b else c]
  | c :: d :: r => c :: last a b (d :: r)
def oldL (l : List UInt8) : List UInt8 := last 105 106 (l.map vu)
def plainL (l : List UInt8) : List UInt8 := last 106 105 (l.map uv)
/-- What NumeralText and OldNumeral answer. -/
def ntL (n : Int) : List UInt8 := if isN n then form n false else []
def onL (n : Int) : List UInt8 := if isN n then oldL (form n true) else []
/-- What a letter counts. -/
def val (c : UInt8) : Int := if c = 105 then 1 else if c = 118 then 5 else if c = 120 then 10 else if c = 108 then 50 else if c = 99 then 100 else if c = 100 then 500 else if c = 109 then 1000 else 0
/-- What the letters count together. -/
def sumL : List UInt8 → Int
  | [] => 0
  | [a] => val a
  | a :: b :: r => (if val a < val b then - val a else val a) + sumL (b :: r)
/-- What is read as a numeral. -/
def rdOk (p : List UInt8) : Prop := isN (sumL p) ∧ (p = form (sumL p) false ∨ p = form (sumL p) true)
instance (p : List UInt8) : Decidable (rdOk p) := by unfold rdOk; exact inferInstance
def rdB (l : List UInt8) : Bool := decide (l.length ≤ 20 ∧ rdOk (plainL l))
def rdV (l : List UInt8) : Int := if rdB l = true then sumL (plainL l) else 0
/-- In how many ways a form can be written. -/
def ways : List UInt8 → Int
  | [] => 1
  | [a] => if a = 118 ∨ a = 105 then 2 else 1
  | a :: b :: r => (if a = 118 then 2 else 1) * ways (b :: r)
def cfN (n : Int) : Int := if isN n then ways (form n false) + (if form n true = form n false then 0 else ways (form n true)) else 0
def cfE (n : Int) : Int := if isN n then 0 else 2

theorem all_read : ((List.range 4000).all fun k => decide (k = 0) || (rdB (formN k false) && decide (sumL (plainL (formN k false)) = k) && rdB (oldL (formN k true)) && decide (sumL (plainL (oldL (formN k true))) = k))) = true := by
  decide +kernel

end Go.Proofs.YtiimoejjokfkfaaDoor.Num
