/- Contracts of spec's phrases and of its small functions over words. -/
import Derived.Test.YtdpbikephjnndaaDoorWrdB
import Derived.Test.YtdpbikephjnndaaDoorWrdC
import Derived.Test.YtdpbikephjnndaaDoorPlain
namespace Go.Proofs.YtdpbikephjnndaaDoor.Wrd
open Go.RowKit

/-- The slice with address A reads as the texts ps. -/
def RdS (w : World) (A : Option Addr) (ps : List (List UInt8)) : Prop := ∀ k (hk : k < ps.length), ∃ g off, A = some ⟨g, off, none⟩ ∧ g < w.heap.size ∧ w.cell? ⟨g, off + k, none⟩ = some (.string (str ps[k]))
theorem RdS.below {w w' : World} {A : Option Addr} {ps : List (List UInt8)} (h : RdS w A ps) (hb : Below w.heap.size w w') : RdS w' A ps := fun k hk => by
  obtain ⟨g, off, e, hg, hc⟩ := h k hk
  exact ⟨g, off, e, Nat.lt_of_lt_of_le hg hb.size, cell_on hb hc⟩
/-- A phrase. -/
def phOk (ps : List (List UInt8)) : Prop := (∀ p ∈ ps, isW p) ∧ ps.length ≤ 60
instance (ps : List (List UInt8)) : Decidable (phOk ps) := by unfold phOk; exact inferInstance
/-- Texts that are no longer than a call can bear. -/
def Tame (ps : List (List UInt8)) : Prop := ps.length ≤ 2000000 ∧ ∀ p ∈ ps, p.length ≤ 2000000
theorem phOk.tame {ps : List (List UInt8)} (h : phOk ps) : Tame ps := ⟨by have := h.2; omega, fun p hp => by have := (h.1 p hp).2.2; omega⟩

theorem spec_phrase (A : Option Addr) (c : Nat) (ps : List (List UInt8)) (ht : Tame ps) (b : Bool) (h : decide (phOk ps) = b) (w : World) (hr : RdS w A ps) :
    Calls Tryd.prog 24 #[.slice A ps.length c] w fun e w' => e = .returned (.bool b) ∧ w = w' := by
  have HB := Lib.hid h
  have HT := Lib.hid ht.2
  have hl := ht.1
  clear h ht
  go_enter Tryd.func24, Tryd.ntmps24
  go_wp2_with fail
  go_loopg [3] ps.length (fun m i wr => ∃ k : Nat, k ≤ ps.length ∧ m = ps.length - k ∧ i = .int .i64 k ∧ Hid (∀ j (hj : j < ps.length), j < k → isW ps[j]) ∧ w = wr)
  case atStart => exact ⟨0, by omega, by omega, rfl, Lib.hid (fun j hj h => by omega), rfl⟩
  case round =>
    obtain ⟨k, hk, hm, rfl, HK, rfl⟩ := hrel
    subst hm
    by_cases hlt : k < ps.length
    · have hgo : (k : Int) < (ps.length : Int) := by omega
      obtain ⟨g, off, rfl, hg, c0⟩ := hr k hlt
      by_cases hw : isW ps[k]
      · have HN : Hid (∀ j (hj : j < ps.length), j < k + 1 → isW ps[j]) := Lib.hid fun j hj h => by
          by_cases e : j = k
          · subst e; exact hw
          · exact HK.out j hj (by omega)
        have W := Lib.hid (spec_IsWord ps[k] (HT.out _ (List.getElem_mem hlt)) true (decide_eq_true hw))
        clear HK hw
        generalize ps[k] = p at *
        go_wp2_with fail
        refine (W.out _).mono ?_
        rintro e w1 ⟨rfl, rfl⟩
        go_wp2_with fail
        go_roundg (ps.length - (k + 1))
        case measure => omega
        case rel => exact ⟨k + 1, by omega, by omega, by go_num, HN, rfl⟩
      · have hb : b = false := by rw [← HB.out]; exact decide_eq_false fun h => hw (h.1 _ (List.getElem_mem hlt))
        subst hb
        have W := Lib.hid (spec_IsWord ps[k] (HT.out _ (List.getElem_mem hlt)) false (decide_eq_false hw))
        clear HK HB hw
        generalize ps[k] = p at *
        go_wp2_with fail
        refine (W.out _).mono ?_
        rintro e w1 ⟨rfl, rfl⟩
        go_wp2_with fail
        go_ret
        exact ⟨rfl, rfl⟩
    · have hge : ¬ (k : Int) < (ps.length : Int) := by omega
      have HE : Hid (b = decide ((ps.length : Int) ≤ 60)) := Lib.hid (by
        rw [← HB.out]
        apply decide_eq_decide.2
        constructor
        · intro h; have := h.2; omega
        · intro h
          refine ⟨fun p hp => ?_, by omega⟩
          obtain ⟨i, hi, rfl⟩ := List.getElem_of_mem hp
          exact HK.out i hi (by omega))
      clear HK HB
      by_cases h1 : (ps.length : Int) ≤ 60
      · have hb : b = true := by rw [HE.out]; exact decide_eq_true h1
        subst hb
        go_wp2_with fail
        go_ret
        exact ⟨rfl, rfl⟩
      · have hb : b = false := by rw [HE.out]; exact decide_eq_false h1
        have h1' : decide ((ps.length : Int) ≤ 60) = false := by simpa using h1
        subst hb
        go_wp2_with fail
        go_ret
        exact ⟨rfl, rfl⟩

/-! ### small functions -/
def nwL (l : List UInt8) : List UInt8 := if isW l then norm l else []
def wE (l : List UInt8) : Int := if isW l then 0 else 1

/-- What a call leaves that answers a text and a code. -/
def TxE (T : List UInt8) (E : Int) (w : World) (e : Ending) (w' : World) : Prop := e = .returned (.tuple #[.string (str T), .int .i64 E]) ∧ Below w.heap.size w w'

theorem ret_tx {T T' : List UInt8} {E E' : Int} (h : T = T') (h' : E = E') : Ending.returned (.tuple #[.string (str T), .int .i64 E]) = .returned (.tuple #[.string (str T'), .int .i64 E']) := by rw [h, h']

def wdN (a b : List UInt8) : Int := if isW a ∧ isW b then (dist a b : Int) else 0

def wwE (a b : List UInt8) : Int := if isW a ∧ isW b then 0 else 1

def alB (a b : List UInt8) : Bool := decide ((isW a ∧ isW b) ∧ norm a = norm b)

/-- What a call leaves that answers a number and a code. -/
def TwoW (x y : Int) (w : World) (e : Ending) (w' : World) : Prop := e = .returned (.tuple #[.int .i64 x, .int .i64 y]) ∧ Below w.heap.size w w'

theorem ret_nn {x y x' y' : Int} (h : x = x') (h' : y = y') : Ending.returned (.tuple #[.int .i64 x, .int .i64 y]) = .returned (.tuple #[.int .i64 x', .int .i64 y']) := by rw [h, h']

def BoolE (b : Bool) (y : Int) (w : World) (e : Ending) (w' : World) : Prop := e = .returned (.tuple #[.bool b, .int .i64 y]) ∧ Below w.heap.size w w'

theorem ret_be {b b' : Bool} {y y' : Int} (h : b = b') (h' : y = y') : Ending.returned (.tuple #[.bool b, .int .i64 y]) = .returned (.tuple #[.bool b', .int .i64 y']) := by rw [h, h']

end Go.Proofs.YtdpbikephjnndaaDoor.Wrd
