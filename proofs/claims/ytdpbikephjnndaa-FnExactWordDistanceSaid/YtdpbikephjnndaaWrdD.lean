/- Contracts of spec's phrases and of its small functions over words. -/
import Derived.Test.YtdpbikephjnndaaWrdB
import Derived.Test.YtdpbikephjnndaaWrdC
import Derived.Test.YtdpbikephjnndaaPlain
namespace Go.Proofs.Ytdpbikephjnndaa.Wrd
open Go.RowKit

/-- The slice with address A reads as the texts ps. -/
def RdS (w : World) (A : Option Addr) (ps : List (List UInt8)) : Prop := ∀ k (hk : k < ps.length), ∃ g off, A = some ⟨g, off, none⟩ ∧ g < w.heap.size ∧ w.cell? ⟨g, off + k, none⟩ = some (.string (str ps[k]))
theorem RdS.below {w w' : World} {A : Option Addr} {ps : List (List UInt8)} (h : RdS w A ps) (hb : Below w.heap.size w w') : RdS w' A ps := fun k hk => by
  obtain ⟨g, off, e, hg, hc⟩ := h k hk
  exact ⟨g, off, e, Nat.lt_of_lt_of_le hg hb.size, cell_on hb hc⟩
/-- A phrase. -/
def phOk (ps : List (List UInt8)) : Prop := (∀ p ∈ ps, isW p) ∧ ps.length ≤ 60
instance (ps : List (List UInt8)) : Decidable (phOk ps) := by unfold phOk; exact inferInstance
/-- Texts that are no longer than a call can bear. -/
def Tame (ps : List (List UInt8)) : Prop := ps.length ≤ 2000000 ∧ ∀ p ∈ ps, p.length ≤ 2000000
theorem phOk.tame {ps : List (List UInt8)} (h : phOk ps) : Tame ps := ⟨by have := h.2; omega, fun p hp => by have := (h.1 p hp).2.2; omega⟩

theorem spec_phrase (A : Option Addr) (c : Nat) (ps : List (List UInt8)) (ht : Tame ps) (b : Bool) (h : decide (phOk ps) = b) (w : World) (hr : RdS w A ps) :
    Calls Try.prog 43 #[.slice A ps.length c] w fun e w' => e = .returned (.bool b) ∧ w = w' := by
  have HB := Lib.hid h
  have HT := Lib.hid ht.2
  have hl := ht.1
  clear h ht
  go_enter Try.func43, Try.ntmps43
  go_wp2_with fail
  go_loopg [3] ps.length (fun m i wr => ∃ k : Nat, k ≤ ps.length ∧ m = ps.length - k ∧ i = .int .i64 k ∧ Hid (∀ j (hj : j < ps.length), j < k → isW ps[j]) ∧ w = wr)
  case atStart => exact ⟨0, by omega, by omega, rfl, Lib.hid (fun j hj h => by omega), rfl⟩
  case round =>
    obtain ⟨k, hk, hm, rfl, HK, rfl⟩ := hrel
    subst hm
    by_cases hlt : k < ps.length
    · have hgo : (k : Int) < (ps.length : Int) := by omega
      obtain ⟨g, off, rfl, hg, c0⟩ := hr k hlt
      by_cases hw : isW ps[k]
      · have HN : Hid (∀ j (hj : j < ps.length), j < k + 1 → isW ps[j]) := Lib.hid fun j hj h => by
          by_cases e : j = k
          · subst e; exact hw
          · exact HK.out j hj (by omega)
        have W := Lib.hid (spec_IsWord ps[k] (HT.out _ (List.getElem_mem hlt)) true (decide_eq_true hw))
        clear HK hw
        generalize ps[k] = p at *
        go_wp2_with fail
        refine (W.out _).mono ?_
        rintro e w1 ⟨rfl, rfl⟩
        go_wp2_with fail
        go_roundg (ps.length - (k + 1))
        case measure => omega
        case rel => exact ⟨k + 1, by omega, by omega, by go_num, HN, rfl⟩
      · have hb : b = false := by rw [← HB.out]; exact decide_eq_false fun h => hw (h.1 _ (List.getElem_mem hlt))
        subst hb
        have W := Lib.hid (spec_IsWord ps[k] (HT.out _ (List.getElem_mem hlt)) false (decide_eq_false hw))
        clear HK HB hw
        generalize ps[k] = p at *
        go_wp2_with fail
        refine (W.out _).mono ?_
        rintro e w1 ⟨rfl, rfl⟩
        go_wp2_with fail
        go_ret
        exact ⟨rfl, rfl⟩
    · have hge : ¬ (k : Int) < (ps.length : Int) := by omega
      have HE : Hid (b = decide ((ps.length : Int) ≤ 60)) := Lib.hid (by
        rw [← HB.out]
        apply decide_eq_decide.2
        constructor
        · intro h; have := h.2; omega
        · intro h
          refine ⟨fun p hp => ?_, by omega⟩
          obtain ⟨i, hi, rfl⟩ := List.getElem_of_mem hp
          exact HK.out i hi (by omega))
      clear HK HB
      by_cases h1 : (ps.length : Int) ≤ 60
      · have hb : b = true := by rw [HE.out]; exact decide_eq_true h1
        subst hb
        go_wp2_with fail
        go_ret
        exact ⟨rfl, rfl⟩
      · have hb : b = false := by rw [HE.out]; exact decide_eq_false h1
        have h1' : decide ((ps.length : Int) ≤ 60) = false := by simpa using h1
        subst hb
        go_wp2_with fail
        go_ret
        exact ⟨rfl, rfl⟩

/-! ### small functions -/
def nwL (l : List UInt8) : List UInt8 := if isW l then norm l else []
def wE (l : List UInt8) : Int := if isW l then 0 else 1
/-- What a call leaves that answers a text and a code. -/
def TxE (T : List UInt8) (E : Int) (w : World) (e : Ending) (w' : World) : Prop := e = .returned (.tuple #[.string (str T), .int .i64 E]) ∧ Below w.heap.size w w'
theorem ret_tx {T T' : List UInt8} {E E' : Int} (h : T = T') (h' : E = E') : Ending.returned (.tuple #[.string (str T), .int .i64 E]) = .returned (.tuple #[.string (str T'), .int .i64 E']) := by rw [h, h']
theorem spec_NormalWord (l : List UInt8) (hl : l.length ≤ 2000000) (w : World) : Calls Try.prog 19 #[.string (str l)] w (TxE (nwL l) (wE l) w) := by
  by_cases h : isW l
  · have W := Lib.hid (spec_IsWord l hl true (decide_eq_true h))
    have N := Lib.hid (spec_norm l h.2.2 h.2.1)
    have H := Lib.hid (show norm l = nwL l ∧ 0 = wE l from ⟨(if_pos h).symm, (if_pos h).symm⟩)
    clear h
    generalize norm l = t at *
    go_enter Try.func19, Try.ntmps19
    go_wp2_with fail
    refine (W.out _).mono ?_
    rintro e w1 ⟨rfl, rfl⟩
    go_wp2_with fail
    refine (N.out _).mono ?_
    rintro e w1 ⟨rfl, hb⟩
    go_wp2_with fail
    go_ret2
    exact ⟨ret_tx H.out.1 H.out.2, hb⟩
  · have W := Lib.hid (spec_IsWord l hl false (decide_eq_false h))
    have H := Lib.hid (show [] = nwL l ∧ 1 = wE l from ⟨(if_neg h).symm, (if_neg h).symm⟩)
    clear h
    go_enter Try.func19, Try.ntmps19
    go_wp2_with fail
    refine (W.out _).mono ?_
    rintro e w1 ⟨rfl, rfl⟩
    go_wp2_with fail
    go_ret2
    exact ⟨ret_tx H.out.1 H.out.2, Below.refl _ _⟩

def wdN (a b : List UInt8) : Int := if isW a ∧ isW b then (dist a b : Int) else 0
def wwE (a b : List UInt8) : Int := if isW a ∧ isW b then 0 else 1
def alB (a b : List UInt8) : Bool := decide ((isW a ∧ isW b) ∧ norm a = norm b)
/-- What a call leaves that answers a number and a code. -/
def TwoW (x y : Int) (w : World) (e : Ending) (w' : World) : Prop := e = .returned (.tuple #[.int .i64 x, .int .i64 y]) ∧ Below w.heap.size w w'
theorem ret_nn {x y x' y' : Int} (h : x = x') (h' : y = y') : Ending.returned (.tuple #[.int .i64 x, .int .i64 y]) = .returned (.tuple #[.int .i64 x', .int .i64 y']) := by rw [h, h']
def BoolE (b : Bool) (y : Int) (w : World) (e : Ending) (w' : World) : Prop := e = .returned (.tuple #[.bool b, .int .i64 y]) ∧ Below w.heap.size w w'
theorem ret_be {b b' : Bool} {y y' : Int} (h : b = b') (h' : y = y') : Ending.returned (.tuple #[.bool b, .int .i64 y]) = .returned (.tuple #[.bool b', .int .i64 y']) := by rw [h, h']

theorem spec_WordDistance (a b : List UInt8) (ha : a.length ≤ 2000000) (hb : b.length ≤ 2000000) (w : World) : Calls Try.prog 14 #[.string (str a), .string (str b)] w (TwoW (wdN a b) (wwE a b) w) := by
  by_cases h1 : isW a
  · have W1 := Lib.hid (spec_IsWord a ha true (decide_eq_true h1))
    by_cases h2 : isW b
    · have W2 := Lib.hid (spec_IsWord b hb true (decide_eq_true h2))
      have D := Lib.hid (spec_dist a b (by have := h1.2.2; omega) (by have := h2.2.2; omega))
      have H := Lib.hid (show (dist a b : Int) = wdN a b ∧ 0 = wwE a b from ⟨(if_pos ⟨h1, h2⟩).symm, (if_pos ⟨h1, h2⟩).symm⟩)
      clear h1 h2
      generalize (dist a b : Int) = d at *
      go_enter Try.func14, Try.ntmps14
      go_wp2_with fail
      refine (W1.out _).mono ?_
      rintro e w1 ⟨rfl, rfl⟩
      go_wp2_with fail
      refine (W2.out _).mono ?_
      rintro e w1 ⟨rfl, rfl⟩
      go_wp2_with fail
      refine (D.out _).mono ?_
      rintro e w1 ⟨rfl, hb1⟩
      go_wp2_with fail
      go_ret2
      exact ⟨ret_nn H.out.1 H.out.2, hb1⟩
    · have W2 := Lib.hid (spec_IsWord b hb false (decide_eq_false h2))
      have hn : ¬ (isW a ∧ isW b) := fun h => h2 h.2
      have H := Lib.hid (show 0 = wdN a b ∧ 1 = wwE a b from ⟨(if_neg hn).symm, (if_neg hn).symm⟩)
      clear h1 h2 hn
      go_enter Try.func14, Try.ntmps14
      go_wp2_with fail
      refine (W1.out _).mono ?_
      rintro e w1 ⟨rfl, rfl⟩
      go_wp2_with fail
      refine (W2.out _).mono ?_
      rintro e w1 ⟨rfl, rfl⟩
      go_wp2_with fail
      go_ret2
      exact ⟨ret_nn H.out.1 H.out.2, Below.refl _ _⟩
  · have W1 := Lib.hid (spec_IsWord a ha false (decide_eq_false h1))
    have hn : ¬ (isW a ∧ isW b) := fun h => h1 h.1
    have H := Lib.hid (show 0 = wdN a b ∧ 1 = wwE a b from ⟨(if_neg hn).symm, (if_neg hn).symm⟩)
    clear h1 hn
    go_enter Try.func14, Try.ntmps14
    go_wp2_with fail
    refine (W1.out _).mono ?_
    rintro e w1 ⟨rfl, rfl⟩
    go_wp2_with fail
    go_ret2
    exact ⟨ret_nn H.out.1 H.out.2, Below.refl _ _⟩

theorem spec_AreAlike (a b : List UInt8) (ha : a.length ≤ 2000000) (hb : b.length ≤ 2000000) (w : World) : Calls Try.prog 16 #[.string (str a), .string (str b)] w (BoolE (alB a b) (wwE a b) w) := by
  by_cases h1 : isW a
  · have W1 := Lib.hid (spec_IsWord a ha true (decide_eq_true h1))
    by_cases h2 : isW b
    · have W2 := Lib.hid (spec_IsWord b hb true (decide_eq_true h2))
      have N1 := Lib.hid (spec_norm a h1.2.2 h1.2.1)
      have N2 := Lib.hid (spec_norm b h2.2.2 h2.2.1)
      have H := Lib.hid (show decide (norm a = norm b) = alB a b ∧ 0 = wwE a b from ⟨decide_eq_decide.2 ⟨fun h => ⟨⟨h1, h2⟩, h⟩, fun h => h.2⟩, (if_pos ⟨h1, h2⟩).symm⟩)
      clear h1 h2
      have s1 := str_toList (norm a)
      have s2 := str_toList (norm b)
      generalize norm a = p at *
      generalize norm b = q at *
      go_enter Try.func16, Try.ntmps16
      go_wp2_with fail
      refine (W1.out _).mono ?_
      rintro e w1 ⟨rfl, rfl⟩
      go_wp2_with fail
      refine (W2.out _).mono ?_
      rintro e w1 ⟨rfl, rfl⟩
      go_wp2_with fail
      refine (N1.out _).mono ?_
      rintro e w1 ⟨rfl, hb1⟩
      go_wp2_with fail
      refine (N2.out _).mono ?_
      rintro e w2 ⟨rfl, hb2⟩
      have hb3 := hb1.trans (hb2.mono hb1.size)
      go_wp2_with fail
      go_ret2
      exact ⟨ret_be (by rw [← H.out.1]; by_cases e : p = q <;> simp [e]) H.out.2, hb3⟩
    · have W2 := Lib.hid (spec_IsWord b hb false (decide_eq_false h2))
      have hn : ¬ (isW a ∧ isW b) := fun h => h2 h.2
      have H := Lib.hid (show false = alB a b ∧ 1 = wwE a b from ⟨(decide_eq_false (fun h => hn h.1)).symm, (if_neg hn).symm⟩)
      clear h1 h2 hn
      go_enter Try.func16, Try.ntmps16
      go_wp2_with fail
      refine (W1.out _).mono ?_
      rintro e w1 ⟨rfl, rfl⟩
      go_wp2_with fail
      refine (W2.out _).mono ?_
      rintro e w1 ⟨rfl, rfl⟩
      go_wp2_with fail
      go_ret2
      exact ⟨ret_be H.out.1 H.out.2, Below.refl _ _⟩
  · have W1 := Lib.hid (spec_IsWord a ha false (decide_eq_false h1))
    have hn : ¬ (isW a ∧ isW b) := fun h => h1 h.1
    have H := Lib.hid (show false = alB a b ∧ 1 = wwE a b from ⟨(decide_eq_false (fun h => hn h.1)).symm, (if_neg hn).symm⟩)
    clear h1 hn
    go_enter Try.func16, Try.ntmps16
    go_wp2_with fail
    refine (W1.out _).mono ?_
    rintro e w1 ⟨rfl, rfl⟩
    go_wp2_with fail
    go_ret2
    exact ⟨ret_be H.out.1 H.out.2, Below.refl _ _⟩

end Go.Proofs.Ytdpbikephjnndaa.Wrd
