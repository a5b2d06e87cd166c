/- Contracts of spec's feasts of a day, FeastDay, RelatedDay and FeastsOn. -/
import Derived.Test.YtfhcakpmlppbkaaFeaA
import Derived.Test.YtfhcakpmlppbkaaKinds
import Derived.Test.YtfhcakpmlppbkaaFeaN
import Derived.Test.YtfhcakpmlppbkaaIntR
import Derived.Test.YtfhcakpmlppbkaaDaysE
namespace Go.Proofs.Ytfhcakpmlppbkaa.Fea
open Go.RowKit
open Go.Proofs.Ytfhcakpmlppbkaa.Eas (isY It)
open Go.Proofs.Ytfhcakpmlppbkaa.Ints (Rd Row Own append_int append_intG)

set_option maxHeartbeats 400000 in
theorem spec_oldOf (n : Int) (h1 : Cal.ys false 1 ≤ n) (h2 : n ≤ 730499) (w : World) :
    Calls Try.prog 76 #[.int .i64 n] w (SDate false n w) := by
  go_enter Try.func76, Try.ntmps76
  go_wp2_with fail
  refine (spec_date false n h1 h2 _).mono ?_
  rintro e w1 ⟨y, m, d, rfl, hv, hn, hnum, hb⟩
  have HV := Lib.hid (And.intro hv (And.intro hn hnum))
  clear hv hn hnum
  have q1 := (Blk.new w _ _).below hb (by simp)
  obtain ⟨c0, c1, c2⟩ := q1.three
  have z0 := q1.frozen 0
  have z1 := q1.frozen 1
  have z2 := q1.frozen 2
  go_wp2_with fail
  refine bodyPost_ret (v := .agg #[.int .i64 y, .int .i64 m, .int .i64 d]) (by simp [results, Try.results76, go_sem, c0, c1, c2]) rfl ⟨y, m, d, rfl, HV.out.1, HV.out.2.1, HV.out.2.2, ?_⟩
  exact (((((Below.refl _ _).alloc (Nat.le_refl _) _).trans (hb.mono (by simp))).setCell (Nat.le_refl _) _).setCell (Nat.le_refl _) _).setCell (Nat.le_refl _) _

/-- The year of a day, out of spec's date. -/
theorem SDate.year {n : Int} {w w' : World} {e : Ending} (h : SDate false n w e w') (h1 : n ≤ 730499) : ∃ m d : Int, e = .returned (.agg #[.int .i64 (yr n), .int .i64 m, .int .i64 d]) ∧ Below w.heap.size w w' := by
  obtain ⟨y, m, d, rfl, hv, -, hn, hb⟩ := h
  have hv' := hv (by rw [Cal.ys_2001]; simp; omega)
  rw [← yr_num hv' hn]
  exact ⟨m, d, rfl, hb⟩

/-- What a call leaves that answers a list of numbers in a row that can be appended to. -/
def IntsO (xs : List Int) (w : World) (e : Ending) (w' : World) : Prop := ∃ v, e = .returned v ∧ Own w' w.heap.size v xs ∧ Below w.heap.size w w'
def OLoop (F : Nat → List Int) (w : World) (k : Nat) (v i : Value) (wr : World) : Prop :=
  ∃ (f : Nat) (acc : List Int), i = .int .i64 f ∧ k = 20 - f ∧ f ≤ 20 ∧ Hid (acc = F f) ∧ acc.length ≤ f ∧ Own wr w.heap.size v acc ∧ Below w.heap.size w wr
theorem fo_yes {n y : Int} {f : Nat} {acc : List Int} (h : acc = fo n y f) (e : fd f y = n) : acc ++ [(f : Int)] = fo n y (f + 1) := by subst h; rw [fo, if_pos e]
theorem fo_no {n y : Int} {f : Nat} {acc : List Int} (h : acc = fo n y f) (e : ¬ fd f y = n) : acc = fo n y (f + 1) := by subst h; rw [fo, if_neg e, List.append_nil]


/-- What a call leaves that answers a list of numbers and a code. -/
def IntsOut (V : List Int) (E : Int) (w : World) (e : Ending) (w' : World) : Prop :=
  ∃ (A : Option Addr) (c : Nat), e = .returned (.tuple #[.slice A V.length c, .int .i64 E]) ∧ Row w' w.heap.size w'.heap.size A V.length c V ∧ Below w.heap.size w w'

theorem IntsOut.of {V : List Int} {E : Int} {w w' : World} {v : Value} (h : Own w' w.heap.size v V) (hb : Below w.heap.size w w') : IntsOut V E w (.returned (.tuple #[v, .int .i64 E])) w' := by
  obtain ⟨A, c, rfl, hr⟩ := h.form
  exact ⟨A, c, rfl, hr, hb⟩
theorem IntsOut.empty {E : Int} {w w' : World} (hb : Below w.heap.size w w') : IntsOut [] E w (.returned (.tuple #[.slice none 0 0, .int .i64 E])) w' :=
  ⟨none, 0, rfl, Row.nil (Nat.le_refl _), hb⟩

def isDay (n : Int) : Prop := 0 ≤ n ∧ n ≤ 730499
instance (n : Int) : Decidable (isDay n) := by unfold isDay; exact inferInstance

theorem spec_day_yes (n : Int) (h : isDay n) (w : World) : Calls Try.prog 54 #[.int .i64 n] w fun e w' => e = .returned (.bool true) ∧ w = w' := by
  have := Go.Proofs.Ytfhcakpmlppbkaa.spec_day n w
  rwa [inB_true h] at this
theorem spec_day_no (n : Int) (h : ¬ isDay n) (w : World) : Calls Try.prog 54 #[.int .i64 n] w fun e w' => e = .returned (.bool false) ∧ w = w' := by
  have := Go.Proofs.Ytfhcakpmlppbkaa.spec_day n w
  rwa [inB_false h] at this

def onL (n : Int) : List Int := if isDay n then fon n else []
def onE (n : Int) : Int := if isDay n then 0 else 2

def fdN (f y : Int) : Int := if isF f ∧ isY y then fd f y else 0
def fdE (f y : Int) : Int := if isF f ∧ isY y then 0 else 2

end Go.Proofs.Ytfhcakpmlppbkaa.Fea
