/- Contracts of spec's feasts of a day, FeastDay, RelatedDay and FeastsOn. -/
import Derived.Test.YtegoiiconhgjbaaFeaA
import Derived.Test.YtegoiiconhgjbaaFeaN
import Derived.Test.YtegoiiconhgjbaaIntR
import Derived.Test.YtegoiiconhgjbaaDaysE
namespace Go.Proofs.Ytegoiiconhgjbaa.Fea
open Go.RowKit
open Go.Proofs.Ytegoiiconhgjbaa.Eas (isY It)
open Go.Proofs.Ytegoiiconhgjbaa.Ints (Rd Row Own append_int append_intG)

set_option maxHeartbeats 400000 in
theorem spec_oldOf (n : Int) (h1 : Cal.ys false 1 ≤ n) (h2 : n ≤ 730499) (w : World) :
    Calls Try.prog 110 #[.int .i64 n] w (SDate false n w) := by
  go_enter Try.func110, Try.ntmps110
  go_wp2_with fail
  refine (spec_date false n h1 h2 _).mono ?_
  rintro e w1 ⟨y, m, d, rfl, hv, hn, hnum, hb⟩
  have HV := Lib.hid (And.intro hv (And.intro hn hnum))
  clear hv hn hnum
  have q1 := (Blk.new w _ _).below hb (by simp)
  obtain ⟨c0, c1, c2⟩ := q1.three
  have z0 := q1.frozen 0
  have z1 := q1.frozen 1
  have z2 := q1.frozen 2
  go_wp2_with fail
  refine bodyPost_ret (v := .agg #[.int .i64 y, .int .i64 m, .int .i64 d]) (by simp [results, Try.results110, go_sem, c0, c1, c2]) rfl ⟨y, m, d, rfl, HV.out.1, HV.out.2.1, HV.out.2.2, ?_⟩
  exact (((((Below.refl _ _).alloc (Nat.le_refl _) _).trans (hb.mono (by simp))).setCell (Nat.le_refl _) _).setCell (Nat.le_refl _) _).setCell (Nat.le_refl _) _

/-- The year of a day, out of spec's date. -/
theorem SDate.year {n : Int} {w w' : World} {e : Ending} (h : SDate false n w e w') (h1 : n ≤ 730499) : ∃ m d : Int, e = .returned (.agg #[.int .i64 (yr n), .int .i64 m, .int .i64 d]) ∧ Below w.heap.size w w' := by
  obtain ⟨y, m, d, rfl, hv, -, hn, hb⟩ := h
  have hv' := hv (by rw [Cal.ys_2001]; simp; omega)
  rw [← yr_num hv' hn]
  exact ⟨m, d, rfl, hb⟩

/-- What a call leaves that answers a list of numbers in a row that can be appended to. -/
def IntsO (xs : List Int) (w : World) (e : Ending) (w' : World) : Prop := ∃ v, e = .returned v ∧ Own w' w.heap.size v xs ∧ Below w.heap.size w w'
def OLoop (F : Nat → List Int) (w : World) (k : Nat) (v i : Value) (wr : World) : Prop :=
  ∃ (f : Nat) (acc : List Int), i = .int .i64 f ∧ k = 20 - f ∧ f ≤ 20 ∧ Hid (acc = F f) ∧ acc.length ≤ f ∧ Own wr w.heap.size v acc ∧ Below w.heap.size w wr
theorem fo_yes {n y : Int} {f : Nat} {acc : List Int} (h : acc = fo n y f) (e : fd f y = n) : acc ++ [(f : Int)] = fo n y (f + 1) := by subst h; rw [fo, if_pos e]
theorem fo_no {n y : Int} {f : Nat} {acc : List Int} (h : acc = fo n y f) (e : ¬ fd f y = n) : acc = fo n y (f + 1) := by subst h; rw [fo, if_neg e, List.append_nil]

set_option maxRecDepth 100000 in
set_option maxHeartbeats 4000000 in
theorem spec_on (n : Int) (h0 : 0 ≤ n) (h1 : n ≤ 730499) (w : World) : Calls Try.prog 100 #[.int .i64 n] w (IntsO (fon n) w) := by
  have hY := Lib.hid (yr_isY n h0 h1)
  have O := Lib.hid (fun w => (spec_oldOf n (by rw [Cal.ys_1]; simpa using h0) h1 w).mono fun e w' k => SDate.year k h1)
  obtain ⟨T, hT⟩ : ∃ T, fo n (yr n) 20 = T := ⟨_, rfl⟩
  rw [show fon n = T from hT]
  generalize yr n = y at hY hT O
  obtain ⟨F, F0, FY, FN, FT⟩ : ∃ F : Nat → List Int, Hid (F 0 = []) ∧ Hid (∀ (f : Nat) acc, acc = F f → fd f y = n → acc ++ [(f : Int)] = F (f + 1)) ∧ Hid (∀ (f : Nat) acc, acc = F f → ¬ fd f y = n → acc = F (f + 1)) ∧ Hid (F 20 = T) :=
    ⟨fo n y, Lib.hid rfl, Lib.hid (fun f acc h e => fo_yes h e), Lib.hid (fun f acc h e => fo_no h e), Lib.hid hT⟩
  clear hT
  have hfd : ∀ (m d : Int) (w : World), (Instr.field 36 (.agg #[.int .i64 y, .int .i64 m, .int .i64 d]) 0).run Try.prog w = .ok (.int .i64 y) w := fun _ _ _ => by kernel_rfl
  go_enter Try.func100, Try.ntmps100
  go_wp2_with fail
  refine (O.out _).mono ?_
  rintro e w1 ⟨m, d, rfl, hb⟩
  go_wp2_with fail
  go_loopg [4, 5] 20 (fun k v i wr => OLoop F w k v i wr)
  case atStart => exact ⟨0, [], rfl, by omega, by omega, Lib.hid F0.out.symm, by simp, (Own.made0 w1).mono hb.size, hb.alloc hb.size _⟩
  case round =>
    obtain ⟨f, acc, rfl, hk, hf, HA, hl, hown, hb2⟩ := hrel
    subst hk
    by_cases hlt : f < 20
    · have D := Lib.hid (spec_day (f : Int) y ⟨by omega, by omega⟩ hY.out)
      obtain ⟨x, hx⟩ : ∃ x, fd (f : Int) y = x := ⟨_, rfl⟩
      rw [hx] at D
      by_cases hc : x = n
      · have HN := Lib.hid (FY.out f acc HA.out (hx.trans hc))
        subst hc
        clear hx HA FY FN F0 FT O hY
        go_wp2_with fail
        refine (D.out _).mono ?_
        rintro e w2 ⟨rfl, hb3⟩
        have HO := hown.below hb3
        have hb4 := hb2.trans (hb3.mono hb2.size)
        go_wp2_with (at_builtin; refine append_int hb4 HO (by omega) rfl (.tmp 19) (.tmp 21) rfl rfl rfl ?_)
        intro v4 w4 own4 hb5
        clear HO hb4 hown hb3 hb2
        go_wp2_with fail
        go_roundg (20 - (f + 1))
        case measure => omega
        case rel => exact ⟨f + 1, _, by go_num, by omega, by omega, HN, by simp; omega, own4, hb5⟩
      · have HN := Lib.hid (FN.out f acc HA.out (fun h => hc (hx.symm.trans h)))
        have hE : (x == n) = false := by simpa using hc
        clear hx HA hc FY FN F0 FT O hY
        go_wp2_with fail
        refine (D.out _).mono ?_
        rintro e w2 ⟨rfl, hb3⟩
        have HO := hown.below hb3
        have hb4 := hb2.trans (hb3.mono hb2.size)
        go_wp2_with fail
        go_roundg (20 - (f + 1))
        case measure => omega
        case rel => exact ⟨f + 1, _, by go_num, by omega, by omega, HN, by omega, HO, hb4⟩
    · have HV : acc = T := by
        have e : f = 20 := by omega
        have h := HA.out
        rw [e] at h
        exact h.trans FT.out
      subst HV
      have hge : (20 : Int) ≤ f := by omega
      clear HA FT O hY FY FN F0
      go_wp2_with fail
      go_ret
      exact ⟨_, rfl, hown, hb2⟩


/-- What a call leaves that answers a list of numbers and a code. -/
def IntsOut (V : List Int) (E : Int) (w : World) (e : Ending) (w' : World) : Prop :=
  ∃ (A : Option Addr) (c : Nat), e = .returned (.tuple #[.slice A V.length c, .int .i64 E]) ∧ Row w' w.heap.size w'.heap.size A V.length c V ∧ Below w.heap.size w w'
theorem IntsOut.of {V : List Int} {E : Int} {w w' : World} {v : Value} (h : Own w' w.heap.size v V) (hb : Below w.heap.size w w') : IntsOut V E w (.returned (.tuple #[v, .int .i64 E])) w' := by
  obtain ⟨A, c, rfl, hr⟩ := h.form
  exact ⟨A, c, rfl, hr, hb⟩
theorem IntsOut.empty {E : Int} {w w' : World} (hb : Below w.heap.size w w') : IntsOut [] E w (.returned (.tuple #[.slice none 0 0, .int .i64 E])) w' :=
  ⟨none, 0, rfl, Row.nil (Nat.le_refl _), hb⟩
def isDay (n : Int) : Prop := 0 ≤ n ∧ n ≤ 730499
instance (n : Int) : Decidable (isDay n) := by unfold isDay; exact inferInstance
theorem spec_day_yes (n : Int) (h : isDay n) (w : World) : Calls Try.prog 96 #[.int .i64 n] w fun e w' => e = .returned (.bool true) ∧ w = w' := by
  have := Go.Proofs.Ytegoiiconhgjbaa.spec_day n w
  rwa [inB_true h] at this
theorem spec_day_no (n : Int) (h : ¬ isDay n) (w : World) : Calls Try.prog 96 #[.int .i64 n] w fun e w' => e = .returned (.bool false) ∧ w = w' := by
  have := Go.Proofs.Ytegoiiconhgjbaa.spec_day n w
  rwa [inB_false h] at this
def onL (n : Int) : List Int := if isDay n then fon n else []
def onE (n : Int) : Int := if isDay n then 0 else 2

set_option maxHeartbeats 1000000 in
theorem spec_FeastsOn (n : Int) (w : World) : Calls Try.prog 37 #[.int .i64 n] w (IntsOut (onL n) (onE n) w) := by
  by_cases h : isDay n
  · have Y := Lib.hid (spec_day_yes n h)
    have O := Lib.hid (spec_on n h.1 h.2)
    rw [show onL n = fon n from if_pos h, show onE n = 0 from if_pos h]
    clear h
    generalize fon n = V at *
    go_enter Try.func37, Try.ntmps37
    go_wp2_with fail
    refine (Y.out _).mono ?_
    rintro e w1 ⟨rfl, rfl⟩
    go_wp2_with fail
    refine (O.out _).mono ?_
    rintro e w1 ⟨v, rfl, ho, hb⟩
    go_wp2_with fail
    go_ret2
    exact IntsOut.of ho hb
  · have Y := Lib.hid (spec_day_no n h)
    rw [show onL n = [] from if_neg h, show onE n = 2 from if_neg h]
    clear h
    go_enter Try.func37, Try.ntmps37
    go_wp2_with fail
    refine (Y.out _).mono ?_
    rintro e w1 ⟨rfl, rfl⟩
    go_wp2_with fail
    go_ret2
    exact IntsOut.empty (Below.refl _ _)

def fdN (f y : Int) : Int := if isF f ∧ isY y then fd f y else 0
def fdE (f y : Int) : Int := if isF f ∧ isY y then 0 else 2
theorem spec_feast_yes (f : Int) (h : isF f) (w : World) : Calls Try.prog 93 #[.int .i64 f] w fun e w' => e = .returned (.bool true) ∧ w = w' := spec_isFeast f true (inB_true h) w
theorem spec_feast_no (f : Int) (h : ¬ isF f) (w : World) : Calls Try.prog 93 #[.int .i64 f] w fun e w' => e = .returned (.bool false) ∧ w = w' := spec_isFeast f false (inB_false h) w

set_option maxHeartbeats 1000000 in
theorem spec_FeastDay (f y : Int) (w : World) : Calls Try.prog 64 #[.int .i64 f, .int .i64 y] w (Two (fdN f y) (fdE f y) w) := by
  by_cases hf : isF f
  · have F := Lib.hid (spec_feast_yes f hf)
    by_cases hy : isY y
    · have Y := Lib.hid (Eas.spec_year_yes y hy)
      have D := Lib.hid (spec_day f y hf hy)
      have H := Lib.hid (show fd f y = fdN f y ∧ 0 = fdE f y from ⟨(if_pos ⟨hf, hy⟩).symm, (if_pos ⟨hf, hy⟩).symm⟩)
      clear hf hy
      generalize fd f y = n at D H
      go_enter Try.func64, Try.ntmps64
      go_wp2_with fail
      refine (F.out _).mono ?_
      rintro e w1 ⟨rfl, rfl⟩
      go_wp2_with fail
      refine (Y.out _).mono ?_
      rintro e w1 ⟨rfl, rfl⟩
      go_wp2_with fail
      refine (D.out _).mono ?_
      rintro e w1 ⟨rfl, hb⟩
      go_wp2_with fail
      go_ret2
      exact ⟨ret_ii H.out.1 H.out.2, hb⟩
    · have Y := Lib.hid (Eas.spec_year_no y hy)
      have H := Lib.hid (show 0 = fdN f y ∧ 2 = fdE f y from ⟨(if_neg (fun h => hy h.2)).symm, (if_neg (fun h => hy h.2)).symm⟩)
      clear hf hy
      go_enter Try.func64, Try.ntmps64
      go_wp2_with fail
      refine (F.out _).mono ?_
      rintro e w1 ⟨rfl, rfl⟩
      go_wp2_with fail
      refine (Y.out _).mono ?_
      rintro e w1 ⟨rfl, rfl⟩
      go_wp2_with fail
      go_ret2
      exact ⟨ret_ii H.out.1 H.out.2, Below.refl _ _⟩
  · have F := Lib.hid (spec_feast_no f hf)
    have H := Lib.hid (show 0 = fdN f y ∧ 2 = fdE f y from ⟨(if_neg (fun h => hf h.1)).symm, (if_neg (fun h => hf h.1)).symm⟩)
    clear hf
    go_enter Try.func64, Try.ntmps64
    go_wp2_with fail
    refine (F.out _).mono ?_
    rintro e w1 ⟨rfl, rfl⟩
    go_wp2_with fail
    go_ret2
    exact ⟨ret_ii H.out.1 H.out.2, Below.refl _ _⟩

end Go.Proofs.Ytegoiiconhgjbaa.Fea
