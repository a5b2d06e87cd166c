/- Texts of a claim in one file: FeaB ReiA. -/
import Derived.Test.YtfhcakpmlppbkaaGreatDoorGrpAk
import Derived.Test.YtfhcakpmlppbkaaGreatDoorGrpAp
import Derived.Test.YtfhcakpmlppbkaaGreatDoorGrpAf
import Derived.Test.YtfhcakpmlppbkaaGreatDoorGrpAi
namespace Go.Proofs.YtfhcakpmlppbkaaGreatDoor.Fea
open Go.RowKit
open Go.Proofs.YtfhcakpmlppbkaaGreatDoor.Eas (isY It)
open Go.Proofs.YtfhcakpmlppbkaaGreatDoor.Ints (Rd Row Own append_int append_intG)

set_option maxHeartbeats 400000 in
theorem spec_oldOf (n : Int) (h1 : Cal.ys false 1 ≤ n) (h2 : n ≤ 730499) (w : World) :
    Calls Tryz.prog 94 #[.int .i64 n] w (SDate false n w) := by
  go_enter Tryz.func94, Tryz.ntmps94
  go_wp2_with fail
  refine (spec_date false n h1 h2 _).mono ?_
  rintro e w1 ⟨y, m, d, rfl, hv, hn, hnum, hb⟩
  have HV := Lib.hid (And.intro hv (And.intro hn hnum))
  clear hv hn hnum
  have q1 := (Blk.new w _ _).below hb (by simp)
  obtain ⟨c0, c1, c2⟩ := q1.three
  have z0 := q1.frozen 0
  have z1 := q1.frozen 1
  have z2 := q1.frozen 2
  go_wp2_with fail
  refine bodyPost_ret (v := .agg #[.int .i64 y, .int .i64 m, .int .i64 d]) (by simp [results, Tryz.results94, go_sem, c0, c1, c2]) rfl ⟨y, m, d, rfl, HV.out.1, HV.out.2.1, HV.out.2.2, ?_⟩
  exact (((((Below.refl _ _).alloc (Nat.le_refl _) _).trans (hb.mono (by simp))).setCell (Nat.le_refl _) _).setCell (Nat.le_refl _) _).setCell (Nat.le_refl _) _

/-- The year of a day, out of spec's date. -/
theorem SDate.year {n : Int} {w w' : World} {e : Ending} (h : SDate false n w e w') (h1 : n ≤ 730499) : ∃ m d : Int, e = .returned (.agg #[.int .i64 (yr n), .int .i64 m, .int .i64 d]) ∧ Below w.heap.size w w' := by
  obtain ⟨y, m, d, rfl, hv, -, hn, hb⟩ := h
  have hv' := hv (by rw [Cal.ys_2001]; simp; omega)
  rw [← yr_num hv' hn]
  exact ⟨m, d, rfl, hb⟩

/-- What a call leaves that answers a list of numbers in a row that can be appended to. -/
def IntsO (xs : List Int) (w : World) (e : Ending) (w' : World) : Prop := ∃ v, e = .returned v ∧ Own w' w.heap.size v xs ∧ Below w.heap.size w w'
def OLoop (F : Nat → List Int) (w : World) (k : Nat) (v i : Value) (wr : World) : Prop :=
  ∃ (f : Nat) (acc : List Int), i = .int .i64 f ∧ k = 20 - f ∧ f ≤ 20 ∧ Hid (acc = F f) ∧ acc.length ≤ f ∧ Own wr w.heap.size v acc ∧ Below w.heap.size w wr
theorem fo_yes {n y : Int} {f : Nat} {acc : List Int} (h : acc = fo n y f) (e : fd f y = n) : acc ++ [(f : Int)] = fo n y (f + 1) := by subst h; rw [fo, if_pos e]
theorem fo_no {n y : Int} {f : Nat} {acc : List Int} (h : acc = fo n y f) (e : ¬ fd f y = n) : acc = fo n y (f + 1) := by subst h; rw [fo, if_neg e, List.append_nil]


/-- What a call leaves that answers a list of numbers and a code. -/
def IntsOut (V : List Int) (E : Int) (w : World) (e : Ending) (w' : World) : Prop :=
  ∃ (A : Option Addr) (c : Nat), e = .returned (.tuple #[.slice A V.length c, .int .i64 E]) ∧ Row w' w.heap.size w'.heap.size A V.length c V ∧ Below w.heap.size w w'

theorem IntsOut.of {V : List Int} {E : Int} {w w' : World} {v : Value} (h : Own w' w.heap.size v V) (hb : Below w.heap.size w w') : IntsOut V E w (.returned (.tuple #[v, .int .i64 E])) w' := by
  obtain ⟨A, c, rfl, hr⟩ := h.form
  exact ⟨A, c, rfl, hr, hb⟩
theorem IntsOut.empty {E : Int} {w w' : World} (hb : Below w.heap.size w w') : IntsOut [] E w (.returned (.tuple #[.slice none 0 0, .int .i64 E])) w' :=
  ⟨none, 0, rfl, Row.nil (Nat.le_refl _), hb⟩

def isDay (n : Int) : Prop := 0 ≤ n ∧ n ≤ 730499
instance (n : Int) : Decidable (isDay n) := by unfold isDay; exact inferInstance

theorem spec_day_yes (n : Int) (h : isDay n) (w : World) : Calls Tryz.prog 61 #[.int .i64 n] w fun e w' => e = .returned (.bool true) ∧ w = w' := by
  have := Go.Proofs.YtfhcakpmlppbkaaGreatDoor.spec_day n w
  rwa [inB_true h] at this
theorem spec_day_no (n : Int) (h : ¬ isDay n) (w : World) : Calls Tryz.prog 61 #[.int .i64 n] w fun e w' => e = .returned (.bool false) ∧ w = w' := by
  have := Go.Proofs.YtfhcakpmlppbkaaGreatDoor.spec_day n w
  rwa [inB_false h] at this

def onL (n : Int) : List Int := if isDay n then fon n else []
def onE (n : Int) : Int := if isDay n then 0 else 2

def fdN (f y : Int) : Int := if isF f ∧ isY y then fd f y else 0
def fdE (f y : Int) : Int := if isF f ∧ isY y then 0 else 2

end Go.Proofs.YtfhcakpmlppbkaaGreatDoor.Fea

namespace Go.Proofs.YtfhcakpmlppbkaaGreatDoor.Rei
open Go.RowKit
open Go.Proofs.YtfhcakpmlppbkaaGreatDoor.Eas (isY It)
open Go.Proofs.YtfhcakpmlppbkaaGreatDoor.Fea (yr yr_isY spec_oldOf SDate.year isDay spec_day_yes spec_day_no)

theorem _root_.Go.Proofs.YtfhcakpmlppbkaaGreatDoor.St.dr7 {L : List (Nat × TypeId × Array Value)} {w0 w : World} (h : St L w0 w) : St L w0 w.drew := h.drewN 1
theorem _root_.Go.Proofs.YtfhcakpmlppbkaaGreatDoor.St.rei {g t : Nat} {a b c : Value} {L : List (Nat × TypeId × Array Value)} {w0 w : World} (h : St ((g, t, #[a, b, c]) :: L) w0 w) :
    w.cell? ⟨g, 0, none⟩ = some a ∧ w.cell? ⟨g, 1, none⟩ = some b ∧ w.cell? ⟨g, 2, none⟩ = some c ∧ St ((g, t, #[a, b, c]) :: L) w0 w := ⟨h.b0.cell 0, h.b0.cell 1, h.b0.cell 2, h⟩
/-- A reign as told. -/
def rOk (s : ByteArray) (f t : Int) : Prop := nmOk s 12 ∧ (0 ≤ f ∧ f ≤ 730499) ∧ (0 ≤ t ∧ t ≤ 730499) ∧ f ≤ t
instance (s : ByteArray) (f t : Int) : Decidable (rOk s f t) := by unfold rOk; exact inferInstance
abbrev rV (s : ByteArray) (f t : Int) : Value := .agg #[.string s, .int .i64 f, .int .i64 t]

set_option maxHeartbeats 1000000 in
theorem spec_reign (s : ByteArray) (hs : s.size ≤ maxLen) (f t : Int) (b : Bool) (h : decide (rOk s f t) = b) (w : World) : Calls Tryz.prog 76 #[rV s f t] w fun e w' => e = .returned (.bool b) ∧ Below w.heap.size w w' := by
  subst h
  have fin : Below w.heap.size w (w.alloc (.cells #[.string s, .int .i64 f, .int .i64 t] 79)) := (Below.refl _ _).alloc (Nat.le_refl _) _
  by_cases h1 : nmOk s 12
  · have N := Lib.hid (spec_name s 12 hs true (decide_eq_true h1))
    by_cases h2 : isDay f
    · have D := Lib.hid (spec_day_yes f h2)
      by_cases h3 : isDay t
      · have E := Lib.hid (spec_day_yes t h3)
        by_cases h4 : f ≤ t
        · rw [decide_eq_true (show rOk s f t from ⟨h1, h2, h3, h4⟩)]
          clear h1 h2 h3
          go_enter Tryz.func76, Tryz.ntmps76
          go_wp2_with fail
          refine (N.out _).mono ?_
          rintro e w1 ⟨rfl, rfl⟩
          go_wp2_with fail
          refine (D.out _).mono ?_
          rintro e w1 ⟨rfl, rfl⟩
          go_wp2_with fail
          refine (E.out _).mono ?_
          rintro e w1 ⟨rfl, rfl⟩
          go_wp2_with fail
          go_ret
          exact ⟨rfl, fin⟩
        · rw [decide_eq_false (show ¬ rOk s f t from fun h => h4 h.2.2.2)]
          have h4' : decide (f ≤ t) = false := by simpa using h4
          clear h1 h2 h3 h4
          go_enter Tryz.func76, Tryz.ntmps76
          go_wp2_with fail
          refine (N.out _).mono ?_
          rintro e w1 ⟨rfl, rfl⟩
          go_wp2_with fail
          refine (D.out _).mono ?_
          rintro e w1 ⟨rfl, rfl⟩
          go_wp2_with fail
          refine (E.out _).mono ?_
          rintro e w1 ⟨rfl, rfl⟩
          go_wp2_with fail
          go_ret
          exact ⟨rfl, fin⟩
      · have E := Lib.hid (spec_day_no t h3)
        rw [decide_eq_false (show ¬ rOk s f t from fun h => h3 h.2.2.1)]
        clear h1 h2 h3
        go_enter Tryz.func76, Tryz.ntmps76
        go_wp2_with fail
        refine (N.out _).mono ?_
        rintro e w1 ⟨rfl, rfl⟩
        go_wp2_with fail
        refine (D.out _).mono ?_
        rintro e w1 ⟨rfl, rfl⟩
        go_wp2_with fail
        refine (E.out _).mono ?_
        rintro e w1 ⟨rfl, rfl⟩
        go_wp2_with fail
        go_ret
        exact ⟨rfl, fin⟩
    · have D := Lib.hid (spec_day_no f h2)
      rw [decide_eq_false (show ¬ rOk s f t from fun h => h2 h.2.1)]
      clear h1 h2
      go_enter Tryz.func76, Tryz.ntmps76
      go_wp2_with fail
      refine (N.out _).mono ?_
      rintro e w1 ⟨rfl, rfl⟩
      go_wp2_with fail
      refine (D.out _).mono ?_
      rintro e w1 ⟨rfl, rfl⟩
      go_wp2_with fail
      go_ret
      exact ⟨rfl, fin⟩
  · have N := Lib.hid (spec_name s 12 hs false (decide_eq_false h1))
    rw [decide_eq_false (show ¬ rOk s f t from fun h => h1 h.1)]
    clear h1
    go_enter Tryz.func76, Tryz.ntmps76
    go_wp2_with fail
    refine (N.out _).mono ?_
    rintro e w1 ⟨rfl, rfl⟩
    go_wp2_with fail
    go_ret
    exact ⟨rfl, fin⟩

theorem ys_far (y : Int) (h1 : 1 ≤ y) (h2 : y ≤ 9000) : 0 ≤ Cal.ys false y ∧ Cal.ys false y ≤ 3300000 := by
  rw [Fea.ys_old]
  omega
set_option maxHeartbeats 400000 in
theorem spec_number_far (y m d : Int) (y1 : 1 ≤ y) (y2 : y ≤ 9000) (m1 : 1 ≤ m) (m2 : m ≤ 13) (d1 : -1000 ≤ d) (d2 : d ≤ 1000000) (w : World) :
    Calls Tryz.prog 110 #[.agg #[.int .i64 y, .int .i64 m, .int .i64 d], .bool false] w (It (Cal.num false y m d) w) := by
  have hh := Lib.hid (show 365 * (y - 1) + (y - 1) / 4 + d - 1 = Cal.ys false y + d - 1 + Cal.cum false y 1 by rw [Cal.cum_one]; simp [Cal.ys]; omega)
  have yb := ys_far y y1 y2
  go_enter Tryz.func110, Tryz.ntmps110
  go_wp2_with fail
  go_loop [6, 7] (fun s k => ∃ j : Int, 1 ≤ j ∧ j ≤ m ∧ k = .int .i64 j ∧ s = .int .i64 (Cal.ys false y + d - 1 + Cal.cum false y j)) (fun _ k => (m - intOf k).toNat)
  case atStart => exact ⟨1, by omega, by omega, rfl, by rw [hh.out]⟩
  case round =>
    obtain ⟨j, hj1, hj2, rfl, rfl⟩ := hrel
    have cb := Cal.cum_bd false y j hj1 (by omega)
    have ml := Cal.mlen_bd false y j
    have cs := Lib.hid (Cal.cum_succ false y j hj1)
    by_cases hlt : j < m
    · go_wp2_with (go_at_call 138; refine (spec_mlen false y j (by omega) _).mono ?_; rintro e w2 ⟨rfl, rfl⟩)
      go_round
      case rel => exact ⟨j + 1, by omega, by omega, rfl, by rw [cs.out]; go_num⟩
      case measure => simp [intOf]; omega
    · have hm := Lib.hid (show j = m by omega)
      go_wp2_with fail
      go_ret
      exact ⟨ret_int (by rw [hm.out]; unfold Cal.num; omega), (Below.refl _ _).alloc (Nat.le_refl _) _⟩

set_option maxRecDepth 10000 in
set_option maxHeartbeats 4000000 in
theorem spec_begin7 (s : ByteArray) (f t k x : Int) (f0 : 0 ≤ f) (f1 : f ≤ 730499) (k0 : 1 ≤ k) (k1 : k ≤ 4000) (hx : rb f k = x) (w : World) : Calls Tryz.prog 95 #[rV s f t, .int .i64 k] w (It x w) := by
  have O := Lib.hid (spec_oldOf f (by rw [Cal.ys_1]; simpa using f0) f1)
  have S0 := (St.start w).alloc 79 #[.string s, .int .i64 f, .int .i64 t]
  have HX := Lib.hid hx
  clear hx
  go_enter Tryz.func95, Tryz.ntmps95
  go_wp2_with fail
  refine (O.out _).mono ?_
  rintro e w1 ⟨y, m, d, rfl, hv, -, hn, hb⟩
  have hv' := hv (by rw [Cal.ys_2001]; simp; omega)
  have hd := rb_date hv' hn k
  rw [HX.out] at hd
  have dm := (Cal.mlen_bd false y m).2
  obtain ⟨y1, y2, m1, m2, d1, d2⟩ := hv'
  have hb1 := (S0.call hb).bel
  clear hv hn S0 hb O HX
  have hd31 : d ≤ 31 := by omega
  have d3 : m = 2 ∧ d = 29 → d ≤ 29 := by omega
  have d3 : m = 2 ∧ d = 29 → d ≤ 29 := by omega
  clear dm d2 d3
  have LE := Lib.hid (spec_leap false (y + k - 1) (by omega))
  by_cases hm : m = 2
  · subst hm
    by_cases hdd : d = 29
    · subst hdd
      by_cases hl : Cal.lp false (y + k - 1) = true
      · rw [if_neg (by rw [hl]; simp)] at hd
        rw [hl] at LE
        have NU := Lib.hid (spec_number_far (y + k - 1) 2 29 (by omega) (by omega) (by omega) (by omega) (by omega) (by omega))
        rw [hd] at NU
        clear hd hl
        go_wp2_with fail
        refine (LE.out _).mono ?_
        rintro e w2 ⟨rfl, rfl⟩
        go_wp2_with fail
        refine (NU.out _).mono ?_
        rintro e w3 ⟨rfl, hb3⟩
        have hbl := hb1.alloc hb1.size (.cells #[.int .i64 (y + k - 1), .int .i64 2, .int .i64 29] 113)
        go_wp2_with fail
        go_ret
        exact ⟨rfl, hbl.trans (hb3.mono hbl.size)⟩
      · have hl2 : Cal.lp false (y + k - 1) = false := by simpa using hl
        rw [if_pos ⟨rfl, rfl, hl2⟩] at hd
        rw [hl2] at LE
        have NU := Lib.hid (spec_number_far (y + k - 1) 3 1 (by omega) (by omega) (by omega) (by omega) (by omega) (by omega))
        rw [hd] at NU
        clear hd hl hl2
        go_wp2_with fail
        refine (LE.out _).mono ?_
        rintro e w2 ⟨rfl, rfl⟩
        go_wp2_with fail
        refine (NU.out _).mono ?_
        rintro e w3 ⟨rfl, hb3⟩
        have hbl := hb1.alloc hb1.size (.cells #[.int .i64 (y + k - 1), .int .i64 3, .int .i64 1] 113)
        go_wp2_with fail
        go_ret
        exact ⟨rfl, hbl.trans (hb3.mono hbl.size)⟩
    · rw [if_neg (fun h => hdd h.2.1)] at hd
      have hd29 : (d == 29) = false := by simpa using hdd
      have NU := Lib.hid (spec_number_far (y + k - 1) 2 d (by omega) (by omega) (by omega) (by omega) (by omega) (by omega))
      rw [hd] at NU
      clear hd hdd
      go_wp2_with fail
      refine (NU.out _).mono ?_
      rintro e w3 ⟨rfl, hb3⟩
      have hbl := hb1.alloc hb1.size (.cells #[.int .i64 (y + k - 1), .int .i64 2, .int .i64 d] 113)
      go_wp2_with fail
      go_ret
      exact ⟨rfl, hbl.trans (hb3.mono hbl.size)⟩
  · rw [if_neg (fun h => hm h.1)] at hd
    have hm2 : (m == 2) = false := by simpa using hm
    have NU := Lib.hid (spec_number_far (y + k - 1) m d (by omega) (by omega) (by omega) (by omega) (by omega) (by omega))
    rw [hd] at NU
    clear hd hm
    go_wp2_with fail
    refine (NU.out _).mono ?_
    rintro e w3 ⟨rfl, hb3⟩
    have hbl := hb1.alloc hb1.size (.cells #[.int .i64 (y + k - 1), .int .i64 m, .int .i64 d] 113)
    go_wp2_with fail
    go_ret
    exact ⟨rfl, hbl.trans (hb3.mono hbl.size)⟩

set_option maxRecDepth 100000 in
set_option maxHeartbeats 4000000 in
theorem spec_year7 (s : ByteArray) (f t n : Int) (f0 : 0 ≤ f) (f1 : f ≤ 730499) (n1 : n ≤ 730499) (hn : f ≤ n) (w : World) : Calls Tryz.prog 70 #[rV s f t, .int .i64 n] w (It (ry f n) w) := by
  have OF := Lib.hid (fun w => (spec_oldOf f (by rw [Cal.ys_1]; simpa using f0) f1 w).mono fun e w' k => Fea.SDate.year k f1)
  have ON := Lib.hid (fun w => (spec_oldOf n (by rw [Cal.ys_1]; simp; omega) n1 w).mono fun e w' k => Fea.SDate.year k n1)
  obtain ⟨yf0, yf1⟩ := yr_isY f f0 f1
  obtain ⟨yn0, yn1⟩ := yr_isY n (by omega) n1
  have hle := yr_le hn
  obtain ⟨r0, r1, r2⟩ := ry_bd hn
  obtain ⟨-, ri1, ri2⟩ := ry_is hn
  have B := Lib.hid (fun k h0 h1 => spec_begin7 s f t k _ f0 f1 h0 h1 rfl)
  have hk0 : Hid (∀ k : Int, k + 1 ≤ ry f n → rb f (k + 1) ≤ n) := Lib.hid fun k hk => by
    by_cases e : k + 1 = ry f n
    · rw [e]; exact ri1
    · have := rb_lt f (show k + 1 < ry f n by omega); omega
  have HE := Lib.hid ri2
  clear ri1 ri2
  generalize ry f n = r at *
  generalize yr f = yf at *
  generalize yr n = yn at *
  have S0 := (St.start w).alloc 79 #[.string s, .int .i64 f, .int .i64 t]
  have hff : ∀ (m d : Int) (w : World), (Instr.field 113 (.agg #[.int .i64 yf, .int .i64 m, .int .i64 d]) 0).run Tryz.prog w = .ok (.int .i64 yf) w := fun _ _ _ => by kernel_rfl
  have hfn : ∀ (m d : Int) (w : World), (Instr.field 113 (.agg #[.int .i64 yn, .int .i64 m, .int .i64 d]) 0).run Tryz.prog w = .ok (.int .i64 yn) w := fun _ _ _ => by kernel_rfl
  obtain ⟨k0, hk⟩ : ∃ k0, max 1 (yn - yf) = k0 := ⟨_, rfl⟩
  have hmx : (if 1 < yn - yf then yn - yf else 1) = k0 := by split <;> omega
  have hk1 : 1 ≤ k0 := by omega
  have hk2 : k0 ≤ r := by omega
  have hr : r ≤ 2000 := by omega
  have w1 : IntKind.i64.wrap (yn - yf) = yn - yf := IntWalk.i64_in _ ⟨by omega, by omega⟩
  clear hk r1 r2 hle
  go_enter Tryz.func70, Tryz.ntmps70
  go_wp2_with fail
  go_region_held3 (fun w' => w'.cell? ⟨w.heap.size, 0, none⟩ = some (.string s) ∧ w'.cell? ⟨w.heap.size, 1, none⟩ = some (.int .i64 f) ∧ w'.cell? ⟨w.heap.size, 2, none⟩ = some (.int .i64 t) ∧ St [(w.heap.size, 79, #[.string s, .int .i64 f, .int .i64 t])] w w')
    (first | with_reducible exact S0.dr7.rei | with_reducible exact SQ.rei | with_reducible exact SR.rei)
    (first
      | (go_at_call_of 94 (Value.int .i64 n); refine (ON.out _).mono ?_; rintro e wq ⟨m1, d1, rfl, hq⟩; have SQ := S0.dr7.call hq)
      | (go_at_call_of 94 (Value.int .i64 f); refine (OF.out _).mono ?_; rintro e wr ⟨m2, d2, rfl, hr⟩; have SR := SQ.call hr))
  clear ON OF hff hfn hmx w1
  go_wp2_with fail
  go_loopg [5] (r - k0).toNat (fun m v wx => ∃ K : Int, v = .int .i64 K ∧ m = (r - K).toNat ∧ 1 ≤ K ∧ K ≤ r ∧ St [(w.heap.size, 79, #[.string s, .int .i64 f, .int .i64 t])] w wx)
  case atStart => exact ⟨k0, rfl, rfl, hk1, hk2, SR⟩
  case round =>
    clear SR SQ
    obtain ⟨K, rfl, hm, hK1, hK2, SW⟩ := hrel
    subst hm
    obtain ⟨c0, c1, c2, -⟩ := SW.rei
    have BK := Lib.hid (B.out (K + 1) (by omega) (by omega))
    by_cases hlt : K + 1 ≤ r
    · have hx := hk0.out K hlt
      generalize rb f (K + 1) = x at BK hx
      go_wp2_with fail
      refine (BK.out _).mono ?_
      rintro e w2 ⟨rfl, hb2⟩
      have SX := SW.call hb2
      go_wp2_with fail
      go_roundg (r - (K + 1)).toNat
      case measure => omega
      case rel => exact ⟨K + 1, by go_num, rfl, by omega, hlt, SX⟩
    · have e : K = r := by omega
      have hx : n < rb f (K + 1) := by rw [e]; exact HE.out
      have HR := Lib.hid e
      generalize rb f (K + 1) = x at BK hx
      clear e
      go_wp2_with fail
      refine (BK.out _).mono ?_
      rintro e w2 ⟨rfl, hb2⟩
      have SX := SW.call hb2
      go_wp2_with fail
      go_ret
      exact ⟨ret_int HR.out, SX.bel⟩

/-- What RegnalYear and CountYears answer. -/
def ryN (s : ByteArray) (f t n : Int) : Int := if rOk s f t ∧ (0 ≤ n ∧ n ≤ 730499) ∧ f ≤ n ∧ n ≤ t then ry f n else 0
def ryE (s : ByteArray) (f t n : Int) : Int := if ¬ rOk s f t then 1 else if ¬ (0 ≤ n ∧ n ≤ 730499) then 2 else if f ≤ n ∧ n ≤ t then 0 else 4
def cyN (s : ByteArray) (f t : Int) : Int := if rOk s f t then ry f t else 0
def cyE (s : ByteArray) (f t : Int) : Int := if rOk s f t then 0 else 1

end Go.Proofs.YtfhcakpmlppbkaaGreatDoor.Rei
