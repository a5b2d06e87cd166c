/- Contracts of impl's calendars of places: whether one is valid, which of the two kinds it is, the number of a date. -/
import Derived.Test.YtkmkfpglnmpnmaaDaysE
import Derived.Test.YtkmkfpglnmpnmaaLoc
import Derived.Deep.RegionWith
import Derived.Handy
namespace Go.Proofs.Ytkmkfpglnmpnmaa.Plc
open Go.RowKit

def icB (R : Int) : Bool := decide (Loc.isCal R)
def dB (y m d : Int) : Bool := decide (Loc.isD y m d)
theorem dB_eq (y m d : Int) : (vb false y m d || vb true y m d) = dB y m d := by
  by_cases h1 : Cal.valid false y m d <;> by_cases h2 : Cal.valid true y m d <;> simp [vb, dB, Loc.isD, h1, h2]
theorem ret_b2 {a b : Bool} (h : a = b) : Ending.returned (.bool a) = .returned (.bool b) := by rw [h]

set_option maxHeartbeats 400000 in
theorem impl_isCal (R : Int) (w : World) : Calls Try.prog 43 #[.agg #[.int .i64 R]] w (Bl (icB R) w) := by
  by_cases h1 : 200000 ≤ R
  · by_cases h2 : R ≤ 730486
    · have e := Lib.hid (show icB R = true from decide_eq_true (Or.inl ⟨h1, h2⟩))
      go_enter Try.func43, Try.ntmps43
      go_wp2_with fail
      go_ret
      exact ⟨ret_bool e.out.symm, (Below.refl _ _).alloc (Nat.le_refl _) _⟩
    · have e := Lib.hid (show decide (R = 730500) = icB R by simp only [icB, Loc.isCal]; congr 1; apply propext; omega)
      go_enter Try.func43, Try.ntmps43
      go_wp2_with fail
      go_ret
      exact ⟨ret_bool (by rw [← e.out]; rfl), (Below.refl _ _).alloc (Nat.le_refl _) _⟩
  · have e := Lib.hid (show icB R = false from decide_eq_false (by unfold Loc.isCal; omega))
    have hne : (R == 730500) = false := by simp; omega
    go_enter Try.func43, Try.ntmps43
    go_wp2_with fail
    go_ret
    exact ⟨ret_bool e.out.symm, (Below.refl _ _).alloc (Nat.le_refl _) _⟩

set_option maxHeartbeats 400000 in
theorem impl_isValid (y m d : Int) (w : World) :
    Calls Try.prog 88 #[.agg #[.int .i64 y, .int .i64 m, .int .i64 d]] w (Bl (dB y m d) w) := by
  rw [← dB_eq]
  by_cases h : vb false y m d = true
  · go_enter Try.func88, Try.ntmps88
    go_wp2_with fail
    refine (impl_isIn false y m d _).mono ?_
    rintro e w1 ⟨rfl, hb⟩
    go_wp2_with fail
    go_ret
    exact ⟨by simp [h], ((Below.refl _ _).alloc (Nat.le_refl _) _).trans (hb.mono (by simp))⟩
  · have h' : vb false y m d = false := by simpa using h
    clear h
    go_enter Try.func88, Try.ntmps88
    go_wp2_with fail
    refine (impl_isIn false y m d _).mono ?_
    rintro e w1 ⟨rfl, hb⟩
    have q1 := (Blk.new w _ _).below hb (by simp; try omega)
    obtain ⟨c0, c1, c2⟩ := q1.three
    go_wp2_with fail
    refine (impl_isIn true y m d _).mono ?_
    rintro e w2 ⟨rfl, hb2⟩
    go_wp2_with fail
    go_ret
    have zz := hb.size
    simp at zz
    exact ⟨by simp [h'], (((Below.refl _ _).alloc (Nat.le_refl _) _).trans (hb.mono (by simp))).trans (hb2.mono (by omega))⟩

set_option maxHeartbeats 400000 in
theorem impl_local_old (w : World) : Calls Try.prog 85 #[.agg #[.int .i64 730500]] w fun e w' => e = .returned (.iface 106 (.agg #[])) ∧ Below w.heap.size w w' := by
  go_enter Try.func85, Try.ntmps85
  go_wp2_with fail
  go_ret
  exact ⟨rfl, (Below.refl _ _).alloc (Nat.le_refl _) _⟩

set_option maxHeartbeats 400000 in
theorem impl_local_new (R : Int) (h : R ≠ 730500) (w : World) : Calls Try.prog 85 #[.agg #[.int .i64 R]] w fun e w' => e = .returned (.iface 90 (.agg #[.int .i64 R])) ∧ Below w.heap.size w w' := by
  have hne : (R == 730500) = false := by simpa using h
  clear h
  go_enter Try.func85, Try.ntmps85
  go_wp2_with fail
  go_ret
  exact ⟨rfl, (Below.refl _ _).alloc (Nat.le_refl _) _⟩

set_option maxHeartbeats 400000 in
theorem impl_unref_number (y m d : Int) (w : World) :
    Calls Try.prog 129 #[.agg #[], .agg #[.int .i64 y, .int .i64 m, .int .i64 d]] w (Two (dayNum false y m d) (dayErr false y m d) w) := by
  go_enter Try.func129, Try.ntmps129
  go_wp2_with fail
  refine (impl_dayOf false y m d _).mono ?_
  rintro e w1 ⟨rfl, hb⟩
  go_wp2_with fail
  go_ret2
  exact ⟨rfl, (((Below.refl _ _).alloc (Nat.le_refl _) _).alloc (by simp) _).trans (hb.mono (by simp; omega))⟩

/-- A date's number is local to a place that changed on the day R. -/
def lOk (R y m d : Int) : Int := if Loc.isL R y m d then 0 else 4

set_option maxHeartbeats 1000000 in
theorem impl_ref_number (R y m d : Int) (w : World) :
    Calls Try.prog 126 #[.agg #[.int .i64 R], .agg #[.int .i64 y, .int .i64 m, .int .i64 d]] w (Two (Loc.lnum R y m d) (lOk R y m d) w) := by
  have P : ∀ a b : Int, dayNum false y m d = a → dayErr false y m d = b → ∀ a' b' : Int, dayNum true y m d = a' → dayErr true y m d = b' →
      (b = 0 ∧ a < R ∧ a = Loc.lnum R y m d ∧ lOk R y m d = 0) ∨ ((b ≠ 0 ∨ (b = 0 ∧ R ≤ a)) ∧ ((b' = 0 ∧ R ≤ a' ∧ a' = Loc.lnum R y m d ∧ lOk R y m d = 0) ∨ ((b' ≠ 0 ∨ (b' = 0 ∧ a' < R)) ∧ Loc.lnum R y m d = 0 ∧ lOk R y m d = 4))) := by
    rintro a b rfl rfl a' b' rfl rfl
    unfold lOk Loc.isL Loc.lnum dayErr dayNum
    by_cases hf : Cal.valid false y m d <;> by_cases ht : Cal.valid true y m d <;> simp [hf, ht] <;> (try split) <;> (try split) <;> omega
  obtain ⟨a, ha⟩ : ∃ a, dayNum false y m d = a := ⟨_, rfl⟩
  obtain ⟨b, hb⟩ : ∃ b, dayErr false y m d = b := ⟨_, rfl⟩
  obtain ⟨a', ha'⟩ : ∃ a, dayNum true y m d = a := ⟨_, rfl⟩
  obtain ⟨b', hb'⟩ : ∃ b, dayErr true y m d = b := ⟨_, rfl⟩
  have HE := Lib.hid (P a b ha hb a' b' ha' hb')
  clear P
  have CF := Lib.hid (impl_dayOf false y m d)
  have CT := Lib.hid (impl_dayOf true y m d)
  rw [ha, hb] at CF
  rw [ha', hb'] at CT
  clear ha hb ha' hb'
  generalize Loc.lnum R y m d = N at HE ⊢
  generalize lOk R y m d = C at HE ⊢
  go_enter Try.func126, Try.ntmps126
  go_wp2_with fail
  refine (CF.out _).mono ?_
  rintro e w1 ⟨rfl, hb⟩
  have q0 := ((Blk.new w _ _).alloc (.cells #[.int .i64 y, .int .i64 m, .int .i64 d] 25)).below hb (by simp; try omega)
  have q1 := (Blk.new (w.alloc (.cells #[.int .i64 R] 90)) 25 #[.int .i64 y, .int .i64 m, .int .i64 d]).below hb (by simp; try omega)
  have bel := (((Below.refl w.heap.size w).alloc (Nat.le_refl _) (.cells #[.int .i64 R] 90)).alloc (by simp) (.cells #[.int .i64 y, .int .i64 m, .int .i64 d] 25)).trans (hb.mono (by simp; omega))
  simp only [World.size_alloc] at q1
  have c0 := q0.cell 0
  simp at c0
  obtain ⟨d0, d1, d2⟩ := q1.three
  rcases HE.out with ⟨rfl, e2, rfl, rfl⟩ | ⟨e0, e1⟩
  · go_wp2_with fail
    go_ret2
    exact ⟨rfl, bel⟩
  · clear HE
    have HE := Lib.hid e1
    clear e1
    rcases e0 with e0 | ⟨rfl, e0⟩
    all_goals
      go_wp2_with fail
      refine (CT.out _).mono ?_
      rintro e w2 ⟨rfl, hb2⟩
      have p0 := q0.below hb2 q0.lt
      have bel2 := bel.trans (hb2.mono bel.size)
      clear c0 d0 d1 d2
      have c0 := p0.cell 0
      simp at c0
      rcases HE.out with ⟨rfl, e4, rfl, rfl⟩ | ⟨e3, rfl, rfl⟩
      · go_wp2_with fail
        go_ret2
        exact ⟨rfl, bel2⟩
      · rcases e3 with e3 | ⟨rfl, e3⟩
        all_goals
          go_wp2_with fail
          go_ret2
          exact ⟨rfl, bel2⟩

end Go.Proofs.Ytkmkfpglnmpnmaa.Plc
