/- The contract of impl's SameDay. -/
import Derived.Test.YtkmkfpglnmpnmaaPlcSnn
import Derived.Test.YtkmkfpglnmpnmaaPlcSno
import Derived.Test.YtkmkfpglnmpnmaaPlcSon
import Derived.Test.YtkmkfpglnmpnmaaPlcSoo
namespace Go.Proofs.Ytkmkfpglnmpnmaa.Plc
open Go.RowKit

theorem impl_SameDay (R y m d R' y' m' d' : Int) (w : World) :
    Calls Try.prog 52 #[.agg #[.int .i64 R], .agg #[.int .i64 y, .int .i64 m, .int .i64 d], .agg #[.int .i64 R'], .agg #[.int .i64 y', .int .i64 m', .int .i64 d']] w (IB (Loc.sB R y m d R' y' m' d') (Loc.sErr R y m d R' y' m' d') w) := by
  have no : ∀ (_ : ¬ (Loc.isCal R ∧ Loc.isD y m d ∧ Loc.isCal R' ∧ Loc.isD y' m' d')) (e : Ending) (w' : World), IB false 1 w e w' → IB (Loc.sB R y m d R' y' m' d') (Loc.sErr R y m d R' y' m' d') w e w' := by
    intro h e w' k
    refine ib_eq k ?_ ?_
    · exact (decide_eq_false (fun k => h ⟨k.1, k.2.1, k.2.2.1, k.2.2.2.1⟩)).symm
    · unfold Loc.sErr
      rw [if_neg h]
  have hf : ∀ {b : Bool}, ¬ b = true → b = false := fun h => by simpa using h
  by_cases hc : icB R = true
  · by_cases hv : dB y m d = true
    · by_cases hc' : icB R' = true
      · by_cases hv' : dB y' m' d' = true
        · have h : Loc.isCal R ∧ Loc.isD y m d ∧ Loc.isCal R' ∧ Loc.isD y' m' d' := ⟨of_decide_eq_true hc, of_decide_eq_true hv, of_decide_eq_true hc', of_decide_eq_true hv'⟩
          have e1 : sbv (lOk R y m d) (lOk R' y' m' d') (Loc.lnum R y m d) (Loc.lnum R' y' m' d') = Loc.sB R y m d R' y' m' d' := by
            unfold sbv lOk Loc.sB
            by_cases a : Loc.isL R y m d <;> by_cases b : Loc.isL R' y' m' d' <;> simp [a, b, h.1, h.2.1, h.2.2.1, h.2.2.2]
          have e2 : scv (lOk R y m d) (lOk R' y' m' d') = Loc.sErr R y m d R' y' m' d' := by
            unfold scv lOk Loc.sErr
            rw [if_pos h]
            by_cases a : Loc.isL R y m d <;> by_cases b : Loc.isL R' y' m' d' <;> simp [a, b]
          by_cases hR : R = 730500
          · subst hR
            by_cases hR' : R' = 730500
            · subst hR'
              exact (impl_SameDay_old_old y m d y' m' d' hc hv hc' hv' w).mono fun e w' k => ib_eq k e1 e2
            · exact (impl_SameDay_old_new R' hR' y m d y' m' d' hc hv hc' hv' w).mono fun e w' k => ib_eq k e1 e2
          · by_cases hR' : R' = 730500
            · subst hR'
              exact (impl_SameDay_new_old R hR y m d y' m' d' hc hv hc' hv' w).mono fun e w' k => ib_eq k e1 e2
            · exact (impl_SameDay_new_new R hR R' hR' y m d y' m' d' hc hv hc' hv' w).mono fun e w' k => ib_eq k e1 e2
        · exact (impl_SameDay_no3 R y m d R' y' m' d' hc hv hc' (hf hv') w).mono (no fun h => hv' (decide_eq_true h.2.2.2))
      · exact (impl_SameDay_no2 R y m d R' y' m' d' hc hv (hf hc') w).mono (no fun h => hc' (decide_eq_true h.2.2.1))
    · exact (impl_SameDay_no1 R y m d R' y' m' d' hc (hf hv) w).mono (no fun h => hv (decide_eq_true h.2.1))
  · exact (impl_SameDay_no0 R y m d R' y' m' d' (hf hc) w).mono (no fun h => hc (decide_eq_true h.1))

end Go.Proofs.Ytkmkfpglnmpnmaa.Plc
