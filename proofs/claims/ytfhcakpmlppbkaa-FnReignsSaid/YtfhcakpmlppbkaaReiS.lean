/- Packs: what both programs answer about a reign, with what is true of it, hidden. -/
import Derived.Test.YtfhcakpmlppbkaaReiIf
import Derived.Test.YtfhcakpmlppbkaaReiR
import Derived.Laws.StructEq
namespace Go.Proofs.Ytfhcakpmlppbkaa.Rei
open Go.RowKit
open Go.Proofs.Ytfhcakpmlppbkaa.Fea (yr yr_isY)

theorem ry_le {s : ByteArray} {f t n : Int} (h : rOk s f t) (h1 : f ≤ n) (h2 : n ≤ t) : ry f n ≤ 2000 := by
  obtain ⟨-, ⟨f0, f1⟩, ⟨t0, t1⟩, -⟩ := h
  have a := (ry_bd h1).2.2
  have b := yr_isY f f0 f1
  have c := yr_isY n (by omega) (by omega)
  unfold Eas.isY at b c
  omega
/-- The year of a day of a reign, and its span. -/
theorem ry_pack (s : ByteArray) (hs : s.size ≤ maxLen) (f t n : Int) : ∃ K E : Int, Hid (∀ wx : World, Calls Try.prog 14 #[rV s f t, .int .i64 n] wx (Two K E wx)) ∧ Hid (∀ wx : World, Calls Try.prog 15 #[rV s f t, .int .i64 n] wx (Two K E wx)) ∧
    Hid ((E == 0) = false ∨ (E = 0 ∧ ∃ F T : Int, Hid (∀ wx : World, Calls Try.prog 17 #[rV s f t, .int .i64 K] wx (SpO F T 0 wx)) ∧ F ≤ n ∧ n ≤ T)) := by
  refine ⟨_, _, Lib.hid fun wx => impl_RegnalYear s hs f t n wx, Lib.hid fun wx => spec_RegnalYear s hs f t n wx, Lib.hid ?_⟩
  by_cases ho : rOk s f t
  · by_cases hd : 0 ≤ n ∧ n ≤ 730499
    · by_cases hin : f ≤ n ∧ n ≤ t
      · have eE : ryE s f t n = 0 := (if_neg (fun k => k ho)).trans ((if_neg (fun k => k hd)).trans (if_pos hin))
        have eN : ryN s f t n = ry f n := if_pos ⟨ho, hd, hin⟩
        rw [eE, eN]
        obtain ⟨a, b, c⟩ := ry_is hin.1
        have hle := ry_le ho hin.1 hin.2
        have hok : rsOk s f t (ry f n) := ⟨ho, a, hle, by omega⟩
        refine .inr ⟨rfl, rb f (ry f n), min t (rb f (ry f n + 1) - 1), Lib.hid fun wx => ?_, b, by omega⟩
        have q := impl_RegnalSpan s hs f t (ry f n) (by omega) wx
        rwa [show rsF s f t (ry f n) = rb f (ry f n) from if_pos hok, show rsT s f t (ry f n) = min t (rb f (ry f n + 1) - 1) from if_pos hok,
          show rsE s f t (ry f n) = 0 from (if_neg (fun k => k ho)).trans ((if_neg (by omega)).trans (if_pos ⟨hle, hok.2.2.2⟩))] at q
      · rw [show ryE s f t n = 4 from (if_neg (fun k => k ho)).trans ((if_neg (fun k => k hd)).trans (if_neg hin))]
        exact .inl rfl
    · rw [show ryE s f t n = 2 from (if_neg (fun k => k ho)).trans (if_pos hd)]
      exact .inl rfl
  · rw [show ryE s f t n = 1 from if_pos ho]
    exact .inl rfl
/-- The span of a year of a reign, how many there are, and the next one. -/
theorem rs_pack (s : ByteArray) (hs : s.size ≤ maxLen) (f t k : Int) (k9 : k ≤ 9223372036854775807) : ∃ F T E C D : Int,
    Hid (∀ wx : World, Calls Try.prog 17 #[rV s f t, .int .i64 k] wx (SpO F T E wx)) ∧ Hid (∀ wx : World, Calls Try.prog 18 #[rV s f t, .int .i64 k] wx (SpO F T E wx)) ∧
    Hid (∀ wx : World, Calls Try.prog 19 #[rV s f t] wx (Two C D wx)) ∧ Hid (∀ wx : World, Calls Try.prog 20 #[rV s f t] wx (Two C D wx)) ∧
    Hid ((E == 0) = false ∨ (E = 0 ∧ 0 ≤ T ∧ T ≤ 730499 ∧ ((k = 1 ∧ F = f) ∨ (k == 1) = false) ∧
      ((k < C ∧ (k == C) = false ∧ ∃ T2 : Int, Hid (∀ wx : World, Calls Try.prog 17 #[rV s f t, .int .i64 (k + 1)] wx (SpO (T + 1) T2 0 wx))) ∨
       (k = C ∧ T = t ∧ ∃ F2 T2 E2 : Int, (E2 == 0) = false ∧ Hid (∀ wx : World, Calls Try.prog 17 #[rV s f t, .int .i64 (k + 1)] wx (SpO F2 T2 E2 wx)))))) := by
  refine ⟨_, _, _, _, _, Lib.hid fun wx => impl_RegnalSpan s hs f t k k9 wx, Lib.hid fun wx => spec_RegnalSpan s hs f t k wx, Lib.hid fun wx => impl_CountYears s hs f t wx, Lib.hid fun wx => spec_CountYears s hs f t wx, Lib.hid ?_⟩
  have hE : rsE s f t k = 0 ↔ rsOk s f t k := by
    unfold rsE rsOk
    constructor
    · intro h
      split at h
      · omega
      · rename_i ho
        split at h
        · omega
        · split at h
          · rename_i h1 h2
            exact ⟨Classical.not_not.1 ho, by omega, h2.1, h2.2⟩
          · omega
    · rintro ⟨h0, h1, h2, h3⟩
      rw [if_neg (fun k => k h0), if_neg (by omega), if_pos ⟨h2, h3⟩]
  by_cases hok : rsOk s f t k
  · have e0 := hE.2 hok
    obtain ⟨ho, k1, k2, k3⟩ := hok
    have hft := ho.2.2.2
    obtain ⟨c1, c2, c3⟩ := ry_is hft
    have cle := ry_le ho hft (Int.le_refl t)
    have hkc : k ≤ ry f t := by
      rcases Int.lt_or_le (ry f t) k with h | h
      · exfalso
        by_cases e : ry f t + 1 = k
        · rw [e] at c3; omega
        · have := rb_lt f (show ry f t + 1 < k by omega); omega
      · exact h
    have hok : rsOk s f t k := ⟨ho, k1, k2, k3⟩
    have g := rb_gap f k
    have hf0 := ho.2.1
    have ht0 := ho.2.2.1
    have hfk : f ≤ rb f k := by
      by_cases e : k = 1
      · rw [e, rb_one]; omega
      · have := rb_lt f (show 1 < k by omega); rw [rb_one] at this; omega
    rw [e0, show rsF s f t k = rb f k from if_pos hok, show rsT s f t k = min t (rb f (k + 1) - 1) from if_pos hok, show cyN s f t = ry f t from if_pos ho]
    refine .inr ⟨rfl, by omega, by omega, ?_, ?_⟩
    · by_cases e : k = 1
      · exact .inl ⟨e, by rw [e, rb_one]⟩
      · exact .inr (by simpa using e)
    · by_cases hlt : k < ry f t
      · have hnx : rb f (k + 1) ≤ t := by
          by_cases e : k + 1 = ry f t
          · rw [e]; exact c2
          · have := rb_lt f (show k + 1 < ry f t by omega); omega
        have hok2 : rsOk s f t (k + 1) := ⟨ho, by omega, by omega, hnx⟩
        refine .inl ⟨hlt, by simp; omega, min t (rb f (k + 1 + 1) - 1), Lib.hid fun wx => ?_⟩
        have q := impl_RegnalSpan s hs f t (k + 1) (by omega) wx
        rw [show rsF s f t (k + 1) = rb f (k + 1) from if_pos hok2, show rsT s f t (k + 1) = min t (rb f (k + 1 + 1) - 1) from if_pos hok2,
          show rsE s f t (k + 1) = 0 from (if_neg (fun k => k ho)).trans ((if_neg (by omega)).trans (if_pos ⟨by omega, hnx⟩))] at q
        rwa [show min t (rb f (k + 1) - 1) + 1 = rb f (k + 1) by omega]
      · have e : k = ry f t := by omega
        rw [← e] at c3
        refine .inr ⟨e, by omega, _, _, _, ?_, Lib.hid fun wx => impl_RegnalSpan s hs f t (k + 1) (by omega) wx⟩
        have hno : ¬ (k + 1 ≤ 2000 ∧ rb f (k + 1) ≤ t) := by omega
        rw [show rsE s f t (k + 1) = 4 from (if_neg (fun k => k ho)).trans ((if_neg (by omega)).trans (if_neg hno))]
        rfl
  · refine .inl ?_
    have : rsE s f t k ≠ 0 := fun h => hok (hE.1 h)
    simpa using this

theorem neq_span7 (f t : Int) (w : World) : (binOp .neq 31 (.agg #[.int .i64 f, .int .i64 t]) (.agg #[.int .i64 f, .int .i64 t])).run Try.prog w = .ok (.bool false) w := by
  have hS : Try.prog.underlying 31 = some (.struct (Try.prog.fieldsOf 31)) := by kernel_rfl
  have hp : Try.prog.stoodInHeld 31 = false := by kernel_rfl
  rw [run_neq_struct, show (10000 : Nat) = 9999 + 1 from rfl, run_equalIn_agg w 9999 31 _ _ hS hp]
  simp only [Program.fieldsOf, Try.underlying31]
  go_simp
  try simp

end Go.Proofs.Ytfhcakpmlppbkaa.Rei
