/- Contracts of impl's marks as keys: the numbers that a mark tells, what a mark is as a map's key. -/
import Derived.Test.YtfienklaafialaaIndIa
import Derived.Test.YtfienklaafialaaEnt
import Derived.Test.YtfienklaafialaaIntR
namespace Go.Proofs.Ytfienklaafialaa.Ind
open Go.RowKit
open Go.Proofs.Ytfienklaafialaa.Eas (isY It)

/-- A year's mark with as much as another one tells. -/
def tl (a x : Int) : Int := if a = 0 then 0 else x
def tlE (e x : Int) : Int := if e = -1 then -1 else x
theorem told_iff {a e c : Int} (h : mkOk a e c) (y : Int) : (tl a (ind y) = a ∧ tlE e (ep y) = e ∧ tl c (con y) = c) ↔ fits a e c y := by
  obtain ⟨h1, h2, h3⟩ := h
  have i := ind_bd y
  have p := ep_bd y
  have q := con_bd y
  unfold tl tlE fits
  constructor
  · rintro ⟨x1, x2, x3⟩
    refine ⟨?_, ?_, ?_⟩
    · split at x1 <;> omega
    · split at x2 <;> omega
    · split at x3 <;> omega
  · rintro ⟨x1, x2, x3⟩
    refine ⟨?_, ?_, ?_⟩
    · split <;> omega
    · split <;> omega
    · split <;> omega

theorem three_new (w : World) (o1 o2 o3 : Obj) : Below w.heap.size w (((w.alloc o1).alloc o2).alloc o3) :=
  (((Below.refl w.heap.size w).alloc (Nat.le_refl _) _).alloc (by simp) _).alloc (by simp; omega) _
set_option maxHeartbeats 1000000 in
theorem impl_told (i p q a e c : Int) (w : World) : Calls Try.prog 94 #[mV i p q, mV a e c] w fun x w' => x = .returned (mV (tl a i) (tlE e p) (tl c q)) ∧ Below w.heap.size w w' := by
  unfold mV
  by_cases h0 : a = 0
  · have r0 : tl a i = 0 := if_pos h0
    rw [r0]
    subst h0
    by_cases h1 : e = -1
    · have r1 : tlE e p = (-1) := if_pos h1
      rw [r1]
      subst h1
      by_cases h2 : c = 0
      · have r2 : tl c q = 0 := if_pos h2
        rw [r2]
        subst h2
        go_enter Try.func94, Try.ntmps94
        go_wp2
        refine bodyPost_ret (v := .agg #[.int .i64 0, .int .i64 (-1), .int .i64 0]) (by simp [results, Try.results94, go_sem]) rfl ⟨rfl, three_new w _ _ _⟩
      · have r2 : tl c q = q := if_neg h2
        rw [r2]
        have d2 : (c == 0) = false := by simpa using h2
        clear h2 r2
        go_enter Try.func94, Try.ntmps94
        go_wp2
        refine bodyPost_ret (v := .agg #[.int .i64 0, .int .i64 (-1), .int .i64 q]) (by simp [results, Try.results94, go_sem]) rfl ⟨rfl, three_new w _ _ _⟩
    · have r1 : tlE e p = p := if_neg h1
      rw [r1]
      have d1 : (e == (-1)) = false := by simpa using h1
      clear h1 r1
      by_cases h2 : c = 0
      · have r2 : tl c q = 0 := if_pos h2
        rw [r2]
        subst h2
        go_enter Try.func94, Try.ntmps94
        go_wp2
        refine bodyPost_ret (v := .agg #[.int .i64 0, .int .i64 p, .int .i64 0]) (by simp [results, Try.results94, go_sem]) rfl ⟨rfl, three_new w _ _ _⟩
      · have r2 : tl c q = q := if_neg h2
        rw [r2]
        have d2 : (c == 0) = false := by simpa using h2
        clear h2 r2
        go_enter Try.func94, Try.ntmps94
        go_wp2
        refine bodyPost_ret (v := .agg #[.int .i64 0, .int .i64 p, .int .i64 q]) (by simp [results, Try.results94, go_sem]) rfl ⟨rfl, three_new w _ _ _⟩
  · have r0 : tl a i = i := if_neg h0
    rw [r0]
    have d0 : (a == 0) = false := by simpa using h0
    clear h0 r0
    by_cases h1 : e = -1
    · have r1 : tlE e p = (-1) := if_pos h1
      rw [r1]
      subst h1
      by_cases h2 : c = 0
      · have r2 : tl c q = 0 := if_pos h2
        rw [r2]
        subst h2
        go_enter Try.func94, Try.ntmps94
        go_wp2
        refine bodyPost_ret (v := .agg #[.int .i64 i, .int .i64 (-1), .int .i64 0]) (by simp [results, Try.results94, go_sem]) rfl ⟨rfl, three_new w _ _ _⟩
      · have r2 : tl c q = q := if_neg h2
        rw [r2]
        have d2 : (c == 0) = false := by simpa using h2
        clear h2 r2
        go_enter Try.func94, Try.ntmps94
        go_wp2
        refine bodyPost_ret (v := .agg #[.int .i64 i, .int .i64 (-1), .int .i64 q]) (by simp [results, Try.results94, go_sem]) rfl ⟨rfl, three_new w _ _ _⟩
    · have r1 : tlE e p = p := if_neg h1
      rw [r1]
      have d1 : (e == (-1)) = false := by simpa using h1
      clear h1 r1
      by_cases h2 : c = 0
      · have r2 : tl c q = 0 := if_pos h2
        rw [r2]
        subst h2
        go_enter Try.func94, Try.ntmps94
        go_wp2
        refine bodyPost_ret (v := .agg #[.int .i64 i, .int .i64 p, .int .i64 0]) (by simp [results, Try.results94, go_sem]) rfl ⟨rfl, three_new w _ _ _⟩
      · have r2 : tl c q = q := if_neg h2
        rw [r2]
        have d2 : (c == 0) = false := by simpa using h2
        clear h2 r2
        go_enter Try.func94, Try.ntmps94
        go_wp2
        refine bodyPost_ret (v := .agg #[.int .i64 i, .int .i64 p, .int .i64 q]) (by simp [results, Try.results94, go_sem]) rfl ⟨rfl, three_new w _ _ _⟩

theorem laidOutP : laidOutB Try.prog = true := by kernel_rfl
set_option maxRecDepth 100000 in
theorem keyRow : (42 : TypeId) < Try.prog.types.size := of_decide_eq_true (by kernel_rfl)
theorem keyed : Maps.Keyed Try.prog 42 := .of_law (deep_law_laid laidOutP (m := 2) (by omega) keyRow (by kernel_rfl) (by kernel_rfl))
theorem keyCells : Try.prog.cellsOf 42 = 3 := by kernel_rfl
theorem keyType : Try.prog.keyType 42 = true := by kernel_rfl
theorem key_mk {a e c : Int} (ha : (Lit.int .i64 a).wf = true) (he : (Lit.int .i64 e).wf = true) (hc : (Lit.int .i64 c).wf = true) : ∃ kl, keyOf Try.prog 42 (mV a e c) = some kl := by
  obtain ⟨m, hm⟩ : ∃ m, Try.prog.types.size = m + 1 := Nat.exists_eq_succ_of_ne_zero (Nat.ne_of_gt (Nat.lt_of_le_of_lt (Nat.zero_le _) keyRow))
  have hf : (mV a e c).formed Try.prog 42 = true := by
    unfold mV
    simp [Value.formed, Try.underlying42, keyCells]
  have i1 : Try.prog.cellsOf 2 = 1 := by kernel_rfl
  unfold keyOf
  rw [hm]
  unfold mV at hf ⊢
  simp [Try.underlying42, keyType, hf, Program.keyLits, keyCells, Try.underlying2, i1, ha, he, hc, Value.cells]
theorem key_ne {a e c a' e' c' : Int} {kl kl' : Lit} (h : keyOf Try.prog 42 (mV a e c) = some kl) (h' : keyOf Try.prog 42 (mV a' e' c') = some kl') (hn : ¬ (a' = a ∧ e' = e ∧ c' = c)) : kl ≠ kl' := by
  intro e1
  subst e1
  have := keyed.inj h' h
  unfold mV at this
  simp at this
  exact hn this

end Go.Proofs.Ytfienklaafialaa.Ind
