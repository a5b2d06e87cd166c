/- The mathematics of impl's disputed days: each reign against the one of those before it that ends last. -/
import Derived.Test.YtfhcakpmlppbkaaReiG
namespace Go.Proofs.Ytfhcakpmlppbkaa.Rei
open Go.Proofs.Ytfhcakpmlppbkaa.Sets (ok make has nf_unique make_nf make_has has_append)

/-- The last day of the reigns below k. -/
def mx (xs : LR) : Nat → Int
  | 0 => -1
  | k + 1 => if h : k < xs.length then (if mx xs k < xs[k].2.2 then xs[k].2.2 else mx xs k) else mx xs k
/-- The disputed spans of the reigns below k. -/
def dp (xs : LR) : Nat → Sets.L
  | 0 => []
  | k + 1 => dp xs k ++ (if h : k < xs.length then (if xs[k].2.1 ≤ mx xs k then [(xs[k].2.1, if mx xs k < xs[k].2.2 then mx xs k else xs[k].2.2)] else []) else [])
theorem mx_succ {xs : LR} {k : Nat} (h : k < xs.length) : mx xs (k + 1) = if mx xs k < xs[k].2.2 then xs[k].2.2 else mx xs k := by rw [mx, dif_pos h]
theorem dp_yes {xs : LR} {k : Nat} (h : k < xs.length) (hl : xs[k].2.1 ≤ mx xs k) : dp xs k ++ [(xs[k].2.1, if mx xs k < xs[k].2.2 then mx xs k else xs[k].2.2)] = dp xs (k + 1) := by rw [dp, dif_pos h, if_pos hl]
theorem dp_no {xs : LR} {k : Nat} (h : k < xs.length) (hl : ¬ xs[k].2.1 ≤ mx xs k) : dp xs k = dp xs (k + 1) := by rw [dp, dif_pos h, if_neg hl, List.append_nil]
theorem mx_ge {xs : LR} {j k : Nat} (hj : j < xs.length) (h : j < k) : xs[j].2.2 ≤ mx xs k := by
  induction k with
  | zero => omega
  | succ k ih =>
    rw [mx]
    by_cases e : j = k
    · subst e
      rw [dif_pos hj]
      split <;> omega
    · have := ih (by omega)
      split
      · split <;> omega
      · exact this
theorem mx_is {xs : LR} (k : Nat) : mx xs k = -1 ∨ ∃ j, j < k ∧ ∃ hj : j < xs.length, xs[j].2.2 = mx xs k := by
  induction k with
  | zero => exact .inl rfl
  | succ k ih =>
    rw [mx]
    by_cases hk : k < xs.length
    · rw [dif_pos hk]
      by_cases h : mx xs k < xs[k].2.2
      · rw [if_pos h]
        exact .inr ⟨k, by omega, hk, rfl⟩
      · rw [if_neg h]
        rcases ih with e | ⟨j, hj, hl, e⟩
        · exact .inl e
        · exact .inr ⟨j, by omega, hl, e⟩
    · rw [dif_neg hk]
      rcases ih with e | ⟨j, hj, hl, e⟩
      · exact .inl e
      · exact .inr ⟨j, by omega, hl, e⟩
theorem mx_bd {xs : LR} (hx : ∀ j (h : j < xs.length), rOk xs[j].1 xs[j].2.1 xs[j].2.2) (k : Nat) : -1 ≤ mx xs k ∧ mx xs k ≤ 730499 := by
  rcases mx_is (xs := xs) k with e | ⟨j, -, hl, e⟩
  · omega
  · have := (hx j hl).2.2.1
    omega
theorem ar_sorted {xs : LR} (hs : ∀ k (h : k + 1 < xs.length), xs[k].2.1 ≤ xs[k + 1].2.1) {i j : Nat} (hi : i < xs.length) (h : j ≤ i) : xs[j].2.1 ≤ xs[i].2.1 := by
  induction i with
  | zero => obtain rfl : j = 0 := by omega
            exact Int.le_refl _
  | succ i ih =>
    by_cases e : j = i + 1
    · subst e; exact Int.le_refl _
    · have h1 := ih (by omega) (by omega)
      have h2 := hs i hi
      omega
/-- The day is in two of the reigns, the later one below k. -/
def In2 (xs : LR) (k : Nat) (d : Int) : Prop := ∃ i j, j < i ∧ i < k ∧ ∃ (hi : i < xs.length) (hj : j < xs.length), (xs[i].2.1 ≤ d ∧ d ≤ xs[i].2.2) ∧ (xs[j].2.1 ≤ d ∧ d ≤ xs[j].2.2)
theorem dp_has {xs : LR} (hx : ∀ j (h : j < xs.length), rOk xs[j].1 xs[j].2.1 xs[j].2.2) (hs : ∀ k (h : k + 1 < xs.length), xs[k].2.1 ≤ xs[k + 1].2.1) (k : Nat) (d : Int) : has (dp xs k) d ↔ In2 xs k d := by
  induction k with
  | zero =>
    constructor
    · rintro ⟨s, hs, -⟩; simp [dp] at hs
    · rintro ⟨i, j, -, h, -⟩; omega
  | succ k ih =>
    rw [dp, has_append, ih]
    constructor
    · rintro (⟨i, j, h1, h2, h3⟩ | ⟨s, h, h1, h2⟩)
      · exact ⟨i, j, h1, by omega, h3⟩
      · split at h
        case isTrue hk =>
          split at h
          case isTrue hl =>
            simp only [List.mem_singleton] at h
            subst h
            simp only at h1 h2
            rcases mx_is (xs := xs) k with e | ⟨j, hj, hjl, e⟩
            · have := (hx k hk).2.1.1; omega
            · have hsrt := ar_sorted hs hk (show j ≤ k by omega)
              refine ⟨k, j, hj, by omega, hk, hjl, ⟨h1, ?_⟩, ⟨by omega, ?_⟩⟩
              · split at h2 <;> omega
              · split at h2 <;> omega
          case isFalse hl => cases h
        case isFalse hk => cases h
    · rintro ⟨i, j, h1, h2, hi, hj, h3, h4⟩
      by_cases e : i = k
      · subst e
        right
        have hm := mx_ge hj h1
        have hl : xs[i].2.1 ≤ mx xs i := by omega
        rw [dif_pos hi, if_pos hl]
        refine ⟨_, List.mem_singleton.2 rfl, h3.1, ?_⟩
        simp only
        split <;> omega
      · exact .inl ⟨i, j, h1, by omega, hi, hj, h3, h4⟩
theorem dp_ok {xs : LR} (hx : ∀ j (h : j < xs.length), rOk xs[j].1 xs[j].2.1 xs[j].2.2) (k : Nat) : ∀ s ∈ dp xs k, ok s := by
  induction k with
  | zero => intro s hs; simp [dp] at hs
  | succ k ih =>
    intro s hs
    rw [dp] at hs
    rcases List.mem_append.1 hs with h | h
    · exact ih s h
    · split at h
      case isTrue hk =>
        split at h
        case isTrue hl =>
          obtain ⟨-, ⟨f0, f1⟩, ⟨t0, t1⟩, hle⟩ := hx k hk
          simp only [List.mem_singleton] at h
          subst h
          unfold ok
          simp only
          refine ⟨f0, ?_, ?_⟩ <;> split <;> omega
        case isFalse hl => cases h
      case isFalse hk => cases h
theorem dp_len (xs : LR) (k : Nat) : (dp xs k).length ≤ k := by
  induction k with
  | zero => simp [dp]
  | succ k ih =>
    rw [dp, List.length_append]
    split
    · split <;> simp <;> omega
    · simp; omega
theorem tj_has {xs : LR} {i N : Nat} (hi : i < xs.length) (d : Int) : has (tj xs false i N) d ↔ ∃ j, j < N ∧ i ≠ j ∧ ∃ hj : j < xs.length, (xs[i].2.1 ≤ d ∧ d ≤ xs[i].2.2) ∧ (xs[j].2.1 ≤ d ∧ d ≤ xs[j].2.2) := by
  induction N with
  | zero =>
    constructor
    · rintro ⟨s, hs, -⟩; simp [tj] at hs
    · rintro ⟨j, h, -⟩; omega
  | succ n ih =>
    rw [tj, has_append, ih]
    constructor
    · rintro (⟨j, h1, h2⟩ | ⟨s, h, h1, h2⟩)
      · exact ⟨j, by omega, h2⟩
      · split at h
        case isTrue hl =>
          unfold pr at h
          split at h
          case isTrue hc =>
            simp only [List.mem_singleton] at h
            subst h
            have hne : i ≠ n := by have := hc.2; simpa using this
            unfold prF prT at h1 h2
            simp only at h1 h2
            refine ⟨n, by omega, hne, hl.2, ⟨?_, ?_⟩, ⟨?_, ?_⟩⟩
            · split at h1 <;> omega
            · split at h2 <;> omega
            · split at h1 <;> omega
            · split at h2 <;> omega
          case isFalse hc => cases h
        case isFalse hl => cases h
    · rintro ⟨j, h1, hne, hj, h3, h4⟩
      by_cases e : j = n
      · subst e
        right
        rw [dif_pos ⟨hi, hj⟩]
        have hc : prF xs[i] xs[j] ≤ prT xs[i] xs[j] ∧ (false || decide (i ≠ j)) = true := by
          refine ⟨?_, by simpa using hne⟩
          unfold prF prT
          split <;> split <;> omega
        unfold pr
        rw [if_pos hc]
        refine ⟨_, List.mem_singleton.2 rfl, ?_, ?_⟩
        · unfold prF; simp only; split <;> omega
        · unfold prT; simp only; split <;> omega
      · exact .inl ⟨j, by omega, hne, hj, h3, h4⟩
theorem tm_has {xs : LR} (N : Nat) (hN : N ≤ xs.length) (d : Int) : has (tm xs false N) d ↔ In2 xs N d := by
  induction N with
  | zero =>
    constructor
    · rintro ⟨s, hs, -⟩; simp [tm] at hs
    · rintro ⟨i, j, -, h, -⟩; omega
  | succ n ih =>
    rw [tm, has_append, ih (by omega), tj_has (show n < xs.length by omega)]
    constructor
    · rintro (⟨i, j, h1, h2, h3⟩ | ⟨j, h1, hne, hj, h3⟩)
      · exact ⟨i, j, h1, by omega, h3⟩
      · exact ⟨n, j, by omega, by omega, by omega, hj, h3⟩
    · rintro ⟨i, j, h1, h2, hi, hj, h3⟩
      by_cases e : i = n
      · subst e
        exact .inr ⟨j, by omega, by omega, hj, h3⟩
      · exact .inl ⟨i, j, h1, by omega, hi, hj, h3⟩
theorem dp_make {xs : LR} (h : arOk xs) : make (dp xs xs.length) = make (tm xs false xs.length) := by
  have o1 := dp_ok h.1 xs.length
  have o2 := tm_ok h.1 false xs.length
  refine nf_unique (make_nf o1) (make_nf o2) fun d => ?_
  rw [make_has o1, make_has o2, dp_has h.1 h.2.1, tm_has _ (Nat.le_refl _)]

end Go.Proofs.Ytfhcakpmlppbkaa.Rei
