/- The mathematics of distances of words (symmetric, zero for equal words alone, with the triangle), of normal forms and of runs in common. No Go in it. -/
import Derived.Test.YtdpbikephjnndaaDoorCal
namespace Go.Proofs.YtdpbikephjnndaaDoor.Wrd

/-- In how many steps a list turns into another one (letters put in, left out or changed). -/
def ed : List UInt8 → List UInt8 → Nat
  | [], b => b.length
  | x :: a, [] => (x :: a).length
  | x :: a, y :: b => min (ed a b + if x = y then 0 else 1) (min (ed a (y :: b) + 1) (ed (x :: a) b + 1))
theorem ed_nil (b : List UInt8) : ed [] b = b.length := by cases b <;> simp [ed]
theorem ed_nil' (a : List UInt8) : ed a [] = a.length := by cases a <;> simp [ed]
theorem ed_cons (x y : UInt8) (a b : List UInt8) : ed (x :: a) (y :: b) = min (ed a b + if x = y then 0 else 1) (min (ed a (y :: b) + 1) (ed (x :: a) b + 1)) := by rw [ed]

theorem ed_symm : ∀ a b : List UInt8, ed a b = ed b a
  | [], b => by rw [ed_nil, ed_nil']
  | a, [] => by rw [ed_nil, ed_nil']
  | x :: a, y :: b => by
    rw [ed_cons, ed_cons, ed_symm a b, ed_symm a (y :: b), ed_symm (x :: a) b]
    have e : (if x = y then 0 else 1) = (if y = x then 0 else 1 : Nat) := by
      by_cases h : x = y
      · simp [h]
      · rw [if_neg h, if_neg (fun q => h q.symm)]
    rw [e]
    omega
theorem ed_self : ∀ a : List UInt8, ed a a = 0
  | [] => by rw [ed_nil]; rfl
  | x :: a => by
    rw [ed_cons, ed_self a]
    simp
theorem ed_zero : ∀ a b : List UInt8, ed a b = 0 → a = b
  | [], b, h => by
    rw [ed_nil] at h
    exact (List.length_eq_zero_iff.1 h).symm
  | x :: a, [], h => by
    rw [ed_nil'] at h
    simp at h
  | x :: a, y :: b, h => by
    rw [ed_cons] at h
    by_cases e : x = y
    · rw [if_pos e] at h
      rw [e, ed_zero a b (by omega)]
    · rw [if_neg e] at h
      omega
theorem ed_iff (a b : List UInt8) : ed a b = 0 ↔ a = b := ⟨ed_zero a b, fun h => h ▸ ed_self a⟩
theorem ed_le : ∀ a b : List UInt8, ed a b ≤ a.length + b.length
  | [], b => by rw [ed_nil]; simp
  | x :: a, [] => by rw [ed_nil']; simp
  | x :: a, y :: b => by
    have := ed_le a (y :: b)
    rw [ed_cons]
    simp only [List.length_cons] at this ⊢
    omega

/-- Steps that turn a list into another one. -/
inductive Steps : List UInt8 → List UInt8 → Nat → Prop
  | nil : Steps [] [] 0
  | put {a b : List UInt8} {n : Nat} (y : UInt8) : Steps a b n → Steps a (y :: b) (n + 1)
  | cut {a b : List UInt8} {n : Nat} (x : UInt8) : Steps a b n → Steps (x :: a) b (n + 1)
  | turn {a b : List UInt8} {n : Nat} (x y : UInt8) : Steps a b n → Steps (x :: a) (y :: b) (n + if x = y then 0 else 1)
theorem steps_put : ∀ b : List UInt8, Steps [] b b.length
  | [] => .nil
  | y :: b => .put y (steps_put b)
theorem steps_cut : ∀ a : List UInt8, Steps a [] a.length
  | [] => .nil
  | x :: a => .cut x (steps_cut a)
theorem steps_ed : ∀ a b : List UInt8, Steps a b (ed a b)
  | [], b => by rw [ed_nil]; exact steps_put b
  | x :: a, [] => by rw [ed_nil']; exact steps_cut (x :: a)
  | x :: a, y :: b => by
    have h1 := (steps_ed a b).turn x y
    have h2 := (steps_ed a (y :: b)).cut x
    have h3 := (steps_ed (x :: a) b).put y
    rw [ed_cons]
    by_cases c1 : ed a b + (if x = y then 0 else 1) ≤ min (ed a (y :: b) + 1) (ed (x :: a) b + 1)
    · rw [Nat.min_eq_left c1]; exact h1
    · rw [Nat.min_eq_right (by omega)]
      by_cases c2 : ed a (y :: b) + 1 ≤ ed (x :: a) b + 1
      · rw [Nat.min_eq_left c2]; exact h2
      · rw [Nat.min_eq_right (by omega)]; exact h3
theorem ed_grow (x : UInt8) : ∀ a b : List UInt8, ed (x :: a) b ≤ ed a b + 1
  | a, [] => by rw [ed_nil', ed_nil']; simp
  | a, y :: b => by rw [ed_cons]; omega
theorem ed_grow' (y : UInt8) (a b : List UInt8) : ed a (y :: b) ≤ ed a b + 1 := by
  rw [ed_symm a (y :: b), ed_symm a b]
  exact ed_grow y b a
theorem ed_least {a b : List UInt8} {n : Nat} (h : Steps a b n) : ed a b ≤ n := by
  induction h with
  | nil => rw [ed_nil]; exact Nat.le_refl 0
  | put y _ ih => exact Nat.le_trans (ed_grow' y _ _) (by omega)
  | cut x _ ih => exact Nat.le_trans (ed_grow x _ _) (by omega)
  | turn x y _ ih => rw [ed_cons]; omega
theorem neq_tri (x y z : UInt8) : (if x = z then 0 else 1 : Nat) ≤ (if x = y then 0 else 1) + (if y = z then 0 else 1) := by
  by_cases h1 : x = y
  · subst h1; simp
  · rw [if_neg h1]
    split <;> omega
theorem steps_comp : ∀ (N : Nat) {a b c : List UInt8} {n m : Nat}, a.length + b.length + c.length ≤ N → Steps a b n → Steps b c m → ∃ k, k ≤ n + m ∧ Steps a c k := by
  intro N
  induction N with
  | zero =>
    intro a b c n m hN h1 h2
    have ha : a = [] := List.length_eq_zero_iff.1 (by omega)
    have hb : b = [] := List.length_eq_zero_iff.1 (by omega)
    have hc : c = [] := List.length_eq_zero_iff.1 (by omega)
    subst ha; subst hb; subst hc
    exact ⟨0, by omega, .nil⟩
  | succ N ih =>
    intro a b c n m hN h1 h2
    cases h1 with
    | nil => exact ⟨m, by omega, h2⟩
    | cut x h1 =>
      obtain ⟨k, hk, s⟩ := ih (by simp at hN ⊢; omega) h1 h2
      exact ⟨k + 1, by omega, s.cut x⟩
    | put y h1 =>
      rename_i b' n'
      generalize hb : y :: b' = B at h2
      cases h2 with
      | nil => cases hb
      | put z h2 =>
        subst hb
        obtain ⟨k, hk, s⟩ := ih (by simp at hN ⊢; omega) (h1.put y) h2
        exact ⟨k + 1, by omega, s.put z⟩
      | cut y' h2 =>
        injection hb with e1 e2
        subst e2
        obtain ⟨k, hk, s⟩ := ih (by simp at hN ⊢; omega) h1 h2
        exact ⟨k, by omega, s⟩
      | turn y' z h2 =>
        injection hb with e1 e2
        subst e2
        obtain ⟨k, hk, s⟩ := ih (by simp at hN ⊢; omega) h1 h2
        exact ⟨k + 1, by omega, s.put z⟩
    | turn x y h1 =>
      rename_i a' b' n'
      generalize hb : y :: b' = B at h2
      cases h2 with
      | nil => cases hb
      | put z h2 =>
        subst hb
        obtain ⟨k, hk, s⟩ := ih (by simp at hN ⊢; omega) (h1.turn x y) h2
        exact ⟨k + 1, by omega, s.put z⟩
      | cut y' h2 =>
        injection hb with e1 e2
        subst e2
        obtain ⟨k, hk, s⟩ := ih (by simp at hN ⊢; omega) h1 h2
        exact ⟨k + 1, by omega, s.cut x⟩
      | turn y' z h2 =>
        injection hb with e1 e2
        subst e1; subst e2
        obtain ⟨k, hk, s⟩ := ih (by simp at hN ⊢; omega) h1 h2
        have := neq_tri x y z
        exact ⟨_, by omega, s.turn x z⟩
/-- The triangle. -/
theorem ed_tri (a b c : List UInt8) : ed a c ≤ ed a b + ed b c := by
  obtain ⟨k, hk, s⟩ := steps_comp _ (Nat.le_refl _) (steps_ed a b) (steps_ed b c)
  exact Nat.le_trans (ed_least s) hk

/-- The distance of words: over what stands ahead of each letter. -/
def dist (a b : List UInt8) : Nat := ed a.reverse b.reverse
theorem dist_symm (a b : List UInt8) : dist a b = dist b a := ed_symm _ _
theorem dist_tri (a b c : List UInt8) : dist a c ≤ dist a b + dist b c := ed_tri _ _ _
theorem dist_iff (a b : List UInt8) : dist a b = 0 ↔ a = b := by
  unfold dist
  rw [ed_iff]
  exact List.reverse_inj
theorem dist_le (a b : List UInt8) : dist a b ≤ a.length + b.length := by
  have := ed_le a.reverse b.reverse
  simpa [dist] using this
/-- A cell of the table: from the three cells before it. -/
theorem dist_step (a b : List UInt8) (x y : UInt8) : dist (a ++ [x]) (b ++ [y]) = min (dist a b + if x = y then 0 else 1) (min (dist a (b ++ [y]) + 1) (dist (a ++ [x]) b + 1)) := by
  unfold dist
  simp only [List.reverse_append, List.reverse_cons, List.reverse_nil, List.nil_append, List.singleton_append]
  exact ed_cons x y _ _
/-- The table's cell i + 1, k + 1. -/
theorem dist_cell (a b : List UInt8) (i k : Nat) (hi : i < a.length) (hk : k < b.length) : dist (a.take (i + 1)) (b.take (k + 1)) =
    min (dist (a.take i) (b.take k) + if a[i] = b[k] then 0 else 1) (min (dist (a.take i) (b.take (k + 1)) + 1) (dist (a.take (i + 1)) (b.take k) + 1)) := by
  have e := dist_step (a.take i) (b.take k) a[i] b[k]
  rw [← List.take_succ_eq_append_getElem hi, ← List.take_succ_eq_append_getElem hk] at e
  exact e
theorem dist_nil (b : List UInt8) : dist [] b = b.length := by unfold dist; rw [List.reverse_nil, ed_nil, List.length_reverse]
theorem dist_nil' (a : List UInt8) : dist a [] = a.length := by rw [dist_symm, dist_nil]

/-- A letter of a normal form, before doubled ones are left out. -/
def widen (c : UInt8) : List UInt8 := if c = 118 then [117] else if c = 106 ∨ c = 121 then [105] else if c = 119 then [117, 117] else [c]
/-- Letters like the one before them left out. -/
def sq : Option UInt8 → List UInt8 → List UInt8
  | _, [] => []
  | p, c :: r => if p = some c then sq (some c) r else c :: sq (some c) r
def cutE (l : List UInt8) : List UInt8 := if 3 ≤ l.length ∧ l.getLast? = some 101 then l.dropLast else l
def norm (l : List UInt8) : List UInt8 := cutE (sq none (l.flatMap widen))
theorem widen_len (c : UInt8) : 1 ≤ (widen c).length ∧ (widen c).length ≤ 2 := by
  unfold widen
  repeat' split
  all_goals simp
theorem wide_len : ∀ l : List UInt8, (l.flatMap widen).length ≤ 2 * l.length
  | [] => by simp
  | c :: r => by
    have h1 := wide_len r
    have h2 := (widen_len c).2
    simp only [List.flatMap_cons, List.length_append, List.length_cons]
    omega
theorem sq_len : ∀ (p : Option UInt8) (l : List UInt8), (sq p l).length ≤ l.length
  | _, [] => by simp [sq]
  | p, c :: r => by
    have := sq_len (some c) r
    unfold sq
    split
    · simp; omega
    · simp; omega
theorem norm_len (l : List UInt8) : (norm l).length ≤ 2 * l.length := by
  have h1 := wide_len l
  have h2 := sq_len none (l.flatMap widen)
  unfold norm cutE
  split
  · simp; omega
  · omega
/-- One more letter behind: it is left out exactly if it is the last one. -/
theorem sq_snoc : ∀ (p : Option UInt8) (l : List UInt8) (c : UInt8), sq p (l ++ [c]) = if (l.getLast? = some c ∨ (l = [] ∧ p = some c)) then sq p l else sq p l ++ [c]
  | p, [], c => by
    unfold sq
    by_cases h : p = some c
    · simp [h, sq]
    · simp [h, sq]
  | p, d :: r, c => by
    have ih := sq_snoc (some d) r c
    have e : ((d :: r).getLast? = some c ∨ (d :: r = [] ∧ p = some c)) ↔ (r.getLast? = some c ∨ (r = [] ∧ some d = some c)) := by
      cases r with
      | nil => simp
      | cons x y => simp [List.getLast?_cons_cons]
    rw [List.cons_append]
    unfold sq
    rw [ih]
    by_cases hc : (r.getLast? = some c ∨ (r = [] ∧ some d = some c))
    · rw [if_pos hc, if_pos (e.2 hc)]
    · rw [if_neg hc, if_neg (fun q => hc (e.1 q))]
      split <;> simp

/-- How many words are the same from the beginnings on. -/
def run : List (List UInt8) → List (List UInt8) → Nat
  | x :: a, y :: b => if x = y then run a b + 1 else 0
  | _, _ => 0
theorem run_symm : ∀ a b : List (List UInt8), run a b = run b a
  | [], [] => rfl
  | [], _ :: _ => rfl
  | _ :: _, [] => rfl
  | x :: a, y :: b => by
    unfold run
    rw [run_symm a b]
    by_cases h : x = y
    · simp [h]
    · rw [if_neg h, if_neg (fun q => h q.symm)]
/-- m is the length of the longest run in common. -/
def Common (a b : List (List UInt8)) (m : Nat) : Prop :=
  (m = 0 ∨ ∃ i k, i < a.length ∧ k < b.length ∧ run (a.drop i) (b.drop k) = m) ∧ ∀ i k, i < a.length → k < b.length → run (a.drop i) (b.drop k) ≤ m
theorem Common.symm {a b : List (List UInt8)} {m : Nat} (h : Common a b m) : Common b a m := by
  refine ⟨?_, fun i k hi hk => by rw [run_symm]; exact h.2 k i hk hi⟩
  rcases h.1 with e | ⟨i, k, hi, hk, e⟩
  · exact .inl e
  · exact .inr ⟨k, i, hk, hi, by rw [run_symm]; exact e⟩
theorem Common.uniq {a b : List (List UInt8)} {m m' : Nat} (h : Common a b m) (h' : Common a b m') : m = m' := by
  have key : ∀ {p q : Nat}, Common a b p → Common a b q → p ≤ q := by
    intro p q hp hq
    rcases hp.1 with e | ⟨i, k, hi, hk, e⟩
    · omega
    · rw [← e]; exact hq.2 i k hi hk
  exact Nat.le_antisymm (key h h') (key h' h)
theorem run_le : ∀ a b : List (List UInt8), run a b ≤ a.length ∧ run a b ≤ b.length
  | [], b => by cases b <;> simp [run]
  | _ :: _, [] => by simp [run]
  | x :: a, y :: b => by
    have := run_le a b
    unfold run
    split
    · simp; omega
    · simp
/-- A run of n words: it goes on exactly if both lists go on with the same word. -/
theorem run_more : ∀ (n : Nat) (a b : List (List UInt8)), n ≤ run a b → (n + 1 ≤ run a b ↔ ∃ x, a[n]? = some x ∧ b[n]? = some x)
  | n, [], b, h => by
    cases b <;> simp [run]
  | n, _ :: _, [], h => by simp [run]
  | 0, x :: a, y :: b, _ => by
    unfold run
    by_cases e : x = y
    · simp [e]
    · rw [if_neg e]
      constructor
      · intro q; omega
      · rintro ⟨z, q1, q2⟩
        simp at q1 q2
        exact absurd (q1.trans q2.symm) e
  | n + 1, x :: a, y :: b, h => by
    unfold run at h ⊢
    by_cases e : x = y
    · rw [if_pos e] at h ⊢
      have := run_more n a b (by omega)
      simp only [List.getElem?_cons_succ]
      rw [← this]
      omega
    · rw [if_neg e] at h
      omega

end Go.Proofs.YtdpbikephjnndaaDoor.Wrd
