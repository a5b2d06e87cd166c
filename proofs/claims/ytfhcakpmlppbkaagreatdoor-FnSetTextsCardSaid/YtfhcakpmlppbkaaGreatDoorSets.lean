/- Sets of days as lists of spans: their normal form, their days, and what joining, meeting, leaving out, shifting and counting make of them. No word of any program. -/
import Derived.Test.YtfhcakpmlppbkaaGreatDoorProg
namespace Go.Proofs.YtfhcakpmlppbkaaGreatDoor.Sets

abbrev L := List (Int × Int)

/-- A span of days. -/
def ok (s : Int × Int) : Prop := 0 ≤ s.1 ∧ s.1 ≤ s.2 ∧ s.2 ≤ 730499
instance (s : Int × Int) : Decidable (ok s) := by unfold ok; exact inferInstance

/-- The list is a set, apart from its length: its spans have days only, they are in order and apart; the first begins at lo or later. -/
def NF : Int → L → Prop
  | _, [] => True
  | lo, s :: r => lo ≤ s.1 ∧ ok s ∧ NF (s.2 + 2) r
def decNF : (lo : Int) → (xs : L) → Decidable (NF lo xs)
  | _, [] => isTrue trivial
  | lo, s :: r => by unfold NF; have := decNF (s.2 + 2) r; exact inferInstance
instance (lo : Int) (xs : L) : Decidable (NF lo xs) := decNF lo xs

/-- The list is a set. -/
def setB (xs : L) : Bool := decide (xs.length ≤ 300 ∧ NF 0 xs)
theorem set_len {xs : L} (h : setB xs = true) : xs.length ≤ 300 := (of_decide_eq_true h).1
theorem set_nf {xs : L} (h : setB xs = true) : NF 0 xs := (of_decide_eq_true h).2
theorem set_mk {xs : L} (h : xs.length ≤ 300) (h2 : NF 0 xs) : setB xs = true := decide_eq_true ⟨h, h2⟩

def has (xs : L) (d : Int) : Prop := ∃ s ∈ xs, s.1 ≤ d ∧ d ≤ s.2
instance (xs : L) (d : Int) : Decidable (has xs d) := by unfold has; exact inferInstance
theorem has_nil (d : Int) : ¬ has [] d := by rintro ⟨s, h, _⟩; cases h
theorem has_cons (s : Int × Int) (r : L) (d : Int) : has (s :: r) d ↔ (s.1 ≤ d ∧ d ≤ s.2) ∨ has r d := by
  simp [has]
theorem has_append (a b : L) (d : Int) : has (a ++ b) d ↔ has a d ∨ has b d := by
  simp [has, or_and_right, exists_or]
def hasB (xs : L) (d : Int) : Bool := decide (has xs d)
theorem hasB_iff {xs : L} {d : Int} : hasB xs d = true ↔ has xs d := decide_eq_true_iff

def cnt : L → Int
  | [] => 0
  | s :: r => (s.2 - s.1 + 1) + cnt r

theorem NF.mono {lo lo' : Int} {xs : L} (h : NF lo xs) (hl : lo' ≤ lo) : NF lo' xs := by
  cases xs with
  | nil => trivial
  | cons s r => exact ⟨by have := h.1; omega, h.2⟩
theorem NF.ok_of {lo : Int} {xs : L} (h : NF lo xs) : ∀ s ∈ xs, ok s := by
  induction xs generalizing lo with
  | nil => intro s hs; cases hs
  | cons x r ih =>
    intro s hs
    rcases List.mem_cons.1 hs with rfl | hs
    · exact h.2.1
    · exact ih h.2.2 s hs
theorem NF.ge {lo : Int} {xs : L} (h : NF lo xs) {d : Int} (hd : has xs d) : lo ≤ d := by
  induction xs generalizing lo with
  | nil => exact absurd hd (has_nil d)
  | cons x r ih =>
    obtain ⟨h1, h2, h3⟩ := h
    rcases (has_cons _ _ _).1 hd with h4 | h4
    · omega
    · have := ih h3 h4
      unfold ok at h2
      omega
theorem NF.days {lo : Int} {xs : L} (h : NF lo xs) {d : Int} (hd : has xs d) : 0 ≤ d ∧ d ≤ 730499 := by
  obtain ⟨s, hs, h1, h2⟩ := hd
  have := h.ok_of s hs
  unfold ok at this
  omega
theorem nf_unique {lo lo' : Int} {xs ys : L} (hx : NF lo xs) (hy : NF lo' ys) (h : ∀ d, has xs d ↔ has ys d) : xs = ys := by
  induction xs generalizing lo lo' ys with
  | nil =>
    cases ys with
    | nil => rfl
    | cons y r =>
      have h2 := hy.2.1
      unfold ok at h2
      exact absurd ((h y.1).2 ((has_cons _ _ _).2 (.inl ⟨Int.le_refl _, by omega⟩))) (has_nil _)
  | cons x xr ih =>
    cases ys with
    | nil =>
      have h2 := hx.2.1
      unfold ok at h2
      exact absurd ((h x.1).1 ((has_cons _ _ _).2 (.inl ⟨Int.le_refl _, by omega⟩))) (has_nil _)
    | cons y yr =>
      obtain ⟨hx1, hx2, hx3⟩ := hx
      obtain ⟨hy1, hy2, hy3⟩ := hy
      have gx : ∀ d, has xr d → x.2 + 2 ≤ d := fun d hd => hx3.ge hd
      have gy : ∀ d, has yr d → y.2 + 2 ≤ d := fun d hd => hy3.ge hd
      have hh : ∀ d, ((x.1 ≤ d ∧ d ≤ x.2) ∨ has xr d) ↔ ((y.1 ≤ d ∧ d ≤ y.2) ∨ has yr d) := fun d => by rw [← has_cons, ← has_cons]; exact h d
      unfold ok at hx2 hy2
      have e1 : x.1 = y.1 := by
        have a := (hh x.1).1 (.inl ⟨by omega, by omega⟩)
        have b := (hh y.1).2 (.inl ⟨by omega, by omega⟩)
        have a' : y.1 ≤ x.1 := by
          rcases a with a | a
          · omega
          · have := gy _ a; omega
        have b' : x.1 ≤ y.1 := by
          rcases b with b | b
          · omega
          · have := gx _ b; omega
        omega
      have e2 : x.2 = y.2 := by
        rcases Int.lt_trichotomy x.2 y.2 with hlt | heq | hgt
        · have a := (hh (x.2 + 1)).2 (.inl ⟨by omega, by omega⟩)
          rcases a with a | a
          · omega
          · have := gx _ a; omega
        · exact heq
        · have a := (hh (y.2 + 1)).1 (.inl ⟨by omega, by omega⟩)
          rcases a with a | a
          · omega
          · have := gy _ a; omega
      have e : x = y := Prod.ext e1 e2
      subst e
      rw [ih hx3 hy3 fun d => ⟨fun hd => ?_, fun hd => ?_⟩]
      · rcases (hh d).1 (.inr hd) with a | a
        · have := gx _ hd; omega
        · exact a
      · rcases (hh d).2 (.inr hd) with a | a
        · have := gy _ hd; omega
        · exact a

/-! ### Joining -/
def mrg (c : Int × Int) : L → L
  | [] => [c]
  | s :: r => if s.1 ≤ c.2 + 1 then mrg (c.1, max c.2 s.2) r else c :: mrg s r
def merge : L → L
  | [] => []
  | s :: r => mrg s r
/-- In order by their beginnings. -/
def Asc : L → Prop
  | [] => True
  | s :: r => (∀ t ∈ r, s.1 ≤ t.1) ∧ Asc r
theorem mrg_nf {lo : Int} {c : Int × Int} {r : L} (hc : lo ≤ c.1) (h0 : ok c) (ho : ∀ s ∈ r, ok s) (ha : ∀ s ∈ r, c.1 ≤ s.1) (hr : Asc r) : NF lo (mrg c r) := by
  induction r generalizing lo c with
  | nil => exact ⟨hc, h0, trivial⟩
  | cons s r ih =>
    have hs := ho s (List.mem_cons_self ..)
    have h1 := ha s (List.mem_cons_self ..)
    unfold mrg
    split
    · refine ih hc ?_ (fun t ht => ho t (List.mem_cons_of_mem _ ht)) (fun t ht => ha t (List.mem_cons_of_mem _ ht)) hr.2
      unfold ok at *
      refine ⟨h0.1, ?_, ?_⟩ <;> simp <;> omega
    · refine ⟨hc, h0, ih (by omega) hs (fun t ht => ho t (List.mem_cons_of_mem _ ht)) hr.1 hr.2⟩
theorem mrg_has {c : Int × Int} {r : L} (h0 : c.1 ≤ c.2) (ho : ∀ s ∈ r, s.1 ≤ s.2) (ha : ∀ s ∈ r, c.1 ≤ s.1) (hr : Asc r) (d : Int) : has (mrg c r) d ↔ has (c :: r) d := by
  induction r generalizing c with
  | nil => exact Iff.rfl
  | cons s r ih =>
    have hs := ho s (List.mem_cons_self ..)
    have h1 := ha s (List.mem_cons_self ..)
    unfold mrg
    split
    · rw [ih (c := (c.1, max c.2 s.2)) (by simp; omega) (fun t ht => ho t (List.mem_cons_of_mem _ ht)) (fun t ht => ha t (List.mem_cons_of_mem _ ht)) hr.2]
      simp only [has_cons, ← or_assoc]
      refine or_congr ?_ Iff.rfl
      constructor
      · rintro ⟨a, b⟩
        by_cases h : d ≤ c.2
        · exact .inl ⟨a, h⟩
        · exact .inr ⟨by omega, by omega⟩
      · rintro (⟨a, b⟩ | ⟨a, b⟩) <;> exact ⟨by omega, by omega⟩
    · rw [has_cons, ih hs (fun t ht => ho t (List.mem_cons_of_mem _ ht)) hr.1 hr.2, ← has_cons]
theorem merge_nf {r : L} (ho : ∀ s ∈ r, ok s) (hr : Asc r) : NF 0 (merge r) := by
  cases r with
  | nil => trivial
  | cons s r =>
    have hs := ho s (List.mem_cons_self ..)
    exact mrg_nf hs.1 hs (fun t ht => ho t (List.mem_cons_of_mem _ ht)) hr.1 hr.2
theorem merge_has {r : L} (ho : ∀ s ∈ r, ok s) (hr : Asc r) (d : Int) : has (merge r) d ↔ has r d := by
  cases r with
  | nil => exact Iff.rfl
  | cons s r =>
    exact mrg_has (ho s (List.mem_cons_self ..)).2.1 (fun t ht => (ho t (List.mem_cons_of_mem _ ht)).2.1) hr.1 hr.2 d
/-- The list put in after those that begin at the same day or before. -/
def ins (s : Int × Int) : L → L
  | [] => [s]
  | t :: r => if t.1 ≤ s.1 then t :: ins s r else s :: t :: r
theorem ins_mem (s : Int × Int) (r : L) (x : Int × Int) : x ∈ ins s r ↔ x = s ∨ x ∈ r := by
  induction r with
  | nil => simp [ins]
  | cons t r ih =>
    unfold ins
    split
    · simp only [List.mem_cons, ih]
      constructor
      · rintro (h | h | h) <;> simp [h]
      · rintro (h | h | h) <;> simp [h]
    · simp
theorem ins_asc (s : Int × Int) (r : L) (h : Asc r) : Asc (ins s r) := by
  induction r with
  | nil => exact ⟨fun t ht => (by cases ht), trivial⟩
  | cons t r ih =>
    unfold ins
    split
    · refine ⟨fun u hu => ?_, ih h.2⟩
      rcases (ins_mem s r u).1 hu with rfl | hu
      · assumption
      · exact h.1 u hu
    · refine ⟨fun u hu => ?_, h⟩
      rcases List.mem_cons.1 hu with rfl | hu
      · omega
      · have := h.1 u hu; omega
theorem ins_length (s : Int × Int) (r : L) : (ins s r).length = r.length + 1 := by
  induction r with
  | nil => rfl
  | cons t r ih =>
    unfold ins
    split
    · simp [ih]
    · rfl
def sort : L → L → L
  | acc, [] => acc
  | acc, s :: r => sort (ins s acc) r
theorem sort_mem (acc r : L) (x : Int × Int) : x ∈ sort acc r ↔ x ∈ acc ∨ x ∈ r := by
  induction r generalizing acc with
  | nil => simp [sort]
  | cons s r ih =>
    unfold sort
    rw [ih, ins_mem, List.mem_cons]
    constructor
    · rintro ((h | h) | h) <;> simp [h]
    · rintro (h | h | h) <;> simp [h]
theorem sort_asc (acc r : L) (h : Asc acc) : Asc (sort acc r) := by
  induction r generalizing acc with
  | nil => exact h
  | cons s r ih => exact ih _ (ins_asc s acc h)
theorem sort_length (acc r : L) : (sort acc r).length = acc.length + r.length := by
  induction r generalizing acc with
  | nil => simp [sort]
  | cons s r ih =>
    unfold sort
    rw [ih, ins_length, List.length_cons]
    omega
/-- The set of all days of some spans. -/
def make (xs : L) : L := merge (sort [] xs)
theorem make_nf {xs : L} (h : ∀ s ∈ xs, ok s) : NF 0 (make xs) :=
  merge_nf (fun s hs => h s (by simpa using (sort_mem [] xs s).1 hs)) (sort_asc [] xs trivial)
theorem make_has {xs : L} (h : ∀ s ∈ xs, ok s) (d : Int) : has (make xs) d ↔ has xs d := by
  rw [make, merge_has (fun s hs => h s (by simpa using (sort_mem [] xs s).1 hs)) (sort_asc [] xs trivial)]
  simp [has, sort_mem]
/-- Whatever the order of those that begin at the same day: joined they are the same set. -/
theorem merge_any {xs ys : L} (h : ∀ s ∈ xs, ok s) (hm : ∀ x, x ∈ ys ↔ x ∈ xs) (ha : Asc ys) : merge ys = make xs := by
  have hy : ∀ s ∈ ys, ok s := fun s hs => h s ((hm s).1 hs)
  refine nf_unique (merge_nf hy ha) (make_nf h) fun d => ?_
  rw [merge_has hy ha, make_has h]
  simp [has, hm]
theorem mrg_length (c : Int × Int) (r : L) : (mrg c r).length ≤ r.length + 1 := by
  induction r generalizing c with
  | nil => simp [mrg]
  | cons s r ih =>
    unfold mrg
    split
    · have := ih (c.1, max c.2 s.2); simp; omega
    · have := ih s; simp; omega
theorem merge_length (r : L) : (merge r).length ≤ r.length := by
  cases r with
  | nil => simp [merge]
  | cons s r => exact mrg_length s r
theorem make_length (xs : L) : (make xs).length ≤ xs.length := by
  have := merge_length (sort [] xs)
  rw [sort_length] at this
  simpa [make] using this

/-! ### Meeting -/
def both (a b : Int × Int) : L := if max a.1 b.1 ≤ min a.2 b.2 then [(max a.1 b.1, min a.2 b.2)] else []
def meet : L → L → L
  | [], _ => []
  | _ :: _, [] => []
  | a :: ar, b :: br => both a b ++ if a.2 < b.2 then meet ar (b :: br) else meet (a :: ar) br
termination_by a b => a.length + b.length
theorem meet_nil_right (a : L) : meet a [] = [] := by cases a <;> simp [meet]
theorem meet_nil_left (b : L) : meet [] b = [] := by simp [meet]
theorem meet_nf {lo lo' : Int} {a b : L} (ha : NF lo a) (hb : NF lo' b) : NF (max lo lo') (meet a b) := by
  match a, b with
  | [], b => simp [meet, NF]
  | x :: ar, [] => simp [meet, NF]
  | x :: ar, y :: br =>
    have ha0 := ha
    have hb0 := hb
    obtain ⟨a1, a2, a3⟩ := ha
    obtain ⟨b1, b2, b3⟩ := hb
    unfold ok at a2 b2
    unfold meet both
    split
    · rename_i hlt
      split
      · exact ⟨by simp only; omega, by unfold ok; simp only; omega, (meet_nf a3 hb0).mono (by simp only; omega)⟩
      · exact ⟨by simp only; omega, by unfold ok; simp only; omega, (meet_nf ha0 b3).mono (by simp only; omega)⟩
    · split
      · exact (meet_nf a3 hb0).mono (by omega)
      · exact (meet_nf ha0 b3).mono (by omega)
termination_by a.length + b.length
theorem meet_has {lo lo' : Int} {a b : L} (ha : NF lo a) (hb : NF lo' b) (d : Int) : has (meet a b) d ↔ has a d ∧ has b d := by
  match a, b with
  | [], b => simp [meet, has]
  | x :: ar, [] => simp [meet, has]
  | x :: ar, y :: br =>
    have ha0 := ha
    have hb0 := hb
    obtain ⟨a1, a2, a3⟩ := ha
    obtain ⟨b1, b2, b3⟩ := hb
    have ga : has ar d → x.2 + 2 ≤ d := fun h => a3.ge h
    have gb : has br d → y.2 + 2 ≤ d := fun h => b3.ge h
    have hboth : has (both x y) d ↔ (x.1 ≤ d ∧ d ≤ x.2) ∧ (y.1 ≤ d ∧ d ≤ y.2) := by
      unfold both
      split
      · rw [has_cons]
        simp only [has_nil, or_false]
        omega
      · constructor
        · intro h; exact absurd h (has_nil _)
        · intro h; omega
    unfold meet
    rw [has_append, hboth]
    split
    · rename_i hlt
      rw [meet_has a3 hb0 d, has_cons, has_cons]
      constructor
      · rintro (h | ⟨h1, h2⟩)
        · exact ⟨.inl h.1, .inl h.2⟩
        · exact ⟨.inr h1, h2⟩
      · rintro ⟨h1 | h1, h2 | h2⟩
        · exact .inl ⟨h1, h2⟩
        · have := gb h2; omega
        · exact .inr ⟨h1, .inl h2⟩
        · exact .inr ⟨h1, .inr h2⟩
    · rename_i hge
      rw [meet_has ha0 b3 d, has_cons, has_cons]
      constructor
      · rintro (h | ⟨h1, h2⟩)
        · exact ⟨.inl h.1, .inl h.2⟩
        · exact ⟨h1, .inr h2⟩
      · rintro ⟨h1 | h1, h2 | h2⟩
        · exact .inl ⟨h1, h2⟩
        · exact .inr ⟨.inl h1, h2⟩
        · have := ga h1; omega
        · exact .inr ⟨.inr h1, h2⟩
termination_by a.length + b.length
theorem meet_length (a b : L) : (meet a b).length ≤ a.length + b.length := by
  match a, b with
  | [], b => simp [meet]
  | x :: ar, [] => simp [meet]
  | x :: ar, y :: br =>
    have h0 : (both x y).length ≤ 1 := by unfold both; split <;> simp
    unfold meet
    split
    · have := meet_length ar (y :: br); simp at *; omega
    · have := meet_length (x :: ar) br; simp at *; omega
termination_by a.length + b.length

/-! ### What is left -/
def rest (f : Int) : L → L
  | [] => if f ≤ 730499 then [(f, 730499)] else []
  | s :: r => (if f < s.1 then [(f, s.1 - 1)] else []) ++ rest (s.2 + 1) r
theorem rest_nf {f lo : Int} {b : L} (hf : 0 ≤ f) (hl : f ≤ lo) (hb : NF lo b) : NF f (rest f b) := by
  induction b generalizing f lo with
  | nil =>
    unfold rest
    split
    · exact ⟨Int.le_refl _, ⟨hf, by simpa, by simp⟩, trivial⟩
    · trivial
  | cons s r ih =>
    obtain ⟨h1, h2, h3⟩ := hb
    unfold ok at h2
    have h4 := ih (f := s.2 + 1) (by omega) (by omega) h3
    unfold rest
    split
    · exact ⟨Int.le_refl _, ⟨hf, by simp only; omega, by simp only; omega⟩, h4.mono (by simp only; omega)⟩
    · exact h4.mono (by omega)
theorem rest_has {f lo : Int} {b : L} (hf : 0 ≤ f) (hl : f ≤ lo) (hb : NF lo b) (d : Int) : has (rest f b) d ↔ f ≤ d ∧ d ≤ 730499 ∧ ¬ has b d := by
  induction b generalizing f lo with
  | nil =>
    unfold rest
    split
    · rw [has_cons]; simp [has_nil]
    · constructor
      · intro h; exact absurd h (has_nil _)
      · omega
  | cons s r ih =>
    obtain ⟨h1, h2, h3⟩ := hb
    unfold ok at h2
    have g := fun h : has r d => h3.ge h
    unfold rest
    rw [has_append, ih (f := s.2 + 1) (by omega) (by omega) h3, has_cons]
    have hm : has (if f < s.1 then [(f, s.1 - 1)] else []) d ↔ f ≤ d ∧ d < s.1 := by
      split
      · rw [has_cons]; simp only [has_nil, or_false]; omega
      · constructor
        · intro h; exact absurd h (has_nil _)
        · omega
    rw [hm]
    constructor
    · rintro (h | ⟨h4, h5, h6⟩)
      · refine ⟨h.1, by omega, ?_⟩
        rintro (h7 | h7)
        · omega
        · have := g h7; omega
      · refine ⟨by omega, h5, ?_⟩
        rintro (h7 | h7)
        · omega
        · exact h6 h7
    · rintro ⟨h4, h5, h6⟩
      by_cases h7 : d < s.1
      · exact .inl ⟨h4, h7⟩
      · refine .inr ⟨?_, h5, fun h => h6 (.inr h)⟩
        rcases Int.lt_or_le s.2 d with h8 | h8
        · omega
        · exact absurd (.inl ⟨by omega, h8⟩) h6
theorem rest_length (f : Int) (b : L) : (rest f b).length ≤ b.length + 1 := by
  induction b generalizing f with
  | nil => unfold rest; split <;> simp
  | cons s r ih =>
    have := ih (s.2 + 1)
    unfold rest
    split <;> simp <;> omega

/-! ### Shifting -/
def moved (xs : L) (by_ : Int) : L := xs.map fun s => (s.1 + by_, s.2 + by_)
def shift : L → Int → L
  | [], _ => []
  | s :: r, k => (if max 0 (s.1 + k) ≤ min 730499 (s.2 + k) then [(max 0 (s.1 + k), min 730499 (s.2 + k))] else []) ++ shift r k
theorem shift_late {lo : Int} {xs : L} {k : Int} (h : NF lo xs) (hl : 730499 < lo + k) : shift xs k = [] := by
  induction xs generalizing lo with
  | nil => rfl
  | cons s r ih =>
    obtain ⟨h1, h2, h3⟩ := h
    unfold ok at h2
    unfold shift
    rw [if_neg (by omega), ih h3 (by omega)]
    rfl
theorem meet_shift {lo : Int} {xs : L} {k : Int} (h : NF lo xs) : meet (moved xs k) [(0, 730499)] = shift xs k := by
  induction xs generalizing lo with
  | nil => simp [moved, shift, meet]
  | cons s r ih =>
    obtain ⟨h1, h2, h3⟩ := h
    unfold ok at h2
    have e : both (s.1 + k, s.2 + k) (0, 730499) = if max 0 (s.1 + k) ≤ min 730499 (s.2 + k) then [(max 0 (s.1 + k), min 730499 (s.2 + k))] else [] := by
      unfold both
      simp only
      rw [Int.max_comm (s.1 + k) 0, Int.min_comm (s.2 + k) 730499]
    show meet ((s.1 + k, s.2 + k) :: moved r k) [(0, 730499)] = _
    unfold meet shift
    rw [e]
    congr 1
    split
    · exact ih h3
    · rename_i hge
      simp only at hge
      rw [meet_nil_right, shift_late h3 (by omega)]
theorem shift_nf {lo : Int} {xs : L} {k : Int} (h : NF lo xs) : NF (max 0 (lo + k)) (shift xs k) := by
  induction xs generalizing lo with
  | nil => trivial
  | cons s r ih =>
    obtain ⟨h1, h2, h3⟩ := h
    unfold ok at h2
    unfold shift
    split
    · exact ⟨by simp only; omega, ⟨by simp only; omega, by simp only; omega, by simp only; omega⟩, (ih h3).mono (by simp only; omega)⟩
    · exact (ih h3).mono (by omega)
theorem shift_length (xs : L) (k : Int) : (shift xs k).length ≤ xs.length := by
  induction xs with
  | nil => simp [shift]
  | cons s r ih =>
    unfold shift
    split <;> simp <;> omega
theorem shift_has {xs : L} {k : Int} {s : Int × Int} (hs : s ∈ xs) (ho : s.1 ≤ s.2) (h0 : 0 ≤ s.1 + k) (h1 : s.1 + k ≤ 730499) : has (shift xs k) (s.1 + k) := by
  induction xs with
  | nil => cases hs
  | cons t r ih =>
    unfold shift
    rw [has_append]
    rcases List.mem_cons.1 hs with rfl | hs
    · refine .inl ?_
      rw [if_pos (by omega), has_cons]
      exact .inl ⟨by simp only; omega, by simp only; omega⟩
    · exact .inr (ih hs)

/-! ### Days in order -/
def nth : L → Int → Int
  | [], _ => 0
  | s :: r, k => if k ≤ s.2 - s.1 then s.1 + k else nth r (k - (s.2 - s.1 + 1))
theorem cnt_nonneg {lo : Int} {xs : L} (h : NF lo xs) : 0 ≤ cnt xs := by
  induction xs generalizing lo with
  | nil => exact Int.le_refl _
  | cons s r ih =>
    obtain ⟨h1, h2, h3⟩ := h
    have := ih h3
    unfold ok at h2
    unfold cnt
    omega
theorem cnt_le {lo : Int} {xs : L} (h : NF lo xs) (hl : lo ≤ 730500) : cnt xs ≤ 730500 - lo := by
  induction xs generalizing lo with
  | nil => unfold cnt; omega
  | cons s r ih =>
    obtain ⟨h1, h2, h3⟩ := h
    unfold ok at h2
    unfold cnt
    by_cases h4 : s.2 + 2 ≤ 730500
    · have := ih h3 h4; omega
    · cases r with
      | nil => unfold cnt; omega
      | cons t r => obtain ⟨a, b, c⟩ := h3; unfold ok at b; omega
theorem nth_has {lo : Int} {xs : L} {k : Int} (h : NF lo xs) (h0 : 0 ≤ k) (hk : k < cnt xs) : has xs (nth xs k) := by
  induction xs generalizing lo k with
  | nil => unfold cnt at hk; omega
  | cons s r ih =>
    obtain ⟨h1, h2, h3⟩ := h
    unfold ok at h2
    unfold cnt at hk
    unfold nth
    rw [has_cons]
    split
    · exact .inl ⟨by omega, by omega⟩
    · exact .inr (ih h3 (by omega) (by omega))
theorem nth_lt {lo : Int} {xs : L} {k : Int} (h : NF lo xs) (h0 : 0 < k) (hk : k < cnt xs) : nth xs (k - 1) < nth xs k := by
  induction xs generalizing lo k with
  | nil => unfold cnt at hk; omega
  | cons s r ih =>
    obtain ⟨h1, h2, h3⟩ := h
    unfold ok at h2
    unfold cnt at hk
    unfold nth
    split
    · split
      · omega
      · have := h3.ge (nth_has h3 (k := k - (s.2 - s.1 + 1)) (by omega) (by omega))
        omega
    · rw [if_neg (by omega)]
      have := ih h3 (k := k - (s.2 - s.1 + 1)) (by omega) (by omega)
      rw [show k - 1 - (s.2 - s.1 + 1) = k - (s.2 - s.1 + 1) - 1 by omega]
      exact this

/-! ### How many days -/
def num (p : Int → Bool) : Nat → Int
  | 0 => 0
  | n + 1 => num p n + if p (n : Int) then 1 else 0
theorem num_add {p q r t : Int → Bool} (n : Nat) (h : ∀ d : Int, (if p d then (1 : Int) else 0) + (if q d then 1 else 0) = (if r d then 1 else 0) + (if t d then 1 else 0)) :
    num p n + num q n = num r n + num t n := by
  induction n with
  | zero => rfl
  | succ n ih =>
    have := h (n : Int)
    unfold num
    omega
theorem num_false {p : Int → Bool} (n : Nat) (h : ∀ d : Int, 0 ≤ d → d < n → p d = false) : num p n = 0 := by
  induction n with
  | zero => rfl
  | succ n ih =>
    unfold num
    rw [ih fun d a b => h d a (by omega), h (n : Int) (by omega) (by omega)]
    rfl
theorem num_span (f t : Int) (n : Nat) (h0 : 0 ≤ f) (h1 : f ≤ t + 1) (h2 : t < n) : num (fun d => decide (f ≤ d ∧ d ≤ t)) n = t - f + 1 := by
  induction n generalizing t with
  | zero => unfold num; omega
  | succ n ih =>
    unfold num
    by_cases h : t = n
    · by_cases h3 : f ≤ t
      · have e : num (fun d => decide (f ≤ d ∧ d ≤ t)) n = num (fun d => decide (f ≤ d ∧ d ≤ t - 1)) n := by
          have := num_add (p := fun d => decide (f ≤ d ∧ d ≤ t)) (q := fun _ => false) (r := fun d => decide (f ≤ d ∧ d ≤ t - 1)) (t := fun d => decide (d = t)) n (fun d => by
            by_cases x : d = t
            · subst x
              simp [h3]
              omega
            · by_cases y : f ≤ d ∧ d ≤ t
              · have z : f ≤ d ∧ d ≤ t - 1 := ⟨y.1, by omega⟩
                simp [x, y, z]
              · have z : ¬ (f ≤ d ∧ d ≤ t - 1) := by omega
                simp [x, y, z])
          rw [num_false (p := fun _ => false) n (fun _ _ _ => rfl), num_false (p := fun d => decide (d = t)) n (fun d a b => by simp; omega)] at this
          omega
        rw [e, ih (t - 1) (by omega) (by omega), if_pos (by simp; omega)]
        omega
      · rw [num_false n (fun d a b => by simp; omega), if_neg (by simp; omega)]
        omega
    · rw [ih t h1 (by omega), if_neg (by simp; omega)]
      omega
theorem cnt_num {lo : Int} {xs : L} (h : NF lo xs) : cnt xs = num (hasB xs) 730500 := by
  induction xs generalizing lo with
  | nil => rw [num_false _ fun d _ _ => by simp [hasB, has_nil]]; rfl
  | cons s r ih =>
    obtain ⟨h1, h2, h3⟩ := h
    unfold ok at h2
    have e := num_add (p := hasB (s :: r)) (q := fun _ => false) (r := fun d => decide (s.1 ≤ d ∧ d ≤ s.2)) (t := hasB r) 730500 (fun d => by
      have g := fun h : has r d => h3.ge h
      have hc := has_cons s r d
      simp only [hasB, decide_eq_true_eq, hc]
      by_cases a : s.1 ≤ d ∧ d ≤ s.2
      · have b : ¬ has r d := fun h => by have := g h; omega
        simp [a, b]
      · by_cases b : has r d
        · simp [a, b]
        · simp [a, b])
    rw [num_false (p := fun _ => false) _ (fun _ _ _ => rfl), num_span s.1 s.2 730500 (by omega) (by omega) (by omega), ← ih h3] at e
    unfold cnt
    omega
/-- The days of a union and of a meeting are ar many ar those of both sets. -/
theorem cnt_union {a b : L} (ha : NF 0 a) (hb : NF 0 b) : cnt a + cnt b = cnt (make (a ++ b)) + cnt (meet a b) := by
  have hab : ∀ s ∈ a ++ b, ok s := fun s hs => by
    rcases List.mem_append.1 hs with h | h
    · exact ha.ok_of s h
    · exact hb.ok_of s h
  rw [cnt_num ha, cnt_num hb, cnt_num (make_nf hab), cnt_num (meet_nf ha hb)]
  refine num_add 730500 fun d => ?_
  have h1 := make_has hab d
  rw [has_append] at h1
  have h2 := meet_has ha hb d
  simp only [hasB, decide_eq_true_eq, h1, h2]
  by_cases x : has a d <;> by_cases y : has b d <;> simp [x, y]
theorem cnt_without {a b : L} (ha : NF 0 a) (hb : NF 0 b) : cnt (meet a (rest 0 b)) = cnt a - cnt (meet a b) := by
  have hr := rest_nf (Int.le_refl 0) (Int.le_refl 0) hb
  rw [cnt_num ha, cnt_num (meet_nf ha hb), cnt_num (meet_nf ha hr)]
  have := num_add (p := hasB (meet a (rest 0 b))) (q := hasB (meet a b)) (r := hasB a) (t := fun _ => false) 730500 (fun d => by
    have h1 := meet_has ha hr d
    rw [rest_has (Int.le_refl 0) (Int.le_refl 0) hb] at h1
    have h2 := meet_has ha hb d
    have h3 := fun h : has a d => ha.days h
    simp only [hasB, decide_eq_true_eq, h1, h2]
    by_cases x : has a d
    · have := h3 x
      by_cases y : has b d <;> simp [x, y, this]
    · by_cases y : has b d <;> simp [x, y])
  rw [num_false (p := fun _ => false) _ (fun _ _ _ => rfl)] at this
  omega

end Go.Proofs.YtfhcakpmlppbkaaGreatDoor.Sets
