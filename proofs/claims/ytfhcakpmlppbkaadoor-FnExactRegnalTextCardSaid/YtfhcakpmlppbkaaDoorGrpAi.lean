/- Texts of a claim in one file: Sets Rd. -/
import Derived.Test.YtfhcakpmlppbkaaDoorProg
import Derived.Test.YtfhcakpmlppbkaaDoorGrpAg
import Derived.WalkKit
import Derived.WalkSpells
import Derived.WalkLawsBesides
import Derived.Deep.QuietTactic
import Derived.BigQuiet
import Derived.Deep.LoopGhost
import Derived.Deep.RegionHeld3
import Derived.Deep.RegionWith
import Derived.Lib.Hide
import Derived.StillTactics
import Derived.StillTailTactics
import Derived.IntWalk
import Derived.Laws.MakeOwn
import Derived.OwnWalk
namespace Go.Proofs.YtfhcakpmlppbkaaDoor.Sets

abbrev L := List (Int × Int)

/-- A span of days. -/
def ok (s : Int × Int) : Prop := 0 ≤ s.1 ∧ s.1 ≤ s.2 ∧ s.2 ≤ 730499
instance (s : Int × Int) : Decidable (ok s) := by unfold ok; exact inferInstance

/-- The list is a set, apart from its length: its spans have days only, they are in order and apart; the first begins at lo or later. -/
def NF : Int → L → Prop
  | _, [] => True
  | lo, s :: r => lo ≤ s.1 ∧ ok s ∧ NF (s.2 + 2) r
def decNF : (lo : Int) → (xs : L) → Decidable (NF lo xs)
  | _, [] => isTrue trivial
  | lo, s :: r => by unfold NF; have := decNF (s.2 + 2) r; exact inferInstance
instance (lo : Int) (xs : L) : Decidable (NF lo xs) := decNF lo xs

/-- The list is a set. -/
def setB (xs : L) : Bool := decide (xs.length ≤ 300 ∧ NF 0 xs)
theorem set_len {xs : L} (h : setB xs = true) : xs.length ≤ 300 := (of_decide_eq_true h).1
theorem set_nf {xs : L} (h : setB xs = true) : NF 0 xs := (of_decide_eq_true h).2
theorem set_mk {xs : L} (h : xs.length ≤ 300) (h2 : NF 0 xs) : setB xs = true := decide_eq_true ⟨h, h2⟩

def has (xs : L) (d : Int) : Prop := ∃ s ∈ xs, s.1 ≤ d ∧ d ≤ s.2
instance (xs : L) (d : Int) : Decidable (has xs d) := by unfold has; exact inferInstance
theorem has_nil (d : Int) : ¬ has [] d := by rintro ⟨s, h, _⟩; cases h
theorem has_cons (s : Int × Int) (r : L) (d : Int) : has (s :: r) d ↔ (s.1 ≤ d ∧ d ≤ s.2) ∨ has r d := by
  simp [has]
theorem has_append (a b : L) (d : Int) : has (a ++ b) d ↔ has a d ∨ has b d := by
  simp [has, or_and_right, exists_or]
def hasB (xs : L) (d : Int) : Bool := decide (has xs d)
theorem hasB_iff {xs : L} {d : Int} : hasB xs d = true ↔ has xs d := decide_eq_true_iff

def cnt : L → Int
  | [] => 0
  | s :: r => (s.2 - s.1 + 1) + cnt r

theorem NF.mono {lo lo' : Int} {xs : L} (h : NF lo xs) (hl : lo' ≤ lo) : NF lo' xs := by
  cases xs with
  | nil => trivial
  | cons s r => exact ⟨by have := h.1; omega, h.2⟩
theorem NF.ok_of {lo : Int} {xs : L} (h : NF lo xs) : ∀ s ∈ xs, ok s := by
  induction xs generalizing lo with
  | nil => intro s hs; cases hs
  | cons x r ih =>
    intro s hs
    rcases List.mem_cons.1 hs with rfl | hs
    · exact h.2.1
    · exact ih h.2.2 s hs
theorem NF.ge {lo : Int} {xs : L} (h : NF lo xs) {d : Int} (hd : has xs d) : lo ≤ d := by
  induction xs generalizing lo with
  | nil => exact absurd hd (has_nil d)
  | cons x r ih =>
    obtain ⟨h1, h2, h3⟩ := h
    rcases (has_cons _ _ _).1 hd with h4 | h4
    · omega
    · have := ih h3 h4
      unfold ok at h2
      omega
theorem NF.days {lo : Int} {xs : L} (h : NF lo xs) {d : Int} (hd : has xs d) : 0 ≤ d ∧ d ≤ 730499 := by
  obtain ⟨s, hs, h1, h2⟩ := hd
  have := h.ok_of s hs
  unfold ok at this
  omega
theorem nf_unique {lo lo' : Int} {xs ys : L} (hx : NF lo xs) (hy : NF lo' ys) (h : ∀ d, has xs d ↔ has ys d) : xs = ys := by
  induction xs generalizing lo lo' ys with
  | nil =>
    cases ys with
    | nil => rfl
    | cons y r =>
      have h2 := hy.2.1
      unfold ok at h2
      exact absurd ((h y.1).2 ((has_cons _ _ _).2 (.inl ⟨Int.le_refl _, by omega⟩))) (has_nil _)
  | cons x xr ih =>
    cases ys with
    | nil =>
      have h2 := hx.2.1
      unfold ok at h2
      exact absurd ((h x.1).1 ((has_cons _ _ _).2 (.inl ⟨Int.le_refl _, by omega⟩))) (has_nil _)
    | cons y yr =>
      obtain ⟨hx1, hx2, hx3⟩ := hx
      obtain ⟨hy1, hy2, hy3⟩ := hy
      have gx : ∀ d, has xr d → x.2 + 2 ≤ d := fun d hd => hx3.ge hd
      have gy : ∀ d, has yr d → y.2 + 2 ≤ d := fun d hd => hy3.ge hd
      have hh : ∀ d, ((x.1 ≤ d ∧ d ≤ x.2) ∨ has xr d) ↔ ((y.1 ≤ d ∧ d ≤ y.2) ∨ has yr d) := fun d => by rw [← has_cons, ← has_cons]; exact h d
      unfold ok at hx2 hy2
      have e1 : x.1 = y.1 := by
        have a := (hh x.1).1 (.inl ⟨by omega, by omega⟩)
        have b := (hh y.1).2 (.inl ⟨by omega, by omega⟩)
        have a' : y.1 ≤ x.1 := by
          rcases a with a | a
          · omega
          · have := gy _ a; omega
        have b' : x.1 ≤ y.1 := by
          rcases b with b | b
          · omega
          · have := gx _ b; omega
        omega
      have e2 : x.2 = y.2 := by
        rcases Int.lt_trichotomy x.2 y.2 with hlt | heq | hgt
        · have a := (hh (x.2 + 1)).2 (.inl ⟨by omega, by omega⟩)
          rcases a with a | a
          · omega
          · have := gx _ a; omega
        · exact heq
        · have a := (hh (y.2 + 1)).1 (.inl ⟨by omega, by omega⟩)
          rcases a with a | a
          · omega
          · have := gy _ a; omega
      have e : x = y := Prod.ext e1 e2
      subst e
      rw [ih hx3 hy3 fun d => ⟨fun hd => ?_, fun hd => ?_⟩]
      · rcases (hh d).1 (.inr hd) with a | a
        · have := gx _ hd; omega
        · exact a
      · rcases (hh d).2 (.inr hd) with a | a
        · have := gy _ hd; omega
        · exact a

/-! ### Joining -/
def mrg (c : Int × Int) : L → L
  | [] => [c]
  | s :: r => if s.1 ≤ c.2 + 1 then mrg (c.1, max c.2 s.2) r else c :: mrg s r
def merge : L → L
  | [] => []
  | s :: r => mrg s r
/-- In order by their beginnings. -/
def Asc : L → Prop
  | [] => True
  | s :: r => (∀ t ∈ r, s.1 ≤ t.1) ∧ Asc r
theorem mrg_nf {lo : Int} {c : Int × Int} {r : L} (hc : lo ≤ c.1) (h0 : ok c) (ho : ∀ s ∈ r, ok s) (ha : ∀ s ∈ r, c.1 ≤ s.1) (hr : Asc r) : NF lo (mrg c r) := by
  induction r generalizing lo c with
  | nil => exact ⟨hc, h0, trivial⟩
  | cons s r ih =>
    have hs := ho s (List.mem_cons_self ..)
    have h1 := ha s (List.mem_cons_self ..)
    unfold mrg
    split
    · refine ih hc ?_ (fun t ht => ho t (List.mem_cons_of_mem _ ht)) (fun t ht => ha t (List.mem_cons_of_mem _ ht)) hr.2
      unfold ok at *
      refine ⟨h0.1, ?_, ?_⟩ <;> simp <;> omega
    · refine ⟨hc, h0, ih (by omega) hs (fun t ht => ho t (List.mem_cons_of_mem _ ht)) hr.1 hr.2⟩
theorem mrg_has {c : Int × Int} {r : L} (h0 : c.1 ≤ c.2) (ho : ∀ s ∈ r, s.1 ≤ s.2) (ha : ∀ s ∈ r, c.1 ≤ s.1) (hr : Asc r) (d : Int) : has (mrg c r) d ↔ has (c :: r) d := by
  induction r generalizing c with
  | nil => exact Iff.rfl
  | cons s r ih =>
    have hs := ho s (List.mem_cons_self ..)
    have h1 := ha s (List.mem_cons_self ..)
    unfold mrg
    split
    · rw [ih (c := (c.1, max c.2 s.2)) (by simp; omega) (fun t ht => ho t (List.mem_cons_of_mem _ ht)) (fun t ht => ha t (List.mem_cons_of_mem _ ht)) hr.2]
      simp only [has_cons, ← or_assoc]
      refine or_congr ?_ Iff.rfl
      constructor
      · rintro ⟨a, b⟩
        by_cases h : d ≤ c.2
        · exact .inl ⟨a, h⟩
        · exact .inr ⟨by omega, by omega⟩
      · rintro (⟨a, b⟩ | ⟨a, b⟩) <;> exact ⟨by omega, by omega⟩
    · rw [has_cons, ih hs (fun t ht => ho t (List.mem_cons_of_mem _ ht)) hr.1 hr.2, ← has_cons]
theorem merge_nf {r : L} (ho : ∀ s ∈ r, ok s) (hr : Asc r) : NF 0 (merge r) := by
  cases r with
  | nil => trivial
  | cons s r =>
    have hs := ho s (List.mem_cons_self ..)
    exact mrg_nf hs.1 hs (fun t ht => ho t (List.mem_cons_of_mem _ ht)) hr.1 hr.2
theorem merge_has {r : L} (ho : ∀ s ∈ r, ok s) (hr : Asc r) (d : Int) : has (merge r) d ↔ has r d := by
  cases r with
  | nil => exact Iff.rfl
  | cons s r =>
    exact mrg_has (ho s (List.mem_cons_self ..)).2.1 (fun t ht => (ho t (List.mem_cons_of_mem _ ht)).2.1) hr.1 hr.2 d
/-- The list put in after those that begin at the same day or before. -/
def ins (s : Int × Int) : L → L
  | [] => [s]
  | t :: r => if t.1 ≤ s.1 then t :: ins s r else s :: t :: r
theorem ins_mem (s : Int × Int) (r : L) (x : Int × Int) : x ∈ ins s r ↔ x = s ∨ x ∈ r := by
  induction r with
  | nil => simp [ins]
  | cons t r ih =>
    unfold ins
    split
    · simp only [List.mem_cons, ih]
      constructor
      · rintro (h | h | h) <;> simp [h]
      · rintro (h | h | h) <;> simp [h]
    · simp
theorem ins_asc (s : Int × Int) (r : L) (h : Asc r) : Asc (ins s r) := by
  induction r with
  | nil => exact ⟨fun t ht => (by cases ht), trivial⟩
  | cons t r ih =>
    unfold ins
    split
    · refine ⟨fun u hu => ?_, ih h.2⟩
      rcases (ins_mem s r u).1 hu with rfl | hu
      · assumption
      · exact h.1 u hu
    · refine ⟨fun u hu => ?_, h⟩
      rcases List.mem_cons.1 hu with rfl | hu
      · omega
      · have := h.1 u hu; omega
theorem ins_length (s : Int × Int) (r : L) : (ins s r).length = r.length + 1 := by
  induction r with
  | nil => rfl
  | cons t r ih =>
    unfold ins
    split
    · simp [ih]
    · rfl
def sort : L → L → L
  | acc, [] => acc
  | acc, s :: r => sort (ins s acc) r
theorem sort_mem (acc r : L) (x : Int × Int) : x ∈ sort acc r ↔ x ∈ acc ∨ x ∈ r := by
  induction r generalizing acc with
  | nil => simp [sort]
  | cons s r ih =>
    unfold sort
    rw [ih, ins_mem, List.mem_cons]
    constructor
    · rintro ((h | h) | h) <;> simp [h]
    · rintro (h | h | h) <;> simp [h]
theorem sort_asc (acc r : L) (h : Asc acc) : Asc (sort acc r) := by
  induction r generalizing acc with
  | nil => exact h
  | cons s r ih => exact ih _ (ins_asc s acc h)
theorem sort_length (acc r : L) : (sort acc r).length = acc.length + r.length := by
  induction r generalizing acc with
  | nil => simp [sort]
  | cons s r ih =>
    unfold sort
    rw [ih, ins_length, List.length_cons]
    omega
/-- The set of all days of some spans. -/
def make (xs : L) : L := merge (sort [] xs)
theorem make_nf {xs : L} (h : ∀ s ∈ xs, ok s) : NF 0 (make xs) :=
  merge_nf (fun s hs => h s (by simpa using (sort_mem [] xs s).1 hs)) (sort_asc [] xs trivial)
theorem make_has {xs : L} (h : ∀ s ∈ xs, ok s) (d : Int) : has (make xs) d ↔ has xs d := by
  rw [make, merge_has (fun s hs => h s (by simpa using (sort_mem [] xs s).1 hs)) (sort_asc [] xs trivial)]
  simp [has, sort_mem]
/-- Whatever the order of those that begin at the same day: joined they are the same set. -/
theorem merge_any {xs ys : L} (h : ∀ s ∈ xs, ok s) (hm : ∀ x, x ∈ ys ↔ x ∈ xs) (ha : Asc ys) : merge ys = make xs := by
  have hy : ∀ s ∈ ys, ok s := fun s hs => h s ((hm s).1 hs)
  refine nf_unique (merge_nf hy ha) (make_nf h) fun d => ?_
  rw [merge_has hy ha, make_has h]
  simp [has, hm]
theorem mrg_length (c : Int × Int) (r : L) : (mrg c r).length ≤ r.length + 1 := by
  induction r generalizing c with
  | nil => simp [mrg]
  | cons s r ih =>
    unfold mrg
    split
    · have := ih (c.1, max c.2 s.2); simp; omega
    · have := ih s; simp; omega
theorem merge_length (r : L) : (merge r).length ≤ r.length := by
  cases r with
  | nil => simp [merge]
  | cons s r => exact mrg_length s r
theorem make_length (xs : L) : (make xs).length ≤ xs.length := by
  have := merge_length (sort [] xs)
  rw [sort_length] at this
  simpa [make] using this

/-! ### Meeting -/
def both (a b : Int × Int) : L := if max a.1 b.1 ≤ min a.2 b.2 then [(max a.1 b.1, min a.2 b.2)] else []
def meet : L → L → L
  | [], _ => []
  | _ :: _, [] => []
  | a :: ar, b :: br => both a b ++ if a.2 < b.2 then meet ar (b :: br) else meet (a :: ar) br
termination_by a b => a.length + b.length
theorem meet_nil_right (a : L) : meet a [] = [] := by cases a <;> simp [meet]
theorem meet_nil_left (b : L) : meet [] b = [] := by simp [meet]
theorem meet_nf {lo lo' : Int} {a b : L} (ha : NF lo a) (hb : NF lo' b) : NF (max lo lo') (meet a b) := by
  match a, b with
  | [], b => simp [meet, NF]
  | x :: ar, [] => simp [meet, NF]
  | x :: ar, y :: br =>
    have ha0 := ha
    have hb0 := hb
    obtain ⟨a1, a2, a3⟩ := ha
    obtain ⟨b1, b2, b3⟩ := hb
    unfold ok at a2 b2
    unfold meet both
    split
    · rename_i hlt
      split
      · exact ⟨by simp only; omega, by unfold ok; simp only; omega, (meet_nf a3 hb0).mono (by simp only; omega)⟩
      · exact ⟨by simp only; omega, by unfold ok; simp only; omega, (meet_nf ha0 b3).mono (by simp only; omega)⟩
    · split
      · exact (meet_nf a3 hb0).mono (by omega)
      · exact (meet_nf ha0 b3).mono (by omega)
termination_by a.length + b.length
theorem meet_has {lo lo' : Int} {a b : L} (ha : NF lo a) (hb : NF lo' b) (d : Int) : has (meet a b) d ↔ has a d ∧ has b d := by
  match a, b with
  | [], b => simp [meet, has]
  | x :: ar, [] => simp [meet, has]
  | x :: ar, y :: br =>
    have ha0 := ha
    have hb0 := hb
    obtain ⟨a1, a2, a3⟩ := ha
    obtain ⟨b1, b2, b3⟩ := hb
    have ga : has ar d → x.2 + 2 ≤ d := fun h => a3.ge h
    have gb : has br d → y.2 + 2 ≤ d := fun h => b3.ge h
    have hboth : has (both x y) d ↔ (x.1 ≤ d ∧ d ≤ x.2) ∧ (y.1 ≤ d ∧ d ≤ y.2) := by
      unfold both
      split
      · rw [has_cons]
        simp only [has_nil, or_false]
        omega
      · constructor
        · intro h; exact absurd h (has_nil _)
        · intro h; omega
    unfold meet
    rw [has_append, hboth]
    split
    · rename_i hlt
      rw [meet_has a3 hb0 d, has_cons, has_cons]
      constructor
      · rintro (h | ⟨h1, h2⟩)
        · exact ⟨.inl h.1, .inl h.2⟩
        · exact ⟨.inr h1, h2⟩
      · rintro ⟨h1 | h1, h2 | h2⟩
        · exact .inl ⟨h1, h2⟩
        · have := gb h2; omega
        · exact .inr ⟨h1, .inl h2⟩
        · exact .inr ⟨h1, .inr h2⟩
    · rename_i hge
      rw [meet_has ha0 b3 d, has_cons, has_cons]
      constructor
      · rintro (h | ⟨h1, h2⟩)
        · exact ⟨.inl h.1, .inl h.2⟩
        · exact ⟨h1, .inr h2⟩
      · rintro ⟨h1 | h1, h2 | h2⟩
        · exact .inl ⟨h1, h2⟩
        · exact .inr ⟨.inl h1, h2⟩
        · have := ga h1; omega
        · exact .inr ⟨.inr h1, h2⟩
termination_by a.length + b.length
theorem meet_length (a b : L) : (meet a b).length ≤ a.length + b.length := by
  match a, b with
  | [], b => simp [meet]
  | x :: ar, [] => simp [meet]
  | x :: ar, y :: br =>
    have h0 : (both x y).length ≤ 1 := by unfold both; split <;> simp
    unfold meet
    split
    · have := meet_length ar (y :: br); simp at *; omega
    · have := meet_length (x :: ar) br; simp at *; omega
termination_by a.length + b.length

/-! ### What is left -/
def rest (f : Int) : L → L
  | [] => if f ≤ 730499 then [(f, 730499)] else []
  | s :: r => (if f < s.1 then [(f, s.1 - 1)] else []) ++ rest (s.2 + 1) r
theorem rest_nf {f lo : Int} {b : L} (hf : 0 ≤ f) (hl : f ≤ lo) (hb : NF lo b) : NF f (rest f b) := by
  induction b generalizing f lo with
  | nil =>
    unfold rest
    split
    · exact ⟨Int.le_refl _, ⟨hf, by simpa, by simp⟩, trivial⟩
    · trivial
  | cons s r ih =>
    obtain ⟨h1, h2, h3⟩ := hb
    unfold ok at h2
    have h4 := ih (f := s.2 + 1) (by omega) (by omega) h3
    unfold rest
    split
    · exact ⟨Int.le_refl _, ⟨hf, by simp only; omega, by simp only; omega⟩, h4.mono (by simp only; omega)⟩
    · exact h4.mono (by omega)
theorem rest_has {f lo : Int} {b : L} (hf : 0 ≤ f) (hl : f ≤ lo) (hb : NF lo b) (d : Int) : has (rest f b) d ↔ f ≤ d ∧ d ≤ 730499 ∧ ¬ has b d := by
  induction b generalizing f lo with
  | nil =>
    unfold rest
    split
    · rw [has_cons]; simp [has_nil]
    · constructor
      · intro h; exact absurd h (has_nil _)
      · omega
  | cons s r ih =>
    obtain ⟨h1, h2, h3⟩ := hb
    unfold ok at h2
    have g := fun h : has r d => h3.ge h
    unfold rest
    rw [has_append, ih (f := s.2 + 1) (by omega) (by omega) h3, has_cons]
    have hm : has (if f < s.1 then [(f, s.1 - 1)] else []) d ↔ f ≤ d ∧ d < s.1 := by
      split
      · rw [has_cons]; simp only [has_nil, or_false]; omega
      · constructor
        · intro h; exact absurd h (has_nil _)
        · omega
    rw [hm]
    constructor
    · rintro (h | ⟨h4, h5, h6⟩)
      · refine ⟨h.1, by omega, ?_⟩
        rintro (h7 | h7)
        · omega
        · have := g h7; omega
      · refine ⟨by omega, h5, ?_⟩
        rintro (h7 | h7)
        · omega
        · exact h6 h7
    · rintro ⟨h4, h5, h6⟩
      by_cases h7 : d < s.1
      · exact .inl ⟨h4, h7⟩
      · refine .inr ⟨?_, h5, fun h => h6 (.inr h)⟩
        rcases Int.lt_or_le s.2 d with h8 | h8
        · omega
        · exact absurd (.inl ⟨by omega, h8⟩) h6
theorem rest_length (f : Int) (b : L) : (rest f b).length ≤ b.length + 1 := by
  induction b generalizing f with
  | nil => unfold rest; split <;> simp
  | cons s r ih =>
    have := ih (s.2 + 1)
    unfold rest
    split <;> simp <;> omega

/-! ### Shifting -/
def moved (xs : L) (by_ : Int) : L := xs.map fun s => (s.1 + by_, s.2 + by_)
def shift : L → Int → L
  | [], _ => []
  | s :: r, k => (if max 0 (s.1 + k) ≤ min 730499 (s.2 + k) then [(max 0 (s.1 + k), min 730499 (s.2 + k))] else []) ++ shift r k
theorem shift_late {lo : Int} {xs : L} {k : Int} (h : NF lo xs) (hl : 730499 < lo + k) : shift xs k = [] := by
  induction xs generalizing lo with
  | nil => rfl
  | cons s r ih =>
    obtain ⟨h1, h2, h3⟩ := h
    unfold ok at h2
    unfold shift
    rw [if_neg (by omega), ih h3 (by omega)]
    rfl
theorem meet_shift {lo : Int} {xs : L} {k : Int} (h : NF lo xs) : meet (moved xs k) [(0, 730499)] = shift xs k := by
  induction xs generalizing lo with
  | nil => simp [moved, shift, meet]
  | cons s r ih =>
    obtain ⟨h1, h2, h3⟩ := h
    unfold ok at h2
    have e : both (s.1 + k, s.2 + k) (0, 730499) = if max 0 (s.1 + k) ≤ min 730499 (s.2 + k) then [(max 0 (s.1 + k), min 730499 (s.2 + k))] else [] := by
      unfold both
      simp only
      rw [Int.max_comm (s.1 + k) 0, Int.min_comm (s.2 + k) 730499]
    show meet ((s.1 + k, s.2 + k) :: moved r k) [(0, 730499)] = _
    unfold meet shift
    rw [e]
    congr 1
    split
    · exact ih h3
    · rename_i hge
      simp only at hge
      rw [meet_nil_right, shift_late h3 (by omega)]
theorem shift_nf {lo : Int} {xs : L} {k : Int} (h : NF lo xs) : NF (max 0 (lo + k)) (shift xs k) := by
  induction xs generalizing lo with
  | nil => trivial
  | cons s r ih =>
    obtain ⟨h1, h2, h3⟩ := h
    unfold ok at h2
    unfold shift
    split
    · exact ⟨by simp only; omega, ⟨by simp only; omega, by simp only; omega, by simp only; omega⟩, (ih h3).mono (by simp only; omega)⟩
    · exact (ih h3).mono (by omega)
theorem shift_length (xs : L) (k : Int) : (shift xs k).length ≤ xs.length := by
  induction xs with
  | nil => simp [shift]
  | cons s r ih =>
    unfold shift
    split <;> simp <;> omega
theorem shift_has {xs : L} {k : Int} {s : Int × Int} (hs : s ∈ xs) (ho : s.1 ≤ s.2) (h0 : 0 ≤ s.1 + k) (h1 : s.1 + k ≤ 730499) : has (shift xs k) (s.1 + k) := by
  induction xs with
  | nil => cases hs
  | cons t r ih =>
    unfold shift
    rw [has_append]
    rcases List.mem_cons.1 hs with rfl | hs
    · refine .inl ?_
      rw [if_pos (by omega), has_cons]
      exact .inl ⟨by simp only; omega, by simp only; omega⟩
    · exact .inr (ih hs)

/-! ### Days in order -/
def nth : L → Int → Int
  | [], _ => 0
  | s :: r, k => if k ≤ s.2 - s.1 then s.1 + k else nth r (k - (s.2 - s.1 + 1))
theorem cnt_nonneg {lo : Int} {xs : L} (h : NF lo xs) : 0 ≤ cnt xs := by
  induction xs generalizing lo with
  | nil => exact Int.le_refl _
  | cons s r ih =>
    obtain ⟨h1, h2, h3⟩ := h
    have := ih h3
    unfold ok at h2
    unfold cnt
    omega
theorem cnt_le {lo : Int} {xs : L} (h : NF lo xs) (hl : lo ≤ 730500) : cnt xs ≤ 730500 - lo := by
  induction xs generalizing lo with
  | nil => unfold cnt; omega
  | cons s r ih =>
    obtain ⟨h1, h2, h3⟩ := h
    unfold ok at h2
    unfold cnt
    by_cases h4 : s.2 + 2 ≤ 730500
    · have := ih h3 h4; omega
    · cases r with
      | nil => unfold cnt; omega
      | cons t r => obtain ⟨a, b, c⟩ := h3; unfold ok at b; omega
theorem nth_has {lo : Int} {xs : L} {k : Int} (h : NF lo xs) (h0 : 0 ≤ k) (hk : k < cnt xs) : has xs (nth xs k) := by
  induction xs generalizing lo k with
  | nil => unfold cnt at hk; omega
  | cons s r ih =>
    obtain ⟨h1, h2, h3⟩ := h
    unfold ok at h2
    unfold cnt at hk
    unfold nth
    rw [has_cons]
    split
    · exact .inl ⟨by omega, by omega⟩
    · exact .inr (ih h3 (by omega) (by omega))
theorem nth_lt {lo : Int} {xs : L} {k : Int} (h : NF lo xs) (h0 : 0 < k) (hk : k < cnt xs) : nth xs (k - 1) < nth xs k := by
  induction xs generalizing lo k with
  | nil => unfold cnt at hk; omega
  | cons s r ih =>
    obtain ⟨h1, h2, h3⟩ := h
    unfold ok at h2
    unfold cnt at hk
    unfold nth
    split
    · split
      · omega
      · have := h3.ge (nth_has h3 (k := k - (s.2 - s.1 + 1)) (by omega) (by omega))
        omega
    · rw [if_neg (by omega)]
      have := ih h3 (k := k - (s.2 - s.1 + 1)) (by omega) (by omega)
      rw [show k - 1 - (s.2 - s.1 + 1) = k - (s.2 - s.1 + 1) - 1 by omega]
      exact this

/-! ### How many days -/
def num (p : Int → Bool) : Nat → Int
  | 0 => 0
  | n + 1 => num p n + if p (n : Int) then 1 else 0
theorem num_add {p q r t : Int → Bool} (n : Nat) (h : ∀ d : Int, (if p d then (1 : Int) else 0) + (if q d then 1 else 0) = (if r d then 1 else 0) + (if t d then 1 else 0)) :
    num p n + num q n = num r n + num t n := by
  induction n with
  | zero => rfl
  | succ n ih =>
    have := h (n : Int)
    unfold num
    omega
theorem num_false {p : Int → Bool} (n : Nat) (h : ∀ d : Int, 0 ≤ d → d < n → p d = false) : num p n = 0 := by
  induction n with
  | zero => rfl
  | succ n ih =>
    unfold num
    rw [ih fun d a b => h d a (by omega), h (n : Int) (by omega) (by omega)]
    rfl
theorem num_span (f t : Int) (n : Nat) (h0 : 0 ≤ f) (h1 : f ≤ t + 1) (h2 : t < n) : num (fun d => decide (f ≤ d ∧ d ≤ t)) n = t - f + 1 := by
  induction n generalizing t with
  | zero => unfold num; omega
  | succ n ih =>
    unfold num
    by_cases h : t = n
    · by_cases h3 : f ≤ t
      · have e : num (fun d => decide (f ≤ d ∧ d ≤ t)) n = num (fun d => decide (f ≤ d ∧ d ≤ t - 1)) n := by
          have := num_add (p := fun d => decide (f ≤ d ∧ d ≤ t)) (q := fun _ => false) (r := fun d => decide (f ≤ d ∧ d ≤ t - 1)) (t := fun d => decide (d = t)) n (fun d => by
            by_cases x : d = t
            · subst x
              simp [h3]
              omega
            · by_cases y : f ≤ d ∧ d ≤ t
              · have z : f ≤ d ∧ d ≤ t - 1 := ⟨y.1, by omega⟩
                simp [x, y, z]
              · have z : ¬ (f ≤ d ∧ d ≤ t - 1) := by omega
                simp [x, y, z])
          rw [num_false (p := fun _ => false) n (fun _ _ _ => rfl), num_false (p := fun d => decide (d = t)) n (fun d a b => by simp; omega)] at this
          omega
        rw [e, ih (t - 1) (by omega) (by omega), if_pos (by simp; omega)]
        omega
      · rw [num_false n (fun d a b => by simp; omega), if_neg (by simp; omega)]
        omega
    · rw [ih t h1 (by omega), if_neg (by simp; omega)]
      omega
theorem cnt_num {lo : Int} {xs : L} (h : NF lo xs) : cnt xs = num (hasB xs) 730500 := by
  induction xs generalizing lo with
  | nil => rw [num_false _ fun d _ _ => by simp [hasB, has_nil]]; rfl
  | cons s r ih =>
    obtain ⟨h1, h2, h3⟩ := h
    unfold ok at h2
    have e := num_add (p := hasB (s :: r)) (q := fun _ => false) (r := fun d => decide (s.1 ≤ d ∧ d ≤ s.2)) (t := hasB r) 730500 (fun d => by
      have g := fun h : has r d => h3.ge h
      have hc := has_cons s r d
      simp only [hasB, decide_eq_true_eq, hc]
      by_cases a : s.1 ≤ d ∧ d ≤ s.2
      · have b : ¬ has r d := fun h => by have := g h; omega
        simp [a, b]
      · by_cases b : has r d
        · simp [a, b]
        · simp [a, b])
    rw [num_false (p := fun _ => false) _ (fun _ _ _ => rfl), num_span s.1 s.2 730500 (by omega) (by omega) (by omega), ← ih h3] at e
    unfold cnt
    omega
/-- The days of a union and of a meeting are ar many ar those of both sets. -/
theorem cnt_union {a b : L} (ha : NF 0 a) (hb : NF 0 b) : cnt a + cnt b = cnt (make (a ++ b)) + cnt (meet a b) := by
  have hab : ∀ s ∈ a ++ b, ok s := fun s hs => by
    rcases List.mem_append.1 hs with h | h
    · exact ha.ok_of s h
    · exact hb.ok_of s h
  rw [cnt_num ha, cnt_num hb, cnt_num (make_nf hab), cnt_num (meet_nf ha hb)]
  refine num_add 730500 fun d => ?_
  have h1 := make_has hab d
  rw [has_append] at h1
  have h2 := meet_has ha hb d
  simp only [hasB, decide_eq_true_eq, h1, h2]
  by_cases x : has a d <;> by_cases y : has b d <;> simp [x, y]
theorem cnt_without {a b : L} (ha : NF 0 a) (hb : NF 0 b) : cnt (meet a (rest 0 b)) = cnt a - cnt (meet a b) := by
  have hr := rest_nf (Int.le_refl 0) (Int.le_refl 0) hb
  rw [cnt_num ha, cnt_num (meet_nf ha hb), cnt_num (meet_nf ha hr)]
  have := num_add (p := hasB (meet a (rest 0 b))) (q := hasB (meet a b)) (r := hasB a) (t := fun _ => false) 730500 (fun d => by
    have h1 := meet_has ha hr d
    rw [rest_has (Int.le_refl 0) (Int.le_refl 0) hb] at h1
    have h2 := meet_has ha hb d
    have h3 := fun h : has a d => ha.days h
    simp only [hasB, decide_eq_true_eq, h1, h2]
    by_cases x : has a d
    · have := h3 x
      by_cases y : has b d <;> simp [x, y, this]
    · by_cases y : has b d <;> simp [x, y])
  rw [num_false (p := fun _ => false) _ (fun _ _ _ => rfl)] at this
  omega

end Go.Proofs.YtfhcakpmlppbkaaDoor.Sets

namespace Go.Proofs.YtfhcakpmlppbkaaDoor.Sets
open Go.RowKit

/-- The slice with address A and length n reads as the spans xs. -/
def Rd (w : World) (A : Option Addr) (n : Nat) (xs : L) : Prop :=
  xs.length = n ∧ (0 < n → ∃ g off, A = some ⟨g, off, none⟩ ∧ g < w.heap.size ∧
    ∀ k (h : k < xs.length), w.cell? ⟨g, off + k * 2, none⟩ = some (.int .i64 xs[k].1) ∧ w.cell? ⟨g, off + k * 2 + 1, none⟩ = some (.int .i64 xs[k].2))

/-- The slice is a row of the call's own, in a block from B on and below U. -/
def Row (w : World) (B U : Nat) (A : Option Addr) (n c : Nat) (xs : L) : Prop :=
  xs.length = n ∧ n ≤ c ∧ U ≤ w.heap.size ∧ (0 < n → ∃ g off cs, A = some ⟨g, off, none⟩ ∧ B ≤ g ∧ g < U ∧ Blk w g 40 cs ∧
    ∀ k (h : k < xs.length), cs[off + k * 2]? = some (.int .i64 xs[k].1) ∧ cs[off + k * 2 + 1]? = some (.int .i64 xs[k].2))

/-- Only blocks from B on and below U have changed. -/
structure Chg (B U : Nat) (w w' : World) : Prop where
  os : w'.os = w.os
  tape : w'.tape = w.tape
  output : w'.output = w.output
  size : w.heap.size ≤ w'.heap.size
  block : ∀ i, i < w.heap.size → (i < B ∨ U ≤ i) → w'.heap[i]? = w.heap[i]?

section
variable {w w' : World} {A : Option Addr} {n c B U : Nat} {xs : L}
theorem Rd.at_ (h : Rd w A n xs) {k : Nat} (hk : k < n) : ∃ g off, ∃ hl : k < xs.length, A = some ⟨g, off, none⟩ ∧ g < w.heap.size ∧
    w.cell? ⟨g, off + k * 2, none⟩ = some (.int .i64 xs[k].1) ∧ w.cell? ⟨g, off + k * 2 + 1, none⟩ = some (.int .i64 xs[k].2) := by
  obtain ⟨hl, hc⟩ := h
  obtain ⟨g, off, rfl, hg, hcell⟩ := hc (by omega)
  exact ⟨g, off, by omega, rfl, hg, hcell k (by omega)⟩
theorem Rd.below (h : Rd w A n xs) (hb : Below w.heap.size w w') : Rd w' A n xs :=
  ⟨h.1, fun hn => by
    obtain ⟨g, off, e, hg, hcell⟩ := h.2 hn
    refine ⟨g, off, e, Nat.lt_of_lt_of_le hg hb.size, fun k hk => ?_⟩
    obtain ⟨c0, c1⟩ := hcell k hk
    exact ⟨(hb.cell (p := ⟨g, _, none⟩) hg).trans c0, (hb.cell (p := ⟨g, _, none⟩) hg).trans c1⟩⟩
theorem Rd.nil : Rd w A 0 [] := ⟨rfl, fun h => absurd h (Nat.lt_irrefl _)⟩
theorem Row.rd (h : Row w B U A n c xs) : Rd w A n xs :=
  ⟨h.1, fun hn => by
    obtain ⟨g, off, cs, e, _, hg, hb, hcell⟩ := h.2.2.2 hn
    refine ⟨g, off, e, Nat.lt_of_lt_of_le hg h.2.2.1, fun k hk => ?_⟩
    rw [hb.cell, hb.cell]
    exact hcell k hk⟩
theorem Row.below (h : Row w B U A n c xs) (hb : Below w.heap.size w w') : Row w' B U A n c xs :=
  ⟨h.1, h.2.1, Nat.le_trans h.2.2.1 hb.size, fun hn => by
    obtain ⟨g, off, cs, e, h1, hg, hk, hcell⟩ := h.2.2.2 hn
    exact ⟨g, off, cs, e, h1, hg, hk.below hb hk.lt, hcell⟩⟩
theorem Row.chg {B' U' : Nat} (h : Row w B U A n c xs) (hc : Chg B' U' w w') (hd : U ≤ B' ∨ U' ≤ B) : Row w' B U A n c xs :=
  ⟨h.1, h.2.1, Nat.le_trans h.2.2.1 hc.size, fun hn => by
    obtain ⟨g, off, cs, e, h1, hg, hk, hcell⟩ := h.2.2.2 hn
    exact ⟨g, off, cs, e, h1, hg, (hc.block g hk.lt (by omega)).trans hk, hcell⟩⟩
theorem Row.mono {B' U' : Nat} (h : Row w B U A n c xs) (hB : B' ≤ B) (hU : U ≤ U') (hs : U' ≤ w.heap.size) : Row w B' U' A n c xs :=
  ⟨h.1, h.2.1, hs, fun hn => by
    obtain ⟨g, off, cs, e, h1, hg, hk, hcell⟩ := h.2.2.2 hn
    exact ⟨g, off, cs, e, by omega, by omega, hk, hcell⟩⟩
theorem Row.nil {c : Nat} (h : U ≤ w.heap.size) : Row w B U A 0 c [] := ⟨rfl, Nat.zero_le _, h, fun h => absurd h (Nat.lt_irrefl _)⟩
theorem Chg.refl (w : World) : Chg B U w w := ⟨rfl, rfl, rfl, Nat.le_refl _, fun _ _ _ => rfl⟩
theorem Chg.setCell (h : Chg B U w w') {p : Addr} (h1 : B ≤ p.block) (h2 : p.block < U) (u : Value) : Chg B U w (w'.setCell p u) :=
  ⟨h.os, h.tape, h.output, by simpa [World.setCell] using h.size, fun i hi hr => (Below.heap_setCell w' p u i (by omega)).trans (h.block i hi hr)⟩
theorem Chg.below {B0 : Nat} (h : Chg B U w w') (hB : B0 ≤ B) (hs : B0 ≤ w.heap.size) : Below B0 w w' :=
  ⟨h.os, h.tape, h.output, h.size, fun k hk => h.block k (by omega) (.inl (by omega))⟩
end

/-- A row of n spans, of which those before k are marked. -/
def MarkRow (w : World) (B U : Nat) (A : Option Addr) (n k : Nat) (k0 : Int) : Prop :=
  0 < n → ∃ g off cs, A = some ⟨g, off, none⟩ ∧ B ≤ g ∧ g < U ∧ Blk w g 40 cs ∧
    ∀ j, j < n → ∃ u, cs[off + j * 2]? = some u ∧ ∃ u', cs[off + j * 2 + 1]? = some u' ∧ (j < k → u = .int .i64 (k0 + 2 * j) ∧ u' = .int .i64 (k0 + 2 * j + 1))

/-- The spans that marking from k on leaves. -/
def marks (k : Int) : Nat → L
  | 0 => []
  | n + 1 => marks k n ++ [(k + 2 * n, k + 2 * n + 1)]
theorem marks_length (k : Int) (n : Nat) : (marks k n).length = n := by
  induction n with
  | zero => rfl
  | succ n ih => simp [marks, ih]
theorem marks_get (k : Int) (n j : Nat) (h : j < (marks k n).length) : (marks k n)[j] = (k + 2 * j, k + 2 * j + 1) := by
  induction n with
  | zero => simp [marks] at h
  | succ n ih =>
    rw [marks_length] at h
    simp only [marks, List.getElem_append, marks_length]
    split
    · exact ih _
    · have : j = n := by omega
      subst this
      simp

set_option maxHeartbeats 400000 in
theorem laws_held (A : Option Addr) (n c : Nat) (k0 : Int) (h0 : 0 ≤ k0) (h1 : k0 ≤ 4000000) (hn : n ≤ 2000000) (w : World) (h : Rd w A n (marks k0 n)) :
    Calls Tryd.prog 9 #[.slice A n c, .int .i64 k0] w fun e w' => e = .returned (.int .i64 (k0 + 2 * n)) ∧ w = w' := by
  go_enter Tryd.func9, Tryd.ntmps9
  go_wp2_with fail
  go_loop [1, 5] (fun t i => ∃ k : Nat, k ≤ n ∧ i = .int .i64 k ∧ t = .int .i64 (k0 + 2 * k)) (fun _ i => n - (intOf i).toNat)
  case atStart => exact ⟨0, by omega, rfl, by simp⟩
  case round =>
    obtain ⟨k, hk, rfl, rfl⟩ := hrel
    by_cases hlt : k < n
    · obtain ⟨g, off, hl, rfl, hg, c0, c1⟩ := h.at_ hlt
      rw [marks_get] at c0 c1
      go_wp2_with fail
      go_round
      case rel => exact ⟨k + 1, by omega, by go_num, by go_num⟩
      case measure => simp [intOf]; omega
    · have e : k = n := by omega
      subst e
      go_wp2_with fail
      go_ret
      exact ⟨rfl, rfl⟩

set_option maxHeartbeats 400000 in
theorem laws_mark (A : Option Addr) (n c B U : Nat) (xs : L) (k0 : Int) (h0 : 0 ≤ k0) (h1 : k0 ≤ 4000000) (hn : n ≤ 2000000) (w : World) (h : Row w B U A n c xs) :
    Calls Tryd.prog 8 #[.slice A n c, .int .i64 k0] w fun e w' => e = .returned (.int .i64 (k0 + 2 * n)) ∧ Row w' B U A n c (marks k0 n) ∧ Chg B U w w' := by
  obtain ⟨hl, hnc, hU, hc⟩ := h
  go_enter Tryd.func8, Tryd.ntmps8
  go_wp2_with fail
  go_loopg [1, 5] n (fun m t i wr => ∃ k : Nat, k ≤ n ∧ m = n - k ∧ i = .int .i64 k ∧ t = .int .i64 (k0 + 2 * k) ∧ Chg B U w wr ∧ MarkRow wr B U A n k k0)
  case atStart => exact ⟨0, by omega, by omega, rfl, by simp, Chg.refl _, fun hn => by
    obtain ⟨g, off, cs, e, h1, hg, hk, hcell⟩ := hc hn
    exact ⟨g, off, cs, e, h1, hg, hk, fun j hj => ⟨_, (hcell j (by omega)).1, _, (hcell j (by omega)).2, fun h => absurd h (by omega)⟩⟩⟩
  case round =>
    obtain ⟨k, hk, hm, rfl, rfl, hch, hrow⟩ := hrel
    subst hm
    by_cases hlt : k < n
    · obtain ⟨g, off, cs, rfl, hB, hg, hb, hcell⟩ := hrow (by omega)
      obtain ⟨u, c0, u', c1, -⟩ := hcell k hlt
      have d0 := (hb.cell (off + k * 2)).trans c0
      have d1 := (hb.cell (off + k * 2 + 1)).trans c1
      have f0 := hb.frozen (off + k * 2)
      have f1 := hb.frozen (off + k * 2 + 1)
      have g0 : cs.size = (cs.setIfInBounds (off + k * 2) (.int .i64 (k0 + 2 * k))).size := by simp
      have nb := (hb.set_ (off + k * 2) (.int .i64 (k0 + 2 * k))).set_ (off + k * 2 + 1) (.int .i64 (k0 + 2 * k + 1))
      have NB := Lib.hid nb
      have HC := Lib.hid hcell
      clear hcell nb g0
      go_wp2_with fail
      go_roundg (n - (k + 1))
      case measure => omega
      case rel =>
        refine ⟨k + 1, by omega, by omega, by go_num, by go_num, (hch.setCell (p := ⟨g, _, none⟩) hB hg _).setCell (p := ⟨g, _, none⟩) hB hg _, fun _ => ⟨g, off, _, rfl, hB, hg, NB.out, fun j hj => ?_⟩⟩
        obtain ⟨v, e0, v', e1, hv⟩ := HC.out j hj
        have s0 : off + k * 2 < cs.size := by
          rcases Nat.lt_or_ge (off + k * 2) cs.size with h | h
          · exact h
          · rw [Array.getElem?_eq_none h] at c0; cases c0
        have s1 : off + k * 2 + 1 < cs.size := by
          rcases Nat.lt_or_ge (off + k * 2 + 1) cs.size with h | h
          · exact h
          · rw [Array.getElem?_eq_none h] at c1; cases c1
        by_cases hjk : j = k
        · subst hjk
          refine ⟨.int .i64 (k0 + 2 * j), ?_, .int .i64 (k0 + 2 * j + 1), ?_, fun _ => ⟨rfl, rfl⟩⟩
          · rw [Array.getElem?_setIfInBounds_ne (by omega), Array.getElem?_setIfInBounds_self_of_lt (by omega)]
          · rw [Array.getElem?_setIfInBounds_self_of_lt (by simp; omega)]
        · refine ⟨v, ?_, v', ?_, fun h => hv (by omega)⟩
          · rw [Array.getElem?_setIfInBounds_ne (by omega), Array.getElem?_setIfInBounds_ne (by omega)]; exact e0
          · rw [Array.getElem?_setIfInBounds_ne (by omega), Array.getElem?_setIfInBounds_ne (by omega)]; exact e1
    · have e : k = n := by omega
      subst e
      go_wp2_with fail
      go_ret
      refine ⟨rfl, ⟨marks_length _ _, hnc, Nat.le_trans hU hch.size, fun hn => ?_⟩, hch⟩
      obtain ⟨g, off, cs, e, h1, hg, hk, hcell⟩ := hrow hn
      refine ⟨g, off, cs, e, h1, hg, hk, fun j hj => ?_⟩
      rw [marks_length] at hj
      obtain ⟨u, e0, u', e1, hv⟩ := hcell j hj
      obtain ⟨rfl, rfl⟩ := hv hj
      rw [marks_get]
      exact ⟨e0, e1⟩

theorem info_span : (Tryd.prog.info? 40).map (fun i => (i.zero, i.size, i.bytes)) = some (some (.agg #[.int .i64 0, .int .i64 0]), 2, 16) := by kernel_rfl
theorem run_make_spans (n : Nat) (hn : n ≤ 2000000) (w : World) :
    (Instr.makeSlice 22 (.int .i64 (n : Int)) (.int .i64 (n : Int))).run Tryd.prog w = .ok (.slice (some ⟨w.heap.size, 0, none⟩) n n) (w.alloc (.cells (madeCells #[.int .i64 0, .int .i64 0] (n * 2)) 40)) := by
  obtain ⟨i, hi, hz, h1, h2⟩ := info_parts info_span
  have h := run_make (P := Tryd.prog) w 22 40 i _ Tryd.underlying22 hi hz .i64 .i64 n n (by omega) (by omega) (by rw [h2]; omega) (by omega)
  rw [h1] at h
  simpa [Value.cells] using h
/-- A row that the call fills: its first k spans are those of xs. -/
def Fill (w : World) (g k n : Nat) (xs : L) : Prop :=
  ∃ cs : Array Value, cs.size = n * 2 ∧ Blk w g 40 cs ∧ ∀ j (h : j < xs.length), j < k → cs[j * 2]? = some (.int .i64 xs[j].1) ∧ cs[j * 2 + 1]? = some (.int .i64 xs[j].2)
theorem Fill.row {w : World} {B g n c : Nat} {xs : L} (h : Fill w g xs.length n xs) (hn : xs.length ≤ c) (hB : B ≤ g) : Row w B w.heap.size (some ⟨g, 0, none⟩) xs.length c xs :=
  ⟨rfl, hn, Nat.le_refl _, fun _ => by
    obtain ⟨cs, hs, hb, hc⟩ := h
    refine ⟨g, 0, cs, rfl, hB, hb.lt, hb, fun k hk => ?_⟩
    simpa using hc k hk hk⟩
theorem Fill.step {w : World} {g k n : Nat} {xs : L} (h : Fill w g k n xs) (hk : k < xs.length) (hn : k < n) :
    Fill ((w.setCell ⟨g, k * 2, none⟩ (.int .i64 xs[k].1)).setCell ⟨g, k * 2 + 1, none⟩ (.int .i64 xs[k].2)) g (k + 1) n xs := by
  obtain ⟨cs, hs, hb, hc⟩ := h
  refine ⟨_, ?_, (hb.set_ (k * 2) _).set_ (k * 2 + 1) _, fun j hj hjk => ?_⟩
  · simpa using hs
  · by_cases e : j = k
    · subst e
      refine ⟨?_, ?_⟩
      · rw [Array.getElem?_setIfInBounds_ne (by omega), Array.getElem?_setIfInBounds_self_of_lt (by omega)]
      · rw [Array.getElem?_setIfInBounds_self_of_lt (by simp; omega)]
    · rw [Array.getElem?_setIfInBounds_ne (by omega), Array.getElem?_setIfInBounds_ne (by omega), Array.getElem?_setIfInBounds_ne (by omega), Array.getElem?_setIfInBounds_ne (by omega)]
      exact hc j hj (by omega)
theorem Fill.cells {w : World} {g k n : Nat} {xs : L} (h : Fill w g k n xs) {j : Nat} (hj : j < n) :
    (∃ u, w.cell? ⟨g, j * 2, none⟩ = some u) ∧ (∃ u, w.cell? ⟨g, j * 2 + 1, none⟩ = some u) ∧ w.frozen? ⟨g, j * 2, none⟩ = false ∧ w.frozen? ⟨g, j * 2 + 1, none⟩ = false := by
  obtain ⟨cs, hs, hb, hc⟩ := h
  exact ⟨⟨_, (hb.cell _).trans (Array.getElem?_eq_getElem (by omega))⟩, ⟨_, (hb.cell _).trans (Array.getElem?_eq_getElem (by omega))⟩, hb.frozen _, hb.frozen _⟩
theorem Fill.below {w w' : World} {g k n : Nat} {xs : L} (h : Fill w g k n xs) (hb : Below w.heap.size w w') : Fill w' g k n xs := by
  obtain ⟨cs, hs, hk, hc⟩ := h
  exact ⟨cs, hs, hk.below hb hk.lt, hc⟩

theorem laws_eqSpan (f t : Int) (w : World) :
    Calls Tryd.prog 22 #[.agg #[.int .i64 f, .int .i64 t], .agg #[.int .i64 f, .int .i64 t]] w fun e w' => e = .returned (.bool true) ∧ Below w.heap.size w w' := by
  go_enter Tryd.func22, Tryd.ntmps22
  go_wp2
  go_ret
  exact ⟨rfl, ((Below.refl _ _).alloc (Nat.le_refl _) _).alloc (by simp) _⟩

set_option maxHeartbeats 400000 in
set_option maxRecDepth 10000 in
theorem laws_eqSpans (A A' : Option Addr) (n c c' : Nat) (xs : L) (hn : n ≤ 2000000) (w : World) (h : Rd w A n xs) (h' : Rd w A' n xs) :
    Calls Tryd.prog 7 #[.slice A n c, .slice A' n c'] w fun e w' => e = .returned (.bool true) ∧ Below w.heap.size w w' := by
  go_enter Tryd.func7, Tryd.ntmps7
  go_wp2_with fail
  go_loopg [5] n (fun m i wr => ∃ k : Nat, k ≤ n ∧ m = n - k ∧ i = .int .i64 k ∧ Below w.heap.size w wr)
  case atStart => exact ⟨0, by omega, by omega, rfl, Below.refl _ _⟩
  case round =>
    obtain ⟨k, hk, hm, rfl, hb⟩ := hrel
    subst hm
    by_cases hlt : k < n
    · obtain ⟨g, off, hl, rfl, hg, c0, c1⟩ := (h.below hb).at_ hlt
      obtain ⟨g', off', hl', rfl, hg', c0', c1'⟩ := (h'.below hb).at_ hlt
      go_wp2_with fail
      refine wp_region_still_tail 8 (by kernel_rfl) (by kernel_rfl) ?_
      change wpStill _ _ (wr.drew) (fun a => wpList _ _ _ _ a (wr.drew)) _ _
      have hb2 : Below w.heap.size w (wr.drew) := hb.drew
      have hz : (wr.drew).cell? = wr.cell? := rfl
      rw [← hz] at c0 c1 c0' c1'
      clear hb hz h h' hg hg'
      generalize wr.drew = w2 at hb2 c0 c1 c0' c1' ⊢
      simp only [List.take_succ_cons, List.take_zero, List.drop_succ_cons, List.drop_zero]
      iterate 8 still_step
      refine wpStill_nil ?_
      go_wp2_with fail
      refine (laws_eqSpan _ _ _).mono ?_
      rintro e w3 ⟨rfl, hb3⟩
      go_wp2_with fail
      go_roundg (n - (k + 1))
      case measure => omega
      case rel => exact ⟨k + 1, by omega, by omega, by go_num, hb2.trans (hb3.mono hb2.size)⟩
    · go_wp2_with fail
      go_ret
      exact ⟨rfl, hb⟩

end Go.Proofs.YtfhcakpmlppbkaaDoor.Sets
