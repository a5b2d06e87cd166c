/- Plain facts: which texts are texts of dates, and of which. -/
import Derived.Test.YtkmkfpglnmpnmaaDoorReadI
namespace Go.Proofs.YtkmkfpglnmpnmaaDoor
open Go.RowKit

/-- What reading a text answers: the date whose text it is, or a refusal. -/
def IsRead (l : List UInt8) (y m d : Int) (b : Bool) : Prop :=
  (b = true ∧ (Cal.valid false y m d ∨ Cal.valid true y m d) ∧ Txt.date y m d = l) ∨
  (b = false ∧ y = 0 ∧ m = 0 ∧ d = 0 ∧ ∀ y' m' d', (Cal.valid false y' m' d' ∨ Cal.valid true y' m' d') → Txt.date y' m' d' ≠ l)

theorem either_bd {y m d : Int} (h : Cal.valid false y m d ∨ Cal.valid true y m d) : (1 ≤ y ∧ y ≤ 2000) ∧ (1 ≤ m ∧ m ≤ 12) ∧ (1 ≤ d ∧ d ≤ 31) := by
  rcases h with h | h <;> exact valid_bd h

theorem date_inj {y m d y' m' d' : Int} (h : Cal.valid false y m d ∨ Cal.valid true y m d) (h' : Cal.valid false y' m' d' ∨ Cal.valid true y' m' d') (e : Txt.date y m d = Txt.date y' m' d') : y = y' ∧ m = m' ∧ d = d' := by
  obtain ⟨⟨a1, a2⟩, ⟨a3, a4⟩, a5, a6⟩ := either_bd h
  obtain ⟨⟨b1, b2⟩, ⟨b3, b4⟩, b5, b6⟩ := either_bd h'
  have s := Txt.split_date y m d
  rw [e, Txt.split_date] at s
  injection s with s1 s
  injection s with s2 s
  injection s with s3 _
  refine ⟨?_, ?_, ?_⟩
  · rw [← Txt.plain_p4 y (by omega) (by omega), ← Txt.plain_p4 y' (by omega) (by omega), s1]
  · rw [← Txt.plain_p2 m (by omega) (by omega), ← Txt.plain_p2 m' (by omega) (by omega), s2]
  · rw [← Txt.plain_p2 d (by omega) (by omega), ← Txt.plain_p2 d' (by omega) (by omega), s3]

theorem IsRead.uniq {l : List UInt8} {y m d : Int} {b : Bool} {y' m' d' : Int} {b' : Bool} (h : IsRead l y m d b) (h' : IsRead l y' m' d' b') : y = y' ∧ m = m' ∧ d = d' ∧ b = b' := by
  rcases h with ⟨rfl, hv, e⟩ | ⟨rfl, rfl, rfl, rfl, hn⟩ <;> rcases h' with ⟨rfl, hv', e'⟩ | ⟨rfl, rfl, rfl, rfl, hn'⟩
  · obtain ⟨a, b, c⟩ := date_inj hv hv' (e.trans e'.symm)
    exact ⟨a, b, c, rfl⟩
  · exact absurd e (hn' _ _ _ hv)
  · exact absurd e' (hn _ _ _ hv')
  · exact ⟨rfl, rfl, rfl, rfl⟩

theorem dg_eq {n : Int} {c : UInt8} (_hc : Txt.isDg c = true) (h : n % 10 = (c.toNat : Int) - 48) : Txt.dg n = c := by
  apply UInt8.toNat_inj.1
  rw [Txt.dg_lt]
  omega
theorem isDg_bd {c : UInt8} (hc : Txt.isDg c = true) : (48 : Int) ≤ c.toNat ∧ (c.toNat : Int) ≤ 57 := by
  unfold Txt.isDg at hc
  simp at hc
  omega
theorem p4_of {a b c d : UInt8} (h : allDg [a, b, c, d] = true) : Txt.p4 (Txt.plain [a, b, c, d]) = [a, b, c, d] := by
  simp [allDg] at h
  obtain ⟨ha, hb, hc, hd⟩ := h
  have xa := isDg_bd ha
  have xb := isDg_bd hb
  have xc := isDg_bd hc
  have xd := isDg_bd hd
  have e : Txt.plain [a, b, c, d] = 10 * (10 * (10 * (10 * 0 + ((a.toNat : Int) - 48)) + ((b.toNat : Int) - 48)) + ((c.toNat : Int) - 48)) + ((d.toNat : Int) - 48) := by
    simp only [Txt.plain, List.foldl, ha, hb, hc, hd, if_true]
  rw [e]
  unfold Txt.p4
  rw [dg_eq ha (by omega), dg_eq hb (by omega), dg_eq hc (by omega), dg_eq hd (by omega)]
theorem p2_of {a b : UInt8} (h : allDg [a, b] = true) : Txt.p2 (Txt.plain [a, b]) = [a, b] := by
  simp [allDg] at h
  obtain ⟨ha, hb⟩ := h
  have xa := isDg_bd ha
  have xb := isDg_bd hb
  have e : Txt.plain [a, b] = 10 * (10 * 0 + ((a.toNat : Int) - 48)) + ((b.toNat : Int) - 48) := by
    simp only [Txt.plain, List.foldl, ha, hb, if_true]
  rw [e]
  unfold Txt.p2
  rw [dg_eq ha (by omega), dg_eq hb (by omega)]
theorem allDg_p4 (n : Int) : allDg (Txt.p4 n) = true := by simp [allDg, Txt.p4, Txt.isDg_dg]
theorem allDg_p2 (n : Int) : allDg (Txt.p2 n) = true := by simp [allDg, Txt.p2, Txt.isDg_dg]

/-- The three numbers of a text of ten bytes. -/
def yy (l : List UInt8) : List UInt8 := l.take 4
def mm (l : List UInt8) : List UInt8 := (l.drop 5).take 2
def dd (l : List UInt8) : List UInt8 := l.drop 8

theorem date_parts (y m d : Int) : (Txt.date y m d).length = 10 ∧ (Txt.date y m d)[4]? = some 45 ∧ (Txt.date y m d)[7]? = some 45 ∧ yy (Txt.date y m d) = Txt.p4 y ∧ mm (Txt.date y m d) = Txt.p2 m ∧ dd (Txt.date y m d) = Txt.p2 d := by
  simp [Txt.date, Txt.p4, Txt.p2, yy, mm, dd]

theorem parts_date {l : List UInt8} (h : l.length = 10) (h4 : l[4]? = some 45) (h7 : l[7]? = some 45) (a1 : allDg (yy l) = true) (a2 : allDg (mm l) = true) (a3 : allDg (dd l) = true) :
    Txt.date (Txt.plain (yy l)) (Txt.plain (mm l)) (Txt.plain (dd l)) = l := by
  match l, h with
  | [b0, b1, b2, b3, b4, b5, b6, b7, b8, b9], _ =>
    simp at h4 h7
    subst h4 h7
    simp only [yy, mm, dd, List.take, List.drop] at a1 a2 a3 ⊢
    unfold Txt.date
    rw [p4_of a1, p2_of a2, p2_of a3]
    rfl

/-- What impl answers. -/
theorem isRead_no {l : List UInt8} (h : l.length = 10 → l[4]? = some 45 → l[7]? = some 45 → allDg (yy l) = true → allDg (mm l) = true → allDg (dd l) = true → ¬ (Cal.valid false (Txt.plain (yy l)) (Txt.plain (mm l)) (Txt.plain (dd l)) ∨ Cal.valid true (Txt.plain (yy l)) (Txt.plain (mm l)) (Txt.plain (dd l)))) : IsRead l 0 0 0 false := by
  refine .inr ⟨rfl, rfl, rfl, rfl, fun y m d hv e => ?_⟩
  obtain ⟨⟨a1, a2⟩, ⟨a3, a4⟩, a5, a6⟩ := either_bd hv
  obtain ⟨p1, p2, p3, p4, p5, p6⟩ := date_parts y m d
  rw [e] at p1 p2 p3 p4 p5 p6
  refine h p1 p2 p3 (by rw [p4]; exact allDg_p4 y) (by rw [p5]; exact allDg_p2 m) (by rw [p6]; exact allDg_p2 d) ?_
  rw [p4, p5, p6, Txt.plain_p4 y (by omega) (by omega), Txt.plain_p2 m (by omega) (by omega), Txt.plain_p2 d (by omega) (by omega)]
  exact hv
theorem isRead_yes {l : List UInt8} (h : l.length = 10) (h4 : l[4]? = some 45) (h7 : l[7]? = some 45) (a1 : allDg (yy l) = true) (a2 : allDg (mm l) = true) (a3 : allDg (dd l) = true)
    (hv : Cal.valid false (Txt.plain (yy l)) (Txt.plain (mm l)) (Txt.plain (dd l)) ∨ Cal.valid true (Txt.plain (yy l)) (Txt.plain (mm l)) (Txt.plain (dd l))) : IsRead l (Txt.plain (yy l)) (Txt.plain (mm l)) (Txt.plain (dd l)) true :=
  .inl ⟨rfl, hv, parts_date h h4 h7 a1 a2 a3⟩

/-- What spec answers. -/
theorem isRead_spec3 {l p1 p2 p3 : List UInt8} (hs : Txt.split 45 l [] = [p1, p2, p3]) {y m d : Int} (h1 : Txt.plain (p1.take 9) = y) (h2 : Txt.plain (p2.take 9) = m) (h3 : Txt.plain (p3.take 9) = d) :
    (dateTx y m d = l → IsRead l y m d true) ∧ (dateTx y m d ≠ l → IsRead l 0 0 0 false) := by
  constructor
  · intro e
    unfold dateTx at e
    split at e
    · rename_i hv
      exact .inl ⟨rfl, hv, e⟩
    · subst e
      simp [Txt.split] at hs
  · intro hne
    refine .inr ⟨rfl, rfl, rfl, rfl, fun y' m' d' hv e => hne ?_⟩
    obtain ⟨⟨a1, a2⟩, ⟨a3, a4⟩, a5, a6⟩ := either_bd hv
    rw [← e, Txt.split_date] at hs
    injection hs with s1 hs
    injection hs with s2 hs
    injection hs with s3 _
    rw [← s1] at h1
    rw [← s2] at h2
    rw [← s3] at h3
    rw [List.take_of_length_le (by simp [Txt.p4]), Txt.plain_p4 y' (by omega) (by omega)] at h1
    rw [List.take_of_length_le (by simp [Txt.p2]), Txt.plain_p2 m' (by omega) (by omega)] at h2
    rw [List.take_of_length_le (by simp [Txt.p2]), Txt.plain_p2 d' (by omega) (by omega)] at h3
    subst h1 h2 h3
    unfold dateTx
    rw [if_pos hv]
    exact e
theorem isRead_spec_no {l : List UInt8} (h : (Txt.split 45 l []).length ≠ 3) : IsRead l 0 0 0 false :=
  .inr ⟨rfl, rfl, rfl, rfl, fun y m d _ e => h (by rw [← e, Txt.split_date]; rfl)⟩

/-- What a call leaves that reads a date. -/
def ReadRet (l : List UInt8) (w : World) (e : Ending) (w' : World) : Prop :=
  ∃ (y m d : Int) (b : Bool), e = .returned (.tuple #[.agg #[.int .i64 y, .int .i64 m, .int .i64 d], .bool b]) ∧ IsRead l y m d b ∧ Below w.heap.size w w'

theorem spec_ReadDate (l : List UInt8) (hl : l.length ≤ 2000000) (w : World) : Calls Tryd.prog 16 #[.string (str l)] w (ReadRet l w) := by
  by_cases h3 : (Txt.split 45 l []).length = 3
  · obtain ⟨p1, p2, p3, hs⟩ : ∃ p1 p2 p3, Txt.split 45 l [] = [p1, p2, p3] := by
      match h : Txt.split 45 l [], h3 with
      | [a, b, c], _ => exact ⟨a, b, c, rfl⟩
    refine (spec_ReadDate_3 l p1 p2 p3 hl (Lib.hid hs) _ _ _ (Lib.hid rfl) (Lib.hid rfl) (Lib.hid rfl) w).mono fun e w' hr => ?_
    have hh := isRead_spec3 hs rfl rfl rfl
    unfold ReadEnd at hr
    split at hr
    · rename_i he
      exact ⟨_, _, _, true, hr.1, hh.1 he, hr.2⟩
    · rename_i he
      exact ⟨0, 0, 0, false, hr.1, hh.2 he, hr.2⟩
  · exact (spec_ReadDate_no l hl (Lib.hid h3) w).mono fun e w' hr => ⟨0, 0, 0, false, hr.1, isRead_spec_no h3, hr.2⟩

end Go.Proofs.YtkmkfpglnmpnmaaDoor
