/- Contracts of spec's l01Old, l03Date, LocalDate and SkippedDates. -/
import Derived.Test.YtkmkfpglnmpnmaaPlcV
import Derived.Test.YtkmkfpglnmpnmaaPlcY
namespace Go.Proofs.Ytkmkfpglnmpnmaa.Plc
open Go.RowKit

set_option maxHeartbeats 1000000 in
theorem spec_old (n : Int) (h1 : 0 ≤ n) (h2 : n ≤ 730499) (w : World) : Calls Try.prog 79 #[.int .i64 n] w (SDate false n w) := by
  have C := Lib.hid (spec_date_old n h1 h2)
  go_enter Try.func79, Try.ntmps79
  go_wp2_with fail
  refine (C.out _).mono ?_
  rintro e w1 ⟨y, m, d, rfl, k1, k2, k3, hb⟩
  have S := ((St.start w).alloc 25 #[.int .i64 0, .int .i64 0, .int .i64 0]).call hb
  obtain ⟨c0, c1, c2⟩ := S.b0.three
  have f0 := S.b0.frozen 0
  have f1 := S.b0.frozen 1
  have f2 := S.b0.frozen 2
  have HD := Lib.hid (And.intro k1 (And.intro k2 k3))
  clear k1 k2 k3
  go_wp2_with fail
  refine bodyPost_ret (v := .agg #[.int .i64 y, .int .i64 m, .int .i64 d]) (by simp [results, Try.results79, go_sem, c0, c1, c2]) rfl ⟨y, m, d, rfl, HD.out.1, HD.out.2.1, HD.out.2.2, ?_⟩
  exact ((S.bel.setCell (by simp; try omega) _).setCell (by simp; try omega) _).setCell (by simp; try omega) _

/-- The local date of a day, and whether there is one. -/
def LdIs (R n y m d : Int) (b : Bool) : Prop :=
  (n < R ∧ b = true ∧ Cal.valid false y m d ∧ Cal.num false y m d = n) ∨ (R ≤ n ∧ n < 730487 ∧ b = true ∧ Cal.valid true y m d ∧ Cal.num true y m d = n) ∨ (R ≤ n ∧ 730487 ≤ n ∧ b = false)
def DB (P : Int → Int → Int → Bool → Prop) (w : World) (e : Ending) (w' : World) : Prop :=
  ∃ y m d b, e = .returned (.tuple #[.agg #[.int .i64 y, .int .i64 m, .int .i64 d], .bool b]) ∧ P y m d b ∧ Below w.heap.size w w'

theorem keep_store {w wq : World} {D E : Nat} {y m d : Int} {t t' : TypeId} {cs : Array Value} (hE : Blk wq E t #[.int .i64 y, .int .i64 m, .int .i64 d]) (_hD : Blk wq D t' cs) (hne : E ≠ D) (hw : w.heap.size ≤ D) (hb : Below w.heap.size w wq) (a b c : Value) :
    (((wq.setCell ⟨D, 0, none⟩ a).setCell ⟨D, 1, none⟩ b).setCell ⟨D, 2, none⟩ c).cell? ⟨E, 0, none⟩ = some (.int .i64 y) ∧ (((wq.setCell ⟨D, 0, none⟩ a).setCell ⟨D, 1, none⟩ b).setCell ⟨D, 2, none⟩ c).cell? ⟨E, 1, none⟩ = some (.int .i64 m) ∧ (((wq.setCell ⟨D, 0, none⟩ a).setCell ⟨D, 1, none⟩ b).setCell ⟨D, 2, none⟩ c).cell? ⟨E, 2, none⟩ = some (.int .i64 d) ∧ Below w.heap.size w (((wq.setCell ⟨D, 0, none⟩ a).setCell ⟨D, 1, none⟩ b).setCell ⟨D, 2, none⟩ c) := by
  obtain ⟨e0, e1, e2⟩ := (((hE.far (p := ⟨D, 0, none⟩) hne a).far (p := ⟨D, 1, none⟩) hne b).far (p := ⟨D, 2, none⟩) hne c).three
  exact ⟨e0, e1, e2, ((hb.setCell hw _).setCell hw _).setCell hw _⟩

set_option maxHeartbeats 1000000 in
theorem spec_ldate_old (R n : Int) (h0 : 0 ≤ n) (h1 : n ≤ 730499) (hn : n < R) (w : World) :
    Calls Try.prog 86 #[.agg #[.int .i64 R], .int .i64 n] w (DB (LdIs R n) w) := by
  have C := Lib.hid (spec_old n h0 h1)
  have b2 : Cal.ys false 2001 = 730500 := by decide
  go_enter Try.func86, Try.ntmps86
  go_wp2_with fail
  refine (C.out _).mono ?_
  rintro e w1 ⟨y, m, d, rfl, k1, k2, k3, hb⟩
  have S := (((St.start w).alloc 35 #[.int .i64 R]).alloc 25 #[.int .i64 0, .int .i64 0, .int .i64 0]).call hb
  simp only [World.size_alloc] at S
  obtain ⟨c0, c1, c2⟩ := S.b0.three
  have f0 := S.b0.frozen 0
  have f1 := S.b0.frozen 1
  have f2 := S.b0.frozen 2
  have HD := Lib.hid (show LdIs R n y m d true from .inl ⟨hn, rfl, k1 (by omega), k3⟩)
  clear k1 k2 k3
  go_wp2_with fail
  refine bodyPost_ret (v := .tuple #[.agg #[.int .i64 y, .int .i64 m, .int .i64 d], .bool true]) (by simp [results, Try.results86, go_sem, c0, c1, c2]) rfl ⟨y, m, d, true, rfl, HD.out, ?_⟩
  exact ((S.bel.setCell (by simp; try omega) _).setCell (by simp; try omega) _).setCell (by simp; try omega) _

set_option maxHeartbeats 1000000 in
theorem spec_ldate_new (R n : Int) (h0 : 2 ≤ n) (h1 : n ≤ 730499) (hn : R ≤ n) (w : World) :
    Calls Try.prog 86 #[.agg #[.int .i64 R], .int .i64 n] w (DB (LdIs R n) w) := by
  have C := Lib.hid (spec_date_new n h0 h1)
  have b2 : Cal.ys true 2001 = 730487 := by decide
  go_enter Try.func86, Try.ntmps86
  go_wp2_with fail
  refine (C.out _).mono ?_
  rintro e w1 ⟨y, m, d, rfl, k1, k2, k3, hb⟩
  have S := ((((St.start w).alloc 35 #[.int .i64 R]).alloc 25 #[.int .i64 0, .int .i64 0, .int .i64 0]).call hb).alloc 25 #[.int .i64 y, .int .i64 m, .int .i64 d]
  simp only [World.size_alloc] at S
  have hz := hb.size
  simp at hz
  have HD := Lib.hid (show LdIs R n y m d (vb true y m d) by
    by_cases h : n < 730487
    · have hv := k1 (by omega)
      exact .inr (.inl ⟨hn, h, vb_true hv, hv, k3⟩)
    · exact .inr (.inr ⟨hn, by omega, vb_false (k2 (by omega))⟩))
  have CN := Lib.hid (spec_IsNewDate y m d)
  clear k1 k2 k3
  generalize vb true y m d = b at HD CN
  generalize hE : w1.heap.size = E at S
  obtain ⟨e0, e1, e2⟩ := S.b0.three
  go_wp2_with fail
  go_region_held3 (fun w' => w'.cell? ⟨E, 0, none⟩ = some (.int .i64 y) ∧ w'.cell? ⟨E, 1, none⟩ = some (.int .i64 m) ∧ w'.cell? ⟨E, 2, none⟩ = some (.int .i64 d) ∧ Below w.heap.size w w')
    (first | exact ⟨e0, e1, e2, S.bel.drew⟩ | exact (let ⟨a, b, c⟩ := SQ.b0.three; ⟨a, b, c, SQ.bel⟩) | exact keep_store SQ.b0 SQ.b1 (by omega) (by omega) SQ.bel _ _ _)
    (first | (go_at_call 56; refine (CN.out _).mono ?_; rintro e wq ⟨rfl, hbq⟩; have SQ := (S.drewN 1).call hbq; have f0 := SQ.b1.frozen 0; have f1 := SQ.b1.frozen 1; have f2 := SQ.b1.frozen 2; obtain ⟨z0, z1, z2⟩ := SQ.b1.three))
  go_wp2_with fail
  refine bodyPost_ret (v := .tuple #[.agg #[.int .i64 y, .int .i64 m, .int .i64 d], .bool b]) (by simp [results, Try.results86, go_sem, z0, z1, z2]) rfl ⟨y, m, d, b, rfl, HD.out, ?_⟩
  exact ((SQ.bel.setCell (by simp; try omega) _).setCell (by simp; try omega) _).setCell (by simp; try omega) _

theorem spec_ldate (R n : Int) (hR : 2 ≤ R) (h0 : 0 ≤ n) (h1 : n ≤ 730499) (w : World) :
    Calls Try.prog 86 #[.agg #[.int .i64 R], .int .i64 n] w (DB (LdIs R n) w) := by
  by_cases hn : n < R
  · exact spec_ldate_old R n h0 h1 hn w
  · exact spec_ldate_new R n (by omega) h1 (by omega) w

set_option maxHeartbeats 1000000 in
theorem spec_LocalDate_no1 (R n : Int) (hc : icB R = false) (w : World) :
    Calls Try.prog 37 #[.agg #[.int .i64 R], .int .i64 n] w (DC (fun y m d c => y = 0 ∧ m = 0 ∧ d = 0 ∧ c = 1) w) := by
  have C1 := Lib.hid (spec_isCal R)
  rw [hc] at C1
  clear hc
  go_enter Try.func37, Try.ntmps37
  go_wp2_with fail
  refine (C1.out _).mono ?_
  rintro e w1 ⟨rfl, hb⟩
  have S := (((St.start w).alloc 35 #[.int .i64 R]).alloc 25 #[.int .i64 0, .int .i64 0, .int .i64 0]).call hb
  simp only [World.size_alloc] at S
  obtain ⟨c0, c1, c2⟩ := S.b0.three
  have f0 := S.b0.frozen 0
  have f1 := S.b0.frozen 1
  have f2 := S.b0.frozen 2
  go_wp2_with fail
  refine bodyPost_ret (v := .tuple #[.agg #[.int .i64 0, .int .i64 0, .int .i64 0], .int .i64 1]) (by simp [results, Try.results37, go_sem, c0, c1, c2]) rfl ⟨0, 0, 0, 1, rfl, ⟨rfl, rfl, rfl, rfl⟩, ?_⟩
  exact ((S.bel.setCell (by simp; try omega) _).setCell (by simp; try omega) _).setCell (by simp; try omega) _

set_option maxHeartbeats 1000000 in
theorem spec_LocalDate_no2 (R n : Int) (hc : icB R = true) (hn : ¬ (0 ≤ n ∧ n ≤ 730499)) (w : World) :
    Calls Try.prog 37 #[.agg #[.int .i64 R], .int .i64 n] w (DC (fun y m d c => y = 0 ∧ m = 0 ∧ d = 0 ∧ c = 2) w) := by
  have C1 := Lib.hid (spec_isCal R)
  rw [hc] at C1
  have C2 := Lib.hid (spec_day n)
  rw [inB_false hn] at C2
  clear hc hn
  go_enter Try.func37, Try.ntmps37
  go_wp2_with fail
  refine (C1.out _).mono ?_
  rintro e w1 ⟨rfl, hb⟩
  have S := (((St.start w).alloc 35 #[.int .i64 R]).alloc 25 #[.int .i64 0, .int .i64 0, .int .i64 0]).call hb
  simp only [World.size_alloc] at S
  go_wp2_with fail
  refine (C2.out _).mono ?_
  rintro e w2 ⟨rfl, rfl⟩
  obtain ⟨c0, c1, c2⟩ := S.b0.three
  have f0 := S.b0.frozen 0
  have f1 := S.b0.frozen 1
  have f2 := S.b0.frozen 2
  go_wp2_with fail
  refine bodyPost_ret (v := .tuple #[.agg #[.int .i64 0, .int .i64 0, .int .i64 0], .int .i64 2]) (by simp [results, Try.results37, go_sem, c0, c1, c2]) rfl ⟨0, 0, 0, 2, rfl, ⟨rfl, rfl, rfl, rfl⟩, ?_⟩
  exact ((S.bel.setCell (by simp; try omega) _).setCell (by simp; try omega) _).setCell (by simp; try omega) _

/-- LocalDate's answer by what l03Date gives. -/
def ByLd (R n y m d c : Int) : Prop := (c = 0 ∧ LdIs R n y m d true) ∨ (y = 0 ∧ m = 0 ∧ d = 0 ∧ c = 4 ∧ R ≤ n ∧ 730487 ≤ n)

set_option maxHeartbeats 1000000 in
theorem spec_LocalDate_yes (R n : Int) (hc : icB R = true) (hR : 2 ≤ R) (h0 : 0 ≤ n) (h1 : n ≤ 730499) (w : World) :
    Calls Try.prog 37 #[.agg #[.int .i64 R], .int .i64 n] w (DC (ByLd R n) w) := by
  have C1 := Lib.hid (spec_isCal R)
  rw [hc] at C1
  have C2 := Lib.hid (spec_day n)
  rw [inB_true ⟨h0, h1⟩] at C2
  have C3 := Lib.hid (spec_ldate R n hR h0 h1)
  clear hc
  go_enter Try.func37, Try.ntmps37
  go_wp2_with fail
  refine (C1.out _).mono ?_
  rintro e w1 ⟨rfl, hb⟩
  have S := (((St.start w).alloc 35 #[.int .i64 R]).alloc 25 #[.int .i64 0, .int .i64 0, .int .i64 0]).call hb
  simp only [World.size_alloc] at S
  go_wp2_with fail
  refine (C2.out _).mono ?_
  rintro e w2 ⟨rfl, rfl⟩
  have r0 := S.b1.cell 0
  simp only [List.getElem?_toArray, List.getElem?_cons_zero] at r0
  go_wp2_with fail
  refine (C3.out _).mono ?_
  rintro e w3 ⟨y, m, d, b, rfl, hd, hb3⟩
  have hz := hb3.size
  have hz1 := hb.size
  simp at hz1
  have S := (S.call hb3).alloc 25 #[.int .i64 y, .int .i64 m, .int .i64 d]
  have HD := Lib.hid hd
  clear hd r0
  obtain ⟨c0, c1, c2⟩ := S.b1.three
  have f0 := S.b1.frozen 0
  have f1 := S.b1.frozen 1
  have f2 := S.b1.frozen 2
  cases b
  · go_wp2_with fail
    have HH : R ≤ n ∧ 730487 ≤ n := by
      rcases HD.out with ⟨_, h, _⟩ | ⟨_, _, h, _⟩ | ⟨h, h', _⟩
      · cases h
      · cases h
      · exact ⟨h, h'⟩
    refine bodyPost_ret (v := .tuple #[.agg #[.int .i64 0, .int .i64 0, .int .i64 0], .int .i64 4]) (by simp [results, Try.results37, go_sem, c0, c1, c2]) rfl ⟨0, 0, 0, 4, rfl, .inr ⟨rfl, rfl, rfl, rfl, HH⟩, ?_⟩
    exact ((S.bel.setCell (by simp; try omega) _).setCell (by simp; try omega) _).setCell (by simp; try omega) _
  · go_wp2_with fail
    refine bodyPost_ret (v := .tuple #[.agg #[.int .i64 y, .int .i64 m, .int .i64 d], .int .i64 0]) (by simp [results, Try.results37, go_sem, c0, c1, c2]) rfl ⟨y, m, d, 0, rfl, .inl ⟨rfl, HD.out⟩, ?_⟩
    exact ((S.bel.setCell (by simp; try omega) _).setCell (by simp; try omega) _).setCell (by simp; try omega) _

theorem spec_LocalDate (R n : Int) (w : World) :
    Calls Try.prog 37 #[.agg #[.int .i64 R], .int .i64 n] w (DC (Loc.DateIs R n) w) := by
  by_cases hc : icB R = true
  · have hcal : Loc.isCal R := of_decide_eq_true hc
    have hbd := Loc.isCal_bd hcal
    by_cases hn : 0 ≤ n ∧ n ≤ 730499
    · refine (spec_LocalDate_yes R n hc (by omega) hn.1 hn.2 w).mono fun e w' k => k.imp ?_
      rintro y m d c (⟨rfl, h⟩ | ⟨rfl, rfl, rfl, rfl, h⟩)
      · rcases h with ⟨h1, _, h2, h3⟩ | ⟨h1, h2, _, h3, h4⟩ | ⟨_, _, h⟩
        · exact .inr (.inr (.inl ⟨hcal, hn.1, hn.2, h1, rfl, h2, h3⟩))
        · exact .inr (.inr (.inr (.inl ⟨hcal, h1, by omega, rfl, h3, h4⟩)))
        · cases h
      · exact .inr (.inr (.inr (.inr ⟨hcal, h.1, h.2, hn.2, rfl, rfl, rfl, rfl⟩)))
    · refine (spec_LocalDate_no2 R n hc hn w).mono fun e w' k => k.imp ?_
      rintro y m d c ⟨rfl, rfl, rfl, rfl⟩
      exact .inr (.inl ⟨hcal, hn, rfl, rfl, rfl, rfl⟩)
  · refine (spec_LocalDate_no1 R n (by simpa using hc) w).mono fun e w' k => k.imp ?_
    rintro y m d c ⟨rfl, rfl, rfl, rfl⟩
    exact .inl ⟨fun h => hc (decide_eq_true h), rfl, rfl, rfl, rfl⟩

set_option maxHeartbeats 1000000 in
theorem spec_SkippedDates_no (R : Int) (hc : icB R = false) (w : World) :
    Calls Try.prog 47 #[.agg #[.int .i64 R]] w (SkRet R w) := by
  have C1 := Lib.hid (spec_isCal R)
  rw [hc] at C1
  have HH := Lib.hid (show Loc.SkIs R 0 1 from .inl ⟨of_decide_eq_false hc, rfl, rfl⟩)
  clear hc
  go_enter Try.func47, Try.ntmps47
  go_wp2_with fail
  refine (C1.out _).mono ?_
  rintro e w1 ⟨rfl, hb⟩
  have S := ((St.start w).alloc 35 #[.int .i64 R]).call hb
  go_wp2_with fail
  go_ret2
  exact ⟨0, 1, rfl, HH.out, S.bel⟩

set_option maxHeartbeats 1000000 in
theorem spec_SkippedDates_old (hc : icB 730500 = true) (w : World) :
    Calls Try.prog 47 #[.agg #[.int .i64 730500]] w (SkRet 730500 w) := by
  have C1 := Lib.hid (spec_isCal 730500)
  rw [hc] at C1
  have HH := Lib.hid (show Loc.SkIs 730500 0 4 from .inr (.inl ⟨rfl, rfl, rfl⟩))
  clear hc
  go_enter Try.func47, Try.ntmps47
  go_wp2_with fail
  refine (C1.out _).mono ?_
  rintro e w1 ⟨rfl, hb⟩
  have S := ((St.start w).alloc 35 #[.int .i64 730500]).call hb
  have r0 := S.b0.cell 0
  simp at r0
  go_wp2_with fail
  go_ret2
  exact ⟨0, 4, rfl, HH.out, S.bel⟩

theorem keep1 {L : List (Nat × TypeId × Array Value)} {w0 w w' : World} {g0 : Nat} {t : TypeId} {R : Int} (h : St L w0 w) (hb : Below w.heap.size w w')
    (m0 : (g0, t, #[.int .i64 R]) ∈ L) : w'.cell? ⟨g0, 0, none⟩ = some (.int .i64 R) ∧ St L w0 w' := by
  have h' := h.call hb
  have c := (h'.blk _ m0).cell 0
  exact ⟨by simpa using c, h'⟩

set_option maxHeartbeats 1000000 in
theorem spec_SkippedDates_new (R : Int) (h0 : 200000 ≤ R) (h1 : R ≤ 730486) (w : World) :
    Calls Try.prog 47 #[.agg #[.int .i64 R]] w (SkRet R w) := by
  have C1 := Lib.hid (spec_isCal R)
  rw [show icB R = true from decide_eq_true (.inl ⟨h0, h1⟩)] at C1
  have b2 : Cal.ys true 2001 = 730487 := by decide
  have CD := Lib.hid (show ∀ w, Calls Try.prog 93 #[.int .i64 R, .bool true] w fun e w' => ∃ y m d N : Int, e = .returned (.agg #[.int .i64 y, .int .i64 m, .int .i64 d]) ∧ Hid (∀ w, Calls Try.prog 75 #[.agg #[.int .i64 y, .int .i64 m, .int .i64 d], .bool false] w (Ic N w)) ∧ Hid (Loc.SkIs R (N - R) 0) ∧ 0 ≤ N ∧ N ≤ 730500 ∧ Below w.heap.size w w' by
    intro w
    refine (spec_date_new R (show 2 ≤ R by omega) (by omega) w).mono ?_
    rintro e w' ⟨y, m, d, rfl, k1, _, k3, hb⟩
    have hv := k1 (by omega)
    have ho := Loc.old_of_new hv
    have hr := Cal.num_range false ho
    have y1 : Cal.ys false 1 = 0 := rfl
    have y2 : Cal.ys false 2001 = 730500 := by decide
    have dm := (Cal.mlen_bd false y m).2
    refine ⟨y, m, d, Cal.num false y m d, rfl, Lib.hid fun w => ?_, Lib.hid (.inr (.inr ⟨h0, h1, rfl, y, m, d, hv, k3, rfl⟩)), by omega, by omega, hb⟩
    obtain ⟨a1, a2, a3, a4, a5, a6⟩ := ho
    exact spec_number false y m d a1 (by omega) a3 (by omega) (by omega) (by omega) w)
  go_enter Try.func47, Try.ntmps47
  go_wp2_with fail
  refine (C1.out _).mono ?_
  rintro e w1 ⟨rfl, hb⟩
  have S := ((St.start w).alloc 35 #[.int .i64 R]).call hb
  have r0 := S.b0.cell 0
  simp only [List.getElem?_toArray, List.getElem?_cons_zero] at r0
  go_wp2_with fail
  go_region_held3 (fun w' => w'.cell? ⟨w.heap.size, 0, none⟩ = some (.int .i64 R) ∧ St [(w.heap.size, 35, #[.int .i64 R])] w w')
    (first | exact ⟨r0, S.drewN 1⟩ | (go_split_ands; exact keep1 (t := 35) (by assumption) hbq (by simp)))
    (first
      | (go_at_call 93; refine (CD.out _).mono ?_; rintro e wq ⟨y, m, d, N, rfl, CN, HS, N0, N1, hbq⟩)
      | (go_at_call 75; refine (CN.out _).mono ?_; rintro e wq ⟨rfl, hbq⟩))
  have S2 : St [(w.heap.size, 35, #[.int .i64 R])] w wq := by go_split_ands; assumption
  have W1 : IntKind.i64.wrap (N - R) = N - R := IntWalk.i64_in _ ⟨by omega, by omega⟩
  go_wp2_with fail
  go_ret2
  exact ⟨N - R, 0, by simp [W1], HS.out, S2.bel⟩

theorem spec_SkippedDates (R : Int) (w : World) : Calls Try.prog 47 #[.agg #[.int .i64 R]] w (SkRet R w) := by
  by_cases hc : icB R = true
  · by_cases hR : R = 730500
    · subst hR
      exact spec_SkippedDates_old hc w
    · have hcal : Loc.isCal R := of_decide_eq_true hc
      have h := hcal.resolve_right hR
      exact spec_SkippedDates_new R h.1 h.2 w
  · exact spec_SkippedDates_no R (by simpa using hc) w

end Go.Proofs.Ytkmkfpglnmpnmaa.Plc
