/- Contract of impl's days with an indiction. -/
import Derived.Test.YtfienklaafialaaIndIa
import Derived.Test.YtfienklaafialaaIndB
namespace Go.Proofs.Ytfienklaafialaa.Ind
open Go.RowKit
open Go.Proofs.Ytfienklaafialaa.Eas (isY It)
open Go.Proofs.Ytfienklaafialaa.Sets (Own Row Rd append_spanG impl_meetT SetOut below_on cell_keep)
open Go.Proofs.Ytfienklaafialaa.Fea (yr yr_isY yr_in ys_old isDay)

theorem rd_span1 (w : World) (f t : Int) : Rd (w.alloc (.cells #[.int .i64 f, .int .i64 t] 74)) (some ⟨w.heap.size, 0, none⟩) 1 [(f, t)] := by
  refine ⟨rfl, fun _ => ⟨w.heap.size, 0, rfl, by simp, fun k hk => ?_⟩⟩
  have e : k = 0 := by simpa using hk
  subst e
  exact ⟨by simp, by simp⟩
theorem whole_yes {k i Y : Int} {n : Nat} {acc T : Sets.L} (h : acc ++ whole k i Y (n + 1) = T) (hi : ind Y = i) : (acc ++ [(yF k Y, yT k Y)]) ++ whole k i (Y + 1) n = T := by
  rw [whole, if_pos hi, ← List.append_assoc] at h
  exact h
theorem whole_no {k i Y : Int} {n : Nat} {acc T : Sets.L} (h : acc ++ whole k i Y (n + 1) = T) (hi : ¬ ind Y = i) : acc ++ whole k i (Y + 1) n = T := by
  rw [whole, if_neg hi] at h
  simpa using h

def IdLi (k i Y0 : Int) (N : Nat) (T : Sets.L) (w0 : World) (m : Nat) (v y : Value) (wr : World) : Prop :=
  ∃ (j : Nat) (acc : Sets.L), y = .int .i64 (Y0 + j) ∧ m = N - j ∧ j ≤ N ∧ Hid (acc ++ whole k i (Y0 + j) (N - j) = T) ∧ acc.length ≤ j ∧ Own wr w0.heap.size v acc ∧ Below w0.heap.size w0 wr

set_option maxRecDepth 100000 in
set_option maxHeartbeats 8000000 in
theorem impl_IndictionDays_yes (k i f t : Int) (hk : isK k) (hi : 1 ≤ i ∧ i ≤ 15) (hf : isDay f) (ht : f ≤ t ∧ t ≤ 730499) (hg : t - f ≤ 40000) (hN0 : idN f t ≤ 1000) (w : World) :
    Calls Try.prog 18 #[.int .i64 k, .int .i64 i, .int .i64 f, .int .i64 t] w (SetOut (idS k i f t) 0 w) := by
  have K := Lib.hid (impl_kind_yes k hk)
  have D1 := Lib.hid (impl_dayYes f hf)
  have D2 := Lib.hid (impl_dayYes t ⟨by have := hf.1; omega, ht.2⟩)
  have O1 := Lib.hid (impl_yrOf f hf)
  have O2 := Lib.hid (impl_yrOf t ⟨by have := hf.1; omega, ht.2⟩)
  obtain ⟨f0, f1⟩ := hf
  obtain ⟨t0, t1⟩ := ht
  obtain ⟨i1, i2⟩ := hi
  obtain ⟨a0, a1⟩ := yr_isY f f0 f1
  obtain ⟨b0, b1⟩ := yr_isY t (by omega) t1
  have hyy := yr_le t0
  have HM := Lib.hid (whole_meet hk f0 t1 (i := i))
  obtain ⟨N, hN⟩ : ∃ N, idN f t = N := ⟨_, rfl⟩
  have hN2 : (N : Int) = yr t + 2 - yr f := by rw [← hN]; unfold idN; omega
  rw [hN] at HM hN0
  obtain ⟨T, hT⟩ : ∃ T, whole k i (yr f) N = T := ⟨_, rfl⟩
  have HT := Lib.hid hT
  have hTl : T.length ≤ N := by rw [← hT]; exact whole_len k i N _
  rw [hT] at HM
  have HS := Lib.hid (fun y (h0 : 1 ≤ y) (h1 : y ≤ 2001) => impl_span k y hk h0 h1)
  clear hN hT hk
  generalize yr f = Y0 at *
  generalize yr t = Y1 at *
  generalize idS k i f t = V at *
  have l0 : ¬ i < 1 := by omega
  have l1 : ¬ 15 < i := by omega
  have l2 : ¬ t < f := by omega
  have l3 : ¬ 40000 < t - f := by omega
  go_enter Try.func18, Try.ntmps18
  go_wp2_with fail
  refine (K.out _).mono ?_
  rintro e w1 ⟨rfl, rfl⟩
  go_wp2_with fail
  refine (D1.out _).mono ?_
  rintro e w1 ⟨rfl, rfl⟩
  go_wp2_with fail
  refine (D2.out _).mono ?_
  rintro e w1 ⟨rfl, rfl⟩
  go_wp2_with fail
  refine (O1.out _).mono ?_
  rintro e w1 ⟨m1, d1, rfl, hb1⟩
  have q1 := hb1.alloc hb1.size (.cells #[.int .i64 Y0, .int .i64 m1, .int .i64 d1] 69)
  have B1 := Blk.new w1 69 #[.int .i64 Y0, .int .i64 m1, .int .i64 d1]
  clear hb1 K D1 D2 O1
  go_wp2_with fail
  refine (O2.out _).mono ?_
  rintro e w2 ⟨m2, d2, rfl, hb2⟩
  have q2 := (below_on q1 hb2).alloc (below_on q1 hb2).size (.cells #[.int .i64 Y1, .int .i64 m2, .int .i64 d2] 69)
  have B2 := Blk.new w2 69 #[.int .i64 Y1, .int .i64 m2, .int .i64 d2]
  have B3 := (B1.below hb2 B1.lt).alloc (.cells #[.int .i64 Y1, .int .i64 m2, .int .i64 d2] 69)
  have y0 := B3.cell 0
  simp at y0
  clear q1 hb2 O2 B1 B3
  go_wp2_with fail
  generalize w2.alloc (.cells #[.int .i64 Y1, .int .i64 m2, .int .i64 d2] 69) = w3 at *
  go_loopg [14, 15] N (fun m v y wr => IdLi k i Y0 N T w3 m v y wr)
  case atStart => exact ⟨0, [], by simp, by omega, by omega, Lib.hid (by simpa using HT.out), by simp, Own.nil w3 w3.heap.size, Below.refl _ _⟩
  case round =>
    obtain ⟨j, acc, rfl, hm, hj, HA, hl, hown, hb⟩ := hrel
    subst hm
    have y2 := (B2.below hb B2.lt).cell 0
    simp at y2
    by_cases hlt : j < N
    · obtain ⟨Y, hY⟩ : ∃ Y, Y0 + (j : Int) = Y := ⟨_, rfl⟩
      rw [hY] at HA ⊢
      have I := Lib.hid (impl_ind Y (by omega) (by omega))
      have S := Lib.hid (HS.out Y (by omega) (by omega))
      have hYle : Y ≤ Y1 + 1 := by omega
      have HA2 : acc ++ whole k i Y ((N - (j + 1)) + 1) = T := by
        have h := HA.out
        rwa [show N - j = (N - (j + 1)) + 1 by omega] at h
      clear HA
      by_cases hii : ind Y = i
      · have he : (ind Y == i) = true := by simpa using hii
        have HN := Lib.hid (whole_yes HA2 hii)
        clear HA2 hii
        generalize ind Y = x at *
        generalize yF k Y = a at *
        generalize yT k Y = b at *
        go_wp2_with fail
        refine (I.out _).mono ?_
        rintro e w4 ⟨rfl, rfl⟩
        go_wp2_with fail
        refine (S.out _).mono ?_
        rintro e w4 ⟨rfl, hb4⟩
        have hb5 := hb.trans (hb4.mono hb.size)
        have own4 := hown.below hb4
        clear hown hb hb4 y2
        go_wp2_with (at_builtin; refine append_spanG rfl hb5 own4 (by omega) rfl (.tmp 69) (.tmp 73) rfl rfl rfl ?_)
        intro v6 w6 own6 hb7 _
        clear own4 hb5
        go_wp2_with fail
        go_roundg (N - (j + 1))
        case measure => omega
        case rel => exact ⟨j + 1, _, by rw [← hY]; push_cast; rw [Int.add_assoc], by omega, by omega, Lib.hid (by rw [show Y0 + ((j + 1 : Nat) : Int) = Y + 1 by omega]; exact HN.out), by simp; omega, own6, hb7⟩
      · have he : (ind Y == i) = false := by simpa using hii
        have HN := Lib.hid (whole_no HA2 hii)
        clear HA2 hii
        generalize ind Y = x at *
        go_wp2_with fail
        refine (I.out _).mono ?_
        rintro e w4 ⟨rfl, rfl⟩
        go_wp2_with fail
        go_roundg (N - (j + 1))
        case measure => omega
        case rel => exact ⟨j + 1, _, by rw [← hY]; push_cast; rw [Int.add_assoc], by omega, by omega, Lib.hid (by rw [show Y0 + ((j + 1 : Nat) : Int) = Y + 1 by omega]; exact HN.out), by omega, hown, hb⟩
    · have ej : j = N := by omega
      have hge : Y1 + 1 < Y0 + j := by omega
      have eT : acc = T := by
        have h := HA.out
        rw [show N - j = 0 by omega] at h
        simpa [whole] using h
      subst eT
      obtain ⟨A2, c2, rfl, row2⟩ := hown.form
      have MT := Lib.hid (fun (A3 : Option Addr) (wx : World) (hx : Rd wx A2 acc.length acc) (hy : Rd wx A3 1 [(f, t)]) => impl_meetT V 2000 A2 A3 acc.length 1 c2 1 acc [(f, t)] HM (by omega) (by omega) row2.2.1 (Nat.le_refl _) wx hx hy)
      have hb5 := q2.trans (hb.mono q2.size)
      have hb6 := hb5.alloc hb5.size (.cells #[.int .i64 f, .int .i64 t] 74)
      have rd2 := row2.rd.below ((Below.refl wr.heap.size wr).alloc (Nat.le_refl _) (.cells #[.int .i64 f, .int .i64 t] 74))
      have rd1 := rd_span1 wr f t
      clear HA HM HT HS hown hb hb5 row2 B2 q2 y0
      go_wp2_with fail
      refine (MT.out _ _ rd2 rd1).mono ?_
      rintro e w7 ⟨A7, c7, rfl, row7, hb7⟩
      have hb8 := below_on hb6 hb7
      have row8 := row7.mono hb6.size (Nat.le_refl _) (Nat.le_refl _)
      go_wp2_with fail
      go_ret2
      exact ⟨A7, c7, rfl, row8, hb8⟩

set_option maxRecDepth 100000 in
theorem impl_id_1 (k i f t : Int) (hk : ¬ isK k) (w : World) : Calls Try.prog 18 #[.int .i64 k, .int .i64 i, .int .i64 f, .int .i64 t] w (SetOut [] 2 w) := by
  have K := Lib.hid (impl_kind_no k hk)
  clear hk
  go_enter Try.func18, Try.ntmps18
  go_wp2_with fail
  refine (K.out _).mono ?_
  rintro e9 w9 ⟨rfl, rfl⟩
  go_wp2_with fail
  go_ret2
  exact ⟨none, 0, rfl, Sets.Row.nil (Nat.le_refl _), Below.refl _ _⟩

set_option maxRecDepth 100000 in
theorem impl_id_2 (k i f t : Int) (hk : isK k) (hi : i < 1) (w : World) : Calls Try.prog 18 #[.int .i64 k, .int .i64 i, .int .i64 f, .int .i64 t] w (SetOut [] 2 w) := by
  have K := Lib.hid (impl_kind_yes k hk)
  clear hk
  go_enter Try.func18, Try.ntmps18
  go_wp2_with fail
  refine (K.out _).mono ?_
  rintro e9 w9 ⟨rfl, rfl⟩
  go_wp2_with fail
  go_ret2
  exact ⟨none, 0, rfl, Sets.Row.nil (Nat.le_refl _), Below.refl _ _⟩

set_option maxRecDepth 100000 in
theorem impl_id_3 (k i f t : Int) (hk : isK k) (hi : ¬ i < 1) (hj : 15 < i) (w : World) : Calls Try.prog 18 #[.int .i64 k, .int .i64 i, .int .i64 f, .int .i64 t] w (SetOut [] 2 w) := by
  have K := Lib.hid (impl_kind_yes k hk)
  clear hk
  go_enter Try.func18, Try.ntmps18
  go_wp2_with fail
  refine (K.out _).mono ?_
  rintro e9 w9 ⟨rfl, rfl⟩
  go_wp2_with fail
  go_ret2
  exact ⟨none, 0, rfl, Sets.Row.nil (Nat.le_refl _), Below.refl _ _⟩

set_option maxRecDepth 100000 in
theorem impl_id_4 (k i f t : Int) (hk : isK k) (hi : ¬ i < 1) (hj : ¬ 15 < i) (hf : ¬ isDay f) (w : World) : Calls Try.prog 18 #[.int .i64 k, .int .i64 i, .int .i64 f, .int .i64 t] w (SetOut [] 2 w) := by
  have K := Lib.hid (impl_kind_yes k hk)
  clear hk
  have D1 := Lib.hid (impl_dayNo f hf)
  clear hf
  go_enter Try.func18, Try.ntmps18
  go_wp2_with fail
  refine (K.out _).mono ?_
  rintro e9 w9 ⟨rfl, rfl⟩
  go_wp2_with fail
  refine (D1.out _).mono ?_
  rintro e9 w9 ⟨rfl, rfl⟩
  go_wp2_with fail
  go_ret2
  exact ⟨none, 0, rfl, Sets.Row.nil (Nat.le_refl _), Below.refl _ _⟩

set_option maxRecDepth 100000 in
theorem impl_id_5 (k i f t : Int) (hk : isK k) (hi : ¬ i < 1) (hj : ¬ 15 < i) (hf : isDay f) (ht : ¬ isDay t) (w : World) : Calls Try.prog 18 #[.int .i64 k, .int .i64 i, .int .i64 f, .int .i64 t] w (SetOut [] 2 w) := by
  have K := Lib.hid (impl_kind_yes k hk)
  clear hk
  have D1 := Lib.hid (impl_dayYes f hf)
  have D2 := Lib.hid (impl_dayNo t ht)
  clear hf ht
  go_enter Try.func18, Try.ntmps18
  go_wp2_with fail
  refine (K.out _).mono ?_
  rintro e9 w9 ⟨rfl, rfl⟩
  go_wp2_with fail
  refine (D1.out _).mono ?_
  rintro e9 w9 ⟨rfl, rfl⟩
  go_wp2_with fail
  refine (D2.out _).mono ?_
  rintro e9 w9 ⟨rfl, rfl⟩
  go_wp2_with fail
  go_ret2
  exact ⟨none, 0, rfl, Sets.Row.nil (Nat.le_refl _), Below.refl _ _⟩

set_option maxRecDepth 100000 in
theorem impl_id_6 (k i f t : Int) (hk : isK k) (hi : ¬ i < 1) (hj : ¬ 15 < i) (hf : isDay f) (ht : isDay t) (hl : t < f) (w : World) : Calls Try.prog 18 #[.int .i64 k, .int .i64 i, .int .i64 f, .int .i64 t] w (SetOut [] 2 w) := by
  have K := Lib.hid (impl_kind_yes k hk)
  clear hk
  have D1 := Lib.hid (impl_dayYes f hf)
  have D2 := Lib.hid (impl_dayYes t ht)
  obtain ⟨f0, f1⟩ := hf
  obtain ⟨t0, t1⟩ := ht
  go_enter Try.func18, Try.ntmps18
  go_wp2_with fail
  refine (K.out _).mono ?_
  rintro e9 w9 ⟨rfl, rfl⟩
  go_wp2_with fail
  refine (D1.out _).mono ?_
  rintro e9 w9 ⟨rfl, rfl⟩
  go_wp2_with fail
  refine (D2.out _).mono ?_
  rintro e9 w9 ⟨rfl, rfl⟩
  go_wp2_with fail
  go_ret2
  exact ⟨none, 0, rfl, Sets.Row.nil (Nat.le_refl _), Below.refl _ _⟩

set_option maxRecDepth 100000 in
theorem impl_id_7 (k i f t : Int) (hk : isK k) (hi : ¬ i < 1) (hj : ¬ 15 < i) (hf : isDay f) (ht : isDay t) (hl : ¬ t < f) (hg : 40000 < t - f) (w : World) : Calls Try.prog 18 #[.int .i64 k, .int .i64 i, .int .i64 f, .int .i64 t] w (SetOut [] 2 w) := by
  have K := Lib.hid (impl_kind_yes k hk)
  clear hk
  have D1 := Lib.hid (impl_dayYes f hf)
  have D2 := Lib.hid (impl_dayYes t ht)
  obtain ⟨f0, f1⟩ := hf
  obtain ⟨t0, t1⟩ := ht
  go_enter Try.func18, Try.ntmps18
  go_wp2_with fail
  refine (K.out _).mono ?_
  rintro e9 w9 ⟨rfl, rfl⟩
  go_wp2_with fail
  refine (D1.out _).mono ?_
  rintro e9 w9 ⟨rfl, rfl⟩
  go_wp2_with fail
  refine (D2.out _).mono ?_
  rintro e9 w9 ⟨rfl, rfl⟩
  go_wp2_with fail
  go_ret2
  exact ⟨none, 0, rfl, Sets.Row.nil (Nat.le_refl _), Below.refl _ _⟩

theorem impl_IndictionDays (k i f t : Int) (w : World) : Calls Try.prog 18 #[.int .i64 k, .int .i64 i, .int .i64 f, .int .i64 t] w (SetOut (idL k i f t) (idE k i f t) w) := by
  by_cases ok : idOk k i f t
  · rw [show idL k i f t = idS k i f t from if_pos ok, show idE k i f t = 0 from if_pos ok]
    obtain ⟨hk, hi, hf, ht, hg⟩ := ok
    exact impl_IndictionDays_yes k i f t hk hi hf ⟨ht, by omega⟩ (by omega) (by have := yr_le ht; unfold idN; have p := yr_in t; have q := yr_in f; rw [ys_old, ys_old] at p q; omega) w
  · rw [show idL k i f t = [] from if_neg ok, show idE k i f t = 2 from if_neg ok]
    by_cases hk : isK k
    · by_cases hi : i < 1
      · exact impl_id_2 k i f t hk hi w
      · by_cases hj : 15 < i
        · exact impl_id_3 k i f t hk hi hj w
        · by_cases hf : isDay f
          · by_cases ht : isDay t
            · by_cases hl : t < f
              · exact impl_id_6 k i f t hk hi hj hf ht hl w
              · refine impl_id_7 k i f t hk hi hj hf ht hl ?_ w
                have h2 : ¬ t ≤ min 730499 (f + 40000) := fun q => ok ⟨hk, ⟨by omega, by omega⟩, hf, by omega, q⟩
                have := ht.2
                omega
            · exact impl_id_5 k i f t hk hi hj hf ht w
          · exact impl_id_4 k i f t hk hi hj hf w
    · exact impl_id_1 k i f t hk w

end Go.Proofs.Ytfienklaafialaa.Ind
