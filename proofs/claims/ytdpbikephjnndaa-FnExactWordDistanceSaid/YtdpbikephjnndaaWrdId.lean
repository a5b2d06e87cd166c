/- Contracts of impl's functions over words: made by gen_wrdid.py. -/
import Derived.Test.YtdpbikephjnndaaWrdIs
namespace Go.Proofs.Ytdpbikephjnndaa.Wrd
open Go.RowKit

theorem impl_NormalWord (l : List UInt8) (hl : l.length ≤ 2000000) (w : World) : Calls Try.prog 18 #[.string (str l)] w (TxE (nwL l) (wE l) w) := by
  by_cases h : isW l
  · have W := Lib.hid (impl_word l hl true (decide_eq_true h))
    have N := Lib.hid (impl_norm l h.2.2 h.2.1)
    have H := Lib.hid (show norm l = nwL l ∧ 0 = wE l from ⟨(if_pos h).symm, (if_pos h).symm⟩)
    clear h
    generalize norm l = t at *
    go_enter Try.func18, Try.ntmps18
    go_wp2_with fail
    refine (W.out _).mono ?_
    rintro e w1 ⟨rfl, rfl⟩
    go_wp2_with fail
    refine (N.out _).mono ?_
    rintro e w1 ⟨rfl, hb⟩
    go_wp2_with fail
    go_ret2
    exact ⟨ret_tx H.out.1 H.out.2, hb⟩
  · have W := Lib.hid (impl_word l hl false (decide_eq_false h))
    have H := Lib.hid (show [] = nwL l ∧ 1 = wE l from ⟨(if_neg h).symm, (if_neg h).symm⟩)
    clear h
    go_enter Try.func18, Try.ntmps18
    go_wp2_with fail
    refine (W.out _).mono ?_
    rintro e w1 ⟨rfl, rfl⟩
    go_wp2_with fail
    go_ret2
    exact ⟨ret_tx H.out.1 H.out.2, Below.refl _ _⟩

theorem impl_WordDistance (a b : List UInt8) (ha : a.length ≤ 2000000) (hb : b.length ≤ 2000000) (w : World) : Calls Try.prog 13 #[.string (str a), .string (str b)] w (TwoW (wdN a b) (wwE a b) w) := by
  by_cases h1 : isW a
  · have W1 := Lib.hid (impl_word a ha true (decide_eq_true h1))
    by_cases h2 : isW b
    · have W2 := Lib.hid (impl_word b hb true (decide_eq_true h2))
      have D := Lib.hid (impl_dist a b (by have := h1.2.2; omega) (by have := h2.2.2; omega))
      have H := Lib.hid (show (dist a b : Int) = wdN a b ∧ 0 = wwE a b from ⟨(if_pos ⟨h1, h2⟩).symm, (if_pos ⟨h1, h2⟩).symm⟩)
      clear h1 h2
      generalize (dist a b : Int) = d at *
      go_enter Try.func13, Try.ntmps13
      go_wp2_with fail
      refine (W1.out _).mono ?_
      rintro e w1 ⟨rfl, rfl⟩
      go_wp2_with fail
      refine (W2.out _).mono ?_
      rintro e w1 ⟨rfl, rfl⟩
      go_wp2_with fail
      refine (D.out _).mono ?_
      rintro e w1 ⟨rfl, hb1⟩
      go_wp2_with fail
      go_ret2
      exact ⟨ret_nn H.out.1 H.out.2, hb1⟩
    · have W2 := Lib.hid (impl_word b hb false (decide_eq_false h2))
      have hn : ¬ (isW a ∧ isW b) := fun h => h2 h.2
      have H := Lib.hid (show 0 = wdN a b ∧ 1 = wwE a b from ⟨(if_neg hn).symm, (if_neg hn).symm⟩)
      clear h1 h2 hn
      go_enter Try.func13, Try.ntmps13
      go_wp2_with fail
      refine (W1.out _).mono ?_
      rintro e w1 ⟨rfl, rfl⟩
      go_wp2_with fail
      refine (W2.out _).mono ?_
      rintro e w1 ⟨rfl, rfl⟩
      go_wp2_with fail
      go_ret2
      exact ⟨ret_nn H.out.1 H.out.2, Below.refl _ _⟩
  · have W1 := Lib.hid (impl_word a ha false (decide_eq_false h1))
    have hn : ¬ (isW a ∧ isW b) := fun h => h1 h.1
    have H := Lib.hid (show 0 = wdN a b ∧ 1 = wwE a b from ⟨(if_neg hn).symm, (if_neg hn).symm⟩)
    clear h1 hn
    go_enter Try.func13, Try.ntmps13
    go_wp2_with fail
    refine (W1.out _).mono ?_
    rintro e w1 ⟨rfl, rfl⟩
    go_wp2_with fail
    go_ret2
    exact ⟨ret_nn H.out.1 H.out.2, Below.refl _ _⟩

theorem impl_AreAlike (a b : List UInt8) (ha : a.length ≤ 2000000) (hb : b.length ≤ 2000000) (w : World) : Calls Try.prog 15 #[.string (str a), .string (str b)] w (BoolE (alB a b) (wwE a b) w) := by
  by_cases h1 : isW a
  · have W1 := Lib.hid (impl_word a ha true (decide_eq_true h1))
    by_cases h2 : isW b
    · have W2 := Lib.hid (impl_word b hb true (decide_eq_true h2))
      have N1 := Lib.hid (impl_norm a h1.2.2 h1.2.1)
      have N2 := Lib.hid (impl_norm b h2.2.2 h2.2.1)
      have H := Lib.hid (show decide (norm a = norm b) = alB a b ∧ 0 = wwE a b from ⟨decide_eq_decide.2 ⟨fun h => ⟨⟨h1, h2⟩, h⟩, fun h => h.2⟩, (if_pos ⟨h1, h2⟩).symm⟩)
      clear h1 h2
      have s1 := str_toList (norm a)
      have s2 := str_toList (norm b)
      generalize norm a = p at *
      generalize norm b = q at *
      go_enter Try.func15, Try.ntmps15
      go_wp2_with fail
      refine (W1.out _).mono ?_
      rintro e w1 ⟨rfl, rfl⟩
      go_wp2_with fail
      refine (W2.out _).mono ?_
      rintro e w1 ⟨rfl, rfl⟩
      go_wp2_with fail
      refine (N1.out _).mono ?_
      rintro e w1 ⟨rfl, hb1⟩
      go_wp2_with fail
      refine (N2.out _).mono ?_
      rintro e w2 ⟨rfl, hb2⟩
      have hb3 := hb1.trans (hb2.mono hb1.size)
      go_wp2_with fail
      go_ret2
      exact ⟨ret_be (by rw [← H.out.1]; by_cases e : p = q <;> simp [e]) H.out.2, hb3⟩
    · have W2 := Lib.hid (impl_word b hb false (decide_eq_false h2))
      have hn : ¬ (isW a ∧ isW b) := fun h => h2 h.2
      have H := Lib.hid (show false = alB a b ∧ 1 = wwE a b from ⟨(decide_eq_false (fun h => hn h.1)).symm, (if_neg hn).symm⟩)
      clear h1 h2 hn
      go_enter Try.func15, Try.ntmps15
      go_wp2_with fail
      refine (W1.out _).mono ?_
      rintro e w1 ⟨rfl, rfl⟩
      go_wp2_with fail
      refine (W2.out _).mono ?_
      rintro e w1 ⟨rfl, rfl⟩
      go_wp2_with fail
      go_ret2
      exact ⟨ret_be H.out.1 H.out.2, Below.refl _ _⟩
  · have W1 := Lib.hid (impl_word a ha false (decide_eq_false h1))
    have hn : ¬ (isW a ∧ isW b) := fun h => h1 h.1
    have H := Lib.hid (show false = alB a b ∧ 1 = wwE a b from ⟨(decide_eq_false (fun h => hn h.1)).symm, (if_neg hn).symm⟩)
    clear h1 hn
    go_enter Try.func15, Try.ntmps15
    go_wp2_with fail
    refine (W1.out _).mono ?_
    rintro e w1 ⟨rfl, rfl⟩
    go_wp2_with fail
    go_ret2
    exact ⟨ret_be H.out.1 H.out.2, Below.refl _ _⟩

/-- The search of the nearest word, told by a place that is 0 while none is found. -/
def NwI (l : List UInt8) (ps : List (List UInt8)) (m0 : Int) (w0 : World) (m : Nat) (b d i : Value) (wr : World) : Prop :=
  ∃ (k : Nat) (x y z : Int), i = .int .i64 k ∧ m = ps.length - k ∧ k ≤ ps.length ∧ b = .int .i64 z ∧ d = .int .i64 y ∧ Hid (nr l ps m0 k = (x, y)) ∧ Hid (0 ≤ x → z = x) ∧ Below w0.heap.size w0 wr
theorem nr_found (l : List UInt8) (ps : List (List UInt8)) {m : Int} (h : 0 ≤ m) : ∀ k, ((nr l ps m k).1 < 0 → (nr l ps m k).2 = m + 1) ∧ (0 ≤ (nr l ps m k).1 → (nr l ps m k).2 ≤ m)
  | 0 => by simp [nr]
  | k + 1 => by
    have ih := nr_found l ps h k
    have bd := nr_bd l ps h k
    unfold nr
    split
    · simp only
      omega
    · exact ih

set_option maxRecDepth 100000 in
set_option maxHeartbeats 4000000 in
theorem impl_NearestWord_yes (l : List UInt8) (A : Option Addr) (c : Nat) (ps : List (List UInt8)) (m : Int) (hok : nOk l ps m) (w : World) (hr : RdS w A ps) :
    Calls Try.prog 21 #[.string (str l), .slice A ps.length c, .int .i64 m] w (Thr (nI l ps m) (nD l ps m) (nE l ps m) w) := by
  obtain ⟨⟨hl, hp⟩, m0, m1⟩ := hok
  have W := Lib.hid (impl_word l (by have := hl.2.2; omega) true (decide_eq_true hl))
  have PH := Lib.hid (impl_phrase A c ps hp.tame true (decide_eq_true hp))
  have N1 := Lib.hid (impl_norm l hl.2.2 hl.2.1)
  have FO := Lib.hid (fun w hr => impl_forms A c ps hp w hr)
  have HW := Lib.hid hp.1
  have hn60 := hp.2
  have l1 := norm_len1 l
  have hl20 := hl.2.2
  have HN := Lib.hid (show ∀ x y, nr l ps m ps.length = (x, y) → (x < 0 → y = m + 1 ∧ 0 = nI l ps m ∧ 0 = nD l ps m ∧ 4 = nE l ps m) ∧ (0 ≤ x → y ≤ m ∧ x = nI l ps m ∧ y = nD l ps m ∧ 0 = nE l ps m) from fun x y e => by
    have ok : nOk l ps m := ⟨⟨hl, hp⟩, m0, m1⟩
    have fd := nr_found l ps m0 ps.length
    rw [e] at fd
    refine ⟨fun hx => ?_, fun hx => ?_⟩
    · have hf : ¬ nFd l ps m := fun q => by have := q.2; rw [e] at this; simp only at this; omega
      unfold nI nD nE
      rw [if_neg hf, if_neg hf, if_neg (fun q => q ok.1), if_neg (fun q => q ok.2), if_neg hf]
      exact ⟨fd.1 hx, rfl, rfl, rfl⟩
    · have hf : nFd l ps m := ⟨ok, by rw [e]; exact hx⟩
      unfold nI nD nE
      rw [if_pos hf, if_pos hf, if_neg (fun q => q ok.1), if_neg (fun q => q ok.2), if_pos hf, e]
      exact ⟨fd.2 hx, rfl, rfl, rfl⟩)
  have dm0 : decide (m < 0) = false := by simpa using m0
  have dm1 : decide (20 < m) = false := by simpa using m1
  clear hl hp
  go_enter Try.func21, Try.ntmps21
  go_wp2_with fail
  refine (W.out _).mono ?_
  rintro e w1 ⟨rfl, rfl⟩
  go_wp2_with fail
  refine (PH.out _ hr).mono ?_
  rintro e w1 ⟨rfl, rfl⟩
  go_wp2_with fail
  refine (N1.out _).mono ?_
  rintro e w1 ⟨rfl, hb1⟩
  have hr1 := hr.below hb1
  go_wp2_with fail
  refine (FO.out _ hr1).mono ?_
  rintro e w2 ⟨B, rfl, hf, hb2⟩
  have bel2 := hb1.trans (hb2.mono hb1.size)
  clear W PH N1 FO hr1 hb1 hb2
  go_wp2_with fail
  go_loopg [10, 11, 36] ps.length (fun k b d i wr => NwI l ps m w2 k b d i wr)
  case atStart => exact ⟨0, -1, m + 1, 0, rfl, by omega, by omega, rfl, rfl, Lib.hid rfl, Lib.hid (fun h => by omega), Below.refl _ _⟩
  case round =>
    obtain ⟨k, x, y, z, rfl, hm, hk, rfl, rfl, HR, HZ, bel⟩ := hrel
    subst hm
    have bd := nr_bd l ps m0 k
    rw [HR.out] at bd
    simp only at bd
    obtain ⟨x0, x1, y0, y1⟩ := bd
    by_cases hlt : k < ps.length
    · have hgo : (k : Int) < (ps.length : Int) := by omega
      obtain ⟨g, off, rfl, hg, c0⟩ := (hf.below bel) k (by rw [List.length_map]; exact hlt)
      rw [List.getElem_map] at c0
      have hw := HW.out _ (List.getElem_mem hlt)
      have hw2 := hw.2.2
      have l2 := norm_len1 ps[k]
      have HS := Lib.hid (show nr l ps m (k + 1) = if (dist (norm l) (norm ps[k]) : Int) < y then ((k : Int), (dist (norm l) (norm ps[k]) : Int)) else (x, y) by
        have e : ps.getD k [] = ps[k] := by simp [List.getD, List.getElem?_eq_getElem hlt]
        rw [nr, HR.out, e])
      have D := Lib.hid (impl_dist (norm l) (norm ps[k]) (by omega) (by omega))
      clear HR hw
      generalize norm l = p at *
      generalize norm ps[k] = q at *
      generalize dist p q = d at *
      by_cases hdy : (d : Int) < y
      · have HR := Lib.hid (show nr l ps m (k + 1) = ((k : Int), (d : Int)) by rw [HS.out, if_pos hdy])
        clear HS HZ
        go_wp2_with fail
        refine (D.out _).mono ?_
        rintro e wc ⟨rfl, hqc⟩
        have bel3 := bel.trans (hqc.mono bel.size)
        clear D hqc
        go_wp2_with fail
        go_roundg (ps.length - (k + 1))
        case measure => omega
        case rel => exact ⟨k + 1, _, _, _, by go_num, by omega, by omega, rfl, rfl, HR, Lib.hid (fun _ => rfl), bel3⟩
      · have HR := Lib.hid (show nr l ps m (k + 1) = (x, y) by rw [HS.out, if_neg hdy])
        clear HS
        go_wp2_with fail
        refine (D.out _).mono ?_
        rintro e wc ⟨rfl, hqc⟩
        have bel3 := bel.trans (hqc.mono bel.size)
        clear D hqc
        go_wp2_with fail
        go_roundg (ps.length - (k + 1))
        case measure => omega
        case rel => exact ⟨k + 1, _, _, _, by go_num, by omega, by omega, rfl, rfl, HR, HZ, bel3⟩
    · have ek : k = ps.length := by omega
      subst ek
      have hge : ¬ (ps.length : Int) < (ps.length : Int) := by omega
      have H := Lib.hid (HN.out x y HR.out)
      have fin := bel2.trans (bel.mono bel2.size)
      clear HR HN
      by_cases hx : x < 0
      · have H1 := Lib.hid (H.out.1 hx).2
        have hy : m < y := by have := (H.out.1 hx).1; omega
        clear H HZ
        go_wp2_with fail
        refine bodyPost_ret (v := .tuple #[.int .i64 0, .int .i64 0, .int .i64 4]) (by simp [results, Try.results21, go_sem]) rfl ⟨ret_nnn H1.out, fin⟩
      · have H1 := Lib.hid (H.out.2 (by omega)).2
        have hy : ¬ m < y := by have := (H.out.2 (by omega)).1; omega
        have hz : z = x := HZ.out (by omega)
        subst hz
        clear H HZ
        go_wp2_with fail
        refine bodyPost_ret (v := .tuple #[.int .i64 z, .int .i64 y, .int .i64 0]) (by simp [results, Try.results21, go_sem]) rfl ⟨ret_nnn H1.out, fin⟩

theorem impl_NearestWord (l : List UInt8) (hl : l.length ≤ 2000000) (A : Option Addr) (c : Nat) (ps : List (List UInt8)) (ht : Tame ps) (m : Int) (w : World) (hr : RdS w A ps) :
    Calls Try.prog 21 #[.string (str l), .slice A ps.length c, .int .i64 m] w (Thr (nI l ps m) (nD l ps m) (nE l ps m) w) := by
  by_cases h1 : isW l
  · by_cases h2 : phOk ps
    · by_cases h3 : 0 ≤ m ∧ m ≤ 20
      · exact impl_NearestWord_yes l A c ps m ⟨⟨h1, h2⟩, h3⟩ w hr
      · have W := Lib.hid (impl_word l hl true (decide_eq_true h1))
        have PH := Lib.hid (impl_phrase A c ps ht true (decide_eq_true h2))
        have hf : ¬ nFd l ps m := fun q => h3 q.1.2
        have H := Lib.hid (show 0 = nI l ps m ∧ 0 = nD l ps m ∧ 2 = nE l ps m by
          unfold nI nD nE
          rw [if_neg hf, if_neg hf, if_neg (fun q => q ⟨h1, h2⟩), if_pos h3]
          exact ⟨rfl, rfl, rfl⟩)
        clear h1 h2 hf ht
        by_cases m0 : m < 0
        · clear h3
          go_enter Try.func21, Try.ntmps21
          go_wp2_with fail
          refine (W.out _).mono ?_
          rintro e w1 ⟨rfl, rfl⟩
          go_wp2_with fail
          refine (PH.out _ hr).mono ?_
          rintro e w1 ⟨rfl, rfl⟩
          go_wp2_with fail
          refine bodyPost_ret (v := .tuple #[.int .i64 0, .int .i64 0, .int .i64 2]) (by simp [results, Try.results21, go_sem]) rfl ⟨ret_nnn H.out, Below.refl _ _⟩
        · have m1 : 20 < m := by omega
          have d0 : decide (m < 0) = false := by simpa using m0
          clear h3
          go_enter Try.func21, Try.ntmps21
          go_wp2_with fail
          refine (W.out _).mono ?_
          rintro e w1 ⟨rfl, rfl⟩
          go_wp2_with fail
          refine (PH.out _ hr).mono ?_
          rintro e w1 ⟨rfl, rfl⟩
          go_wp2_with fail
          refine bodyPost_ret (v := .tuple #[.int .i64 0, .int .i64 0, .int .i64 2]) (by simp [results, Try.results21, go_sem]) rfl ⟨ret_nnn H.out, Below.refl _ _⟩
    · have W := Lib.hid (impl_word l hl true (decide_eq_true h1))
      have PH := Lib.hid (impl_phrase A c ps ht false (decide_eq_false h2))
      have hf : ¬ nFd l ps m := fun q => h2 q.1.1.2
      have H := Lib.hid (show 0 = nI l ps m ∧ 0 = nD l ps m ∧ 1 = nE l ps m by
        unfold nI nD nE
        rw [if_neg hf, if_neg hf, if_pos (fun q => h2 q.2)]
        exact ⟨rfl, rfl, rfl⟩)
      clear h1 h2 hf ht
      go_enter Try.func21, Try.ntmps21
      go_wp2_with fail
      refine (W.out _).mono ?_
      rintro e w1 ⟨rfl, rfl⟩
      go_wp2_with fail
      refine (PH.out _ hr).mono ?_
      rintro e w1 ⟨rfl, rfl⟩
      go_wp2_with fail
      refine bodyPost_ret (v := .tuple #[.int .i64 0, .int .i64 0, .int .i64 1]) (by simp [results, Try.results21, go_sem]) rfl ⟨ret_nnn H.out, Below.refl _ _⟩
  · have W := Lib.hid (impl_word l hl false (decide_eq_false h1))
    have hf : ¬ nFd l ps m := fun q => h1 q.1.1.1
    have H := Lib.hid (show 0 = nI l ps m ∧ 0 = nD l ps m ∧ 1 = nE l ps m by
      unfold nI nD nE
      rw [if_neg hf, if_neg hf, if_pos (fun q => h1 q.1)]
      exact ⟨rfl, rfl, rfl⟩)
    clear h1 hf ht
    go_enter Try.func21, Try.ntmps21
    go_wp2_with fail
    refine (W.out _).mono ?_
    rintro e w1 ⟨rfl, rfl⟩
    go_wp2_with fail
    refine bodyPost_ret (v := .tuple #[.int .i64 0, .int .i64 0, .int .i64 1]) (by simp [results, Try.results21, go_sem]) rfl ⟨ret_nnn H.out, Below.refl _ _⟩

theorem impl_SharedWords (A1 A2 : Option Addr) (c1 c2 : Nat) (a b : List (List UInt8)) (ta : Tame a) (tb : Tame b) (w : World) (r1 : RdS w A1 a) (r2 : RdS w A2 b) :
    Calls Try.prog 31 #[.slice A1 a.length c1, .slice A2 b.length c2] w (TwoW (shN a b) (shE a b) w) := by
  by_cases h1 : phOk a
  · have P1 := Lib.hid (impl_phrase A1 c1 a ta true (decide_eq_true h1))
    by_cases h2 : phOk b
    · have P2 := Lib.hid (impl_phrase A2 c2 b tb true (decide_eq_true h2))
      have F1 := Lib.hid (fun w r => impl_forms A1 c1 a h1 w r)
      have F2 := Lib.hid (fun w r => impl_forms A2 c2 b h2 w r)
      have la : (a.map norm).length = a.length := List.length_map _
      have lb : (b.map norm).length = b.length := List.length_map _
      have S := Lib.hid (fun B1 B2 w => impl_longest B1 B2 (a.map norm) (b.map norm) (by rw [la]; exact h1.2) (by rw [lb]; exact h2.2) w)
      rw [la, lb] at S
      have HN := Lib.hid (show ∀ M : Nat, Common (a.map norm) (b.map norm) M → (M : Int) = shN a b ∧ 0 = shE a b from fun M h => ⟨by unfold shN; rw [if_pos ⟨h1, h2⟩, com_eq h], (if_pos ⟨h1, h2⟩).symm⟩)
      clear h1 h2 ta tb la lb
      go_enter Try.func31, Try.ntmps31
      go_wp2_with fail
      refine (P1.out _ r1).mono ?_
      rintro e w1 ⟨rfl, rfl⟩
      go_wp2_with fail
      refine (P2.out _ r2).mono ?_
      rintro e w1 ⟨rfl, rfl⟩
      go_wp2_with fail
      refine (F1.out _ r1).mono ?_
      rintro e w1 ⟨B1, rfl, q1, b1⟩
      have r2' := r2.below b1
      go_wp2_with fail
      refine (F2.out _ r2').mono ?_
      rintro e w2 ⟨B2, rfl, q2, b2⟩
      have q1' := q1.below b2
      go_wp2_with fail
      refine (S.out B1 B2 _ q1' q2).mono ?_
      rintro e w3 ⟨M, rfl, hc, b3⟩
      have H := Lib.hid (HN.out M hc)
      have fin := (b1.trans (b2.mono b1.size)).trans (b3.mono (b1.trans (b2.mono b1.size)).size)
      clear hc HN
      go_wp2_with fail
      go_ret2
      exact ⟨ret_nn H.out.1 H.out.2, fin⟩
    · have P2 := Lib.hid (impl_phrase A2 c2 b tb false (decide_eq_false h2))
      have H := Lib.hid (show 0 = shN a b ∧ 1 = shE a b from ⟨(if_neg (fun h => h2 h.2)).symm, (if_neg (fun h => h2 h.2)).symm⟩)
      clear h1 h2 ta tb
      go_enter Try.func31, Try.ntmps31
      go_wp2_with fail
      refine (P1.out _ r1).mono ?_
      rintro e w1 ⟨rfl, rfl⟩
      go_wp2_with fail
      refine (P2.out _ r2).mono ?_
      rintro e w1 ⟨rfl, rfl⟩
      go_wp2_with fail
      go_ret2
      exact ⟨ret_nn H.out.1 H.out.2, Below.refl _ _⟩
  · have P1 := Lib.hid (impl_phrase A1 c1 a ta false (decide_eq_false h1))
    have H := Lib.hid (show 0 = shN a b ∧ 1 = shE a b from ⟨(if_neg (fun h => h1 h.1)).symm, (if_neg (fun h => h1 h.1)).symm⟩)
    clear h1 ta tb
    go_enter Try.func31, Try.ntmps31
    go_wp2_with fail
    refine (P1.out _ r1).mono ?_
    rintro e w1 ⟨rfl, rfl⟩
    go_wp2_with fail
    go_ret2
    exact ⟨ret_nn H.out.1 H.out.2, Below.refl _ _⟩

end Go.Proofs.Ytdpbikephjnndaa.Wrd
