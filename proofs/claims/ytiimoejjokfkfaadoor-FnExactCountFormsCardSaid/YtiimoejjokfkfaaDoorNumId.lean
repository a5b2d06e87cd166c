/- Contracts of impl's plainWord, plainForms, countSpellings, CountForms, ReadNumeral and ReadNumber. -/
import Derived.Test.YtiimoejjokfkfaaDoorNumIa
import Derived.Test.YtiimoejjokfkfaaDoorNumIb
import Derived.Test.YtiimoejjokfkfaaDoorNumDa
namespace Go.Proofs.YtiimoejjokfkfaaDoor.Num
open Go.RowKit

theorem go_ReplaceAll (l : List UInt8) (hl : l.length ≤ 2000000) (w : World) (h : Mx w) : Calls Tryd.prog 59 #[.string (str l), .string ⟨#[117]⟩, .string ⟨#[118]⟩] w (Tx (l.map uv) w) := by
  have sz := str_size l
  obtain ⟨m, hm⟩ := h
  refine (Tryd.strings_ReplaceAll (str l) ⟨#[117]⟩ ⟨#[118]⟩ m w (by omega) hm (by decide) ?_).mono ?_
  · have h1 := Lib.countB_le ⟨#[117]⟩ (by decide) _ (str l) (Nat.le_refl _)
    have h2 : (⟨#[118]⟩ : ByteArray).size = 1 := rfl
    rw [h2]
    omega
  · rintro e w1 ⟨rfl, hb⟩
    exact ⟨congrArg (fun l => Ending.returned (.string (str l))) (repl_uv l), hb⟩

set_option maxHeartbeats 1000000 in
theorem impl_plainWord (l : List UInt8) (hl : l.length ≤ 2000000) (w : World) (h : Mx w) : Calls Tryd.prog 41 #[.string (str l)] w (Tx (plainL l) w) := by
  have R := Lib.hid (fun w (h : Mx w) => go_ReplaceAll l hl w h)
  have HE := Lib.hid h
  have pl : (l.map uv).length = l.length := List.length_map _
  have HP := Lib.hid (show last 106 105 (l.map uv) = plainL l from rfl)
  clear h
  generalize plainL l = P at *
  generalize l.map uv = q at *
  rcases hs : Lib.hasSuffix q [106] with _ | _
  · have C := Lib.hid (go_CutSuffix_no q (by omega) 106 hs)
    have E := Lib.hid (show q = P by rw [← HP.out, suf_no hs 105])
    clear hs HP
    go_enter Tryd.func41, Tryd.ntmps41
    go_wp2_with fail
    refine (R.out _ HE.out).mono ?_
    rintro e w1 ⟨rfl, b1⟩
    go_wp2_with fail
    refine (C.out _).mono ?_
    rintro e w5 ⟨rfl, rfl⟩
    go_wp2_with fail
    go_ret
    exact ⟨congrArg (fun s => Ending.returned (.string (str s))) E.out, b1⟩
  · have C := Lib.hid (go_CutSuffix_yes q (by omega) 106 hs)
    have E := Lib.hid (show str (Lib.trimSuffix q [106]) ++ (⟨#[105]⟩ : ByteArray) = str P by rw [← HP.out, suf_yes hs 105]; exact str_add _ [105])
    have le := Lib.trimSuffix_le q [106]
    have sl := str_size (Lib.trimSuffix q [106])
    clear hs HP
    generalize Lib.trimSuffix q [106] = l' at *
    go_enter Tryd.func41, Tryd.ntmps41
    go_wp2_with fail
    refine (R.out _ HE.out).mono ?_
    rintro e w1 ⟨rfl, b1⟩
    go_wp2_with fail
    refine (C.out _).mono ?_
    rintro e w5 ⟨rfl, rfl⟩
    go_wp2_with fail
    go_ret
    exact ⟨congrArg (fun s => Ending.returned (.string s)) E.out, b1⟩

/-- What a call leaves that answers two texts. -/
def TxTx (a b : List UInt8) (w : World) (e : Ending) (w' : World) : Prop := e = .returned (.tuple #[.string (str a), .string (str b)]) ∧ Below w.heap.size w w'

theorem impl_plainForms (m : Nat) (hm : isN m) (w : World) (h : Mx w) : Calls Tryd.prog 34 #[.int .i64 m] w (TxTx (formN m false) (formN m true) w) := by
  have hm3 : m ≤ 3999 := by have := hm.2; omega
  have N := Lib.hid (impl_NumeralText m)
  have O := Lib.hid (impl_OldNumeral m)
  have ol : (oldL (formN m true)).length = (formN m true).length := by unfold oldL; rw [last_len, List.length_map]
  have fl := form_len m hm3 true
  have P := Lib.hid (fun w (h : Mx w) => impl_plainWord (oldL (formN m true)) (by omega) w h)
  rw [plain_old] at P
  rw [show ntL (m : Int) = formN m false from (if_pos hm).trans (by unfold form; rw [Int.toNat_natCast])] at N
  rw [show onL (m : Int) = oldL (formN m true) from (if_pos hm).trans (by unfold form; rw [Int.toNat_natCast])] at O
  have HE := Lib.hid h
  clear h hm hm3 ol fl
  generalize oldL (formN m true) = o at *
  generalize formN m true = f2 at *
  generalize formN m false = f1 at *
  go_enter Tryd.func34, Tryd.ntmps34
  go_wp2_with fail
  refine (N.out _).mono ?_
  rintro e w1 ⟨rfl, b1⟩
  go_wp2_with fail
  refine (O.out _).mono ?_
  rintro e w2 ⟨rfl, b2⟩
  have b12 := below_step b1 b2
  go_wp2_with fail
  refine (P.out _ (HE.out.below b12)).mono ?_
  rintro e w3 ⟨rfl, b3⟩
  go_wp2_with fail
  go_ret2
  exact ⟨rfl, below_step b12 b3⟩

theorem ways_cons (a : UInt8) (l : List UInt8) (h : l ≠ []) : ways (a :: l) = (if a = 118 then 2 else 1) * ways l := by
  cases l with
  | nil => exact absurd rfl h
  | cons b r => rfl
theorem ways_snoc (c : UInt8) : ∀ i : List UInt8, ways (i ++ [c]) = 2 ^ (i.count 118) * (if c = 118 ∨ c = 105 then 2 else 1)
  | [] => by simp [ways]
  | a :: r => by
    show ways (a :: (r ++ [c])) = _
    rw [ways_cons a _ (by simp), ways_snoc c r]
    by_cases h : a = 118
    · subst h
      rw [if_pos rfl, List.count_cons_self, Int.pow_succ, Int.mul_comm (2 ^ _) 2, Int.mul_assoc]
    · rw [if_neg h, List.count_cons_of_ne (by simpa using h), Int.one_mul]
theorem ways_count (l : List UInt8) : ways l = (if Lib.hasSuffix l [105] = true then 2 ^ (l.count 118) * 2 else 2 ^ (l.count 118)) := by
  rcases snoc_cases l with rfl | ⟨i, c, rfl⟩
  · rfl
  · rw [ways_snoc, suf_snoc, List.count_append]
    by_cases h : c = 105
    · subst h
      simp
    · have e : ¬ (105 : UInt8) = c := fun q => h q.symm
      by_cases g : c = 118
      · subst g
        simp [Int.pow_succ]
      · simp [h, g, e, List.count_cons_of_ne]

set_option maxHeartbeats 1000000 in
theorem impl_countSpellings (l : List UInt8) (hl : l.length ≤ 20) (w : World) : Calls Tryd.prog 35 #[.string (str l)] w fun e w' => e = .returned (.int .i64 (ways l)) ∧ w' = w := by
  have sz := str_size l
  have hc := List.count_le_length (l := l) (a := (118 : UInt8))
  have C := Lib.hid (Tryd.strings_Count_one (str l) 118)
  have S := Lib.hid (fun w => Tryd.strings_HasSuffix (str l) ⟨#[105]⟩ w (by omega))
  have E := Lib.hid (ways_count l)
  have C1 : Hid (∀ w, Calls Tryd.prog 54 #[.string (str l), .string ⟨#[118]⟩] w fun e w' => e = .returned (.int .i64 (l.count 118 : Nat)) ∧ w' = w) := C
  have S1 : Hid (∀ w, Calls Tryd.prog 55 #[.string (str l), .string ⟨#[105]⟩] w fun e w' => e = .returned (.bool (Lib.hasSuffix l [105])) ∧ w' = w) := S
  clear C S
  generalize ways l = T at *
  generalize l.count 118 = k at *
  generalize Lib.hasSuffix l [105] = z at *
  have hk : k ≤ 20 := by omega
  have k0 : ¬ (k : Int) < 0 := by omega
  have p2 : (2 : Int) ^ k ≤ 1048576 := by
    have h2 : (2 : Int) ^ k ≤ 2 ^ 20 := by
      have := Nat.pow_le_pow_right (show 0 < 2 by omega) hk
      exact_mod_cast this
    have h3 : (2 : Int) ^ 20 = 1048576 := by decide
    omega
  have p1 : 1 ≤ (2 : Int) ^ k := by
    have := Nat.one_le_two_pow (n := k)
    exact_mod_cast this
  rcases z with _ | _
  · have E2 := Lib.hid (show (2 : Int) ^ k = T by rw [E.out]; rfl)
    clear E
    go_enter Tryd.func35, Tryd.ntmps35
    go_wp2_with fail
    refine (C1.out _).mono ?_
    rintro e w1 ⟨rfl, rfl⟩
    go_wp2_with fail
    refine (S1.out _).mono ?_
    rintro e w2 ⟨rfl, rfl⟩
    go_wp2_with fail
    go_ret
    exact ⟨conv_ret E2.out, rfl⟩
  · have E2 := Lib.hid (show (2 : Int) ^ k * 2 = T by rw [E.out]; rfl)
    clear E
    go_enter Tryd.func35, Tryd.ntmps35
    go_wp2_with fail
    refine (C1.out _).mono ?_
    rintro e w1 ⟨rfl, rfl⟩
    go_wp2_with fail
    refine (S1.out _).mono ?_
    rintro e w2 ⟨rfl, rfl⟩
    go_wp2_with fail
    go_ret
    exact ⟨conv_ret E2.out, rfl⟩

set_option maxHeartbeats 1000000 in
theorem impl_CountForms (n : Int) (w : World) (h : Mx w) : Calls Tryd.prog 11 #[.int .i64 n] w (Two (cfN n) (cfE n) w) := by
  by_cases hn : isN n
  · obtain ⟨m, rfl⟩ := Int.eq_ofNat_of_zero_le (show 0 ≤ n by have := hn.1; omega)
    have hm : m ≤ 3999 := by have := hn.2; omega
    have I := Lib.hid (impl_isN m true (decide_eq_true hn))
    have F := Lib.hid (impl_plainForms m hn w h)
    have W1 := Lib.hid (impl_countSpellings (formN m false) (form_len m hm false))
    have W2 := Lib.hid (impl_countSpellings (formN m true) (form_len m hm true))
    have b1 := ways_20 (formN m false) (form_len m hm false)
    have b2 := ways_20 (formN m true) (form_len m hm true)
    have p1 := ways_pos (formN m false)
    have p2 := ways_pos (formN m true)
    have hE : cfE m = 0 := if_pos hn
    have hN := cfN_in hn
    rw [hE]
    obtain ⟨l1, e1⟩ : ∃ l, formN m false = l := ⟨_, rfl⟩
    obtain ⟨l2, e2⟩ : ∃ l, formN m true = l := ⟨_, rfl⟩
    rw [e1] at F W1 b1 p1 hN
    rw [e2] at F W2 b2 p2 hN
    clear e1 e2 hE h
    generalize cfN m = T at *
    generalize ways l1 = x1 at *
    generalize ways l2 = x2 at *
    have HN := Lib.hid hN
    clear hN hn hm
    have t1 := str_toList l1
    have t2 := str_toList l2
    by_cases hl : l2 = l1
    · have hq : (l2 == l1) = true := by rw [hl]; simp
      have HM := Lib.hid (show x1 = T by rw [HN.out, if_pos hl, Int.add_zero])
      clear HN hl
      go_enter Tryd.func11, Tryd.ntmps11
      go_wp2_with fail
      refine (I.out _).mono ?_
      rintro e w1 ⟨rfl, rfl⟩
      go_wp2_with fail
      refine F.out.mono ?_
      rintro e w2 ⟨rfl, k2⟩
      go_wp2_with fail
      refine (W1.out _).mono ?_
      rintro e w3 ⟨rfl, rfl⟩
      go_wp2_with fail
      go_ret2
      exact ⟨congrArg (fun a => Ending.returned (.tuple #[.int .i64 a, .int .i64 0])) HM.out, k2⟩
    · have hq : (l2 == l1) = false := by simpa using hl
      have HM := Lib.hid (show x1 + x2 = T by rw [HN.out, if_neg hl])
      clear HN hl
      go_enter Tryd.func11, Tryd.ntmps11
      go_wp2_with fail
      refine (I.out _).mono ?_
      rintro e w1 ⟨rfl, rfl⟩
      go_wp2_with fail
      refine F.out.mono ?_
      rintro e w2 ⟨rfl, k2⟩
      go_wp2_with fail
      refine (W1.out _).mono ?_
      rintro e w3 ⟨rfl, rfl⟩
      go_wp2_with fail
      refine (W2.out _).mono ?_
      rintro e w4 ⟨rfl, rfl⟩
      go_wp2_with fail
      go_ret2
      exact ⟨congrArg (fun a => Ending.returned (.tuple #[.int .i64 a, .int .i64 0])) HM.out, k2⟩
  · have I := Lib.hid (impl_isN n false (decide_eq_false hn))
    rw [show cfN n = 0 from if_neg hn, show cfE n = 2 from if_neg hn]
    clear hn h
    go_enter Tryd.func11, Tryd.ntmps11
    go_wp2_with fail
    refine (I.out _).mono ?_
    rintro e w1 ⟨rfl, rfl⟩
    go_wp2_with fail
    go_ret2
    exact ⟨rfl, Below.refl _ _⟩

theorem impl_ReadNumeral_long (l : List UInt8) (hl : 20 < l.length) (h2 : l.length ≤ 2000000) (w : World) : Calls Tryd.prog 14 #[.string (str l)] w (NB (fun k b => k = rdV l ∧ b = rdB l) w) := by
  have sz := str_size l
  have eB : rdB l = false := decide_eq_false (fun h => by omega)
  have eV : rdV l = 0 := by unfold rdV; rw [eB]; rfl
  rw [eB, eV]
  have h20 : (20 : Int) < (l.length : Int) := by omega
  clear eB eV
  go_enter Tryd.func14, Tryd.ntmps14
  go_wp2_with fail
  go_ret2
  exact ⟨0, false, rfl, ⟨rfl, rfl⟩, Below.refl _ _⟩

set_option maxHeartbeats 2000000 in
theorem impl_ReadNumeral_at (l P : List UInt8) (K : Int) (B : Bool) (hl : l.length ≤ 20) (pl : P.length = l.length) (HW : Hid (∀ w, Mx w → Calls Tryd.prog 41 #[.string (str l)] w (Tx P w)))
    (HS : Hid (∀ w, Calls Tryd.prog 40 #[.string (str l)] w (NB (SumAns l) w))) (H0 : Hid (¬ rdOk P → K = 0 ∧ B = false)) (H1 : Hid (rdOk P → K = sumL P ∧ B = true))
    (HP : Hid (P = plainL l)) (w : World) (h : Mx w) : Calls Tryd.prog 14 #[.string (str l)] w (NB (fun k b => k = K ∧ b = B) w) := by
  have sz := str_size l
  have HE := Lib.hid h
  have hgo : ¬ (20 : Int) < (l.length : Int) := by omega
  clear h
  go_enter Tryd.func14, Tryd.ntmps14
  go_wp2_with fail
  refine (HS.out _).mono ?_
  rintro e w1 ⟨k1, r1, rfl, ha, b1⟩
  rcases ha with ⟨hall, rfl, rfl⟩ | ⟨hall, rfl, rfl⟩
  · rw [← HP.out]
    rcases rd_cases (P := P) rfl H0.out H1.out with ⟨hn, rfl, rfl⟩ | ⟨m, hS, hm, hm2, hc⟩
    · have I := Lib.hid (impl_isN (sumL P) false (decide_eq_false hn))
      clear hn H0 H1 hall
      generalize sumL P = S at *
      go_wp2_with fail
      refine (I.out _).mono ?_
      rintro e w2 ⟨rfl, rfl⟩
      go_wp2_with fail
      go_ret2
      exact ⟨0, false, rfl, ⟨rfl, rfl⟩, b1⟩
    · have I := Lib.hid (impl_isN m true (decide_eq_true hm))
      have F := Lib.hid (impl_plainForms m hm w1 (HE.out.below b1))
      rw [hS] at hc
      rw [hS]
      generalize formN m false = f1 at *
      generalize formN m true = f2 at *
      have t0 := str_toList P
      have t1 := str_toList f1
      have t2 := str_toList f2
      clear hm hm2 H0 H1 HS hall hS
      rcases hc with ⟨hc, rfl, rfl⟩ | ⟨hc, hd, rfl, rfl⟩ | ⟨hc, hd, rfl, rfl⟩
      · have q1 : (P == f1) = true := by simpa using hc
        clear hc
        go_wp2_with fail
        refine (I.out _).mono ?_
        rintro e w2 ⟨rfl, rfl⟩
        go_wp2_with fail
        refine F.out.mono ?_
        rintro e w2 ⟨rfl, b2⟩
        go_wp2_with fail
        refine (HW.out _ (HE.out.below (below_step b1 b2))).mono ?_
        rintro e w3 ⟨rfl, b3⟩
        go_wp2_with fail
        go_ret2
        exact ⟨_, true, rfl, ⟨rfl, rfl⟩, below_step (below_step b1 b2) b3⟩
      · have q1 : (P == f1) = false := by simpa using hc
        have q2 : (P == f2) = true := by simpa using hd
        clear hc hd
        go_wp2_with fail
        refine (I.out _).mono ?_
        rintro e w2 ⟨rfl, rfl⟩
        go_wp2_with fail
        refine F.out.mono ?_
        rintro e w2 ⟨rfl, b2⟩
        go_wp2_with fail
        refine (HW.out _ (HE.out.below (below_step b1 b2))).mono ?_
        rintro e w3 ⟨rfl, b3⟩
        go_wp2_with fail
        go_ret2
        exact ⟨_, true, rfl, ⟨rfl, rfl⟩, below_step (below_step b1 b2) b3⟩
      · have q1 : (P == f1) = false := by simpa using hc
        have q2 : (P == f2) = false := by simpa using hd
        clear hc hd
        go_wp2_with fail
        refine (I.out _).mono ?_
        rintro e w2 ⟨rfl, rfl⟩
        go_wp2_with fail
        refine F.out.mono ?_
        rintro e w2 ⟨rfl, b2⟩
        go_wp2_with fail
        refine (HW.out _ (HE.out.below (below_step b1 b2))).mono ?_
        rintro e w3 ⟨rfl, b3⟩
        go_wp2_with fail
        go_ret2
        exact ⟨0, false, rfl, ⟨rfl, rfl⟩, below_step (below_step b1 b2) b3⟩
  · have hno : K = 0 ∧ B = false := H0.out (fun q => hall (rd_all (HP.out ▸ q)))
    obtain ⟨rfl, rfl⟩ := hno
    clear H0 H1 hall HP
    go_wp2_with fail
    go_ret2
    exact ⟨0, false, rfl, ⟨rfl, rfl⟩, b1⟩

theorem impl_ReadNumeral (l : List UInt8) (h2 : l.length ≤ 2000000) (w : World) (h : Mx w) : Calls Tryd.prog 14 #[.string (str l)] w (NB (fun k b => k = rdV l ∧ b = rdB l) w) := by
  by_cases hl : l.length ≤ 20
  · refine impl_ReadNumeral_at l (plainL l) (rdV l) (rdB l) hl (plain_len l) (Lib.hid (fun w h => impl_plainWord l (by omega) w h)) (Lib.hid (impl_sum l hl)) (Lib.hid fun h => ?_) (Lib.hid fun h => ?_) (Lib.hid rfl) w h
    · have e : rdB l = false := decide_eq_false (fun q => h q.2)
      exact ⟨by unfold rdV; rw [e]; rfl, e⟩
    · have e : rdB l = true := decide_eq_true ⟨hl, h⟩
      exact ⟨by unfold rdV; rw [e]; rfl, e⟩
  · exact impl_ReadNumeral_long l (by omega) h2 w

set_option maxHeartbeats 1000000 in
theorem impl_ReadNumber (l : List UInt8) (h2 : l.length ≤ 2000000) (w : World) (h : Env w) : Calls Tryd.prog 22 #[.string (str l)] w (NB (fun k b => k = rnV l ∧ b = rnB l) w) := by
  have D := Lib.hid (impl_readDecimal l h2 w h.1)
  have R := Lib.hid (fun w h => impl_ReadNumeral l h2 w h)
  have HE := Lib.hid h
  clear h
  unfold rnV rnB
  cases hr : rn l with
  | none =>
    have hno : ¬ (dgB l = true ∧ isN (dgV l)) := fun q => by
      have := rn_of q.1 q.2
      rw [hr] at this
      cases this
    rw [if_neg hno, if_neg hno]
    rw [hr] at D
    have D1 : Hid (Calls Tryd.prog 47 #[.string (str l)] w fun e w' => e = .returned (.tuple #[.int .i64 0, .bool false]) ∧ Below w.heap.size w w') := D
    clear D hr hno
    go_enter Tryd.func22, Tryd.ntmps22
    go_wp2_with fail
    refine D1.out.mono ?_
    rintro e w1 ⟨rfl, b1⟩
    go_wp2_with fail
    refine (R.out _ (HE.out.2.below b1)).mono ?_
    rintro e w3 ⟨k, b, rfl, ⟨rfl, rfl⟩, b3⟩
    go_wp2_with fail
    go_ret2
    exact ⟨_, _, rfl, ⟨rfl, rfl⟩, below_step b1 b3⟩
  | some n =>
    rw [hr] at D
    have D1 : Hid (Calls Tryd.prog 47 #[.string (str l)] w fun e w' => e = .returned (.tuple #[.int .i64 n, .bool true]) ∧ Below w.heap.size w w') := D
    by_cases hn : isN n
    · obtain ⟨e1, e2⟩ := rn_yes hr hn
      rw [if_pos ⟨e1, e2 ▸ hn⟩, if_pos ⟨e1, e2 ▸ hn⟩, e2]
      have I := Lib.hid (impl_isN n true (decide_eq_true hn))
      clear D hr hn e1 e2 R
      go_enter Tryd.func22, Tryd.ntmps22
      go_wp2_with fail
      refine D1.out.mono ?_
      rintro e w1 ⟨rfl, b1⟩
      go_wp2_with fail
      refine (I.out _).mono ?_
      rintro e w2 ⟨rfl, rfl⟩
      go_wp2_with fail
      go_ret2
      exact ⟨_, true, rfl, ⟨rfl, rfl⟩, b1⟩
    · have hno : ¬ (dgB l = true ∧ isN (dgV l)) := fun q => by
        have := rn_of q.1 q.2
        rw [hr] at this
        injection this with this
        exact hn (this ▸ q.2)
      rw [if_neg hno, if_neg hno]
      have I := Lib.hid (impl_isN n false (decide_eq_false hn))
      clear D hr hn hno
      go_enter Tryd.func22, Tryd.ntmps22
      go_wp2_with fail
      refine D1.out.mono ?_
      rintro e w1 ⟨rfl, b1⟩
      go_wp2_with fail
      refine (I.out _).mono ?_
      rintro e w2 ⟨rfl, rfl⟩
      go_wp2_with fail
      refine (R.out _ (HE.out.2.below b1)).mono ?_
      rintro e w3 ⟨k, b, rfl, ⟨rfl, rfl⟩, b3⟩
      go_wp2_with fail
      go_ret2
      exact ⟨_, _, rfl, ⟨rfl, rfl⟩, below_step b1 b3⟩

end Go.Proofs.YtiimoejjokfkfaaDoor.Num
