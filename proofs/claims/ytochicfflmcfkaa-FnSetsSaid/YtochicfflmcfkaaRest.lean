/- What a set leaves of all days: impl's gapsBetween and spec's l02Rest; WithoutSet of both. -/
import Derived.Test.YtochicfflmcfkaaMeetS
namespace Go.Proofs.Ytochicfflmcfkaa.Sets
open Go.RowKit

theorem rest_hit {ys acc T : L} {f : Int} {k : Nat} (hk : k < ys.length) (hf : f < ys[k].1) (h : acc ++ rest f (ys.drop k) = T) : (acc ++ [(f, ys[k].1 - 1)]) ++ rest (ys[k].2 + 1) (ys.drop (k + 1)) = T := by
  rw [List.drop_eq_getElem_cons hk, rest, if_pos hf] at h
  rw [List.append_assoc]; exact h
theorem rest_miss {ys acc T : L} {f : Int} {k : Nat} (hk : k < ys.length) (hf : ¬ f < ys[k].1) (h : acc ++ rest f (ys.drop k) = T) : acc ++ rest (ys[k].2 + 1) (ys.drop (k + 1)) = T := by
  rw [List.drop_eq_getElem_cons hk, rest, if_neg hf] at h
  simpa using h
theorem rest_end {ys acc T : L} {f : Int} {k : Nat} (hk : ys.length ≤ k) (h : acc ++ rest f (ys.drop k) = T) : acc ++ (if f ≤ 730499 then [(f, 730499)] else []) = T := by
  rw [List.drop_eq_nil_of_le hk, rest] at h
  exact h
def RestLoop (T ys : L) (n : Nat) (w : World) (m : Nat) (v fv i : Value) (wr : World) : Prop :=
  ∃ (k : Nat) (f : Int) (acc : L), i = .int .i64 k ∧ fv = .int .i64 f ∧ m = n - k ∧ k ≤ n ∧ 0 ≤ f ∧ f ≤ 730500 ∧ Own wr w.heap.size v acc ∧ Below w.heap.size w wr ∧ acc.length ≤ k ∧ Hid (acc ++ rest f (ys.drop k) = T)

set_option maxHeartbeats 4000000 in
set_option maxRecDepth 100000 in
theorem impl_restT (T : L) (A : Option Addr) (n c : Nat) (ys : L) (hT : Hid (rest 0 ys = T)) (hn : n ≤ 300) (hnf : Hid (NF 0 ys)) (w : World) (hy : Rd w A n ys) :
    Calls Try.prog 54 #[.slice A n c] w (Spans T w) := by
  go_enter Try.func54, Try.ntmps54
  go_wp2_with fail
  go_loopg [3, 4, 9] n (fun m v f i wr => RestLoop T ys n w m v f i wr)
  case atStart => exact ⟨0, 0, [], rfl, rfl, by omega, by omega, by omega, by omega, Own.nil _ _, Below.refl _ _, by simp, Lib.hid (by simpa using hT.out)⟩
  case round =>
    obtain ⟨k, f, acc, rfl, rfl, hm, hk, f0, f1, hown, hb, hlen, HT⟩ := hrel
    subst hm
    by_cases hlt : k < n
    · obtain ⟨g, off, hl, rfl, hg, c0, c1⟩ := (hy.below hb).at_ hlt
      have ok1 : ok ys[k] := hnf.out.ok_of _ (List.getElem_mem hl)
      obtain ⟨s0, s1, s2⟩ := ok1
      by_cases hf : f < ys[k].1
      · have HT2 := Lib.hid (rest_hit hl hf HT.out)
        have hd : decide (f < ys[k].1) = true := by simpa using hf
        clear HT
        have hb1 : Below w.heap.size w (wr.alloc (.cells #[.int .i64 ys[k].1, .int .i64 ys[k].2] 40)) := hb.alloc hb.size _
        have own1 := Own.below hown (w' := (wr.alloc (.cells #[.int .i64 ys[k].1, .int .i64 ys[k].2] 40))) ((Below.refl _ _).alloc (Nat.le_refl _) _)
        go_wp2_with (at_builtin; refine append_spanG (by simp) hb1 own1 (by omega) rfl (.tmp 17) (.tmp 23) rfl rfl rfl ?_)
        intro v2 w2 own2 hb2 hkeep
        have hl2 : (acc ++ [(f, ys[k].1 - 1)]).length ≤ k + 1 := by simp; omega
        have q := hkeep _ _ _ (Blk.new wr 40 #[.int .i64 ys[k].1, .int .i64 ys[k].2]) hown.below_own
        have q0 := q.cell 0
        have q1 := q.cell 1
        simp only [List.getElem?_toArray, List.getElem?_cons_zero, List.getElem?_cons_succ] at q0 q1
        clear hown hlen hkeep q
        go_wp2_with fail
        go_roundg (n - (k + 1))
        case measure => omega
        case rel => exact ⟨k + 1, ys[k].2 + 1, _, by go_num, rfl, rfl, by omega, by omega, by omega, own2, hb2, hl2, HT2⟩
      · have HT2 := Lib.hid (rest_miss hl hf HT.out)
        have hd : decide (f < ys[k].1) = false := by simpa using hf
        have hl2 : acc.length ≤ k + 1 := by omega
        have hb1 : Below w.heap.size w (wr.alloc (.cells #[.int .i64 ys[k].1, .int .i64 ys[k].2] 40)) := hb.alloc hb.size _
        have own1 := Own.below hown (w' := (wr.alloc (.cells #[.int .i64 ys[k].1, .int .i64 ys[k].2] 40))) ((Below.refl _ _).alloc (Nat.le_refl _) _)
        clear HT hlen
        go_wp2_with fail
        go_roundg (n - (k + 1))
        case measure => omega
        case rel => exact ⟨k + 1, ys[k].2 + 1, _, by go_num, rfl, rfl, by omega, by omega, by omega, own1, hb1, hl2, HT2⟩
    · have HT1 := Lib.hid (rest_end (by have := hy.1; omega) HT.out)
      clear HT
      by_cases hf : f ≤ 730499
      · have HT2 := Lib.hid (show acc ++ [(f, 730499)] = T by have := HT1.out; rwa [if_pos hf] at this)
        go_wp2_with (at_builtin; refine append_span hb hown (by omega) rfl (.tmp 31) (.tmp 34) rfl rfl rfl ?_)
        intro v2 w2 own2 hb2
        rw [HT2.out] at own2
        obtain ⟨A, c, rfl, hrow⟩ := own2.form
        have R := Lib.hid hrow
        clear hrow
        go_wp2_with fail
        go_ret
        exact ⟨_, _, rfl, R.out, hb2⟩
      · have E : acc = T := by have := HT1.out; rw [if_neg hf] at this; simpa using this
        have hd : decide (f ≤ 730499) = false := by simpa using hf
        subst E
        obtain ⟨A, c, rfl, hrow⟩ := hown.form
        have R := Lib.hid hrow
        clear hrow
        go_wp2_with fail
        go_ret
        exact ⟨_, _, rfl, R.out, hb⟩

set_option maxHeartbeats 4000000 in
set_option maxRecDepth 100000 in
theorem spec_restT (T : L) (A : Option Addr) (n c : Nat) (ys : L) (hT : Hid (rest 0 ys = T)) (hn : n ≤ 300) (hnf : Hid (NF 0 ys)) (w : World) (hy : Rd w A n ys) :
    Calls Try.prog 55 #[.slice A n c] w (Spans T w) := by
  go_enter Try.func55, Try.ntmps55
  go_wp2_with fail
  go_loopg [3, 4, 5] n (fun m v f i wr => RestLoop T ys n w m v f i wr)
  case atStart => exact ⟨0, 0, [], rfl, rfl, by omega, by omega, by omega, by omega, Own.made0 w, (Below.refl _ _).alloc (Nat.le_refl _) _, by simp, Lib.hid (by simpa using hT.out)⟩
  case round =>
    obtain ⟨k, f, acc, rfl, rfl, hm, hk, f0, f1, hown, hb, hlen, HT⟩ := hrel
    subst hm
    by_cases hlt : k < n
    · obtain ⟨g, off, hl, rfl, hg, c0, c1⟩ := (hy.below hb).at_ hlt
      have ok1 : ok ys[k] := hnf.out.ok_of _ (List.getElem_mem hl)
      obtain ⟨s0, s1, s2⟩ := ok1
      by_cases hf : f < ys[k].1
      · have HT2 := Lib.hid (rest_hit hl hf HT.out)
        have hd : decide (f < ys[k].1) = true := by simpa using hf
        clear HT
        go_wp2_with (at_builtin; refine append_span hb hown (by omega) rfl (.tmp 20) (.tmp 29) rfl rfl rfl ?_)
        intro v2 w2 own2 hb2
        have hl2 : (acc ++ [(f, ys[k].1 - 1)]).length ≤ k + 1 := by simp; omega
        clear hown hlen
        obtain ⟨g', off', _, e1, hg', d0, d1⟩ := (hy.below hb2).at_ hlt
        injection e1 with e1; injection e1 with e1 e1'; subst e1 e1'
        clear c0 c1
        go_wp2_with fail
        go_roundg (n - (k + 1))
        case measure => omega
        case rel => exact ⟨k + 1, ys[k].2 + 1, _, by go_num, rfl, rfl, by omega, by omega, by omega, own2, hb2, hl2, HT2⟩
      · have HT2 := Lib.hid (rest_miss hl hf HT.out)
        have hd : decide (f < ys[k].1) = false := by simpa using hf
        have hl2 : acc.length ≤ k + 1 := by omega
        clear HT hlen
        go_wp2_with fail
        go_roundg (n - (k + 1))
        case measure => omega
        case rel => exact ⟨k + 1, ys[k].2 + 1, _, by go_num, rfl, rfl, by omega, by omega, by omega, hown, hb, hl2, HT2⟩
    · have HT1 := Lib.hid (rest_end (by have := hy.1; omega) HT.out)
      clear HT
      by_cases hf : f ≤ 730499
      · have HT2 := Lib.hid (show acc ++ [(f, 730499)] = T by have := HT1.out; rwa [if_pos hf] at this)
        go_wp2_with (at_builtin; refine append_span hb hown (by omega) rfl (.tmp 39) (.tmp 42) rfl rfl rfl ?_)
        intro v2 w2 own2 hb2
        rw [HT2.out] at own2
        obtain ⟨A, c, rfl, hrow⟩ := own2.form
        have R := Lib.hid hrow
        clear hrow
        go_wp2_with fail
        go_ret
        exact ⟨_, _, rfl, R.out, hb2⟩
      · have E : acc = T := by have := HT1.out; rw [if_neg hf] at this; simpa using this
        have hd : decide (f ≤ 730499) = false := by simpa using hf
        subst E
        obtain ⟨A, c, rfl, hrow⟩ := hown.form
        have R := Lib.hid hrow
        clear hrow
        go_wp2_with fail
        go_ret
        exact ⟨_, _, rfl, R.out, hb⟩

theorem impl_WithoutSet (A1 A2 : Option Addr) (n1 n2 c1 c2 : Nat) (xs ys : L) (hn1 : n1 ≤ maxLen) (hn2 : n2 ≤ maxLen) (h1 : n1 ≤ c1) (_h2 : n2 ≤ c2) (w : World) (hx : Rd w A1 n1 xs) (hy : Rd w A2 n2 ys) :
    Calls Try.prog 20 #[.slice A1 n1 c1, .slice A2 n2 c2] w (SetOut (resV (setB xs && setB ys) (meet xs (rest 0 ys))) (resE (setB xs && setB ys) (meet xs (rest 0 ys))) w) := by
  have N1 := Lib.hid hn1
  have N2 := Lib.hid hn2
  clear hn1 hn2
  by_cases hs : setB xs = true
  · by_cases ht : setB ys = true
    · have L1 : n1 ≤ 300 := by have := set_len hs; have := hx.1; omega
      have L2 : n2 ≤ 300 := by have := set_len ht; have := hy.1; omega
      have S1 := Lib.hid hs
      have S2 := Lib.hid ht
      rw [hs, ht]
      clear hs ht
      by_cases hl : (meet xs (rest 0 ys)).length ≤ 300
      · have EV : resV (true && true) (meet xs (rest 0 ys)) = meet xs (rest 0 ys) := by simp [resV, hl]
        have EE : resE (true && true) (meet xs (rest 0 ys)) = 0 := by simp [resE, hl]
        have HL := Lib.hid hl
        rw [EV, EE]
        clear EV EE hl
        go_enter Try.func20, Try.ntmps20
        go_wp2_with fail
        refine (impl_IsSetB A1 n1 c1 xs true S1.out N1.out _ hx).mono ?_
        rintro e w1 ⟨rfl, b1⟩
        go_wp2_with fail
        refine (impl_IsSetB A2 n2 c2 ys true S2.out N2.out _ (hy.below b1)).mono ?_
        rintro e w2 ⟨rfl, b2⟩
        have k2 := below_on b1 b2
        go_wp2_with fail
        refine (impl_restT (rest 0 ys) A2 n2 c2 ys (Lib.hid rfl) L2 (Lib.hid (set_nf S2.out)) _ (hy.below k2)).mono ?_
        rintro e w2b ⟨A4, c4, rfl, r4, b4⟩
        have k2b := below_on k2 b4
        have LL := rest_length 0 ys
        have HY := hy.1
        go_wp2_with fail
        refine (impl_meetT (meet xs (rest 0 ys)) (n1 + (rest 0 ys).length) A1 A4 n1 _ c1 c4 xs (rest 0 ys) (Lib.hid rfl) (Nat.le_refl _) (by omega) h1 r4.2.1 _ (hx.below k2b) r4.rd).mono ?_
        rintro e w3 ⟨A3, c3, rfl, r3, b3⟩
        have k3 := below_on k2b b3
        clear LL HY
        go_wp2_with fail
        refine (impl_res_short A3 _ c3 HL.out _).mono ?_
        rintro e w4 ⟨rfl, rfl⟩
        go_wp2_with fail
        go_ret2
        exact ⟨_, _, rfl, (r3.mono k2b.size (Nat.le_refl _) (Nat.le_refl _)), k3⟩
      · have EV : resV (true && true) (meet xs (rest 0 ys)) = [] := by simp [resV, hl]
        have EE : resE (true && true) (meet xs (rest 0 ys)) = 3 := by simp [resE, hl]
        have HL := Lib.hid hl
        rw [EV, EE]
        clear EV EE hl
        go_enter Try.func20, Try.ntmps20
        go_wp2_with fail
        refine (impl_IsSetB A1 n1 c1 xs true S1.out N1.out _ hx).mono ?_
        rintro e w1 ⟨rfl, b1⟩
        go_wp2_with fail
        refine (impl_IsSetB A2 n2 c2 ys true S2.out N2.out _ (hy.below b1)).mono ?_
        rintro e w2 ⟨rfl, b2⟩
        have k2 := below_on b1 b2
        go_wp2_with fail
        refine (impl_restT (rest 0 ys) A2 n2 c2 ys (Lib.hid rfl) L2 (Lib.hid (set_nf S2.out)) _ (hy.below k2)).mono ?_
        rintro e w2b ⟨A4, c4, rfl, r4, b4⟩
        have k2b := below_on k2 b4
        have LL := rest_length 0 ys
        have HY := hy.1
        go_wp2_with fail
        refine (impl_meetT (meet xs (rest 0 ys)) (n1 + (rest 0 ys).length) A1 A4 n1 _ c1 c4 xs (rest 0 ys) (Lib.hid rfl) (Nat.le_refl _) (by omega) h1 r4.2.1 _ (hx.below k2b) r4.rd).mono ?_
        rintro e w3 ⟨A3, c3, rfl, r3, b3⟩
        have k3 := below_on k2b b3
        clear LL HY
        go_wp2_with fail
        refine (impl_res_long A3 _ c3 HL.out _).mono ?_
        rintro e w4 ⟨rfl, rfl⟩
        go_wp2_with fail
        go_ret2
        exact ⟨none, 0, rfl, Row.nil (Nat.le_refl _), k3⟩
    · have ht' : setB ys = false := by simpa using ht
      have S1 := Lib.hid hs
      have S2 := Lib.hid ht'
      rw [hs, ht']
      clear hs ht ht'
      go_enter Try.func20, Try.ntmps20
      go_wp2_with fail
      refine (impl_IsSetB A1 n1 c1 xs true S1.out N1.out _ hx).mono ?_
      rintro e w1 ⟨rfl, b1⟩
      go_wp2_with fail
      refine (impl_IsSetB A2 n2 c2 ys false S2.out N2.out _ (hy.below b1)).mono ?_
      rintro e w2 ⟨rfl, b2⟩
      have k2 := below_on b1 b2
      go_wp2_with fail
      go_ret2
      exact ⟨none, 0, rfl, Row.nil (Nat.le_refl _), k2⟩
  · have hs' : setB xs = false := by simpa using hs
    have S1 := Lib.hid hs'
    rw [hs']
    clear hs hs'
    go_enter Try.func20, Try.ntmps20
    go_wp2_with fail
    refine (impl_IsSetB A1 n1 c1 xs false S1.out N1.out _ hx).mono ?_
    rintro e w1 ⟨rfl, b1⟩
    go_wp2_with fail
    go_ret2
    exact ⟨none, 0, rfl, Row.nil (Nat.le_refl _), b1⟩

theorem spec_WithoutSet (A1 A2 : Option Addr) (n1 n2 c1 c2 : Nat) (xs ys : L) (hn1 : n1 ≤ maxLen) (hn2 : n2 ≤ maxLen) (w : World) (hx : Rd w A1 n1 xs) (hy : Rd w A2 n2 ys) :
    Calls Try.prog 21 #[.slice A1 n1 c1, .slice A2 n2 c2] w (SetOut (resV (setB xs && setB ys) (meet xs (rest 0 ys))) (resE (setB xs && setB ys) (meet xs (rest 0 ys))) w) := by
  have N1 := Lib.hid hn1
  have N2 := Lib.hid hn2
  clear hn1 hn2
  by_cases hs : setB xs = true
  · by_cases ht : setB ys = true
    · have L1 : n1 ≤ 300 := by have := set_len hs; have := hx.1; omega
      have L2 : n2 ≤ 300 := by have := set_len ht; have := hy.1; omega
      have S1 := Lib.hid hs
      have S2 := Lib.hid ht
      rw [hs, ht]
      clear hs ht
      by_cases hl : (meet xs (rest 0 ys)).length ≤ 300
      · have EV : resV (true && true) (meet xs (rest 0 ys)) = meet xs (rest 0 ys) := by simp [resV, hl]
        have EE : resE (true && true) (meet xs (rest 0 ys)) = 0 := by simp [resE, hl]
        have HL := Lib.hid hl
        rw [EV, EE]
        clear EV EE hl
        go_enter Try.func21, Try.ntmps21
        go_wp2_with fail
        refine (spec_IsSetB A1 n1 c1 xs true S1.out N1.out _ hx).mono ?_
        rintro e w1 ⟨rfl, b1⟩
        go_wp2_with fail
        refine (spec_IsSetB A2 n2 c2 ys true S2.out N2.out _ (hy.below b1)).mono ?_
        rintro e w2 ⟨rfl, b2⟩
        have k2 := below_on b1 b2
        go_wp2_with fail
        refine (spec_restT (rest 0 ys) A2 n2 c2 ys (Lib.hid rfl) L2 (Lib.hid (set_nf S2.out)) _ (hy.below k2)).mono ?_
        rintro e w2b ⟨A4, c4, rfl, r4, b4⟩
        have k2b := below_on k2 b4
        have LL := rest_length 0 ys
        have HY := hy.1
        go_wp2_with fail
        refine (spec_meetT (meet xs (rest 0 ys)) (n1 + (rest 0 ys).length) A1 A4 n1 _ c1 c4 xs (rest 0 ys) (Lib.hid rfl) (Nat.le_refl _) (by omega) _ (hx.below k2b) r4.rd).mono ?_
        rintro e w3 ⟨A3, c3, rfl, r3, b3⟩
        have k3 := below_on k2b b3
        clear LL HY
        go_wp2_with fail
        refine (spec_res_short A3 _ c3 HL.out _).mono ?_
        rintro e w4 ⟨rfl, rfl⟩
        go_wp2_with fail
        go_ret2
        exact ⟨_, _, rfl, (r3.mono k2b.size (Nat.le_refl _) (Nat.le_refl _)), k3⟩
      · have EV : resV (true && true) (meet xs (rest 0 ys)) = [] := by simp [resV, hl]
        have EE : resE (true && true) (meet xs (rest 0 ys)) = 3 := by simp [resE, hl]
        have HL := Lib.hid hl
        rw [EV, EE]
        clear EV EE hl
        go_enter Try.func21, Try.ntmps21
        go_wp2_with fail
        refine (spec_IsSetB A1 n1 c1 xs true S1.out N1.out _ hx).mono ?_
        rintro e w1 ⟨rfl, b1⟩
        go_wp2_with fail
        refine (spec_IsSetB A2 n2 c2 ys true S2.out N2.out _ (hy.below b1)).mono ?_
        rintro e w2 ⟨rfl, b2⟩
        have k2 := below_on b1 b2
        go_wp2_with fail
        refine (spec_restT (rest 0 ys) A2 n2 c2 ys (Lib.hid rfl) L2 (Lib.hid (set_nf S2.out)) _ (hy.below k2)).mono ?_
        rintro e w2b ⟨A4, c4, rfl, r4, b4⟩
        have k2b := below_on k2 b4
        have LL := rest_length 0 ys
        have HY := hy.1
        go_wp2_with fail
        refine (spec_meetT (meet xs (rest 0 ys)) (n1 + (rest 0 ys).length) A1 A4 n1 _ c1 c4 xs (rest 0 ys) (Lib.hid rfl) (Nat.le_refl _) (by omega) _ (hx.below k2b) r4.rd).mono ?_
        rintro e w3 ⟨A3, c3, rfl, r3, b3⟩
        have k3 := below_on k2b b3
        clear LL HY
        go_wp2_with fail
        refine (spec_res_long A3 _ c3 HL.out _).mono ?_
        rintro e w4 ⟨rfl, rfl⟩
        go_wp2_with fail
        go_ret2
        exact ⟨none, 0, rfl, Row.nil (Nat.le_refl _), k3⟩
    · have ht' : setB ys = false := by simpa using ht
      have S1 := Lib.hid hs
      have S2 := Lib.hid ht'
      rw [hs, ht']
      clear hs ht ht'
      go_enter Try.func21, Try.ntmps21
      go_wp2_with fail
      refine (spec_IsSetB A1 n1 c1 xs true S1.out N1.out _ hx).mono ?_
      rintro e w1 ⟨rfl, b1⟩
      go_wp2_with fail
      refine (spec_IsSetB A2 n2 c2 ys false S2.out N2.out _ (hy.below b1)).mono ?_
      rintro e w2 ⟨rfl, b2⟩
      have k2 := below_on b1 b2
      go_wp2_with fail
      go_ret2
      exact ⟨none, 0, rfl, Row.nil (Nat.le_refl _), k2⟩
  · have hs' : setB xs = false := by simpa using hs
    have S1 := Lib.hid hs'
    rw [hs']
    clear hs hs'
    go_enter Try.func21, Try.ntmps21
    go_wp2_with fail
    refine (spec_IsSetB A1 n1 c1 xs false S1.out N1.out _ hx).mono ?_
    rintro e w1 ⟨rfl, b1⟩
    go_wp2_with fail
    go_ret2
    exact ⟨none, 0, rfl, Row.nil (Nat.le_refl _), b1⟩

end Go.Proofs.Ytochicfflmcfkaa.Sets
