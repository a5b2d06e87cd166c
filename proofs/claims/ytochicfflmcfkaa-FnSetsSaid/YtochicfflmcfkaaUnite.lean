/- UniteSets of both. -/
import Derived.Test.YtochicfflmcfkaaJoin
namespace Go.Proofs.Ytochicfflmcfkaa.Sets
open Go.RowKit

theorem append_nil {o : Oper} {w : World} {B : Nat} {v : Value} {acc : L} (h : Own w B v acc) (c : Nat) :
    (Builtin.append_ #[24, 24] o.type #[v, .slice none 0 c]).run Try.prog w = .ok v w := by
  obtain ⟨i, hi, hz, h1, h2⟩ := info_parts info_span
  rcases h.2 with ⟨rfl, _⟩ | ⟨g, cap, cur, rfl, _, _, hn, _⟩
  · simp [Builtin.append_, run_underlying Try.underlying24, sizeOf, typeInfo, hi, Builtin.lenOf, Builtin.firstCells]
  · simp [Builtin.append_, run_underlying Try.underlying24, sizeOf, typeInfo, hi, Builtin.lenOf, Builtin.firstCells, hn, storeCells]

/-- Spans appended to a row of the call's own. -/
theorem append_rd {ops : Array Oper} {rest : List Oper} {o : Oper} {a : Act} {Q : Exit → Act → World → Prop} {w0 w1 : World} {v : Value} {acc zs : L} {A : Option Addr} {n c : Nat} (hb : Below w0.heap.size w0 w1) (hown : Own w1 w0.heap.size v acc) (hr : Rd w1 A n zs)
    (hN : acc.length + n ≤ 8000000) (hgd : o.guard = none) (s x : Operand) (ho : o.op = .call { callee := .builtin .append, args := #[s, x], argTypes := #[24, 24] })
    (hs : a.eval s = v) (hx : a.eval x = .slice A n c)
    (K : ∀ v2 w2, Own w2 w0.heap.size v2 (acc ++ zs) → Below w0.heap.size w0 w2 → wpList Try.prog ops Q rest (a.put o.dst v2) w2) :
    wpList Try.prog ops Q (o :: rest) a w1 := by
  obtain ⟨i0, hi, hz0, hz1, hz2⟩ := info_parts info_span
  have hl := hr.1
  have fin : ∀ v2 w2, w2.ownsRow w0.heap.size 40 2 v2 (acc.length + n) (cells acc ++ cells zs) → w1.grownBy w2 v.ownBlock → wpList Try.prog ops Q rest (a.put o.dst v2) w2 := fun v2 w2 h2 hg2 =>
    K v2 w2 (by unfold Own; rw [List.length_append, cells_append, hl]; exact h2) (Below.grown hb hg2 hb.size (fun g hg => (World.ownsRow.lt hown g hg).1))
  rcases Nat.eq_zero_or_pos n with h0 | h0
  · subst h0
    have e : zs = [] := List.eq_nil_of_length_eq_zero hl
    subst e
    rcases A with _ | ad
    · refine wpList_plain hgd fun K' hK => ?_
      have hrun := append_nil (o := o) hown c
      unfold Oper.wp
      simp [execOp, ho, resolve, invoke, builtin, hs, hx, hrun, Result.andThen]
      exact hK _ _ (fin v w1 (by have h : w1.ownsRow w0.heap.size 40 2 v acc.length (cells acc) := hown; simpa [cells] using h) (World.grownBy.refl _ _))
    · refine wpList_append_own _ hgd s x 24 ho w0.heap.size 40 i0 (.agg #[.int .i64 0, .int .i64 0]) 2 16 Try.underlying24 hi hz0 hz1 hz2 rfl (by decide) v _ _ hs hown ad 0 c [] hx rfl (by simp) (by simp) (by unfold maxLen; omega) (by omega) hb.size ?_
      intro v2 w2 h2 hg2 _
      exact fin v2 w2 (by simpa [cells] using h2) hg2
  · obtain ⟨ad, rfl, hsrc⟩ := hr.cells h0
    refine wpList_append_own _ hgd s x 24 ho w0.heap.size 40 i0 (.agg #[.int .i64 0, .int .i64 0]) 2 16 Try.underlying24 hi hz0 hz1 hz2 rfl (by decide) v _ _ hs hown ad n c (cells zs) hx (by rw [cells_length, hl]) hsrc (cells_one zs) (by unfold maxLen; omega) (by omega) hb.size ?_
    intro v2 w2 h2 hg2 _
    exact fin v2 w2 h2 hg2

set_option maxHeartbeats 1000000 in
set_option maxRecDepth 100000 in
theorem impl_UniteSets (A1 A2 : Option Addr) (n1 n2 c1 c2 : Nat) (xs ys : L) (hn1 : n1 ≤ maxLen) (hn2 : n2 ≤ maxLen) (w : World) (hx : Rd w A1 n1 xs) (hy : Rd w A2 n2 ys) :
    Calls Try.prog 16 #[.slice A1 n1 c1, .slice A2 n2 c2] w (SetOut (resV (setB xs && setB ys) (make (xs ++ ys))) (resE (setB xs && setB ys) (make (xs ++ ys))) w) := by
  have N1 := Lib.hid hn1
  have N2 := Lib.hid hn2
  clear hn1 hn2
  by_cases hs : setB xs = true
  · by_cases ht : setB ys = true
    · have L1 : n1 ≤ 300 := by have := set_len hs; have := hx.1; omega
      have L2 : n2 ≤ 300 := by have := set_len ht; have := hy.1; omega
      have S1 := Lib.hid hs
      have S2 := Lib.hid ht
      rw [hs, ht]
      clear hs ht
      by_cases hl : (make (xs ++ ys)).length ≤ 300
      · have EV : resV (true && true) (make (xs ++ ys)) = make (xs ++ ys) := by simp [resV, hl]
        have EE : resE (true && true) (make (xs ++ ys)) = 0 := by simp [resE, hl]
        have HL := Lib.hid hl
        rw [EV, EE]
        clear EV EE hl
        go_enter Try.func16, Try.ntmps16
        go_wp2_with fail
        refine (impl_IsSetB A1 n1 c1 xs true S1.out N1.out _ hx).mono ?_
        rintro e w1 ⟨rfl, b1⟩
        go_wp2_with fail
        refine (impl_IsSetB A2 n2 c2 ys true S2.out N2.out _ (hy.below b1)).mono ?_
        rintro e w2 ⟨rfl, b2⟩
        have k2 := below_on b1 b2
        have OKA : Hid (∀ s ∈ xs ++ ys, ok s) := Lib.hid fun s hs => by
          rcases List.mem_append.1 hs with h | h
          · exact (set_nf S1.out).ok_of s h
          · exact (set_nf S2.out).ok_of s h
        go_wp2_with fail
        refine (impl_join A1 A2 n1 n2 c1 c2 xs ys (by omega) OKA _ (hx.below k2) (hy.below k2)).mono ?_
        rintro e w3 ⟨A3, c3, rfl, r3, b3⟩
        have k3 := below_on k2 b3
        go_wp2_with fail
        refine (impl_res_short A3 _ c3 HL.out _).mono ?_
        rintro e w4 ⟨rfl, rfl⟩
        go_wp2_with fail
        go_ret2
        exact ⟨_, _, rfl, (r3.mono k2.size (Nat.le_refl _) (Nat.le_refl _)), k3⟩
      · have EV : resV (true && true) (make (xs ++ ys)) = [] := by simp [resV, hl]
        have EE : resE (true && true) (make (xs ++ ys)) = 3 := by simp [resE, hl]
        have HL := Lib.hid hl
        rw [EV, EE]
        clear EV EE hl
        go_enter Try.func16, Try.ntmps16
        go_wp2_with fail
        refine (impl_IsSetB A1 n1 c1 xs true S1.out N1.out _ hx).mono ?_
        rintro e w1 ⟨rfl, b1⟩
        go_wp2_with fail
        refine (impl_IsSetB A2 n2 c2 ys true S2.out N2.out _ (hy.below b1)).mono ?_
        rintro e w2 ⟨rfl, b2⟩
        have k2 := below_on b1 b2
        have OKA : Hid (∀ s ∈ xs ++ ys, ok s) := Lib.hid fun s hs => by
          rcases List.mem_append.1 hs with h | h
          · exact (set_nf S1.out).ok_of s h
          · exact (set_nf S2.out).ok_of s h
        go_wp2_with fail
        refine (impl_join A1 A2 n1 n2 c1 c2 xs ys (by omega) OKA _ (hx.below k2) (hy.below k2)).mono ?_
        rintro e w3 ⟨A3, c3, rfl, r3, b3⟩
        have k3 := below_on k2 b3
        go_wp2_with fail
        refine (impl_res_long A3 _ c3 HL.out _).mono ?_
        rintro e w4 ⟨rfl, rfl⟩
        go_wp2_with fail
        go_ret2
        exact ⟨none, 0, rfl, Row.nil (Nat.le_refl _), k3⟩
    · have ht' : setB ys = false := by simpa using ht
      have S1 := Lib.hid hs
      have S2 := Lib.hid ht'
      rw [hs, ht']
      clear hs ht ht'
      go_enter Try.func16, Try.ntmps16
      go_wp2_with fail
      refine (impl_IsSetB A1 n1 c1 xs true S1.out N1.out _ hx).mono ?_
      rintro e w1 ⟨rfl, b1⟩
      go_wp2_with fail
      refine (impl_IsSetB A2 n2 c2 ys false S2.out N2.out _ (hy.below b1)).mono ?_
      rintro e w2 ⟨rfl, b2⟩
      have k2 := below_on b1 b2
      go_wp2_with fail
      go_ret2
      exact ⟨none, 0, rfl, Row.nil (Nat.le_refl _), k2⟩
  · have hs' : setB xs = false := by simpa using hs
    have S1 := Lib.hid hs'
    rw [hs']
    clear hs hs'
    go_enter Try.func16, Try.ntmps16
    go_wp2_with fail
    refine (impl_IsSetB A1 n1 c1 xs false S1.out N1.out _ hx).mono ?_
    rintro e w1 ⟨rfl, b1⟩
    go_wp2_with fail
    go_ret2
    exact ⟨none, 0, rfl, Row.nil (Nat.le_refl _), b1⟩

set_option maxHeartbeats 1000000 in
set_option maxRecDepth 100000 in
theorem spec_UniteSets (A1 A2 : Option Addr) (n1 n2 c1 c2 : Nat) (xs ys : L) (hn1 : n1 ≤ maxLen) (hn2 : n2 ≤ maxLen) (w : World) (hx : Rd w A1 n1 xs) (hy : Rd w A2 n2 ys) :
    Calls Try.prog 17 #[.slice A1 n1 c1, .slice A2 n2 c2] w (SetOut (resV (setB xs && setB ys) (make (xs ++ ys))) (resE (setB xs && setB ys) (make (xs ++ ys))) w) := by
  have N1 := Lib.hid hn1
  have N2 := Lib.hid hn2
  clear hn1 hn2
  by_cases hs : setB xs = true
  · by_cases ht : setB ys = true
    · have L1 : n1 ≤ 300 := by have := set_len hs; have := hx.1; omega
      have L2 : n2 ≤ 300 := by have := set_len ht; have := hy.1; omega
      have S1 := Lib.hid hs
      have S2 := Lib.hid ht
      rw [hs, ht]
      clear hs ht
      by_cases hl : (make (xs ++ ys)).length ≤ 300
      · have EV : resV (true && true) (make (xs ++ ys)) = make (xs ++ ys) := by simp [resV, hl]
        have EE : resE (true && true) (make (xs ++ ys)) = 0 := by simp [resE, hl]
        have HL := Lib.hid hl
        rw [EV, EE]
        clear EV EE hl
        go_enter Try.func17, Try.ntmps17
        go_wp2_with fail
        refine (spec_IsSetB A1 n1 c1 xs true S1.out N1.out _ hx).mono ?_
        rintro e w1 ⟨rfl, b1⟩
        go_wp2_with fail
        refine (spec_IsSetB A2 n2 c2 ys true S2.out N2.out _ (hy.below b1)).mono ?_
        rintro e w2 ⟨rfl, b2⟩
        have k2 := below_on b1 b2
        have OKA : Hid (∀ s ∈ xs ++ ys, ok s) := Lib.hid fun s hs => by
          rcases List.mem_append.1 hs with h | h
          · exact (set_nf S1.out).ok_of s h
          · exact (set_nf S2.out).ok_of s h
        have hla := hx.1
        have hlb := hy.1
        have bw : Below w2.heap.size w2 (w2.alloc (.cells #[] 40)) := (Below.refl _ _).alloc (Nat.le_refl _) _
        go_wp2_with (first
          | (refine append_rd (o := ⟨some 16, _, _, _, _, _⟩) (w0 := w2) bw (Own.made0 w2) (hx.below (below_on k2 bw)) (by simp; omega) rfl (.tmp 14) (.tmp 15) rfl rfl rfl ?_
             intro v3 w3 own3 hb3)
          | (refine append_rd (o := ⟨some 18, _, _, _, _, _⟩) (w0 := w2) hb3 own3 (hy.below (below_on k2 hb3)) (by simp; omega) rfl (.tmp 16) (.tmp 17) rfl rfl rfl ?_
             intro v4 w4 own4 hb4))
        rw [List.nil_append] at own4
        obtain ⟨A4, c4, rfl, hrow4⟩ := own4.form
        have hlen : (xs ++ ys).length ≤ 2000 := by rw [List.length_append]; omega
        have k4 := below_on k2 hb4
        have r4 := hrow4.rd
        clear own3 own4 hb3 hrow4 bw hla hlb
        go_wp2_with fail
        refine (spec_make A4 _ c4 (xs ++ ys) hlen OKA _ r4).mono ?_
        rintro e w3 ⟨A3, c3, rfl, r3, b3⟩
        have k3 := below_on k4 b3
        go_wp2_with fail
        refine (spec_res_short A3 _ c3 HL.out _).mono ?_
        rintro e w4 ⟨rfl, rfl⟩
        go_wp2_with fail
        go_ret2
        exact ⟨_, _, rfl, (r3.mono k4.size (Nat.le_refl _) (Nat.le_refl _)), k3⟩
      · have EV : resV (true && true) (make (xs ++ ys)) = [] := by simp [resV, hl]
        have EE : resE (true && true) (make (xs ++ ys)) = 3 := by simp [resE, hl]
        have HL := Lib.hid hl
        rw [EV, EE]
        clear EV EE hl
        go_enter Try.func17, Try.ntmps17
        go_wp2_with fail
        refine (spec_IsSetB A1 n1 c1 xs true S1.out N1.out _ hx).mono ?_
        rintro e w1 ⟨rfl, b1⟩
        go_wp2_with fail
        refine (spec_IsSetB A2 n2 c2 ys true S2.out N2.out _ (hy.below b1)).mono ?_
        rintro e w2 ⟨rfl, b2⟩
        have k2 := below_on b1 b2
        have OKA : Hid (∀ s ∈ xs ++ ys, ok s) := Lib.hid fun s hs => by
          rcases List.mem_append.1 hs with h | h
          · exact (set_nf S1.out).ok_of s h
          · exact (set_nf S2.out).ok_of s h
        have hla := hx.1
        have hlb := hy.1
        have bw : Below w2.heap.size w2 (w2.alloc (.cells #[] 40)) := (Below.refl _ _).alloc (Nat.le_refl _) _
        go_wp2_with (first
          | (refine append_rd (o := ⟨some 16, _, _, _, _, _⟩) (w0 := w2) bw (Own.made0 w2) (hx.below (below_on k2 bw)) (by simp; omega) rfl (.tmp 14) (.tmp 15) rfl rfl rfl ?_
             intro v3 w3 own3 hb3)
          | (refine append_rd (o := ⟨some 18, _, _, _, _, _⟩) (w0 := w2) hb3 own3 (hy.below (below_on k2 hb3)) (by simp; omega) rfl (.tmp 16) (.tmp 17) rfl rfl rfl ?_
             intro v4 w4 own4 hb4))
        rw [List.nil_append] at own4
        obtain ⟨A4, c4, rfl, hrow4⟩ := own4.form
        have hlen : (xs ++ ys).length ≤ 2000 := by rw [List.length_append]; omega
        have k4 := below_on k2 hb4
        have r4 := hrow4.rd
        clear own3 own4 hb3 hrow4 bw hla hlb
        go_wp2_with fail
        refine (spec_make A4 _ c4 (xs ++ ys) hlen OKA _ r4).mono ?_
        rintro e w3 ⟨A3, c3, rfl, r3, b3⟩
        have k3 := below_on k4 b3
        go_wp2_with fail
        refine (spec_res_long A3 _ c3 HL.out _).mono ?_
        rintro e w4 ⟨rfl, rfl⟩
        go_wp2_with fail
        go_ret2
        exact ⟨none, 0, rfl, Row.nil (Nat.le_refl _), k3⟩
    · have ht' : setB ys = false := by simpa using ht
      have S1 := Lib.hid hs
      have S2 := Lib.hid ht'
      rw [hs, ht']
      clear hs ht ht'
      go_enter Try.func17, Try.ntmps17
      go_wp2_with fail
      refine (spec_IsSetB A1 n1 c1 xs true S1.out N1.out _ hx).mono ?_
      rintro e w1 ⟨rfl, b1⟩
      go_wp2_with fail
      refine (spec_IsSetB A2 n2 c2 ys false S2.out N2.out _ (hy.below b1)).mono ?_
      rintro e w2 ⟨rfl, b2⟩
      have k2 := below_on b1 b2
      go_wp2_with fail
      go_ret2
      exact ⟨none, 0, rfl, Row.nil (Nat.le_refl _), k2⟩
  · have hs' : setB xs = false := by simpa using hs
    have S1 := Lib.hid hs'
    rw [hs']
    clear hs hs'
    go_enter Try.func17, Try.ntmps17
    go_wp2_with fail
    refine (spec_IsSetB A1 n1 c1 xs false S1.out N1.out _ hx).mono ?_
    rintro e w1 ⟨rfl, b1⟩
    go_wp2_with fail
    go_ret2
    exact ⟨none, 0, rfl, Row.nil (Nat.le_refl _), b1⟩

end Go.Proofs.Ytochicfflmcfkaa.Sets
