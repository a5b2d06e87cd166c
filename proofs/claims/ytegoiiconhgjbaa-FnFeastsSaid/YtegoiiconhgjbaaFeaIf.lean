/- Contracts of the orders by which impl looks for a least date: cmp.Compare, cmp.Or, the two comparisons. -/
import Derived.Test.YtegoiiconhgjbaaFeaIe
namespace Go.Proofs.Ytegoiiconhgjbaa.Fea
open Go.RowKit
open Go.Proofs.Ytegoiiconhgjbaa.Eas (isY It)
attribute [local go_sem high] run_max_m run_min_m

theorem cmp_isNaN (x : Int) (w : World) : Calls Try.prog 145 #[.int .i64 x] w fun e w' => e = .returned (.bool false) ∧ w = w' := by
  go_enter Try.func145, Try.ntmps145
  go_wp2
  go_ret
  exact ⟨by simp, rfl⟩

theorem cmp_Compare (x y s : Int) (hs : sg x y = s) (w : World) : Calls Try.prog 107 #[.int .i64 x, .int .i64 y] w fun e w' => e = .returned (.int .i64 s) ∧ w = w' := by
  have N1 := Lib.hid (cmp_isNaN x)
  have N2 := Lib.hid (cmp_isNaN y)
  by_cases h1 : x < y
  · have : s = -1 := by rw [← hs]; unfold sg; rw [if_pos h1]
    subst this
    clear hs
    go_enter Try.func107, Try.ntmps107
    go_wp2_with fail
    refine (N1.out _).mono ?_
    rintro e w1 ⟨rfl, rfl⟩
    go_wp2_with fail
    refine (N2.out _).mono ?_
    rintro e w1 ⟨rfl, rfl⟩
    go_wp2_with fail
    go_ret
    exact ⟨rfl, rfl⟩
  · by_cases h2 : y < x
    · have : s = 1 := by rw [← hs]; unfold sg; rw [if_neg h1, if_pos h2]
      subst this
      clear hs
      go_enter Try.func107, Try.ntmps107
      go_wp2_with fail
      refine (N1.out _).mono ?_
      rintro e w1 ⟨rfl, rfl⟩
      go_wp2_with fail
      refine (N2.out _).mono ?_
      rintro e w1 ⟨rfl, rfl⟩
      go_wp2_with fail
      go_ret
      exact ⟨rfl, rfl⟩
    · have : s = 0 := by rw [← hs]; unfold sg; rw [if_neg h1, if_neg h2]
      subst this
      clear hs
      go_enter Try.func107, Try.ntmps107
      go_wp2_with fail
      refine (N1.out _).mono ?_
      rintro e w1 ⟨rfl, rfl⟩
      go_wp2_with fail
      refine (N2.out _).mono ?_
      rintro e w1 ⟨rfl, rfl⟩
      go_wp2_with fail
      go_ret
      exact ⟨rfl, rfl⟩

theorem cmp_OrB (a b s : Int) (hs : orI a b = s) (g : Nat) (w : World) (hb : Blk w g 3 #[.int .i64 a, .int .i64 b]) : Calls Try.prog 106 #[.slice (some ⟨g, 0, none⟩) 2 2] w fun e w' => e = .returned (.int .i64 s) ∧ w = w' := by
  have c0 : w.cell? ⟨g, 0, none⟩ = some (.int .i64 a) := hb.cell 0
  have c1 : w.cell? ⟨g, 1, none⟩ = some (.int .i64 b) := hb.cell 1
  clear hb
  by_cases ha : a = 0
  · subst ha
    have : s = b := by rw [← hs]; rfl
    subst this
    clear hs
    by_cases hb0 : s = 0
    · subst hb0
      go_enter Try.func106, Try.ntmps106
      go_wp2_with fail
      refine wp_loop_rounds 3 ?_
      rw [rounds_succ]
      go_wp2_with fail
      rw [rounds_succ]
      go_wp2_with fail
      rw [rounds_succ]
      go_wp2_with fail
      go_ret
      exact ⟨rfl, rfl⟩
    · have hne : (s == 0) = false := by simpa using hb0
      go_enter Try.func106, Try.ntmps106
      go_wp2_with fail
      refine wp_loop_rounds 2 ?_
      rw [rounds_succ]
      go_wp2_with fail
      rw [rounds_succ]
      go_wp2_with fail
      go_ret
      exact ⟨rfl, rfl⟩
  · have : s = a := by rw [← hs]; unfold orI; rw [if_neg ha]
    subst this
    have hne : (s == 0) = false := by simpa using ha
    clear hs
    go_enter Try.func106, Try.ntmps106
    go_wp2_with fail
    refine wp_loop_rounds 2 ?_
    rw [rounds_succ]
    go_wp2_with fail
    go_ret
    exact ⟨rfl, rfl⟩

theorem cmp_Or (a b s : Int) (hs : orI a b = s) (g : Nat) (w : World) (hg : w.heap.size = g) : Calls Try.prog 106 #[.slice (some ⟨g, 0, none⟩) 2 2] (w.alloc (.cells #[.int .i64 a, .int .i64 b] 3)) fun e w' => e = .returned (.int .i64 s) ∧ (w.alloc (.cells #[.int .i64 a, .int .i64 b] 3)) = w' := by
  subst hg
  exact cmp_OrB a b s hs _ _ (Blk.new _ _ _)

theorem impl_distance (f d n x : Int) (d0 : -1000000 ≤ d) (d1 : d ≤ 1000000) (n0 : -1000000 ≤ n) (n1 : n ≤ 1000000) (hx : max (d - n) (n - d) = x) (w : World) : Calls Try.prog 108 #[.agg #[.int .i64 f, .int .i64 d], .int .i64 n] w (It x w) := by
  go_enter Try.func108, Try.ntmps108
  go_wp2
  go_ret
  exact ⟨rfl, (Below.refl _ _).alloc (Nat.le_refl _) _⟩

theorem _root_.Go.Proofs.Ytegoiiconhgjbaa.St.two {g1 g0 : Nat} {t1 t0 : TypeId} {a b c d : Value} {L : List (Nat × TypeId × Array Value)} {w0 w : World} (h : St ((g1, t1, #[c, d]) :: (g0, t0, #[a, b]) :: L) w0 w) :
    w.cell? ⟨g0, 0, none⟩ = some a ∧ w.cell? ⟨g0, 1, none⟩ = some b ∧ w.cell? ⟨g1, 0, none⟩ = some c ∧ w.cell? ⟨g1, 1, none⟩ = some d ∧ St ((g1, t1, #[c, d]) :: (g0, t0, #[a, b]) :: L) w0 w :=
  ⟨h.b1.cell 0, h.b1.cell 1, h.b0.cell 0, h.b0.cell 1, h⟩

theorem _root_.Go.Proofs.Ytegoiiconhgjbaa.St.drw {L : List (Nat × TypeId × Array Value)} {w0 w : World} (h : St L w0 w) : St L w0 w.drew := h.drewN 1

set_option maxHeartbeats 2000000 in
theorem impl_compare (f d g e x : Int) (hx : cmD (f, d) (g, e) = x) (w : World) : Calls Try.prog 109 #[.agg #[.int .i64 f, .int .i64 d], .agg #[.int .i64 g, .int .i64 e]] w (It x w) := by
  have C1 := Lib.hid (cmp_Compare d e _ rfl)
  have C2 := Lib.hid (cmp_Compare f g _ rfl)
  have O := Lib.hid (cmp_OrB (sg d e) (sg f g) x hx)
  clear hx
  generalize sg d e = s at C1 O
  generalize sg f g = t at C2 O
  have S := ((St.start w).alloc 87 #[.int .i64 f, .int .i64 d]).alloc 87 #[.int .i64 g, .int .i64 e]
  have S3 := S.alloc 3 #[.int .i64 s, .int .i64 t]
  simp only [World.size_alloc] at S S3
  go_enter Try.func109, Try.ntmps109
  go_wp2_with fail
  go_region_held3 (fun w' => w'.cell? ⟨w.heap.size, 0, none⟩ = some (.int .i64 f) ∧ w'.cell? ⟨w.heap.size, 1, none⟩ = some (.int .i64 d) ∧ w'.cell? ⟨w.heap.size + 1, 0, none⟩ = some (.int .i64 g) ∧ w'.cell? ⟨w.heap.size + 1, 1, none⟩ = some (.int .i64 e) ∧ St [(w.heap.size + 1, 87, #[.int .i64 g, .int .i64 e]), (w.heap.size, 87, #[.int .i64 f, .int .i64 d])] w w')
    (first | with_reducible exact S.drw.two | with_reducible exact S3.drw.tail.two)
    (first
      | (go_at_call_of 107 (Value.int .i64 d); refine (C1.out _).mono ?_; rintro e wq ⟨rfl, rfl⟩)
      | (go_at_call_of 107 (Value.int .i64 f); refine (C2.out _).mono ?_; rintro e wq ⟨rfl, rfl⟩)
      | (go_at_call 106; refine (O.out _ _ S3.drw.b0).mono ?_; rintro e wq ⟨rfl, rfl⟩))
  go_wp2_with fail
  go_ret
  exact ⟨rfl, S3.drw.bel⟩

theorem _root_.Go.Proofs.Ytegoiiconhgjbaa.St.twoN {g1 g0 b0 : Nat} {t1 t0 : TypeId} {a b c d v : Value} {L : List (Nat × TypeId × Array Value)} {w0 w : World} (h : St ((g1, t1, #[c, d]) :: (g0, t0, #[a, b]) :: L) w0 w) (hn : w0.cell? ⟨b0, 0, none⟩ = some v) :
    w.cell? ⟨b0, 0, none⟩ = some v ∧ w.cell? ⟨g0, 0, none⟩ = some a ∧ w.cell? ⟨g0, 1, none⟩ = some b ∧ w.cell? ⟨g1, 0, none⟩ = some c ∧ w.cell? ⟨g1, 1, none⟩ = some d ∧ St ((g1, t1, #[c, d]) :: (g0, t0, #[a, b]) :: L) w0 w :=
  ⟨(h.bel.cell (World.block_lt_of_cell? _ _ hn)).trans hn, h.two⟩

set_option maxRecDepth 10000 in
set_option maxHeartbeats 4000000 in
theorem impl_closeN (f d g e n x : Int) (d0 : -1000000 ≤ d) (d1 : d ≤ 1000000) (e0 : -1000000 ≤ e) (e1 : e ≤ 1000000) (n0 : -1000000 ≤ n) (n1 : n ≤ 1000000) (hx : cmN n (f, d) (g, e) = x) (b : Nat) (w : World) (hn : w.cell? ⟨b, 0, none⟩ = some (.int .i64 n)) :
    Calls Try.prog 105 #[.agg #[.int .i64 f, .int .i64 d], .agg #[.int .i64 g, .int .i64 e], .pointer (some ⟨b, 0, none⟩)] w (It x w) := by
  have D1 := Lib.hid (impl_distance f d n _ d0 d1 n0 n1 rfl)
  have D2 := Lib.hid (impl_distance g e n _ e0 e1 n0 n1 rfl)
  have C := Lib.hid (cmp_Compare (max (d - n) (n - d)) (max (e - n) (n - e)) _ rfl)
  have K := Lib.hid (impl_compare f d g e _ rfl)
  have O := Lib.hid (cmp_OrB (sg (max (d - n) (n - d)) (max (e - n) (n - e))) (cmD (f, d) (g, e)) x hx)
  clear hx d0 d1 e0 e1 n0 n1
  generalize sg (max (d - n) (n - d)) (max (e - n) (n - e)) = s at C O
  generalize cmD (f, d) (g, e) = t at K O
  generalize max (d - n) (n - d) = m1 at D1 C
  generalize max (e - n) (n - e) = m2 at D2 C
  have S := ((St.start w).alloc 87 #[.int .i64 f, .int .i64 d]).alloc 87 #[.int .i64 g, .int .i64 e]
  simp only [World.size_alloc] at S
  go_enter Try.func105, Try.ntmps105
  go_wp2_with fail
  go_region_held3 (fun w' => w'.cell? ⟨b, 0, none⟩ = some (.int .i64 n) ∧ w'.cell? ⟨w.heap.size, 0, none⟩ = some (.int .i64 f) ∧ w'.cell? ⟨w.heap.size, 1, none⟩ = some (.int .i64 d) ∧ w'.cell? ⟨w.heap.size + 1, 0, none⟩ = some (.int .i64 g) ∧ w'.cell? ⟨w.heap.size + 1, 1, none⟩ = some (.int .i64 e) ∧ St [(w.heap.size + 1, 87, #[.int .i64 g, .int .i64 e]), (w.heap.size, 87, #[.int .i64 f, .int .i64 d])] w w')
    (first | with_reducible exact S.drw.twoN hn | with_reducible exact SQ.twoN hn | with_reducible exact SR.twoN hn | with_reducible exact ST.twoN hn | with_reducible exact SU.tail.twoN hn)
    (first
      | (go_at_call_of 108 (Value.agg #[.int .i64 f, .int .i64 d]); refine (D1.out _).mono ?_; rintro E wq ⟨rfl, hq⟩; have SQ := S.drw.call hq)
      | (go_at_call_of 108 (Value.agg #[.int .i64 g, .int .i64 e]); refine (D2.out _).mono ?_; rintro E wr ⟨rfl, hr⟩; have SR := SQ.call hr)
      | (go_at_call 107; refine (C.out _).mono ?_; rintro E wq ⟨rfl, rfl⟩)
      | (go_at_call 109; refine (K.out _).mono ?_; rintro E wt ⟨rfl, ht⟩; have ST := SR.call ht; have SU := ST.alloc 3 #[.int .i64 s, .int .i64 t])
      | (go_at_call 106; refine (O.out _ _ SU.b0).mono ?_; rintro E wq ⟨rfl, rfl⟩))
  go_wp2_with fail
  go_ret
  exact ⟨rfl, SU.bel⟩

end Go.Proofs.Ytegoiiconhgjbaa.Fea
