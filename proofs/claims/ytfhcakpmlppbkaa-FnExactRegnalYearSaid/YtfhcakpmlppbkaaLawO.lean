/- The exact laws of single reigns, walked. -/
import Derived.Test.YtfhcakpmlppbkaaReiH
import Derived.Test.YtfhcakpmlppbkaaReiIf
import Derived.OpenShut
namespace Go.Proofs.Ytfhcakpmlppbkaa.Rei
open Go.RowKit

set_option maxHeartbeats 1000000 in
theorem walk_FnExactRegnalYear (s : ByteArray) (f t : Int) (hs : s.size ≤ maxLen) (_f1 : (Lit.int .i64 f).wf = true) (_f2 : (Lit.int .i64 t).wf = true) (n : Int) (_f3 : (Lit.int .i64 n).wf = true) (w : World) :
    Calls Try.prog 5 #[rV s f t, .int .i64 n] w fun e w' => e = .returned (.bool true) ∧ Below w.heap.size w w' := by
  have S0 := (St.start w).alloc 42 #[.string s, .int .i64 f, .int .i64 t]
  obtain ⟨r, hr⟩ : ∃ r : Int, (if (1048576 : Int) - (s.size : Int) < 0 then (-1 : Int) else (1048576 : Int) - (s.size : Int)) = r := ⟨_, rfl⟩
  have Z := Lib.hid (laws_szReign s hs f t 1048576 r (by omega) (by omega) hr)
  have P := Lib.hid (spec_RegnalYear s hs f t n)
  have I := Lib.hid (impl_RegnalYear s hs f t n)
  have hs0 : (0 : Int) ≤ s.size := by omega
  have hrb : -1 ≤ r ∧ r ≤ 1048576 := by rw [← hr]; split <;> omega
  clear hs hr hs0
  generalize ryN s f t n = a at P I
  generalize ryE s f t n = b at P I
  by_cases hl : r < 0
  · go_enter Try.func5, Try.ntmps5
    go_wp2_with fail
    refine (Z.out _).mono ?_
    rintro e w1 ⟨rfl, hb1⟩
    have S1 := S0.call hb1
    go_wp2_with fail
    go_ret
    exact ⟨rfl, S1.bel⟩
  · go_enter Try.func5, Try.ntmps5
    go_wp2_with fail
    refine (Z.out _).mono ?_
    rintro e w1 ⟨rfl, hb1⟩
    have S1 := S0.call hb1
    obtain ⟨c0, c1, c2, -⟩ := S1.rei
    go_wp2_with fail
    refine (laws_toReign s f t _).mono ?_
    rintro e w2 ⟨rfl, hb2⟩
    have S2 := S1.call hb2
    clear c0 c1 c2
    obtain ⟨c0, c1, c2, -⟩ := S2.rei
    go_wp2_with fail
    refine (P.out _).mono ?_
    rintro e w3 ⟨rfl, hb3⟩
    have S3 := S2.call hb3
    clear c0 c1 c2
    obtain ⟨c0, c1, c2, -⟩ := S3.rei
    go_wp2_with fail
    refine (laws_toReign s f t _).mono ?_
    rintro e w4 ⟨rfl, hb4⟩
    have S4 := S3.call hb4
    clear c0 c1 c2
    go_wp2_with fail
    refine (I.out _).mono ?_
    rintro e w5 ⟨rfl, hb5⟩
    have S5 := S4.call hb5
    go_wp2_with fail
    go_ret
    exact ⟨rfl, S5.bel⟩

set_option maxHeartbeats 1000000 in
theorem walk_FnExactCountYears (s : ByteArray) (f t : Int) (hs : s.size ≤ maxLen) (_f1 : (Lit.int .i64 f).wf = true) (_f2 : (Lit.int .i64 t).wf = true) (w : World) :
    Calls Try.prog 7 #[rV s f t] w fun e w' => e = .returned (.bool true) ∧ Below w.heap.size w w' := by
  have S0 := (St.start w).alloc 42 #[.string s, .int .i64 f, .int .i64 t]
  obtain ⟨r, hr⟩ : ∃ r : Int, (if (1048576 : Int) - (s.size : Int) < 0 then (-1 : Int) else (1048576 : Int) - (s.size : Int)) = r := ⟨_, rfl⟩
  have Z := Lib.hid (laws_szReign s hs f t 1048576 r (by omega) (by omega) hr)
  have P := Lib.hid (spec_CountYears s hs f t)
  have I := Lib.hid (impl_CountYears s hs f t)
  have hs0 : (0 : Int) ≤ s.size := by omega
  have hrb : -1 ≤ r ∧ r ≤ 1048576 := by rw [← hr]; split <;> omega
  clear hs hr hs0
  generalize cyN s f t = a at P I
  generalize cyE s f t = b at P I
  by_cases hl : r < 0
  · go_enter Try.func7, Try.ntmps7
    go_wp2_with fail
    refine (Z.out _).mono ?_
    rintro e w1 ⟨rfl, hb1⟩
    have S1 := S0.call hb1
    go_wp2_with fail
    go_ret
    exact ⟨rfl, S1.bel⟩
  · go_enter Try.func7, Try.ntmps7
    go_wp2_with fail
    refine (Z.out _).mono ?_
    rintro e w1 ⟨rfl, hb1⟩
    have S1 := S0.call hb1
    obtain ⟨c0, c1, c2, -⟩ := S1.rei
    go_wp2_with fail
    refine (laws_toReign s f t _).mono ?_
    rintro e w2 ⟨rfl, hb2⟩
    have S2 := S1.call hb2
    clear c0 c1 c2
    obtain ⟨c0, c1, c2, -⟩ := S2.rei
    go_wp2_with fail
    refine (P.out _).mono ?_
    rintro e w3 ⟨rfl, hb3⟩
    have S3 := S2.call hb3
    clear c0 c1 c2
    obtain ⟨c0, c1, c2, -⟩ := S3.rei
    go_wp2_with fail
    refine (laws_toReign s f t _).mono ?_
    rintro e w4 ⟨rfl, hb4⟩
    have S4 := S3.call hb4
    clear c0 c1 c2
    go_wp2_with fail
    refine (I.out _).mono ?_
    rintro e w5 ⟨rfl, hb5⟩
    have S5 := S4.call hb5
    go_wp2_with fail
    go_ret
    exact ⟨rfl, S5.bel⟩

set_option maxHeartbeats 1000000 in
theorem walk_FnExactRegnalSpan (s : ByteArray) (f t : Int) (hs : s.size ≤ maxLen) (_f1 : (Lit.int .i64 f).wf = true) (_f2 : (Lit.int .i64 t).wf = true) (k : Int) (f3 : (Lit.int .i64 k).wf = true) (w : World) :
    Calls Try.prog 6 #[rV s f t, .int .i64 k] w fun e w' => e = .returned (.bool true) ∧ Below w.heap.size w w' := by
  have S0 := (St.start w).alloc 42 #[.string s, .int .i64 f, .int .i64 t]
  obtain ⟨r, hr⟩ : ∃ r : Int, (if (1048576 : Int) - (s.size : Int) < 0 then (-1 : Int) else (1048576 : Int) - (s.size : Int)) = r := ⟨_, rfl⟩
  have Z := Lib.hid (laws_szReign s hs f t 1048576 r (by omega) (by omega) hr)
  have P := Lib.hid (spec_RegnalSpan s hs f t k)
  have I := Lib.hid (impl_RegnalSpan s hs f t k (by have := (bounds_i64 f3).2; omega))
  have hs0 : (0 : Int) ≤ s.size := by omega
  have hrb : -1 ≤ r ∧ r ≤ 1048576 := by rw [← hr]; split <;> omega
  clear hs hr hs0
  generalize rsF s f t k = a at P I
  generalize rsT s f t k = a2 at P I
  generalize rsE s f t k = b at P I
  by_cases hl : r < 0
  · go_enter Try.func6, Try.ntmps6
    go_wp2_with fail
    refine (Z.out _).mono ?_
    rintro e w1 ⟨rfl, hb1⟩
    have S1 := S0.call hb1
    go_wp2_with fail
    go_ret
    exact ⟨rfl, S1.bel⟩
  · go_enter Try.func6, Try.ntmps6
    go_wp2_with fail
    refine (Z.out _).mono ?_
    rintro e w1 ⟨rfl, hb1⟩
    have S1 := S0.call hb1
    obtain ⟨c0, c1, c2, -⟩ := S1.rei
    go_wp2_with fail
    refine (laws_toReign s f t _).mono ?_
    rintro e w2 ⟨rfl, hb2⟩
    have S2 := S1.call hb2
    clear c0 c1 c2
    obtain ⟨c0, c1, c2, -⟩ := S2.rei
    go_wp2_with fail
    refine (P.out _).mono ?_
    rintro e w3 ⟨rfl, hb3⟩
    have S3 := S2.call hb3
    clear c0 c1 c2
    have S4 := S3.alloc 31 #[.int .i64 a, .int .i64 a2]
    obtain ⟨c0, c1, c2, -⟩ := S4.tail.rei
    clear S1 S2 S3 hb1 hb2 hb3 S0 P Z
    go_wp2_with fail
    refine (laws_toReign s f t _).mono ?_
    rintro e w4 ⟨rfl, hb4⟩
    have S5 := S4.call hb4
    clear c0 c1 c2
    go_wp2_with fail
    refine (I.out _).mono ?_
    rintro e w5 ⟨rfl, hb5⟩
    have S6 := (S5.call hb5).alloc 31 #[.int .i64 a, .int .i64 a2]
    obtain ⟨d0, d1, -, -⟩ := S6.tail.sp0
    clear S4 S5 hb4 hb5 I
    go_wp2_with fail
    refine (Sets.laws_eqSpan a a2 _).mono ?_
    rintro e w6 ⟨rfl, hb6⟩
    have S7 := S6.call hb6
    go_wp2_with fail
    go_ret
    exact ⟨rfl, S7.bel⟩

end Go.Proofs.Ytfhcakpmlppbkaa.Rei
