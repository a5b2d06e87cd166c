/- What the walks of the laws over lists of reigns share; the law on AreReigns. -/
import Derived.Test.YtfhcakpmlppbkaaReiL
import Derived.Test.YtfhcakpmlppbkaaReiIa
import Derived.Test.YtfhcakpmlppbkaaIntR
namespace Go.Proofs.Ytfhcakpmlppbkaa.Rei
open Go.RowKit
open Go.Proofs.Ytfhcakpmlppbkaa.Sets (below_on make make_length meet_length)

theorem chg_ints {B U : Nat} {w w' : World} (h : Sets.Chg B U w w') : Ints.Chg B U w w' := ⟨h.os, h.tape, h.output, h.size, h.block⟩
theorem len_ReignsOn (xs : LR) (n : Int) : (roL xs n).length ≤ 2000000 := by
  unfold roL
  split
  case isTrue h => have := ons_len xs n xs.length; have := h.1.2.2; omega
  case isFalse h => simp
theorem kg_len (r : ByteArray × Int × Int) (king : ByteArray) (k : Int) : (kg r king k).length ≤ 1 := by unfold kg; split <;> simp
theorem kgs_len (xs : LR) (king : ByteArray) (k : Int) (j : Nat) : (kgs xs king k j).length ≤ j := by
  induction j with
  | zero => simp [kgs]
  | succ j ih =>
    rw [kgs]
    split
    case isTrue h => have := kg_len xs[j] king k; simp; omega
    case isFalse h => simp; omega
theorem len_KingYearSet (xs : LR) (king : ByteArray) (k : Int) : (kyL xs king k).length ≤ 2000000 := by
  unfold kyL
  split
  case isTrue h => have := make_length (kgs xs king k xs.length); have := kgs_len xs king k xs.length; have := h.1.2.2; omega
  case isFalse h => simp
theorem tj_len (xs : LR) (q : Bool) (i j : Nat) : (tj xs q i j).length ≤ j := by
  induction j with
  | zero => simp [tj]
  | succ j ih =>
    rw [tj]
    split
    case isTrue h =>
      have : (pr xs[i] xs[j] (q || decide (i ≠ j))).length ≤ 1 := by unfold pr; split <;> simp
      simp only [List.length_append]
      omega
    case isFalse h => simp; omega
theorem tm_len (xs : LR) (q : Bool) (N : Nat) (h : N ≤ 30) : (tm xs q N).length ≤ N * 31 := by
  induction N with
  | zero => simp [tm]
  | succ i ih =>
    rw [tm]
    have := tj_len xs q i (i + 1)
    have := ih (by omega)
    simp only [List.length_append]
    omega
theorem len_DisputedDays (xs : LR) : (ddL xs).length ≤ 2000000 := by
  unfold ddL
  split
  case isTrue h => have := make_length (tm xs false xs.length); have := tm_len xs false xs.length h.2.2; have := h.2.2; omega
  case isFalse h => simp
theorem len_VoidDays (xs : LR) (f t : Int) : (vdL xs f t).length ≤ 2000000 := by
  unfold vdL
  split
  case isTrue h =>
    have a := meet_length [(f, t)] (Sets.rest 0 (make (rsp xs)))
    have b := rest_len (make (rsp xs)) 0
    have c := make_length (rsp xs)
    have d := h.1.2.2
    have e : (rsp xs).length = xs.length := by simp [rsp]
    simp only [List.length_cons, List.length_nil] at a
    omega
  case isFalse h => simp

set_option maxHeartbeats 4000000 in
set_option maxRecDepth 100000 in
theorem walk_FnExactAreReigns (A0 : Option Addr) (n0 c0 : Nat) (xs0 : LR) (hn0 : n0 ≤ maxLen) (w : World) (h0 : RdR w A0 n0 xs0) :
    Calls Try.prog 4 #[.slice A0 n0 c0] w fun e w' => e = .returned (.bool true) ∧ Below w.heap.size w w' := by
  have HS := Lib.hid (fun B wx q => spec_AreReigns B n0 n0 xs0 hn0 wx q)
  have HI := Lib.hid (fun B wx q => impl_AreReigns B n0 n0 xs0 hn0 wx q)
  have HZ := Lib.hid (fun wx q => laws_szReignS A0 n0 c0 xs0 hn0 wx q)
  clear hn0
  generalize decide (arOk xs0) = v at HS HI
  go_enter Try.func4, Try.ntmps4
  go_wp2_with fail
  refine (HZ.out _ h0).mono ?_
  rintro e w1 ⟨r, rfl, hr, kk⟩
  by_cases hneg : r < 0
  · clear hr
    go_wp2_with fail
    go_ret
    exact ⟨rfl, kk⟩
  have HT0 := Lib.hid (show n0 ≤ 2000000 from Nat.le_trans (hr (by omega)) (by omega))
  clear hr
  go_wp2_with fail
  refine (laws_toReignS A0 n0 c0 xs0 HT0.out _ (h0.below kk)).mono ?_
  rintro e w2 ⟨As, rfl, Rs, b⟩
  replace kk := below_on kk b
  go_wp2_with fail
  refine (HS.out As _ Rs.rd).mono ?_
  rintro e w3 ⟨rfl, b⟩
  replace kk := below_on kk b
  clear Rs
  go_wp2_with fail
  refine (laws_toReignS A0 n0 c0 xs0 HT0.out _ (h0.below kk)).mono ?_
  rintro e w4 ⟨Ax, rfl, Rx, b⟩
  replace kk := below_on kk b
  go_wp2_with fail
  refine (HI.out Ax _ Rx.rd).mono ?_
  rintro e w5 ⟨rfl, b⟩
  replace kk := below_on kk b
  replace Rx := Rx.below b
  have hv : (v != v) = false := by cases v <;> rfl
  go_wp2_with fail
  refine (laws_toReignS A0 n0 c0 xs0 HT0.out _ (h0.below kk)).mono ?_
  rintro e w6 ⟨Ay, rfl, Ry, b⟩
  replace kk := below_on kk b
  replace Rx := Rx.below b
  go_wp2_with fail
  refine (laws_eqReignS Ax Ay n0 n0 n0 xs0 HT0.out _ Rx.rd Ry.rd).mono ?_
  rintro e w7 ⟨rfl, b⟩
  replace kk := below_on kk b
  go_wp2_with fail
  go_ret
  exact ⟨rfl, kk⟩

end Go.Proofs.Ytfhcakpmlppbkaa.Rei
