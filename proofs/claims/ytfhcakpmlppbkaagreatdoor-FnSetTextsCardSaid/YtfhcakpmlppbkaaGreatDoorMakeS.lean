/- MakeSet of both. -/
import Derived.Test.YtfhcakpmlppbkaaGreatDoorJoin
namespace Go.Proofs.YtfhcakpmlppbkaaGreatDoor.Sets
open Go.RowKit

def mkOk (xs : L) : Bool := decide (xs.length ≤ 1000 ∧ ∀ s ∈ xs, ok s)
def mkV (xs : L) : L := resV (mkOk xs) (make xs)
def mkE (xs : L) : Int := if mkOk xs then (if (make xs).length ≤ 300 then 0 else 3) else 2
theorem setOut_of {V V' : L} {E E' : Int} {w w' : World} {e : Ending} (hV : V = V') (hE : E = E') (h : SetOut V' E' w e w') : SetOut V E w e w' := by subst hV; subst hE; exact h
theorem mk_ok {n : Nat} {xs : L} (h : n ≤ 1000) (hl : xs.length = n) (ha : ∀ s ∈ xs, ok s) : mkOk xs = true := decide_eq_true ⟨by omega, ha⟩
theorem mk_no {xs : L} (h : ¬ ∀ s ∈ xs, ok s) : mkOk xs = false := decide_eq_false fun hh => h hh.2
theorem mk_no_len {xs : L} (h : ¬ xs.length ≤ 1000) : mkOk xs = false := decide_eq_false fun hh => h hh.1

set_option maxHeartbeats 2000000 in
set_option maxRecDepth 100000 in
theorem impl_MakeSet (A : Option Addr) (n c : Nat) (xs : L) (hn : n ≤ maxLen) (w : World) (hx : Rd w A n xs) :
    Calls Tryz.prog 13 #[.slice A n c] w (SetOut (mkV xs) (mkE xs) w) := by
  unfold maxLen at hn
  by_cases h3 : n ≤ 1000
  · go_enter Tryz.func13, Tryz.ntmps13
    go_wp2_with fail
    go_loopg [11] n (fun m i wr => ∃ k : Nat, k ≤ n ∧ m = n - k ∧ i = .int .i64 k ∧ Below w.heap.size w wr ∧ Hid ((∀ s ∈ xs, ok s) ↔ ∀ s ∈ xs.drop k, ok s))
    case atStart => exact ⟨0, by omega, by omega, rfl, Below.refl _ _, Lib.hid (by simp)⟩
    case round =>
      obtain ⟨k, hk, hm, rfl, hb, HE⟩ := hrel
      subst hm
      by_cases hlt : k < n
      · obtain ⟨g, off, hl, rfl, hg, c0, c1⟩ := (hx.below hb).at_ hlt
        by_cases ho : ok (xs[k].1, xs[k].2)
        · have v := Lib.hid (okB_t ho)
          have HN := Lib.hid (show (∀ s ∈ xs, ok s) ↔ ∀ s ∈ xs.drop (k + 1), ok s by rw [HE.out, List.drop_eq_getElem_cons hl]; exact ⟨fun h s hs => h s (List.mem_cons_of_mem _ hs), fun h s hs => by rcases List.mem_cons.1 hs with rfl | hs; exact ho; exact h s hs⟩)
          clear ho HE
          go_wp2_with fail
          refine (impl_valid _ _ _ _ v.out).mono ?_
          rintro e w1 ⟨rfl, b1⟩
          have hfin := below_on (hb.alloc hb.size _) b1
          go_wp2_with fail
          go_roundg (n - (k + 1))
          case measure => omega
          case rel => exact ⟨k + 1, by omega, by omega, by go_num, hfin, HN⟩
        · have v := Lib.hid (okB_f ho)
          have hno : ¬ ∀ s ∈ xs, ok s := fun h => ho (h xs[k] (List.getElem_mem hl))
          have EV := Lib.hid (show mkV xs = [] by simp [mkV, resV, mk_no hno])
          have EE := Lib.hid (show mkE xs = 2 by simp [mkE, mk_no hno])
          clear ho HE hno
          go_wp2_with fail
          refine (impl_valid _ _ _ _ v.out).mono ?_
          rintro e w1 ⟨rfl, b1⟩
          have hfin := below_on (hb.alloc hb.size _) b1
          go_wp2_with fail
          go_ret2
          exact setOut_of EV.out EE.out ⟨none, 0, rfl, Row.nil (Nat.le_refl _), hfin⟩
      · have HA : Hid (∀ s ∈ xs, ok s) := Lib.hid (HE.out.2 (by rw [List.drop_eq_nil_of_le (by have := hx.1; omega)]; intro s h; cases h))
        clear HE
        by_cases hl : (make xs).length ≤ 300
        · have EV := Lib.hid (show mkV xs = make xs by simp [mkV, resV, mk_ok h3 hx.1 HA.out, hl])
          have EE := Lib.hid (show mkE xs = 0 by simp [mkE, mk_ok h3 hx.1 HA.out, hl])
          have HL := Lib.hid hl
          clear hl
          go_wp2_with fail
          refine (impl_join A none n 0 c 0 xs [] (by omega) (Lib.hid (by simpa using HA.out)) _ (hx.below hb) Rd.nil).mono ?_
          rintro e w3 ⟨A3, c3, rfl, r3, b3⟩
          rw [List.append_nil] at r3 ⊢
          have k3 := below_on hb b3
          go_wp2_with fail
          refine (impl_res_short A3 _ c3 HL.out _).mono ?_
          rintro e w4 ⟨rfl, rfl⟩
          go_wp2_with fail
          go_ret2
          exact setOut_of EV.out EE.out ⟨_, _, rfl, (r3.mono hb.size (Nat.le_refl _) (Nat.le_refl _)), k3⟩
        · have EV := Lib.hid (show mkV xs = [] by simp [mkV, resV, mk_ok h3 hx.1 HA.out, hl])
          have EE := Lib.hid (show mkE xs = 3 by simp [mkE, mk_ok h3 hx.1 HA.out, hl])
          have HL := Lib.hid hl
          clear hl
          go_wp2_with fail
          refine (impl_join A none n 0 c 0 xs [] (by omega) (Lib.hid (by simpa using HA.out)) _ (hx.below hb) Rd.nil).mono ?_
          rintro e w3 ⟨A3, c3, rfl, r3, b3⟩
          rw [List.append_nil] at r3 ⊢
          have k3 := below_on hb b3
          go_wp2_with fail
          refine (impl_res_long A3 _ c3 HL.out _).mono ?_
          rintro e w4 ⟨rfl, rfl⟩
          go_wp2_with fail
          go_ret2
          exact setOut_of EV.out EE.out ⟨none, 0, rfl, Row.nil (Nat.le_refl _), k3⟩
  · have EV := Lib.hid (show mkV xs = [] by have := hx.1; simp [mkV, resV, mk_no_len (xs := xs) (by omega)])
    have EE := Lib.hid (show mkE xs = 2 by have := hx.1; simp [mkE, mk_no_len (xs := xs) (by omega)])
    have h3' : 1000 < n := by omega
    clear h3
    go_enter Tryz.func13, Tryz.ntmps13
    go_wp2_with fail
    go_ret2
    exact setOut_of EV.out EE.out ⟨none, 0, rfl, Row.nil (Nat.le_refl _), Below.refl _ _⟩

set_option maxHeartbeats 2000000 in
set_option maxRecDepth 100000 in
theorem spec_MakeSet (A : Option Addr) (n c : Nat) (xs : L) (hn : n ≤ maxLen) (w : World) (hx : Rd w A n xs) :
    Calls Tryz.prog 14 #[.slice A n c] w (SetOut (mkV xs) (mkE xs) w) := by
  unfold maxLen at hn
  go_enter Tryz.func14, Tryz.ntmps14
  go_wp2_with fail
  go_loopg [4] n (fun m i wr => ∃ k : Nat, k ≤ n ∧ m = n - k ∧ i = .int .i64 k ∧ Below w.heap.size w wr ∧ Hid ((∀ s ∈ xs, ok s) ↔ ∀ s ∈ xs.drop k, ok s))
  case atStart => exact ⟨0, by omega, by omega, rfl, Below.refl _ _, Lib.hid (by simp)⟩
  case round =>
    obtain ⟨k, hk, hm, rfl, hb, HE⟩ := hrel
    subst hm
    by_cases hlt : k < n
    · obtain ⟨g, off, hl, rfl, hg, c0, c1⟩ := (hx.below hb).at_ hlt
      by_cases ho : ok (xs[k].1, xs[k].2)
      · have v := Lib.hid (okB_t ho)
        have HN := Lib.hid (show (∀ s ∈ xs, ok s) ↔ ∀ s ∈ xs.drop (k + 1), ok s by rw [HE.out, List.drop_eq_getElem_cons hl]; exact ⟨fun h s hs => h s (List.mem_cons_of_mem _ hs), fun h s hs => by rcases List.mem_cons.1 hs with rfl | hs; exact ho; exact h s hs⟩)
        clear ho HE
        go_wp2_with fail
        refine (spec_spanB _ _ _ _ v.out).mono ?_
        rintro e w1 ⟨rfl, b1⟩
        have hfin := below_on hb b1
        go_wp2_with fail
        go_roundg (n - (k + 1))
        case measure => omega
        case rel => exact ⟨k + 1, by omega, by omega, by go_num, hfin, HN⟩
      · have v := Lib.hid (okB_f ho)
        have hno : ¬ ∀ s ∈ xs, ok s := fun h => ho (h xs[k] (List.getElem_mem hl))
        have EV := Lib.hid (show mkV xs = [] by simp [mkV, resV, mk_no hno])
        have EE := Lib.hid (show mkE xs = 2 by simp [mkE, mk_no hno])
        clear ho HE hno
        go_wp2_with fail
        refine (spec_spanB _ _ _ _ v.out).mono ?_
        rintro e w1 ⟨rfl, b1⟩
        have hfin := below_on hb b1
        go_wp2_with fail
        go_ret2
        exact setOut_of EV.out EE.out ⟨none, 0, rfl, Row.nil (Nat.le_refl _), hfin⟩
    · by_cases h3 : n ≤ 1000
      · have HA : Hid (∀ s ∈ xs, ok s) := Lib.hid (HE.out.2 (by rw [List.drop_eq_nil_of_le (by have := hx.1; omega)]; intro s h; cases h))
        clear HE
        by_cases hl : (make xs).length ≤ 300
        · have EV := Lib.hid (show mkV xs = make xs by simp [mkV, resV, mk_ok h3 hx.1 HA.out, hl])
          have EE := Lib.hid (show mkE xs = 0 by simp [mkE, mk_ok h3 hx.1 HA.out, hl])
          have HL := Lib.hid hl
          clear hl
          go_wp2_with fail
          refine (spec_make A n c xs (by omega) HA _ (hx.below hb)).mono ?_
          rintro e w3 ⟨A3, c3, rfl, r3, b3⟩
          have k3 := below_on hb b3
          go_wp2_with fail
          refine (spec_res_short A3 _ c3 HL.out _).mono ?_
          rintro e w4 ⟨rfl, rfl⟩
          go_wp2_with fail
          go_ret2
          exact setOut_of EV.out EE.out ⟨_, _, rfl, (r3.mono hb.size (Nat.le_refl _) (Nat.le_refl _)), k3⟩
        · have EV := Lib.hid (show mkV xs = [] by simp [mkV, resV, mk_ok h3 hx.1 HA.out, hl])
          have EE := Lib.hid (show mkE xs = 3 by simp [mkE, mk_ok h3 hx.1 HA.out, hl])
          have HL := Lib.hid hl
          clear hl
          go_wp2_with fail
          refine (spec_make A n c xs (by omega) HA _ (hx.below hb)).mono ?_
          rintro e w3 ⟨A3, c3, rfl, r3, b3⟩
          have k3 := below_on hb b3
          go_wp2_with fail
          refine (spec_res_long A3 _ c3 HL.out _).mono ?_
          rintro e w4 ⟨rfl, rfl⟩
          go_wp2_with fail
          go_ret2
          exact setOut_of EV.out EE.out ⟨none, 0, rfl, Row.nil (Nat.le_refl _), k3⟩
      · have EV := Lib.hid (show mkV xs = [] by have := hx.1; simp [mkV, resV, mk_no_len (xs := xs) (by omega)])
        have EE := Lib.hid (show mkE xs = 2 by have := hx.1; simp [mkE, mk_no_len (xs := xs) (by omega)])
        have h3' : 1000 < n := by omega
        clear h3 HE
        go_wp2_with fail
        go_ret2
        exact setOut_of EV.out EE.out ⟨none, 0, rfl, Row.nil (Nat.le_refl _), hb⟩

end Go.Proofs.YtfhcakpmlppbkaaGreatDoor.Sets
