/- Contracts of spec's l07On and ReignsOn. -/
import Derived.Test.YtfhcakpmlppbkaaReiC
import Derived.Test.YtfhcakpmlppbkaaIntR
namespace Go.Proofs.Ytfhcakpmlppbkaa.Rei
open Go.RowKit
open Go.Proofs.Ytfhcakpmlppbkaa.Ints (Own append_int)
open Go.Proofs.Ytfhcakpmlppbkaa.Fea (isDay spec_day_yes spec_day_no)

/-- The indices below k of the reigns that a day is in. -/
def ons (xs : LR) (n : Int) : Nat → List Int
  | 0 => []
  | k + 1 => ons xs n k ++ (if h : k < xs.length then (if xs[k].2.1 ≤ n ∧ n ≤ xs[k].2.2 then [(k : Int)] else []) else [])
theorem ons_yes {xs : LR} {n : Int} {k : Nat} (h : k < xs.length) (hin : xs[k].2.1 ≤ n ∧ n ≤ xs[k].2.2) : ons xs n k ++ [(k : Int)] = ons xs n (k + 1) := by rw [ons, dif_pos h, if_pos hin]
theorem ons_no {xs : LR} {n : Int} {k : Nat} (h : k < xs.length) (hin : ¬ (xs[k].2.1 ≤ n ∧ n ≤ xs[k].2.2)) : ons xs n k = ons xs n (k + 1) := by rw [ons, dif_pos h, if_neg hin, List.append_nil]
theorem ons_len (xs : LR) (n : Int) (k : Nat) : (ons xs n k).length ≤ k := by
  induction k with
  | zero => simp [ons]
  | succ k ih =>
    rw [ons]
    split
    · split <;> simp <;> omega
    · simp; omega

def OnL (xs : LR) (n : Int) (N : Nat) (w0 : World) (m : Nat) (v i : Value) (wr : World) : Prop :=
  ∃ (k : Nat) (acc : List Int), i = .int .i64 k ∧ m = N - k ∧ k ≤ N ∧ Hid (acc = ons xs n k) ∧ acc.length ≤ k ∧ Own wr w0.heap.size v acc ∧ Below w0.heap.size w0 wr

set_option maxRecDepth 100000 in
set_option maxHeartbeats 4000000 in
theorem spec_on7 (A : Option Addr) (N c : Nat) (xs : LR) (hn : N ≤ 1000) (n : Int) (w : World) (h : RdR w A N xs) :
    Calls Try.prog 61 #[.slice A N c, .int .i64 n] w fun e w' => ∃ v, e = .returned v ∧ Own w' w.heap.size v (ons xs n N) ∧ Below w.heap.size w w' := by
  have own0 := Own.made0 w
  have hb0 : Below w.heap.size w (w.alloc (.cells #[] 2)) := (Below.refl _ _).alloc (Nat.le_refl _) _
  go_enter Try.func61, Try.ntmps61
  go_wp2_with fail
  go_loopg [5, 6] N (fun m v i wr => OnL xs n N w m v i wr)
  case atStart => exact ⟨0, [], rfl, by omega, by omega, Lib.hid rfl, by simp, own0, hb0⟩
  case round =>
    clear own0 hb0
    obtain ⟨k, acc, rfl, hm, hk, HA, hl, hown, hb⟩ := hrel
    subst hm
    by_cases hlt : k < N
    · obtain ⟨g, off, hx, rfl, -, hg, c0, c1, c2⟩ := (h.below hb).at_ hlt
      by_cases hin : xs[k].2.1 ≤ n ∧ n ≤ xs[k].2.2
      · have I := Lib.hid (Eas.spec_in_yes n xs[k].2.1 xs[k].2.2 hin)
        have HN := Lib.hid (HA.out ▸ ons_yes hx hin : acc ++ [(k : Int)] = ons xs n (k + 1))
        clear HA hin
        go_wp2_with fail
        go_quiet ((go_at_call 55; exact Calls.quiet_of_same ((I.out _).mono fun _ _ ⟨a, b⟩ => ⟨a, b.symm⟩)))
        go_wp2_with (at_builtin; refine append_int (below_drewN hb _) (hown.below (below_drewN (Below.refl _ _) _)) (by omega) rfl (.tmp 26) (.tmp 28) rfl rfl rfl ?_)
        intro v6 w6 own6 hb7
        clear hown hb
        go_wp2_with fail
        go_roundg (N - (k + 1))
        case measure => omega
        case rel => exact ⟨k + 1, _, by go_num, by omega, by omega, HN, by simp; omega, own6, hb7⟩
      · have I := Lib.hid (Eas.spec_in_no n xs[k].2.1 xs[k].2.2 hin)
        have HN := Lib.hid (HA.out.trans (ons_no hx hin))
        clear HA hin
        go_wp2_with fail
        go_quiet ((go_at_call 55; exact Calls.quiet_of_same ((I.out _).mono fun _ _ ⟨a, b⟩ => ⟨a, b.symm⟩)))
        go_wp2_with fail
        go_roundg (N - (k + 1))
        case measure => omega
        case rel => exact ⟨k + 1, _, by go_num, by omega, by omega, HN, by omega, hown.below (below_drewN (Below.refl _ _) _), below_drewN hb _⟩
    · have HV : acc = ons xs n N := by
        have e : k = N := by omega
        have h := HA.out
        rwa [e] at h
      subst HV
      have hge : (N : Int) ≤ k := by omega
      clear HA
      go_wp2_with fail
      go_ret
      exact ⟨_, rfl, hown, hb⟩

/-- What ReignsOn answers. -/
noncomputable def roL (xs : LR) (n : Int) : List Int := if arOk xs ∧ isDay n then ons xs n xs.length else []
noncomputable def roE (xs : LR) (n : Int) : Int := if ¬ arOk xs then 1 else if isDay n then 0 else 2

set_option maxHeartbeats 1000000 in
theorem spec_ReignsOn (A : Option Addr) (N c : Nat) (xs : LR) (hn : N ≤ maxLen) (n : Int) (w : World) (h : RdR w A N xs) :
    Calls Try.prog 29 #[.slice A N c, .int .i64 n] w (Fea.IntsOut (roL xs n) (roE xs n) w) := by
  have C := Lib.hid (spec_AreReigns A N c xs hn w h)
  have hlen := h.1
  by_cases ha : arOk xs
  · rw [decide_eq_true ha] at C
    by_cases hd : isDay n
    · have D := Lib.hid (spec_day_yes n hd)
      have O := Lib.hid (fun w' k => spec_on7 A N c xs (by have := ha.2.2; omega) n w' k)
      rw [show roL xs n = ons xs n N from (if_pos ⟨ha, hd⟩).trans (by rw [hlen]), show roE xs n = 0 from (if_neg (fun k => k ha)).trans (if_pos hd)]
      have H := Lib.hid h
      clear ha hd h hlen
      go_enter Try.func29, Try.ntmps29
      go_wp2_with fail
      refine C.out.mono ?_
      rintro e w1 ⟨rfl, hb⟩
      go_wp2_with fail
      refine (D.out _).mono ?_
      rintro e w2 ⟨rfl, rfl⟩
      go_wp2_with fail
      refine (O.out _ (H.out.below hb)).mono ?_
      rintro e w3 ⟨v, rfl, own, hb3⟩
      go_wp2_with fail
      go_ret2
      exact Fea.IntsOut.of (own.mono hb.size) (hb.trans (hb3.mono hb.size))
    · have D := Lib.hid (spec_day_no n hd)
      rw [show roL xs n = [] from if_neg (fun k => hd k.2), show roE xs n = 2 from (if_neg (fun k => k ha)).trans (if_neg hd)]
      clear ha hd h hlen
      go_enter Try.func29, Try.ntmps29
      go_wp2_with fail
      refine C.out.mono ?_
      rintro e w1 ⟨rfl, hb⟩
      go_wp2_with fail
      refine (D.out _).mono ?_
      rintro e w2 ⟨rfl, rfl⟩
      go_wp2_with fail
      go_ret2
      exact Fea.IntsOut.empty hb
  · rw [decide_eq_false ha] at C
    rw [show roL xs n = [] from if_neg (fun k => ha k.1), show roE xs n = 1 from if_pos ha]
    clear ha h hlen
    go_enter Try.func29, Try.ntmps29
    go_wp2_with fail
    refine C.out.mono ?_
    rintro e w1 ⟨rfl, hb⟩
    go_wp2_with fail
    go_ret2
    exact Fea.IntsOut.empty hb

end Go.Proofs.Ytfhcakpmlppbkaa.Rei
