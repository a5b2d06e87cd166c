/- Contract of impl's ReignsOn. -/
import Derived.Test.YtfhcakpmlppbkaaReiIa
import Derived.Test.YtfhcakpmlppbkaaReiD
namespace Go.Proofs.Ytfhcakpmlppbkaa.Rei
open Go.RowKit
open Go.Proofs.Ytfhcakpmlppbkaa.Ints (append_int)
open Go.Proofs.Ytfhcakpmlppbkaa.Sets (impl_spanHas below_on)
open Go.Proofs.Ytfhcakpmlppbkaa.Fea (isDay)

def OnLi (xs : LR) (n : Int) (N : Nat) (w0 : World) (m : Nat) (v i : Value) (wr : World) : Prop :=
  ∃ (k : Nat) (acc : List Int), i = .int .i64 k ∧ m = N - k ∧ k ≤ N ∧ Hid (acc = ons xs n k) ∧ acc.length ≤ k ∧ Ints.Own wr w0.heap.size v acc ∧ Below w0.heap.size w0 wr

set_option maxRecDepth 100000 in
set_option maxHeartbeats 4000000 in
theorem impl_ReignsOn_yes (A : Option Addr) (N c : Nat) (xs : LR) (n : Int) (ha : arOk xs) (hd : isDay n) (w : World) (h : RdR w A N xs) :
    Calls Try.prog 30 #[.slice A N c, .int .i64 n] w (Fea.IntsOut (ons xs n N) 0 w) := by
  have hlen := h.1
  have hN : N ≤ 30 := by have := ha.2.2; omega
  have C := Lib.hid (impl_AreReigns A N c xs (by unfold maxLen; omega) w h)
  rw [decide_eq_true ha] at C
  have D := Lib.hid (impl_day_yes n hd)
  have H := Lib.hid h
  clear ha hd h hlen
  go_enter Try.func30, Try.ntmps30
  go_wp2_with fail
  refine C.out.mono ?_
  rintro e w1 ⟨rfl, hb1⟩
  go_wp2_with fail
  refine (D.out _).mono ?_
  rintro e w2 ⟨rfl, rfl⟩
  have H1 := Lib.hid (H.out.below hb1)
  clear C D
  go_wp2_with fail
  go_loopg [6, 17] N (fun m v i wr => OnLi xs n N w1 m v i wr)
  case atStart => exact ⟨0, [], rfl, by omega, by omega, Lib.hid rfl, by simp, Ints.Own.nil w1 w1.heap.size, Below.refl _ _⟩
  case round =>
    obtain ⟨k, acc, rfl, hm, hk, HA, hl, hown, hb⟩ := hrel
    subst hm
    by_cases hlt : k < N
    · obtain ⟨g, off, hx, rfl, -, hg, c0, c1, c2⟩ := (H1.out.below hb).at_ hlt
      have ho3 := hown.below ((Below.refl _ _).alloc (Nat.le_refl _) (.cells #[.string xs[k].1, .int .i64 xs[k].2.1, .int .i64 xs[k].2.2] 25))
      have hb3 := hb.alloc hb.size (.cells #[.string xs[k].1, .int .i64 xs[k].2.1, .int .i64 xs[k].2.2] 25)
      by_cases hin : xs[k].2.1 ≤ n ∧ n ≤ xs[k].2.2
      · have I := Lib.hid (impl_spanHas xs[k].2.1 xs[k].2.2 n true (decide_eq_true hin))
        have HN := Lib.hid (HA.out ▸ ons_yes hx hin : acc ++ [(k : Int)] = ons xs n (k + 1))
        clear HA hin
        go_wp2_with fail
        refine (impl_rspan xs[k].1 xs[k].2.1 xs[k].2.2 _).mono ?_
        rintro e w4 ⟨rfl, hb4⟩
        go_wp2_with fail
        refine (I.out _).mono ?_
        rintro e w5 ⟨rfl, hb5⟩
        have own5 := (ho3.below hb4).below hb5
        have hb6 := below_on (below_on hb3 hb4) hb5
        clear ho3 hb3 hb4 hb5 hown hb c0 c1 c2 I
        go_wp2_with (at_builtin; refine append_int hb6 own5 (by omega) rfl (.tmp 26) (.tmp 28) rfl rfl rfl ?_)
        intro v6 w6 own6 hb7
        clear own5 hb6
        go_wp2_with fail
        go_roundg (N - (k + 1))
        case measure => omega
        case rel => exact ⟨k + 1, _, by go_num, by omega, by omega, HN, by simp; omega, own6, hb7⟩
      · have I := Lib.hid (impl_spanHas xs[k].2.1 xs[k].2.2 n false (decide_eq_false hin))
        have HN := Lib.hid (HA.out.trans (ons_no hx hin))
        clear HA hin
        go_wp2_with fail
        refine (impl_rspan xs[k].1 xs[k].2.1 xs[k].2.2 _).mono ?_
        rintro e w4 ⟨rfl, hb4⟩
        go_wp2_with fail
        refine (I.out _).mono ?_
        rintro e w5 ⟨rfl, hb5⟩
        have own5 := (ho3.below hb4).below hb5
        have hb6 := below_on (below_on hb3 hb4) hb5
        clear ho3 hb3 hb4 hb5 hown hb c0 c1 c2 I
        go_wp2_with fail
        go_roundg (N - (k + 1))
        case measure => omega
        case rel => exact ⟨k + 1, _, by go_num, by omega, by omega, HN, by omega, own5, hb6⟩
    · have HV : acc = ons xs n N := by
        have e : k = N := by omega
        have h := HA.out
        rwa [e] at h
      subst HV
      have hge : (N : Int) ≤ k := by omega
      clear HA
      go_wp2_with fail
      go_ret2
      exact Fea.IntsOut.of (hown.mono hb1.size) (hb1.trans (hb.mono hb1.size))

set_option maxHeartbeats 1000000 in
theorem impl_ReignsOn (A : Option Addr) (N c : Nat) (xs : LR) (hn : N ≤ maxLen) (n : Int) (w : World) (h : RdR w A N xs) :
    Calls Try.prog 30 #[.slice A N c, .int .i64 n] w (Fea.IntsOut (roL xs n) (roE xs n) w) := by
  have C := Lib.hid (impl_AreReigns A N c xs hn w h)
  have hlen := h.1
  by_cases ha : arOk xs
  · by_cases hd : isDay n
    · rw [show roL xs n = ons xs n N from (if_pos ⟨ha, hd⟩).trans (by rw [hlen]), show roE xs n = 0 from (if_neg (fun k => k ha)).trans (if_pos hd)]
      exact impl_ReignsOn_yes A N c xs n ha hd w h
    · rw [decide_eq_true ha] at C
      have D := Lib.hid (impl_day_no n hd)
      rw [show roL xs n = [] from if_neg (fun k => hd k.2), show roE xs n = 2 from (if_neg (fun k => k ha)).trans (if_neg hd)]
      clear ha hd h hlen
      go_enter Try.func30, Try.ntmps30
      go_wp2_with fail
      refine C.out.mono ?_
      rintro e w1 ⟨rfl, hb⟩
      go_wp2_with fail
      refine (D.out _).mono ?_
      rintro e w2 ⟨rfl, rfl⟩
      go_wp2_with fail
      go_ret2
      exact Fea.IntsOut.empty hb
  · rw [decide_eq_false ha] at C
    rw [show roL xs n = [] from if_neg (fun k => ha k.1), show roE xs n = 1 from if_pos ha]
    clear ha h hlen
    go_enter Try.func30, Try.ntmps30
    go_wp2_with fail
    refine C.out.mono ?_
    rintro e w1 ⟨rfl, hb⟩
    go_wp2_with fail
    go_ret2
    exact Fea.IntsOut.empty hb

end Go.Proofs.Ytfhcakpmlppbkaa.Rei
