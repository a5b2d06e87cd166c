/- Texts of a claim in one file: ReiIg ReiIb. -/
import Derived.Test.YtfhcakpmlppbkaaDoorGrpAs
import Derived.Test.YtfhcakpmlppbkaaDoorGrpAq
import Derived.Test.YtfhcakpmlppbkaaDoorGrpAg
namespace Go.Proofs.YtfhcakpmlppbkaaDoor.Rei
open Go.RowKit
open Go.Proofs.YtfhcakpmlppbkaaDoor.Ints (append_int)
open Go.Proofs.YtfhcakpmlppbkaaDoor.Sets (impl_spanHas below_on)
open Go.Proofs.YtfhcakpmlppbkaaDoor.Fea (isDay)

def OnLi (xs : LR) (n : Int) (N : Nat) (w0 : World) (m : Nat) (v i : Value) (wr : World) : Prop :=
  ∃ (k : Nat) (acc : List Int), i = .int .i64 k ∧ m = N - k ∧ k ≤ N ∧ Hid (acc = ons xs n k) ∧ acc.length ≤ k ∧ Ints.Own wr w0.heap.size v acc ∧ Below w0.heap.size w0 wr

set_option maxRecDepth 100000 in
set_option maxHeartbeats 4000000 in
theorem impl_ReignsOn_yes (A : Option Addr) (N c : Nat) (xs : LR) (n : Int) (ha : arOk xs) (hd : isDay n) (w : World) (h : RdR w A N xs) :
    Calls Tryd.prog 31 #[.slice A N c, .int .i64 n] w (Fea.IntsOut (ons xs n N) 0 w) := by
  have hlen := h.1
  have hN : N ≤ 30 := by have := ha.2.2; omega
  have C := Lib.hid (impl_AreReigns A N c xs (by unfold maxLen; omega) w h)
  rw [decide_eq_true ha] at C
  have D := Lib.hid (impl_day_yes n hd)
  have H := Lib.hid h
  clear ha hd h hlen
  go_enter Tryd.func31, Tryd.ntmps31
  go_wp2_with fail
  refine C.out.mono ?_
  rintro e w1 ⟨rfl, hb1⟩
  go_wp2_with fail
  refine (D.out _).mono ?_
  rintro e w2 ⟨rfl, rfl⟩
  have H1 := Lib.hid (H.out.below hb1)
  clear C D
  go_wp2_with fail
  go_loopg [6, 17] N (fun m v i wr => OnLi xs n N w1 m v i wr)
  case atStart => exact ⟨0, [], rfl, by omega, by omega, Lib.hid rfl, by simp, Ints.Own.nil w1 w1.heap.size, Below.refl _ _⟩
  case round =>
    obtain ⟨k, acc, rfl, hm, hk, HA, hl, hown, hb⟩ := hrel
    subst hm
    by_cases hlt : k < N
    · obtain ⟨g, off, hx, rfl, -, hg, c0, c1, c2⟩ := (H1.out.below hb).at_ hlt
      have ho3 := hown.below ((Below.refl _ _).alloc (Nat.le_refl _) (.cells #[.string xs[k].1, .int .i64 xs[k].2.1, .int .i64 xs[k].2.2] 54))
      have hb3 := hb.alloc hb.size (.cells #[.string xs[k].1, .int .i64 xs[k].2.1, .int .i64 xs[k].2.2] 54)
      by_cases hin : xs[k].2.1 ≤ n ∧ n ≤ xs[k].2.2
      · have I := Lib.hid (impl_spanHas xs[k].2.1 xs[k].2.2 n true (decide_eq_true hin))
        have HN := Lib.hid (HA.out ▸ ons_yes hx hin : acc ++ [(k : Int)] = ons xs n (k + 1))
        clear HA hin
        go_wp2_with fail
        refine (impl_rspan xs[k].1 xs[k].2.1 xs[k].2.2 _).mono ?_
        rintro e w4 ⟨rfl, hb4⟩
        go_wp2_with fail
        refine (I.out _).mono ?_
        rintro e w5 ⟨rfl, hb5⟩
        have own5 := (ho3.below hb4).below hb5
        have hb6 := below_on (below_on hb3 hb4) hb5
        clear ho3 hb3 hb4 hb5 hown hb c0 c1 c2 I
        go_wp2_with (at_builtin; refine append_int hb6 own5 (by omega) rfl (.tmp 26) (.tmp 28) rfl rfl rfl ?_)
        intro v6 w6 own6 hb7
        clear own5 hb6
        go_wp2_with fail
        go_roundg (N - (k + 1))
        case measure => omega
        case rel => exact ⟨k + 1, _, by go_num, by omega, by omega, HN, by simp; omega, own6, hb7⟩
      · have I := Lib.hid (impl_spanHas xs[k].2.1 xs[k].2.2 n false (decide_eq_false hin))
        have HN := Lib.hid (HA.out.trans (ons_no hx hin))
        clear HA hin
        go_wp2_with fail
        refine (impl_rspan xs[k].1 xs[k].2.1 xs[k].2.2 _).mono ?_
        rintro e w4 ⟨rfl, hb4⟩
        go_wp2_with fail
        refine (I.out _).mono ?_
        rintro e w5 ⟨rfl, hb5⟩
        have own5 := (ho3.below hb4).below hb5
        have hb6 := below_on (below_on hb3 hb4) hb5
        clear ho3 hb3 hb4 hb5 hown hb c0 c1 c2 I
        go_wp2_with fail
        go_roundg (N - (k + 1))
        case measure => omega
        case rel => exact ⟨k + 1, _, by go_num, by omega, by omega, HN, by omega, own5, hb6⟩
    · have HV : acc = ons xs n N := by
        have e : k = N := by omega
        have h := HA.out
        rwa [e] at h
      subst HV
      have hge : (N : Int) ≤ k := by omega
      clear HA
      go_wp2_with fail
      go_ret2
      exact Fea.IntsOut.of (hown.mono hb1.size) (hb1.trans (hb.mono hb1.size))

set_option maxHeartbeats 1000000 in
theorem impl_ReignsOn (A : Option Addr) (N c : Nat) (xs : LR) (hn : N ≤ maxLen) (n : Int) (w : World) (h : RdR w A N xs) :
    Calls Tryd.prog 31 #[.slice A N c, .int .i64 n] w (Fea.IntsOut (roL xs n) (roE xs n) w) := by
  have C := Lib.hid (impl_AreReigns A N c xs hn w h)
  have hlen := h.1
  by_cases ha : arOk xs
  · by_cases hd : isDay n
    · rw [show roL xs n = ons xs n N from (if_pos ⟨ha, hd⟩).trans (by rw [hlen]), show roE xs n = 0 from (if_neg (fun k => k ha)).trans (if_pos hd)]
      exact impl_ReignsOn_yes A N c xs n ha hd w h
    · rw [decide_eq_true ha] at C
      have D := Lib.hid (impl_day_no n hd)
      rw [show roL xs n = [] from if_neg (fun k => hd k.2), show roE xs n = 2 from (if_neg (fun k => k ha)).trans (if_neg hd)]
      clear ha hd h hlen
      go_enter Tryd.func31, Tryd.ntmps31
      go_wp2_with fail
      refine C.out.mono ?_
      rintro e w1 ⟨rfl, hb⟩
      go_wp2_with fail
      refine (D.out _).mono ?_
      rintro e w2 ⟨rfl, rfl⟩
      go_wp2_with fail
      go_ret2
      exact Fea.IntsOut.empty hb
  · rw [decide_eq_false ha] at C
    rw [show roL xs n = [] from if_neg (fun k => ha k.1), show roE xs n = 1 from if_pos ha]
    clear ha h hlen
    go_enter Tryd.func31, Tryd.ntmps31
    go_wp2_with fail
    refine C.out.mono ?_
    rintro e w1 ⟨rfl, hb⟩
    go_wp2_with fail
    go_ret2
    exact Fea.IntsOut.empty hb

end Go.Proofs.YtfhcakpmlppbkaaDoor.Rei

namespace Go.Proofs.YtfhcakpmlppbkaaDoor.Rei
open Go.RowKit
open Go.Proofs.YtfhcakpmlppbkaaDoor.Eas (It impl_oldDayOf)
open Go.Proofs.YtfhcakpmlppbkaaDoor.Fea (isDay yr yr_isY yr_num)

/-- What impl's years give: the span of a year against MaxDay + 1. -/
theorem rb_far {f k : Int} (h : Fea.yr f + k - 1 > 2000) : 730500 ≤ rb f k := by
  have g := (rb_in f k).1
  have m := Cal.ys_mono false 2001 (Fea.yr f + k - 1) (by omega)
  rw [Cal.ys_2001] at m
  simp at m
  omega

/-- The day on which the year k begins, or the day behind all days. -/
def nb (f k : Int) : Int := if yr f + k - 1 ≤ 2000 then rb f k else 730500
theorem nb_le {f k t : Int} (ht : t ≤ 730499) : nb f k ≤ t ↔ (yr f + k - 1 ≤ 2000 ∧ rb f k ≤ t) := by
  unfold nb
  split
  · rename_i h
    exact ⟨fun q => ⟨h, q⟩, fun q => q.2⟩
  · rename_i h
    exact ⟨fun q => absurd q (by omega), fun q => absurd q.1 h⟩
theorem nb_min {f k t : Int} (ht : t ≤ 730499) : min (nb f k - 1) t = min (rb f k - 1) t := by
  unfold nb
  split
  · rfl
  · rename_i h
    have := rb_far (show yr f + k - 1 > 2000 by omega)
    omega
theorem valid_later {y m d j : Int} (hv : Cal.valid false y m d) (j0 : 0 ≤ j) (j1 : j ≤ 2000 - y) (h : ¬ (m = 2 ∧ d = 29 ∧ Cal.lp false (y + j) = false)) : Cal.valid false (y + j) m d := by
  obtain ⟨y1, y2, m1, m2, d1, d2⟩ := hv
  refine ⟨by omega, by omega, m1, m2, d1, ?_⟩
  by_cases hm : m = 2
  · subst hm
    rw [Fea.mlen2] at d2 ⊢
    by_cases hd : d = 29
    · subst hd
      have hl : Cal.lp false (y + j) = true := by
        cases e : Cal.lp false (y + j)
        · exact absurd ⟨rfl, rfl, e⟩ h
        · rfl
      rw [hl]
      simp
    · split at d2 <;> split <;> omega
  · rw [Fea.mlenN _ _ _ hm] at d2 ⊢
    exact d2
theorem not_later {y j : Int} (h : Cal.lp false (y + j) = false) : ¬ Cal.valid false (y + j) 2 29 := by
  rintro ⟨-, -, -, -, -, d2⟩
  rw [Fea.mlen2, h] at d2
  simp at d2

set_option maxHeartbeats 1000000 in
theorem impl_later {y m d f : Int} (hv : Cal.valid false y m d) (hn : Cal.num false y m d = f) (j : Int) (j0 : 0 ≤ j) (j1 : j ≤ 9223372036854775807) (x : Int) (hx : nb f (j + 1) = x) (w : World) :
    Calls Tryd.prog 72 #[.agg #[.int .i64 y, .int .i64 m, .int .i64 d], .int .i64 j] w (It x w) := by
  have hy := yr_num hv hn
  have hd := rb_date hv hn (j + 1)
  rw [show y + (j + 1) - 1 = y + j by omega] at hd
  unfold nb at hx
  rw [hy, show y + (j + 1) - 1 = y + j by omega] at hx
  have S0 := (St.start w).alloc 75 #[.int .i64 y, .int .i64 m, .int .i64 d]
  have S1 := (St.start w).alloc 75 #[.int .i64 (y + j), .int .i64 m, .int .i64 d]
  have y1 := hv.1
  have y2 := hv.2.1
  by_cases hj : j ≤ 2000 - y
  · have hgo : decide (2000 - y < j) = false := by simp; omega
    rw [if_pos (by omega)] at hx
    rw [hx] at hd
    by_cases hc : m = 2 ∧ d = 29 ∧ Cal.lp false (y + j) = false
    · rw [if_pos hc] at hd
      obtain ⟨rfl, rfl, hl⟩ := hc
      have V := Lib.hid (show ∀ w, Calls Tryd.prog 87 #[.agg #[.int .i64 (y + j), .int .i64 2, .int .i64 29], .int .i64 0] w fun e w' => e = .returned (.bool false) ∧ Below w.heap.size w w' from
        fun w => vb_false (not_later hl) ▸ impl_isIn false (y + j) 2 29 w)
      have O := Lib.hid (impl_oldDayOf (y + j) 3 1 (show Cal.valid false (y + j) 3 1 from ⟨by omega, by omega, by omega, by omega, by omega, by rw [Fea.mlenN _ _ _ (by omega)]; simp⟩))
      rw [hd] at O
      clear hv hn hd hl hx hy
      go_enter Tryd.func72, Tryd.ntmps72
      go_wp2_with fail
      refine (V.out _).mono ?_
      rintro e w1 ⟨rfl, hb1⟩
      have S := S1.call hb1
      have c0 := S.b0.cell 0
      have c1 := S.b0.cell 1
      have c2 := S.b0.cell 2
      have z1 := S.b0.frozen 1
      have z2 := S.b0.frozen 2
      simp at c0 c1 c2
      have hb3 := (S.bel.setCell (p := ⟨w.heap.size, 1, none⟩) (Nat.le_refl _) (.int .i64 3)).setCell (p := ⟨w.heap.size, 2, none⟩) (Nat.le_refl _) (.int .i64 1)
      clear V S0 S1 S
      go_wp2_with fail
      refine (O.out _).mono ?_
      rintro e w2 ⟨rfl, hb2⟩
      go_wp2_with fail
      go_ret
      exact ⟨rfl, hb3.trans (hb2.mono hb3.size)⟩
    · rw [if_neg hc] at hd
      have hv2 := valid_later hv j0 hj hc
      have V := Lib.hid (show ∀ w, Calls Tryd.prog 87 #[.agg #[.int .i64 (y + j), .int .i64 m, .int .i64 d], .int .i64 0] w fun e w' => e = .returned (.bool true) ∧ Below w.heap.size w w' from
        fun w => (show vb false (y + j) m d = true from decide_eq_true hv2) ▸ impl_isIn false (y + j) m d w)
      have O := Lib.hid (impl_oldDayOf (y + j) m d hv2)
      rw [hd] at O
      clear hv hn hd hx hy hc hv2
      go_enter Tryd.func72, Tryd.ntmps72
      go_wp2_with fail
      refine (V.out _).mono ?_
      rintro e w1 ⟨rfl, hb1⟩
      have S := S1.call hb1
      have c0 := S.b0.cell 0
      have c1 := S.b0.cell 1
      have c2 := S.b0.cell 2
      simp at c0 c1 c2
      have hb3 := S.bel
      clear V S0 S1 S
      go_wp2_with fail
      refine (O.out _).mono ?_
      rintro e w2 ⟨rfl, hb2⟩
      go_wp2_with fail
      go_ret
      exact ⟨rfl, hb3.trans (hb2.mono hb3.size)⟩
  · have hgo : decide (2000 - y < j) = true := by simp; omega
    rw [if_neg (by omega)] at hx
    subst hx
    have hb := S0.bel
    clear hv hn hd S0 S1 hy
    go_enter Tryd.func72, Tryd.ntmps72
    go_wp2_with fail
    go_ret
    exact ⟨rfl, hb⟩

end Go.Proofs.YtfhcakpmlppbkaaDoor.Rei
