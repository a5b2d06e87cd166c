/- Small contracts and facts for the law FnFeastDays. -/
import Derived.Test.YtegoiiconhgjbaaFeaIh
import Derived.Test.YtegoiiconhgjbaaFeaIi
import Derived.Test.YtegoiiconhgjbaaFeaR
namespace Go.Proofs.Ytegoiiconhgjbaa.Fea
open Go.RowKit
open Go.Proofs.Ytegoiiconhgjbaa.Eas (isY)

set_option maxHeartbeats 400000 in
theorem laws_hasInt (A : Option Addr) (n c : Nat) (V : List Int) (x : Int) (hn : n ≤ 2000000) (hx : x ∈ V) (w : World) (h : Ints.Rd w A n V) :
    Calls Try.prog 55 #[.slice A n c, .int .i64 x] w fun e w' => e = .returned (.bool true) ∧ w = w' := by
  obtain ⟨p, hp⟩ := List.mem_iff_getElem?.1 hx
  have hpl : p < n := by
    have := h.1
    rcases Nat.lt_or_ge p V.length with q | q
    · omega
    · rw [List.getElem?_eq_none q] at hp; cases hp
  have HP := Lib.hid hp
  clear hp hx
  go_enter Try.func55, Try.ntmps55
  go_wp2_with fail
  go_loopg [5] n (fun m i wr => ∃ k : Nat, k ≤ p ∧ m = n - k ∧ i = .int .i64 k ∧ w = wr)
  case atStart => exact ⟨0, by omega, by omega, rfl, rfl⟩
  case round =>
    obtain ⟨k, hk, hm, rfl, rfl⟩ := hrel
    subst hm
    obtain ⟨g, off, hl, rfl, hg, c0⟩ := h.at_ (show k < n by omega)
    by_cases e : V[k] = x
    · rw [e] at c0
      have hk2 : (k : Int) < n := by omega
      clear e
      go_wp2_with fail
      go_ret
      exact ⟨rfl, rfl⟩
    · have hk1 : k < p := by
        rcases Nat.lt_or_ge k p with q | q
        · exact q
        · exfalso
          have : k = p := by omega
          subst this
          have h2 := HP.out
          rw [List.getElem?_eq_getElem hl] at h2
          injection h2 with h2
          exact e h2
      have e2 : (V[k] == x) = false := by simpa using e
      have hk2 : (k : Int) < n := by omega
      clear e
      generalize V[k] = v at c0 e2
      go_wp2_with fail
      go_roundg (n - (k + 1))
      case measure => omega
      case rel => exact ⟨k + 1, by omega, by omega, by go_num, rfl⟩

set_option maxHeartbeats 400000 in
set_option maxRecDepth 10000 in
theorem laws_like5 (A A' : Option Addr) (n c c' : Nat) (xs : Sets.L) (hn : n ≤ 2000000) (w : World) (h : Sets.Rd w A n xs) (h' : Sets.Rd w A' n xs) :
    Calls Try.prog 54 #[.slice A n c, .slice A' n c'] w fun e w' => e = .returned (.bool true) ∧ Below w.heap.size w w' := by
  go_enter Try.func54, Try.ntmps54
  go_wp2_with fail
  go_loopg [5] n (fun m i wr => ∃ k : Nat, k ≤ n ∧ m = n - k ∧ i = .int .i64 k ∧ Below w.heap.size w wr)
  case atStart => exact ⟨0, by omega, by omega, rfl, Below.refl _ _⟩
  case round =>
    obtain ⟨k, hk, hm, rfl, hb⟩ := hrel
    subst hm
    by_cases hlt : k < n
    · obtain ⟨g, off, hl, rfl, hg, c0, c1⟩ := (h.below hb).at_ hlt
      obtain ⟨g', off', hl', rfl, hg', c0', c1'⟩ := (h'.below hb).at_ hlt
      go_wp2_with fail
      go_quiet (fail)
      go_wp2_with fail
      go_roundg (n - (k + 1))
      case measure => omega
      case rel => exact ⟨k + 1, by omega, by omega, by go_num, below_drewN hb _⟩
    · go_wp2_with fail
      go_ret
      exact ⟨rfl, hb⟩


theorem impl_OldDate_yr (n : Int) (h : isDay n) (w : World) : Calls Try.prog 29 #[.int .i64 n] w fun e w' => ∃ m d : Int, e = .returned (.tuple #[.agg #[.int .i64 (yr n), .int .i64 m, .int .i64 d], .int .i64 0]) ∧ Below w.heap.size w w' := by
  refine (impl_OldDate n w).mono fun e w' q => ?_
  obtain ⟨y, m, d, c, he, hd, hb⟩ := q
  rcases hd with ⟨-, -, rfl, hv, hn⟩ | ⟨h2, -⟩
  · rw [yr_num hv hn]
    exact ⟨m, d, he, hb⟩
  · exfalso
    rw [Cal.ys_1, Cal.ys_2001] at h2
    obtain ⟨h0, h1⟩ := h
    simp at h2
    omega

theorem near_bd {n b a : Int} (h0 : 0 ≤ n) (h1 : n ≤ 730499) (h : Best n (y0 n) (y1 n + 1) 0 b a) : -730499 ≤ a ∧ a ≤ 730499 := by
  obtain ⟨⟨y', hc, e⟩, -⟩ := h
  have hy : isY y' := by
    unfold y0 y1 at hc
    constructor <;> omega
  have hb := fd_bd b y' hy
  omega

theorem impl_on_yes (n : Int) (h : isDay n) (w : World) : Calls Try.prog 36 #[.int .i64 n] w (IntsOut (fon n) 0 w) := by
  have q := impl_FeastsOn n w
  rwa [show onL n = fon n from if_pos h, show onE n = 0 from if_pos h] at q

/-- What is true of a span that FeastDays tells. -/
def DayOk (f r k a b : Int) (s : Int × Int) : Prop := a ≤ s.1 ∧ s.2 ≤ b ∧ isDay s.1 ∧ ∃ y, isY y ∧ relN f r k y = s.1 ∧ relE f r k y = 0 ∧ yr s.1 - 1 ≤ y ∧ y ≤ yr s.1 + 1
theorem fdAns_cases {f r k a b : Int} {V : List (Int × Int)} {E : Int} (h : FdAns f r k a b V E) : V.length ≤ 300 ∧ ((E == 0) = false ∨ (E = 0 ∧ ∀ s ∈ V, DayOk f r k a b s)) := by
  rcases h with ⟨ho, rfl, hl, hn, hh⟩ | ⟨-, rfl, rfl⟩
  · refine ⟨hl, .inr ⟨rfl, fun s hs => ?_⟩⟩
    obtain ⟨o1, o2, o3⟩ := hn.ok_of s hs
    have h1 := (hh s.1).1 ⟨s, hs, Int.le_refl _, o2⟩
    have h2 := (hh s.2).1 ⟨s, hs, o2, Int.le_refl _⟩
    obtain ⟨a1, -, y, hy, e⟩ := h1
    have hd : isDay s.1 := ⟨o1, by omega⟩
    have hok : relOk f r k y := ⟨ho.1, hy, ho.2.1⟩
    have hd2 : isDay (rd r k (fd f y)) := by rw [e]; exact hd
    have hr := rd_year f r k y
    rw [e] at hr
    exact ⟨a1, h2.2.1, hd, y, hy, (if_pos ⟨hok, hd2⟩).trans e, (if_pos hok).trans (if_pos hd2), hr.1, hr.2⟩
  · exact ⟨by simp, .inl rfl⟩

end Go.Proofs.Ytegoiiconhgjbaa.Fea
