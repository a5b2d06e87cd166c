/- Contracts of spec's next and nearest feast. -/
import Derived.Test.YtegoiiconhgjbaaFeaC
namespace Go.Proofs.Ytegoiiconhgjbaa.Fea
open Go.RowKit
open Go.Proofs.Ytegoiiconhgjbaa.Eas (isY It)
open Go.Proofs.Ytegoiiconhgjbaa.Ints (Rd Row Own)

def NextOut (n : Int) (w : World) (e : Ending) (w' : World) : Prop := ∃ d x c, e = .returned (.tuple #[.int .i64 d, .int .i64 x, .int .i64 c]) ∧ NextAns n d x c ∧ Below w.heap.size w w'
/-- No feast from n to before m. -/
def NoF (n m : Int) : Prop := ∀ k, n ≤ k → k < m → fon k = []
theorem NoF.step {n m : Int} (h : NoF n m) (e : fon m = []) : NoF n (m + 1) := fun k a b => by
  by_cases hk : k = m
  · rw [hk]; exact e
  · exact h k a (by omega)

set_option maxHeartbeats 1000000 in
theorem spec_NextFeast (n : Int) (w : World) : Calls Try.prog 53 #[.int .i64 n] w (NextOut n w) := by
  by_cases h : isDay n
  · have Y := Lib.hid (spec_day_yes n h)
    obtain ⟨n0, n1⟩ := h
    go_enter Try.func53, Try.ntmps53
    go_wp2_with fail
    refine (Y.out _).mono ?_
    rintro e w1 ⟨rfl, rfl⟩
    go_wp2_with fail
    go_loopg [0] (730500 - n).toNat (fun k i wr => ∃ m : Int, i = .int .i64 m ∧ k = (730500 - m).toNat ∧ n ≤ m ∧ m ≤ 730500 ∧ Hid (NoF n m) ∧ Below w.heap.size w wr)
    case atStart => exact ⟨n, rfl, rfl, by omega, by omega, Lib.hid (fun k a b => by omega), Below.refl _ _⟩
    case round =>
      obtain ⟨m, rfl, hk, hm, hm2, HA, hb⟩ := hrel
      subst hk
      by_cases hlt : m ≤ 730499
      · have O := Lib.hid (spec_on m (by omega) hlt)
        cases hx : fon m with
        | nil =>
          rw [hx] at O
          have HN := Lib.hid (HA.out.step hx)
          clear hx HA
          go_wp2_with fail
          refine (O.out _).mono ?_
          rintro e w2 ⟨v, rfl, ho, hb2⟩
          obtain ⟨A, c, rfl, hr⟩ := ho.form
          clear ho hr
          go_wp2_with fail
          go_roundg (730500 - (m + 1)).toNat
          case measure => omega
          case rel => exact ⟨m + 1, by go_num, rfl, by omega, by omega, HN, hb.trans (hb2.mono hb.size)⟩
        | cons x r =>
          rw [hx] at O
          have HN := Lib.hid (show NextAns n m x 0 from .inl ⟨by omega, by omega, rfl, by omega, by omega, ⟨r, hx⟩, HA.out⟩)
          clear hx HA
          go_wp2_with fail
          refine (O.out _).mono ?_
          rintro e w2 ⟨v, rfl, ho, hb2⟩
          obtain ⟨A, c, rfl, hr⟩ := ho.form
          obtain ⟨g, off, hl, rfl, hg, c0⟩ := hr.rd.at_ (k := 0) (by simp)
          simp only [Nat.add_zero, List.getElem_cons_zero] at c0
          have hr' := Lib.hid hr
          clear ho hr hl
          obtain ⟨L, hL⟩ : ∃ L : Nat, (x :: r).length = L := ⟨_, rfl⟩
          have hL1 : 0 < L := by rw [← hL]; simp
          have hL2 : (0 : Int) < L := by omega
          rw [hL]
          clear hL hr'
          go_wp2_with fail
          go_quiet (fail)
          go_wp2_with fail
          go_ret3
          exact ⟨m, x, 0, rfl, HN, below_drewN (hb.trans (hb2.mono hb.size)) _⟩
      · have HN := Lib.hid (show NextAns n 0 0 4 from .inr (.inl ⟨by omega, by omega, rfl, rfl, rfl, fun k a b => HA.out k a (by omega)⟩))
        have hge : (730500 : Int) ≤ m := by omega
        clear HA
        go_wp2_with fail
        go_ret3
        exact ⟨0, 0, 4, rfl, HN, hb⟩
  · have Y := Lib.hid (spec_day_no n h)
    have HN := Lib.hid (show NextAns n 0 0 2 from .inr (.inr ⟨h, rfl, rfl, rfl⟩))
    clear h
    go_enter Try.func53, Try.ntmps53
    go_wp2_with fail
    refine (Y.out _).mono ?_
    rintro e w1 ⟨rfl, rfl⟩
    go_wp2_with fail
    go_ret3
    exact ⟨0, 0, 2, rfl, HN, Below.refl _ _⟩

end Go.Proofs.Ytegoiiconhgjbaa.Fea
