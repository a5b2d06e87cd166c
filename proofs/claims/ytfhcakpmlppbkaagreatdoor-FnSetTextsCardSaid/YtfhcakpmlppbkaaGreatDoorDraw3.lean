/- Contracts of spec's drawing of one of some numbers, of a date and of a day. -/
import Derived.Test.YtfhcakpmlppbkaaGreatDoorDraw2
namespace Go.Proofs.YtfhcakpmlppbkaaGreatDoor
open Go.RowKit

/-- What a call leaves that draws a number with a property. -/
def DrewP (A : Option Addr) (len cap : Nat) (zs : List Int) (W w : World) (g : Nat) (P : Int → Prop) (e : Ending) (w' : World) : Prop :=
  ∃ x : Int, e = .returned (.int .i64 x) ∧ P x ∧ Src A len cap zs W w' g ∧ w.grownBy w' (some g)

set_option maxHeartbeats 1000000 in
theorem spec_pick (A : Option Addr) (len cap : Nat) (zs : List Int) (W w : World) (g : Nat) (b m : Nat) (t : TypeId) (xs : List Int) (P : Int → Prop) (hs : Src A len cap zs W w g)
    (hb : Blk w b t (xs.map (Value.int .i64)).toArray) (hbg : b ≠ g) (hm : xs.length = m) (hm0 : 2 ≤ m) (hm1 : m ≤ 1000) (hP : ∀ y ∈ xs, P y) :
    Calls Tryz.prog 47 #[.pointer (some ⟨g, 0, none⟩), .slice (some ⟨b, 0, none⟩) m m] w (DrewP A len cap zs W w g P) := by
  have HP := Lib.hid (And.intro hm hP)
  clear hm hP
  go_enter Tryz.func47, Tryz.ntmps47
  go_wp2_with fail
  refine (spec_next A len cap zs W _ g m hs).mono ?_
  rintro e w1 ⟨x, rfl, x0, x1, hs1, hg1⟩
  have xm : x < m := by omega
  obtain ⟨j, rfl⟩ := Int.eq_ofNat_of_zero_le x0
  have hj : j < xs.length := by have := HP.out.1; omega
  have hc : w1.cell? ⟨b, 0 + j, none⟩ = some (.int .i64 xs[j]) := by
    have h := (hb.grown hg1 (fun e => hbg (by injection e))).cell j
    rw [Nat.zero_add, h]
    simp [hj]
  have hmem : P xs[j] := HP.out.2 _ (List.getElem_mem hj)
  have HM := Lib.hid hmem
  clear hmem x0 x1
  generalize xs[j] = y at hc HM
  rw [Nat.zero_add] at hc
  go_wp2_with fail
  go_ret
  exact ⟨y, rfl, HM.out, hs1, hg1⟩

end Go.Proofs.YtfhcakpmlppbkaaGreatDoor
