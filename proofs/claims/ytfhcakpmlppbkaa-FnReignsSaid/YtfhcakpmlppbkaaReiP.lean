/- Contracts of spec's draws of reigns. -/
import Derived.Test.YtfhcakpmlppbkaaDraw5
import Derived.Test.YtfhcakpmlppbkaaReiA
namespace Go.Proofs.Ytfhcakpmlppbkaa.Rei
open Go.RowKit

/-- What a call leaves that draws a short text. -/
def DrewT (A : Option Addr) (len cap : Nat) (zs : List Int) (W w : World) (g : Nat) (e : Ending) (w' : World) : Prop :=
  ∃ s : ByteArray, e = .returned (.string s) ∧ s.size ≤ 13 ∧ Src A len cap zs W w' g ∧ w.grownBy w' (some g)

set_option maxHeartbeats 1000000 in
theorem spec_drawKing (A : Option Addr) (len cap : Nat) (zs : List Int) (W w : World) (g : Nat) (hs : Src A len cap zs W w g) :
    Calls Try.prog 72 #[.pointer (some ⟨g, 0, none⟩)] w (DrewT A len cap zs W w g) := by
  have hl := hs.lt
  go_enter Try.func72, Try.ntmps72
  go_wp2_with fail
  have q0 := Blk.new w 9 #[.string ⟨#[97, 100, 97, 109]⟩, .string ⟨#[98, 101, 114, 116, 97]⟩, .string ⟨#[99, 97, 114, 108]⟩, .string ⟨#[100, 111, 114, 97]⟩]
  refine (spec_next A len cap zs W _ g 4 (hs.alloc _)).mono ?_
  rintro e w1 ⟨x1, rfl, a1, b1, s1, k1⟩
  have q1 : Blk w1 w.heap.size 9 #[.string ⟨#[97, 100, 97, 109]⟩, .string ⟨#[98, 101, 114, 116, 97]⟩, .string ⟨#[99, 97, 114, 108]⟩, .string ⟨#[100, 111, 114, 97]⟩] := (k1.block _ q0.lt (by simp; omega)).trans q0
  have kk := (only_alloc (World.grownBy.refl w (some g)) (.cells #[.string ⟨#[97, 100, 97, 109]⟩, .string ⟨#[98, 101, 114, 116, 97]⟩, .string ⟨#[99, 97, 114, 108]⟩, .string ⟨#[100, 111, 114, 97]⟩] 9)).trans k1
  have c0 := q1.cell 0
  have c1 := q1.cell 1
  have c2 := q1.cell 2
  have c3 := q1.cell 3
  simp at c0 c1 c2 c3
  have hx : x1 = 0 ∨ x1 = 1 ∨ x1 = 2 ∨ x1 = 3 := by omega
  clear q0 q1 b1 a1 hs k1
  rcases hx with rfl | rfl | rfl | rfl
  all_goals
    go_wp2_with fail
    go_ret
    exact ⟨_, rfl, by decide, s1, kk⟩

end Go.Proofs.Ytfhcakpmlppbkaa.Rei
