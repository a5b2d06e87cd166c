/- Contracts of spec's drawing of a source, of one of some numbers, of a date and of a day. -/
import Derived.Test.YtfhcakpmlppbkaaGreatDoorDraw
import Derived.StillTactics
import Derived.StillTailTactics
namespace Go.Proofs.YtfhcakpmlppbkaaGreatDoor
open Go.RowKit

/-- What a call leaves that makes a source. -/
def Made (A : Option Addr) (len cap : Nat) (zs : List Int) (W w : World) (e : Ending) (w' : World) : Prop :=
  ∃ g : Nat, e = .returned (.pointer (some ⟨g, 0, none⟩)) ∧ w.heap.size ≤ g ∧ Src A len cap zs W w' g ∧ Below w.heap.size w w'

/-- The loop that mixes the first bytes into the seed. -/
def FromLoop (A : Option Addr) (len cap : Nat) (w : World) (n : Nat) (i : Value) (wr : World) : Prop :=
  ∃ (k : Nat) (s : Int), k ≤ len ∧ k ≤ 64 ∧ n = 64 - k ∧ i = .int .i64 k ∧ 0 ≤ s ∧ s < 2147483647 ∧ Blk wr w.heap.size 92 #[.slice A len cap, .int .i64 0, .int .i64 s] ∧ Below w.heap.size w wr

set_option maxHeartbeats 1000000 in
set_option maxRecDepth 100000 in
theorem spec_from (A : Option Addr) (len cap : Nat) (zs : List Int) (W w : World) (hrow : IsRow .u8 W A len cap zs) (hW : Below W.heap.size W w) :
    Calls Tryz.prog 34 #[.slice A len cap] w (Made A len cap zs W w) := by
  have hm : len ≤ maxLen := by
    rcases hrow with ⟨_, rfl, _⟩ | ⟨_, _, h1, h2, _⟩
    · exact Nat.zero_le _
    · omega
  unfold maxLen at hm
  go_enter Tryz.func34, Tryz.ntmps34
  go_wp2_with fail
  go_loopg [4] 64 (fun n i wr => FromLoop A len cap w n i wr)
  case atStart => exact ⟨0, 34001, by omega, by omega, rfl, rfl, by omega, by omega, Blk.new _ _ _, (Below.refl _ _).alloc (Nat.le_refl _) _⟩
  case round =>
    obtain ⟨k, s, hk, hk2, hg, rfl, s0, s1, hb, hbel⟩ := hrel
    subst hg
    have fin : Made A len cap zs W w (.returned (.pointer (some ⟨w.heap.size, 0, none⟩))) wr :=
      ⟨w.heap.size, rfl, Nat.le_refl _, ⟨hrow, hW.trans (hbel.mono hW.size), hW.size, 0, s, Nat.zero_le _, s0, s1, hb⟩, hbel⟩
    have FIN := Lib.hid fin
    clear fin
    by_cases hlt : k < len
    · by_cases h64 : k < 64
      · obtain ⟨b, off, v, rfl, hbl, hcell, v0, v1⟩ := hrow.at_ hlt
        go_wp2_with fail
        refine wp_region_still_tail 15 (by kernel_rfl) (by kernel_rfl) ?_
        change wpStill _ _ (wr.drew) (fun a => wpList _ _ _ _ a (wr.drew)) _ _
        have q1 : Blk (wr.drew) w.heap.size _ _ := hb.drew
        have q2 : Below w.heap.size w (wr.drew) := hbel.drew
        generalize wr.drew = w2 at q1 q2 ⊢
        have hv : w2.cell? ⟨b, off + k, none⟩ = some (.int .u8 v) := by
          rw [← hcell]
          exact (q2.cell (p := ⟨b, off + k, none⟩) (Nat.lt_of_lt_of_le hbl hW.size)).trans (hW.cell (p := ⟨b, off + k, none⟩) hbl)
        obtain ⟨c0, c1, c2⟩ := q1.three
        have z2 := q1.frozen 2
        simp only [List.take_succ_cons, List.take_zero, List.drop_succ_cons, List.drop_zero]
        iterate 15 still_step
        refine wpStill_nil ?_
        go_wp2_with fail
        go_roundg (64 - (k + 1))
        case measure => omega
        case rel => exact ⟨k + 1, (s * 67 + v) % 2147483647, by omega, by omega, rfl, by go_num, by omega, by omega, by simpa using q1.set_ 2 _, q2.setCell (Nat.le_refl _) _⟩
      · go_wp2_with fail
        go_ret
        exact FIN.out
    · go_wp2_with fail
      go_ret
      exact FIN.out

end Go.Proofs.YtfhcakpmlppbkaaGreatDoor
