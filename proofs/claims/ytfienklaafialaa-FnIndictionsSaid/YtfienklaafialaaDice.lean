/- The dice of the laws: roll and below. -/
import Derived.Test.YtfienklaafialaaDraw3
import Derived.Test.YtfienklaafialaaMeetS
import Derived.Laws.BitsLemmas
import Derived.Laws.Bits64
namespace Go.Proofs.Ytfienklaafialaa.Sets
open Go.RowKit

/-- A die of the law lies in block g; it reads the bytes that were there in W; nothing of W has changed. -/
def Die (A : Option Addr) (len cap : Nat) (zs : List Int) (W w : World) (g : Nat) : Prop :=
  IsRow .u8 W A len cap zs ∧ Below W.heap.size W w ∧ W.heap.size ≤ g ∧ ∃ (p : Nat) (h : Int), p ≤ len ∧ Blk w g 81 #[.slice A len cap, .int .i64 p, .int .u64 h]

theorem die_mask (y : Int) (h0 : 0 ≤ y) (h1 : y < 18446744073709551616) : bits .and .u64 (y / 8589934592) 16777215 = y / 8589934592 % 16777216 := by
  have h := bits_mask .u64 63 (by decide) (fun n h0 h1 => by rw [IntKind.wrap_u64]; omega) 24 (by decide) (y / 8589934592) (by omega) (by omega)
  have e : ((2 : Int) ^ 24 - 1) = 16777215 := by decide
  have e2 : ((2 : Int) ^ 24) = 16777216 := by decide
  rw [e, e2] at h
  exact h

set_option maxHeartbeats 1000000 in
set_option maxRecDepth 100000 in
theorem laws_rollS (sd : Int) (sd0 : 0 ≤ sd) (sd1 : sd ≤ 1000000) (A : Option Addr) (len cap : Nat) (zs : List Int) (W w : World) (hrow : IsRow .u8 W A len cap zs) (hW : Below W.heap.size W w) :
    Calls Try.prog 24 #[.slice A len cap, .int .u64 sd] w fun e w' => ∃ g : Nat, e = .returned (.pointer (some ⟨g, 0, none⟩)) ∧ w.heap.size ≤ g ∧ Die A len cap zs W w' g ∧ Below w.heap.size w w' := by
  have hm : len ≤ maxLen := by
    rcases hrow with ⟨_, rfl, _⟩ | ⟨_, _, h1, h2, _⟩
    · exact Nat.zero_le _
    · omega
  unfold maxLen at hm
  go_enter Try.func24, Try.ntmps24
  go_wp2_with fail
  go_loopg [6] len (fun m i wr => ∃ (k : Nat) (h : Int), k ≤ len ∧ m = len - k ∧ i = .int .i64 k ∧ Blk wr w.heap.size 81 #[.slice A len cap, .int .i64 0, .int .u64 h] ∧ Below w.heap.size w wr)
  case atStart => exact ⟨0, _, by omega, by omega, rfl, Blk.new _ _ _, (Below.refl _ _).alloc (Nat.le_refl _) _⟩
  case round =>
    obtain ⟨k, h, hk, hm2, rfl, hb, hbel⟩ := hrel
    subst hm2
    have hrow0 := Lib.hid hrow
    by_cases hlt : k < len
    · obtain ⟨b, off, v, rfl, hbl, hcell, v0, v1⟩ := hrow.at_ hlt
      have hv : wr.cell? ⟨b, off + k, none⟩ = some (.int .u8 v) := by
        rw [← hcell]
        exact (hbel.cell (p := ⟨b, off + k, none⟩) (Nat.lt_of_lt_of_le hbl hW.size)).trans (hW.cell (p := ⟨b, off + k, none⟩) hbl)
      obtain ⟨c0, c1, c2⟩ := hb.three
      have z2 := hb.frozen 2
      have hne : b ≠ w.heap.size := by have := hW.size; omega
      have HB := Lib.hid hb
      clear hb hcell
      go_wp2_with fail
      refine' via ?proof ?rest
      case rest => (intro hK; go_region; exact hK)
      go_wp2_with fail
      go_roundg (len - (k + 1))
      case measure => omega
      case rel => exact ⟨k + 1, _, by omega, by omega, by go_num, by simpa using (HB.out.set_ 2 _).drew, (hbel.setCell (Nat.le_refl _) _).drew⟩
    · go_wp2_with fail
      go_ret
      exact ⟨_, rfl, Nat.le_refl _, ⟨hrow0.out, hW.trans (hbel.mono hW.size), hW.size, 0, h, Nat.zero_le _, hb⟩, hbel⟩

theorem laws_roll (A : Option Addr) (len cap : Nat) (zs : List Int) (W w : World) (hrow : IsRow .u8 W A len cap zs) (hW : Below W.heap.size W w) :
    Calls Try.prog 24 #[.slice A len cap, .int .u64 203] w fun e w' => ∃ g : Nat, e = .returned (.pointer (some ⟨g, 0, none⟩)) ∧ w.heap.size ≤ g ∧ Die A len cap zs W w' g ∧ Below w.heap.size w w' :=
  laws_rollS 203 (by omega) (by omega) A len cap zs W w hrow hW

set_option maxHeartbeats 1000000 in
set_option maxRecDepth 100000 in
theorem laws_below (A : Option Addr) (len cap : Nat) (zs : List Int) (W w : World) (g : Nat) (n : Int) (hd : Die A len cap zs W w g) (hn : 1 ≤ n) (hn2 : n ≤ 4000000000) :
    Calls Try.prog 25 #[.pointer (some ⟨g, 0, none⟩), .int .i64 n] w fun e w' => ∃ x : Int, e = .returned (.int .i64 x) ∧ 0 ≤ x ∧ x < n ∧ Die A len cap zs W w' g ∧ w.grownBy w' (some g) := by
  obtain ⟨hrow, hW, hg, p, h, hp, hb⟩ := hd
  have hm : len ≤ maxLen := by
    rcases hrow with ⟨_, rfl, _⟩ | ⟨_, _, h1, h2, _⟩
    · exact Nat.zero_le _
    · omega
  unfold maxLen at hm
  obtain ⟨c0, c1, c2⟩ := hb.three
  have z2 := hb.frozen 2
  go_enter Try.func25, Try.ntmps25
  go_wp2_with fail
  generalize hy : IntKind.u64.wrap (IntKind.u64.wrap (h * 6364136223846793005) + 1442695040888963407) = y
  have y0 : 0 ≤ y ∧ y < 18446744073709551616 := by
    rw [← hy]
    rw [IntKind.wrap_u64]
    omega
  have hm24 := die_mask y y0.1 y0.2
  generalize hq : wrap64 (bits .and .u64 (y / 8589934592) 16777215) = q
  have q0 : 0 ≤ q ∧ q ≤ 16777215 := by
    rw [← hq, hm24, wrap64]
    omega
  have hb2 : Blk (w.setCell ⟨g, 2, none⟩ (.int .u64 y)) g 81 #[.slice A len cap, .int .i64 p, .int .u64 y] := by simpa using hb.set_ 2 (.int .u64 y)
  have hgr : w.grownBy (w.setCell ⟨g, 2, none⟩ (.int .u64 y)) (some g) := only_setCell (World.grownBy.refl _ _) (.inl rfl) _
  have hW2 := hW.setCell (p := ⟨g, 2, none⟩) hg (.int .u64 y)
  clear hm24 hq hb c0 c1 c2 z2 hW y0 hy
  generalize w.setCell ⟨g, 2, none⟩ (.int .u64 y) = w2 at hb2 hgr hW2 ⊢
  obtain ⟨c0, c1, c2⟩ := hb2.three
  have z1 := hb2.frozen 1
  have hrow0 := Lib.hid hrow
  by_cases hlt : p < len
  · obtain ⟨b, off, v, rfl, hbl, hcell, v0, v1⟩ := hrow.at_ hlt
    have hv : w2.cell? ⟨b, off + p, none⟩ = some (.int .u8 v) := by
      rw [← hcell]
      exact hW2.cell (p := ⟨b, off + p, none⟩) hbl
    go_quiet (fail)
    go_wp2_with fail
    go_quiet (fail)
    go_wp2_with fail
    go_ret
    refine ⟨_, rfl, Int.emod_nonneg _ (by omega), Int.emod_lt_of_pos _ (by omega), ⟨hrow0.out, (below_drewN hW2 _).setCell hg _, hg, p + 1, y, by omega, ?_⟩, only_setCell (only_drewN hgr _) (.inl rfl) _⟩
    simpa using (hb2.drewN _).set_ 1 _
  · go_quiet (fail)
    go_wp2_with fail
    go_ret
    exact ⟨_, rfl, Int.emod_nonneg _ (by omega), Int.emod_lt_of_pos _ (by omega), ⟨hrow0.out, below_drewN hW2 _, hg, p, y, hp, hb2.drewN _⟩, only_drewN hgr _⟩

end Go.Proofs.Ytfienklaafialaa.Sets
