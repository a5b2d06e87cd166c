/- Texts of a claim in one file: Days2 Blk. -/
import Derived.Test.YtfhcakpmlppbkaaDoorGrpAc
import Derived.Test.YtfhcakpmlppbkaaDoorProg
import Derived.WalkKit
import Derived.WalkSpells
import Derived.Laws.Rows
import Derived.Deep.Draws
namespace Go.Proofs.YtfhcakpmlppbkaaDoor
open Go.RowKit

set_option maxHeartbeats 400000 in
theorem impl_number_no (f : Bool) (y m d : Int) (hv : vb f y m d = false) (w : World) :
    Calls Tryd.prog 100 #[.agg #[.int .i64 y, .int .i64 m, .int .i64 d], .int .i64 (rk f)] w fun e w' => e = .returned (.tuple #[.int .i64 0, .int .i64 1]) ∧ Below w.heap.size w w' := by
  go_enter Tryd.func100, Tryd.ntmps100
  go_wp2_with (go_at_call 87; refine (impl_isIn f y m d _).mono ?_; rintro e w1 ⟨rfl, hb⟩)
  go_ret2
  exact ⟨rfl, ((Below.refl _ _).alloc (Nat.le_refl _) _).trans (hb.mono (by simp))⟩

set_option maxHeartbeats 400000 in
theorem impl_number (f : Bool) (y m d : Int) (hv : Cal.valid f y m d) (w : World) :
    Calls Tryd.prog 100 #[.agg #[.int .i64 y, .int .i64 m, .int .i64 d], .int .i64 (rk f)] w fun e w' => e = .returned (.tuple #[.int .i64 (Cal.num f y m d), .int .i64 0]) ∧ Below w.heap.size w w' := by
  have hb1 := vb_true hv
  obtain ⟨y1, y2, m1, m2, d1, d2⟩ := hv
  have dm := (Cal.mlen_bd f y m).2
  have yb := Cal.ys_bd f y y1 (by omega)
  go_enter Tryd.func100, Tryd.ntmps100
  go_wp2_with (go_at_call 87; refine (impl_isIn f y m d _).mono ?_; rintro e w1 ⟨rfl, hb⟩; obtain ⟨hc, hf⟩ := bcell hb)
  go_quiet ((go_at_call 69; exact Calls.quiet_of_same ((impl_ys f y (by omega) (by omega) _).mono fun _ _ ⟨a, b⟩ => ⟨a, b.symm⟩)))
  go_wp2_with fail
  go_loop [6, 7] (fun s k => ∃ j : Int, 1 ≤ j ∧ j ≤ m ∧ k = .int .i64 j ∧ s = .int .i64 (Cal.ys f y + d - 1 + Cal.cum f y j)) (fun _ k => (m - intOf k).toNat)
  case atStart => exact ⟨1, by omega, by omega, rfl, by simp [Cal.cum_one]⟩
  case round =>
    obtain ⟨j, hj1, hj2, rfl, rfl⟩ := hrel
    have cb := Cal.cum_bd f y j hj1 (by omega)
    have ml := Cal.mlen_bd f y j
    have cs := Lib.hid (Cal.cum_succ f y j hj1)
    by_cases hlt : j < m
    · go_wp2_with (go_at_call 70; refine (impl_mlen f y j (by omega) _).mono ?_; rintro e w2 ⟨rfl, rfl⟩)
      go_round
      case rel => exact ⟨j + 1, by omega, by omega, rfl, by rw [cs.out]; go_num⟩
      case measure => simp [intOf]; omega
    · have hm := Lib.hid (show j = m by omega)
      go_wp2_with fail
      go_ret2
      exact ⟨ret_ii (by rw [hm.out]; unfold Cal.num; omega) rfl, below_drewN (((Below.refl _ _).alloc (Nat.le_refl _) _).trans (hb.mono (by simp))) _⟩

end Go.Proofs.YtfhcakpmlppbkaaDoor

namespace Go.Proofs.YtfhcakpmlppbkaaDoor
open Go.RowKit

/-- Block g is the cells cs of type t, none of them frozen. -/
def Blk (w : World) (g : Nat) (t : TypeId) (cs : Array Value) : Prop := w.heap[g]? = some (.cells cs t (0, 0))
section
variable {w w' : World} {g : Nat} {t : TypeId} {cs : Array Value}
theorem Blk.lt (h : Blk w g t cs) : g < w.heap.size := by
  rcases Nat.lt_or_ge g w.heap.size with hlt | hge
  · exact hlt
  · unfold Blk at h; rw [Array.getElem?_eq_none hge] at h; cases h
theorem Blk.cell (h : Blk w g t cs) (i : Nat) : w.cell? ⟨g, i, none⟩ = cs[i]? := cell_of_row w g i cs t (0, 0) h
theorem Blk.three {a b c : Value} (h : Blk w g t #[a, b, c]) : w.cell? ⟨g, 0, none⟩ = some a ∧ w.cell? ⟨g, 1, none⟩ = some b ∧ w.cell? ⟨g, 2, none⟩ = some c :=
  ⟨by simpa using h.cell 0, by simpa using h.cell 1, by simpa using h.cell 2⟩
theorem Blk.frozen (h : Blk w g t cs) (i : Nat) : w.frozen? ⟨g, i, none⟩ = false := by
  unfold Blk at h
  simp [World.frozen?, h]
theorem Blk.new (w : World) (t : TypeId) (cs : Array Value) : Blk (w.alloc (.cells cs t)) w.heap.size t cs := heap_alloc_new w _
theorem Blk.drew (h : Blk w g t cs) : Blk w.drew g t cs := h
theorem Blk.drewN (h : Blk w g t cs) (n : Nat) : Blk (w.drewN n) g t cs := h
theorem Blk.alloc (h : Blk w g t cs) (o : Obj) : Blk (w.alloc o) g t cs := (Below.heap_alloc w o g h.lt).trans h
theorem Blk.set_ (h : Blk w g t cs) (i : Nat) (u : Value) : Blk (w.setCell ⟨g, i, none⟩ u) g t (cs.setIfInBounds i u) := by
  unfold Blk at h ⊢
  simp [World.setCell, Array.getElem?_modify, h]
theorem Blk.far (h : Blk w g t cs) {p : Addr} (hp : g ≠ p.block) (u : Value) : Blk (w.setCell p u) g t cs := (Below.heap_setCell w p u g hp).trans h
theorem Blk.below {B : Nat} (h : Blk w g t cs) (hb : Below B w w') (hg : g < B) : Blk w' g t cs := (hb.block g hg).trans h
end

end Go.Proofs.YtfhcakpmlppbkaaDoor
