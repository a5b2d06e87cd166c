/- Contracts of spec's drawing of a date and of a day. -/
import Derived.Test.YtkmkfpglnmpnmaaDoorDraw3
namespace Go.Proofs.YtkmkfpglnmpnmaaDoor
open Go.RowKit

/-- While a date is drawn: the source, the block R of the answer, the block D of the date. -/
structure Acc (A : Option Addr) (len cap : Nat) (zs : List Int) (W w : World) (g R D : Nat) (y m d : Int) (wz : World) : Prop where
  src : Src A len cap zs W wz g
  only : w.grownBy wz (some g)
  r : Blk wz R 25 #[.int .i64 0, .int .i64 0, .int .i64 0]
  dt : Blk wz D 25 #[.int .i64 y, .int .i64 m, .int .i64 d]
  rg : R ≠ g
  dg : D ≠ g
  rd : R ≠ D
  rw_ : w.heap.size ≤ R
  dw : w.heap.size ≤ D
  yb : 0 ≤ y ∧ y ≤ 3000
  mb : 0 ≤ m ∧ m ≤ 13
  db : 0 ≤ d ∧ d ≤ 40
section
variable {A : Option Addr} {len cap : Nat} {zs : List Int} {W w wz w' : World} {g R D : Nat} {y m d : Int}
theorem Src.setCell (h : Src A len cap zs W w g) {p : Addr} (hp : p.block ≠ g) (hW : W.heap.size ≤ p.block) (u : Value) : Src A len cap zs W (w.setCell p u) g := by
  obtain ⟨h1, h2, h3, q, s, h4, h5, h6, h7⟩ := h
  exact ⟨h1, h2.setCell hW _, h3, q, s, h4, h5, h6, h7.far (fun e => hp e.symm) _⟩
theorem Acc.call (h : Acc A len cap zs W w g R D y m d wz) (hs : Src A len cap zs W w' g) (hg : wz.grownBy w' (some g)) : Acc A len cap zs W w g R D y m d w' :=
  ⟨hs, h.only.trans hg, h.r.grown hg (fun e => h.rg (by injection e)), h.dt.grown hg (fun e => h.dg (by injection e)), h.rg, h.dg, h.rd, h.rw_, h.dw, h.yb, h.mb, h.db⟩
theorem Acc.alloc (h : Acc A len cap zs W w g R D y m d wz) (o : Obj) : Acc A len cap zs W w g R D y m d (wz.alloc o) :=
  ⟨h.src.alloc o, only_alloc h.only o, h.r.alloc o, h.dt.alloc o, h.rg, h.dg, h.rd, h.rw_, h.dw, h.yb, h.mb, h.db⟩
theorem Acc.ww (h : Acc A len cap zs W w g R D y m d wz) (hW : W.heap.size ≤ w.heap.size) : W.heap.size ≤ D := Nat.le_trans hW h.dw
theorem Acc.set0 (h : Acc A len cap zs W w g R D y m d wz) (hW : W.heap.size ≤ w.heap.size) {x : Int} (hx : 0 ≤ x ∧ x ≤ 3000) : Acc A len cap zs W w g R D x m d (wz.setCell ⟨D, 0, none⟩ (.int .i64 x)) :=
  ⟨h.src.setCell h.dg (h.ww hW) _, only_setCell h.only (.inr h.dw) _, h.r.far h.rd _, by simpa using h.dt.set_ 0 _, h.rg, h.dg, h.rd, h.rw_, h.dw, hx, h.mb, h.db⟩
theorem Acc.set1 (h : Acc A len cap zs W w g R D y m d wz) (hW : W.heap.size ≤ w.heap.size) {x : Int} (hx : 0 ≤ x ∧ x ≤ 13) : Acc A len cap zs W w g R D y x d (wz.setCell ⟨D, 1, none⟩ (.int .i64 x)) :=
  ⟨h.src.setCell h.dg (h.ww hW) _, only_setCell h.only (.inr h.dw) _, h.r.far h.rd _, by simpa using h.dt.set_ 1 _, h.rg, h.dg, h.rd, h.rw_, h.dw, h.yb, hx, h.db⟩
theorem Acc.set2 (h : Acc A len cap zs W w g R D y m d wz) (hW : W.heap.size ≤ w.heap.size) {x : Int} (hx : 0 ≤ x ∧ x ≤ 40) : Acc A len cap zs W w g R D y m x (wz.setCell ⟨D, 2, none⟩ (.int .i64 x)) :=
  ⟨h.src.setCell h.dg (h.ww hW) _, only_setCell h.only (.inr h.dw) _, h.r.far h.rd _, by simpa using h.dt.set_ 2 _, h.rg, h.dg, h.rd, h.rw_, h.dw, h.yb, h.mb, hx⟩
/-- What the walk needs of the two blocks. -/
theorem Acc.cells (h : Acc A len cap zs W w g R D y m d wz) :
    (wz.cell? ⟨D, 0, none⟩ = some (.int .i64 y) ∧ wz.cell? ⟨D, 1, none⟩ = some (.int .i64 m) ∧ wz.cell? ⟨D, 2, none⟩ = some (.int .i64 d)) ∧
    (wz.frozen? ⟨D, 0, none⟩ = false ∧ wz.frozen? ⟨D, 1, none⟩ = false ∧ wz.frozen? ⟨D, 2, none⟩ = false) ∧
    (wz.cell? ⟨R, 0, none⟩ = some (.int .i64 0) ∧ wz.cell? ⟨R, 1, none⟩ = some (.int .i64 0) ∧ wz.cell? ⟨R, 2, none⟩ = some (.int .i64 0)) ∧
    (wz.frozen? ⟨R, 0, none⟩ = false ∧ wz.frozen? ⟨R, 1, none⟩ = false ∧ wz.frozen? ⟨R, 2, none⟩ = false) :=
  ⟨h.dt.three, ⟨h.dt.frozen 0, h.dt.frozen 1, h.dt.frozen 2⟩, h.r.three, ⟨h.r.frozen 0, h.r.frozen 1, h.r.frozen 2⟩⟩
end

/-- What a call leaves that draws a date. -/
def DrewDate (A : Option Addr) (len cap : Nat) (zs : List Int) (W w : World) (g : Nat) (e : Ending) (w' : World) : Prop :=
  ∃ y m d : Int, e = .returned (.agg #[.int .i64 y, .int .i64 m, .int .i64 d]) ∧ (0 ≤ y ∧ y ≤ 3000) ∧ (0 ≤ m ∧ m ≤ 13) ∧ (0 ≤ d ∧ d ≤ 40) ∧ Src A len cap zs W w' g ∧ w.grownBy w' (some g)

theorem Acc.fin {A : Option Addr} {len cap : Nat} {zs : List Int} {W w wz : World} {g R D : Nat} {y m d : Int} (h : Acc A len cap zs W w g R D y m d wz) (hW : W.heap.size ≤ w.heap.size) (a b c : Value) :
    DrewDate A len cap zs W w g (.returned (.agg #[.int .i64 y, .int .i64 m, .int .i64 d])) (((wz.setCell ⟨R, 0, none⟩ a).setCell ⟨R, 1, none⟩ b).setCell ⟨R, 2, none⟩ c) := by
  have hR := Nat.le_trans hW h.rw_
  exact ⟨y, m, d, rfl, h.yb, h.mb, h.db, ((h.src.setCell h.rg hR _).setCell h.rg hR _).setCell h.rg hR _, only_setCell (only_setCell (only_setCell h.only (.inr h.rw_) _) (.inr h.rw_) _) (.inr h.rw_) _⟩

set_option maxHeartbeats 2000000 in
theorem spec_drawDate (A : Option Addr) (len cap : Nat) (zs : List Int) (W w : World) (g : Nat) (hs : Src A len cap zs W w g) (hW : W.heap.size ≤ w.heap.size) :
    Calls Tryd.prog 20 #[.pointer (some ⟨g, 0, none⟩)] w (DrewDate A len cap zs W w g) := by
  have hl := hs.lt
  go_enter Tryd.func20, Tryd.ntmps20
  go_wp2_with fail
  refine (spec_next A len cap zs W _ g 2000 (hs.alloc _)).mono ?_
  rintro e w1 ⟨x1, rfl, a1, b1, s1, k1⟩
  have z1 := k1.size
  simp at z1
  have B1 : x1 ≤ 1999 := by omega
  clear b1
  go_wp2_with fail
  refine (spec_next A len cap zs W _ g 12 s1).mono ?_
  rintro e w2 ⟨x2, rfl, a2, b2, s2, k2⟩
  have z2 := k2.size
  have B2 : x2 ≤ 11 := by omega
  clear b2
  go_wp2_with fail
  refine (spec_next A len cap zs W _ g 28 s2).mono ?_
  rintro e w3 ⟨x3, rfl, a3, b3, s3, k3⟩
  have z3 := k3.size
  have B3 : x3 ≤ 27 := by omega
  clear b3
  have rg : w.heap.size ≠ g := by omega
  have hacc : Acc A len cap zs W w g w.heap.size w3.heap.size (1 + x1) (1 + x2) (1 + x3) (w3.alloc (.cells #[.int .i64 (1 + x1), .int .i64 (1 + x2), .int .i64 (1 + x3)] 25)) :=
    ⟨s3.alloc _, only_alloc (((only_alloc (World.grownBy.refl w (some g)) _).trans k1).trans (k2.trans k3)) _,
      ((((Blk.new w _ _).grown k1 (fun e => rg (by injection e))).grown k2 (fun e => rg (by injection e))).grown k3 (fun e => rg (by injection e))).alloc _, Blk.new _ _ _, rg, by omega, by omega, Nat.le_refl _, by omega, by omega, by omega, by omega⟩
  clear k1 k2 k3
  go_wp2_with fail
  refine (spec_next A len cap zs W _ g 8 hacc.src).mono ?_
  rintro e w4 ⟨x4, rfl, a4, b4, s4, k4⟩
  have acc4 := hacc.call s4 k4
  clear hacc s4 k4 s3 s2 s1 b4
  generalize w3.heap.size = D at acc4 ⊢
  have hD : 0 ≤ D := Nat.zero_le _
  by_cases h0 : x4 = 0
  · subst h0
    go_wp2_with fail
    refine (spec_next A len cap zs W _ g 5 acc4.src).mono ?_
    rintro e w5 ⟨x5, rfl, a5, b5, s5, k5⟩
    have acc5 := acc4.call s5 k5
    obtain ⟨⟨c50, c51, c52⟩, ⟨f50, f51, f52⟩, _⟩ := acc5.cells
    have B5 : x5 ≤ 4 := by omega
    clear b5
    have acc6 := acc5.set2 hW (x := 28 + x5) (by omega)
    obtain ⟨_, _, ⟨p0, p1, p2⟩, ⟨q0, q1, q2⟩⟩ := acc6.cells
    obtain ⟨⟨d0, d1, d2⟩, _, _⟩ := acc6.cells
    have FIN := Lib.hid (fun a b c => acc6.fin hW a b c)
    go_wp2_with fail
    refine bodyPost_ret (v := .agg #[.int .i64 (1 + x1), .int .i64 (1 + x2), .int .i64 (28 + x5)]) (by simp [results, Tryd.results20, go_sem, p0, p1, p2]) rfl (FIN.out _ _ _)
  by_cases h1 : x4 = 1
  · subst h1
    go_wp2_with fail
    refine (spec_next A len cap zs W _ g 20 acc4.src).mono ?_
    rintro e w5 ⟨x5, rfl, a5, b5, s5, k5⟩
    have acc5 := acc4.call s5 k5
    obtain ⟨⟨c50, c51, c52⟩, ⟨f50, f51, f52⟩, _⟩ := acc5.cells
    have B5 : x5 ≤ 19 := by omega
    clear b5
    have acc6 := (acc5.set0 hW (x := 100 * (1 + x5)) (by omega)).set1 hW (x := 2) (by omega)
    go_wp2_with fail
    refine (spec_next A len cap zs W _ g 3 acc6.src).mono ?_
    rintro e w7 ⟨x7, rfl, a7, b7, s7, k7⟩
    have acc7 := acc6.call s7 k7
    obtain ⟨⟨c70, c71, c72⟩, ⟨f70, f71, f72⟩, _⟩ := acc7.cells
    have B7 : x7 ≤ 2 := by omega
    clear b7
    have acc8 := acc7.set2 hW (x := 28 + x7) (by omega)
    obtain ⟨_, _, ⟨p0, p1, p2⟩, ⟨q0, q1, q2⟩⟩ := acc8.cells
    obtain ⟨⟨d0, d1, d2⟩, _, _⟩ := acc8.cells
    have FIN := Lib.hid (fun a b c => acc8.fin hW a b c)
    go_wp2_with fail
    refine bodyPost_ret (v := .agg #[.int .i64 (100 * (1 + x5)), .int .i64 (2), .int .i64 (28 + x7)]) (by simp [results, Tryd.results20, go_sem, p0, p1, p2]) rfl (FIN.out _ _ _)
  by_cases h2 : x4 = 2
  · subst h2
    go_wp2_with fail
    refine (spec_pick A len cap zs W _ g _ 4 _ [0, 1, 2000, 2001] (fun y => 0 ≤ y ∧ y ≤ 3000) (acc4.alloc _).src (Blk.new _ _ _) (by have := acc4.src.lt; omega) rfl (by omega) (by omega) (by simp)).mono ?_
    rintro e w5 ⟨x5, rfl, a5, s5, k5⟩
    have acc5 := (acc4.alloc _).call s5 k5
    obtain ⟨⟨c50, c51, c52⟩, ⟨f50, f51, f52⟩, _⟩ := acc5.cells
    have acc6 := acc5.set0 hW a5
    have qb : Blk ((w5.setCell ⟨D, 0, none⟩ (.int .i64 x5)).alloc (.cells #[.int .i64 0, .int .i64 1, .int .i64 12, .int .i64 13] 2)) w5.heap.size 2 (([0, 1, 12, 13] : List Int).map (Value.int .i64)).toArray := by
      simpa using Blk.new (w5.setCell ⟨D, 0, none⟩ (.int .i64 x5)) 2 #[.int .i64 0, .int .i64 1, .int .i64 12, .int .i64 13]
    go_wp2_with fail
    refine (spec_pick A len cap zs W _ g _ 4 _ [0, 1, 12, 13] (fun y => 0 ≤ y ∧ y ≤ 13) (acc6.alloc _).src qb (by have := s5.lt; omega) rfl (by omega) (by omega) (by simp)).mono ?_
    rintro e w7 ⟨x7, rfl, a7, s7, k7⟩
    have acc7 := (acc6.alloc _).call s7 k7
    obtain ⟨⟨c70, c71, c72⟩, ⟨f70, f71, f72⟩, _⟩ := acc7.cells
    have acc8 := acc7.set1 hW a7
    obtain ⟨_, _, ⟨p0, p1, p2⟩, ⟨q0, q1, q2⟩⟩ := acc8.cells
    obtain ⟨⟨d0, d1, d2⟩, _, _⟩ := acc8.cells
    have FIN := Lib.hid (fun a b c => acc8.fin hW a b c)
    go_wp2_with fail
    refine bodyPost_ret (v := .agg #[.int .i64 (x5), .int .i64 (x7), .int .i64 (1 + x3)]) (by simp [results, Tryd.results20, go_sem, p0, p1, p2]) rfl (FIN.out _ _ _)
  by_cases h3 : x4 = 3
  · subst h3
    go_wp2_with fail
    refine (spec_pick A len cap zs W _ g _ 4 _ [0, 1, 31, 32] (fun y => 0 ≤ y ∧ y ≤ 40) (acc4.alloc _).src (Blk.new _ _ _) (by have := acc4.src.lt; omega) rfl (by omega) (by omega) (by simp)).mono ?_
    rintro e w5 ⟨x5, rfl, a5, s5, k5⟩
    have acc5 := (acc4.alloc _).call s5 k5
    obtain ⟨⟨c50, c51, c52⟩, ⟨f50, f51, f52⟩, _⟩ := acc5.cells
    have acc6 := acc5.set2 hW a5
    obtain ⟨_, _, ⟨p0, p1, p2⟩, ⟨q0, q1, q2⟩⟩ := acc6.cells
    obtain ⟨⟨d0, d1, d2⟩, _, _⟩ := acc6.cells
    have FIN := Lib.hid (fun a b c => acc6.fin hW a b c)
    go_wp2_with fail
    refine bodyPost_ret (v := .agg #[.int .i64 (1 + x1), .int .i64 (1 + x2), .int .i64 (x5)]) (by simp [results, Tryd.results20, go_sem, p0, p1, p2]) rfl (FIN.out _ _ _)
  have e0 : (x4 == 0) = false := by simpa using h0
  have e1 : (x4 == 1) = false := by simpa using h1
  have e2 : (x4 == 2) = false := by simpa using h2
  have e3 : (x4 == 3) = false := by simpa using h3
  clear h0 h1 h2 h3
  obtain ⟨_, _, ⟨p0, p1, p2⟩, ⟨q0, q1, q2⟩⟩ := acc4.cells
  obtain ⟨⟨d0, d1, d2⟩, _, _⟩ := acc4.cells
  have FIN := Lib.hid (fun a b c => acc4.fin hW a b c)
  go_wp2_with fail
  refine bodyPost_ret (v := .agg #[.int .i64 (1 + x1), .int .i64 (1 + x2), .int .i64 (1 + x3)]) (by simp [results, Tryd.results20, go_sem, p0, p1, p2]) rfl (FIN.out _ _ _)

end Go.Proofs.YtkmkfpglnmpnmaaDoor
