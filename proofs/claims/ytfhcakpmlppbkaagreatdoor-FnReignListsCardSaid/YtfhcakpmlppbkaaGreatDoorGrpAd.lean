/- Texts of a claim in one file: Draw4 Draw5. -/
import Derived.Test.YtfhcakpmlppbkaaGreatDoorGrpAc
namespace Go.Proofs.YtfhcakpmlppbkaaGreatDoor
open Go.RowKit

/-- While a date is drawn: the source, the block R of the answer, the block D of the date. -/
structure Acc (A : Option Addr) (len cap : Nat) (zs : List Int) (W w : World) (g R D : Nat) (y m d : Int) (wz : World) : Prop where
  src : Src A len cap zs W wz g
  only : w.grownBy wz (some g)
  r : Blk wz R 113 #[.int .i64 0, .int .i64 0, .int .i64 0]
  dt : Blk wz D 113 #[.int .i64 y, .int .i64 m, .int .i64 d]
  rg : R ≠ g
  dg : D ≠ g
  rd : R ≠ D
  rw_ : w.heap.size ≤ R
  dw : w.heap.size ≤ D
  yb : 0 ≤ y ∧ y ≤ 3000
  mb : 0 ≤ m ∧ m ≤ 13
  db : 0 ≤ d ∧ d ≤ 40
section
variable {A : Option Addr} {len cap : Nat} {zs : List Int} {W w wz w' : World} {g R D : Nat} {y m d : Int}
theorem Src.setCell (h : Src A len cap zs W w g) {p : Addr} (hp : p.block ≠ g) (hW : W.heap.size ≤ p.block) (u : Value) : Src A len cap zs W (w.setCell p u) g := by
  obtain ⟨h1, h2, h3, q, s, h4, h5, h6, h7⟩ := h
  exact ⟨h1, h2.setCell hW _, h3, q, s, h4, h5, h6, h7.far (fun e => hp e.symm) _⟩
theorem Acc.call (h : Acc A len cap zs W w g R D y m d wz) (hs : Src A len cap zs W w' g) (hg : wz.grownBy w' (some g)) : Acc A len cap zs W w g R D y m d w' :=
  ⟨hs, h.only.trans hg, h.r.grown hg (fun e => h.rg (by injection e)), h.dt.grown hg (fun e => h.dg (by injection e)), h.rg, h.dg, h.rd, h.rw_, h.dw, h.yb, h.mb, h.db⟩
theorem Acc.alloc (h : Acc A len cap zs W w g R D y m d wz) (o : Obj) : Acc A len cap zs W w g R D y m d (wz.alloc o) :=
  ⟨h.src.alloc o, only_alloc h.only o, h.r.alloc o, h.dt.alloc o, h.rg, h.dg, h.rd, h.rw_, h.dw, h.yb, h.mb, h.db⟩
theorem Acc.ww (h : Acc A len cap zs W w g R D y m d wz) (hW : W.heap.size ≤ w.heap.size) : W.heap.size ≤ D := Nat.le_trans hW h.dw
theorem Acc.set0 (h : Acc A len cap zs W w g R D y m d wz) (hW : W.heap.size ≤ w.heap.size) {x : Int} (hx : 0 ≤ x ∧ x ≤ 3000) : Acc A len cap zs W w g R D x m d (wz.setCell ⟨D, 0, none⟩ (.int .i64 x)) :=
  ⟨h.src.setCell h.dg (h.ww hW) _, only_setCell h.only (.inr h.dw) _, h.r.far h.rd _, by simpa using h.dt.set_ 0 _, h.rg, h.dg, h.rd, h.rw_, h.dw, hx, h.mb, h.db⟩
theorem Acc.set1 (h : Acc A len cap zs W w g R D y m d wz) (hW : W.heap.size ≤ w.heap.size) {x : Int} (hx : 0 ≤ x ∧ x ≤ 13) : Acc A len cap zs W w g R D y x d (wz.setCell ⟨D, 1, none⟩ (.int .i64 x)) :=
  ⟨h.src.setCell h.dg (h.ww hW) _, only_setCell h.only (.inr h.dw) _, h.r.far h.rd _, by simpa using h.dt.set_ 1 _, h.rg, h.dg, h.rd, h.rw_, h.dw, h.yb, hx, h.db⟩
theorem Acc.set2 (h : Acc A len cap zs W w g R D y m d wz) (hW : W.heap.size ≤ w.heap.size) {x : Int} (hx : 0 ≤ x ∧ x ≤ 40) : Acc A len cap zs W w g R D y m x (wz.setCell ⟨D, 2, none⟩ (.int .i64 x)) :=
  ⟨h.src.setCell h.dg (h.ww hW) _, only_setCell h.only (.inr h.dw) _, h.r.far h.rd _, by simpa using h.dt.set_ 2 _, h.rg, h.dg, h.rd, h.rw_, h.dw, h.yb, h.mb, hx⟩
/-- What the walk needs of the two blocks. -/
theorem Acc.cells (h : Acc A len cap zs W w g R D y m d wz) :
    (wz.cell? ⟨D, 0, none⟩ = some (.int .i64 y) ∧ wz.cell? ⟨D, 1, none⟩ = some (.int .i64 m) ∧ wz.cell? ⟨D, 2, none⟩ = some (.int .i64 d)) ∧
    (wz.frozen? ⟨D, 0, none⟩ = false ∧ wz.frozen? ⟨D, 1, none⟩ = false ∧ wz.frozen? ⟨D, 2, none⟩ = false) ∧
    (wz.cell? ⟨R, 0, none⟩ = some (.int .i64 0) ∧ wz.cell? ⟨R, 1, none⟩ = some (.int .i64 0) ∧ wz.cell? ⟨R, 2, none⟩ = some (.int .i64 0)) ∧
    (wz.frozen? ⟨R, 0, none⟩ = false ∧ wz.frozen? ⟨R, 1, none⟩ = false ∧ wz.frozen? ⟨R, 2, none⟩ = false) :=
  ⟨h.dt.three, ⟨h.dt.frozen 0, h.dt.frozen 1, h.dt.frozen 2⟩, h.r.three, ⟨h.r.frozen 0, h.r.frozen 1, h.r.frozen 2⟩⟩
end

/-- What a call leaves that draws a date. -/
def DrewDate (A : Option Addr) (len cap : Nat) (zs : List Int) (W w : World) (g : Nat) (e : Ending) (w' : World) : Prop :=
  ∃ y m d : Int, e = .returned (.agg #[.int .i64 y, .int .i64 m, .int .i64 d]) ∧ (0 ≤ y ∧ y ≤ 3000) ∧ (0 ≤ m ∧ m ≤ 13) ∧ (0 ≤ d ∧ d ≤ 40) ∧ Src A len cap zs W w' g ∧ w.grownBy w' (some g)

theorem Acc.fin {A : Option Addr} {len cap : Nat} {zs : List Int} {W w wz : World} {g R D : Nat} {y m d : Int} (h : Acc A len cap zs W w g R D y m d wz) (hW : W.heap.size ≤ w.heap.size) (a b c : Value) :
    DrewDate A len cap zs W w g (.returned (.agg #[.int .i64 y, .int .i64 m, .int .i64 d])) (((wz.setCell ⟨R, 0, none⟩ a).setCell ⟨R, 1, none⟩ b).setCell ⟨R, 2, none⟩ c) := by
  have hR := Nat.le_trans hW h.rw_
  exact ⟨y, m, d, rfl, h.yb, h.mb, h.db, ((h.src.setCell h.rg hR _).setCell h.rg hR _).setCell h.rg hR _, only_setCell (only_setCell (only_setCell h.only (.inr h.rw_) _) (.inr h.rw_) _) (.inr h.rw_) _⟩

end Go.Proofs.YtfhcakpmlppbkaaGreatDoor

namespace Go.Proofs.YtfhcakpmlppbkaaGreatDoor
open Go.RowKit

/-- What a call leaves that draws a number with a property out of some bytes. -/
def DrawnP (P : Int → Prop) (w : World) (e : Ending) (w' : World) : Prop := ∃ x : Int, e = .returned (.int .i64 x) ∧ P x ∧ Below w.heap.size w w'
/-- What a call leaves that draws a date out of some bytes. -/
def DrawnDate (w : World) (e : Ending) (w' : World) : Prop :=
  ∃ y m d : Int, e = .returned (.agg #[.int .i64 y, .int .i64 m, .int .i64 d]) ∧ (0 ≤ y ∧ y ≤ 3000) ∧ (0 ≤ m ∧ m ≤ 13) ∧ (0 ≤ d ∧ d ≤ 40) ∧ Below w.heap.size w w'
def dayish (x : Int) : Prop := -1 ≤ x ∧ x ≤ 730500

set_option maxHeartbeats 1000000 in
theorem spec_drawDay (A : Option Addr) (len cap : Nat) (zs : List Int) (W w : World) (g : Nat) (hs : Src A len cap zs W w g) :
    Calls Tryz.prog 88 #[.pointer (some ⟨g, 0, none⟩)] w (DrewP A len cap zs W w g dayish) := by
  have hl := hs.lt
  go_enter Tryz.func88, Tryz.ntmps88
  go_wp2_with fail
  refine (spec_next A len cap zs W _ g 16 hs).mono ?_
  rintro e w1 ⟨x1, rfl, a1, b1, s1, k1⟩
  clear b1
  by_cases h0 : x1 = 0
  · subst h0
    have z1 := k1.size
    go_wp2_with fail
    refine (spec_pick A len cap zs W _ g _ 7 _ [-1, 0, 1, 2, 730498, 730499, 730500] dayish (s1.alloc _) (Blk.new _ _ _) (by omega) rfl (by omega) (by omega) (by simp [dayish])).mono ?_
    rintro e w2 ⟨x2, rfl, a2, s2, k2⟩
    go_wp2_with fail
    go_ret
    exact ⟨x2, rfl, a2, s2, (only_alloc k1 _).trans k2⟩
  · have e0 : (x1 == 0) = false := by simpa using h0
    clear h0
    go_wp2_with fail
    refine (spec_next A len cap zs W _ g 730499 s1).mono ?_
    rintro e w2 ⟨x2, rfl, a2, b2, s2, k2⟩
    have hd : dayish x2 := ⟨by omega, by omega⟩
    have HD := Lib.hid hd
    clear b2 hd
    go_wp2_with fail
    go_ret
    exact ⟨x2, rfl, HD.out, s2, k1.trans k2⟩

end Go.Proofs.YtfhcakpmlppbkaaGreatDoor
