/- Contracts of spec's drawing of a date and of a day. -/
import Derived.Test.YtfhcakpmlppbkaaGreatDoorDraw3
namespace Go.Proofs.YtfhcakpmlppbkaaGreatDoor
open Go.RowKit

/-- While a date is drawn: the source, the block R of the answer, the block D of the date. -/
structure Acc (A : Option Addr) (len cap : Nat) (zs : List Int) (W w : World) (g R D : Nat) (y m d : Int) (wz : World) : Prop where
  src : Src A len cap zs W wz g
  only : w.grownBy wz (some g)
  r : Blk wz R 113 #[.int .i64 0, .int .i64 0, .int .i64 0]
  dt : Blk wz D 113 #[.int .i64 y, .int .i64 m, .int .i64 d]
  rg : R ≠ g
  dg : D ≠ g
  rd : R ≠ D
  rw_ : w.heap.size ≤ R
  dw : w.heap.size ≤ D
  yb : 0 ≤ y ∧ y ≤ 3000
  mb : 0 ≤ m ∧ m ≤ 13
  db : 0 ≤ d ∧ d ≤ 40
section
variable {A : Option Addr} {len cap : Nat} {zs : List Int} {W w wz w' : World} {g R D : Nat} {y m d : Int}
theorem Src.setCell (h : Src A len cap zs W w g) {p : Addr} (hp : p.block ≠ g) (hW : W.heap.size ≤ p.block) (u : Value) : Src A len cap zs W (w.setCell p u) g := by
  obtain ⟨h1, h2, h3, q, s, h4, h5, h6, h7⟩ := h
  exact ⟨h1, h2.setCell hW _, h3, q, s, h4, h5, h6, h7.far (fun e => hp e.symm) _⟩
theorem Acc.call (h : Acc A len cap zs W w g R D y m d wz) (hs : Src A len cap zs W w' g) (hg : wz.grownBy w' (some g)) : Acc A len cap zs W w g R D y m d w' :=
  ⟨hs, h.only.trans hg, h.r.grown hg (fun e => h.rg (by injection e)), h.dt.grown hg (fun e => h.dg (by injection e)), h.rg, h.dg, h.rd, h.rw_, h.dw, h.yb, h.mb, h.db⟩
theorem Acc.alloc (h : Acc A len cap zs W w g R D y m d wz) (o : Obj) : Acc A len cap zs W w g R D y m d (wz.alloc o) :=
  ⟨h.src.alloc o, only_alloc h.only o, h.r.alloc o, h.dt.alloc o, h.rg, h.dg, h.rd, h.rw_, h.dw, h.yb, h.mb, h.db⟩
theorem Acc.ww (h : Acc A len cap zs W w g R D y m d wz) (hW : W.heap.size ≤ w.heap.size) : W.heap.size ≤ D := Nat.le_trans hW h.dw
theorem Acc.set0 (h : Acc A len cap zs W w g R D y m d wz) (hW : W.heap.size ≤ w.heap.size) {x : Int} (hx : 0 ≤ x ∧ x ≤ 3000) : Acc A len cap zs W w g R D x m d (wz.setCell ⟨D, 0, none⟩ (.int .i64 x)) :=
  ⟨h.src.setCell h.dg (h.ww hW) _, only_setCell h.only (.inr h.dw) _, h.r.far h.rd _, by simpa using h.dt.set_ 0 _, h.rg, h.dg, h.rd, h.rw_, h.dw, hx, h.mb, h.db⟩
theorem Acc.set1 (h : Acc A len cap zs W w g R D y m d wz) (hW : W.heap.size ≤ w.heap.size) {x : Int} (hx : 0 ≤ x ∧ x ≤ 13) : Acc A len cap zs W w g R D y x d (wz.setCell ⟨D, 1, none⟩ (.int .i64 x)) :=
  ⟨h.src.setCell h.dg (h.ww hW) _, only_setCell h.only (.inr h.dw) _, h.r.far h.rd _, by simpa using h.dt.set_ 1 _, h.rg, h.dg, h.rd, h.rw_, h.dw, h.yb, hx, h.db⟩
theorem Acc.set2 (h : Acc A len cap zs W w g R D y m d wz) (hW : W.heap.size ≤ w.heap.size) {x : Int} (hx : 0 ≤ x ∧ x ≤ 40) : Acc A len cap zs W w g R D y m x (wz.setCell ⟨D, 2, none⟩ (.int .i64 x)) :=
  ⟨h.src.setCell h.dg (h.ww hW) _, only_setCell h.only (.inr h.dw) _, h.r.far h.rd _, by simpa using h.dt.set_ 2 _, h.rg, h.dg, h.rd, h.rw_, h.dw, h.yb, h.mb, hx⟩
/-- What the walk needs of the two blocks. -/
theorem Acc.cells (h : Acc A len cap zs W w g R D y m d wz) :
    (wz.cell? ⟨D, 0, none⟩ = some (.int .i64 y) ∧ wz.cell? ⟨D, 1, none⟩ = some (.int .i64 m) ∧ wz.cell? ⟨D, 2, none⟩ = some (.int .i64 d)) ∧
    (wz.frozen? ⟨D, 0, none⟩ = false ∧ wz.frozen? ⟨D, 1, none⟩ = false ∧ wz.frozen? ⟨D, 2, none⟩ = false) ∧
    (wz.cell? ⟨R, 0, none⟩ = some (.int .i64 0) ∧ wz.cell? ⟨R, 1, none⟩ = some (.int .i64 0) ∧ wz.cell? ⟨R, 2, none⟩ = some (.int .i64 0)) ∧
    (wz.frozen? ⟨R, 0, none⟩ = false ∧ wz.frozen? ⟨R, 1, none⟩ = false ∧ wz.frozen? ⟨R, 2, none⟩ = false) :=
  ⟨h.dt.three, ⟨h.dt.frozen 0, h.dt.frozen 1, h.dt.frozen 2⟩, h.r.three, ⟨h.r.frozen 0, h.r.frozen 1, h.r.frozen 2⟩⟩
end

/-- What a call leaves that draws a date. -/
def DrewDate (A : Option Addr) (len cap : Nat) (zs : List Int) (W w : World) (g : Nat) (e : Ending) (w' : World) : Prop :=
  ∃ y m d : Int, e = .returned (.agg #[.int .i64 y, .int .i64 m, .int .i64 d]) ∧ (0 ≤ y ∧ y ≤ 3000) ∧ (0 ≤ m ∧ m ≤ 13) ∧ (0 ≤ d ∧ d ≤ 40) ∧ Src A len cap zs W w' g ∧ w.grownBy w' (some g)

theorem Acc.fin {A : Option Addr} {len cap : Nat} {zs : List Int} {W w wz : World} {g R D : Nat} {y m d : Int} (h : Acc A len cap zs W w g R D y m d wz) (hW : W.heap.size ≤ w.heap.size) (a b c : Value) :
    DrewDate A len cap zs W w g (.returned (.agg #[.int .i64 y, .int .i64 m, .int .i64 d])) (((wz.setCell ⟨R, 0, none⟩ a).setCell ⟨R, 1, none⟩ b).setCell ⟨R, 2, none⟩ c) := by
  have hR := Nat.le_trans hW h.rw_
  exact ⟨y, m, d, rfl, h.yb, h.mb, h.db, ((h.src.setCell h.rg hR _).setCell h.rg hR _).setCell h.rg hR _, only_setCell (only_setCell (only_setCell h.only (.inr h.rw_) _) (.inr h.rw_) _) (.inr h.rw_) _⟩

end Go.Proofs.YtfhcakpmlppbkaaGreatDoor
