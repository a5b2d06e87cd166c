/- Contracts of spec's draws of chapter 8: made by gen_indd.py. -/
import Derived.Test.YtfienklaafialaaDraw5
import Derived.Test.YtfienklaafialaaIndA
namespace Go.Proofs.Ytfienklaafialaa.Ind
open Go.RowKit
open Go.Proofs.Ytfienklaafialaa.Eas (isY It)

def yearish (x : Int) : Prop := 0 ≤ x ∧ x ≤ 2001
set_option maxHeartbeats 1000000 in
theorem spec_drawYearI (A : Option Addr) (len cap : Nat) (zs : List Int) (W w : World) (g : Nat) (hs : Src A len cap zs W w g) :
    Calls Try.prog 67 #[.pointer (some ⟨g, 0, none⟩)] w (DrewP A len cap zs W w g yearish) := by
  have hl := hs.lt
  go_enter Try.func67, Try.ntmps67
  go_wp2_with fail
  refine (spec_next A len cap zs W _ g 20 hs).mono ?_
  rintro e w1 ⟨x1, rfl, a1, b1, s1, k1⟩
  clear b1
  by_cases h0 : x1 = 0
  · subst h0
    have z1 := k1.size
    go_wp2_with fail
    refine (spec_pick A len cap zs W _ g _ 6 _ [0, 1, 1582, 1583, 2000, 2001] yearish (s1.alloc _) (Blk.new _ _ _) (by omega) rfl (by omega) (by omega) (by simp [yearish])).mono ?_
    rintro e w2 ⟨x2, rfl, a2, s2, k2⟩
    go_wp2_with fail
    go_ret
    exact ⟨x2, rfl, a2, s2, (only_alloc k1 _).trans k2⟩
  · have e0 : (x1 == 0) = false := by simpa using h0
    clear h0
    go_wp2_with fail
    refine (spec_next A len cap zs W _ g 2000 s1).mono ?_
    rintro e w2 ⟨x2, rfl, a2, b2, s2, k2⟩
    have b3 : x2 < 2000 := by omega
    have HD := Lib.hid (show yearish (1 + x2) from ⟨by omega, by omega⟩)
    clear b2
    go_wp2_with fail
    go_ret
    exact ⟨1 + x2, rfl, HD.out, s2, k1.trans k2⟩

set_option maxHeartbeats 1000000 in
theorem spec_drawDayI (A : Option Addr) (len cap : Nat) (zs : List Int) (W w : World) (g : Nat) (hs : Src A len cap zs W w g) :
    Calls Try.prog 63 #[.pointer (some ⟨g, 0, none⟩)] w (DrewP A len cap zs W w g dayish) := by
  go_enter Try.func63, Try.ntmps63
  go_wp2_with fail
  refine (spec_next A len cap zs W _ g 24 hs).mono ?_
  rintro e w1 ⟨x1, rfl, a1, b1, s1, k1⟩
  clear b1
  by_cases h0 : x1 = 0
  · subst h0
    go_wp2_with fail
    refine (spec_drawDay A len cap zs W _ g s1).mono ?_
    rintro e w2 ⟨x2, rfl, a2, s2, k2⟩
    go_wp2_with fail
    go_ret
    exact ⟨x2, rfl, a2, s2, k1.trans k2⟩
  · have e0 : (x1 == 0) = false := by simpa using h0
    clear h0
    go_wp2_with fail
    refine (spec_next A len cap zs W _ g 12000 s1).mono ?_
    rintro e w2 ⟨x2, rfl, a2, b2, s2, k2⟩
    have HD := Lib.hid (show dayish (420000 + x2) from ⟨by omega, by omega⟩)
    have b3 : x2 < 12000 := by omega
    clear b2
    go_wp2_with fail
    go_ret
    exact ⟨_, rfl, HD.out, s2, k1.trans k2⟩
def kindish (x : Int) : Prop := -1 ≤ x ∧ x ≤ 3
set_option maxHeartbeats 1000000 in
theorem spec_drawKind (A : Option Addr) (len cap : Nat) (zs : List Int) (W w : World) (g : Nat) (hs : Src A len cap zs W w g) :
    Calls Try.prog 49 #[.pointer (some ⟨g, 0, none⟩)] w (DrewP A len cap zs W w g kindish) := by
  have hl := hs.lt
  go_enter Try.func49, Try.ntmps49
  go_wp2_with fail
  refine (spec_next A len cap zs W _ g 30 hs).mono ?_
  rintro e w1 ⟨x1, rfl, a1, b1, s1, k1⟩
  clear b1
  by_cases h0 : x1 = 0
  · subst h0
    have z1 := k1.size
    go_wp2_with fail
    refine (spec_pick A len cap zs W _ g _ 2 _ [-1, 3] kindish (s1.alloc _) (Blk.new _ _ _) (by omega) rfl (by omega) (by omega) (by simp [kindish])).mono ?_
    rintro e w2 ⟨x2, rfl, a2, s2, k2⟩
    go_wp2_with fail
    go_ret
    exact ⟨x2, rfl, a2, s2, (only_alloc k1 _).trans k2⟩
  · have e0 : (x1 == 0) = false := by simpa using h0
    clear h0
    go_wp2_with fail
    refine (spec_next A len cap zs W _ g 3 s1).mono ?_
    rintro e w2 ⟨x2, rfl, a2, b2, s2, k2⟩
    have HD := Lib.hid (show kindish x2 from ⟨by omega, by omega⟩)
    clear b2
    go_wp2_with fail
    go_ret
    exact ⟨x2, rfl, HD.out, s2, k1.trans k2⟩

/-- What draws leave that answer two numbers, and four. -/
def Drawn2I (w : World) (e : Ending) (w' : World) : Prop := ∃ k n : Int, e = .returned (.tuple #[.int .i64 k, .int .i64 n]) ∧ (-1 ≤ k ∧ k ≤ 3) ∧ (-1000 ≤ n ∧ n ≤ 1000000) ∧ Below w.heap.size w w'
def Drawn4I (w : World) (e : Ending) (w' : World) : Prop := ∃ k i f t : Int, e = .returned (.tuple #[.int .i64 k, .int .i64 i, .int .i64 f, .int .i64 t]) ∧ (-1 ≤ f ∧ f ≤ 730500) ∧ (-2 ≤ t ∧ t ≤ 800000) ∧ Below w.heap.size w w'

theorem spec_DrawIndictionOf (A : Option Addr) (len cap : Nat) (zs : List Int) (W w : World) (hrow : IsRow .u8 W A len cap zs) (hW : Below W.heap.size W w) :
    Calls Try.prog 20 #[.slice A len cap] w (DrawnP yearish w) := by
  go_enter Try.func20, Try.ntmps20
  go_wp2_with fail
  refine (spec_from A len cap zs W _ hrow hW).mono ?_
  rintro e w1 ⟨g, rfl, hg, hs, hb⟩
  go_wp2_with fail
  refine (spec_drawYearI A len cap zs W _ g hs).mono ?_
  rintro e w2 ⟨x, rfl, hx, s2, k2⟩
  go_wp2_with fail
  go_ret
  exact ⟨x, rfl, hx, hb.trans (only_below k2 hg hb.size)⟩
theorem spec_DrawMarkOf (A : Option Addr) (len cap : Nat) (zs : List Int) (W w : World) (hrow : IsRow .u8 W A len cap zs) (hW : Below W.heap.size W w) :
    Calls Try.prog 27 #[.slice A len cap] w (DrawnP yearish w) := by
  go_enter Try.func27, Try.ntmps27
  go_wp2_with fail
  refine (spec_from A len cap zs W _ hrow hW).mono ?_
  rintro e w1 ⟨g, rfl, hg, hs, hb⟩
  go_wp2_with fail
  refine (spec_drawYearI A len cap zs W _ g hs).mono ?_
  rintro e w2 ⟨x, rfl, hx, s2, k2⟩
  go_wp2_with fail
  go_ret
  exact ⟨x, rfl, hx, hb.trans (only_below k2 hg hb.size)⟩
set_option maxHeartbeats 2000000 in
theorem spec_DrawIndictionOn (A : Option Addr) (len cap : Nat) (zs : List Int) (W w : World) (hrow : IsRow .u8 W A len cap zs) (hW : Below W.heap.size W w) :
    Calls Try.prog 14 #[.slice A len cap] w (Drawn2I w) := by
  go_enter Try.func14, Try.ntmps14
  go_wp2_with fail
  refine (spec_from A len cap zs W _ hrow hW).mono ?_
  rintro e w1 ⟨g, rfl, hg, hs, hb⟩
  go_wp2_with fail
  refine (spec_drawKind A len cap zs W _ g hs).mono ?_
  rintro e w2 ⟨k, rfl, hk, s2, k2⟩
  go_wp2_with fail
  refine (spec_next A len cap zs W _ g 3 s2).mono ?_
  rintro e w3 ⟨x, rfl, x0, x1, s3, k3⟩
  replace k3 := k2.trans k3
  clear x1 s2 k2
  by_cases h0 : x = 0
  · subst h0
    go_wp2_with fail
    refine (spec_next A len cap zs W _ g 1999 s3).mono ?_
    rintro e w4 ⟨y, rfl, y0, y1, s4, k4⟩
    replace k4 := k3.trans k4
    have y2 : y ≤ 1998 := by omega
    have hl := s4.lt
    clear y1 s3 k3
    go_wp2_with fail
    refine (spec_pick A len cap zs W _ g _ 2 _ [1, 24] (fun x => 1 ≤ x ∧ x ≤ 24) (s4.alloc _) (Blk.new _ _ _) (by omega) rfl (by omega) (by omega) (by simp)).mono ?_
    rintro e w5 ⟨d, rfl, ⟨d0, d1⟩, s5, k5⟩
    replace k5 := (only_alloc k4 _).trans k5
    have NB := Fea.cums (1 + y)
    have YB := Fea.ys_old (1 + y)
    have hn : 0 ≤ Cal.num false (1 + y) 9 d ∧ Cal.num false (1 + y) 9 d ≤ 900000 := by
      have c := NB.2.2.2.2.2.1
      have hv : 0 ≤ (if Cal.lp false (1 + y) then (1 : Int) else 0) ∧ (if Cal.lp false (1 + y) then (1 : Int) else 0) ≤ 1 := by split <;> omega
      unfold Cal.num
      omega
    have NU := Lib.hid (fun w => Rei.spec_number_far (1 + y) 9 d (by omega) (by omega) (by omega) (by omega) (by omega) (by omega) w)
    generalize Cal.num false (1 + y) 9 d = n at *
    clear NB YB k4 s4
    go_wp2_with fail
    refine (NU.out _).mono ?_
    rintro e w6 ⟨rfl, hb6⟩
    have s6 := s5.below hb6
    have k6 := k5.trans (only_of_below hb6 (some g))
    clear k5 s5 hb6 NU
    go_wp2_with fail
    refine (spec_next A len cap zs W _ g 2 s6).mono ?_
    rintro e w7 ⟨z, rfl, z0, z1, s7, k7⟩
    have z2 : z ≤ 1 := by omega
    clear z1
    go_wp2_with fail
    go_ret2
    exact ⟨k, n - z, rfl, hk, ⟨by omega, by omega⟩, hb.trans (only_below (k6.trans k7) hg hb.size)⟩
  · have e0 : (x == 0) = false := by simpa using h0
    clear h0
    go_wp2_with fail
    refine (spec_drawDay A len cap zs W _ g s3).mono ?_
    rintro e w4 ⟨n, rfl, ⟨n0, n1⟩, s4, k4⟩
    go_wp2_with fail
    go_ret2
    exact ⟨k, n, rfl, hk, ⟨by omega, by omega⟩, hb.trans (only_below (k3.trans k4) hg hb.size)⟩
set_option maxHeartbeats 2000000 in
theorem spec_DrawIndictionDays (A : Option Addr) (len cap : Nat) (zs : List Int) (W w : World) (hrow : IsRow .u8 W A len cap zs) (hW : Below W.heap.size W w) :
    Calls Try.prog 17 #[.slice A len cap] w (Drawn4I w) := by
  go_enter Try.func17, Try.ntmps17
  go_wp2_with fail
  refine (spec_from A len cap zs W _ hrow hW).mono ?_
  rintro e w1 ⟨g, rfl, hg, hs, hb⟩
  go_wp2_with fail
  refine (spec_drawDayI A len cap zs W _ g hs).mono ?_
  rintro e w2 ⟨f, rfl, ⟨f0, f1⟩, s2, k2⟩
  go_wp2_with fail
  refine (spec_next A len cap zs W _ g 20 s2).mono ?_
  rintro e w3 ⟨x, rfl, x0, x1, s3, k3⟩
  replace k3 := k2.trans k3
  clear x1 s2 k2
  by_cases h0 : x = 0
  · subst h0
    go_wp2_with fail
    refine (spec_drawKind A len cap zs W _ g s3).mono ?_
    rintro e w4 ⟨k, rfl, hk, s4, k4⟩
    replace k4 := k3.trans k4
    have hl := s4.lt
    clear s3 k3
    go_wp2_with fail
    refine (spec_pick A len cap zs W _ g _ 4 _ [0, 1, 15, 16] (fun x => 0 ≤ x ∧ x ≤ 16) (s4.alloc _) (Blk.new _ _ _) (by omega) rfl (by omega) (by omega) (by simp)).mono ?_
    rintro e w5 ⟨i, rfl, hi, s5, k5⟩
    replace k5 := (only_alloc k4 _).trans k5
    have hl := s5.lt
    clear k4 s4
    go_wp2_with fail
    refine (spec_pick A len cap zs W _ g _ 4 _ [-1, 0, 40000, 40001] (fun x => -1 ≤ x ∧ x ≤ 40001) (s5.alloc _) (Blk.new _ _ _) (by omega) rfl (by omega) (by omega) (by simp)).mono ?_
    rintro e w6 ⟨d, rfl, ⟨d0, d1⟩, s6, k6⟩
    replace k6 := (only_alloc k5 _).trans k6
    clear k5 s5
    go_wp2_with fail
    refine bodyPost_ret (v := .tuple #[.int .i64 k, .int .i64 i, .int .i64 f, .int .i64 (f + d)]) (by simp [results, Try.results17, go_sem]) rfl ⟨k, i, f, f + d, rfl, ⟨by omega, by omega⟩, ⟨by omega, by omega⟩, hb.trans (only_below k6 hg hb.size)⟩
  · have e0 : (x == 0) = false := by simpa using h0
    clear h0
    go_wp2_with fail
    refine (spec_drawKind A len cap zs W _ g s3).mono ?_
    rintro e w4 ⟨k, rfl, hk, s4, k4⟩
    replace k4 := k3.trans k4
    clear s3 k3
    go_wp2_with fail
    refine (spec_next A len cap zs W _ g 15 s4).mono ?_
    rintro e w5 ⟨i, rfl, i0, i1, s5, k5⟩
    replace k5 := k4.trans k5
    have i2 : i ≤ 14 := by omega
    clear k4 s4 i1
    go_wp2_with fail
    refine (spec_next A len cap zs W _ g 12000 s5).mono ?_
    rintro e w6 ⟨d, rfl, d0, d1, s6, k6⟩
    replace k6 := k5.trans k6
    have d2 : d ≤ 11999 := by omega
    clear k5 s5 d1
    go_wp2_with fail
    refine bodyPost_ret (v := .tuple #[.int .i64 k, .int .i64 (1 + i), .int .i64 f, .int .i64 (f + d)]) (by simp [results, Try.results17, go_sem]) rfl ⟨k, 1 + i, f, f + d, rfl, ⟨by omega, by omega⟩, ⟨by omega, by omega⟩, hb.trans (only_below k6 hg hb.size)⟩

/-! ### marks -/
/-- While a mark is drawn: the source, the block R of the answer, the block D of the mark. -/
structure AcM (A : Option Addr) (len cap : Nat) (zs : List Int) (W w : World) (g R D : Nat) (a e c : Int) (wz : World) : Prop where
  src : Src A len cap zs W wz g
  only : w.grownBy wz (some g)
  r : Blk wz R 42 #[.int .i64 0, .int .i64 0, .int .i64 0]
  dt : Blk wz D 42 #[.int .i64 a, .int .i64 e, .int .i64 c]
  rg : R ≠ g
  dg : D ≠ g
  rd : R ≠ D
  rw_ : w.heap.size ≤ R
  dw : w.heap.size ≤ D
  ab : -2 ≤ a ∧ a ≤ 31
  eb : -2 ≤ e ∧ e ≤ 31
  cb : -2 ≤ c ∧ c ≤ 31
section
variable {A : Option Addr} {len cap : Nat} {zs : List Int} {W w wz w' : World} {g R D : Nat} {a e c : Int}
theorem AcM.call (h : AcM A len cap zs W w g R D a e c wz) (hs : Src A len cap zs W w' g) (hg : wz.grownBy w' (some g)) : AcM A len cap zs W w g R D a e c w' :=
  ⟨hs, h.only.trans hg, h.r.grown hg (fun e => h.rg (by injection e)), h.dt.grown hg (fun e => h.dg (by injection e)), h.rg, h.dg, h.rd, h.rw_, h.dw, h.ab, h.eb, h.cb⟩
theorem AcM.below (h : AcM A len cap zs W w g R D a e c wz) (hb : Below wz.heap.size wz w') : AcM A len cap zs W w g R D a e c w' :=
  ⟨h.src.below hb, h.only.trans (only_of_below hb _), h.r.below hb h.r.lt, h.dt.below hb h.dt.lt, h.rg, h.dg, h.rd, h.rw_, h.dw, h.ab, h.eb, h.cb⟩
theorem AcM.drewM (h : AcM A len cap zs W w g R D a e c wz) : AcM A len cap zs W w g R D a e c wz.drew := h.below (Below.refl _ _).drew
theorem AcM.alloc (h : AcM A len cap zs W w g R D a e c wz) (o : Obj) : AcM A len cap zs W w g R D a e c (wz.alloc o) := h.below ((Below.refl _ _).alloc (Nat.le_refl _) o)
theorem AcM.ww (h : AcM A len cap zs W w g R D a e c wz) (hW : W.heap.size ≤ w.heap.size) : W.heap.size ≤ D := Nat.le_trans hW h.dw
theorem AcM.set0 (h : AcM A len cap zs W w g R D a e c wz) (hW : W.heap.size ≤ w.heap.size) {x : Int} (hx : -2 ≤ x ∧ x ≤ 31) : AcM A len cap zs W w g R D x e c (wz.setCell ⟨D, 0, none⟩ (.int .i64 x)) :=
  ⟨h.src.setCell h.dg (h.ww hW) _, only_setCell h.only (.inr h.dw) _, h.r.far h.rd _, by simpa using h.dt.set_ 0 _, h.rg, h.dg, h.rd, h.rw_, h.dw, hx, h.eb, h.cb⟩
theorem AcM.set1 (h : AcM A len cap zs W w g R D a e c wz) (hW : W.heap.size ≤ w.heap.size) {x : Int} (hx : -2 ≤ x ∧ x ≤ 31) : AcM A len cap zs W w g R D a x c (wz.setCell ⟨D, 1, none⟩ (.int .i64 x)) :=
  ⟨h.src.setCell h.dg (h.ww hW) _, only_setCell h.only (.inr h.dw) _, h.r.far h.rd _, by simpa using h.dt.set_ 1 _, h.rg, h.dg, h.rd, h.rw_, h.dw, h.ab, hx, h.cb⟩
theorem AcM.set2 (h : AcM A len cap zs W w g R D a e c wz) (hW : W.heap.size ≤ w.heap.size) {x : Int} (hx : -2 ≤ x ∧ x ≤ 31) : AcM A len cap zs W w g R D a e x (wz.setCell ⟨D, 2, none⟩ (.int .i64 x)) :=
  ⟨h.src.setCell h.dg (h.ww hW) _, only_setCell h.only (.inr h.dw) _, h.r.far h.rd _, by simpa using h.dt.set_ 2 _, h.rg, h.dg, h.rd, h.rw_, h.dw, h.ab, h.eb, hx⟩
theorem AcM.cells (h : AcM A len cap zs W w g R D a e c wz) :
    (wz.cell? ⟨D, 0, none⟩ = some (.int .i64 a) ∧ wz.cell? ⟨D, 1, none⟩ = some (.int .i64 e) ∧ wz.cell? ⟨D, 2, none⟩ = some (.int .i64 c)) ∧
    (wz.frozen? ⟨D, 0, none⟩ = false ∧ wz.frozen? ⟨D, 1, none⟩ = false ∧ wz.frozen? ⟨D, 2, none⟩ = false) ∧
    (wz.cell? ⟨R, 0, none⟩ = some (.int .i64 0) ∧ wz.cell? ⟨R, 1, none⟩ = some (.int .i64 0) ∧ wz.cell? ⟨R, 2, none⟩ = some (.int .i64 0)) ∧
    (wz.frozen? ⟨R, 0, none⟩ = false ∧ wz.frozen? ⟨R, 1, none⟩ = false ∧ wz.frozen? ⟨R, 2, none⟩ = false) :=
  ⟨h.dt.three, ⟨h.dt.frozen 0, h.dt.frozen 1, h.dt.frozen 2⟩, h.r.three, ⟨h.r.frozen 0, h.r.frozen 1, h.r.frozen 2⟩⟩
theorem AcM.far (h : AcM A len cap zs W w g R D a e c wz) (x y z : Value) : (((wz.setCell ⟨R, 0, none⟩ x).setCell ⟨R, 1, none⟩ y).setCell ⟨R, 2, none⟩ z).cell? ⟨D, 0, none⟩ = some (.int .i64 a) ∧
    (((wz.setCell ⟨R, 0, none⟩ x).setCell ⟨R, 1, none⟩ y).setCell ⟨R, 2, none⟩ z).cell? ⟨D, 1, none⟩ = some (.int .i64 e) ∧ (((wz.setCell ⟨R, 0, none⟩ x).setCell ⟨R, 1, none⟩ y).setCell ⟨R, 2, none⟩ z).cell? ⟨D, 2, none⟩ = some (.int .i64 c) := by
  have q : ∀ (wq : World) (i k : Nat) (v : Value), (wq.setCell ⟨R, i, none⟩ v).cell? ⟨D, k, none⟩ = wq.cell? ⟨D, k, none⟩ := fun wq i k v => World.cell?_setCell_far _ _ _ _ h.rd
  refine ⟨?_, ?_, ?_⟩ <;> rw [q, q, q]
  · exact h.cells.1.1
  · exact h.cells.1.2.1
  · exact h.cells.1.2.2
theorem AcM.end_ (h : AcM A len cap zs W w g R D a e c wz) (hg : w.heap.size ≤ g) (x y z : Value) : Below w.heap.size w (((wz.setCell ⟨R, 0, none⟩ x).setCell ⟨R, 1, none⟩ y).setCell ⟨R, 2, none⟩ z) :=
  only_below (only_setCell (only_setCell (only_setCell h.only (.inr h.rw_) _) (.inr h.rw_) _) (.inr h.rw_) _) hg (Nat.le_refl _)
end
/-- What a call leaves that draws a mark. -/
def DrewM (A : Option Addr) (len cap : Nat) (zs : List Int) (W w : World) (g : Nat) (e9 : Ending) (w' : World) : Prop :=
  ∃ a e c : Int, e9 = .returned (mV a e c) ∧ (-2 ≤ a ∧ a ≤ 31) ∧ (-2 ≤ e ∧ e ≤ 31) ∧ (-2 ≤ c ∧ c ≤ 31) ∧ Src A len cap zs W w' g ∧ w.grownBy w' (some g)
theorem AcM.fin {A : Option Addr} {len cap : Nat} {zs : List Int} {W w wz : World} {g R D : Nat} {a e c : Int} (h : AcM A len cap zs W w g R D a e c wz) (hW : W.heap.size ≤ w.heap.size) {a' e' c' : Int} (ha : -2 ≤ a' ∧ a' ≤ 31) (he : -2 ≤ e' ∧ e' ≤ 31) (hc : -2 ≤ c' ∧ c' ≤ 31) (x y z : Value) :
    DrewM A len cap zs W w g (.returned (mV a' e' c')) (((wz.setCell ⟨R, 0, none⟩ x).setCell ⟨R, 1, none⟩ y).setCell ⟨R, 2, none⟩ z) := by
  have hR := Nat.le_trans hW h.rw_
  exact ⟨a', e', c', rfl, ha, he, hc, ((h.src.setCell h.rg hR _).setCell h.rg hR _).setCell h.rg hR _, only_setCell (only_setCell (only_setCell h.only (.inr h.rw_) _) (.inr h.rw_) _) (.inr h.rw_) _⟩
theorem ifN_bd (y : Int) : -2 ≤ ifN y ∧ ifN y ≤ 31 := by
  have := ind_bd y
  unfold ifN
  split <;> omega
theorem epN_bd (y : Int) : -2 ≤ epN y ∧ epN y ≤ 31 := by
  have := ep_bd y
  unfold epN
  split <;> omega
theorem coN_bd (y : Int) : -2 ≤ coN y ∧ coN y ≤ 31 := by
  have := con_bd y
  unfold coN
  split <;> omega

set_option maxRecDepth 100000 in
set_option maxHeartbeats 16000000 in
theorem spec_drawMark (A : Option Addr) (len cap : Nat) (zs : List Int) (W w : World) (g : Nat) (hs : Src A len cap zs W w g) (hW : W.heap.size ≤ w.heap.size) :
    Calls Try.prog 78 #[.pointer (some ⟨g, 0, none⟩)] w (DrewM A len cap zs W w g) := by
  have hl := hs.lt
  go_enter Try.func78, Try.ntmps78
  go_wp2_with fail
  refine (spec_next A len cap zs W _ g 2000 (hs.alloc _)).mono ?_
  rintro e9 w1 ⟨x1, rfl, a1, b1, s1, k1⟩
  have z1 := k1.size
  simp at z1
  have B1 : x1 ≤ 1999 := by omega
  clear b1
  have rg : w.heap.size ≠ g := by omega
  have R1 : Blk w1 w.heap.size 42 #[.int .i64 0, .int .i64 0, .int .i64 0] := (Blk.new w _ _).grown k1 (fun e => rg (by injection e))
  have K1 : w.grownBy w1 (some g) := (only_alloc (World.grownBy.refl w (some g)) _).trans k1
  clear k1
  have MK := Lib.hid (spec_MarkOf (1 + x1))
  have q1 := ifN_bd (1 + x1)
  have q2 := epN_bd (1 + x1)
  have q3 := coN_bd (1 + x1)
  generalize ifN (1 + x1) = a at *
  generalize epN (1 + x1) = e at *
  generalize coN (1 + x1) = c at *
  generalize yE (1 + x1) = E at *
  go_wp2_with fail
  refine (MK.out _).mono ?_
  rintro e9 w2 ⟨rfl, hb2⟩
  have z2 := hb2.size
  have l2 := s1.lt
  have hacc : AcM A len cap zs W w g w.heap.size w2.heap.size a e c (w2.alloc (.cells #[.int .i64 a, .int .i64 e, .int .i64 c] 42)) :=
    ⟨(s1.below hb2).alloc _, only_alloc (K1.trans (only_of_below hb2 _)) _, (R1.below hb2 R1.lt).alloc _, Blk.new _ _ _, rg, by omega, by omega, Nat.le_refl _, by omega, q1, q2, q3⟩
  clear K1 R1 s1 hb2 MK q1 q2 q3
  go_wp2_with fail
  refine (spec_next A len cap zs W _ g 2 hacc.src).mono ?_
  rintro e9 w3 ⟨x3, rfl, a3, b3, s3, k3⟩
  have acc := hacc.call s3 k3
  clear hacc s3 k3 b3
  generalize w2.heap.size = D at acc ⊢
  by_cases h3 : x3 = 0
  · subst h3
    obtain ⟨⟨d0, d1, d2⟩, ⟨f0, f1, f2⟩, _⟩ := acc.cells
    have acc3 := acc.set0 hW (x := 0) ⟨by omega, by omega⟩
    clear acc
    have acc := acc3
    clear acc3
    go_wp2_with fail
    refine (spec_next A len cap zs W _ g 3 acc.src).mono ?_
    rintro e9 w4 ⟨x4, rfl, a4, b4, s4, k4⟩
    replace acc := acc.call s4 k4
    clear s4 k4 b4
    by_cases h4 : x4 = 0
    · subst h4
      obtain ⟨⟨d0, d1, d2⟩, ⟨f0, f1, f2⟩, _⟩ := acc.cells
      have acc4 := acc.set1 hW (x := -1) ⟨by omega, by omega⟩
      clear acc
      have acc := acc4
      clear acc4
      go_wp2_with fail
      refine (spec_next A len cap zs W _ g 3 acc.src).mono ?_
      rintro e9 w5 ⟨x5, rfl, a5, b5, s5, k5⟩
      replace acc := acc.call s5 k5
      clear s5 k5 b5
      by_cases h5 : x5 = 0
      · subst h5
        go_wp2_with fail
        refine (spec_next A len cap zs W _ g 8 acc.src).mono ?_
        rintro e9 w6 ⟨x6, rfl, a6, b6, s6, k6⟩
        have acc6 := acc.call s6 k6
        obtain ⟨⟨d0, d1, d2⟩, ⟨f0, f1, f2⟩, _⟩ := acc6.cells
        have B6 : x6 ≤ 7 := by omega
        clear b6 s6 k6 acc
        have acc := acc6.set2 hW (x := x6) ⟨by omega, by omega⟩
        clear acc6
        go_wp2_with fail
        refine (spec_next A len cap zs W _ g 40 acc.src).mono ?_
        rintro e9 wa ⟨xa, rfl, aa, ba, sa, ka⟩
        replace acc := acc.call sa ka
        clear sa ka ba
        by_cases ha : xa = 0
        · subst ha
          have l1 := acc.src.lt
          go_wp2_with fail
          refine (spec_pick A len cap zs W _ g _ 3 _ [-1, 16, 5] (fun x => -2 ≤ x ∧ x ≤ 31) (acc.src.alloc _) (Blk.new _ _ _) (by omega) rfl (by omega) (by omega) (by simp)).mono ?_
          rintro e9 wb ⟨xb, rfl, pb, sb, kb⟩
          replace acc := (acc.alloc _).call sb kb
          have l1 := acc.src.lt
          clear sb kb
          go_wp2_with fail
          refine (spec_pick A len cap zs W _ g _ 3 _ [-2, 30, 5] (fun x => -2 ≤ x ∧ x ≤ 31) (acc.src.alloc _) (Blk.new _ _ _) (by omega) rfl (by omega) (by omega) (by simp)).mono ?_
          rintro e9 wc ⟨xc, rfl, pc, sc, kc⟩
          replace acc := (acc.alloc _).call sc kc
          have l1 := acc.src.lt
          clear sc kc
          go_wp2_with fail
          refine (spec_pick A len cap zs W _ g _ 2 _ [-1, 8] (fun x => -2 ≤ x ∧ x ≤ 31) (acc.src.alloc _) (Blk.new _ _ _) (by omega) rfl (by omega) (by omega) (by simp)).mono ?_
          rintro e9 wd ⟨xd, rfl, pd, sd, kd⟩
          replace acc := (acc.alloc _).call sd kd
          clear sd kd
          obtain ⟨_, _, ⟨p0, p1, p2⟩, ⟨q0, q1, q2⟩⟩ := acc.cells
          have FIN := Lib.hid (fun x y z => acc.fin hW pb pc pd x y z)
          clear acc pb pc pd
          go_wp2_with fail
          refine bodyPost_ret (v := mV xb xc xd) (by simp [mV, results, Try.results78, go_sem, p0, p1, p2]) rfl (FIN.out _ _ _)
        · have ea : (xa == 0) = false := by simpa using ha
          clear ha
          obtain ⟨⟨d0, d1, d2⟩, _, ⟨p0, p1, p2⟩, ⟨q0, q1, q2⟩⟩ := acc.cells
          have FIN := Lib.hid (fun x y z => acc.fin hW acc.ab acc.eb acc.cb x y z)
          clear acc
          go_wp2_with fail
          refine bodyPost_ret (v := mV 0 (-1) x6) (by simp [mV, results, Try.results78, go_sem, p0, p1, p2]) rfl (FIN.out _ _ _)
      · have e5 : (x5 == 0) = false := by simpa using h5
        clear h5
        go_wp2_with fail
        refine (spec_next A len cap zs W _ g 40 acc.src).mono ?_
        rintro e9 wa ⟨xa, rfl, aa, ba, sa, ka⟩
        replace acc := acc.call sa ka
        clear sa ka ba
        by_cases ha : xa = 0
        · subst ha
          have l1 := acc.src.lt
          go_wp2_with fail
          refine (spec_pick A len cap zs W _ g _ 3 _ [-1, 16, 5] (fun x => -2 ≤ x ∧ x ≤ 31) (acc.src.alloc _) (Blk.new _ _ _) (by omega) rfl (by omega) (by omega) (by simp)).mono ?_
          rintro e9 wb ⟨xb, rfl, pb, sb, kb⟩
          replace acc := (acc.alloc _).call sb kb
          have l1 := acc.src.lt
          clear sb kb
          go_wp2_with fail
          refine (spec_pick A len cap zs W _ g _ 3 _ [-2, 30, 5] (fun x => -2 ≤ x ∧ x ≤ 31) (acc.src.alloc _) (Blk.new _ _ _) (by omega) rfl (by omega) (by omega) (by simp)).mono ?_
          rintro e9 wc ⟨xc, rfl, pc, sc, kc⟩
          replace acc := (acc.alloc _).call sc kc
          have l1 := acc.src.lt
          clear sc kc
          go_wp2_with fail
          refine (spec_pick A len cap zs W _ g _ 2 _ [-1, 8] (fun x => -2 ≤ x ∧ x ≤ 31) (acc.src.alloc _) (Blk.new _ _ _) (by omega) rfl (by omega) (by omega) (by simp)).mono ?_
          rintro e9 wd ⟨xd, rfl, pd, sd, kd⟩
          replace acc := (acc.alloc _).call sd kd
          clear sd kd
          obtain ⟨_, _, ⟨p0, p1, p2⟩, ⟨q0, q1, q2⟩⟩ := acc.cells
          have FIN := Lib.hid (fun x y z => acc.fin hW pb pc pd x y z)
          clear acc pb pc pd
          go_wp2_with fail
          refine bodyPost_ret (v := mV xb xc xd) (by simp [mV, results, Try.results78, go_sem, p0, p1, p2]) rfl (FIN.out _ _ _)
        · have ea : (xa == 0) = false := by simpa using ha
          clear ha
          obtain ⟨⟨d0, d1, d2⟩, _, ⟨p0, p1, p2⟩, ⟨q0, q1, q2⟩⟩ := acc.cells
          have FIN := Lib.hid (fun x y z => acc.fin hW acc.ab acc.eb acc.cb x y z)
          clear acc
          go_wp2_with fail
          refine bodyPost_ret (v := mV 0 (-1) c) (by simp [mV, results, Try.results78, go_sem, p0, p1, p2]) rfl (FIN.out _ _ _)
    · have e4 : (x4 == 0) = false := by simpa using h4
      clear h4
      go_wp2_with fail
      refine (spec_next A len cap zs W _ g 3 acc.src).mono ?_
      rintro e9 w5 ⟨x5, rfl, a5, b5, s5, k5⟩
      replace acc := acc.call s5 k5
      clear s5 k5 b5
      by_cases h5 : x5 = 0
      · subst h5
        go_wp2_with fail
        refine (spec_next A len cap zs W _ g 8 acc.src).mono ?_
        rintro e9 w6 ⟨x6, rfl, a6, b6, s6, k6⟩
        have acc6 := acc.call s6 k6
        obtain ⟨⟨d0, d1, d2⟩, ⟨f0, f1, f2⟩, _⟩ := acc6.cells
        have B6 : x6 ≤ 7 := by omega
        clear b6 s6 k6 acc
        have acc := acc6.set2 hW (x := x6) ⟨by omega, by omega⟩
        clear acc6
        go_wp2_with fail
        refine (spec_next A len cap zs W _ g 40 acc.src).mono ?_
        rintro e9 wa ⟨xa, rfl, aa, ba, sa, ka⟩
        replace acc := acc.call sa ka
        clear sa ka ba
        by_cases ha : xa = 0
        · subst ha
          have l1 := acc.src.lt
          go_wp2_with fail
          refine (spec_pick A len cap zs W _ g _ 3 _ [-1, 16, 5] (fun x => -2 ≤ x ∧ x ≤ 31) (acc.src.alloc _) (Blk.new _ _ _) (by omega) rfl (by omega) (by omega) (by simp)).mono ?_
          rintro e9 wb ⟨xb, rfl, pb, sb, kb⟩
          replace acc := (acc.alloc _).call sb kb
          have l1 := acc.src.lt
          clear sb kb
          go_wp2_with fail
          refine (spec_pick A len cap zs W _ g _ 3 _ [-2, 30, 5] (fun x => -2 ≤ x ∧ x ≤ 31) (acc.src.alloc _) (Blk.new _ _ _) (by omega) rfl (by omega) (by omega) (by simp)).mono ?_
          rintro e9 wc ⟨xc, rfl, pc, sc, kc⟩
          replace acc := (acc.alloc _).call sc kc
          have l1 := acc.src.lt
          clear sc kc
          go_wp2_with fail
          refine (spec_pick A len cap zs W _ g _ 2 _ [-1, 8] (fun x => -2 ≤ x ∧ x ≤ 31) (acc.src.alloc _) (Blk.new _ _ _) (by omega) rfl (by omega) (by omega) (by simp)).mono ?_
          rintro e9 wd ⟨xd, rfl, pd, sd, kd⟩
          replace acc := (acc.alloc _).call sd kd
          clear sd kd
          obtain ⟨_, _, ⟨p0, p1, p2⟩, ⟨q0, q1, q2⟩⟩ := acc.cells
          have FIN := Lib.hid (fun x y z => acc.fin hW pb pc pd x y z)
          clear acc pb pc pd
          go_wp2_with fail
          refine bodyPost_ret (v := mV xb xc xd) (by simp [mV, results, Try.results78, go_sem, p0, p1, p2]) rfl (FIN.out _ _ _)
        · have ea : (xa == 0) = false := by simpa using ha
          clear ha
          obtain ⟨⟨d0, d1, d2⟩, _, ⟨p0, p1, p2⟩, ⟨q0, q1, q2⟩⟩ := acc.cells
          have FIN := Lib.hid (fun x y z => acc.fin hW acc.ab acc.eb acc.cb x y z)
          clear acc
          go_wp2_with fail
          refine bodyPost_ret (v := mV 0 e x6) (by simp [mV, results, Try.results78, go_sem, p0, p1, p2]) rfl (FIN.out _ _ _)
      · have e5 : (x5 == 0) = false := by simpa using h5
        clear h5
        go_wp2_with fail
        refine (spec_next A len cap zs W _ g 40 acc.src).mono ?_
        rintro e9 wa ⟨xa, rfl, aa, ba, sa, ka⟩
        replace acc := acc.call sa ka
        clear sa ka ba
        by_cases ha : xa = 0
        · subst ha
          have l1 := acc.src.lt
          go_wp2_with fail
          refine (spec_pick A len cap zs W _ g _ 3 _ [-1, 16, 5] (fun x => -2 ≤ x ∧ x ≤ 31) (acc.src.alloc _) (Blk.new _ _ _) (by omega) rfl (by omega) (by omega) (by simp)).mono ?_
          rintro e9 wb ⟨xb, rfl, pb, sb, kb⟩
          replace acc := (acc.alloc _).call sb kb
          have l1 := acc.src.lt
          clear sb kb
          go_wp2_with fail
          refine (spec_pick A len cap zs W _ g _ 3 _ [-2, 30, 5] (fun x => -2 ≤ x ∧ x ≤ 31) (acc.src.alloc _) (Blk.new _ _ _) (by omega) rfl (by omega) (by omega) (by simp)).mono ?_
          rintro e9 wc ⟨xc, rfl, pc, sc, kc⟩
          replace acc := (acc.alloc _).call sc kc
          have l1 := acc.src.lt
          clear sc kc
          go_wp2_with fail
          refine (spec_pick A len cap zs W _ g _ 2 _ [-1, 8] (fun x => -2 ≤ x ∧ x ≤ 31) (acc.src.alloc _) (Blk.new _ _ _) (by omega) rfl (by omega) (by omega) (by simp)).mono ?_
          rintro e9 wd ⟨xd, rfl, pd, sd, kd⟩
          replace acc := (acc.alloc _).call sd kd
          clear sd kd
          obtain ⟨_, _, ⟨p0, p1, p2⟩, ⟨q0, q1, q2⟩⟩ := acc.cells
          have FIN := Lib.hid (fun x y z => acc.fin hW pb pc pd x y z)
          clear acc pb pc pd
          go_wp2_with fail
          refine bodyPost_ret (v := mV xb xc xd) (by simp [mV, results, Try.results78, go_sem, p0, p1, p2]) rfl (FIN.out _ _ _)
        · have ea : (xa == 0) = false := by simpa using ha
          clear ha
          obtain ⟨⟨d0, d1, d2⟩, _, ⟨p0, p1, p2⟩, ⟨q0, q1, q2⟩⟩ := acc.cells
          have FIN := Lib.hid (fun x y z => acc.fin hW acc.ab acc.eb acc.cb x y z)
          clear acc
          go_wp2_with fail
          refine bodyPost_ret (v := mV 0 e c) (by simp [mV, results, Try.results78, go_sem, p0, p1, p2]) rfl (FIN.out _ _ _)
  · have e3 : (x3 == 0) = false := by simpa using h3
    clear h3
    go_wp2_with fail
    refine (spec_next A len cap zs W _ g 3 acc.src).mono ?_
    rintro e9 w4 ⟨x4, rfl, a4, b4, s4, k4⟩
    replace acc := acc.call s4 k4
    clear s4 k4 b4
    by_cases h4 : x4 = 0
    · subst h4
      obtain ⟨⟨d0, d1, d2⟩, ⟨f0, f1, f2⟩, _⟩ := acc.cells
      have acc4 := acc.set1 hW (x := -1) ⟨by omega, by omega⟩
      clear acc
      have acc := acc4
      clear acc4
      go_wp2_with fail
      refine (spec_next A len cap zs W _ g 3 acc.src).mono ?_
      rintro e9 w5 ⟨x5, rfl, a5, b5, s5, k5⟩
      replace acc := acc.call s5 k5
      clear s5 k5 b5
      by_cases h5 : x5 = 0
      · subst h5
        go_wp2_with fail
        refine (spec_next A len cap zs W _ g 8 acc.src).mono ?_
        rintro e9 w6 ⟨x6, rfl, a6, b6, s6, k6⟩
        have acc6 := acc.call s6 k6
        obtain ⟨⟨d0, d1, d2⟩, ⟨f0, f1, f2⟩, _⟩ := acc6.cells
        have B6 : x6 ≤ 7 := by omega
        clear b6 s6 k6 acc
        have acc := acc6.set2 hW (x := x6) ⟨by omega, by omega⟩
        clear acc6
        go_wp2_with fail
        refine (spec_next A len cap zs W _ g 40 acc.src).mono ?_
        rintro e9 wa ⟨xa, rfl, aa, ba, sa, ka⟩
        replace acc := acc.call sa ka
        clear sa ka ba
        by_cases ha : xa = 0
        · subst ha
          have l1 := acc.src.lt
          go_wp2_with fail
          refine (spec_pick A len cap zs W _ g _ 3 _ [-1, 16, 5] (fun x => -2 ≤ x ∧ x ≤ 31) (acc.src.alloc _) (Blk.new _ _ _) (by omega) rfl (by omega) (by omega) (by simp)).mono ?_
          rintro e9 wb ⟨xb, rfl, pb, sb, kb⟩
          replace acc := (acc.alloc _).call sb kb
          have l1 := acc.src.lt
          clear sb kb
          go_wp2_with fail
          refine (spec_pick A len cap zs W _ g _ 3 _ [-2, 30, 5] (fun x => -2 ≤ x ∧ x ≤ 31) (acc.src.alloc _) (Blk.new _ _ _) (by omega) rfl (by omega) (by omega) (by simp)).mono ?_
          rintro e9 wc ⟨xc, rfl, pc, sc, kc⟩
          replace acc := (acc.alloc _).call sc kc
          have l1 := acc.src.lt
          clear sc kc
          go_wp2_with fail
          refine (spec_pick A len cap zs W _ g _ 2 _ [-1, 8] (fun x => -2 ≤ x ∧ x ≤ 31) (acc.src.alloc _) (Blk.new _ _ _) (by omega) rfl (by omega) (by omega) (by simp)).mono ?_
          rintro e9 wd ⟨xd, rfl, pd, sd, kd⟩
          replace acc := (acc.alloc _).call sd kd
          clear sd kd
          obtain ⟨_, _, ⟨p0, p1, p2⟩, ⟨q0, q1, q2⟩⟩ := acc.cells
          have FIN := Lib.hid (fun x y z => acc.fin hW pb pc pd x y z)
          clear acc pb pc pd
          go_wp2_with fail
          refine bodyPost_ret (v := mV xb xc xd) (by simp [mV, results, Try.results78, go_sem, p0, p1, p2]) rfl (FIN.out _ _ _)
        · have ea : (xa == 0) = false := by simpa using ha
          clear ha
          obtain ⟨⟨d0, d1, d2⟩, _, ⟨p0, p1, p2⟩, ⟨q0, q1, q2⟩⟩ := acc.cells
          have FIN := Lib.hid (fun x y z => acc.fin hW acc.ab acc.eb acc.cb x y z)
          clear acc
          go_wp2_with fail
          refine bodyPost_ret (v := mV a (-1) x6) (by simp [mV, results, Try.results78, go_sem, p0, p1, p2]) rfl (FIN.out _ _ _)
      · have e5 : (x5 == 0) = false := by simpa using h5
        clear h5
        go_wp2_with fail
        refine (spec_next A len cap zs W _ g 40 acc.src).mono ?_
        rintro e9 wa ⟨xa, rfl, aa, ba, sa, ka⟩
        replace acc := acc.call sa ka
        clear sa ka ba
        by_cases ha : xa = 0
        · subst ha
          have l1 := acc.src.lt
          go_wp2_with fail
          refine (spec_pick A len cap zs W _ g _ 3 _ [-1, 16, 5] (fun x => -2 ≤ x ∧ x ≤ 31) (acc.src.alloc _) (Blk.new _ _ _) (by omega) rfl (by omega) (by omega) (by simp)).mono ?_
          rintro e9 wb ⟨xb, rfl, pb, sb, kb⟩
          replace acc := (acc.alloc _).call sb kb
          have l1 := acc.src.lt
          clear sb kb
          go_wp2_with fail
          refine (spec_pick A len cap zs W _ g _ 3 _ [-2, 30, 5] (fun x => -2 ≤ x ∧ x ≤ 31) (acc.src.alloc _) (Blk.new _ _ _) (by omega) rfl (by omega) (by omega) (by simp)).mono ?_
          rintro e9 wc ⟨xc, rfl, pc, sc, kc⟩
          replace acc := (acc.alloc _).call sc kc
          have l1 := acc.src.lt
          clear sc kc
          go_wp2_with fail
          refine (spec_pick A len cap zs W _ g _ 2 _ [-1, 8] (fun x => -2 ≤ x ∧ x ≤ 31) (acc.src.alloc _) (Blk.new _ _ _) (by omega) rfl (by omega) (by omega) (by simp)).mono ?_
          rintro e9 wd ⟨xd, rfl, pd, sd, kd⟩
          replace acc := (acc.alloc _).call sd kd
          clear sd kd
          obtain ⟨_, _, ⟨p0, p1, p2⟩, ⟨q0, q1, q2⟩⟩ := acc.cells
          have FIN := Lib.hid (fun x y z => acc.fin hW pb pc pd x y z)
          clear acc pb pc pd
          go_wp2_with fail
          refine bodyPost_ret (v := mV xb xc xd) (by simp [mV, results, Try.results78, go_sem, p0, p1, p2]) rfl (FIN.out _ _ _)
        · have ea : (xa == 0) = false := by simpa using ha
          clear ha
          obtain ⟨⟨d0, d1, d2⟩, _, ⟨p0, p1, p2⟩, ⟨q0, q1, q2⟩⟩ := acc.cells
          have FIN := Lib.hid (fun x y z => acc.fin hW acc.ab acc.eb acc.cb x y z)
          clear acc
          go_wp2_with fail
          refine bodyPost_ret (v := mV a (-1) c) (by simp [mV, results, Try.results78, go_sem, p0, p1, p2]) rfl (FIN.out _ _ _)
    · have e4 : (x4 == 0) = false := by simpa using h4
      clear h4
      go_wp2_with fail
      refine (spec_next A len cap zs W _ g 3 acc.src).mono ?_
      rintro e9 w5 ⟨x5, rfl, a5, b5, s5, k5⟩
      replace acc := acc.call s5 k5
      clear s5 k5 b5
      by_cases h5 : x5 = 0
      · subst h5
        go_wp2_with fail
        refine (spec_next A len cap zs W _ g 8 acc.src).mono ?_
        rintro e9 w6 ⟨x6, rfl, a6, b6, s6, k6⟩
        have acc6 := acc.call s6 k6
        obtain ⟨⟨d0, d1, d2⟩, ⟨f0, f1, f2⟩, _⟩ := acc6.cells
        have B6 : x6 ≤ 7 := by omega
        clear b6 s6 k6 acc
        have acc := acc6.set2 hW (x := x6) ⟨by omega, by omega⟩
        clear acc6
        go_wp2_with fail
        refine (spec_next A len cap zs W _ g 40 acc.src).mono ?_
        rintro e9 wa ⟨xa, rfl, aa, ba, sa, ka⟩
        replace acc := acc.call sa ka
        clear sa ka ba
        by_cases ha : xa = 0
        · subst ha
          have l1 := acc.src.lt
          go_wp2_with fail
          refine (spec_pick A len cap zs W _ g _ 3 _ [-1, 16, 5] (fun x => -2 ≤ x ∧ x ≤ 31) (acc.src.alloc _) (Blk.new _ _ _) (by omega) rfl (by omega) (by omega) (by simp)).mono ?_
          rintro e9 wb ⟨xb, rfl, pb, sb, kb⟩
          replace acc := (acc.alloc _).call sb kb
          have l1 := acc.src.lt
          clear sb kb
          go_wp2_with fail
          refine (spec_pick A len cap zs W _ g _ 3 _ [-2, 30, 5] (fun x => -2 ≤ x ∧ x ≤ 31) (acc.src.alloc _) (Blk.new _ _ _) (by omega) rfl (by omega) (by omega) (by simp)).mono ?_
          rintro e9 wc ⟨xc, rfl, pc, sc, kc⟩
          replace acc := (acc.alloc _).call sc kc
          have l1 := acc.src.lt
          clear sc kc
          go_wp2_with fail
          refine (spec_pick A len cap zs W _ g _ 2 _ [-1, 8] (fun x => -2 ≤ x ∧ x ≤ 31) (acc.src.alloc _) (Blk.new _ _ _) (by omega) rfl (by omega) (by omega) (by simp)).mono ?_
          rintro e9 wd ⟨xd, rfl, pd, sd, kd⟩
          replace acc := (acc.alloc _).call sd kd
          clear sd kd
          obtain ⟨_, _, ⟨p0, p1, p2⟩, ⟨q0, q1, q2⟩⟩ := acc.cells
          have FIN := Lib.hid (fun x y z => acc.fin hW pb pc pd x y z)
          clear acc pb pc pd
          go_wp2_with fail
          refine bodyPost_ret (v := mV xb xc xd) (by simp [mV, results, Try.results78, go_sem, p0, p1, p2]) rfl (FIN.out _ _ _)
        · have ea : (xa == 0) = false := by simpa using ha
          clear ha
          obtain ⟨⟨d0, d1, d2⟩, _, ⟨p0, p1, p2⟩, ⟨q0, q1, q2⟩⟩ := acc.cells
          have FIN := Lib.hid (fun x y z => acc.fin hW acc.ab acc.eb acc.cb x y z)
          clear acc
          go_wp2_with fail
          refine bodyPost_ret (v := mV a e x6) (by simp [mV, results, Try.results78, go_sem, p0, p1, p2]) rfl (FIN.out _ _ _)
      · have e5 : (x5 == 0) = false := by simpa using h5
        clear h5
        go_wp2_with fail
        refine (spec_next A len cap zs W _ g 40 acc.src).mono ?_
        rintro e9 wa ⟨xa, rfl, aa, ba, sa, ka⟩
        replace acc := acc.call sa ka
        clear sa ka ba
        by_cases ha : xa = 0
        · subst ha
          have l1 := acc.src.lt
          go_wp2_with fail
          refine (spec_pick A len cap zs W _ g _ 3 _ [-1, 16, 5] (fun x => -2 ≤ x ∧ x ≤ 31) (acc.src.alloc _) (Blk.new _ _ _) (by omega) rfl (by omega) (by omega) (by simp)).mono ?_
          rintro e9 wb ⟨xb, rfl, pb, sb, kb⟩
          replace acc := (acc.alloc _).call sb kb
          have l1 := acc.src.lt
          clear sb kb
          go_wp2_with fail
          refine (spec_pick A len cap zs W _ g _ 3 _ [-2, 30, 5] (fun x => -2 ≤ x ∧ x ≤ 31) (acc.src.alloc _) (Blk.new _ _ _) (by omega) rfl (by omega) (by omega) (by simp)).mono ?_
          rintro e9 wc ⟨xc, rfl, pc, sc, kc⟩
          replace acc := (acc.alloc _).call sc kc
          have l1 := acc.src.lt
          clear sc kc
          go_wp2_with fail
          refine (spec_pick A len cap zs W _ g _ 2 _ [-1, 8] (fun x => -2 ≤ x ∧ x ≤ 31) (acc.src.alloc _) (Blk.new _ _ _) (by omega) rfl (by omega) (by omega) (by simp)).mono ?_
          rintro e9 wd ⟨xd, rfl, pd, sd, kd⟩
          replace acc := (acc.alloc _).call sd kd
          clear sd kd
          obtain ⟨_, _, ⟨p0, p1, p2⟩, ⟨q0, q1, q2⟩⟩ := acc.cells
          have FIN := Lib.hid (fun x y z => acc.fin hW pb pc pd x y z)
          clear acc pb pc pd
          go_wp2_with fail
          refine bodyPost_ret (v := mV xb xc xd) (by simp [mV, results, Try.results78, go_sem, p0, p1, p2]) rfl (FIN.out _ _ _)
        · have ea : (xa == 0) = false := by simpa using ha
          clear ha
          obtain ⟨⟨d0, d1, d2⟩, _, ⟨p0, p1, p2⟩, ⟨q0, q1, q2⟩⟩ := acc.cells
          have FIN := Lib.hid (fun x y z => acc.fin hW acc.ab acc.eb acc.cb x y z)
          clear acc
          go_wp2_with fail
          refine bodyPost_ret (v := mV a e c) (by simp [mV, results, Try.results78, go_sem, p0, p1, p2]) rfl (FIN.out _ _ _)

/-- What a draw leaves that answers a mark and two numbers. -/
def DrawnMN (w : World) (e9 : Ending) (w' : World) : Prop := ∃ a e c f t : Int, e9 = .returned (.tuple #[mV a e c, .int .i64 f, .int .i64 t]) ∧ (-2 ≤ a ∧ a ≤ 31) ∧ (-2 ≤ e ∧ e ≤ 31) ∧ (-2 ≤ c ∧ c ≤ 31) ∧ (0 ≤ f ∧ f ≤ 2001) ∧ (-1 ≤ t ∧ t ≤ 3000) ∧ Below w.heap.size w w'
set_option maxRecDepth 100000 in
set_option maxHeartbeats 4000000 in
theorem spec_DrawYearsMarked (A : Option Addr) (len cap : Nat) (zs : List Int) (W w : World) (hrow : IsRow .u8 W A len cap zs) (hW : Below W.heap.size W w) :
    Calls Try.prog 34 #[.slice A len cap] w (DrawnMN w) := by
  have hWs := hW.size
  have S0 := (St.start w).alloc 42 #[.int .i64 0, .int .i64 0, .int .i64 0]
  go_enter Try.func34, Try.ntmps34
  go_wp2_with fail
  refine (spec_from A len cap zs W _ hrow (hW.alloc hWs _)).mono ?_
  rintro e9 w1 ⟨g, rfl, hg, s1, b1⟩
  have S1 := S0.call b1
  simp at hg
  have z1 := b1.size
  simp at z1
  go_wp2_with fail
  refine (spec_drawMark A len cap zs W _ g s1 (by omega)).mono ?_
  rintro e9 w2 ⟨a, e, c, rfl, qa, qe, qc, s2, k2⟩
  unfold mV
  have z2 := k2.size
  go_wp2_with fail
  refine (spec_drawYearI A len cap zs W _ g s2).mono ?_
  rintro e9 w3 ⟨f, rfl, ⟨f0, f1⟩, s3, k3⟩
  have z3 := k3.size
  have l3 := s3.lt
  have hacc : AcM A len cap zs W w g w.heap.size w3.heap.size a e c (w3.alloc (.cells #[.int .i64 a, .int .i64 e, .int .i64 c] 42)) :=
    ⟨s3.alloc _, only_alloc (((only_alloc (World.grownBy.refl w (some g)) _).trans ((only_of_below b1 _).trans k2)).trans k3) _, ((S1.b0.grown k2 (fun e => by injection e; omega)).grown k3 (fun e => by injection e; omega)).alloc _, Blk.new _ _ _, by omega, by omega, by omega, Nat.le_refl _, by omega, qa, qe, qc⟩
  clear b1 S0 s1 S1 k2 s2 k3 s3 hrow hW
  have acc := hacc.drewM
  have hg' : w.heap.size ≤ g := by omega
  go_wp2_with fail
  go_region_held3 (fun w' => w'.cell? ⟨w3.heap.size, 0, none⟩ = some (.int .i64 a) ∧ w'.cell? ⟨w3.heap.size, 1, none⟩ = some (.int .i64 e) ∧ w'.cell? ⟨w3.heap.size, 2, none⟩ = some (.int .i64 c))
    (first | with_reducible exact acc.cells.1 | with_reducible exact acc8.cells.1 | with_reducible exact (acc8.alloc _).cells.1 | with_reducible exact acc9.cells.1 | exact acc9.far _ _ _)
    (first
      | (go_at_call 50; refine (spec_next A len cap zs W _ g 300 acc.src).mono ?_; rintro e9 w8 ⟨x8, rfl, a8, b8, s8, k8⟩; have B8 : x8 ≤ 299 := (by omega); have acc8 := acc.call s8 k8; have l8 := acc8.src.lt; clear b8)
      | (go_at_call 52; refine (spec_pick A len cap zs W _ g _ 5 _ [x8, 600, 601, -1, 532] (fun x => -1 ≤ x ∧ x ≤ 601) (acc8.src.alloc _) (Blk.new _ _ _) (by omega) rfl (by omega) (by omega) (by intro y hy; simp at hy; omega)).mono ?_; rintro e9 w9 ⟨x9, rfl, ⟨a9, b9⟩, s9, k9⟩; have acc9 := (acc8.alloc (.cells #[.int .i64 x8, .int .i64 600, .int .i64 601, .int .i64 (-1), .int .i64 532] 2)).call s9 k9; obtain ⟨_, _, ⟨p0, p1, p2⟩, ⟨q0, q1, q2⟩⟩ := acc9.cells; have w1x : IntKind.i64.wrap (f + x9) = f + x9 := IntWalk.i64_in _ ⟨by omega, by omega⟩))
  have FIN := Lib.hid (fun x y z => acc9.end_ hg' x y z)
  clear acc9 acc8 acc hacc s9 k9 s8 k8
  go_wp2_with fail
  refine bodyPost_ret (v := .tuple #[mV a e c, .int .i64 f, .int .i64 (f + x9)]) (by simp [mV, results, Try.results34, go_sem, p0, p1, p2]) rfl ⟨a, e, c, f, f + x9, rfl, qa, qe, qc, ⟨f0, f1⟩, ⟨by omega, by omega⟩, FIN.out _ _ _⟩

end Go.Proofs.Ytfienklaafialaa.Ind
