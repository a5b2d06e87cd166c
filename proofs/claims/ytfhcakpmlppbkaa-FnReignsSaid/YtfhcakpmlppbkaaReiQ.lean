/- Contracts of spec's draw of a reign and of the draws of a reign and a number: made by gen_reip.py. -/
import Derived.Test.YtfhcakpmlppbkaaReiP
import Derived.Test.YtfhcakpmlppbkaaReiB
namespace Go.Proofs.Ytfhcakpmlppbkaa.Rei
open Go.RowKit

/-- While a reign is drawn: the source, the block R of the answer, the block D of the reign. -/
structure AcR (A : Option Addr) (len cap : Nat) (zs : List Int) (W w : World) (g R D : Nat) (s : ByteArray) (f t : Int) (wz : World) : Prop where
  src : Src A len cap zs W wz g
  only : w.grownBy wz (some g)
  r : Blk wz R 25 #[.string ⟨#[]⟩, .int .i64 0, .int .i64 0]
  dt : Blk wz D 25 #[.string s, .int .i64 f, .int .i64 t]
  rg : R ≠ g
  dg : D ≠ g
  rd : R ≠ D
  rw_ : w.heap.size ≤ R
  dw : w.heap.size ≤ D
  sb : s.size ≤ 13
  fb : 0 ≤ f ∧ f ≤ 440000
  tb : -1 ≤ t ∧ t ≤ 730500
section
variable {A : Option Addr} {len cap : Nat} {zs : List Int} {W w wz w' : World} {g R D : Nat} {s : ByteArray} {f t : Int}
theorem AcR.call (h : AcR A len cap zs W w g R D s f t wz) (hs : Src A len cap zs W w' g) (hg : wz.grownBy w' (some g)) : AcR A len cap zs W w g R D s f t w' :=
  ⟨hs, h.only.trans hg, h.r.grown hg (fun e => h.rg (by injection e)), h.dt.grown hg (fun e => h.dg (by injection e)), h.rg, h.dg, h.rd, h.rw_, h.dw, h.sb, h.fb, h.tb⟩
theorem AcR.alloc (h : AcR A len cap zs W w g R D s f t wz) (o : Obj) : AcR A len cap zs W w g R D s f t (wz.alloc o) :=
  ⟨h.src.alloc o, only_alloc h.only o, h.r.alloc o, h.dt.alloc o, h.rg, h.dg, h.rd, h.rw_, h.dw, h.sb, h.fb, h.tb⟩
theorem AcR.ww (h : AcR A len cap zs W w g R D s f t wz) (hW : W.heap.size ≤ w.heap.size) : W.heap.size ≤ D := Nat.le_trans hW h.dw
theorem AcR.set0 (h : AcR A len cap zs W w g R D s f t wz) (hW : W.heap.size ≤ w.heap.size) {x : ByteArray} (hx : x.size ≤ 13) : AcR A len cap zs W w g R D x f t (wz.setCell ⟨D, 0, none⟩ (.string x)) :=
  ⟨h.src.setCell h.dg (h.ww hW) _, only_setCell h.only (.inr h.dw) _, h.r.far h.rd _, by simpa using h.dt.set_ 0 _, h.rg, h.dg, h.rd, h.rw_, h.dw, hx, h.fb, h.tb⟩
theorem AcR.set2 (h : AcR A len cap zs W w g R D s f t wz) (hW : W.heap.size ≤ w.heap.size) {x : Int} (hx : -1 ≤ x ∧ x ≤ 730500) : AcR A len cap zs W w g R D s f x (wz.setCell ⟨D, 2, none⟩ (.int .i64 x)) :=
  ⟨h.src.setCell h.dg (h.ww hW) _, only_setCell h.only (.inr h.dw) _, h.r.far h.rd _, by simpa using h.dt.set_ 2 _, h.rg, h.dg, h.rd, h.rw_, h.dw, h.sb, h.fb, hx⟩
theorem AcR.cells (h : AcR A len cap zs W w g R D s f t wz) :
    (wz.cell? ⟨D, 0, none⟩ = some (.string s) ∧ wz.cell? ⟨D, 1, none⟩ = some (.int .i64 f) ∧ wz.cell? ⟨D, 2, none⟩ = some (.int .i64 t)) ∧
    (wz.frozen? ⟨D, 0, none⟩ = false ∧ wz.frozen? ⟨D, 1, none⟩ = false ∧ wz.frozen? ⟨D, 2, none⟩ = false) ∧
    (wz.cell? ⟨R, 0, none⟩ = some (.string ⟨#[]⟩) ∧ wz.cell? ⟨R, 1, none⟩ = some (.int .i64 0) ∧ wz.cell? ⟨R, 2, none⟩ = some (.int .i64 0)) ∧
    (wz.frozen? ⟨R, 0, none⟩ = false ∧ wz.frozen? ⟨R, 1, none⟩ = false ∧ wz.frozen? ⟨R, 2, none⟩ = false) :=
  ⟨h.dt.three, ⟨h.dt.frozen 0, h.dt.frozen 1, h.dt.frozen 2⟩, h.r.three, ⟨h.r.frozen 0, h.r.frozen 1, h.r.frozen 2⟩⟩
end

/-- What a call leaves that draws a reign. -/
def DrewR (A : Option Addr) (len cap : Nat) (zs : List Int) (W w : World) (g : Nat) (e : Ending) (w' : World) : Prop :=
  ∃ (s : ByteArray) (f t : Int), e = .returned (rV s f t) ∧ s.size ≤ 13 ∧ (0 ≤ f ∧ f ≤ 440000) ∧ (-1 ≤ t ∧ t ≤ 730500) ∧ Src A len cap zs W w' g ∧ w.grownBy w' (some g)
theorem AcR.fin {A : Option Addr} {len cap : Nat} {zs : List Int} {W w wz : World} {g R D : Nat} {s : ByteArray} {f t : Int} (h : AcR A len cap zs W w g R D s f t wz) (hW : W.heap.size ≤ w.heap.size) (a b c : Value) :
    DrewR A len cap zs W w g (.returned (rV s f t)) (((wz.setCell ⟨R, 0, none⟩ a).setCell ⟨R, 1, none⟩ b).setCell ⟨R, 2, none⟩ c) := by
  have hR := Nat.le_trans hW h.rw_
  exact ⟨s, f, t, rfl, h.sb, h.fb, h.tb, ((h.src.setCell h.rg hR _).setCell h.rg hR _).setCell h.rg hR _, only_setCell (only_setCell (only_setCell h.only (.inr h.rw_) _) (.inr h.rw_) _) (.inr h.rw_) _⟩
def kvV : Array Value := #[.string ⟨#[]⟩, .string ⟨#[65, 100, 97, 109]⟩, .string ⟨#[97, 98, 99, 100, 101, 102, 103, 104, 105, 106, 107, 108, 109]⟩]
theorem kvV_get (j : Nat) (h : j < 3) : ∃ s : ByteArray, kvV[j]? = some (.string s) ∧ s.size ≤ 13 := by
  have : j = 0 ∨ j = 1 ∨ j = 2 := by omega
  rcases this with rfl | rfl | rfl
  · exact ⟨_, rfl, by decide⟩
  · exact ⟨_, rfl, by decide⟩
  · exact ⟨_, rfl, by decide⟩

set_option maxRecDepth 100000 in
set_option maxHeartbeats 8000000 in
theorem spec_drawReign (A : Option Addr) (len cap : Nat) (zs : List Int) (W w : World) (g : Nat) (hs : Src A len cap zs W w g) (hW : W.heap.size ≤ w.heap.size) :
    Calls Try.prog 45 #[.pointer (some ⟨g, 0, none⟩)] w (DrewR A len cap zs W w g) := by
  have hl := hs.lt
  go_enter Try.func45, Try.ntmps45
  go_wp2_with fail
  refine (spec_next A len cap zs W _ g 6000 (hs.alloc _)).mono ?_
  rintro e w1 ⟨x1, rfl, a1, b1, s1, k1⟩
  have z1 := k1.size
  simp at z1
  have B1 : x1 ≤ 5999 := by omega
  clear b1
  have rg : w.heap.size ≠ g := by omega
  have R1 : Blk w1 w.heap.size 25 #[.string ⟨#[]⟩, .int .i64 0, .int .i64 0] := (Blk.new w _ _).grown k1 (fun e => rg (by injection e))
  have K1 : w.grownBy w1 (some g) := (only_alloc (World.grownBy.refl w (some g)) _).trans k1
  clear k1
  go_wp2_with fail
  refine (spec_next A len cap zs W _ g 6 s1).mono ?_
  rintro e w2 ⟨x2, rfl, a2, b2, s2, k2⟩
  have z2 := k2.size
  have R2 := R1.grown k2 (fun e => rg (by injection e))
  have K2 := K1.trans k2
  clear b2 k2 R1 K1 s1
  by_cases h0 : x2 = 0
  · subst h0
    go_wp2_with fail
    refine (spec_next A len cap zs W _ g 6 s2).mono ?_
    rintro e w3 ⟨x3, rfl, a3, b3, s3, k3⟩
    have z3 := k3.size
    have B3 : x3 ≤ 5 := by omega
    have hv := Fea.fixed_valid (1160 + 4 * x3) 2 28 ⟨by omega, by omega⟩ (by omega) (by omega) (by omega) (by omega)
    obtain ⟨f, hf⟩ : ∃ f, Cal.num false (1160 + 4 * x3) 2 29 = f := ⟨_, rfl⟩
    have F : 0 ≤ f ∧ f ≤ 440000 := by
      have h1 := Cal.num_in false hv
      have h2 : Cal.num false (1160 + 4 * x3) 2 29 = Cal.num false (1160 + 4 * x3) 2 28 + 1 := by unfold Cal.num; omega
      have h3 := Cal.ys_mono false 1 (1160 + 4 * x3) (by omega)
      have h4 := Cal.ys_mono false (1160 + 4 * x3 + 1) 1200 (by omega)
      rw [Fea.ys_old] at h1 h3 h4
      rw [Fea.ys_old] at h1 h3 h4
      omega
    have NU := Lib.hid (fun w => spec_number_far (1160 + 4 * x3) 2 29 (by omega) (by omega) (by omega) (by omega) (by omega) (by omega) w)
    rw [hf] at NU
    have R3 := R2.grown k3 (fun e => rg (by injection e))
    have K3 := K2.trans k3
    clear b3 k3 R2 K2 s2 hv hf
    go_wp2_with fail
    refine (NU.out _).mono ?_
    rintro e w4 ⟨rfl, hb4⟩
    have z4 := hb4.size
    have s4 := s3.below hb4
    have R4 := R3.below hb4 R3.lt
    have K4 := K3.trans (only_of_below hb4 (some g))
    obtain ⟨F0, F1⟩ := F
    clear R3 K3 s3 hb4 NU
    go_wp2_with fail
    refine (spec_drawKing A len cap zs W _ g s4).mono ?_
    rintro e w5 ⟨s, rfl, hs5, s5, k5⟩
    have z5 := k5.size
    have R5 := R4.grown k5 (fun e => rg (by injection e))
    have K5 := K4.trans k5
    have l5 := s5.lt
    clear R4 K4 s4 k5
    go_wp2_with fail
    refine (spec_pick A len cap zs W _ g _ 3 _ [100, 3000, 9000] (fun x => 0 ≤ x ∧ x ≤ 9000) (s5.alloc _) (Blk.new _ _ _) (by omega) rfl (by omega) (by omega) (by simp)).mono ?_
    rintro e w6 ⟨x6, rfl, ⟨a6, b6⟩, s6, k6⟩
    have z6 := k6.size
    simp at z6
    have R6 := (R5.alloc _).grown k6 (fun e => rg (by injection e))
    have K6 := (only_alloc K5 _).trans k6
    clear R5 K5 s5 k6
    go_wp2_with fail
    refine (spec_next A len cap zs W _ g x6 s6).mono ?_
    rintro e w7 ⟨x7, rfl, a7, b7, s7, k7⟩
    have z7 := k7.size
    have B7 : x7 ≤ 9000 := by omega
    have R7 := R6.grown k7 (fun e => rg (by injection e))
    have K7 := K6.trans k7
    have l7 := s7.lt
    have hacc : AcR A len cap zs W w g w.heap.size w7.heap.size s f (f + x7) (w7.alloc (.cells #[.string s, .int .i64 (f), .int .i64 (f + x7)] 25)) :=
      ⟨s7.alloc _, only_alloc K7 _, R7.alloc _, Blk.new _ _ _, rg, by omega, by omega, Nat.le_refl _, by omega, hs5, ⟨by omega, by omega⟩, ⟨by omega, by omega⟩⟩
    clear R6 K6 s6 k7 R7 K7 s7 b7
    go_wp2_with fail
    refine (spec_next A len cap zs W _ g 60 hacc.src).mono ?_
    rintro e w8 ⟨x8, rfl, a8, b8, s8, k8⟩
    have acc8 := hacc.call s8 k8
    have B8 : x8 ≤ 59 := by omega
    clear hacc s8 k8 b8
    generalize w7.heap.size = D at acc8 ⊢
    by_cases h8 : x8 = 0
    · subst h8
      obtain ⟨⟨c0, c1, c2⟩, ⟨f0, f1, f2⟩, _⟩ := acc8.cells
      have l8 := acc8.src.lt
      have y8 := World.block_lt_of_cell? _ _ c0
      go_wp2_with fail
      refine (spec_pick A len cap zs W _ g _ 3 _ [f - 1, 730499, 730500] (fun x => -1 ≤ x ∧ x ≤ 730500) (acc8.src.alloc _) (Blk.new _ _ _) (by omega) rfl (by omega) (by omega) (by intro y hy; simp at hy; omega)).mono ?_
      rintro e w9 ⟨x9, rfl, a9, s9, k9⟩
      have acc9 := (acc8.alloc _).call s9 k9
      clear acc8 s9 k9 c0 c1 c2 f0 f1 f2
      obtain ⟨⟨c0, c1, c2⟩, ⟨f0, f1, f2⟩, _⟩ := acc9.cells
      have acc := acc9.set2 hW a9
      obtain ⟨⟨d0, d1, d2⟩, _, ⟨p0, p1, p2⟩, ⟨q0, q1, q2⟩⟩ := acc.cells
      have FIN := Lib.hid (fun a b c => acc.fin hW a b c)
      clear acc acc9
      go_wp2_with fail
      refine bodyPost_ret (v := rV s (f) x9) (by simp [rV, results, Try.results45, go_sem, p0, p1, p2]) rfl (FIN.out _ _ _)
    by_cases h9 : x8 = 1
    · subst h9
      have l8 := acc8.src.lt
      have q8 := Blk.new w8 9 kvV
      go_wp2_with fail
      refine (spec_next A len cap zs W _ g 3 (acc8.src.alloc _)).mono ?_
      rintro e w9 ⟨x9, rfl, a9, b9, s9, k9⟩
      have acc9 := (acc8.alloc _).call s9 k9
      obtain ⟨j, rfl⟩ : ∃ j : Nat, x9 = j := ⟨x9.toNat, by omega⟩
      obtain ⟨s', hs', hz'⟩ := kvV_get j (by omega)
      have hj : (j : Int) < 3 := by omega
      have c9 : w9.cell? ⟨w8.heap.size, j, none⟩ = some (.string s') := ((q8.grown k9 (fun e => by injection e; omega)).cell j).trans hs'
      obtain ⟨⟨c0, c1, c2⟩, ⟨f0, f1, f2⟩, _⟩ := acc9.cells
      have acc := acc9.set0 hW hz'
      obtain ⟨⟨d0, d1, d2⟩, _, ⟨p0, p1, p2⟩, ⟨q0, q1, q2⟩⟩ := acc.cells
      have FIN := Lib.hid (fun a b c => acc.fin hW a b c)
      clear acc acc9 acc8 s9 k9 q8 hs' b9
      go_wp2_with fail
      refine bodyPost_ret (v := rV s' (f) (f + x7)) (by simp [rV, results, Try.results45, go_sem, p0, p1, p2]) rfl (FIN.out _ _ _)
    · have e8 : (x8 == 0) = false := by simpa using h8
      have e9 : (x8 == 1) = false := by simpa using h9
      obtain ⟨⟨d0, d1, d2⟩, _, ⟨p0, p1, p2⟩, ⟨q0, q1, q2⟩⟩ := acc8.cells
      have FIN := Lib.hid (fun a b c => acc8.fin hW a b c)
      clear acc8 h8 h9
      go_wp2_with fail
      refine bodyPost_ret (v := rV s (f) (f + x7)) (by simp [rV, results, Try.results45, go_sem, p0, p1, p2]) rfl (FIN.out _ _ _)
  · have e0 : (x2 == 0) = false := by simpa using h0
    obtain ⟨f, hf⟩ : ∃ f, 420000 + x1 = f := ⟨_, rfl⟩
    have F0 : 0 ≤ f := by omega
    have F1 : f ≤ 440000 := by omega
    clear h0
    have HFF := Lib.hid hf
    clear HFF
    subst hf
    go_wp2_with fail
    refine (spec_drawKing A len cap zs W _ g s2).mono ?_
    rintro e w5 ⟨s, rfl, hs5, s5, k5⟩
    have z5 := k5.size
    have R5 := R2.grown k5 (fun e => rg (by injection e))
    have K5 := K2.trans k5
    have l5 := s5.lt
    clear R2 K2 s2 k5
    go_wp2_with fail
    refine (spec_pick A len cap zs W _ g _ 3 _ [100, 3000, 9000] (fun x => 0 ≤ x ∧ x ≤ 9000) (s5.alloc _) (Blk.new _ _ _) (by omega) rfl (by omega) (by omega) (by simp)).mono ?_
    rintro e w6 ⟨x6, rfl, ⟨a6, b6⟩, s6, k6⟩
    have z6 := k6.size
    simp at z6
    have R6 := (R5.alloc _).grown k6 (fun e => rg (by injection e))
    have K6 := (only_alloc K5 _).trans k6
    clear R5 K5 s5 k6
    go_wp2_with fail
    refine (spec_next A len cap zs W _ g x6 s6).mono ?_
    rintro e w7 ⟨x7, rfl, a7, b7, s7, k7⟩
    have z7 := k7.size
    have B7 : x7 ≤ 9000 := by omega
    have R7 := R6.grown k7 (fun e => rg (by injection e))
    have K7 := K6.trans k7
    have l7 := s7.lt
    have hacc : AcR A len cap zs W w g w.heap.size w7.heap.size s (420000 + x1) ((420000 + x1) + x7) (w7.alloc (.cells #[.string s, .int .i64 ((420000 + x1)), .int .i64 ((420000 + x1) + x7)] 25)) :=
      ⟨s7.alloc _, only_alloc K7 _, R7.alloc _, Blk.new _ _ _, rg, by omega, by omega, Nat.le_refl _, by omega, hs5, ⟨by omega, by omega⟩, ⟨by omega, by omega⟩⟩
    clear R6 K6 s6 k7 R7 K7 s7 b7
    go_wp2_with fail
    refine (spec_next A len cap zs W _ g 60 hacc.src).mono ?_
    rintro e w8 ⟨x8, rfl, a8, b8, s8, k8⟩
    have acc8 := hacc.call s8 k8
    have B8 : x8 ≤ 59 := by omega
    clear hacc s8 k8 b8
    generalize w7.heap.size = D at acc8 ⊢
    by_cases h8 : x8 = 0
    · subst h8
      obtain ⟨⟨c0, c1, c2⟩, ⟨f0, f1, f2⟩, _⟩ := acc8.cells
      have l8 := acc8.src.lt
      have y8 := World.block_lt_of_cell? _ _ c0
      go_wp2_with fail
      refine (spec_pick A len cap zs W _ g _ 3 _ [(420000 + x1) - 1, 730499, 730500] (fun x => -1 ≤ x ∧ x ≤ 730500) (acc8.src.alloc _) (Blk.new _ _ _) (by omega) rfl (by omega) (by omega) (by intro y hy; simp at hy; omega)).mono ?_
      rintro e w9 ⟨x9, rfl, a9, s9, k9⟩
      have acc9 := (acc8.alloc _).call s9 k9
      clear acc8 s9 k9 c0 c1 c2 f0 f1 f2
      obtain ⟨⟨c0, c1, c2⟩, ⟨f0, f1, f2⟩, _⟩ := acc9.cells
      have acc := acc9.set2 hW a9
      obtain ⟨⟨d0, d1, d2⟩, _, ⟨p0, p1, p2⟩, ⟨q0, q1, q2⟩⟩ := acc.cells
      have FIN := Lib.hid (fun a b c => acc.fin hW a b c)
      clear acc acc9
      go_wp2_with fail
      refine bodyPost_ret (v := rV s ((420000 + x1)) x9) (by simp [rV, results, Try.results45, go_sem, p0, p1, p2]) rfl (FIN.out _ _ _)
    by_cases h9 : x8 = 1
    · subst h9
      have l8 := acc8.src.lt
      have q8 := Blk.new w8 9 kvV
      go_wp2_with fail
      refine (spec_next A len cap zs W _ g 3 (acc8.src.alloc _)).mono ?_
      rintro e w9 ⟨x9, rfl, a9, b9, s9, k9⟩
      have acc9 := (acc8.alloc _).call s9 k9
      obtain ⟨j, rfl⟩ : ∃ j : Nat, x9 = j := ⟨x9.toNat, by omega⟩
      obtain ⟨s', hs', hz'⟩ := kvV_get j (by omega)
      have hj : (j : Int) < 3 := by omega
      have c9 : w9.cell? ⟨w8.heap.size, j, none⟩ = some (.string s') := ((q8.grown k9 (fun e => by injection e; omega)).cell j).trans hs'
      obtain ⟨⟨c0, c1, c2⟩, ⟨f0, f1, f2⟩, _⟩ := acc9.cells
      have acc := acc9.set0 hW hz'
      obtain ⟨⟨d0, d1, d2⟩, _, ⟨p0, p1, p2⟩, ⟨q0, q1, q2⟩⟩ := acc.cells
      have FIN := Lib.hid (fun a b c => acc.fin hW a b c)
      clear acc acc9 acc8 s9 k9 q8 hs' b9
      go_wp2_with fail
      refine bodyPost_ret (v := rV s' ((420000 + x1)) ((420000 + x1) + x7)) (by simp [rV, results, Try.results45, go_sem, p0, p1, p2]) rfl (FIN.out _ _ _)
    · have e8 : (x8 == 0) = false := by simpa using h8
      have e9 : (x8 == 1) = false := by simpa using h9
      obtain ⟨⟨d0, d1, d2⟩, _, ⟨p0, p1, p2⟩, ⟨q0, q1, q2⟩⟩ := acc8.cells
      have FIN := Lib.hid (fun a b c => acc8.fin hW a b c)
      clear acc8 h8 h9
      go_wp2_with fail
      refine bodyPost_ret (v := rV s ((420000 + x1)) ((420000 + x1) + x7)) (by simp [rV, results, Try.results45, go_sem, p0, p1, p2]) rfl (FIN.out _ _ _)

end Go.Proofs.Ytfhcakpmlppbkaa.Rei
