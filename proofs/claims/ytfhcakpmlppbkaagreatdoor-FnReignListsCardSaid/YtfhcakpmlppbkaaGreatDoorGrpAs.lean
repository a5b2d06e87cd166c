/- Texts of a claim in one file: ReiQ ReiC. -/
import Derived.Test.YtfhcakpmlppbkaaGreatDoorGrpAr
import Derived.Test.YtfhcakpmlppbkaaGreatDoorGrpAl
namespace Go.Proofs.YtfhcakpmlppbkaaGreatDoor.Rei
open Go.RowKit

/-- While a reign is drawn: the source, the block R of the answer, the block D of the reign. -/
structure AcR (A : Option Addr) (len cap : Nat) (zs : List Int) (W w : World) (g R D : Nat) (s : ByteArray) (f t : Int) (wz : World) : Prop where
  src : Src A len cap zs W wz g
  only : w.grownBy wz (some g)
  r : Blk wz R 79 #[.string ⟨#[]⟩, .int .i64 0, .int .i64 0]
  dt : Blk wz D 79 #[.string s, .int .i64 f, .int .i64 t]
  rg : R ≠ g
  dg : D ≠ g
  rd : R ≠ D
  rw_ : w.heap.size ≤ R
  dw : w.heap.size ≤ D
  sb : s.size ≤ 13
  fb : 0 ≤ f ∧ f ≤ 440000
  tb : -1 ≤ t ∧ t ≤ 730500
section
variable {A : Option Addr} {len cap : Nat} {zs : List Int} {W w wz w' : World} {g R D : Nat} {s : ByteArray} {f t : Int}
theorem AcR.call (h : AcR A len cap zs W w g R D s f t wz) (hs : Src A len cap zs W w' g) (hg : wz.grownBy w' (some g)) : AcR A len cap zs W w g R D s f t w' :=
  ⟨hs, h.only.trans hg, h.r.grown hg (fun e => h.rg (by injection e)), h.dt.grown hg (fun e => h.dg (by injection e)), h.rg, h.dg, h.rd, h.rw_, h.dw, h.sb, h.fb, h.tb⟩
theorem AcR.alloc (h : AcR A len cap zs W w g R D s f t wz) (o : Obj) : AcR A len cap zs W w g R D s f t (wz.alloc o) :=
  ⟨h.src.alloc o, only_alloc h.only o, h.r.alloc o, h.dt.alloc o, h.rg, h.dg, h.rd, h.rw_, h.dw, h.sb, h.fb, h.tb⟩
theorem AcR.ww (h : AcR A len cap zs W w g R D s f t wz) (hW : W.heap.size ≤ w.heap.size) : W.heap.size ≤ D := Nat.le_trans hW h.dw
theorem AcR.set0 (h : AcR A len cap zs W w g R D s f t wz) (hW : W.heap.size ≤ w.heap.size) {x : ByteArray} (hx : x.size ≤ 13) : AcR A len cap zs W w g R D x f t (wz.setCell ⟨D, 0, none⟩ (.string x)) :=
  ⟨h.src.setCell h.dg (h.ww hW) _, only_setCell h.only (.inr h.dw) _, h.r.far h.rd _, by simpa using h.dt.set_ 0 _, h.rg, h.dg, h.rd, h.rw_, h.dw, hx, h.fb, h.tb⟩
theorem AcR.set2 (h : AcR A len cap zs W w g R D s f t wz) (hW : W.heap.size ≤ w.heap.size) {x : Int} (hx : -1 ≤ x ∧ x ≤ 730500) : AcR A len cap zs W w g R D s f x (wz.setCell ⟨D, 2, none⟩ (.int .i64 x)) :=
  ⟨h.src.setCell h.dg (h.ww hW) _, only_setCell h.only (.inr h.dw) _, h.r.far h.rd _, by simpa using h.dt.set_ 2 _, h.rg, h.dg, h.rd, h.rw_, h.dw, h.sb, h.fb, hx⟩
theorem AcR.cells (h : AcR A len cap zs W w g R D s f t wz) :
    (wz.cell? ⟨D, 0, none⟩ = some (.string s) ∧ wz.cell? ⟨D, 1, none⟩ = some (.int .i64 f) ∧ wz.cell? ⟨D, 2, none⟩ = some (.int .i64 t)) ∧
    (wz.frozen? ⟨D, 0, none⟩ = false ∧ wz.frozen? ⟨D, 1, none⟩ = false ∧ wz.frozen? ⟨D, 2, none⟩ = false) ∧
    (wz.cell? ⟨R, 0, none⟩ = some (.string ⟨#[]⟩) ∧ wz.cell? ⟨R, 1, none⟩ = some (.int .i64 0) ∧ wz.cell? ⟨R, 2, none⟩ = some (.int .i64 0)) ∧
    (wz.frozen? ⟨R, 0, none⟩ = false ∧ wz.frozen? ⟨R, 1, none⟩ = false ∧ wz.frozen? ⟨R, 2, none⟩ = false) :=
  ⟨h.dt.three, ⟨h.dt.frozen 0, h.dt.frozen 1, h.dt.frozen 2⟩, h.r.three, ⟨h.r.frozen 0, h.r.frozen 1, h.r.frozen 2⟩⟩
end

/-- What a call leaves that draws a reign. -/
def DrewR (A : Option Addr) (len cap : Nat) (zs : List Int) (W w : World) (g : Nat) (e : Ending) (w' : World) : Prop :=
  ∃ (s : ByteArray) (f t : Int), e = .returned (rV s f t) ∧ s.size ≤ 13 ∧ (0 ≤ f ∧ f ≤ 440000) ∧ (-1 ≤ t ∧ t ≤ 730500) ∧ Src A len cap zs W w' g ∧ w.grownBy w' (some g)
theorem AcR.fin {A : Option Addr} {len cap : Nat} {zs : List Int} {W w wz : World} {g R D : Nat} {s : ByteArray} {f t : Int} (h : AcR A len cap zs W w g R D s f t wz) (hW : W.heap.size ≤ w.heap.size) (a b c : Value) :
    DrewR A len cap zs W w g (.returned (rV s f t)) (((wz.setCell ⟨R, 0, none⟩ a).setCell ⟨R, 1, none⟩ b).setCell ⟨R, 2, none⟩ c) := by
  have hR := Nat.le_trans hW h.rw_
  exact ⟨s, f, t, rfl, h.sb, h.fb, h.tb, ((h.src.setCell h.rg hR _).setCell h.rg hR _).setCell h.rg hR _, only_setCell (only_setCell (only_setCell h.only (.inr h.rw_) _) (.inr h.rw_) _) (.inr h.rw_) _⟩
def kvV : Array Value := #[.string ⟨#[]⟩, .string ⟨#[65, 100, 97, 109]⟩, .string ⟨#[97, 98, 99, 100, 101, 102, 103, 104, 105, 106, 107, 108, 109]⟩]
theorem kvV_get (j : Nat) (h : j < 3) : ∃ s : ByteArray, kvV[j]? = some (.string s) ∧ s.size ≤ 13 := by
  have : j = 0 ∨ j = 1 ∨ j = 2 := by omega
  rcases this with rfl | rfl | rfl
  · exact ⟨_, rfl, by decide⟩
  · exact ⟨_, rfl, by decide⟩
  · exact ⟨_, rfl, by decide⟩

set_option maxRecDepth 100000 in
set_option maxHeartbeats 8000000 in
theorem spec_drawReign (A : Option Addr) (len cap : Nat) (zs : List Int) (W w : World) (g : Nat) (hs : Src A len cap zs W w g) (hW : W.heap.size ≤ w.heap.size) :
    Calls Tryz.prog 89 #[.pointer (some ⟨g, 0, none⟩)] w (DrewR A len cap zs W w g) := by
  have hl := hs.lt
  go_enter Tryz.func89, Tryz.ntmps89
  go_wp2_with fail
  refine (spec_next A len cap zs W _ g 6000 (hs.alloc _)).mono ?_
  rintro e w1 ⟨x1, rfl, a1, b1, s1, k1⟩
  have z1 := k1.size
  simp at z1
  have B1 : x1 ≤ 5999 := by omega
  clear b1
  have rg : w.heap.size ≠ g := by omega
  have R1 : Blk w1 w.heap.size 79 #[.string ⟨#[]⟩, .int .i64 0, .int .i64 0] := (Blk.new w _ _).grown k1 (fun e => rg (by injection e))
  have K1 : w.grownBy w1 (some g) := (only_alloc (World.grownBy.refl w (some g)) _).trans k1
  clear k1
  go_wp2_with fail
  refine (spec_next A len cap zs W _ g 6 s1).mono ?_
  rintro e w2 ⟨x2, rfl, a2, b2, s2, k2⟩
  have z2 := k2.size
  have R2 := R1.grown k2 (fun e => rg (by injection e))
  have K2 := K1.trans k2
  clear b2 k2 R1 K1 s1
  by_cases h0 : x2 = 0
  · subst h0
    go_wp2_with fail
    refine (spec_next A len cap zs W _ g 6 s2).mono ?_
    rintro e w3 ⟨x3, rfl, a3, b3, s3, k3⟩
    have z3 := k3.size
    have B3 : x3 ≤ 5 := by omega
    have hv := Fea.fixed_valid (1160 + 4 * x3) 2 28 ⟨by omega, by omega⟩ (by omega) (by omega) (by omega) (by omega)
    obtain ⟨f, hf⟩ : ∃ f, Cal.num false (1160 + 4 * x3) 2 29 = f := ⟨_, rfl⟩
    have F : 0 ≤ f ∧ f ≤ 440000 := by
      have h1 := Cal.num_in false hv
      have h2 : Cal.num false (1160 + 4 * x3) 2 29 = Cal.num false (1160 + 4 * x3) 2 28 + 1 := by unfold Cal.num; omega
      have h3 := Cal.ys_mono false 1 (1160 + 4 * x3) (by omega)
      have h4 := Cal.ys_mono false (1160 + 4 * x3 + 1) 1200 (by omega)
      rw [Fea.ys_old] at h1 h3 h4
      rw [Fea.ys_old] at h1 h3 h4
      omega
    have NU := Lib.hid (fun w => spec_number_far (1160 + 4 * x3) 2 29 (by omega) (by omega) (by omega) (by omega) (by omega) (by omega) w)
    rw [hf] at NU
    have R3 := R2.grown k3 (fun e => rg (by injection e))
    have K3 := K2.trans k3
    clear b3 k3 R2 K2 s2 hv hf
    go_wp2_with fail
    refine (NU.out _).mono ?_
    rintro e w4 ⟨rfl, hb4⟩
    have z4 := hb4.size
    have s4 := s3.below hb4
    have R4 := R3.below hb4 R3.lt
    have K4 := K3.trans (only_of_below hb4 (some g))
    obtain ⟨F0, F1⟩ := F
    clear R3 K3 s3 hb4 NU
    go_wp2_with fail
    refine (spec_drawKing A len cap zs W _ g s4).mono ?_
    rintro e w5 ⟨s, rfl, hs5, s5, k5⟩
    have z5 := k5.size
    have R5 := R4.grown k5 (fun e => rg (by injection e))
    have K5 := K4.trans k5
    have l5 := s5.lt
    clear R4 K4 s4 k5
    go_wp2_with fail
    refine (spec_pick A len cap zs W _ g _ 3 _ [100, 3000, 9000] (fun x => 0 ≤ x ∧ x ≤ 9000) (s5.alloc _) (Blk.new _ _ _) (by omega) rfl (by omega) (by omega) (by simp)).mono ?_
    rintro e w6 ⟨x6, rfl, ⟨a6, b6⟩, s6, k6⟩
    have z6 := k6.size
    simp at z6
    have R6 := (R5.alloc _).grown k6 (fun e => rg (by injection e))
    have K6 := (only_alloc K5 _).trans k6
    clear R5 K5 s5 k6
    go_wp2_with fail
    refine (spec_next A len cap zs W _ g x6 s6).mono ?_
    rintro e w7 ⟨x7, rfl, a7, b7, s7, k7⟩
    have z7 := k7.size
    have B7 : x7 ≤ 9000 := by omega
    have R7 := R6.grown k7 (fun e => rg (by injection e))
    have K7 := K6.trans k7
    have l7 := s7.lt
    have hacc : AcR A len cap zs W w g w.heap.size w7.heap.size s f (f + x7) (w7.alloc (.cells #[.string s, .int .i64 (f), .int .i64 (f + x7)] 79)) :=
      ⟨s7.alloc _, only_alloc K7 _, R7.alloc _, Blk.new _ _ _, rg, by omega, by omega, Nat.le_refl _, by omega, hs5, ⟨by omega, by omega⟩, ⟨by omega, by omega⟩⟩
    clear R6 K6 s6 k7 R7 K7 s7 b7
    go_wp2_with fail
    refine (spec_next A len cap zs W _ g 60 hacc.src).mono ?_
    rintro e w8 ⟨x8, rfl, a8, b8, s8, k8⟩
    have acc8 := hacc.call s8 k8
    have B8 : x8 ≤ 59 := by omega
    clear hacc s8 k8 b8
    generalize w7.heap.size = D at acc8 ⊢
    by_cases h8 : x8 = 0
    · subst h8
      obtain ⟨⟨c0, c1, c2⟩, ⟨f0, f1, f2⟩, _⟩ := acc8.cells
      have l8 := acc8.src.lt
      have y8 := World.block_lt_of_cell? _ _ c0
      go_wp2_with fail
      refine (spec_pick A len cap zs W _ g _ 3 _ [f - 1, 730499, 730500] (fun x => -1 ≤ x ∧ x ≤ 730500) (acc8.src.alloc _) (Blk.new _ _ _) (by omega) rfl (by omega) (by omega) (by intro y hy; simp at hy; omega)).mono ?_
      rintro e w9 ⟨x9, rfl, a9, s9, k9⟩
      have acc9 := (acc8.alloc _).call s9 k9
      clear acc8 s9 k9 c0 c1 c2 f0 f1 f2
      obtain ⟨⟨c0, c1, c2⟩, ⟨f0, f1, f2⟩, _⟩ := acc9.cells
      have acc := acc9.set2 hW a9
      obtain ⟨⟨d0, d1, d2⟩, _, ⟨p0, p1, p2⟩, ⟨q0, q1, q2⟩⟩ := acc.cells
      have FIN := Lib.hid (fun a b c => acc.fin hW a b c)
      clear acc acc9
      go_wp2_with fail
      refine bodyPost_ret (v := rV s (f) x9) (by simp [rV, results, Tryz.results89, go_sem, p0, p1, p2]) rfl (FIN.out _ _ _)
    by_cases h9 : x8 = 1
    · subst h9
      have l8 := acc8.src.lt
      have q8 := Blk.new w8 9 kvV
      go_wp2_with fail
      refine (spec_next A len cap zs W _ g 3 (acc8.src.alloc _)).mono ?_
      rintro e w9 ⟨x9, rfl, a9, b9, s9, k9⟩
      have acc9 := (acc8.alloc _).call s9 k9
      obtain ⟨j, rfl⟩ : ∃ j : Nat, x9 = j := ⟨x9.toNat, by omega⟩
      obtain ⟨s', hs', hz'⟩ := kvV_get j (by omega)
      have hj : (j : Int) < 3 := by omega
      have c9 : w9.cell? ⟨w8.heap.size, j, none⟩ = some (.string s') := ((q8.grown k9 (fun e => by injection e; omega)).cell j).trans hs'
      obtain ⟨⟨c0, c1, c2⟩, ⟨f0, f1, f2⟩, _⟩ := acc9.cells
      have acc := acc9.set0 hW hz'
      obtain ⟨⟨d0, d1, d2⟩, _, ⟨p0, p1, p2⟩, ⟨q0, q1, q2⟩⟩ := acc.cells
      have FIN := Lib.hid (fun a b c => acc.fin hW a b c)
      clear acc acc9 acc8 s9 k9 q8 hs' b9
      go_wp2_with fail
      refine bodyPost_ret (v := rV s' (f) (f + x7)) (by simp [rV, results, Tryz.results89, go_sem, p0, p1, p2]) rfl (FIN.out _ _ _)
    · have e8 : (x8 == 0) = false := by simpa using h8
      have e9 : (x8 == 1) = false := by simpa using h9
      obtain ⟨⟨d0, d1, d2⟩, _, ⟨p0, p1, p2⟩, ⟨q0, q1, q2⟩⟩ := acc8.cells
      have FIN := Lib.hid (fun a b c => acc8.fin hW a b c)
      clear acc8 h8 h9
      go_wp2_with fail
      refine bodyPost_ret (v := rV s (f) (f + x7)) (by simp [rV, results, Tryz.results89, go_sem, p0, p1, p2]) rfl (FIN.out _ _ _)
  · have e0 : (x2 == 0) = false := by simpa using h0
    obtain ⟨f, hf⟩ : ∃ f, 420000 + x1 = f := ⟨_, rfl⟩
    have F0 : 0 ≤ f := by omega
    have F1 : f ≤ 440000 := by omega
    clear h0
    have HFF := Lib.hid hf
    clear HFF
    subst hf
    go_wp2_with fail
    refine (spec_drawKing A len cap zs W _ g s2).mono ?_
    rintro e w5 ⟨s, rfl, hs5, s5, k5⟩
    have z5 := k5.size
    have R5 := R2.grown k5 (fun e => rg (by injection e))
    have K5 := K2.trans k5
    have l5 := s5.lt
    clear R2 K2 s2 k5
    go_wp2_with fail
    refine (spec_pick A len cap zs W _ g _ 3 _ [100, 3000, 9000] (fun x => 0 ≤ x ∧ x ≤ 9000) (s5.alloc _) (Blk.new _ _ _) (by omega) rfl (by omega) (by omega) (by simp)).mono ?_
    rintro e w6 ⟨x6, rfl, ⟨a6, b6⟩, s6, k6⟩
    have z6 := k6.size
    simp at z6
    have R6 := (R5.alloc _).grown k6 (fun e => rg (by injection e))
    have K6 := (only_alloc K5 _).trans k6
    clear R5 K5 s5 k6
    go_wp2_with fail
    refine (spec_next A len cap zs W _ g x6 s6).mono ?_
    rintro e w7 ⟨x7, rfl, a7, b7, s7, k7⟩
    have z7 := k7.size
    have B7 : x7 ≤ 9000 := by omega
    have R7 := R6.grown k7 (fun e => rg (by injection e))
    have K7 := K6.trans k7
    have l7 := s7.lt
    have hacc : AcR A len cap zs W w g w.heap.size w7.heap.size s (420000 + x1) ((420000 + x1) + x7) (w7.alloc (.cells #[.string s, .int .i64 ((420000 + x1)), .int .i64 ((420000 + x1) + x7)] 79)) :=
      ⟨s7.alloc _, only_alloc K7 _, R7.alloc _, Blk.new _ _ _, rg, by omega, by omega, Nat.le_refl _, by omega, hs5, ⟨by omega, by omega⟩, ⟨by omega, by omega⟩⟩
    clear R6 K6 s6 k7 R7 K7 s7 b7
    go_wp2_with fail
    refine (spec_next A len cap zs W _ g 60 hacc.src).mono ?_
    rintro e w8 ⟨x8, rfl, a8, b8, s8, k8⟩
    have acc8 := hacc.call s8 k8
    have B8 : x8 ≤ 59 := by omega
    clear hacc s8 k8 b8
    generalize w7.heap.size = D at acc8 ⊢
    by_cases h8 : x8 = 0
    · subst h8
      obtain ⟨⟨c0, c1, c2⟩, ⟨f0, f1, f2⟩, _⟩ := acc8.cells
      have l8 := acc8.src.lt
      have y8 := World.block_lt_of_cell? _ _ c0
      go_wp2_with fail
      refine (spec_pick A len cap zs W _ g _ 3 _ [(420000 + x1) - 1, 730499, 730500] (fun x => -1 ≤ x ∧ x ≤ 730500) (acc8.src.alloc _) (Blk.new _ _ _) (by omega) rfl (by omega) (by omega) (by intro y hy; simp at hy; omega)).mono ?_
      rintro e w9 ⟨x9, rfl, a9, s9, k9⟩
      have acc9 := (acc8.alloc _).call s9 k9
      clear acc8 s9 k9 c0 c1 c2 f0 f1 f2
      obtain ⟨⟨c0, c1, c2⟩, ⟨f0, f1, f2⟩, _⟩ := acc9.cells
      have acc := acc9.set2 hW a9
      obtain ⟨⟨d0, d1, d2⟩, _, ⟨p0, p1, p2⟩, ⟨q0, q1, q2⟩⟩ := acc.cells
      have FIN := Lib.hid (fun a b c => acc.fin hW a b c)
      clear acc acc9
      go_wp2_with fail
      refine bodyPost_ret (v := rV s ((420000 + x1)) x9) (by simp [rV, results, Tryz.results89, go_sem, p0, p1, p2]) rfl (FIN.out _ _ _)
    by_cases h9 : x8 = 1
    · subst h9
      have l8 := acc8.src.lt
      have q8 := Blk.new w8 9 kvV
      go_wp2_with fail
      refine (spec_next A len cap zs W _ g 3 (acc8.src.alloc _)).mono ?_
      rintro e w9 ⟨x9, rfl, a9, b9, s9, k9⟩
      have acc9 := (acc8.alloc _).call s9 k9
      obtain ⟨j, rfl⟩ : ∃ j : Nat, x9 = j := ⟨x9.toNat, by omega⟩
      obtain ⟨s', hs', hz'⟩ := kvV_get j (by omega)
      have hj : (j : Int) < 3 := by omega
      have c9 : w9.cell? ⟨w8.heap.size, j, none⟩ = some (.string s') := ((q8.grown k9 (fun e => by injection e; omega)).cell j).trans hs'
      obtain ⟨⟨c0, c1, c2⟩, ⟨f0, f1, f2⟩, _⟩ := acc9.cells
      have acc := acc9.set0 hW hz'
      obtain ⟨⟨d0, d1, d2⟩, _, ⟨p0, p1, p2⟩, ⟨q0, q1, q2⟩⟩ := acc.cells
      have FIN := Lib.hid (fun a b c => acc.fin hW a b c)
      clear acc acc9 acc8 s9 k9 q8 hs' b9
      go_wp2_with fail
      refine bodyPost_ret (v := rV s' ((420000 + x1)) ((420000 + x1) + x7)) (by simp [rV, results, Tryz.results89, go_sem, p0, p1, p2]) rfl (FIN.out _ _ _)
    · have e8 : (x8 == 0) = false := by simpa using h8
      have e9 : (x8 == 1) = false := by simpa using h9
      obtain ⟨⟨d0, d1, d2⟩, _, ⟨p0, p1, p2⟩, ⟨q0, q1, q2⟩⟩ := acc8.cells
      have FIN := Lib.hid (fun a b c => acc8.fin hW a b c)
      clear acc8 h8 h9
      go_wp2_with fail
      refine bodyPost_ret (v := rV s ((420000 + x1)) ((420000 + x1) + x7)) (by simp [rV, results, Tryz.results89, go_sem, p0, p1, p2]) rfl (FIN.out _ _ _)

end Go.Proofs.YtfhcakpmlppbkaaGreatDoor.Rei

namespace Go.Proofs.YtfhcakpmlppbkaaGreatDoor.Rei
open Go.RowKit
open Go.Proofs.YtfhcakpmlppbkaaGreatDoor.Eas (It)
open Go.Proofs.YtfhcakpmlppbkaaGreatDoor.Fea (isDay)
open Go.Proofs.YtfhcakpmlppbkaaGreatDoor.Sets (cell_keep below_on)

abbrev LR := List (ByteArray × Int × Int)
/-- The slice with address A and length n reads as the reigns xs. -/
def RdR (w : World) (A : Option Addr) (n : Nat) (xs : LR) : Prop :=
  xs.length = n ∧ (∀ k (h : k < xs.length), xs[k].1.size ≤ maxLen) ∧ (0 < n → ∃ g off, A = some ⟨g, off, none⟩ ∧ g < w.heap.size ∧
    ∀ k (h : k < xs.length), w.cell? ⟨g, off + k * 3, none⟩ = some (.string xs[k].1) ∧ w.cell? ⟨g, off + k * 3 + 1, none⟩ = some (.int .i64 xs[k].2.1) ∧ w.cell? ⟨g, off + k * 3 + 2, none⟩ = some (.int .i64 xs[k].2.2))
theorem RdR.at_ {w : World} {A : Option Addr} {n : Nat} {xs : LR} (h : RdR w A n xs) {k : Nat} (hk : k < n) : ∃ g off, ∃ hl : k < xs.length, A = some ⟨g, off, none⟩ ∧ xs[k].1.size ≤ maxLen ∧ g < w.heap.size ∧
    w.cell? ⟨g, off + k * 3, none⟩ = some (.string xs[k].1) ∧ w.cell? ⟨g, off + k * 3 + 1, none⟩ = some (.int .i64 xs[k].2.1) ∧ w.cell? ⟨g, off + k * 3 + 2, none⟩ = some (.int .i64 xs[k].2.2) := by
  obtain ⟨hl, hs, hc⟩ := h
  obtain ⟨g, off, rfl, hg, hcell⟩ := hc (by omega)
  exact ⟨g, off, by omega, rfl, hs k (by omega), hg, hcell k (by omega)⟩
theorem RdR.below {w w' : World} {A : Option Addr} {n : Nat} {xs : LR} (h : RdR w A n xs) (hb : Below w.heap.size w w') : RdR w' A n xs :=
  ⟨h.1, h.2.1, fun hn => by
    obtain ⟨g, off, e, hg, hcell⟩ := h.2.2 hn
    refine ⟨g, off, e, Nat.lt_of_lt_of_le hg hb.size, fun k hk => ?_⟩
    obtain ⟨c0, c1, c2⟩ := hcell k hk
    exact ⟨(hb.cell (p := ⟨g, _, none⟩) hg).trans c0, (hb.cell (p := ⟨g, _, none⟩) hg).trans c1, (hb.cell (p := ⟨g, _, none⟩) hg).trans c2⟩⟩
/-- A list of reigns as told. -/
def arOk (xs : LR) : Prop := (∀ k (h : k < xs.length), rOk xs[k].1 xs[k].2.1 xs[k].2.2) ∧ (∀ k (h : k + 1 < xs.length), xs[k].2.1 ≤ xs[k + 1].2.1) ∧ xs.length ≤ 30
noncomputable instance (xs : LR) : Decidable (arOk xs) := Classical.propDecidable _
/-- Read as told up to k. -/
def UpR (xs : LR) (k : Nat) : Prop := (∀ j (h : j < xs.length), j < k → rOk xs[j].1 xs[j].2.1 xs[j].2.2) ∧ (∀ j (h : j + 1 < xs.length), j + 1 < k → xs[j].2.1 ≤ xs[j + 1].2.1)
theorem upr_0 (xs : LR) : UpR xs 0 := ⟨fun _ _ h => absurd h (by omega), fun _ _ h => absurd h (by omega)⟩
theorem upr_one {xs : LR} {k : Nat} (h : k < xs.length) (h0 : k = 0) (hu : UpR xs k) (ho : rOk xs[k].1 xs[k].2.1 xs[k].2.2) : UpR xs (k + 1) :=
  ⟨fun j hj hk => by obtain rfl : j = k := by omega
                     exact ho, fun j hj hk => absurd hk (by omega)⟩
theorem upr_step {xs : LR} {j : Nat} (h : j + 1 < xs.length) (hu : UpR xs (j + 1)) (ho : rOk xs[j + 1].1 xs[j + 1].2.1 xs[j + 1].2.2) (hl : ¬ xs[j + 1].2.1 < xs[j].2.1) : UpR xs (j + 2) := by
  refine ⟨fun i hi hk => ?_, fun i hi hk => ?_⟩
  · by_cases e : i = j + 1
    · subst e; exact ho
    · exact hu.1 i hi (by omega)
  · by_cases e : i = j
    · subst e; omega
    · exact hu.2 i hi (by omega)
theorem ar_bad {xs : LR} {k : Nat} (h : k < xs.length) (ho : ¬ rOk xs[k].1 xs[k].2.1 xs[k].2.2) : decide (arOk xs) = false := decide_eq_false fun a => ho (a.1 k h)
theorem ar_near {xs : LR} {j : Nat} (h : j + 1 < xs.length) (hl : xs[j + 1].2.1 < xs[j].2.1) : decide (arOk xs) = false := decide_eq_false fun a => by have := a.2.1 j h; omega
theorem ar_long {xs : LR} (h : ¬ xs.length ≤ 30) : decide (arOk xs) = false := decide_eq_false fun a => h a.2.2
theorem ar_all {xs : LR} {k : Nat} (hk : xs.length ≤ k) (hu : UpR xs k) (h : xs.length ≤ 30) : decide (arOk xs) = true := decide_eq_true ⟨fun j hj => hu.1 j hj (by omega), fun j hj => hu.2 j hj (by omega), h⟩
theorem ret_bool {a b : Bool} (h : b = a) : Ending.returned (.bool a) = .returned (.bool b) := by rw [h]

set_option maxHeartbeats 1600000 in
set_option maxRecDepth 10000 in
theorem spec_AreReigns (A : Option Addr) (n c : Nat) (xs : LR) (hn : n ≤ maxLen) (w : World) (h : RdR w A n xs) :
    Calls Tryz.prog 32 #[.slice A n c] w fun e w' => e = .returned (.bool (decide (arOk xs))) ∧ Below w.heap.size w w' := by
  unfold maxLen at hn
  have hlen := h.1
  go_enter Tryz.func32, Tryz.ntmps32
  go_wp2_with fail
  go_loopg [3] n (fun m i wr => ∃ k : Nat, k ≤ n ∧ m = n - k ∧ i = .int .i64 k ∧ Below w.heap.size w wr ∧ Hid (UpR xs k))
  case atStart => exact ⟨0, by omega, by omega, rfl, Below.refl _ _, Lib.hid (upr_0 xs)⟩
  case round =>
    obtain ⟨k, hk, hm, rfl, hb, hu⟩ := hrel
    subst hm
    by_cases hlt : k < n
    · rcases Nat.eq_zero_or_pos k with h0 | h0
      · obtain ⟨g, off, hl, rfl, hsz, hg, c0, c1, c2⟩ := (h.below hb).at_ hlt
        have hz : decide (0 < k) = false := by simp [h0]
        by_cases ho : rOk xs[k].1 xs[k].2.1 xs[k].2.2
        · have v := Lib.hid (spec_reign _ hsz _ _ _ (decide_eq_true ho))
          have HU := Lib.hid (upr_one hl h0 hu.out ho)
          clear hu ho h0 hsz
          go_wp2_with fail
          refine wp_region_held_drew (S := (fun w' => w'.cell? ⟨g, off + (k) * 3, none⟩ = some (.string xs[k].1) ∧ w'.cell? ⟨g, off + (k) * 3 + 1, none⟩ = some (.int .i64 xs[k].2.1) ∧ w'.cell? ⟨g, off + (k) * 3 + 2, none⟩ = some (.int .i64 xs[k].2.2) ∧ Below w.heap.size w w')) (by kernel_rfl) ?_ (fun hHeld => ?_)
          · (exact ⟨c0, c1, c2, hb.drew⟩)
          refine wpAnyH_take (i := 0) (oi := ⟨some 10, _, _, _, _, _⟩) (v := _) rfl (by kernel_rfl) (by kernel_rfl) (by kernel_rfl) (fun _ _ _ h => h) (Or.inl ⟨by kernel_rfl, by (intro wS hSw; (try dsimp only at hSw); go_split_ands; go_simp; (try with_reducible rfl))⟩) (by assumption) ?_
          try simp only [Act.put, List.setIfInBounds_toArray, List.set_cons_zero, List.set_cons_succ]
          refine wpAnyH_take (i := 1) (oi := ⟨some 11, _, _, _, _, _⟩) (v := _) rfl (by kernel_rfl) (by kernel_rfl) (by kernel_rfl) (fun _ _ _ h => h) (Or.inl ⟨by kernel_rfl, by (intro wS hSw; (try dsimp only at hSw); go_split_ands; go_simp; (try with_reducible rfl))⟩) (by assumption) ?_
          try simp only [Act.put, List.setIfInBounds_toArray, List.set_cons_zero, List.set_cons_succ]
          refine wpAnyH_take (i := 2) (oi := ⟨some 12, _, _, _, _, _⟩) (v := _) rfl (by kernel_rfl) (by kernel_rfl) (by kernel_rfl) (fun _ _ _ h => h) (Or.inl ⟨by kernel_rfl, by (intro wS hSw; (try dsimp only at hSw); go_split_ands; go_simp; (try with_reducible rfl))⟩) (by assumption) ?_
          try simp only [Act.put, List.setIfInBounds_toArray, List.set_cons_zero, List.set_cons_succ]
          refine wpAnyH_take (i := 3) (oi := ⟨some 13, _, _, _, _, _⟩) (v := _) rfl (by kernel_rfl) (by kernel_rfl) (by kernel_rfl) (fun _ _ _ h => h) (Or.inl ⟨by kernel_rfl, by (intro wS hSw; (try dsimp only at hSw); go_split_ands; go_simp; (try with_reducible rfl))⟩) (by assumption) ?_
          try simp only [Act.put, List.setIfInBounds_toArray, List.set_cons_zero, List.set_cons_succ]
          refine wpAnyH_ready (rs := [4]) (by kernel_rfl) (by simp) ?_
          refine AllReadyH.cons (o := ⟨some 14, _, _, _, _, _⟩) rfl (fun K hK => ?_) AllReadyH.nil
          go_simp
          refine (v.out _).mono ?_
          rintro e wq ⟨rfl, hbq⟩
          go_wp2_with fail
          refine hK.out _ _ ?_ (fun hHeld => ?_)
          · ((go_split_ands; exact ⟨cell_keep hbq (by assumption), cell_keep hbq (by assumption), cell_keep hbq (by assumption), below_on (by assumption) hbq⟩))
          clear hK K
          try simp only [Act.put, List.setIfInBounds_toArray, List.set_cons_zero, List.set_cons_succ]
          refine wpAnyH_take (i := 5) (oi := ⟨some 15, _, _, _, _, _⟩) (v := _) rfl (by kernel_rfl) (by kernel_rfl) (by kernel_rfl) (fun _ _ _ h => h) (Or.inl ⟨by kernel_rfl, by (intro wS hSw; (try dsimp only at hSw); go_split_ands; go_simp; (try with_reducible rfl))⟩) (by assumption) ?_
          try simp only [Act.put, List.setIfInBounds_toArray, List.set_cons_zero, List.set_cons_succ]
          refine wpAnyH_take (i := 6) (oi := ⟨some 16, _, _, _, _, _⟩) (v := _) rfl (by kernel_rfl) (by kernel_rfl) (by kernel_rfl) (fun _ _ _ h => h) (Or.inl ⟨by kernel_rfl, by (intro wS hSw; (try dsimp only at hSw); go_split_ands; go_simp; (try with_reducible rfl))⟩) (by assumption) ?_
          try simp only [Act.put, List.setIfInBounds_toArray, List.set_cons_zero, List.set_cons_succ]
          refine wpAnyH_take (i := 7) (oi := ⟨some 17, _, _, _, _, _⟩) (v := _) rfl (by kernel_rfl) (by kernel_rfl) (by kernel_rfl) (fun _ _ _ h => h) (Or.inl ⟨by kernel_rfl, by (intro wS hSw; (try dsimp only at hSw); go_split_ands; go_simp; (try with_reducible rfl))⟩) (by assumption) ?_
          try simp only [Act.put, List.setIfInBounds_toArray, List.set_cons_zero, List.set_cons_succ]
          refine wpAnyH_take (i := 8) (oi := ⟨some 18, _, _, _, _, _⟩) (v := _) rfl (by kernel_rfl) (by kernel_rfl) (by kernel_rfl) (fun _ _ _ h => h) (Or.inl ⟨by kernel_rfl, by (intro wS hSw; (try dsimp only at hSw); go_split_ands; go_simp; (try with_reducible rfl))⟩) (by assumption) ?_
          try simp only [Act.put, List.setIfInBounds_toArray, List.set_cons_zero, List.set_cons_succ]
          refine wpAnyH_take (i := 9) (oi := ⟨some 19, _, _, _, _, _⟩) (v := _) rfl (by kernel_rfl) (by kernel_rfl) (by kernel_rfl) (fun _ _ _ h => h) (Or.inl ⟨by kernel_rfl, by (intro wS hSw; (try dsimp only at hSw); go_split_ands; go_simp; (try with_reducible rfl))⟩) (by assumption) ?_
          try simp only [Act.put, List.setIfInBounds_toArray, List.set_cons_zero, List.set_cons_succ]
          refine wpAnyH_take (i := 10) (oi := ⟨some 20, _, _, _, _, _⟩) (v := undef) rfl (by kernel_rfl) (by kernel_rfl) (by kernel_rfl) (fun _ _ _ h => h) (Or.inr ⟨by kernel_rfl, rfl⟩) (by assumption) ?_
          try simp only [Act.put, List.setIfInBounds_toArray, List.set_cons_zero, List.set_cons_succ]
          refine wpAnyH_take (i := 11) (oi := ⟨some 21, _, _, _, _, _⟩) (v := undef) rfl (by kernel_rfl) (by kernel_rfl) (by kernel_rfl) (fun _ _ _ h => h) (Or.inr ⟨by kernel_rfl, rfl⟩) (by assumption) ?_
          try simp only [Act.put, List.setIfInBounds_toArray, List.set_cons_zero, List.set_cons_succ]
          refine wpAnyH_take (i := 12) (oi := ⟨some 22, _, _, _, _, _⟩) (v := undef) rfl (by kernel_rfl) (by kernel_rfl) (by kernel_rfl) (fun _ _ _ h => h) (Or.inr ⟨by kernel_rfl, rfl⟩) (by assumption) ?_
          try simp only [Act.put, List.setIfInBounds_toArray, List.set_cons_zero, List.set_cons_succ]
          refine wpAnyH_take (i := 13) (oi := ⟨some 23, _, _, _, _, _⟩) (v := undef) rfl (by kernel_rfl) (by kernel_rfl) (by kernel_rfl) (fun _ _ _ h => h) (Or.inr ⟨by kernel_rfl, rfl⟩) (by assumption) ?_
          try simp only [Act.put, List.setIfInBounds_toArray, List.set_cons_zero, List.set_cons_succ]
          refine wpAnyH_take (i := 14) (oi := ⟨some 24, _, _, _, _, _⟩) (v := undef) rfl (by kernel_rfl) (by kernel_rfl) (by kernel_rfl) (fun _ _ _ h => h) (Or.inr ⟨by kernel_rfl, rfl⟩) (by assumption) ?_
          try simp only [Act.put, List.setIfInBounds_toArray, List.set_cons_zero, List.set_cons_succ]
          refine wpAnyH_take (i := 15) (oi := ⟨some 25, _, _, _, _, _⟩) (v := undef) rfl (by kernel_rfl) (by kernel_rfl) (by kernel_rfl) (fun _ _ _ h => h) (Or.inr ⟨by kernel_rfl, rfl⟩) (by assumption) ?_
          try simp only [Act.put, List.setIfInBounds_toArray, List.set_cons_zero, List.set_cons_succ]
          refine wpAnyH_take (i := 16) (oi := ⟨some 26, _, _, _, _, _⟩) (v := undef) rfl (by kernel_rfl) (by kernel_rfl) (by kernel_rfl) (fun _ _ _ h => h) (Or.inr ⟨by kernel_rfl, rfl⟩) (by assumption) ?_
          try simp only [Act.put, List.setIfInBounds_toArray, List.set_cons_zero, List.set_cons_succ]
          refine wpAnyH_take (i := 17) (oi := ⟨some 27, _, _, _, _, _⟩) (v := undef) rfl (by kernel_rfl) (by kernel_rfl) (by kernel_rfl) (fun _ _ _ h => h) (Or.inr ⟨by kernel_rfl, rfl⟩) (by assumption) ?_
          try simp only [Act.put, List.setIfInBounds_toArray, List.set_cons_zero, List.set_cons_succ]
          refine wpAnyH_take (i := 18) (oi := ⟨some 28, _, _, _, _, _⟩) (v := undef) rfl (by kernel_rfl) (by kernel_rfl) (by kernel_rfl) (fun _ _ _ h => h) (Or.inr ⟨by kernel_rfl, rfl⟩) (by assumption) ?_
          try simp only [Act.put, List.setIfInBounds_toArray, List.set_cons_zero, List.set_cons_succ]
          refine wpAnyH_take (i := 19) (oi := ⟨some 29, _, _, _, _, _⟩) (v := undef) rfl (by kernel_rfl) (by kernel_rfl) (by kernel_rfl) (fun _ _ _ h => h) (Or.inr ⟨by kernel_rfl, rfl⟩) (by assumption) ?_
          try simp only [Act.put, List.setIfInBounds_toArray, List.set_cons_zero, List.set_cons_succ]
          refine wpAnyH_take (i := 20) (oi := ⟨some 30, _, _, _, _, _⟩) (v := undef) rfl (by kernel_rfl) (by kernel_rfl) (by kernel_rfl) (fun _ _ _ h => h) (Or.inr ⟨by kernel_rfl, rfl⟩) (by assumption) ?_
          try simp only [Act.put, List.setIfInBounds_toArray, List.set_cons_zero, List.set_cons_succ]
          refine wpAnyH_take (i := 21) (oi := ⟨some 31, _, _, _, _, _⟩) (v := undef) rfl (by kernel_rfl) (by kernel_rfl) (by kernel_rfl) (fun _ _ _ h => h) (Or.inr ⟨by kernel_rfl, rfl⟩) (by assumption) ?_
          try simp only [Act.put, List.setIfInBounds_toArray, List.set_cons_zero, List.set_cons_succ]
          refine wpAnyH_take (i := 22) (oi := ⟨some 32, _, _, _, _, _⟩) (v := _) rfl (by kernel_rfl) (by kernel_rfl) (by kernel_rfl) (fun _ _ _ h => h) (Or.inl ⟨by kernel_rfl, by (intro wS hSw; (try dsimp only at hSw); go_split_ands; go_simp; (try with_reducible rfl))⟩) (by assumption) ?_
          try simp only [Act.put, List.setIfInBounds_toArray, List.set_cons_zero, List.set_cons_succ]
          refine wpAnyH_take (i := 23) (oi := ⟨some 33, _, _, _, _, _⟩) (v := _) rfl (by kernel_rfl) (by kernel_rfl) (by kernel_rfl) (fun _ _ _ h => h) (Or.inl ⟨by kernel_rfl, by (intro wS hSw; (try dsimp only at hSw); go_split_ands; go_simp; (try with_reducible rfl))⟩) (by assumption) ?_
          try simp only [Act.put, List.setIfInBounds_toArray, List.set_cons_zero, List.set_cons_succ]
          refine wpAnyH_done (by kernel_rfl) ?_ _
          have hfin : Below w.heap.size w _ := hHeld.2.2.2
          clear hHeld
          go_wp2_with fail
          go_roundg (n - (k + 1))
          case measure => omega
          case rel => exact ⟨k + 1, by omega, by omega, by go_num, hfin, HU.out⟩
        · have v := Lib.hid (spec_reign _ hsz _ _ _ (decide_eq_false ho))
          have r := Lib.hid (ar_bad hl ho)
          clear hu ho h0 hsz
          go_wp2_with fail
          refine wp_region_held_drew (S := (fun w' => w'.cell? ⟨g, off + (k) * 3, none⟩ = some (.string xs[k].1) ∧ w'.cell? ⟨g, off + (k) * 3 + 1, none⟩ = some (.int .i64 xs[k].2.1) ∧ w'.cell? ⟨g, off + (k) * 3 + 2, none⟩ = some (.int .i64 xs[k].2.2) ∧ Below w.heap.size w w')) (by kernel_rfl) ?_ (fun hHeld => ?_)
          · (exact ⟨c0, c1, c2, hb.drew⟩)
          refine wpAnyH_take (i := 0) (oi := ⟨some 10, _, _, _, _, _⟩) (v := _) rfl (by kernel_rfl) (by kernel_rfl) (by kernel_rfl) (fun _ _ _ h => h) (Or.inl ⟨by kernel_rfl, by (intro wS hSw; (try dsimp only at hSw); go_split_ands; go_simp; (try with_reducible rfl))⟩) (by assumption) ?_
          try simp only [Act.put, List.setIfInBounds_toArray, List.set_cons_zero, List.set_cons_succ]
          refine wpAnyH_take (i := 1) (oi := ⟨some 11, _, _, _, _, _⟩) (v := _) rfl (by kernel_rfl) (by kernel_rfl) (by kernel_rfl) (fun _ _ _ h => h) (Or.inl ⟨by kernel_rfl, by (intro wS hSw; (try dsimp only at hSw); go_split_ands; go_simp; (try with_reducible rfl))⟩) (by assumption) ?_
          try simp only [Act.put, List.setIfInBounds_toArray, List.set_cons_zero, List.set_cons_succ]
          refine wpAnyH_take (i := 2) (oi := ⟨some 12, _, _, _, _, _⟩) (v := _) rfl (by kernel_rfl) (by kernel_rfl) (by kernel_rfl) (fun _ _ _ h => h) (Or.inl ⟨by kernel_rfl, by (intro wS hSw; (try dsimp only at hSw); go_split_ands; go_simp; (try with_reducible rfl))⟩) (by assumption) ?_
          try simp only [Act.put, List.setIfInBounds_toArray, List.set_cons_zero, List.set_cons_succ]
          refine wpAnyH_take (i := 3) (oi := ⟨some 13, _, _, _, _, _⟩) (v := _) rfl (by kernel_rfl) (by kernel_rfl) (by kernel_rfl) (fun _ _ _ h => h) (Or.inl ⟨by kernel_rfl, by (intro wS hSw; (try dsimp only at hSw); go_split_ands; go_simp; (try with_reducible rfl))⟩) (by assumption) ?_
          try simp only [Act.put, List.setIfInBounds_toArray, List.set_cons_zero, List.set_cons_succ]
          refine wpAnyH_ready (rs := [4]) (by kernel_rfl) (by simp) ?_
          refine AllReadyH.cons (o := ⟨some 14, _, _, _, _, _⟩) rfl (fun K hK => ?_) AllReadyH.nil
          go_simp
          refine (v.out _).mono ?_
          rintro e wq ⟨rfl, hbq⟩
          go_wp2_with fail
          refine hK.out _ _ ?_ (fun hHeld => ?_)
          · ((go_split_ands; exact ⟨cell_keep hbq (by assumption), cell_keep hbq (by assumption), cell_keep hbq (by assumption), below_on (by assumption) hbq⟩))
          clear hK K
          try simp only [Act.put, List.setIfInBounds_toArray, List.set_cons_zero, List.set_cons_succ]
          refine wpAnyH_take (i := 5) (oi := ⟨some 15, _, _, _, _, _⟩) (v := _) rfl (by kernel_rfl) (by kernel_rfl) (by kernel_rfl) (fun _ _ _ h => h) (Or.inl ⟨by kernel_rfl, by (intro wS hSw; (try dsimp only at hSw); go_split_ands; go_simp; (try with_reducible rfl))⟩) (by assumption) ?_
          try simp only [Act.put, List.setIfInBounds_toArray, List.set_cons_zero, List.set_cons_succ]
          refine wpAnyH_take (i := 6) (oi := ⟨some 16, _, _, _, _, _⟩) (v := _) rfl (by kernel_rfl) (by kernel_rfl) (by kernel_rfl) (fun _ _ _ h => h) (Or.inl ⟨by kernel_rfl, by (intro wS hSw; (try dsimp only at hSw); go_split_ands; go_simp; (try with_reducible rfl))⟩) (by assumption) ?_
          try simp only [Act.put, List.setIfInBounds_toArray, List.set_cons_zero, List.set_cons_succ]
          refine wpAnyH_take (i := 7) (oi := ⟨some 17, _, _, _, _, _⟩) (v := undef) rfl (by kernel_rfl) (by kernel_rfl) (by kernel_rfl) (fun _ _ _ h => h) (Or.inr ⟨by kernel_rfl, rfl⟩) (by assumption) ?_
          try simp only [Act.put, List.setIfInBounds_toArray, List.set_cons_zero, List.set_cons_succ]
          refine wpAnyH_take (i := 8) (oi := ⟨some 18, _, _, _, _, _⟩) (v := undef) rfl (by kernel_rfl) (by kernel_rfl) (by kernel_rfl) (fun _ _ _ h => h) (Or.inr ⟨by kernel_rfl, rfl⟩) (by assumption) ?_
          try simp only [Act.put, List.setIfInBounds_toArray, List.set_cons_zero, List.set_cons_succ]
          refine wpAnyH_take (i := 9) (oi := ⟨some 19, _, _, _, _, _⟩) (v := undef) rfl (by kernel_rfl) (by kernel_rfl) (by kernel_rfl) (fun _ _ _ h => h) (Or.inr ⟨by kernel_rfl, rfl⟩) (by assumption) ?_
          try simp only [Act.put, List.setIfInBounds_toArray, List.set_cons_zero, List.set_cons_succ]
          refine wpAnyH_take (i := 10) (oi := ⟨some 20, _, _, _, _, _⟩) (v := undef) rfl (by kernel_rfl) (by kernel_rfl) (by kernel_rfl) (fun _ _ _ h => h) (Or.inr ⟨by kernel_rfl, rfl⟩) (by assumption) ?_
          try simp only [Act.put, List.setIfInBounds_toArray, List.set_cons_zero, List.set_cons_succ]
          refine wpAnyH_take (i := 11) (oi := ⟨some 21, _, _, _, _, _⟩) (v := undef) rfl (by kernel_rfl) (by kernel_rfl) (by kernel_rfl) (fun _ _ _ h => h) (Or.inr ⟨by kernel_rfl, rfl⟩) (by assumption) ?_
          try simp only [Act.put, List.setIfInBounds_toArray, List.set_cons_zero, List.set_cons_succ]
          refine wpAnyH_take (i := 12) (oi := ⟨some 22, _, _, _, _, _⟩) (v := undef) rfl (by kernel_rfl) (by kernel_rfl) (by kernel_rfl) (fun _ _ _ h => h) (Or.inr ⟨by kernel_rfl, rfl⟩) (by assumption) ?_
          try simp only [Act.put, List.setIfInBounds_toArray, List.set_cons_zero, List.set_cons_succ]
          refine wpAnyH_take (i := 13) (oi := ⟨some 23, _, _, _, _, _⟩) (v := undef) rfl (by kernel_rfl) (by kernel_rfl) (by kernel_rfl) (fun _ _ _ h => h) (Or.inr ⟨by kernel_rfl, rfl⟩) (by assumption) ?_
          try simp only [Act.put, List.setIfInBounds_toArray, List.set_cons_zero, List.set_cons_succ]
          refine wpAnyH_take (i := 14) (oi := ⟨some 24, _, _, _, _, _⟩) (v := undef) rfl (by kernel_rfl) (by kernel_rfl) (by kernel_rfl) (fun _ _ _ h => h) (Or.inr ⟨by kernel_rfl, rfl⟩) (by assumption) ?_
          try simp only [Act.put, List.setIfInBounds_toArray, List.set_cons_zero, List.set_cons_succ]
          refine wpAnyH_take (i := 15) (oi := ⟨some 25, _, _, _, _, _⟩) (v := undef) rfl (by kernel_rfl) (by kernel_rfl) (by kernel_rfl) (fun _ _ _ h => h) (Or.inr ⟨by kernel_rfl, rfl⟩) (by assumption) ?_
          try simp only [Act.put, List.setIfInBounds_toArray, List.set_cons_zero, List.set_cons_succ]
          refine wpAnyH_take (i := 16) (oi := ⟨some 26, _, _, _, _, _⟩) (v := undef) rfl (by kernel_rfl) (by kernel_rfl) (by kernel_rfl) (fun _ _ _ h => h) (Or.inr ⟨by kernel_rfl, rfl⟩) (by assumption) ?_
          try simp only [Act.put, List.setIfInBounds_toArray, List.set_cons_zero, List.set_cons_succ]
          refine wpAnyH_take (i := 17) (oi := ⟨some 27, _, _, _, _, _⟩) (v := undef) rfl (by kernel_rfl) (by kernel_rfl) (by kernel_rfl) (fun _ _ _ h => h) (Or.inr ⟨by kernel_rfl, rfl⟩) (by assumption) ?_
          try simp only [Act.put, List.setIfInBounds_toArray, List.set_cons_zero, List.set_cons_succ]
          refine wpAnyH_take (i := 18) (oi := ⟨some 28, _, _, _, _, _⟩) (v := undef) rfl (by kernel_rfl) (by kernel_rfl) (by kernel_rfl) (fun _ _ _ h => h) (Or.inr ⟨by kernel_rfl, rfl⟩) (by assumption) ?_
          try simp only [Act.put, List.setIfInBounds_toArray, List.set_cons_zero, List.set_cons_succ]
          refine wpAnyH_take (i := 19) (oi := ⟨some 29, _, _, _, _, _⟩) (v := undef) rfl (by kernel_rfl) (by kernel_rfl) (by kernel_rfl) (fun _ _ _ h => h) (Or.inr ⟨by kernel_rfl, rfl⟩) (by assumption) ?_
          try simp only [Act.put, List.setIfInBounds_toArray, List.set_cons_zero, List.set_cons_succ]
          refine wpAnyH_take (i := 20) (oi := ⟨some 30, _, _, _, _, _⟩) (v := undef) rfl (by kernel_rfl) (by kernel_rfl) (by kernel_rfl) (fun _ _ _ h => h) (Or.inr ⟨by kernel_rfl, rfl⟩) (by assumption) ?_
          try simp only [Act.put, List.setIfInBounds_toArray, List.set_cons_zero, List.set_cons_succ]
          refine wpAnyH_take (i := 21) (oi := ⟨some 31, _, _, _, _, _⟩) (v := undef) rfl (by kernel_rfl) (by kernel_rfl) (by kernel_rfl) (fun _ _ _ h => h) (Or.inr ⟨by kernel_rfl, rfl⟩) (by assumption) ?_
          try simp only [Act.put, List.setIfInBounds_toArray, List.set_cons_zero, List.set_cons_succ]
          refine wpAnyH_take (i := 22) (oi := ⟨some 32, _, _, _, _, _⟩) (v := undef) rfl (by kernel_rfl) (by kernel_rfl) (by kernel_rfl) (fun _ _ _ h => h) (Or.inr ⟨by kernel_rfl, rfl⟩) (by assumption) ?_
          try simp only [Act.put, List.setIfInBounds_toArray, List.set_cons_zero, List.set_cons_succ]
          refine wpAnyH_take (i := 23) (oi := ⟨some 33, _, _, _, _, _⟩) (v := _) rfl (by kernel_rfl) (by kernel_rfl) (by kernel_rfl) (fun _ _ _ h => h) (Or.inl ⟨by kernel_rfl, by (intro wS hSw; (try dsimp only at hSw); go_split_ands; go_simp; (try with_reducible rfl))⟩) (by assumption) ?_
          try simp only [Act.put, List.setIfInBounds_toArray, List.set_cons_zero, List.set_cons_succ]
          refine wpAnyH_done (by kernel_rfl) ?_ _
          have hfin : Below w.heap.size w _ := hHeld.2.2.2
          clear hHeld
          go_wp2_with fail
          go_ret
          exact ⟨ret_bool r.out, hfin⟩
      · obtain ⟨j, rfl⟩ : ∃ j, k = j + 1 := ⟨k - 1, by omega⟩
        obtain ⟨g, off, hl, rfl, hsz, hg, c0, c1, c2⟩ := (h.below hb).at_ hlt
        have j2 : (0 : Int) ≤ (j : Int) + 1 := by omega
        by_cases ho : rOk xs[j + 1].1 xs[j + 1].2.1 xs[j + 1].2.2
        · obtain ⟨g', off', hl', e', -, -, -, p1, -⟩ := (h.below hb).at_ (k := j) (by omega)
          obtain ⟨rfl, rfl⟩ : g = g' ∧ off = off' := by injection e' with e'; injection e' with e1 e2; exact ⟨e1, e2⟩
          clear e'
          have v := Lib.hid (spec_reign _ hsz _ _ _ (decide_eq_true ho))
          have hz : decide (0 < j + 1) = true := by simp
          have wj : IntKind.i64.wrap (j : Int) = (j : Int) := IntWalk.i64_in _ ⟨by omega, by omega⟩
          have j0 : (0 : Int) ≤ (j : Int) := by omega
          have j1 : (j : Int) < (n : Int) := by omega
          by_cases hl2 : xs[j + 1].2.1 < xs[j].2.1
          · have r := Lib.hid (ar_near hl hl2)
            have hd : decide (xs[j + 1].2.1 < xs[j].2.1) = true := by simpa using hl2
            clear hu ho h0 hl2 hsz
            go_wp2_with fail
            refine wp_region_held_drew (S := (fun w' => w'.cell? ⟨g, off + (j + 1) * 3, none⟩ = some (.string xs[j + 1].1) ∧ w'.cell? ⟨g, off + (j + 1) * 3 + 1, none⟩ = some (.int .i64 xs[j + 1].2.1) ∧ w'.cell? ⟨g, off + (j + 1) * 3 + 2, none⟩ = some (.int .i64 xs[j + 1].2.2) ∧ w'.cell? ⟨g, off + j * 3 + 1, none⟩ = some (.int .i64 xs[j].2.1) ∧ Below w.heap.size w w')) (by kernel_rfl) ?_ (fun hHeld => ?_)
            · (exact ⟨c0, c1, c2, p1, hb.drew⟩)
            refine wpAnyH_take (i := 0) (oi := ⟨some 10, _, _, _, _, _⟩) (v := _) rfl (by kernel_rfl) (by kernel_rfl) (by kernel_rfl) (fun _ _ _ h => h) (Or.inl ⟨by kernel_rfl, by (intro wS hSw; (try dsimp only at hSw); go_split_ands; go_simp; (try with_reducible rfl))⟩) (by assumption) ?_
            try simp only [Act.put, List.setIfInBounds_toArray, List.set_cons_zero, List.set_cons_succ]
            refine wpAnyH_take (i := 1) (oi := ⟨some 11, _, _, _, _, _⟩) (v := _) rfl (by kernel_rfl) (by kernel_rfl) (by kernel_rfl) (fun _ _ _ h => h) (Or.inl ⟨by kernel_rfl, by (intro wS hSw; (try dsimp only at hSw); go_split_ands; go_simp; (try with_reducible rfl))⟩) (by assumption) ?_
            try simp only [Act.put, List.setIfInBounds_toArray, List.set_cons_zero, List.set_cons_succ]
            refine wpAnyH_take (i := 2) (oi := ⟨some 12, _, _, _, _, _⟩) (v := _) rfl (by kernel_rfl) (by kernel_rfl) (by kernel_rfl) (fun _ _ _ h => h) (Or.inl ⟨by kernel_rfl, by (intro wS hSw; (try dsimp only at hSw); go_split_ands; go_simp; (try with_reducible rfl))⟩) (by assumption) ?_
            try simp only [Act.put, List.setIfInBounds_toArray, List.set_cons_zero, List.set_cons_succ]
            refine wpAnyH_take (i := 3) (oi := ⟨some 13, _, _, _, _, _⟩) (v := _) rfl (by kernel_rfl) (by kernel_rfl) (by kernel_rfl) (fun _ _ _ h => h) (Or.inl ⟨by kernel_rfl, by (intro wS hSw; (try dsimp only at hSw); go_split_ands; go_simp; (try with_reducible rfl))⟩) (by assumption) ?_
            try simp only [Act.put, List.setIfInBounds_toArray, List.set_cons_zero, List.set_cons_succ]
            refine wpAnyH_ready (rs := [4]) (by kernel_rfl) (by simp) ?_
            refine AllReadyH.cons (o := ⟨some 14, _, _, _, _, _⟩) rfl (fun K hK => ?_) AllReadyH.nil
            go_simp
            refine (v.out _).mono ?_
            rintro e wq ⟨rfl, hbq⟩
            go_wp2_with fail
            refine hK.out _ _ ?_ (fun hHeld => ?_)
            · ((go_split_ands; exact ⟨cell_keep hbq (by assumption), cell_keep hbq (by assumption), cell_keep hbq (by assumption), cell_keep hbq (by assumption), below_on (by assumption) hbq⟩))
            clear hK K
            try simp only [Act.put, List.setIfInBounds_toArray, List.set_cons_zero, List.set_cons_succ]
            refine wpAnyH_take (i := 5) (oi := ⟨some 15, _, _, _, _, _⟩) (v := _) rfl (by kernel_rfl) (by kernel_rfl) (by kernel_rfl) (fun _ _ _ h => h) (Or.inl ⟨by kernel_rfl, by (intro wS hSw; (try dsimp only at hSw); go_split_ands; go_simp; (try with_reducible rfl))⟩) (by assumption) ?_
            try simp only [Act.put, List.setIfInBounds_toArray, List.set_cons_zero, List.set_cons_succ]
            refine wpAnyH_take (i := 6) (oi := ⟨some 16, _, _, _, _, _⟩) (v := _) rfl (by kernel_rfl) (by kernel_rfl) (by kernel_rfl) (fun _ _ _ h => h) (Or.inl ⟨by kernel_rfl, by (intro wS hSw; (try dsimp only at hSw); go_split_ands; go_simp; (try with_reducible rfl))⟩) (by assumption) ?_
            try simp only [Act.put, List.setIfInBounds_toArray, List.set_cons_zero, List.set_cons_succ]
            refine wpAnyH_take (i := 7) (oi := ⟨some 17, _, _, _, _, _⟩) (v := _) rfl (by kernel_rfl) (by kernel_rfl) (by kernel_rfl) (fun _ _ _ h => h) (Or.inl ⟨by kernel_rfl, by (intro wS hSw; (try dsimp only at hSw); go_split_ands; go_simp; (try with_reducible rfl))⟩) (by assumption) ?_
            try simp only [Act.put, List.setIfInBounds_toArray, List.set_cons_zero, List.set_cons_succ]
            refine wpAnyH_take (i := 8) (oi := ⟨some 18, _, _, _, _, _⟩) (v := _) rfl (by kernel_rfl) (by kernel_rfl) (by kernel_rfl) (fun _ _ _ h => h) (Or.inl ⟨by kernel_rfl, by (intro wS hSw; (try dsimp only at hSw); go_split_ands; go_simp; (try with_reducible rfl))⟩) (by assumption) ?_
            try simp only [Act.put, List.setIfInBounds_toArray, List.set_cons_zero, List.set_cons_succ]
            refine wpAnyH_take (i := 9) (oi := ⟨some 19, _, _, _, _, _⟩) (v := _) rfl (by kernel_rfl) (by kernel_rfl) (by kernel_rfl) (fun _ _ _ h => h) (Or.inl ⟨by kernel_rfl, by (intro wS hSw; (try dsimp only at hSw); go_split_ands; go_simp; (try with_reducible rfl))⟩) (by assumption) ?_
            try simp only [Act.put, List.setIfInBounds_toArray, List.set_cons_zero, List.set_cons_succ]
            refine wpAnyH_take (i := 10) (oi := ⟨some 20, _, _, _, _, _⟩) (v := _) rfl (by kernel_rfl) (by kernel_rfl) (by kernel_rfl) (fun _ _ _ h => h) (Or.inl ⟨by kernel_rfl, by (intro wS hSw; (try dsimp only at hSw); go_split_ands; go_simp; (try with_reducible rfl))⟩) (by assumption) ?_
            try simp only [Act.put, List.setIfInBounds_toArray, List.set_cons_zero, List.set_cons_succ]
            refine wpAnyH_take (i := 11) (oi := ⟨some 21, _, _, _, _, _⟩) (v := _) rfl (by kernel_rfl) (by kernel_rfl) (by kernel_rfl) (fun _ _ _ h => h) (Or.inl ⟨by kernel_rfl, by (intro wS hSw; (try dsimp only at hSw); go_split_ands; go_simp; (try with_reducible rfl))⟩) (by assumption) ?_
            try simp only [Act.put, List.setIfInBounds_toArray, List.set_cons_zero, List.set_cons_succ]
            refine wpAnyH_take (i := 12) (oi := ⟨some 22, _, _, _, _, _⟩) (v := _) rfl (by kernel_rfl) (by kernel_rfl) (by kernel_rfl) (fun _ _ _ h => h) (Or.inl ⟨by kernel_rfl, by (intro wS hSw; (try dsimp only at hSw); go_split_ands; go_simp; (try with_reducible rfl))⟩) (by assumption) ?_
            try simp only [Act.put, List.setIfInBounds_toArray, List.set_cons_zero, List.set_cons_succ]
            refine wpAnyH_take (i := 13) (oi := ⟨some 23, _, _, _, _, _⟩) (v := _) rfl (by kernel_rfl) (by kernel_rfl) (by kernel_rfl) (fun _ _ _ h => h) (Or.inl ⟨by kernel_rfl, by (intro wS hSw; (try dsimp only at hSw); go_split_ands; go_simp; (try with_reducible rfl))⟩) (by assumption) ?_
            try simp only [Act.put, List.setIfInBounds_toArray, List.set_cons_zero, List.set_cons_succ]
            refine wpAnyH_take (i := 14) (oi := ⟨some 24, _, _, _, _, _⟩) (v := _) rfl (by kernel_rfl) (by kernel_rfl) (by kernel_rfl) (fun _ _ _ h => h) (Or.inl ⟨by kernel_rfl, by (intro wS hSw; (try dsimp only at hSw); go_split_ands; go_simp; (try with_reducible rfl))⟩) (by assumption) ?_
            try simp only [Act.put, List.setIfInBounds_toArray, List.set_cons_zero, List.set_cons_succ]
            refine wpAnyH_take (i := 15) (oi := ⟨some 25, _, _, _, _, _⟩) (v := _) rfl (by kernel_rfl) (by kernel_rfl) (by kernel_rfl) (fun _ _ _ h => h) (Or.inl ⟨by kernel_rfl, by (intro wS hSw; (try dsimp only at hSw); go_split_ands; go_simp; (try with_reducible rfl))⟩) (by assumption) ?_
            try simp only [Act.put, List.setIfInBounds_toArray, List.set_cons_zero, List.set_cons_succ]
            refine wpAnyH_take (i := 16) (oi := ⟨some 26, _, _, _, _, _⟩) (v := _) rfl (by kernel_rfl) (by kernel_rfl) (by kernel_rfl) (fun _ _ _ h => h) (Or.inl ⟨by kernel_rfl, by (intro wS hSw; (try dsimp only at hSw); go_split_ands; go_simp; (try with_reducible rfl))⟩) (by assumption) ?_
            try simp only [Act.put, List.setIfInBounds_toArray, List.set_cons_zero, List.set_cons_succ]
            refine wpAnyH_take (i := 17) (oi := ⟨some 27, _, _, _, _, _⟩) (v := _) rfl (by kernel_rfl) (by kernel_rfl) (by kernel_rfl) (fun _ _ _ h => h) (Or.inl ⟨by kernel_rfl, by (intro wS hSw; (try dsimp only at hSw); go_split_ands; go_simp; (try with_reducible rfl))⟩) (by assumption) ?_
            try simp only [Act.put, List.setIfInBounds_toArray, List.set_cons_zero, List.set_cons_succ]
            refine wpAnyH_take (i := 18) (oi := ⟨some 28, _, _, _, _, _⟩) (v := _) rfl (by kernel_rfl) (by kernel_rfl) (by kernel_rfl) (fun _ _ _ h => h) (Or.inl ⟨by kernel_rfl, by (intro wS hSw; (try dsimp only at hSw); go_split_ands; go_simp; (try with_reducible rfl))⟩) (by assumption) ?_
            try simp only [Act.put, List.setIfInBounds_toArray, List.set_cons_zero, List.set_cons_succ]
            refine wpAnyH_take (i := 19) (oi := ⟨some 29, _, _, _, _, _⟩) (v := _) rfl (by kernel_rfl) (by kernel_rfl) (by kernel_rfl) (fun _ _ _ h => h) (Or.inl ⟨by kernel_rfl, by (intro wS hSw; (try dsimp only at hSw); go_split_ands; go_simp; (try with_reducible rfl))⟩) (by assumption) ?_
            try simp only [Act.put, List.setIfInBounds_toArray, List.set_cons_zero, List.set_cons_succ]
            refine wpAnyH_take (i := 20) (oi := ⟨some 30, _, _, _, _, _⟩) (v := _) rfl (by kernel_rfl) (by kernel_rfl) (by kernel_rfl) (fun _ _ _ h => h) (Or.inl ⟨by kernel_rfl, by (intro wS hSw; (try dsimp only at hSw); go_split_ands; go_simp; (try with_reducible rfl))⟩) (by assumption) ?_
            try simp only [Act.put, List.setIfInBounds_toArray, List.set_cons_zero, List.set_cons_succ]
            refine wpAnyH_take (i := 21) (oi := ⟨some 31, _, _, _, _, _⟩) (v := _) rfl (by kernel_rfl) (by kernel_rfl) (by kernel_rfl) (fun _ _ _ h => h) (Or.inl ⟨by kernel_rfl, by (intro wS hSw; (try dsimp only at hSw); go_split_ands; go_simp; (try with_reducible rfl))⟩) (by assumption) ?_
            try simp only [Act.put, List.setIfInBounds_toArray, List.set_cons_zero, List.set_cons_succ]
            refine wpAnyH_take (i := 22) (oi := ⟨some 32, _, _, _, _, _⟩) (v := _) rfl (by kernel_rfl) (by kernel_rfl) (by kernel_rfl) (fun _ _ _ h => h) (Or.inl ⟨by kernel_rfl, by (intro wS hSw; (try dsimp only at hSw); go_split_ands; go_simp; (try with_reducible rfl))⟩) (by assumption) ?_
            try simp only [Act.put, List.setIfInBounds_toArray, List.set_cons_zero, List.set_cons_succ]
            refine wpAnyH_take (i := 23) (oi := ⟨some 33, _, _, _, _, _⟩) (v := _) rfl (by kernel_rfl) (by kernel_rfl) (by kernel_rfl) (fun _ _ _ h => h) (Or.inl ⟨by kernel_rfl, by (intro wS hSw; (try dsimp only at hSw); go_split_ands; go_simp; (try with_reducible rfl))⟩) (by assumption) ?_
            try simp only [Act.put, List.setIfInBounds_toArray, List.set_cons_zero, List.set_cons_succ]
            refine wpAnyH_done (by kernel_rfl) ?_ _
            have hfin : Below w.heap.size w _ := hHeld.2.2.2.2
            clear hHeld
            go_wp2_with fail
            go_ret
            exact ⟨ret_bool r.out, hfin⟩
          · have HU := Lib.hid (upr_step hl hu.out ho hl2)
            have hd : decide (xs[j + 1].2.1 < xs[j].2.1) = false := by simpa using hl2
            clear hu ho h0 hl2 hsz
            go_wp2_with fail
            refine wp_region_held_drew (S := (fun w' => w'.cell? ⟨g, off + (j + 1) * 3, none⟩ = some (.string xs[j + 1].1) ∧ w'.cell? ⟨g, off + (j + 1) * 3 + 1, none⟩ = some (.int .i64 xs[j + 1].2.1) ∧ w'.cell? ⟨g, off + (j + 1) * 3 + 2, none⟩ = some (.int .i64 xs[j + 1].2.2) ∧ w'.cell? ⟨g, off + j * 3 + 1, none⟩ = some (.int .i64 xs[j].2.1) ∧ Below w.heap.size w w')) (by kernel_rfl) ?_ (fun hHeld => ?_)
            · (exact ⟨c0, c1, c2, p1, hb.drew⟩)
            refine wpAnyH_take (i := 0) (oi := ⟨some 10, _, _, _, _, _⟩) (v := _) rfl (by kernel_rfl) (by kernel_rfl) (by kernel_rfl) (fun _ _ _ h => h) (Or.inl ⟨by kernel_rfl, by (intro wS hSw; (try dsimp only at hSw); go_split_ands; go_simp; (try with_reducible rfl))⟩) (by assumption) ?_
            try simp only [Act.put, List.setIfInBounds_toArray, List.set_cons_zero, List.set_cons_succ]
            refine wpAnyH_take (i := 1) (oi := ⟨some 11, _, _, _, _, _⟩) (v := _) rfl (by kernel_rfl) (by kernel_rfl) (by kernel_rfl) (fun _ _ _ h => h) (Or.inl ⟨by kernel_rfl, by (intro wS hSw; (try dsimp only at hSw); go_split_ands; go_simp; (try with_reducible rfl))⟩) (by assumption) ?_
            try simp only [Act.put, List.setIfInBounds_toArray, List.set_cons_zero, List.set_cons_succ]
            refine wpAnyH_take (i := 2) (oi := ⟨some 12, _, _, _, _, _⟩) (v := _) rfl (by kernel_rfl) (by kernel_rfl) (by kernel_rfl) (fun _ _ _ h => h) (Or.inl ⟨by kernel_rfl, by (intro wS hSw; (try dsimp only at hSw); go_split_ands; go_simp; (try with_reducible rfl))⟩) (by assumption) ?_
            try simp only [Act.put, List.setIfInBounds_toArray, List.set_cons_zero, List.set_cons_succ]
            refine wpAnyH_take (i := 3) (oi := ⟨some 13, _, _, _, _, _⟩) (v := _) rfl (by kernel_rfl) (by kernel_rfl) (by kernel_rfl) (fun _ _ _ h => h) (Or.inl ⟨by kernel_rfl, by (intro wS hSw; (try dsimp only at hSw); go_split_ands; go_simp; (try with_reducible rfl))⟩) (by assumption) ?_
            try simp only [Act.put, List.setIfInBounds_toArray, List.set_cons_zero, List.set_cons_succ]
            refine wpAnyH_ready (rs := [4]) (by kernel_rfl) (by simp) ?_
            refine AllReadyH.cons (o := ⟨some 14, _, _, _, _, _⟩) rfl (fun K hK => ?_) AllReadyH.nil
            go_simp
            refine (v.out _).mono ?_
            rintro e wq ⟨rfl, hbq⟩
            go_wp2_with fail
            refine hK.out _ _ ?_ (fun hHeld => ?_)
            · ((go_split_ands; exact ⟨cell_keep hbq (by assumption), cell_keep hbq (by assumption), cell_keep hbq (by assumption), cell_keep hbq (by assumption), below_on (by assumption) hbq⟩))
            clear hK K
            try simp only [Act.put, List.setIfInBounds_toArray, List.set_cons_zero, List.set_cons_succ]
            refine wpAnyH_take (i := 5) (oi := ⟨some 15, _, _, _, _, _⟩) (v := _) rfl (by kernel_rfl) (by kernel_rfl) (by kernel_rfl) (fun _ _ _ h => h) (Or.inl ⟨by kernel_rfl, by (intro wS hSw; (try dsimp only at hSw); go_split_ands; go_simp; (try with_reducible rfl))⟩) (by assumption) ?_
            try simp only [Act.put, List.setIfInBounds_toArray, List.set_cons_zero, List.set_cons_succ]
            refine wpAnyH_take (i := 6) (oi := ⟨some 16, _, _, _, _, _⟩) (v := _) rfl (by kernel_rfl) (by kernel_rfl) (by kernel_rfl) (fun _ _ _ h => h) (Or.inl ⟨by kernel_rfl, by (intro wS hSw; (try dsimp only at hSw); go_split_ands; go_simp; (try with_reducible rfl))⟩) (by assumption) ?_
            try simp only [Act.put, List.setIfInBounds_toArray, List.set_cons_zero, List.set_cons_succ]
            refine wpAnyH_take (i := 7) (oi := ⟨some 17, _, _, _, _, _⟩) (v := _) rfl (by kernel_rfl) (by kernel_rfl) (by kernel_rfl) (fun _ _ _ h => h) (Or.inl ⟨by kernel_rfl, by (intro wS hSw; (try dsimp only at hSw); go_split_ands; go_simp; (try with_reducible rfl))⟩) (by assumption) ?_
            try simp only [Act.put, List.setIfInBounds_toArray, List.set_cons_zero, List.set_cons_succ]
            refine wpAnyH_take (i := 8) (oi := ⟨some 18, _, _, _, _, _⟩) (v := _) rfl (by kernel_rfl) (by kernel_rfl) (by kernel_rfl) (fun _ _ _ h => h) (Or.inl ⟨by kernel_rfl, by (intro wS hSw; (try dsimp only at hSw); go_split_ands; go_simp; (try with_reducible rfl))⟩) (by assumption) ?_
            try simp only [Act.put, List.setIfInBounds_toArray, List.set_cons_zero, List.set_cons_succ]
            refine wpAnyH_take (i := 9) (oi := ⟨some 19, _, _, _, _, _⟩) (v := _) rfl (by kernel_rfl) (by kernel_rfl) (by kernel_rfl) (fun _ _ _ h => h) (Or.inl ⟨by kernel_rfl, by (intro wS hSw; (try dsimp only at hSw); go_split_ands; go_simp; (try with_reducible rfl))⟩) (by assumption) ?_
            try simp only [Act.put, List.setIfInBounds_toArray, List.set_cons_zero, List.set_cons_succ]
            refine wpAnyH_take (i := 10) (oi := ⟨some 20, _, _, _, _, _⟩) (v := _) rfl (by kernel_rfl) (by kernel_rfl) (by kernel_rfl) (fun _ _ _ h => h) (Or.inl ⟨by kernel_rfl, by (intro wS hSw; (try dsimp only at hSw); go_split_ands; go_simp; (try with_reducible rfl))⟩) (by assumption) ?_
            try simp only [Act.put, List.setIfInBounds_toArray, List.set_cons_zero, List.set_cons_succ]
            refine wpAnyH_take (i := 11) (oi := ⟨some 21, _, _, _, _, _⟩) (v := _) rfl (by kernel_rfl) (by kernel_rfl) (by kernel_rfl) (fun _ _ _ h => h) (Or.inl ⟨by kernel_rfl, by (intro wS hSw; (try dsimp only at hSw); go_split_ands; go_simp; (try with_reducible rfl))⟩) (by assumption) ?_
            try simp only [Act.put, List.setIfInBounds_toArray, List.set_cons_zero, List.set_cons_succ]
            refine wpAnyH_take (i := 12) (oi := ⟨some 22, _, _, _, _, _⟩) (v := _) rfl (by kernel_rfl) (by kernel_rfl) (by kernel_rfl) (fun _ _ _ h => h) (Or.inl ⟨by kernel_rfl, by (intro wS hSw; (try dsimp only at hSw); go_split_ands; go_simp; (try with_reducible rfl))⟩) (by assumption) ?_
            try simp only [Act.put, List.setIfInBounds_toArray, List.set_cons_zero, List.set_cons_succ]
            refine wpAnyH_take (i := 13) (oi := ⟨some 23, _, _, _, _, _⟩) (v := _) rfl (by kernel_rfl) (by kernel_rfl) (by kernel_rfl) (fun _ _ _ h => h) (Or.inl ⟨by kernel_rfl, by (intro wS hSw; (try dsimp only at hSw); go_split_ands; go_simp; (try with_reducible rfl))⟩) (by assumption) ?_
            try simp only [Act.put, List.setIfInBounds_toArray, List.set_cons_zero, List.set_cons_succ]
            refine wpAnyH_take (i := 14) (oi := ⟨some 24, _, _, _, _, _⟩) (v := _) rfl (by kernel_rfl) (by kernel_rfl) (by kernel_rfl) (fun _ _ _ h => h) (Or.inl ⟨by kernel_rfl, by (intro wS hSw; (try dsimp only at hSw); go_split_ands; go_simp; (try with_reducible rfl))⟩) (by assumption) ?_
            try simp only [Act.put, List.setIfInBounds_toArray, List.set_cons_zero, List.set_cons_succ]
            refine wpAnyH_take (i := 15) (oi := ⟨some 25, _, _, _, _, _⟩) (v := _) rfl (by kernel_rfl) (by kernel_rfl) (by kernel_rfl) (fun _ _ _ h => h) (Or.inl ⟨by kernel_rfl, by (intro wS hSw; (try dsimp only at hSw); go_split_ands; go_simp; (try with_reducible rfl))⟩) (by assumption) ?_
            try simp only [Act.put, List.setIfInBounds_toArray, List.set_cons_zero, List.set_cons_succ]
            refine wpAnyH_take (i := 16) (oi := ⟨some 26, _, _, _, _, _⟩) (v := _) rfl (by kernel_rfl) (by kernel_rfl) (by kernel_rfl) (fun _ _ _ h => h) (Or.inl ⟨by kernel_rfl, by (intro wS hSw; (try dsimp only at hSw); go_split_ands; go_simp; (try with_reducible rfl))⟩) (by assumption) ?_
            try simp only [Act.put, List.setIfInBounds_toArray, List.set_cons_zero, List.set_cons_succ]
            refine wpAnyH_take (i := 17) (oi := ⟨some 27, _, _, _, _, _⟩) (v := _) rfl (by kernel_rfl) (by kernel_rfl) (by kernel_rfl) (fun _ _ _ h => h) (Or.inl ⟨by kernel_rfl, by (intro wS hSw; (try dsimp only at hSw); go_split_ands; go_simp; (try with_reducible rfl))⟩) (by assumption) ?_
            try simp only [Act.put, List.setIfInBounds_toArray, List.set_cons_zero, List.set_cons_succ]
            refine wpAnyH_take (i := 18) (oi := ⟨some 28, _, _, _, _, _⟩) (v := _) rfl (by kernel_rfl) (by kernel_rfl) (by kernel_rfl) (fun _ _ _ h => h) (Or.inl ⟨by kernel_rfl, by (intro wS hSw; (try dsimp only at hSw); go_split_ands; go_simp; (try with_reducible rfl))⟩) (by assumption) ?_
            try simp only [Act.put, List.setIfInBounds_toArray, List.set_cons_zero, List.set_cons_succ]
            refine wpAnyH_take (i := 19) (oi := ⟨some 29, _, _, _, _, _⟩) (v := _) rfl (by kernel_rfl) (by kernel_rfl) (by kernel_rfl) (fun _ _ _ h => h) (Or.inl ⟨by kernel_rfl, by (intro wS hSw; (try dsimp only at hSw); go_split_ands; go_simp; (try with_reducible rfl))⟩) (by assumption) ?_
            try simp only [Act.put, List.setIfInBounds_toArray, List.set_cons_zero, List.set_cons_succ]
            refine wpAnyH_take (i := 20) (oi := ⟨some 30, _, _, _, _, _⟩) (v := _) rfl (by kernel_rfl) (by kernel_rfl) (by kernel_rfl) (fun _ _ _ h => h) (Or.inl ⟨by kernel_rfl, by (intro wS hSw; (try dsimp only at hSw); go_split_ands; go_simp; (try with_reducible rfl))⟩) (by assumption) ?_
            try simp only [Act.put, List.setIfInBounds_toArray, List.set_cons_zero, List.set_cons_succ]
            refine wpAnyH_take (i := 21) (oi := ⟨some 31, _, _, _, _, _⟩) (v := _) rfl (by kernel_rfl) (by kernel_rfl) (by kernel_rfl) (fun _ _ _ h => h) (Or.inl ⟨by kernel_rfl, by (intro wS hSw; (try dsimp only at hSw); go_split_ands; go_simp; (try with_reducible rfl))⟩) (by assumption) ?_
            try simp only [Act.put, List.setIfInBounds_toArray, List.set_cons_zero, List.set_cons_succ]
            refine wpAnyH_take (i := 22) (oi := ⟨some 32, _, _, _, _, _⟩) (v := _) rfl (by kernel_rfl) (by kernel_rfl) (by kernel_rfl) (fun _ _ _ h => h) (Or.inl ⟨by kernel_rfl, by (intro wS hSw; (try dsimp only at hSw); go_split_ands; go_simp; (try with_reducible rfl))⟩) (by assumption) ?_
            try simp only [Act.put, List.setIfInBounds_toArray, List.set_cons_zero, List.set_cons_succ]
            refine wpAnyH_take (i := 23) (oi := ⟨some 33, _, _, _, _, _⟩) (v := _) rfl (by kernel_rfl) (by kernel_rfl) (by kernel_rfl) (fun _ _ _ h => h) (Or.inl ⟨by kernel_rfl, by (intro wS hSw; (try dsimp only at hSw); go_split_ands; go_simp; (try with_reducible rfl))⟩) (by assumption) ?_
            try simp only [Act.put, List.setIfInBounds_toArray, List.set_cons_zero, List.set_cons_succ]
            refine wpAnyH_done (by kernel_rfl) ?_ _
            have hfin : Below w.heap.size w _ := hHeld.2.2.2.2
            clear hHeld
            go_wp2_with fail
            go_roundg (n - ((j + 1) + 1))
            case measure => omega
            case rel => exact ⟨(j + 1) + 1, by omega, by omega, by go_num, hfin, HU.out⟩
        · have v := Lib.hid (spec_reign _ hsz _ _ _ (decide_eq_false ho))
          have r := Lib.hid (ar_bad hl ho)
          clear hu ho h0 hsz
          go_wp2_with fail
          refine wp_region_held_drew (S := (fun w' => w'.cell? ⟨g, off + (j + 1) * 3, none⟩ = some (.string xs[j + 1].1) ∧ w'.cell? ⟨g, off + (j + 1) * 3 + 1, none⟩ = some (.int .i64 xs[j + 1].2.1) ∧ w'.cell? ⟨g, off + (j + 1) * 3 + 2, none⟩ = some (.int .i64 xs[j + 1].2.2) ∧ Below w.heap.size w w')) (by kernel_rfl) ?_ (fun hHeld => ?_)
          · (exact ⟨c0, c1, c2, hb.drew⟩)
          refine wpAnyH_take (i := 0) (oi := ⟨some 10, _, _, _, _, _⟩) (v := _) rfl (by kernel_rfl) (by kernel_rfl) (by kernel_rfl) (fun _ _ _ h => h) (Or.inl ⟨by kernel_rfl, by (intro wS hSw; (try dsimp only at hSw); go_split_ands; go_simp; (try with_reducible rfl))⟩) (by assumption) ?_
          try simp only [Act.put, List.setIfInBounds_toArray, List.set_cons_zero, List.set_cons_succ]
          refine wpAnyH_take (i := 1) (oi := ⟨some 11, _, _, _, _, _⟩) (v := _) rfl (by kernel_rfl) (by kernel_rfl) (by kernel_rfl) (fun _ _ _ h => h) (Or.inl ⟨by kernel_rfl, by (intro wS hSw; (try dsimp only at hSw); go_split_ands; go_simp; (try with_reducible rfl))⟩) (by assumption) ?_
          try simp only [Act.put, List.setIfInBounds_toArray, List.set_cons_zero, List.set_cons_succ]
          refine wpAnyH_take (i := 2) (oi := ⟨some 12, _, _, _, _, _⟩) (v := _) rfl (by kernel_rfl) (by kernel_rfl) (by kernel_rfl) (fun _ _ _ h => h) (Or.inl ⟨by kernel_rfl, by (intro wS hSw; (try dsimp only at hSw); go_split_ands; go_simp; (try with_reducible rfl))⟩) (by assumption) ?_
          try simp only [Act.put, List.setIfInBounds_toArray, List.set_cons_zero, List.set_cons_succ]
          refine wpAnyH_take (i := 3) (oi := ⟨some 13, _, _, _, _, _⟩) (v := _) rfl (by kernel_rfl) (by kernel_rfl) (by kernel_rfl) (fun _ _ _ h => h) (Or.inl ⟨by kernel_rfl, by (intro wS hSw; (try dsimp only at hSw); go_split_ands; go_simp; (try with_reducible rfl))⟩) (by assumption) ?_
          try simp only [Act.put, List.setIfInBounds_toArray, List.set_cons_zero, List.set_cons_succ]
          refine wpAnyH_ready (rs := [4]) (by kernel_rfl) (by simp) ?_
          refine AllReadyH.cons (o := ⟨some 14, _, _, _, _, _⟩) rfl (fun K hK => ?_) AllReadyH.nil
          go_simp
          refine (v.out _).mono ?_
          rintro e wq ⟨rfl, hbq⟩
          go_wp2_with fail
          refine hK.out _ _ ?_ (fun hHeld => ?_)
          · ((go_split_ands; exact ⟨cell_keep hbq (by assumption), cell_keep hbq (by assumption), cell_keep hbq (by assumption), below_on (by assumption) hbq⟩))
          clear hK K
          try simp only [Act.put, List.setIfInBounds_toArray, List.set_cons_zero, List.set_cons_succ]
          refine wpAnyH_take (i := 5) (oi := ⟨some 15, _, _, _, _, _⟩) (v := _) rfl (by kernel_rfl) (by kernel_rfl) (by kernel_rfl) (fun _ _ _ h => h) (Or.inl ⟨by kernel_rfl, by (intro wS hSw; (try dsimp only at hSw); go_split_ands; go_simp; (try with_reducible rfl))⟩) (by assumption) ?_
          try simp only [Act.put, List.setIfInBounds_toArray, List.set_cons_zero, List.set_cons_succ]
          refine wpAnyH_take (i := 6) (oi := ⟨some 16, _, _, _, _, _⟩) (v := _) rfl (by kernel_rfl) (by kernel_rfl) (by kernel_rfl) (fun _ _ _ h => h) (Or.inl ⟨by kernel_rfl, by (intro wS hSw; (try dsimp only at hSw); go_split_ands; go_simp; (try with_reducible rfl))⟩) (by assumption) ?_
          try simp only [Act.put, List.setIfInBounds_toArray, List.set_cons_zero, List.set_cons_succ]
          refine wpAnyH_take (i := 7) (oi := ⟨some 17, _, _, _, _, _⟩) (v := undef) rfl (by kernel_rfl) (by kernel_rfl) (by kernel_rfl) (fun _ _ _ h => h) (Or.inr ⟨by kernel_rfl, rfl⟩) (by assumption) ?_
          try simp only [Act.put, List.setIfInBounds_toArray, List.set_cons_zero, List.set_cons_succ]
          refine wpAnyH_take (i := 8) (oi := ⟨some 18, _, _, _, _, _⟩) (v := undef) rfl (by kernel_rfl) (by kernel_rfl) (by kernel_rfl) (fun _ _ _ h => h) (Or.inr ⟨by kernel_rfl, rfl⟩) (by assumption) ?_
          try simp only [Act.put, List.setIfInBounds_toArray, List.set_cons_zero, List.set_cons_succ]
          refine wpAnyH_take (i := 9) (oi := ⟨some 19, _, _, _, _, _⟩) (v := undef) rfl (by kernel_rfl) (by kernel_rfl) (by kernel_rfl) (fun _ _ _ h => h) (Or.inr ⟨by kernel_rfl, rfl⟩) (by assumption) ?_
          try simp only [Act.put, List.setIfInBounds_toArray, List.set_cons_zero, List.set_cons_succ]
          refine wpAnyH_take (i := 10) (oi := ⟨some 20, _, _, _, _, _⟩) (v := undef) rfl (by kernel_rfl) (by kernel_rfl) (by kernel_rfl) (fun _ _ _ h => h) (Or.inr ⟨by kernel_rfl, rfl⟩) (by assumption) ?_
          try simp only [Act.put, List.setIfInBounds_toArray, List.set_cons_zero, List.set_cons_succ]
          refine wpAnyH_take (i := 11) (oi := ⟨some 21, _, _, _, _, _⟩) (v := undef) rfl (by kernel_rfl) (by kernel_rfl) (by kernel_rfl) (fun _ _ _ h => h) (Or.inr ⟨by kernel_rfl, rfl⟩) (by assumption) ?_
          try simp only [Act.put, List.setIfInBounds_toArray, List.set_cons_zero, List.set_cons_succ]
          refine wpAnyH_take (i := 12) (oi := ⟨some 22, _, _, _, _, _⟩) (v := undef) rfl (by kernel_rfl) (by kernel_rfl) (by kernel_rfl) (fun _ _ _ h => h) (Or.inr ⟨by kernel_rfl, rfl⟩) (by assumption) ?_
          try simp only [Act.put, List.setIfInBounds_toArray, List.set_cons_zero, List.set_cons_succ]
          refine wpAnyH_take (i := 13) (oi := ⟨some 23, _, _, _, _, _⟩) (v := undef) rfl (by kernel_rfl) (by kernel_rfl) (by kernel_rfl) (fun _ _ _ h => h) (Or.inr ⟨by kernel_rfl, rfl⟩) (by assumption) ?_
          try simp only [Act.put, List.setIfInBounds_toArray, List.set_cons_zero, List.set_cons_succ]
          refine wpAnyH_take (i := 14) (oi := ⟨some 24, _, _, _, _, _⟩) (v := undef) rfl (by kernel_rfl) (by kernel_rfl) (by kernel_rfl) (fun _ _ _ h => h) (Or.inr ⟨by kernel_rfl, rfl⟩) (by assumption) ?_
          try simp only [Act.put, List.setIfInBounds_toArray, List.set_cons_zero, List.set_cons_succ]
          refine wpAnyH_take (i := 15) (oi := ⟨some 25, _, _, _, _, _⟩) (v := undef) rfl (by kernel_rfl) (by kernel_rfl) (by kernel_rfl) (fun _ _ _ h => h) (Or.inr ⟨by kernel_rfl, rfl⟩) (by assumption) ?_
          try simp only [Act.put, List.setIfInBounds_toArray, List.set_cons_zero, List.set_cons_succ]
          refine wpAnyH_take (i := 16) (oi := ⟨some 26, _, _, _, _, _⟩) (v := undef) rfl (by kernel_rfl) (by kernel_rfl) (by kernel_rfl) (fun _ _ _ h => h) (Or.inr ⟨by kernel_rfl, rfl⟩) (by assumption) ?_
          try simp only [Act.put, List.setIfInBounds_toArray, List.set_cons_zero, List.set_cons_succ]
          refine wpAnyH_take (i := 17) (oi := ⟨some 27, _, _, _, _, _⟩) (v := undef) rfl (by kernel_rfl) (by kernel_rfl) (by kernel_rfl) (fun _ _ _ h => h) (Or.inr ⟨by kernel_rfl, rfl⟩) (by assumption) ?_
          try simp only [Act.put, List.setIfInBounds_toArray, List.set_cons_zero, List.set_cons_succ]
          refine wpAnyH_take (i := 18) (oi := ⟨some 28, _, _, _, _, _⟩) (v := undef) rfl (by kernel_rfl) (by kernel_rfl) (by kernel_rfl) (fun _ _ _ h => h) (Or.inr ⟨by kernel_rfl, rfl⟩) (by assumption) ?_
          try simp only [Act.put, List.setIfInBounds_toArray, List.set_cons_zero, List.set_cons_succ]
          refine wpAnyH_take (i := 19) (oi := ⟨some 29, _, _, _, _, _⟩) (v := undef) rfl (by kernel_rfl) (by kernel_rfl) (by kernel_rfl) (fun _ _ _ h => h) (Or.inr ⟨by kernel_rfl, rfl⟩) (by assumption) ?_
          try simp only [Act.put, List.setIfInBounds_toArray, List.set_cons_zero, List.set_cons_succ]
          refine wpAnyH_take (i := 20) (oi := ⟨some 30, _, _, _, _, _⟩) (v := undef) rfl (by kernel_rfl) (by kernel_rfl) (by kernel_rfl) (fun _ _ _ h => h) (Or.inr ⟨by kernel_rfl, rfl⟩) (by assumption) ?_
          try simp only [Act.put, List.setIfInBounds_toArray, List.set_cons_zero, List.set_cons_succ]
          refine wpAnyH_take (i := 21) (oi := ⟨some 31, _, _, _, _, _⟩) (v := undef) rfl (by kernel_rfl) (by kernel_rfl) (by kernel_rfl) (fun _ _ _ h => h) (Or.inr ⟨by kernel_rfl, rfl⟩) (by assumption) ?_
          try simp only [Act.put, List.setIfInBounds_toArray, List.set_cons_zero, List.set_cons_succ]
          refine wpAnyH_take (i := 22) (oi := ⟨some 32, _, _, _, _, _⟩) (v := undef) rfl (by kernel_rfl) (by kernel_rfl) (by kernel_rfl) (fun _ _ _ h => h) (Or.inr ⟨by kernel_rfl, rfl⟩) (by assumption) ?_
          try simp only [Act.put, List.setIfInBounds_toArray, List.set_cons_zero, List.set_cons_succ]
          refine wpAnyH_take (i := 23) (oi := ⟨some 33, _, _, _, _, _⟩) (v := _) rfl (by kernel_rfl) (by kernel_rfl) (by kernel_rfl) (fun _ _ _ h => h) (Or.inl ⟨by kernel_rfl, by (intro wS hSw; (try dsimp only at hSw); go_split_ands; go_simp; (try with_reducible rfl))⟩) (by assumption) ?_
          try simp only [Act.put, List.setIfInBounds_toArray, List.set_cons_zero, List.set_cons_succ]
          refine wpAnyH_done (by kernel_rfl) ?_ _
          have hfin : Below w.heap.size w _ := hHeld.2.2.2
          clear hHeld
          go_wp2_with fail
          go_ret
          exact ⟨ret_bool r.out, hfin⟩
    · by_cases h3 : n ≤ 30
      · have r := Lib.hid (ar_all (xs := xs) (by omega) hu.out (by omega))
        have h3' : decide ((n : Int) ≤ 30) = true := by simp; omega
        clear hu
        go_wp2_with fail
        go_ret
        exact ⟨ret_bool r.out, hb⟩
      · have r := Lib.hid (ar_long (xs := xs) (by omega))
        have h3' : decide ((n : Int) ≤ 30) = false := by simp; omega
        clear hu
        go_wp2_with fail
        go_ret
        exact ⟨ret_bool r.out, hb⟩

end Go.Proofs.YtfhcakpmlppbkaaGreatDoor.Rei
