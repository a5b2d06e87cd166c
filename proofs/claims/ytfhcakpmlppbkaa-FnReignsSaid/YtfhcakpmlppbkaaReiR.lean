/- Contracts of spec's draws of a reign and a number, of a day near to reigns. -/
import Derived.Test.YtfhcakpmlppbkaaReiQ
import Derived.Test.YtfhcakpmlppbkaaDraw5
namespace Go.Proofs.Ytfhcakpmlppbkaa.Rei
open Go.RowKit

section
variable {A : Option Addr} {len cap : Nat} {zs : List Int} {W w wz w' : World} {g R D : Nat} {s : ByteArray} {f t : Int}
theorem AcR.below (h : AcR A len cap zs W w g R D s f t wz) (hb : Below wz.heap.size wz w') : AcR A len cap zs W w g R D s f t w' :=
  ⟨h.src.below hb, h.only.trans (only_of_below hb _), h.r.below hb h.r.lt, h.dt.below hb h.dt.lt, h.rg, h.dg, h.rd, h.rw_, h.dw, h.sb, h.fb, h.tb⟩
theorem AcR.drewR (h : AcR A len cap zs W w g R D s f t wz) : AcR A len cap zs W w g R D s f t wz.drew := h.below (Below.refl _ _).drew
theorem AcR.s3 (h : AcR A len cap zs W w g R D s f t wz) : wz.cell? ⟨D, 0, none⟩ = some (.string s) ∧ wz.cell? ⟨D, 1, none⟩ = some (.int .i64 f) ∧ wz.cell? ⟨D, 2, none⟩ = some (.int .i64 t) := h.cells.1
theorem AcR.far (h : AcR A len cap zs W w g R D s f t wz) (a b c : Value) : (((wz.setCell ⟨R, 0, none⟩ a).setCell ⟨R, 1, none⟩ b).setCell ⟨R, 2, none⟩ c).cell? ⟨D, 0, none⟩ = some (.string s) ∧
    (((wz.setCell ⟨R, 0, none⟩ a).setCell ⟨R, 1, none⟩ b).setCell ⟨R, 2, none⟩ c).cell? ⟨D, 1, none⟩ = some (.int .i64 f) ∧ (((wz.setCell ⟨R, 0, none⟩ a).setCell ⟨R, 1, none⟩ b).setCell ⟨R, 2, none⟩ c).cell? ⟨D, 2, none⟩ = some (.int .i64 t) := by
  have e : ∀ (wq : World) (i k : Nat) (v : Value), (wq.setCell ⟨R, i, none⟩ v).cell? ⟨D, k, none⟩ = wq.cell? ⟨D, k, none⟩ := fun wq i k v => World.cell?_setCell_far _ _ _ _ h.rd
  refine ⟨?_, ?_, ?_⟩ <;> rw [e, e, e]
  · exact h.cells.1.1
  · exact h.cells.1.2.1
  · exact h.cells.1.2.2
theorem AcR.end_ (h : AcR A len cap zs W w g R D s f t wz) (hg : w.heap.size ≤ g) (a b c : Value) : Below w.heap.size w (((wz.setCell ⟨R, 0, none⟩ a).setCell ⟨R, 1, none⟩ b).setCell ⟨R, 2, none⟩ c) :=
  only_below (only_setCell (only_setCell (only_setCell h.only (.inr h.rw_) _) (.inr h.rw_) _) (.inr h.rw_) _) hg (Nat.le_refl _)
end

/-- What a draw leaves that answers a reign and a number. -/
def DrawnRN (w : World) (e : Ending) (w' : World) : Prop :=
  ∃ (s : ByteArray) (f t n : Int), e = .returned (.tuple #[rV s f t, .int .i64 n]) ∧ s.size ≤ 13 ∧ (0 ≤ f ∧ f ≤ 440000) ∧ (-1 ≤ t ∧ t ≤ 730500) ∧ (-2 ≤ n ∧ n ≤ 2000000) ∧ Below w.heap.size w w'

set_option maxRecDepth 100000 in
set_option maxHeartbeats 4000000 in
theorem spec_DrawRegnalSpan (A : Option Addr) (len cap : Nat) (zs : List Int) (W w : World) (hrow : IsRow .u8 W A len cap zs) (hW : Below W.heap.size W w) :
    Calls Try.prog 16 #[.slice A len cap] w (DrawnRN w) := by
  have hWs := hW.size
  have S0 := (St.start w).alloc 25 #[.string ⟨#[]⟩, .int .i64 0, .int .i64 0]
  go_enter Try.func16, Try.ntmps16
  go_wp2_with fail
  refine (spec_from A len cap zs W _ hrow (hW.alloc hWs _)).mono ?_
  rintro e w1 ⟨g, rfl, hg, s1, b1⟩
  have S1 := S0.call b1
  simp at hg
  have z1 := b1.size
  simp at z1
  go_wp2_with fail
  refine (spec_drawReign A len cap zs W _ g s1 (by omega)).mono ?_
  rintro e w2 ⟨s, f, t, rfl, sb, fb, tb, s2, k2⟩
  have z2 := k2.size
  clear b1 S0 s1
  go_wp2_with fail
  refine (spec_next A len cap zs W _ g 10 s2).mono ?_
  rintro e w3 ⟨x3, rfl, a3, b3, s3, k3⟩
  have z3 := k3.size
  have B3 : x3 ≤ 9 := by omega
  replace k3 := k2.trans k3
  clear b3 s2 k2
  go_wp2_with fail
  refine (spec_next A len cap zs W _ g 30 s3).mono ?_
  rintro e w4 ⟨x4, rfl, a4, b4, s4, k4⟩
  have z4 := k4.size
  have B4 : x4 ≤ 29 := by omega
  replace k4 := k3.trans k4
  have hl := s4.lt
  clear b4 s3 k3
  go_wp2_with fail
  refine (spec_pick A len cap zs W _ g _ 5 _ [1, 1 + x3, x4, 0, 3000] (fun x => 0 ≤ x ∧ x ≤ 3000) (s4.alloc _) (Blk.new _ _ _) (by omega) rfl (by omega) (by omega) (by intro y hy; simp at hy; omega)).mono ?_
  rintro e w5 ⟨x5, rfl, ⟨a5, b5⟩, s5, k5⟩
  have k6 := (only_alloc k4 (.cells #[.int .i64 1, .int .i64 (1 + x3), .int .i64 x4, .int .i64 0, .int .i64 3000] 2)).trans k5
  have RB := S1.b0.grown k6 (fun e => by injection e; omega)
  obtain ⟨p0, p1, p2⟩ := RB.three
  have q0 := RB.frozen 0
  have q1 := RB.frozen 1
  have q2 := RB.frozen 2
  have hb := only_below k6 (B := w.heap.size) (by omega) (by omega)
  have hbb := S1.bel.trans hb
  have FIN := Lib.hid (fun a b c => ((hbb.setCell (p := ⟨w.heap.size, 0, none⟩) (Nat.le_refl _) a).setCell (p := ⟨w.heap.size, 1, none⟩) (Nat.le_refl _) b).setCell (p := ⟨w.heap.size, 2, none⟩) (Nat.le_refl _) c)
  clear k4 k5 k6 s4 s5 RB S1 hb hbb hrow hW
  go_wp2_with fail
  refine bodyPost_ret (v := .tuple #[rV s f t, .int .i64 x5]) (by simp [rV, results, Try.results16, go_sem, p0, p1, p2]) rfl ⟨s, f, t, x5, rfl, sb, fb, tb, ⟨by omega, by omega⟩, FIN.out _ _ _⟩

set_option maxRecDepth 100000 in
set_option maxHeartbeats 4000000 in
theorem spec_DrawRegnalYear (A : Option Addr) (len cap : Nat) (zs : List Int) (W w : World) (hrow : IsRow .u8 W A len cap zs) (hW : Below W.heap.size W w) :
    Calls Try.prog 13 #[.slice A len cap] w (DrawnRN w) := by
  have hWs := hW.size
  have S0 := (St.start w).alloc 25 #[.string ⟨#[]⟩, .int .i64 0, .int .i64 0]
  go_enter Try.func13, Try.ntmps13
  go_wp2_with fail
  refine (spec_from A len cap zs W _ hrow (hW.alloc hWs _)).mono ?_
  rintro e w1 ⟨g, rfl, hg, s1, b1⟩
  have S1 := S0.call b1
  simp at hg
  have z1 := b1.size
  simp at z1
  go_wp2_with fail
  refine (spec_drawReign A len cap zs W _ g s1 (by omega)).mono ?_
  rintro e w2 ⟨s, f, t, rfl, sb, fb, tb, s2, k2⟩
  have z2 := k2.size
  have l2 := s2.lt
  have hacc : AcR A len cap zs W w g w.heap.size w2.heap.size s f t (w2.alloc (.cells #[.string s, .int .i64 f, .int .i64 t] 25)) :=
    ⟨s2.alloc _, only_alloc ((only_alloc (World.grownBy.refl w (some g)) _).trans ((only_of_below b1 _).trans k2)) _, (S1.b0.grown k2 (fun e => by injection e; omega)).alloc _, Blk.new _ _ _, by omega, by omega, by omega, Nat.le_refl _, by omega, sb, fb, tb⟩
  clear b1 S0 s1 S1 k2 s2
  go_wp2_with fail
  refine (spec_next A len cap zs W _ g 12 hacc.src).mono ?_
  rintro e w4 ⟨x4, rfl, a4, b4, s4, k4⟩
  have acc := (hacc.call s4 k4).drewR
  have acc0 := hacc.call s4 k4
  clear hacc s4 k4 b4 hrow hW
  generalize w2.heap.size = D at acc acc0 ⊢
  obtain ⟨f0, f1⟩ := fb
  obtain ⟨t0, t1⟩ := tb
  have hg' : w.heap.size ≤ g := by omega
  by_cases h0 : x4 = 0
  · subst h0
    have ld := acc.src.lt
    have w1f : IntKind.i64.wrap (f - 1) = f - 1 := IntWalk.i64_in _ ⟨by omega, by omega⟩
    have w1t : IntKind.i64.wrap (t + 1) = t + 1 := IntWalk.i64_in _ ⟨by omega, by omega⟩
    go_wp2_with fail
    go_region_held3 (fun w' => w'.cell? ⟨D, 0, none⟩ = some (.string s) ∧ w'.cell? ⟨D, 1, none⟩ = some (.int .i64 f) ∧ w'.cell? ⟨D, 2, none⟩ = some (.int .i64 t))
      (first | with_reducible exact acc.s3 | with_reducible exact (acc0.alloc _).drewR.s3 | with_reducible exact acc9.s3 | exact acc9.far _ _ _)
      (first | (go_at_call 47; refine (spec_pick A len cap zs W _ g _ 5 _ [f - 1, f, t, t + 1, -1] (fun x => -2 ≤ x ∧ x ≤ 730501) (acc.src.alloc _) (Blk.new _ _ _) (by omega) rfl (by omega) (by omega) (by intro y hy; simp at hy; omega)).mono ?_; rintro e w9 ⟨x9, rfl, ⟨a9, b9⟩, s9, k9⟩; have acc9 := (acc.alloc (.cells #[.int .i64 (f - 1), .int .i64 f, .int .i64 t, .int .i64 (t + 1), .int .i64 (-1)] 2)).call s9 k9; obtain ⟨_, _, ⟨p0, p1, p2⟩, ⟨q0, q1, q2⟩⟩ := acc9.cells))
    have FIN := Lib.hid (fun a b c => acc9.end_ hg' a b c)
    clear acc9 acc s9 k9
    go_wp2_with fail
    refine bodyPost_ret (v := .tuple #[rV s f t, .int .i64 x9]) (by simp [rV, results, Try.results13, go_sem, p0, p1, p2]) rfl ⟨s, f, t, x9, rfl, sb, ⟨f0, f1⟩, ⟨t0, t1⟩, ⟨by omega, by omega⟩, FIN.out _ _ _⟩
  · have e0 : (x4 == 0) = false := by simpa using h0
    obtain ⟨y, hy⟩ : ∃ y, (if 1 < t - f + 1 then t - f + 1 else 1) = y := ⟨_, rfl⟩
    have hy2 : 1 ≤ y ∧ y ≤ 730502 := by rw [← hy]; split <;> omega
    have w1f : IntKind.i64.wrap (t - f) = t - f := IntWalk.i64_in _ ⟨by omega, by omega⟩
    have w1t : IntKind.i64.wrap (t - f + 1) = t - f + 1 := IntWalk.i64_in _ ⟨by omega, by omega⟩
    clear h0
    go_wp2_with fail
    go_region_held3 (fun w' => w'.cell? ⟨D, 0, none⟩ = some (.string s) ∧ w'.cell? ⟨D, 1, none⟩ = some (.int .i64 f) ∧ w'.cell? ⟨D, 2, none⟩ = some (.int .i64 t))
      (first | with_reducible exact acc.s3 | with_reducible exact acc9.s3 | exact acc9.far _ _ _)
      (first | (go_at_call 46; refine (spec_next A len cap zs W _ g y acc.src).mono ?_; rintro e w9 ⟨x9, rfl, a9, b9, s9, k9⟩; have acc9 := acc.call s9 k9; obtain ⟨_, _, ⟨p0, p1, p2⟩, ⟨q0, q1, q2⟩⟩ := acc9.cells; have w1x : IntKind.i64.wrap (f + x9) = f + x9 := IntWalk.i64_in _ ⟨by omega, by omega⟩))
    have FIN := Lib.hid (fun a b c => acc9.end_ hg' a b c)
    clear acc9 acc s9 k9
    go_wp2_with fail
    refine bodyPost_ret (v := .tuple #[rV s f t, .int .i64 (f + x9)]) (by simp [rV, results, Try.results13, go_sem, p0, p1, p2]) rfl ⟨s, f, t, f + x9, rfl, sb, ⟨f0, f1⟩, ⟨t0, t1⟩, ⟨by omega, by omega⟩, FIN.out _ _ _⟩

end Go.Proofs.Ytfhcakpmlppbkaa.Rei
