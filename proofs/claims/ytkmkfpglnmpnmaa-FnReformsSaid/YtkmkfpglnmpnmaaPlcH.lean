/- Contracts of spec's draw of a calendar and a date. -/
import Derived.Test.YtkmkfpglnmpnmaaPlcG
import Derived.Deep.RegionHeld3
import Derived.Deep.RegionWith
namespace Go.Proofs.Ytkmkfpglnmpnmaa.Plc
open Go.RowKit

/-- What a call leaves that draws a calendar and a date. -/
def DrewCD (A : Option Addr) (len cap : Nat) (zs : List Int) (W w : World) (g : Nat) (e : Ending) (w' : World) : Prop :=
  ∃ R y m d : Int, e = .returned (.tuple #[.agg #[.int .i64 R], .agg #[.int .i64 y, .int .i64 m, .int .i64 d]]) ∧ (199999 ≤ R ∧ R ≤ 730500) ∧ Src A len cap zs W w' g ∧ w.grownBy w' (some g)

theorem only_drew {a w : World} {row : Option Nat} (h : a.grownBy w row) : a.grownBy w.drew row := only_drewN h 1
theorem src_drew {A : Option Addr} {len cap : Nat} {zs : List Int} {W w : World} {g : Nat} (h : Src A len cap zs W w g) : Src A len cap zs W w.drew g := h.below ((Below.refl _ _).drew)

/-- While something is drawn: a cell of a block of the call's own, the source. -/
def Dr (A : Option Addr) (len cap : Nat) (zs : List Int) (W w : World) (g C : Nat) (R : Int) (w' : World) : Prop := Blk w' C 35 #[.int .i64 R] ∧ Src A len cap zs W w' g ∧ w.grownBy w' (some g)
theorem Dr.set {A : Option Addr} {len cap : Nat} {zs : List Int} {W w w' : World} {g C : Nat} {R : Int} (h : Dr A len cap zs W w g C R w') {b : Nat} (h1 : b ≠ g) (h2 : b ≠ C) (h3 : W.heap.size ≤ b) (h4 : w.heap.size ≤ b) (i : Nat) (u : Value) : Dr A len cap zs W w g C R (w'.setCell ⟨b, i, none⟩ u) :=
  ⟨h.1.far (p := ⟨b, i, none⟩) (fun e => h2 e.symm) u, src_set h.2.1 h1 h3 i u, grown_set h.2.2 h4 i u⟩
theorem Dr.cell {A : Option Addr} {len cap : Nat} {zs : List Int} {W w w' : World} {g C : Nat} {R : Int} (h : Dr A len cap zs W w g C R w') : w'.cell? ⟨C, 0, none⟩ = some (.int .i64 R) := by
  have := h.1.cell 0
  simpa using this
theorem Dr.both {A : Option Addr} {len cap : Nat} {zs : List Int} {W w w' : World} {g C : Nat} {R : Int} (h : Dr A len cap zs W w g C R w') : w'.cell? ⟨C, 0, none⟩ = some (.int .i64 R) ∧ Dr A len cap zs W w g C R w' := ⟨h.cell, h⟩
theorem Dr.call {A : Option Addr} {len cap : Nat} {zs : List Int} {W w w1 w' : World} {g C : Nat} {R : Int} (h : Dr A len cap zs W w g C R w1) (hs : Src A len cap zs W w' g) (hg : w1.grownBy w' (some g)) (hC : C ≠ g) : Dr A len cap zs W w g C R w' :=
  ⟨h.1.grown hg (fun e => hC (by injection e)), hs, h.2.2.trans hg⟩
theorem Dr.below {A : Option Addr} {len cap : Nat} {zs : List Int} {W w w1 w' : World} {g C : Nat} {R : Int} (h : Dr A len cap zs W w g C R w1) (hb : Below w1.heap.size w1 w') : Dr A len cap zs W w g C R w' :=
  ⟨h.1.below hb h.1.lt, h.2.1.below hb, h.2.2.trans (only_of_below hb _)⟩
theorem Dr.drew {A : Option Addr} {len cap : Nat} {zs : List Int} {W w w' : World} {g C : Nat} {R : Int} (h : Dr A len cap zs W w g C R w') : Dr A len cap zs W w g C R w'.drew := ⟨h.1.drew, src_drew h.2.1, only_drew h.2.2⟩

theorem low (f : Bool) : Cal.ys f 1 ≤ 2 := by rw [Cal.ys_1]; cases f <;> simp

set_option maxHeartbeats 4000000 in
theorem spec_drawCD (A : Option Addr) (len cap : Nat) (zs : List Int) (W w : World) (g : Nat) (hs : Src A len cap zs W w g) (hW : W.heap.size ≤ w.heap.size) :
    Calls Try.prog 87 #[.pointer (some ⟨g, 0, none⟩)] w (DrewCD A len cap zs W w g) := by
  have hl := hs.lt
  go_enter Try.func87, Try.ntmps87
  have k0 := only_alloc (only_alloc (World.grownBy.refl w (some g)) (.cells #[.int .i64 0] 35)) (.cells #[.int .i64 0, .int .i64 0, .int .i64 0] 25)
  have q0 := (Blk.new w 35 #[.int .i64 0]).alloc (.cells #[.int .i64 0, .int .i64 0, .int .i64 0] 25)
  have p0 := Blk.new (w.alloc (.cells #[.int .i64 0] 35)) 25 #[.int .i64 0, .int .i64 0, .int .i64 0]
  have s0 := (hs.alloc (.cells #[.int .i64 0] 35)).alloc (.cells #[.int .i64 0, .int .i64 0, .int .i64 0] 25)
  simp only [World.size_alloc] at p0
  go_wp2_with fail
  refine (spec_l03Draw A len cap zs W _ g s0 (by simp; omega)).mono ?_
  rintro e w1 ⟨R, rfl, hR, s1, k1⟩
  have q1 := (q0.grown k1 (fun e => by injection e; omega)).alloc (.cells #[.int .i64 R] 35)
  have p1 := (p0.grown k1 (fun e => by injection e; omega)).alloc (.cells #[.int .i64 R] 35)
  have hz : w.heap.size + 2 ≤ w1.heap.size := by have := k1.size; simp at this; omega
  have D1 : Dr A len cap zs W w g w1.heap.size R (w1.alloc (.cells #[.int .i64 R] 35)) := ⟨Blk.new _ _ _, s1.alloc _, only_alloc (k0.trans k1) _⟩
  clear k0 q0 p0 s0 k1 s1
  go_wp2_with fail
  generalize w1.heap.size = C at hz D1 ⊢
  have hCg : C ≠ g := by have := D1.2.1.lt; omega
  refine (spec_next A len cap zs W _ g 3 D1.2.1).mono ?_
  rintro e w2 ⟨x, rfl, x0, x1, s2, k2⟩
  have D2 := D1.call s2 k2 hCg
  have q2 := q1.grown k2 (fun e => by injection e; omega)
  have p2 := p1.grown k2 (fun e => by injection e; omega)
  clear D1 q1 p1 s2 k2 x1
  have HR := Lib.hid hR
  have c0 := D2.cell
  by_cases h0 : x = 0
  · subst h0
    go_wp2_with fail
    go_region_held3 (fun w' => w'.cell? ⟨C, 0, none⟩ = some (.int .i64 R) ∧ Dr A len cap zs W w g C R w')
      (first | with_reducible exact D2.drew.both | with_reducible exact DQ.both | with_reducible exact (DQ.set (by omega) (by omega) (by omega) (Nat.le_refl _) 0 _).both | with_reducible exact ((((DQ.set (by omega) (by omega) (by omega) (Nat.le_refl _) 0 _).set (by omega) (by omega) (by omega) (by omega) 0 _).set (by omega) (by omega) (by omega) (by omega) 1 _).set (by omega) (by omega) (by omega) (by omega) 2 _).both)
      (first | (go_at_call 72; refine (spec_drawDate A len cap zs W _ g D2.drew.2.1 (by have := D2.2.2.size; simp; omega)).mono ?_; rintro e wq ⟨y, m, d, rfl, hy, hm, hd, sq, kq⟩; have DQ := D2.drew.call sq kq hCg; have q3 := q2.drew.grown kq (fun e => by injection e; omega); have p3 := p2.drew.grown kq (fun e => by injection e; omega); have f0 := q3.frozen 0; have f1 := p3.frozen 0; have f2 := p3.frozen 1; have f3 := p3.frozen 2; have z0 : wq.cell? ⟨w.heap.size, 0, none⟩ = some (.int .i64 0) := q3.cell 0; obtain ⟨z1, z2, z3⟩ := p3.three; clear hy hm hd))
    go_wp2_with fail
    have DF := ((((DQ.set (b := w.heap.size) (by omega) (by omega) (by omega) (Nat.le_refl _) 0 (.int .i64 R)).set (b := w.heap.size + 1) (by omega) (by omega) (by omega) (by omega) 0 (.int .i64 y)).set (b := w.heap.size + 1) (by omega) (by omega) (by omega) (by omega) 1 (.int .i64 m)).set (b := w.heap.size + 1) (by omega) (by omega) (by omega) (by omega) 2 (.int .i64 d))
    refine bodyPost_ret (v := .tuple #[.agg #[.int .i64 R], .agg #[.int .i64 y, .int .i64 m, .int .i64 d]]) (by simp [results, Try.results87, go_sem, z0, z1, z2, z3]) rfl ⟨R, y, m, d, rfl, HR.out, DF.2.1, DF.2.2⟩
  · have e0 : (x == 0) = false := by simpa using h0
    clear h0
    by_cases h7 : R ≤ 700000
    · have CI := Lib.hid (spec_in R 100 700000)
      rw [inB_true ⟨by omega, h7⟩] at CI
      go_wp2_with fail
      refine (CI.out _).mono ?_
      rintro e w9 ⟨rfl, rfl⟩
      go_wp2_with fail
      go_region_held3 (fun w' => w'.cell? ⟨C, 0, none⟩ = some (.int .i64 R) ∧ Dr A len cap zs W w g C R w')
        (first | with_reducible exact D2.drew.both | with_reducible exact D3.both | with_reducible exact D4.both | with_reducible exact DQ.both | with_reducible exact (DQ.set (by omega) (by omega) (by omega) (Nat.le_refl _) 0 _).both | with_reducible exact ((((DQ.set (by omega) (by omega) (by omega) (Nat.le_refl _) 0 _).set (by omega) (by omega) (by omega) (by omega) 0 _).set (by omega) (by omega) (by omega) (by omega) 1 _).set (by omega) (by omega) (by omega) (by omega) 2 _).both)
        (first
          | (go_at_call_of 84 (Value.int .i64 40); refine (spec_next A len cap zs W _ g 40 D2.drew.2.1).mono ?_; rintro e wa ⟨a, rfl, a0, a1, sa, ka⟩; have a2 : a < 40 := (by omega); have W1 : IntKind.i64.wrap (R + a) = R + a := IntWalk.i64_in _ ⟨by omega, by omega⟩; have W2 : IntKind.i64.wrap (R + a - 20) = R + a - 20 := IntWalk.i64_in _ ⟨by omega, by omega⟩; have D3 := D2.drew.call sa ka hCg; have qa := q2.drew.grown ka (fun e => by injection e; omega); have pa := p2.drew.grown ka (fun e => by injection e; omega); clear a1)
          | (go_at_call_of 84 (Value.int .i64 2); refine (spec_next A len cap zs W _ g 2 D3.2.1).mono ?_; rintro e wb ⟨b, rfl, b0, b1, sb, kb⟩; have D4 := D3.call sb kb hCg; have qb := qa.grown kb (fun e => by injection e; omega); have pb := pa.grown kb (fun e => by injection e; omega); clear b1)
          | (go_at_call 93; refine (spec_date (b == 0) (R + a - 20) (by have := low (b == 0); omega) (by omega) _).mono ?_; rintro e wq ⟨y, m, d, rfl, hy, hm, hd, hq⟩; have DQ := D4.below hq; have q3 := qb.below hq qb.lt; have p3 := pb.below hq pb.lt; have f0 := q3.frozen 0; have f1 := p3.frozen 0; have f2 := p3.frozen 1; have f3 := p3.frozen 2; have z0 : wq.cell? ⟨w.heap.size, 0, none⟩ = some (.int .i64 0) := q3.cell 0; obtain ⟨z1, z2, z3⟩ := p3.three; clear hy hm hd))
      go_wp2_with fail
      have DF := ((((DQ.set (b := w.heap.size) (by omega) (by omega) (by omega) (Nat.le_refl _) 0 (.int .i64 R)).set (b := w.heap.size + 1) (by omega) (by omega) (by omega) (by omega) 0 (.int .i64 y)).set (b := w.heap.size + 1) (by omega) (by omega) (by omega) (by omega) 1 (.int .i64 m)).set (b := w.heap.size + 1) (by omega) (by omega) (by omega) (by omega) 2 (.int .i64 d))
      refine bodyPost_ret (v := .tuple #[.agg #[.int .i64 R], .agg #[.int .i64 y, .int .i64 m, .int .i64 d]]) (by simp [results, Try.results87, go_sem, z0, z1, z2, z3]) rfl ⟨R, y, m, d, rfl, HR.out, DF.2.1, DF.2.2⟩
    · have CI := Lib.hid (spec_in R 100 700000)
      rw [inB_false (by omega)] at CI
      clear h7
      go_wp2_with fail
      refine (CI.out _).mono ?_
      rintro e w9 ⟨rfl, rfl⟩
      go_wp2_with fail
      go_region_held3 (fun w' => w'.cell? ⟨C, 0, none⟩ = some (.int .i64 R) ∧ Dr A len cap zs W w g C R w')
        (first | with_reducible exact D2.drew.both | with_reducible exact DQ.both | with_reducible exact (DQ.set (by omega) (by omega) (by omega) (Nat.le_refl _) 0 _).both | with_reducible exact ((((DQ.set (by omega) (by omega) (by omega) (Nat.le_refl _) 0 _).set (by omega) (by omega) (by omega) (by omega) 0 _).set (by omega) (by omega) (by omega) (by omega) 1 _).set (by omega) (by omega) (by omega) (by omega) 2 _).both)
        (first | (go_at_call 72; refine (spec_drawDate A len cap zs W _ g D2.drew.2.1 (by have := D2.2.2.size; simp; omega)).mono ?_; rintro e wq ⟨y, m, d, rfl, hy, hm, hd, sq, kq⟩; have DQ := D2.drew.call sq kq hCg; have q3 := q2.drew.grown kq (fun e => by injection e; omega); have p3 := p2.drew.grown kq (fun e => by injection e; omega); have f0 := q3.frozen 0; have f1 := p3.frozen 0; have f2 := p3.frozen 1; have f3 := p3.frozen 2; have z0 : wq.cell? ⟨w.heap.size, 0, none⟩ = some (.int .i64 0) := q3.cell 0; obtain ⟨z1, z2, z3⟩ := p3.three; clear hy hm hd))
      go_wp2_with fail
      have DF := ((((DQ.set (b := w.heap.size) (by omega) (by omega) (by omega) (Nat.le_refl _) 0 (.int .i64 R)).set (b := w.heap.size + 1) (by omega) (by omega) (by omega) (by omega) 0 (.int .i64 y)).set (b := w.heap.size + 1) (by omega) (by omega) (by omega) (by omega) 1 (.int .i64 m)).set (b := w.heap.size + 1) (by omega) (by omega) (by omega) (by omega) 2 (.int .i64 d))
      refine bodyPost_ret (v := .tuple #[.agg #[.int .i64 R], .agg #[.int .i64 y, .int .i64 m, .int .i64 d]]) (by simp [results, Try.results87, go_sem, z0, z1, z2, z3]) rfl ⟨R, y, m, d, rfl, HR.out, DF.2.1, DF.2.2⟩

end Go.Proofs.Ytkmkfpglnmpnmaa.Plc
