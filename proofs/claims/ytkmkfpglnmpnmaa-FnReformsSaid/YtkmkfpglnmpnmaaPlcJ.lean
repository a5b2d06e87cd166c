/- The contract of spec's draw of two places' dates. -/
import Derived.Test.YtkmkfpglnmpnmaaPlcK
import Derived.Test.YtkmkfpglnmpnmaaPlcV
import Derived.Deep.RegionHeld3
import Derived.Test.YtkmkfpglnmpnmaaPlcZ
namespace Go.Proofs.Ytkmkfpglnmpnmaa.Plc
open Go.RowKit

/-- Blocks of the call's own, known whole, beside a source of drawn numbers. -/
structure DS (L : List (Nat × TypeId × Array Value)) (A : Option Addr) (len cap : Nat) (zs : List Int) (W w0 : World) (g : Nat) (w : World) : Prop where
  src : Src A len cap zs W w g
  only : w0.grownBy w (some g)
  blk : ∀ x ∈ L, Blk w x.1 x.2.1 x.2.2
  ne : ∀ x ∈ L, x.1 ≠ g
section
variable {L : List (Nat × TypeId × Array Value)} {A : Option Addr} {len cap : Nat} {zs : List Int} {W w0 w w' : World} {g : Nat}
theorem DS.call (h : DS L A len cap zs W w0 g w) (hs : Src A len cap zs W w' g) (hg : w.grownBy w' (some g)) : DS L A len cap zs W w0 g w' :=
  ⟨hs, h.only.trans hg, fun x hx => (h.blk x hx).grown hg (fun e => h.ne x hx (by injection e)), h.ne⟩
theorem DS.below (h : DS L A len cap zs W w0 g w) (hb : Below w.heap.size w w') : DS L A len cap zs W w0 g w' :=
  ⟨h.src.below hb, h.only.trans (only_of_below hb _), fun x hx => (h.blk x hx).below hb (h.blk x hx).lt, h.ne⟩
theorem DS.drew (h : DS L A len cap zs W w0 g w) : DS L A len cap zs W w0 g w.drew := h.below (Below.refl _ _).drew
theorem DS.allocAny (h : DS L A len cap zs W w0 g w) (o : Obj) : DS L A len cap zs W w0 g (w.alloc o) := h.below ((Below.refl _ _).alloc (Nat.le_refl _) _)
theorem DS.alloc (h : DS L A len cap zs W w0 g w) (t : TypeId) (cs : Array Value) : DS ((w.heap.size, t, cs) :: L) A len cap zs W w0 g (w.alloc (.cells cs t)) := by
  have k := h.allocAny (.cells cs t)
  refine ⟨k.src, k.only, fun x hx => ?_, fun x hx => ?_⟩
  · rcases List.mem_cons.1 hx with rfl | hx
    · exact Blk.new _ _ _
    · exact k.blk x hx
  · rcases List.mem_cons.1 hx with rfl | hx
    · exact Nat.ne_of_gt h.src.lt
    · exact k.ne x hx
theorem DS.sub (h : DS L A len cap zs W w0 g w) {L' : List (Nat × TypeId × Array Value)} (hs : ∀ x ∈ L', x ∈ L) : DS L' A len cap zs W w0 g w := ⟨h.src, h.only, fun x hx => h.blk x (hs x hx), fun x hx => h.ne x (hs x hx)⟩
theorem DS.set (h : DS L A len cap zs W w0 g w) {b : Nat} (h1 : b ≠ g) (h2 : ∀ x ∈ L, x.1 ≠ b) (h3 : W.heap.size ≤ b) (h4 : w0.heap.size ≤ b) (i : Nat) (u : Value) : DS L A len cap zs W w0 g (w.setCell ⟨b, i, none⟩ u) :=
  ⟨src_set h.src h1 h3 i u, grown_set h.only h4 i u, fun x hx => (h.blk x hx).far (p := ⟨b, i, none⟩) (h2 x hx) u, h.ne⟩
theorem DS.one {b : Nat} {t : TypeId} {R : Int} (h : DS L A len cap zs W w0 g w) (m : (b, t, #[.int .i64 R]) ∈ L) : w.cell? ⟨b, 0, none⟩ = some (.int .i64 R) := (h.blk _ m).cell 0
theorem DS.three {b : Nat} {t : TypeId} {y m d : Int} (h : DS L A len cap zs W w0 g w) (k : (b, t, #[.int .i64 y, .int .i64 m, .int .i64 d]) ∈ L) : w.cell? ⟨b, 0, none⟩ = some (.int .i64 y) ∧ w.cell? ⟨b, 1, none⟩ = some (.int .i64 m) ∧ w.cell? ⟨b, 2, none⟩ = some (.int .i64 d) := (h.blk _ k).three
/-- What the loads need, beside the blocks. -/
theorem DS.seven {b1 b2 b3 : Nat} {R y m d R' : Int} (h : DS L A len cap zs W w0 g w) (m1 : (b1, 35, #[.int .i64 R]) ∈ L) (m2 : (b2, 25, #[.int .i64 y, .int .i64 m, .int .i64 d]) ∈ L) (m3 : (b3, 35, #[.int .i64 R']) ∈ L) :
    w.cell? ⟨b1, 0, none⟩ = some (.int .i64 R) ∧ w.cell? ⟨b2, 0, none⟩ = some (.int .i64 y) ∧ w.cell? ⟨b2, 1, none⟩ = some (.int .i64 m) ∧ w.cell? ⟨b2, 2, none⟩ = some (.int .i64 d) ∧ w.cell? ⟨b3, 0, none⟩ = some (.int .i64 R') ∧ DS L A len cap zs W w0 g w := by
  obtain ⟨d0, d1, d2⟩ := h.three m2
  exact ⟨h.one m1, d0, d1, d2, h.one m3, h⟩
theorem DS.nine {b1 b2 b3 b4 : Nat} {R y m d R' y' m' d' : Int} (h : DS L A len cap zs W w0 g w) (m1 : (b1, 35, #[.int .i64 R]) ∈ L) (m2 : (b2, 25, #[.int .i64 y, .int .i64 m, .int .i64 d]) ∈ L) (m3 : (b3, 35, #[.int .i64 R']) ∈ L) (m4 : (b4, 25, #[.int .i64 y', .int .i64 m', .int .i64 d']) ∈ L) :
    w.cell? ⟨b1, 0, none⟩ = some (.int .i64 R) ∧ w.cell? ⟨b2, 0, none⟩ = some (.int .i64 y) ∧ w.cell? ⟨b2, 1, none⟩ = some (.int .i64 m) ∧ w.cell? ⟨b2, 2, none⟩ = some (.int .i64 d) ∧ w.cell? ⟨b3, 0, none⟩ = some (.int .i64 R') ∧ w.cell? ⟨b4, 0, none⟩ = some (.int .i64 y') ∧ w.cell? ⟨b4, 1, none⟩ = some (.int .i64 m') ∧ w.cell? ⟨b4, 2, none⟩ = some (.int .i64 d') ∧ DS L A len cap zs W w0 g w := by
  obtain ⟨d0, d1, d2⟩ := h.three m2
  obtain ⟨e0, e1, e2⟩ := h.three m4
  exact ⟨h.one m1, d0, d1, d2, h.one m3, e0, e1, e2, h⟩
theorem DS.with_ {L' : List (Nat × TypeId × Array Value)} (h : DS L A len cap zs W w0 g w) {b : Nat} {t : TypeId} {cs : Array Value} (hb : Blk w b t cs) (hn : b ≠ g) (hs : ∀ x ∈ L', x ∈ L) : DS ((b, t, cs) :: L') A len cap zs W w0 g w :=
  ⟨h.src, h.only, fun x hx => by
    rcases List.mem_cons.1 hx with rfl | hx
    · exact hb
    · exact h.blk x (hs x hx), fun x hx => by
    rcases List.mem_cons.1 hx with rfl | hx
    · exact hn
    · exact h.ne x (hs x hx)⟩
theorem DS.eight {b1 : Nat} {R : Int} (h : DS L A len cap zs W w0 g w) (m1 : (b1, 35, #[.int .i64 R]) ∈ L) : w.cell? ⟨b1, 0, none⟩ = some (.int .i64 R) ∧ DS L A len cap zs W w0 g w := ⟨h.one m1, h⟩
end

def DrawnSD (w : World) (e : Ending) (w' : World) : Prop := ∃ R y m d R' y' m' d' : Int, e = .returned (.tuple #[.agg #[.int .i64 R], .agg #[.int .i64 y, .int .i64 m, .int .i64 d], .agg #[.int .i64 R'], .agg #[.int .i64 y', .int .i64 m', .int .i64 d']]) ∧ Below w.heap.size w w'

theorem below_chain {W w w' : World} (h : Below W.heap.size W w) (k : Below w.heap.size w w') : Below W.heap.size W w' := h.trans (k.mono h.size)
theorem lnum_bd (R y m d : Int) : 0 ≤ Loc.lnum R y m d ∧ Loc.lnum R y m d ≤ 730500 := by
  unfold Loc.lnum
  split
  · rename_i h
    have := Cal.num_range false h.1
    rw [Cal.ys_1, Cal.ys_2001] at this
    simp at this
    omega
  · split
    · rename_i h
      have := Cal.num_range true h.1
      rw [Cal.ys_1, Cal.ys_2001] at this
      simp at this
      omega
    · omega

set_option maxHeartbeats 8000000 in
set_option maxRecDepth 100000 in
theorem spec_DrawSameDay (A : Option Addr) (len cap : Nat) (zs : List Int) (W w : World) (hrow : IsRow .u8 W A len cap zs) (hW : Below W.heap.size W w) :
    Calls Try.prog 51 #[.slice A len cap] w (DrawnSD w) := by
  go_enter Try.func51, Try.ntmps51
  have S := ((((St.start w).alloc 35 #[.int .i64 0]).alloc 25 #[.int .i64 0, .int .i64 0, .int .i64 0]).alloc 35 #[.int .i64 0]).alloc 25 #[.int .i64 0, .int .i64 0, .int .i64 0]
  simp only [World.size_alloc] at S
  go_wp2_with fail
  refine (spec_from A len cap zs W _ hrow (below_chain hW S.bel)).mono ?_
  rintro e w1 ⟨g, rfl, hg, s1, b1⟩
  have S := S.call b1
  have hgw : w.heap.size + 4 ≤ g := by simpa [Nat.add_assoc] using hg
  have hWs := hW.size
  have D1 : DS [(w.heap.size + 1 + 1 + 1, 25, #[.int .i64 0, .int .i64 0, .int .i64 0]), (w.heap.size + 1 + 1, 35, #[.int .i64 0]), (w.heap.size + 1, 25, #[.int .i64 0, .int .i64 0, .int .i64 0]), (w.heap.size, 35, #[.int .i64 0])] A len cap zs W w g w1 := ⟨s1, only_of_below S.bel _, S.blk, by
    intro x hx
    simp only [List.mem_cons, List.not_mem_nil, or_false] at hx
    rcases hx with rfl | rfl | rfl | rfl <;> simp only <;> omega⟩
  have hz1 : w.heap.size + 4 ≤ w1.heap.size := by have := b1.size; simpa [Nat.add_assoc] using this
  clear S s1 b1 hg
  go_wp2_with fail
  refine (spec_drawCD A len cap zs W _ g D1.src (by omega)).mono ?_
  rintro e w2 ⟨R, y, m, d, rfl, hR, s2, k2⟩
  have hz2 := k2.size
  have D2 := ((D1.call s2 k2).alloc 35 #[.int .i64 R]).alloc 25 #[.int .i64 y, .int .i64 m, .int .i64 d]
  simp only [World.size_alloc] at D2
  clear D1 s2 k2
  go_wp2_with fail
  generalize hC7 : w2.heap.size = C7 at D2 hz2 ⊢
  refine (spec_l03Draw A len cap zs W _ g D2.src (by simp; omega)).mono ?_
  rintro e w3 ⟨R', rfl, hR', s3, k3⟩
  have hz3 : C7 + 2 ≤ w3.heap.size := by have := k3.size; simp at this; omega
  have D3 := (D2.call s3 k3).alloc 35 #[.int .i64 R']
  clear D2 s3 k3 hC7
  have c7 := D3.one (b := C7) (t := 35) (R := R) (by simp)
  obtain ⟨c80, c81, c82⟩ := D3.three (b := C7 + 1) (t := 25) (y := y) (m := m) (d := d) (by simp)
  have C := Lib.hid (spec_day_ R y m d)
  have hN : 0 ≤ Loc.lnum R y m d ∧ Loc.lnum R y m d ≤ 730500 := lnum_bd R y m d
  generalize Loc.lnum R y m d = N at C hN
  generalize decide (Loc.isL R y m d) = ok at C
  go_wp2_with fail
  generalize hC9 : w3.heap.size = C9 at D3 hz3 c7 c80 c81 c82 ⊢
  refine (C.out _).mono ?_
  rintro e w4 ⟨rfl, hb4⟩
  have D4 : DS [(C9, 35, #[.int .i64 R']), (C7 + 1, 25, #[.int .i64 y, .int .i64 m, .int .i64 d]), (C7, 35, #[.int .i64 R]), (w.heap.size + 1 + 1 + 1, 25, #[.int .i64 0, .int .i64 0, .int .i64 0]), (w.heap.size + 1 + 1, 35, #[.int .i64 0]), (w.heap.size + 1, 25, #[.int .i64 0, .int .i64 0, .int .i64 0]), (w.heap.size, 35, #[.int .i64 0])] A len cap zs W w g w4 := D3.below hb4
  have hz4 : C9 + 1 ≤ w4.heap.size := by have := hb4.size; simp at this; omega
  clear D3 hb4 c7 c80 c81 c82 hC9
  have HR := Lib.hid (And.intro hR hR')
  have hgC : g ≠ C9 ∧ g ≠ C7 ∧ g ≠ C7 + 1 := ⟨fun e => D4.ne _ (List.mem_cons_self ..) e.symm, fun e => D4.ne (C7, 35, #[.int .i64 R]) (by simp) e.symm, fun e => D4.ne (C7 + 1, 25, #[.int .i64 y, .int .i64 m, .int .i64 d]) (by simp) e.symm⟩
  have sub37 : ∀ x ∈ ([(C9, 35, #[.int .i64 R']), (C7 + 1, 25, #[.int .i64 y, .int .i64 m, .int .i64 d]), (C7, 35, #[.int .i64 R])] : List (Nat × TypeId × Array Value)), x ∈ ([(C9, 35, #[.int .i64 R']), (C7 + 1, 25, #[.int .i64 y, .int .i64 m, .int .i64 d]), (C7, 35, #[.int .i64 R]), (w.heap.size + 1 + 1 + 1, 25, #[.int .i64 0, .int .i64 0, .int .i64 0]), (w.heap.size + 1 + 1, 35, #[.int .i64 0]), (w.heap.size + 1, 25, #[.int .i64 0, .int .i64 0, .int .i64 0]), (w.heap.size, 35, #[.int .i64 0])] : List (Nat × TypeId × Array Value)) := by
    intro x hx
    simp only [List.mem_cons, List.not_mem_nil, or_false] at hx ⊢
    rcases hx with h | h | h
    · exact .inl h
    · exact .inr (.inl h)
    · exact .inr (.inr (.inl h))
  have NE : ∀ b, b < C7 → ∀ x ∈ ([(C9, 35, #[.int .i64 R']), (C7 + 1, 25, #[.int .i64 y, .int .i64 m, .int .i64 d]), (C7, 35, #[.int .i64 R])] : List (Nat × TypeId × Array Value)), x.1 ≠ b := by
    intro b hb x hx
    simp only [List.mem_cons, List.not_mem_nil, or_false] at hx
    rcases hx with rfl | rfl | rfl <;> simp only <;> omega
  have NE7 : ∀ b, C9 + 1 ≤ b → ∀ x ∈ ([(C9, 35, #[.int .i64 R']), (C7 + 1, 25, #[.int .i64 y, .int .i64 m, .int .i64 d]), (C7, 35, #[.int .i64 R]), (w.heap.size + 1 + 1 + 1, 25, #[.int .i64 0, .int .i64 0, .int .i64 0]), (w.heap.size + 1 + 1, 35, #[.int .i64 0]), (w.heap.size + 1, 25, #[.int .i64 0, .int .i64 0, .int .i64 0]), (w.heap.size, 35, #[.int .i64 0])] : List (Nat × TypeId × Array Value)), x.1 ≠ b := by
    intro b hb x hx
    simp only [List.mem_cons, List.not_mem_nil, or_false] at hx
    rcases hx with rfl | rfl | rfl | rfl | rfl | rfl | rfl <;> simp only <;> omega
  cases ok
  · go_wp2_with fail
    go_region_held3 (fun w' => w'.cell? ⟨C7, 0, none⟩ = some (.int .i64 R) ∧ w'.cell? ⟨C7 + 1, 0, none⟩ = some (.int .i64 y) ∧ w'.cell? ⟨C7 + 1, 1, none⟩ = some (.int .i64 m) ∧ w'.cell? ⟨C7 + 1, 2, none⟩ = some (.int .i64 d) ∧ w'.cell? ⟨C9, 0, none⟩ = some (.int .i64 R') ∧ DS [(C9, 35, #[.int .i64 R']), (C7 + 1, 25, #[.int .i64 y, .int .i64 m, .int .i64 d]), (C7, 35, #[.int .i64 R])] A len cap zs W w g w')
      (first | with_reducible exact (D4.drew.sub sub37).seven (by simp) (by simp) (by simp) | with_reducible exact DQ3.seven (by simp) (by simp) (by simp) | with_reducible exact (DQ3.set (by omega) (NE _ (by omega)) (by omega) (by omega) 0 _).seven (by simp) (by simp) (by simp) | with_reducible exact ((((DQ3.set (by omega) (NE _ (by omega)) (by omega) (by omega) 0 _).set (by omega) (NE _ (by omega)) (by omega) (by omega) 0 _).set (by omega) (NE _ (by omega)) (by omega) (by omega) 1 _).set (by omega) (NE _ (by omega)) (by omega) (by omega) 2 _).seven (by simp) (by simp) (by simp) | with_reducible exact (((((DQ3.set (by omega) (NE _ (by omega)) (by omega) (by omega) 0 _).set (by omega) (NE _ (by omega)) (by omega) (by omega) 0 _).set (by omega) (NE _ (by omega)) (by omega) (by omega) 1 _).set (by omega) (NE _ (by omega)) (by omega) (by omega) 2 _).set (by omega) (NE _ (by omega)) (by omega) (by omega) 0 _).seven (by simp) (by simp) (by simp) | with_reducible exact ((((((((DQ3.set (by omega) (NE _ (by omega)) (by omega) (by omega) 0 _).set (by omega) (NE _ (by omega)) (by omega) (by omega) 0 _).set (by omega) (NE _ (by omega)) (by omega) (by omega) 1 _).set (by omega) (NE _ (by omega)) (by omega) (by omega) 2 _).set (by omega) (NE _ (by omega)) (by omega) (by omega) 0 _).set (by omega) (NE _ (by omega)) (by omega) (by omega) 0 _).set (by omega) (NE _ (by omega)) (by omega) (by omega) 1 _).set (by omega) (NE _ (by omega)) (by omega) (by omega) 2 _).seven (by simp) (by simp) (by simp))
      (first | (go_at_call 72; refine (spec_drawDate A len cap zs W _ g D4.drew.src (by have := D4.only.size; simp; omega)).mono ?_; rintro e wq ⟨y', m', d', rfl, hy, hm, hd, sq, kq⟩; have DQ := D4.drew.call sq kq; have DQ3 := DQ.sub sub37; have p0 := DQ.blk (w.heap.size, 35, #[.int .i64 0]) (by simp); have p1 := DQ.blk (w.heap.size + 1, 25, #[.int .i64 0, .int .i64 0, .int .i64 0]) (by simp); have p2 := DQ.blk (w.heap.size + 1 + 1, 35, #[.int .i64 0]) (by simp); have p3 := DQ.blk (w.heap.size + 1 + 1 + 1, 25, #[.int .i64 0, .int .i64 0, .int .i64 0]) (by simp); have f0 := p0.frozen 0; have f1 := p1.frozen 0; have f2 := p1.frozen 1; have f3 := p1.frozen 2; have f4 := p2.frozen 0; have f5 := p3.frozen 0; have f6 := p3.frozen 1; have f7 := p3.frozen 2; have z0 := p0.cell 0; obtain ⟨z1, z2, z3⟩ := p1.three; have z4 := p2.cell 0; obtain ⟨z5, z6, z7⟩ := p3.three; simp only [List.getElem?_toArray, List.getElem?_cons_zero] at z0 z4; clear p0 p1 p2 p3; clear hy hm hd))
    go_wp2_with fail
    have DZ := ((((((((DQ3.set (b := w.heap.size) (by omega) (NE _ (by omega)) (by omega) (by omega) 0 (.int .i64 R)).set (b := w.heap.size + 1) (by omega) (NE _ (by omega)) (by omega) (by omega) 0 (.int .i64 y)).set (b := w.heap.size + 1) (by omega) (NE _ (by omega)) (by omega) (by omega) 1 (.int .i64 m)).set (b := w.heap.size + 1) (by omega) (NE _ (by omega)) (by omega) (by omega) 2 (.int .i64 d)).set (b := w.heap.size + 1 + 1) (by omega) (NE _ (by omega)) (by omega) (by omega) 0 (.int .i64 R')).set (b := w.heap.size + 1 + 1 + 1) (by omega) (NE _ (by omega)) (by omega) (by omega) 0 (.int .i64 y')).set (b := w.heap.size + 1 + 1 + 1) (by omega) (NE _ (by omega)) (by omega) (by omega) 1 (.int .i64 m')).set (b := w.heap.size + 1 + 1 + 1) (by omega) (NE _ (by omega)) (by omega) (by omega) 2 (.int .i64 d'))
    refine bodyPost_ret (v := .tuple #[.agg #[.int .i64 R], .agg #[.int .i64 y, .int .i64 m, .int .i64 d], .agg #[.int .i64 R'], .agg #[.int .i64 y', .int .i64 m', .int .i64 d']]) (by simp [results, Try.results51, go_sem, z0, z1, z2, z3, z4, z5, z6, z7]) rfl ⟨R, y, m, d, R', y', m', d', rfl, only_below DZ.only (by omega) (Nat.le_refl _)⟩
  · go_wp2_with fail
    refine (spec_next A len cap zs W _ g 4 D4.src).mono ?_
    rintro e w5 ⟨x, rfl, x0, x1, s5, k5⟩
    have D5 := D4.call s5 k5
    have hz5 := k5.size
    have hgl := s5.lt
    clear D4 s5 k5 x1
    by_cases h0 : x = 0
    · subst h0
      go_wp2_with fail
      go_region_held3 (fun w' => w'.cell? ⟨C7, 0, none⟩ = some (.int .i64 R) ∧ w'.cell? ⟨C7 + 1, 0, none⟩ = some (.int .i64 y) ∧ w'.cell? ⟨C7 + 1, 1, none⟩ = some (.int .i64 m) ∧ w'.cell? ⟨C7 + 1, 2, none⟩ = some (.int .i64 d) ∧ w'.cell? ⟨C9, 0, none⟩ = some (.int .i64 R') ∧ DS [(C9, 35, #[.int .i64 R']), (C7 + 1, 25, #[.int .i64 y, .int .i64 m, .int .i64 d]), (C7, 35, #[.int .i64 R])] A len cap zs W w g w')
        (first | with_reducible exact (D5.drew.sub sub37).seven (by simp) (by simp) (by simp) | with_reducible exact DQ3.seven (by simp) (by simp) (by simp) | with_reducible exact (DQ3.set (by omega) (NE _ (by omega)) (by omega) (by omega) 0 _).seven (by simp) (by simp) (by simp) | with_reducible exact ((((DQ3.set (by omega) (NE _ (by omega)) (by omega) (by omega) 0 _).set (by omega) (NE _ (by omega)) (by omega) (by omega) 0 _).set (by omega) (NE _ (by omega)) (by omega) (by omega) 1 _).set (by omega) (NE _ (by omega)) (by omega) (by omega) 2 _).seven (by simp) (by simp) (by simp) | with_reducible exact (((((DQ3.set (by omega) (NE _ (by omega)) (by omega) (by omega) 0 _).set (by omega) (NE _ (by omega)) (by omega) (by omega) 0 _).set (by omega) (NE _ (by omega)) (by omega) (by omega) 1 _).set (by omega) (NE _ (by omega)) (by omega) (by omega) 2 _).set (by omega) (NE _ (by omega)) (by omega) (by omega) 0 _).seven (by simp) (by simp) (by simp) | with_reducible exact ((((((((DQ3.set (by omega) (NE _ (by omega)) (by omega) (by omega) 0 _).set (by omega) (NE _ (by omega)) (by omega) (by omega) 0 _).set (by omega) (NE _ (by omega)) (by omega) (by omega) 1 _).set (by omega) (NE _ (by omega)) (by omega) (by omega) 2 _).set (by omega) (NE _ (by omega)) (by omega) (by omega) 0 _).set (by omega) (NE _ (by omega)) (by omega) (by omega) 0 _).set (by omega) (NE _ (by omega)) (by omega) (by omega) 1 _).set (by omega) (NE _ (by omega)) (by omega) (by omega) 2 _).seven (by simp) (by simp) (by simp))
        (first | (go_at_call 72; refine (spec_drawDate A len cap zs W _ g D5.drew.src (by have := D5.only.size; simp; omega)).mono ?_; rintro e wq ⟨y', m', d', rfl, hy, hm, hd, sq, kq⟩; have DQ := D5.drew.call sq kq; have DQ3 := DQ.sub sub37; have p0 := DQ.blk (w.heap.size, 35, #[.int .i64 0]) (by simp); have p1 := DQ.blk (w.heap.size + 1, 25, #[.int .i64 0, .int .i64 0, .int .i64 0]) (by simp); have p2 := DQ.blk (w.heap.size + 1 + 1, 35, #[.int .i64 0]) (by simp); have p3 := DQ.blk (w.heap.size + 1 + 1 + 1, 25, #[.int .i64 0, .int .i64 0, .int .i64 0]) (by simp); have f0 := p0.frozen 0; have f1 := p1.frozen 0; have f2 := p1.frozen 1; have f3 := p1.frozen 2; have f4 := p2.frozen 0; have f5 := p3.frozen 0; have f6 := p3.frozen 1; have f7 := p3.frozen 2; have z0 := p0.cell 0; obtain ⟨z1, z2, z3⟩ := p1.three; have z4 := p2.cell 0; obtain ⟨z5, z6, z7⟩ := p3.three; simp only [List.getElem?_toArray, List.getElem?_cons_zero] at z0 z4; clear p0 p1 p2 p3; clear hy hm hd))
      go_wp2_with fail
      have DZ := ((((((((DQ3.set (b := w.heap.size) (by omega) (NE _ (by omega)) (by omega) (by omega) 0 (.int .i64 R)).set (b := w.heap.size + 1) (by omega) (NE _ (by omega)) (by omega) (by omega) 0 (.int .i64 y)).set (b := w.heap.size + 1) (by omega) (NE _ (by omega)) (by omega) (by omega) 1 (.int .i64 m)).set (b := w.heap.size + 1) (by omega) (NE _ (by omega)) (by omega) (by omega) 2 (.int .i64 d)).set (b := w.heap.size + 1 + 1) (by omega) (NE _ (by omega)) (by omega) (by omega) 0 (.int .i64 R')).set (b := w.heap.size + 1 + 1 + 1) (by omega) (NE _ (by omega)) (by omega) (by omega) 0 (.int .i64 y')).set (b := w.heap.size + 1 + 1 + 1) (by omega) (NE _ (by omega)) (by omega) (by omega) 1 (.int .i64 m')).set (b := w.heap.size + 1 + 1 + 1) (by omega) (NE _ (by omega)) (by omega) (by omega) 2 (.int .i64 d'))
      refine bodyPost_ret (v := .tuple #[.agg #[.int .i64 R], .agg #[.int .i64 y, .int .i64 m, .int .i64 d], .agg #[.int .i64 R'], .agg #[.int .i64 y', .int .i64 m', .int .i64 d']]) (by simp [results, Try.results51, go_sem, z0, z1, z2, z3, z4, z5, z6, z7]) rfl ⟨R, y, m, d, R', y', m', d', rfl, only_below DZ.only (by omega) (Nat.le_refl _)⟩
    · have e0 : (x == 0) = false := by simpa using h0
      clear h0
      go_wp2_with fail
      go_region_held3 (fun w' => w'.cell? ⟨C9, 0, none⟩ = some (.int .i64 R') ∧ DS [(C9, 35, #[.int .i64 R']), (C7 + 1, 25, #[.int .i64 y, .int .i64 m, .int .i64 d]), (C7, 35, #[.int .i64 R]), (w.heap.size + 1 + 1 + 1, 25, #[.int .i64 0, .int .i64 0, .int .i64 0]), (w.heap.size + 1 + 1, 35, #[.int .i64 0]), (w.heap.size + 1, 25, #[.int .i64 0, .int .i64 0, .int .i64 0]), (w.heap.size, 35, #[.int .i64 0])] A len cap zs W w g w')
        (first | with_reducible exact D5.drew.eight (by simp) | with_reducible exact DB.eight (by simp) | with_reducible exact DA.eight (by simp) | (go_split_ands; with_reducible exact DS.eight (DS.allocAny (by assumption) _) (by simp)) | (go_split_ands; with_reducible exact DS.eight (DS.set (DS.set (DS.set (by assumption) (by omega) (NE7 _ (by omega)) (by omega) (by omega) 0 _) (by omega) (NE7 _ (by omega)) (by omega) (by omega) 1 _) (by omega) (NE7 _ (by omega)) (by omega) (by omega) 2 _) (by simp)))
        (first
          | (go_at_call_of 84 (Value.int .i64 10); refine (spec_next A len cap zs W _ g 10 (DS.src (L := [(C9, 35, #[.int .i64 R']), (C7 + 1, 25, #[.int .i64 y, .int .i64 m, .int .i64 d]), (C7, 35, #[.int .i64 R]), (w.heap.size + 1 + 1 + 1, 25, #[.int .i64 0, .int .i64 0, .int .i64 0]), (w.heap.size + 1 + 1, 35, #[.int .i64 0]), (w.heap.size + 1, 25, #[.int .i64 0, .int .i64 0, .int .i64 0]), (w.heap.size, 35, #[.int .i64 0])]) (w0 := w) (by go_split_ands; assumption))).mono ?_; rintro e wa ⟨a, rfl, a0, a1, sa, ka⟩; have a2 : a ≤ 9 := (by omega); have DA : DS [(C9, 35, #[.int .i64 R']), (C7 + 1, 25, #[.int .i64 y, .int .i64 m, .int .i64 d]), (C7, 35, #[.int .i64 R]), (w.heap.size + 1 + 1 + 1, 25, #[.int .i64 0, .int .i64 0, .int .i64 0]), (w.heap.size + 1 + 1, 35, #[.int .i64 0]), (w.heap.size + 1, 25, #[.int .i64 0, .int .i64 0, .int .i64 0]), (w.heap.size, 35, #[.int .i64 0])] A len cap zs W w g wa := DS.call (by go_split_ands; assumption) sa ka; have hza : w5.heap.size ≤ wa.heap.size := Nat.le_trans (by simp) ka.size; (first | (have ZA : Blk wa w5.heap.size 25 #[.int .i64 0, .int .i64 0, .int .i64 0] := Blk.grown (Blk.new w5.drew _ _) ka (fun e => by injection e; omega)) | skip); have W0 : a.tdiv 9 = a / 9 := Int.tdiv_eq_ediv_of_nonneg a0; have W1 : IntKind.i64.wrap (a / 9) = a / 9 := IntWalk.i64_in _ ⟨by omega, by omega⟩; have W2 : IntKind.i64.wrap (N + a / 9) = N + a / 9 := IntWalk.i64_in _ ⟨by omega, by omega⟩; obtain ⟨k, hk⟩ : ∃ k, (if N + a / 9 < 730400 then N + a / 9 else 730400) = k := ⟨_, rfl⟩; have k0 : 0 ≤ k ∧ k ≤ 730400 := (by rw [← hk]; split <;> omega); clear a1)
          | (go_at_call 86; refine (spec_ldate R' k (by omega) k0.1 (by omega) _).mono ?_; rintro e wq ⟨y', m', d', b, rfl, hd, hq⟩; have DB : DS [(C9, 35, #[.int .i64 R']), (C7 + 1, 25, #[.int .i64 y, .int .i64 m, .int .i64 d]), (C7, 35, #[.int .i64 R]), (w.heap.size + 1 + 1 + 1, 25, #[.int .i64 0, .int .i64 0, .int .i64 0]), (w.heap.size + 1 + 1, 35, #[.int .i64 0]), (w.heap.size + 1, 25, #[.int .i64 0, .int .i64 0, .int .i64 0]), (w.heap.size, 35, #[.int .i64 0])] A len cap zs W w g wq := DS.below (by go_split_ands; assumption) hq; have hzb : wa.heap.size ≤ wq.heap.size := Nat.le_trans (by simp) hq.size; (first | (have ZB : Blk wq w5.heap.size 25 #[.int .i64 0, .int .i64 0, .int .i64 0] := ZA.below hq ZA.lt) | (have ZB : Blk wq wa.heap.size 25 #[.int .i64 0, .int .i64 0, .int .i64 0] := Blk.below (Blk.new wa _ _) hq (Blk.new wa _ _).lt) | skip); (first | (have y0 := ZB.frozen 0; have y1 := ZB.frozen 1; have y2 := ZB.frozen 2; obtain ⟨u0, u1, u2⟩ := ZB.three) | skip); clear hd))
      · rename_i hH
        obtain ⟨-, DF⟩ := hH
        have QE : Blk (wq.alloc (.cells #[.int .i64 y', .int .i64 m', .int .i64 d'] 25)) wq.heap.size 25 #[.int .i64 y', .int .i64 m', .int .i64 d'] := Blk.new _ _ _
        have hE : C9 + 1 ≤ wq.heap.size ∧ wq.heap.size ≠ g := ⟨by omega, by omega⟩
        go_wp2_with fail
        generalize wq.alloc (.cells #[.int .i64 y', .int .i64 m', .int .i64 d'] 25) = F at DF QE ⊢
        generalize wq.heap.size = E at QE hE ⊢
        clear hza hzb
        have D8 := DF.with_ QE hE.2 (sub37)
        have p0 := DF.blk (w.heap.size, 35, #[.int .i64 0]) (by simp)
        have p1 := DF.blk (w.heap.size + 1, 25, #[.int .i64 0, .int .i64 0, .int .i64 0]) (by simp)
        have p2 := DF.blk (w.heap.size + 1 + 1, 35, #[.int .i64 0]) (by simp)
        have p3 := DF.blk (w.heap.size + 1 + 1 + 1, 25, #[.int .i64 0, .int .i64 0, .int .i64 0]) (by simp)
        have f0 := p0.frozen 0
        have f1 := p1.frozen 0
        have f2 := p1.frozen 1
        have f3 := p1.frozen 2
        have f4 := p2.frozen 0
        have f5 := p3.frozen 0
        have f6 := p3.frozen 1
        have f7 := p3.frozen 2
        have z0 := p0.cell 0
        obtain ⟨z1, z2, z3⟩ := p1.three
        have z4 := p2.cell 0
        obtain ⟨z5, z6, z7⟩ := p3.three
        simp only [List.getElem?_toArray, List.getElem?_cons_zero] at z0 z4
        clear p0 p1 p2 p3
        have NE8 : ∀ b, b < C7 → ∀ x ∈ ([(E, 25, #[.int .i64 y', .int .i64 m', .int .i64 d']), (C9, 35, #[.int .i64 R']), (C7 + 1, 25, #[.int .i64 y, .int .i64 m, .int .i64 d]), (C7, 35, #[.int .i64 R])] : List (Nat × TypeId × Array Value)), x.1 ≠ b := by
          intro b hb x hx
          simp only [List.mem_cons, List.not_mem_nil, or_false] at hx
          rcases hx with rfl | rfl | rfl | rfl <;> simp only <;> omega
        go_region_held3 (fun w' => w'.cell? ⟨C7, 0, none⟩ = some (.int .i64 R) ∧ w'.cell? ⟨C7 + 1, 0, none⟩ = some (.int .i64 y) ∧ w'.cell? ⟨C7 + 1, 1, none⟩ = some (.int .i64 m) ∧ w'.cell? ⟨C7 + 1, 2, none⟩ = some (.int .i64 d) ∧ w'.cell? ⟨C9, 0, none⟩ = some (.int .i64 R') ∧ w'.cell? ⟨E, 0, none⟩ = some (.int .i64 y') ∧ w'.cell? ⟨E, 1, none⟩ = some (.int .i64 m') ∧ w'.cell? ⟨E, 2, none⟩ = some (.int .i64 d') ∧ DS [(E, 25, #[.int .i64 y', .int .i64 m', .int .i64 d']), (C9, 35, #[.int .i64 R']), (C7 + 1, 25, #[.int .i64 y, .int .i64 m, .int .i64 d]), (C7, 35, #[.int .i64 R])] A len cap zs W w g w')
          (first | with_reducible exact D8.drew.nine (by simp) (by simp) (by simp) (by simp) | with_reducible exact (D8.set (by omega) (NE8 _ (by omega)) (by omega) (by omega) 0 _).drew.nine (by simp) (by simp) (by simp) (by simp) | with_reducible exact ((((D8.set (by omega) (NE8 _ (by omega)) (by omega) (by omega) 0 _).set (by omega) (NE8 _ (by omega)) (by omega) (by omega) 0 _).set (by omega) (NE8 _ (by omega)) (by omega) (by omega) 1 _).set (by omega) (NE8 _ (by omega)) (by omega) (by omega) 2 _).drew.nine (by simp) (by simp) (by simp) (by simp) | with_reducible exact (((((D8.set (by omega) (NE8 _ (by omega)) (by omega) (by omega) 0 _).set (by omega) (NE8 _ (by omega)) (by omega) (by omega) 0 _).set (by omega) (NE8 _ (by omega)) (by omega) (by omega) 1 _).set (by omega) (NE8 _ (by omega)) (by omega) (by omega) 2 _).set (by omega) (NE8 _ (by omega)) (by omega) (by omega) 0 _).drew.nine (by simp) (by simp) (by simp) (by simp) | with_reducible exact ((((((((D8.set (by omega) (NE8 _ (by omega)) (by omega) (by omega) 0 _).set (by omega) (NE8 _ (by omega)) (by omega) (by omega) 0 _).set (by omega) (NE8 _ (by omega)) (by omega) (by omega) 1 _).set (by omega) (NE8 _ (by omega)) (by omega) (by omega) 2 _).set (by omega) (NE8 _ (by omega)) (by omega) (by omega) 0 _).set (by omega) (NE8 _ (by omega)) (by omega) (by omega) 0 _).set (by omega) (NE8 _ (by omega)) (by omega) (by omega) 1 _).set (by omega) (NE8 _ (by omega)) (by omega) (by omega) 2 _).drew.nine (by simp) (by simp) (by simp) (by simp))
          (first | fail)
        go_wp2_with fail
        have DZ := ((((((((D8.set (b := w.heap.size) (by omega) (NE8 _ (by omega)) (by omega) (by omega) 0 (.int .i64 R)).set (b := w.heap.size + 1) (by omega) (NE8 _ (by omega)) (by omega) (by omega) 0 (.int .i64 y)).set (b := w.heap.size + 1) (by omega) (NE8 _ (by omega)) (by omega) (by omega) 1 (.int .i64 m)).set (b := w.heap.size + 1) (by omega) (NE8 _ (by omega)) (by omega) (by omega) 2 (.int .i64 d)).set (b := w.heap.size + 1 + 1) (by omega) (NE8 _ (by omega)) (by omega) (by omega) 0 (.int .i64 R')).set (b := w.heap.size + 1 + 1 + 1) (by omega) (NE8 _ (by omega)) (by omega) (by omega) 0 (.int .i64 y')).set (b := w.heap.size + 1 + 1 + 1) (by omega) (NE8 _ (by omega)) (by omega) (by omega) 1 (.int .i64 m')).set (b := w.heap.size + 1 + 1 + 1) (by omega) (NE8 _ (by omega)) (by omega) (by omega) 2 (.int .i64 d'))
        refine bodyPost_ret (v := .tuple #[.agg #[.int .i64 R], .agg #[.int .i64 y, .int .i64 m, .int .i64 d], .agg #[.int .i64 R'], .agg #[.int .i64 y', .int .i64 m', .int .i64 d']]) (by simp [results, Try.results51, go_sem, z0, z1, z2, z3, z4, z5, z6, z7]) rfl ⟨R, y, m, d, R', y', m', d', rfl, only_below DZ.drew.only (by omega) (Nat.le_refl _)⟩
      · rename_i hH
        obtain ⟨-, DF⟩ := hH
        have QE : Blk ((((wq).setCell ⟨wa.heap.size, 0, none⟩ (.int .i64 y')).setCell ⟨wa.heap.size, 1, none⟩ (.int .i64 m')).setCell ⟨wa.heap.size, 2, none⟩ (.int .i64 d')) wa.heap.size 25 #[.int .i64 y', .int .i64 m', .int .i64 d'] := by simpa using ((ZB.set_ 0 (.int .i64 y')).set_ 1 (.int .i64 m')).set_ 2 (.int .i64 d')
        have hE : C9 + 1 ≤ wa.heap.size ∧ wa.heap.size ≠ g := ⟨by omega, by omega⟩
        go_wp2_with fail
        generalize (((wq).setCell ⟨wa.heap.size, 0, none⟩ (.int .i64 y')).setCell ⟨wa.heap.size, 1, none⟩ (.int .i64 m')).setCell ⟨wa.heap.size, 2, none⟩ (.int .i64 d') = F at DF QE ⊢
        generalize wa.heap.size = E at QE hE ⊢
        clear hza hzb
        have D8 := DF.with_ QE hE.2 (sub37)
        have p0 := DF.blk (w.heap.size, 35, #[.int .i64 0]) (by simp)
        have p1 := DF.blk (w.heap.size + 1, 25, #[.int .i64 0, .int .i64 0, .int .i64 0]) (by simp)
        have p2 := DF.blk (w.heap.size + 1 + 1, 35, #[.int .i64 0]) (by simp)
        have p3 := DF.blk (w.heap.size + 1 + 1 + 1, 25, #[.int .i64 0, .int .i64 0, .int .i64 0]) (by simp)
        have f0 := p0.frozen 0
        have f1 := p1.frozen 0
        have f2 := p1.frozen 1
        have f3 := p1.frozen 2
        have f4 := p2.frozen 0
        have f5 := p3.frozen 0
        have f6 := p3.frozen 1
        have f7 := p3.frozen 2
        have z0 := p0.cell 0
        obtain ⟨z1, z2, z3⟩ := p1.three
        have z4 := p2.cell 0
        obtain ⟨z5, z6, z7⟩ := p3.three
        simp only [List.getElem?_toArray, List.getElem?_cons_zero] at z0 z4
        clear p0 p1 p2 p3
        have NE8 : ∀ b, b < C7 → ∀ x ∈ ([(E, 25, #[.int .i64 y', .int .i64 m', .int .i64 d']), (C9, 35, #[.int .i64 R']), (C7 + 1, 25, #[.int .i64 y, .int .i64 m, .int .i64 d]), (C7, 35, #[.int .i64 R])] : List (Nat × TypeId × Array Value)), x.1 ≠ b := by
          intro b hb x hx
          simp only [List.mem_cons, List.not_mem_nil, or_false] at hx
          rcases hx with rfl | rfl | rfl | rfl <;> simp only <;> omega
        go_region_held3 (fun w' => w'.cell? ⟨C7, 0, none⟩ = some (.int .i64 R) ∧ w'.cell? ⟨C7 + 1, 0, none⟩ = some (.int .i64 y) ∧ w'.cell? ⟨C7 + 1, 1, none⟩ = some (.int .i64 m) ∧ w'.cell? ⟨C7 + 1, 2, none⟩ = some (.int .i64 d) ∧ w'.cell? ⟨C9, 0, none⟩ = some (.int .i64 R') ∧ w'.cell? ⟨E, 0, none⟩ = some (.int .i64 y') ∧ w'.cell? ⟨E, 1, none⟩ = some (.int .i64 m') ∧ w'.cell? ⟨E, 2, none⟩ = some (.int .i64 d') ∧ DS [(E, 25, #[.int .i64 y', .int .i64 m', .int .i64 d']), (C9, 35, #[.int .i64 R']), (C7 + 1, 25, #[.int .i64 y, .int .i64 m, .int .i64 d]), (C7, 35, #[.int .i64 R])] A len cap zs W w g w')
          (first | with_reducible exact D8.drew.nine (by simp) (by simp) (by simp) (by simp) | with_reducible exact (D8.set (by omega) (NE8 _ (by omega)) (by omega) (by omega) 0 _).drew.nine (by simp) (by simp) (by simp) (by simp) | with_reducible exact ((((D8.set (by omega) (NE8 _ (by omega)) (by omega) (by omega) 0 _).set (by omega) (NE8 _ (by omega)) (by omega) (by omega) 0 _).set (by omega) (NE8 _ (by omega)) (by omega) (by omega) 1 _).set (by omega) (NE8 _ (by omega)) (by omega) (by omega) 2 _).drew.nine (by simp) (by simp) (by simp) (by simp) | with_reducible exact (((((D8.set (by omega) (NE8 _ (by omega)) (by omega) (by omega) 0 _).set (by omega) (NE8 _ (by omega)) (by omega) (by omega) 0 _).set (by omega) (NE8 _ (by omega)) (by omega) (by omega) 1 _).set (by omega) (NE8 _ (by omega)) (by omega) (by omega) 2 _).set (by omega) (NE8 _ (by omega)) (by omega) (by omega) 0 _).drew.nine (by simp) (by simp) (by simp) (by simp) | with_reducible exact ((((((((D8.set (by omega) (NE8 _ (by omega)) (by omega) (by omega) 0 _).set (by omega) (NE8 _ (by omega)) (by omega) (by omega) 0 _).set (by omega) (NE8 _ (by omega)) (by omega) (by omega) 1 _).set (by omega) (NE8 _ (by omega)) (by omega) (by omega) 2 _).set (by omega) (NE8 _ (by omega)) (by omega) (by omega) 0 _).set (by omega) (NE8 _ (by omega)) (by omega) (by omega) 0 _).set (by omega) (NE8 _ (by omega)) (by omega) (by omega) 1 _).set (by omega) (NE8 _ (by omega)) (by omega) (by omega) 2 _).drew.nine (by simp) (by simp) (by simp) (by simp))
          (first | fail)
        go_wp2_with fail
        have DZ := ((((((((D8.set (b := w.heap.size) (by omega) (NE8 _ (by omega)) (by omega) (by omega) 0 (.int .i64 R)).set (b := w.heap.size + 1) (by omega) (NE8 _ (by omega)) (by omega) (by omega) 0 (.int .i64 y)).set (b := w.heap.size + 1) (by omega) (NE8 _ (by omega)) (by omega) (by omega) 1 (.int .i64 m)).set (b := w.heap.size + 1) (by omega) (NE8 _ (by omega)) (by omega) (by omega) 2 (.int .i64 d)).set (b := w.heap.size + 1 + 1) (by omega) (NE8 _ (by omega)) (by omega) (by omega) 0 (.int .i64 R')).set (b := w.heap.size + 1 + 1 + 1) (by omega) (NE8 _ (by omega)) (by omega) (by omega) 0 (.int .i64 y')).set (b := w.heap.size + 1 + 1 + 1) (by omega) (NE8 _ (by omega)) (by omega) (by omega) 1 (.int .i64 m')).set (b := w.heap.size + 1 + 1 + 1) (by omega) (NE8 _ (by omega)) (by omega) (by omega) 2 (.int .i64 d'))
        refine bodyPost_ret (v := .tuple #[.agg #[.int .i64 R], .agg #[.int .i64 y, .int .i64 m, .int .i64 d], .agg #[.int .i64 R'], .agg #[.int .i64 y', .int .i64 m', .int .i64 d']]) (by simp [results, Try.results51, go_sem, z0, z1, z2, z3, z4, z5, z6, z7]) rfl ⟨R, y, m, d, R', y', m', d', rfl, only_below DZ.drew.only (by omega) (Nat.le_refl _)⟩
      · rename_i hH
        obtain ⟨-, DF⟩ := hH
        have QE : Blk ((((wq).setCell ⟨wa.heap.size, 0, none⟩ (.int .i64 y')).setCell ⟨wa.heap.size, 1, none⟩ (.int .i64 m')).setCell ⟨wa.heap.size, 2, none⟩ (.int .i64 d')) wa.heap.size 25 #[.int .i64 y', .int .i64 m', .int .i64 d'] := by simpa using ((ZB.set_ 0 (.int .i64 y')).set_ 1 (.int .i64 m')).set_ 2 (.int .i64 d')
        have hE : C9 + 1 ≤ wa.heap.size ∧ wa.heap.size ≠ g := ⟨by omega, by omega⟩
        go_wp2_with fail
        generalize (((wq).setCell ⟨wa.heap.size, 0, none⟩ (.int .i64 y')).setCell ⟨wa.heap.size, 1, none⟩ (.int .i64 m')).setCell ⟨wa.heap.size, 2, none⟩ (.int .i64 d') = F at DF QE ⊢
        generalize wa.heap.size = E at QE hE ⊢
        clear hza hzb
        have D8 := DF.with_ QE hE.2 (sub37)
        have p0 := DF.blk (w.heap.size, 35, #[.int .i64 0]) (by simp)
        have p1 := DF.blk (w.heap.size + 1, 25, #[.int .i64 0, .int .i64 0, .int .i64 0]) (by simp)
        have p2 := DF.blk (w.heap.size + 1 + 1, 35, #[.int .i64 0]) (by simp)
        have p3 := DF.blk (w.heap.size + 1 + 1 + 1, 25, #[.int .i64 0, .int .i64 0, .int .i64 0]) (by simp)
        have f0 := p0.frozen 0
        have f1 := p1.frozen 0
        have f2 := p1.frozen 1
        have f3 := p1.frozen 2
        have f4 := p2.frozen 0
        have f5 := p3.frozen 0
        have f6 := p3.frozen 1
        have f7 := p3.frozen 2
        have z0 := p0.cell 0
        obtain ⟨z1, z2, z3⟩ := p1.three
        have z4 := p2.cell 0
        obtain ⟨z5, z6, z7⟩ := p3.three
        simp only [List.getElem?_toArray, List.getElem?_cons_zero] at z0 z4
        clear p0 p1 p2 p3
        have NE8 : ∀ b, b < C7 → ∀ x ∈ ([(E, 25, #[.int .i64 y', .int .i64 m', .int .i64 d']), (C9, 35, #[.int .i64 R']), (C7 + 1, 25, #[.int .i64 y, .int .i64 m, .int .i64 d]), (C7, 35, #[.int .i64 R])] : List (Nat × TypeId × Array Value)), x.1 ≠ b := by
          intro b hb x hx
          simp only [List.mem_cons, List.not_mem_nil, or_false] at hx
          rcases hx with rfl | rfl | rfl | rfl <;> simp only <;> omega
        go_region_held3 (fun w' => w'.cell? ⟨C7, 0, none⟩ = some (.int .i64 R) ∧ w'.cell? ⟨C7 + 1, 0, none⟩ = some (.int .i64 y) ∧ w'.cell? ⟨C7 + 1, 1, none⟩ = some (.int .i64 m) ∧ w'.cell? ⟨C7 + 1, 2, none⟩ = some (.int .i64 d) ∧ w'.cell? ⟨C9, 0, none⟩ = some (.int .i64 R') ∧ w'.cell? ⟨E, 0, none⟩ = some (.int .i64 y') ∧ w'.cell? ⟨E, 1, none⟩ = some (.int .i64 m') ∧ w'.cell? ⟨E, 2, none⟩ = some (.int .i64 d') ∧ DS [(E, 25, #[.int .i64 y', .int .i64 m', .int .i64 d']), (C9, 35, #[.int .i64 R']), (C7 + 1, 25, #[.int .i64 y, .int .i64 m, .int .i64 d]), (C7, 35, #[.int .i64 R])] A len cap zs W w g w')
          (first | with_reducible exact D8.drew.nine (by simp) (by simp) (by simp) (by simp) | with_reducible exact (D8.set (by omega) (NE8 _ (by omega)) (by omega) (by omega) 0 _).drew.nine (by simp) (by simp) (by simp) (by simp) | with_reducible exact ((((D8.set (by omega) (NE8 _ (by omega)) (by omega) (by omega) 0 _).set (by omega) (NE8 _ (by omega)) (by omega) (by omega) 0 _).set (by omega) (NE8 _ (by omega)) (by omega) (by omega) 1 _).set (by omega) (NE8 _ (by omega)) (by omega) (by omega) 2 _).drew.nine (by simp) (by simp) (by simp) (by simp) | with_reducible exact (((((D8.set (by omega) (NE8 _ (by omega)) (by omega) (by omega) 0 _).set (by omega) (NE8 _ (by omega)) (by omega) (by omega) 0 _).set (by omega) (NE8 _ (by omega)) (by omega) (by omega) 1 _).set (by omega) (NE8 _ (by omega)) (by omega) (by omega) 2 _).set (by omega) (NE8 _ (by omega)) (by omega) (by omega) 0 _).drew.nine (by simp) (by simp) (by simp) (by simp) | with_reducible exact ((((((((D8.set (by omega) (NE8 _ (by omega)) (by omega) (by omega) 0 _).set (by omega) (NE8 _ (by omega)) (by omega) (by omega) 0 _).set (by omega) (NE8 _ (by omega)) (by omega) (by omega) 1 _).set (by omega) (NE8 _ (by omega)) (by omega) (by omega) 2 _).set (by omega) (NE8 _ (by omega)) (by omega) (by omega) 0 _).set (by omega) (NE8 _ (by omega)) (by omega) (by omega) 0 _).set (by omega) (NE8 _ (by omega)) (by omega) (by omega) 1 _).set (by omega) (NE8 _ (by omega)) (by omega) (by omega) 2 _).drew.nine (by simp) (by simp) (by simp) (by simp))
          (first | fail)
        go_wp2_with fail
        have DZ := ((((((((D8.set (b := w.heap.size) (by omega) (NE8 _ (by omega)) (by omega) (by omega) 0 (.int .i64 R)).set (b := w.heap.size + 1) (by omega) (NE8 _ (by omega)) (by omega) (by omega) 0 (.int .i64 y)).set (b := w.heap.size + 1) (by omega) (NE8 _ (by omega)) (by omega) (by omega) 1 (.int .i64 m)).set (b := w.heap.size + 1) (by omega) (NE8 _ (by omega)) (by omega) (by omega) 2 (.int .i64 d)).set (b := w.heap.size + 1 + 1) (by omega) (NE8 _ (by omega)) (by omega) (by omega) 0 (.int .i64 R')).set (b := w.heap.size + 1 + 1 + 1) (by omega) (NE8 _ (by omega)) (by omega) (by omega) 0 (.int .i64 y')).set (b := w.heap.size + 1 + 1 + 1) (by omega) (NE8 _ (by omega)) (by omega) (by omega) 1 (.int .i64 m')).set (b := w.heap.size + 1 + 1 + 1) (by omega) (NE8 _ (by omega)) (by omega) (by omega) 2 (.int .i64 d'))
        refine bodyPost_ret (v := .tuple #[.agg #[.int .i64 R], .agg #[.int .i64 y, .int .i64 m, .int .i64 d], .agg #[.int .i64 R'], .agg #[.int .i64 y', .int .i64 m', .int .i64 d']]) (by simp [results, Try.results51, go_sem, z0, z1, z2, z3, z4, z5, z6, z7]) rfl ⟨R, y, m, d, R', y', m', d', rfl, only_below DZ.drew.only (by omega) (Nat.le_refl _)⟩
      · rename_i hH
        obtain ⟨-, DF⟩ := hH
        have QE : Blk ((((wq).setCell ⟨w5.heap.size, 0, none⟩ (.int .i64 y')).setCell ⟨w5.heap.size, 1, none⟩ (.int .i64 m')).setCell ⟨w5.heap.size, 2, none⟩ (.int .i64 d')) w5.heap.size 25 #[.int .i64 y', .int .i64 m', .int .i64 d'] := by simpa using ((ZB.set_ 0 (.int .i64 y')).set_ 1 (.int .i64 m')).set_ 2 (.int .i64 d')
        have hE : C9 + 1 ≤ w5.heap.size ∧ w5.heap.size ≠ g := ⟨by omega, by omega⟩
        go_wp2_with fail
        generalize (((wq).setCell ⟨w5.heap.size, 0, none⟩ (.int .i64 y')).setCell ⟨w5.heap.size, 1, none⟩ (.int .i64 m')).setCell ⟨w5.heap.size, 2, none⟩ (.int .i64 d') = F at DF QE ⊢
        generalize w5.heap.size = E at QE hE ⊢
        clear hza hzb
        have D8 := DF.with_ QE hE.2 (sub37)
        have p0 := DF.blk (w.heap.size, 35, #[.int .i64 0]) (by simp)
        have p1 := DF.blk (w.heap.size + 1, 25, #[.int .i64 0, .int .i64 0, .int .i64 0]) (by simp)
        have p2 := DF.blk (w.heap.size + 1 + 1, 35, #[.int .i64 0]) (by simp)
        have p3 := DF.blk (w.heap.size + 1 + 1 + 1, 25, #[.int .i64 0, .int .i64 0, .int .i64 0]) (by simp)
        have f0 := p0.frozen 0
        have f1 := p1.frozen 0
        have f2 := p1.frozen 1
        have f3 := p1.frozen 2
        have f4 := p2.frozen 0
        have f5 := p3.frozen 0
        have f6 := p3.frozen 1
        have f7 := p3.frozen 2
        have z0 := p0.cell 0
        obtain ⟨z1, z2, z3⟩ := p1.three
        have z4 := p2.cell 0
        obtain ⟨z5, z6, z7⟩ := p3.three
        simp only [List.getElem?_toArray, List.getElem?_cons_zero] at z0 z4
        clear p0 p1 p2 p3
        have NE8 : ∀ b, b < C7 → ∀ x ∈ ([(E, 25, #[.int .i64 y', .int .i64 m', .int .i64 d']), (C9, 35, #[.int .i64 R']), (C7 + 1, 25, #[.int .i64 y, .int .i64 m, .int .i64 d]), (C7, 35, #[.int .i64 R])] : List (Nat × TypeId × Array Value)), x.1 ≠ b := by
          intro b hb x hx
          simp only [List.mem_cons, List.not_mem_nil, or_false] at hx
          rcases hx with rfl | rfl | rfl | rfl <;> simp only <;> omega
        go_region_held3 (fun w' => w'.cell? ⟨C7, 0, none⟩ = some (.int .i64 R) ∧ w'.cell? ⟨C7 + 1, 0, none⟩ = some (.int .i64 y) ∧ w'.cell? ⟨C7 + 1, 1, none⟩ = some (.int .i64 m) ∧ w'.cell? ⟨C7 + 1, 2, none⟩ = some (.int .i64 d) ∧ w'.cell? ⟨C9, 0, none⟩ = some (.int .i64 R') ∧ w'.cell? ⟨E, 0, none⟩ = some (.int .i64 y') ∧ w'.cell? ⟨E, 1, none⟩ = some (.int .i64 m') ∧ w'.cell? ⟨E, 2, none⟩ = some (.int .i64 d') ∧ DS [(E, 25, #[.int .i64 y', .int .i64 m', .int .i64 d']), (C9, 35, #[.int .i64 R']), (C7 + 1, 25, #[.int .i64 y, .int .i64 m, .int .i64 d]), (C7, 35, #[.int .i64 R])] A len cap zs W w g w')
          (first | with_reducible exact D8.drew.nine (by simp) (by simp) (by simp) (by simp) | with_reducible exact (D8.set (by omega) (NE8 _ (by omega)) (by omega) (by omega) 0 _).drew.nine (by simp) (by simp) (by simp) (by simp) | with_reducible exact ((((D8.set (by omega) (NE8 _ (by omega)) (by omega) (by omega) 0 _).set (by omega) (NE8 _ (by omega)) (by omega) (by omega) 0 _).set (by omega) (NE8 _ (by omega)) (by omega) (by omega) 1 _).set (by omega) (NE8 _ (by omega)) (by omega) (by omega) 2 _).drew.nine (by simp) (by simp) (by simp) (by simp) | with_reducible exact (((((D8.set (by omega) (NE8 _ (by omega)) (by omega) (by omega) 0 _).set (by omega) (NE8 _ (by omega)) (by omega) (by omega) 0 _).set (by omega) (NE8 _ (by omega)) (by omega) (by omega) 1 _).set (by omega) (NE8 _ (by omega)) (by omega) (by omega) 2 _).set (by omega) (NE8 _ (by omega)) (by omega) (by omega) 0 _).drew.nine (by simp) (by simp) (by simp) (by simp) | with_reducible exact ((((((((D8.set (by omega) (NE8 _ (by omega)) (by omega) (by omega) 0 _).set (by omega) (NE8 _ (by omega)) (by omega) (by omega) 0 _).set (by omega) (NE8 _ (by omega)) (by omega) (by omega) 1 _).set (by omega) (NE8 _ (by omega)) (by omega) (by omega) 2 _).set (by omega) (NE8 _ (by omega)) (by omega) (by omega) 0 _).set (by omega) (NE8 _ (by omega)) (by omega) (by omega) 0 _).set (by omega) (NE8 _ (by omega)) (by omega) (by omega) 1 _).set (by omega) (NE8 _ (by omega)) (by omega) (by omega) 2 _).drew.nine (by simp) (by simp) (by simp) (by simp))
          (first | fail)
        go_wp2_with fail
        have DZ := ((((((((D8.set (b := w.heap.size) (by omega) (NE8 _ (by omega)) (by omega) (by omega) 0 (.int .i64 R)).set (b := w.heap.size + 1) (by omega) (NE8 _ (by omega)) (by omega) (by omega) 0 (.int .i64 y)).set (b := w.heap.size + 1) (by omega) (NE8 _ (by omega)) (by omega) (by omega) 1 (.int .i64 m)).set (b := w.heap.size + 1) (by omega) (NE8 _ (by omega)) (by omega) (by omega) 2 (.int .i64 d)).set (b := w.heap.size + 1 + 1) (by omega) (NE8 _ (by omega)) (by omega) (by omega) 0 (.int .i64 R')).set (b := w.heap.size + 1 + 1 + 1) (by omega) (NE8 _ (by omega)) (by omega) (by omega) 0 (.int .i64 y')).set (b := w.heap.size + 1 + 1 + 1) (by omega) (NE8 _ (by omega)) (by omega) (by omega) 1 (.int .i64 m')).set (b := w.heap.size + 1 + 1 + 1) (by omega) (NE8 _ (by omega)) (by omega) (by omega) 2 (.int .i64 d'))
        refine bodyPost_ret (v := .tuple #[.agg #[.int .i64 R], .agg #[.int .i64 y, .int .i64 m, .int .i64 d], .agg #[.int .i64 R'], .agg #[.int .i64 y', .int .i64 m', .int .i64 d']]) (by simp [results, Try.results51, go_sem, z0, z1, z2, z3, z4, z5, z6, z7]) rfl ⟨R, y, m, d, R', y', m', d', rfl, only_below DZ.drew.only (by omega) (Nat.le_refl _)⟩

end Go.Proofs.Ytkmkfpglnmpnmaa.Plc
