/- Texts of a claim in one file: ReiP ReiB. -/
import Derived.Test.YtfhcakpmlppbkaaGreatDoorGrpAd
import Derived.Test.YtfhcakpmlppbkaaGreatDoorGrpAq
namespace Go.Proofs.YtfhcakpmlppbkaaGreatDoor.Rei
open Go.RowKit

/-- What a call leaves that draws a short text. -/
def DrewT (A : Option Addr) (len cap : Nat) (zs : List Int) (W w : World) (g : Nat) (e : Ending) (w' : World) : Prop :=
  ∃ s : ByteArray, e = .returned (.string s) ∧ s.size ≤ 13 ∧ Src A len cap zs W w' g ∧ w.grownBy w' (some g)

set_option maxHeartbeats 1000000 in
theorem spec_drawKing (A : Option Addr) (len cap : Nat) (zs : List Int) (W w : World) (g : Nat) (hs : Src A len cap zs W w g) :
    Calls Tryz.prog 72 #[.pointer (some ⟨g, 0, none⟩)] w (DrewT A len cap zs W w g) := by
  have hl := hs.lt
  go_enter Tryz.func72, Tryz.ntmps72
  go_wp2_with fail
  have q0 := Blk.new w 9 #[.string ⟨#[97, 100, 97, 109]⟩, .string ⟨#[98, 101, 114, 116, 97]⟩, .string ⟨#[99, 97, 114, 108]⟩, .string ⟨#[100, 111, 114, 97]⟩]
  refine (spec_next A len cap zs W _ g 4 (hs.alloc _)).mono ?_
  rintro e w1 ⟨x1, rfl, a1, b1, s1, k1⟩
  have q1 : Blk w1 w.heap.size 9 #[.string ⟨#[97, 100, 97, 109]⟩, .string ⟨#[98, 101, 114, 116, 97]⟩, .string ⟨#[99, 97, 114, 108]⟩, .string ⟨#[100, 111, 114, 97]⟩] := (k1.block _ q0.lt (by simp; omega)).trans q0
  have kk := (only_alloc (World.grownBy.refl w (some g)) (.cells #[.string ⟨#[97, 100, 97, 109]⟩, .string ⟨#[98, 101, 114, 116, 97]⟩, .string ⟨#[99, 97, 114, 108]⟩, .string ⟨#[100, 111, 114, 97]⟩] 9)).trans k1
  have c0 := q1.cell 0
  have c1 := q1.cell 1
  have c2 := q1.cell 2
  have c3 := q1.cell 3
  simp at c0 c1 c2 c3
  have hx : x1 = 0 ∨ x1 = 1 ∨ x1 = 2 ∨ x1 = 3 := by omega
  clear q0 q1 b1 a1 hs k1
  rcases hx with rfl | rfl | rfl | rfl
  all_goals
    go_wp2_with fail
    go_ret
    exact ⟨_, rfl, by decide, s1, kk⟩

end Go.Proofs.YtfhcakpmlppbkaaGreatDoor.Rei

namespace Go.Proofs.YtfhcakpmlppbkaaGreatDoor.Rei
open Go.RowKit
open Go.Proofs.YtfhcakpmlppbkaaGreatDoor.Eas (It)
open Go.Proofs.YtfhcakpmlppbkaaGreatDoor.Fea (isDay yr yr_isY)

theorem _root_.Go.Proofs.YtfhcakpmlppbkaaGreatDoor.St.rei1 {g t g1 t1 : Nat} {a b c : Value} {V : Array Value} {L : List (Nat × TypeId × Array Value)} {w0 w : World} (h : St ((g1, t1, V) :: (g, t, #[a, b, c]) :: L) w0 w) :
    w.cell? ⟨g, 0, none⟩ = some a ∧ w.cell? ⟨g, 1, none⟩ = some b ∧ w.cell? ⟨g, 2, none⟩ = some c ∧ St ((g1, t1, V) :: (g, t, #[a, b, c]) :: L) w0 w := ⟨h.b1.cell 0, h.b1.cell 1, h.b1.cell 2, h⟩
theorem _root_.Go.Proofs.YtfhcakpmlppbkaaGreatDoor.St.rei3 {g t g1 t1 : Nat} {a b c : Value} {V : Array Value} {L : List (Nat × TypeId × Array Value)} {w0 w : World} (h : St ((g1, t1, V) :: (g, t, #[a, b, c]) :: L) w0 w) :
    w.cell? ⟨g, 0, none⟩ = some a ∧ w.cell? ⟨g, 1, none⟩ = some b ∧ w.cell? ⟨g, 2, none⟩ = some c := ⟨h.b1.cell 0, h.b1.cell 1, h.b1.cell 2⟩
theorem rei_far {w : World} {g : Nat} {a b c v u : Value} (k : w.cell? ⟨g, 0, none⟩ = some a ∧ w.cell? ⟨g, 1, none⟩ = some b ∧ w.cell? ⟨g, 2, none⟩ = some c) :
    ((w.setCell ⟨g + 1, 0, none⟩ v).setCell ⟨g + 1, 1, none⟩ u).cell? ⟨g, 0, none⟩ = some a ∧ ((w.setCell ⟨g + 1, 0, none⟩ v).setCell ⟨g + 1, 1, none⟩ u).cell? ⟨g, 1, none⟩ = some b ∧ ((w.setCell ⟨g + 1, 0, none⟩ v).setCell ⟨g + 1, 1, none⟩ u).cell? ⟨g, 2, none⟩ = some c :=
  ⟨((World.cell?_setCell_far _ _ _ _ (by simp)).trans (World.cell?_setCell_far _ _ _ _ (by simp))).trans k.1, ((World.cell?_setCell_far _ _ _ _ (by simp)).trans (World.cell?_setCell_far _ _ _ _ (by simp))).trans k.2.1, ((World.cell?_setCell_far _ _ _ _ (by simp)).trans (World.cell?_setCell_far _ _ _ _ (by simp))).trans k.2.2⟩
/-- What a call leaves that answers a span and whether it is. -/
def SpB (f t : Int) (b : Bool) (w : World) (e : Ending) (w' : World) : Prop := e = .returned (.tuple #[.agg #[.int .i64 f, .int .i64 t], .bool b]) ∧ Below w.heap.size w w'

theorem _root_.Go.Proofs.YtfhcakpmlppbkaaGreatDoor.St.sp0 {g t : Nat} {a b : Value} {L : List (Nat × TypeId × Array Value)} {w0 w : World} (h : St ((g, t, #[a, b]) :: L) w0 w) :
    w.cell? ⟨g, 0, none⟩ = some a ∧ w.cell? ⟨g, 1, none⟩ = some b ∧ w.frozen? ⟨g, 0, none⟩ = false ∧ w.frozen? ⟨g, 1, none⟩ = false := ⟨h.b0.cell 0, h.b0.cell 1, h.b0.frozen 0, h.b0.frozen 1⟩

set_option maxHeartbeats 1000000 in
theorem spec_span_no (s : ByteArray) (f t k : Int) (f0 : 0 ≤ f) (f1 : f ≤ 730499) (k0 : 1 ≤ k) (h : ¬ (k ≤ 2000 ∧ rb f k ≤ t)) (w : World) : Calls Tryz.prog 96 #[rV s f t, .int .i64 k] w (SpB 0 0 false w) := by
  have S0 := ((St.start w).alloc 79 #[.string s, .int .i64 f, .int .i64 t]).alloc 36 #[.int .i64 0, .int .i64 0]
  simp only [World.size_alloc] at S0
  by_cases hk : k ≤ 2000
  · have B := Lib.hid (spec_begin7 s f t k _ f0 f1 k0 (by omega) rfl)
    have hx : t < rb f k := by omega
    generalize rb f k = x at *
    have hk' : decide (2000 < k) = false := by simpa using hk
    clear h f0 f1 hk
    go_enter Tryz.func96, Tryz.ntmps96
    go_wp2_with fail
    go_region_held3 (fun w' => w'.cell? ⟨w.heap.size, 0, none⟩ = some (.string s) ∧ w'.cell? ⟨w.heap.size, 1, none⟩ = some (.int .i64 f) ∧ w'.cell? ⟨w.heap.size, 2, none⟩ = some (.int .i64 t) ∧ St [(w.heap.size + 1, 36, #[.int .i64 0, .int .i64 0]), (w.heap.size, 79, #[.string s, .int .i64 f, .int .i64 t])] w w')
      (first | with_reducible exact S0.dr7.rei1 | with_reducible exact SQ.rei1)
      (first | (go_at_call_of 95 (Value.int .i64 k); refine (B.out _).mono ?_; rintro e wq ⟨rfl, hq⟩; have SQ := S0.dr7.call hq))
    clear B S0
    obtain ⟨c0, c1, z0, z1⟩ := SQ.sp0
    have hb := (SQ.bel.setCell (p := ⟨w.heap.size + 1, 0, none⟩) (by simp) (.int .i64 0)).setCell (p := ⟨w.heap.size + 1, 1, none⟩) (by simp) (.int .i64 0)
    go_wp2_with fail
    refine bodyPost_ret (v := .tuple #[.agg #[.int .i64 0, .int .i64 0], .bool false]) (by simp [results, Tryz.results96, go_sem, c0, c1]) rfl ⟨rfl, hb⟩
  · have hk' : decide (2000 < k) = true := by simpa using hk
    clear h f0 f1 hk
    go_enter Tryz.func96, Tryz.ntmps96
    go_wp2_with fail
    go_quiet (fail)
    go_wp2_with fail
    refine bodyPost_ret (v := .tuple #[.agg #[.int .i64 0, .int .i64 0], .bool false]) (by simp [results, Tryz.results96, go_sem]) rfl ⟨rfl, ((S0.drewN _).bel.setCell (p := ⟨w.heap.size + 1, 0, none⟩) (by simp) (.int .i64 0)).setCell (p := ⟨w.heap.size + 1, 1, none⟩) (by simp) (.int .i64 0)⟩

set_option maxHeartbeats 1000000 in
theorem spec_span_yes (s : ByteArray) (f t k : Int) (f0 : 0 ≤ f) (f1 : f ≤ 730499) (t1 : t ≤ 730499) (k0 : 1 ≤ k) (h : k ≤ 2000 ∧ rb f k ≤ t) (w : World) : Calls Tryz.prog 96 #[rV s f t, .int .i64 k] w (SpB (rb f k) (min t (rb f (k + 1) - 1)) true w) := by
  have S0 := ((St.start w).alloc 79 #[.string s, .int .i64 f, .int .i64 t]).alloc 36 #[.int .i64 0, .int .i64 0]
  simp only [World.size_alloc] at S0
  obtain ⟨hk, hx⟩ := h
  have B := Lib.hid (spec_begin7 s f t k _ f0 f1 k0 (by omega) rfl)
  have B2 := Lib.hid (spec_begin7 s f t (k + 1) _ f0 f1 (by omega) (by omega) rfl)
  have g := rb_gap f k
  have g1 := (rb_in f k).1
  have g2 := (yr_isY f f0 f1).1
  have g3 := Cal.ys_mono false 1 (yr f + k - 1) (by omega)
  rw [Cal.ys_1] at g3
  have hx' : ¬ t < rb f k := by omega
  generalize rb f (k + 1) = y at *
  generalize rb f k = x at *
  have hk' : decide (2000 < k) = false := by simpa using hk
  have hy : IntKind.i64.wrap (y - 1) = y - 1 := IntWalk.i64_in _ ⟨by omega, by omega⟩
  have hk1 : IntKind.i64.wrap (k + 1) = k + 1 := IntWalk.i64_in _ ⟨by omega, by omega⟩
  have hm : (if y - 1 < t then y - 1 else t) = min t (y - 1) := by split <;> omega
  generalize min t (y - 1) = M at *
  clear f0 f1 hk g g1 g2 g3
  go_enter Tryz.func96, Tryz.ntmps96
  go_wp2_with fail
  go_region_held3 (fun w' => w'.cell? ⟨w.heap.size, 0, none⟩ = some (.string s) ∧ w'.cell? ⟨w.heap.size, 1, none⟩ = some (.int .i64 f) ∧ w'.cell? ⟨w.heap.size, 2, none⟩ = some (.int .i64 t) ∧ St [(w.heap.size + 1, 36, #[.int .i64 0, .int .i64 0]), (w.heap.size, 79, #[.string s, .int .i64 f, .int .i64 t])] w w')
    (first | with_reducible exact S0.dr7.rei1 | with_reducible exact SQ.rei1)
    (first | (go_at_call_of 95 (Value.int .i64 k); refine (B.out _).mono ?_; rintro e wq ⟨rfl, hq⟩; have SQ := S0.dr7.call hq))
  clear S0
  go_wp2_with fail
  go_region_held3 (fun w' => w'.cell? ⟨w.heap.size, 0, none⟩ = some (.string s) ∧ w'.cell? ⟨w.heap.size, 1, none⟩ = some (.int .i64 f) ∧ w'.cell? ⟨w.heap.size, 2, none⟩ = some (.int .i64 t))
    (first | with_reducible exact SQ.dr7.rei3 | with_reducible exact SR.rei3 | with_reducible exact ST.rei3 | exact rei_far ST.rei3)
    (first
      | (go_at_call_of 95 (Value.int .i64 k); refine (B.out _).mono ?_; rintro e wr ⟨rfl, hr⟩; have SR := SQ.dr7.call hr)
      | (go_at_call 95; refine (B2.out _).mono ?_; rintro e wt ⟨rfl, ht⟩; have ST := SR.call ht; obtain ⟨c0, c1, z0, z1⟩ := ST.sp0))
  have hb := (ST.bel.setCell (p := ⟨w.heap.size + 1, 0, none⟩) (by simp) (.int .i64 x)).setCell (p := ⟨w.heap.size + 1, 1, none⟩) (by simp) (.int .i64 M)
  clear B B2 hq hr ht hy hk1 hk' hm
  go_wp2_with fail
  refine bodyPost_ret (v := .tuple #[.agg #[.int .i64 x, .int .i64 M], .bool true]) (by simp [results, Tryz.results96, go_sem, c0, c1]) rfl ⟨rfl, hb⟩

/-- What a call leaves that answers a span and a code. -/
def SpO (f t c : Int) (w : World) (e : Ending) (w' : World) : Prop := e = .returned (.tuple #[.agg #[.int .i64 f, .int .i64 t], .int .i64 c]) ∧ Below w.heap.size w w'
theorem ret_sp {f t c f' t' c' : Int} (h : f = f' ∧ t = t' ∧ c = c') : Ending.returned (.tuple #[.agg #[.int .i64 f, .int .i64 t], .int .i64 c]) = .returned (.tuple #[.agg #[.int .i64 f', .int .i64 t'], .int .i64 c']) := by rw [h.1, h.2.1, h.2.2]
/-- What RegnalSpan answers. -/
def rsOk (s : ByteArray) (f t k : Int) : Prop := rOk s f t ∧ 1 ≤ k ∧ k ≤ 2000 ∧ rb f k ≤ t
instance (s : ByteArray) (f t k : Int) : Decidable (rsOk s f t k) := by unfold rsOk; exact inferInstance
def rsF (s : ByteArray) (f t k : Int) : Int := if rsOk s f t k then rb f k else 0
def rsT (s : ByteArray) (f t k : Int) : Int := if rsOk s f t k then min t (rb f (k + 1) - 1) else 0
def rsE (s : ByteArray) (f t k : Int) : Int := if ¬ rOk s f t then 1 else if k < 1 then 2 else if k ≤ 2000 ∧ rb f k ≤ t then 0 else 4
theorem rs_no {s : ByteArray} {f t k c : Int} (h : ¬ rsOk s f t k) (e : rsE s f t k = c) : 0 = rsF s f t k ∧ 0 = rsT s f t k ∧ c = rsE s f t k := ⟨(if_neg h).symm, (if_neg h).symm, e.symm⟩

end Go.Proofs.YtfhcakpmlppbkaaGreatDoor.Rei
