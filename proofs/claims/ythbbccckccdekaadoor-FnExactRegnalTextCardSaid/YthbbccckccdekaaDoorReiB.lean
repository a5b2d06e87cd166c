/- Contracts of spec's spans of reigns: l07Span, RegnalSpan. -/
import Derived.Test.YthbbccckccdekaaDoorReiA
namespace Go.Proofs.YthbbccckccdekaaDoor.Rei
open Go.RowKit
open Go.Proofs.YthbbccckccdekaaDoor.Eas (It)
open Go.Proofs.YthbbccckccdekaaDoor.Fea (isDay yr yr_isY)

theorem _root_.Go.Proofs.YthbbccckccdekaaDoor.St.rei1 {g t g1 t1 : Nat} {a b c : Value} {V : Array Value} {L : List (Nat × TypeId × Array Value)} {w0 w : World} (h : St ((g1, t1, V) :: (g, t, #[a, b, c]) :: L) w0 w) :
    w.cell? ⟨g, 0, none⟩ = some a ∧ w.cell? ⟨g, 1, none⟩ = some b ∧ w.cell? ⟨g, 2, none⟩ = some c ∧ St ((g1, t1, V) :: (g, t, #[a, b, c]) :: L) w0 w := ⟨h.b1.cell 0, h.b1.cell 1, h.b1.cell 2, h⟩
theorem _root_.Go.Proofs.YthbbccckccdekaaDoor.St.rei3 {g t g1 t1 : Nat} {a b c : Value} {V : Array Value} {L : List (Nat × TypeId × Array Value)} {w0 w : World} (h : St ((g1, t1, V) :: (g, t, #[a, b, c]) :: L) w0 w) :
    w.cell? ⟨g, 0, none⟩ = some a ∧ w.cell? ⟨g, 1, none⟩ = some b ∧ w.cell? ⟨g, 2, none⟩ = some c := ⟨h.b1.cell 0, h.b1.cell 1, h.b1.cell 2⟩
theorem rei_far {w : World} {g : Nat} {a b c v u : Value} (k : w.cell? ⟨g, 0, none⟩ = some a ∧ w.cell? ⟨g, 1, none⟩ = some b ∧ w.cell? ⟨g, 2, none⟩ = some c) :
    ((w.setCell ⟨g + 1, 0, none⟩ v).setCell ⟨g + 1, 1, none⟩ u).cell? ⟨g, 0, none⟩ = some a ∧ ((w.setCell ⟨g + 1, 0, none⟩ v).setCell ⟨g + 1, 1, none⟩ u).cell? ⟨g, 1, none⟩ = some b ∧ ((w.setCell ⟨g + 1, 0, none⟩ v).setCell ⟨g + 1, 1, none⟩ u).cell? ⟨g, 2, none⟩ = some c :=
  ⟨((World.cell?_setCell_far _ _ _ _ (by simp)).trans (World.cell?_setCell_far _ _ _ _ (by simp))).trans k.1, ((World.cell?_setCell_far _ _ _ _ (by simp)).trans (World.cell?_setCell_far _ _ _ _ (by simp))).trans k.2.1, ((World.cell?_setCell_far _ _ _ _ (by simp)).trans (World.cell?_setCell_far _ _ _ _ (by simp))).trans k.2.2⟩
/-- What a call leaves that answers a span and whether it is. -/
def SpB (f t : Int) (b : Bool) (w : World) (e : Ending) (w' : World) : Prop := e = .returned (.tuple #[.agg #[.int .i64 f, .int .i64 t], .bool b]) ∧ Below w.heap.size w w'

theorem _root_.Go.Proofs.YthbbccckccdekaaDoor.St.sp0 {g t : Nat} {a b : Value} {L : List (Nat × TypeId × Array Value)} {w0 w : World} (h : St ((g, t, #[a, b]) :: L) w0 w) :
    w.cell? ⟨g, 0, none⟩ = some a ∧ w.cell? ⟨g, 1, none⟩ = some b ∧ w.frozen? ⟨g, 0, none⟩ = false ∧ w.frozen? ⟨g, 1, none⟩ = false := ⟨h.b0.cell 0, h.b0.cell 1, h.b0.frozen 0, h.b0.frozen 1⟩

/-- What a call leaves that answers a span and a code. -/
def SpO (f t c : Int) (w : World) (e : Ending) (w' : World) : Prop := e = .returned (.tuple #[.agg #[.int .i64 f, .int .i64 t], .int .i64 c]) ∧ Below w.heap.size w w'
theorem ret_sp {f t c f' t' c' : Int} (h : f = f' ∧ t = t' ∧ c = c') : Ending.returned (.tuple #[.agg #[.int .i64 f, .int .i64 t], .int .i64 c]) = .returned (.tuple #[.agg #[.int .i64 f', .int .i64 t'], .int .i64 c']) := by rw [h.1, h.2.1, h.2.2]
/-- What RegnalSpan answers. -/
def rsOk (s : ByteArray) (f t k : Int) : Prop := rOk s f t ∧ 1 ≤ k ∧ k ≤ 2000 ∧ rb f k ≤ t
instance (s : ByteArray) (f t k : Int) : Decidable (rsOk s f t k) := by unfold rsOk; exact inferInstance
def rsF (s : ByteArray) (f t k : Int) : Int := if rsOk s f t k then rb f k else 0
def rsT (s : ByteArray) (f t k : Int) : Int := if rsOk s f t k then min t (rb f (k + 1) - 1) else 0
def rsE (s : ByteArray) (f t k : Int) : Int := if ¬ rOk s f t then 1 else if k < 1 then 2 else if k ≤ 2000 ∧ rb f k ≤ t then 0 else 4
theorem rs_no {s : ByteArray} {f t k c : Int} (h : ¬ rsOk s f t k) (e : rsE s f t k = c) : 0 = rsF s f t k ∧ 0 = rsT s f t k ∧ c = rsE s f t k := ⟨(if_neg h).symm, (if_neg h).symm, e.symm⟩

end Go.Proofs.YthbbccckccdekaaDoor.Rei
