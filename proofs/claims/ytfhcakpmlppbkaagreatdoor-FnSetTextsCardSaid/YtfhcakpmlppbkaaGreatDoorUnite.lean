/- UniteSets of both. -/
import Derived.Test.YtfhcakpmlppbkaaGreatDoorCopy
namespace Go.Proofs.YtfhcakpmlppbkaaGreatDoor.Sets
open Go.RowKit

theorem append_nil {o : Oper} {w : World} {B : Nat} {v : Value} {acc : L} (h : Own w B v acc) (c : Nat) :
    (Builtin.append_ #[24, 24] o.type #[v, .slice none 0 c]).run Tryz.prog w = .ok v w := by
  obtain ⟨i, hi, hz, h1, h2⟩ := info_parts info_span
  rcases h.2 with ⟨rfl, _⟩ | ⟨g, cap, cur, rfl, _, _, hn, _⟩
  · simp [Builtin.append_, run_underlying Tryz.underlying24, sizeOf, typeInfo, hi, Builtin.lenOf, Builtin.firstCells]
  · simp [Builtin.append_, run_underlying Tryz.underlying24, sizeOf, typeInfo, hi, Builtin.lenOf, Builtin.firstCells, hn, storeCells]

/-- Spans appended to a row of the call's own. -/
theorem append_rd {ops : Array Oper} {rest : List Oper} {o : Oper} {a : Act} {Q : Exit → Act → World → Prop} {w0 w1 : World} {v : Value} {acc zs : L} {A : Option Addr} {n c : Nat} (hb : Below w0.heap.size w0 w1) (hown : Own w1 w0.heap.size v acc) (hr : Rd w1 A n zs)
    (hN : acc.length + n ≤ 8000000) (hgd : o.guard = none) (s x : Operand) (ho : o.op = .call { callee := .builtin .append, args := #[s, x], argTypes := #[24, 24] })
    (hs : a.eval s = v) (hx : a.eval x = .slice A n c)
    (K : ∀ v2 w2, Own w2 w0.heap.size v2 (acc ++ zs) → Below w0.heap.size w0 w2 → wpList Tryz.prog ops Q rest (a.put o.dst v2) w2) :
    wpList Tryz.prog ops Q (o :: rest) a w1 := by
  obtain ⟨i0, hi, hz0, hz1, hz2⟩ := info_parts info_span
  have hl := hr.1
  have fin : ∀ v2 w2, w2.ownsRow w0.heap.size 36 2 v2 (acc.length + n) (cells acc ++ cells zs) → w1.grownBy w2 v.ownBlock → wpList Tryz.prog ops Q rest (a.put o.dst v2) w2 := fun v2 w2 h2 hg2 =>
    K v2 w2 (by unfold Own; rw [List.length_append, cells_append, hl]; exact h2) (Below.grown hb hg2 hb.size (fun g hg => (World.ownsRow.lt hown g hg).1))
  rcases Nat.eq_zero_or_pos n with h0 | h0
  · subst h0
    have e : zs = [] := List.eq_nil_of_length_eq_zero hl
    subst e
    rcases A with _ | ad
    · refine wpList_plain hgd fun K' hK => ?_
      have hrun := append_nil (o := o) hown c
      unfold Oper.wp
      simp [execOp, ho, resolve, invoke, builtin, hs, hx, hrun, Result.andThen]
      exact hK _ _ (fin v w1 (by have h : w1.ownsRow w0.heap.size 36 2 v acc.length (cells acc) := hown; simpa [cells] using h) (World.grownBy.refl _ _))
    · refine wpList_append_own _ hgd s x 24 ho w0.heap.size 36 i0 (.agg #[.int .i64 0, .int .i64 0]) 2 16 Tryz.underlying24 hi hz0 hz1 hz2 rfl (by decide) v _ _ hs hown ad 0 c [] hx rfl (by simp) (by simp) (by unfold maxLen; omega) (by omega) hb.size ?_
      intro v2 w2 h2 hg2 _
      exact fin v2 w2 (by simpa [cells] using h2) hg2
  · obtain ⟨ad, rfl, hsrc⟩ := hr.cells h0
    refine wpList_append_own _ hgd s x 24 ho w0.heap.size 36 i0 (.agg #[.int .i64 0, .int .i64 0]) 2 16 Tryz.underlying24 hi hz0 hz1 hz2 rfl (by decide) v _ _ hs hown ad n c (cells zs) hx (by rw [cells_length, hl]) hsrc (cells_one zs) (by unfold maxLen; omega) (by omega) hb.size ?_
    intro v2 w2 h2 hg2 _
    exact fin v2 w2 h2 hg2

end Go.Proofs.YtfhcakpmlppbkaaGreatDoor.Sets
