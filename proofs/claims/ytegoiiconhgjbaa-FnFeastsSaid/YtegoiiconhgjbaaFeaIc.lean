/- Contracts of impl's array of rules, of names of feasts and of related days. -/
import Derived.Test.YtegoiiconhgjbaaFeaIb
import Derived.Deep.WholeRow
namespace Go.Proofs.Ytegoiiconhgjbaa.Fea
open Go.RowKit
open Go.Proofs.Ytegoiiconhgjbaa.Eas (isY It)

theorem wpList_build_as {P : Program} {ops : Array Oper} {rest : List Oper} {o : Oper} {a : Act} {w : World} {Q : Exit → Act → World → Prop} (hg : o.guard = none) (t : TypeId) (parts : Array (Nat × Operand)) (ho : o.op = .build t parts) (v : Array Value)
    (hf : P.built t (parts.map fun (i, x) => (i, a.eval x)).toList = some v)
    (h : wpList P ops Q rest (a.put o.dst (.agg v)) w) : wpList P ops Q (o :: rest) a w :=
  wpList_build hg t parts ho (by rw [hf]; rfl) (by rw [hf]; exact h)

set_option maxRecDepth 10000 in
set_option maxHeartbeats 1000000 in
theorem impl_rules (w : World) : Calls Try.prog 92 #[] w fun e w' => e = .returned (.agg ruV) ∧ Below w.heap.size w w' := by
  go_enter Try.func92, Try.ntmps92
  go_wp2_with (first
    | (refine wpList_build_as rfl 80 _ rfl ruV (by kernel_rfl) ?_)
    | (refine wpList_store_row rfl 80 _ _ rfl w.heap.size ruV rfl rfl 80 ruZ (heap_alloc_last w _) (by kernel_rfl) rfl (by kernel_rfl) ?_; rw [World.setRow_alloc_new]))
  refine bodyPost_ret (v := .agg ruV) ?_ rfl ⟨rfl, (Below.refl _ _).alloc (Nat.le_refl _) _⟩
  exact (results_cell_row rfl _ _ w.heap.size 80 ruV (0, 0) _ rfl (heap_alloc_last w _) Try.underlying80 rfl (by kernel_rfl))

end Go.Proofs.Ytegoiiconhgjbaa.Fea
