/- Maps keyed by numbers that a call makes out of a literal: a store at a new number, a look-up. -/
import Derived.Test.YtigjpalbaapkkaaBlk
import Derived.Maps.Own
import Derived.MapKept
namespace Go.Proofs.Ytigjpalbaapkkaa
open Go.RowKit Go.MapKept

/-- A store at a new number into a map keyed by numbers. -/
theorem run_map_new {P : Program} {w : World} {t kt et : TypeId} {b clock : Nat} {es : Array MapEntry} {k : Int} {v : Value}
    (hm : P.underlying t = some (.map kt et)) (hk : P.underlying kt = some (.int .i64)) (hb : w.heap[b]? = some (.map es clock)) (hf : Instr.findNow (.int .i64) (.int .i64 k) es.toList 0 = some none) :
    (Instr.mapUpdate t (.map (some b)) (.int .i64 k) v).run P w = .ok () { w with heap := w.heap.setIfInBounds b (.map (es.push { key := .int .i64 k, val := v, born := clock }) (clock + 1)) } := by
  have hc : (Instr.checkKey false 10000 kt (.int .i64 k)).run P w = .ok () w := run_checkKey (k := .int .i64 k) hk (by simp [IsKey]) false 9999
  simp [Instr.mapUpdate, run_underlying hm, MapKept.run_getObj_map hb, hc, run_findKey hk hf, MapKept.run_setObj_map _ hb, Result.andThen]

theorem wpList_map_lit {P : Program} {w : World} {ops : Array Oper} {rest : List Oper} {o : Oper} {a : Act} {Q : Exit → Act → World → Prop}
    (hg : o.guard = none) (m x v : Operand) (t : TypeId) (hop : o.op = Op.insert t m x v) (kt et : TypeId) (hmt : P.underlying t = some (.map kt et)) (hkt : P.underlying kt = some (.int .i64))
    (b clock : Nat) (es : Array MapEntry) (hm : a.eval m = .map (some b)) (hb : w.heap[b]? = some (.map es clock)) (k : Int) (hx : a.eval x = .int .i64 k) (y : Value) (hv : a.eval v = y)
    (hf : Instr.findNow (.int .i64) (.int .i64 k) es.toList 0 = some none)
    (hK : ∀ w', w'.heap[b]? = some (.map (es.push { key := .int .i64 k, val := y, born := clock }) (clock + 1)) → w.grownBy w' (some b) → wpList P ops Q rest (a.put o.dst undef) w') :
    wpList P ops Q (o :: rest) a w := by
  refine wpList_plain hg fun K' hK' => ?_
  unfold Oper.wp
  simp [execOp, hop, hm, hx, hv, run_map_new hmt hkt hb hf, Result.andThen]
  exact hK' _ _ (hK _ (heap_set hb).1 ⟨rfl, rfl, rfl, by simp, fun i _ hi => (heap_set hb).2 i (fun e => hi (by rw [e]))⟩)

/-- A look-up in a map keyed by numbers: what is there. -/
theorem run_map_at {P : Program} {w : World} {t kt et : TypeId} {b clock i : Nat} {es : Array MapEntry} {k : Int} {v : Value}
    (hm : P.underlying t = some (.map kt et)) (hk : P.underlying kt = some (.int .i64)) (hb : w.heap[b]? = some (.map es clock)) (hf : Instr.findNow (.int .i64) (.int .i64 k) es.toList 0 = some (some (i, v))) :
    (Instr.lookup t (.map (some b)) (.int .i64 k) false).run P w = .ok v w := by
  have hc : ∀ e, (Instr.checkKey e 10000 kt (.int .i64 k)).run P w = .ok () w := fun e => run_checkKey (k := .int .i64 k) hk (by simp [IsKey]) e 9999
  simp [Instr.lookup, run_underlying hm, MapKept.run_getObj_map hb, hc, run_findKey hk hf, Result.andThen]

/-- .. and the zero value where nothing is there. -/
theorem run_map_no {P : Program} {w : World} {t kt et : TypeId} {b clock : Nat} {es : Array MapEntry} {k : Int} {z : Value}
    (hm : P.underlying t = some (.map kt et)) (hk : P.underlying kt = some (.int .i64)) (hb : w.heap[b]? = some (.map es clock)) (hf : Instr.findNow (.int .i64) (.int .i64 k) es.toList 0 = some none)
    (hz : (zeroValue et).run P w = .ok z w) : (Instr.lookup t (.map (some b)) (.int .i64 k) false).run P w = .ok z w := by
  have hc : ∀ e, (Instr.checkKey e 10000 kt (.int .i64 k)).run P w = .ok () w := fun e => run_checkKey (k := .int .i64 k) hk (by simp [IsKey]) e 9999
  simp [Instr.lookup, run_underlying hm, MapKept.run_getObj_map hb, hc, run_findKey hk hf, hz, Result.andThen]

end Go.Proofs.Ytigjpalbaapkkaa
