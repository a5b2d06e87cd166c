/- Packs: what both programs answer about marks of years, with what is true of it, hidden. -/
import Derived.Test.YtfienklaafialaaLawQ
import Derived.Test.YtfienklaafialaaIndD
import Derived.Laws.StructEq
namespace Go.Proofs.Ytfienklaafialaa.Ind
open Go.RowKit
open Go.Proofs.Ytfienklaafialaa.Eas (isY)
open Go.Proofs.Ytfienklaafialaa.Sets (cell_keep)

/-- The mark of a year, and the years that have it. -/
theorem mk_pack (y : Int) : ∃ i p c E : Int, Hid (∀ wx : World, Calls Try.prog 28 #[.int .i64 y] wx (MkO i p c E wx)) ∧ Hid (∀ wx : World, Calls Try.prog 29 #[.int .i64 y] wx (MkO i p c E wx)) ∧
    Hid (∀ wx : World, Calls Try.prog 30 #[.int .i64 y] wx (Two p E wx)) ∧ Hid (∀ wx : World, Calls Try.prog 31 #[.int .i64 y] wx (Two p E wx)) ∧
    Hid (∀ wx : World, Calls Try.prog 32 #[.int .i64 y] wx (Two c E wx)) ∧ Hid (∀ wx : World, Calls Try.prog 33 #[.int .i64 y] wx (Two c E wx)) ∧
    Hid ((E == 0) = false ∨ (E = 0 ∧ Hid (∀ wx : World, Calls Try.prog 35 #[.agg #[.int .i64 i, .int .i64 p, .int .i64 c], .int .i64 y, .int .i64 y] wx (Fea.IntsOut [y] 0 wx)))) := by
  refine ⟨_, _, _, _, Lib.hid fun wx => impl_MarkOf y wx, Lib.hid fun wx => spec_MarkOf y wx, Lib.hid fun wx => impl_EpactOf y wx, Lib.hid fun wx => spec_EpactOf y wx, Lib.hid fun wx => impl_ConcurrentOf y wx, Lib.hid fun wx => spec_ConcurrentOf y wx, Lib.hid ?_⟩
  by_cases h : isY y
  · rw [show yE y = 0 from if_pos h]
    refine .inr ⟨rfl, Lib.hid fun wx => ?_⟩
    rw [show ifN y = ind y from if_pos h, show epN y = ep y from if_pos h, show coN y = con y from if_pos h]
    have q := impl_YearsMarked (ind y) (ep y) (con y) y y wx
    have hm := mk_own y
    have hr : ymR y y := ⟨h, Int.le_refl _, by have := h.2; omega⟩
    rw [show ymL (ind y) (ep y) (con y) y y = [y] by
      rw [show ymL (ind y) (ep y) (con y) y y = ym (ind y) (ep y) (con y) y (y + 1 - y).toNat from if_pos ⟨hm, hr⟩, show (y + 1 - y).toNat = 1 by omega, ym_one],
      show ymE (ind y) (ep y) (con y) y y = 0 from (if_neg (fun k => k hm)).trans (if_pos hr)] at q
    exact q
  · rw [show yE y = 2 from if_neg h]
    exact .inl rfl
/-- The years with a mark. -/
theorem ym_pack (a e c f t : Int) : ∃ (V : List Int) (E : Int) (b : Bool), Hid (V.length ≤ 2000000) ∧
    Hid (∀ wx : World, Calls Try.prog 35 #[.agg #[.int .i64 a, .int .i64 e, .int .i64 c], .int .i64 f, .int .i64 t] wx (Fea.IntsOut V E wx)) ∧
    Hid (∀ wx : World, Calls Try.prog 36 #[.agg #[.int .i64 a, .int .i64 e, .int .i64 c], .int .i64 f, .int .i64 t] wx (Fea.IntsOut V E wx)) ∧
    Hid (∀ wx : World, Calls Try.prog 38 #[.agg #[.int .i64 a, .int .i64 e, .int .i64 c]] wx (Bl b wx)) ∧ Hid (∀ wx : World, Calls Try.prog 39 #[.agg #[.int .i64 a, .int .i64 e, .int .i64 c]] wx (Bl b wx)) ∧
    Hid ((E == 0) = false ∨ (E = 0 ∧ ∀ x ∈ V, ∃ p q r : Int, (0 < a → p = a) ∧ (0 ≤ e → q = e) ∧ (0 < c → r = c) ∧ Hid (∀ wx : World, Calls Try.prog 28 #[.int .i64 x] wx (MkO p q r 0 wx)))) := by
  refine ⟨_, _, decide (mkOk a e c), Lib.hid (ym_len2 a e c f t), Lib.hid fun wx => impl_YearsMarked a e c f t wx, Lib.hid fun wx => spec_YearsMarked a e c f t wx, Lib.hid fun wx => impl_IsYearMark a e c _ rfl wx, Lib.hid fun wx => spec_IsYearMark a e c _ rfl wx, Lib.hid ?_⟩
  by_cases hm : mkOk a e c
  · by_cases hr : ymR f t
    · rw [show ymE a e c f t = 0 from (if_neg (fun k => k hm)).trans (if_pos hr), show ymL a e c f t = ym a e c f (t + 1 - f).toNat from if_pos ⟨hm, hr⟩]
      refine .inr ⟨rfl, fun x hx => ?_⟩
      obtain ⟨x0, x1, g1, g2, g3⟩ := (ym_mem a e c f _ x).1 hx
      obtain ⟨⟨r1, r2⟩, r3, r4⟩ := hr
      have hx' : isY x := ⟨by omega, by omega⟩
      refine ⟨ind x, ep x, con x, fun h => ?_, fun h => ?_, fun h => ?_, Lib.hid fun wx => ?_⟩
      · rcases g1 with g | g <;> omega
      · rcases g2 with g | g <;> omega
      · rcases g3 with g | g <;> omega
      · have q := impl_MarkOf x wx
        rwa [show yE x = 0 from if_pos hx', show ifN x = ind x from if_pos hx', show epN x = ep x from if_pos hx', show coN x = con x from if_pos hx'] at q
    · rw [show ymE a e c f t = 2 from (if_neg (fun k => k hm)).trans (if_neg hr)]
      exact .inl rfl
  · rw [show ymE a e c f t = 1 from if_pos hm]
    exact .inl rfl
theorem neq_mark (a e c : Int) (w : World) : (binOp .neq 42 (.agg #[.int .i64 a, .int .i64 e, .int .i64 c]) (.agg #[.int .i64 a, .int .i64 e, .int .i64 c])).run Try.prog w = .ok (.bool false) w := by
  have hS : Try.prog.underlying 42 = some (.struct (Try.prog.fieldsOf 42)) := by kernel_rfl
  have hp : Try.prog.stoodInHeld 42 = false := by kernel_rfl
  rw [run_neq_struct, show (10000 : Nat) = 9999 + 1 from rfl, run_equalIn_agg w 9999 42 _ _ hS hp]
  simp only [Program.fieldsOf, Try.underlying42]
  go_simp
  try simp
theorem keepM {w wq W : World} {g1 g2 g3 : Nat} {a1 a2 a3 b1 b2 b3 c1 c2 c3 : Value} {AG AW : Option Addr} {n m : Nat} {V : List Int} (hq : Below w.heap.size w wq)
    (h : w.cell? ⟨g1, 0, none⟩ = some a1 ∧ w.cell? ⟨g1, 1, none⟩ = some a2 ∧ w.cell? ⟨g1, 2, none⟩ = some a3 ∧ w.cell? ⟨g2, 0, none⟩ = some b1 ∧ w.cell? ⟨g2, 1, none⟩ = some b2 ∧ w.cell? ⟨g2, 2, none⟩ = some b3 ∧
      w.cell? ⟨g3, 0, none⟩ = some c1 ∧ w.cell? ⟨g3, 1, none⟩ = some c2 ∧ w.cell? ⟨g3, 2, none⟩ = some c3 ∧ Ints.Rd w AG n V ∧ Ints.Rd w AW m V ∧ Below W.heap.size W w) :
    wq.cell? ⟨g1, 0, none⟩ = some a1 ∧ wq.cell? ⟨g1, 1, none⟩ = some a2 ∧ wq.cell? ⟨g1, 2, none⟩ = some a3 ∧ wq.cell? ⟨g2, 0, none⟩ = some b1 ∧ wq.cell? ⟨g2, 1, none⟩ = some b2 ∧ wq.cell? ⟨g2, 2, none⟩ = some b3 ∧
      wq.cell? ⟨g3, 0, none⟩ = some c1 ∧ wq.cell? ⟨g3, 1, none⟩ = some c2 ∧ wq.cell? ⟨g3, 2, none⟩ = some c3 ∧ Ints.Rd wq AG n V ∧ Ints.Rd wq AW m V ∧ Below W.heap.size W wq := by
  obtain ⟨h1, h2, h3, h4, h5, h6, h7, h8, h9, r1, r2, hb⟩ := h
  exact ⟨cell_keep hq h1, cell_keep hq h2, cell_keep hq h3, cell_keep hq h4, cell_keep hq h5, cell_keep hq h6, cell_keep hq h7, cell_keep hq h8, cell_keep hq h9, r1.below hq, r2.below hq, hb.trans (hq.mono hb.size)⟩

end Go.Proofs.Ytfienklaafialaa.Ind
