/- Rows of bytes that a call appends to, and what they read as. -/
import Derived.Test.YtdpbikephjnndaaDoorText
import Derived.Test.YtdpbikephjnndaaDoorSt
import Derived.OwnWalk
import Derived.Laws.AppendOwn
import Derived.Laws.OwnMore
import Derived.Laws.IdiomStrings
namespace Go.Proofs.YtdpbikephjnndaaDoor.Byr
open Go.RowKit

/-- The cells of some bytes. -/
def cells (l : List UInt8) : List Value := l.map fun c => .int .u8 (c.toNat : Int)
theorem cells_len (l : List UInt8) : (cells l).length = l.length := by simp [cells]
theorem cells_append (a b : List UInt8) : cells (a ++ b) = cells a ++ cells b := by simp [cells]
theorem cells_at (a : List UInt8) (k : Nat) (h : k < a.length) : (cells a)[k]? = some (.int .u8 (a[k].toNat : Int)) := by simp [cells, h]
theorem cells_one (l : List UInt8) : ∀ u ∈ cells l, u.oneCell' = true := by
  intro u hu
  obtain ⟨c, -, rfl⟩ := List.mem_map.1 hu
  rfl
theorem info_byte : (Tryd.prog.info? 5).map (fun i => (i.zero, i.size, i.bytes)) = some (some (.int .u8 0), 1, 1) := by kernel_rfl
/-- v is a row of the call's own that holds the bytes l. -/
def Own (w : World) (B : Nat) (v : Value) (l : List UInt8) : Prop := w.ownsRow B 5 1 v l.length (cells l)
section
variable {w w' : World} {B : Nat} {v : Value} {l : List UInt8}
theorem Own.parts (h : Own w B v l) : (v = .slice none 0 0 ∧ l = []) ∨ ∃ g cap, v = .slice (some ⟨g, 0, none⟩) l.length cap ∧ l.length ≤ cap ∧ B ≤ g ∧ g < w.heap.size ∧
    ∀ k (hk : k < l.length), w.cell? ⟨g, k, none⟩ = some (.int .u8 (l[k].toNat : Int)) := by
  obtain ⟨h1, h2⟩ := h
  rcases h2 with ⟨rfl, h0⟩ | ⟨g, cap, cur, rfl, hB, hg, hn, hm, hs, ht⟩
  · exact .inl ⟨rfl, List.eq_nil_of_length_eq_zero h0⟩
  · refine .inr ⟨g, cap, rfl, hn, hB, (Array.getElem?_eq_some_iff.1 hg).1, fun k hk => ?_⟩
    have h3 := cells_at l k hk
    rw [← ht, List.getElem?_take, if_pos (by omega)] at h3
    rw [Blk.cell hg k]
    simpa using h3
/-- The slice with address A reads as the bytes l. -/
def Rd (w : World) (A : Option Addr) (l : List UInt8) : Prop := ∀ k (hk : k < l.length), ∃ g, A = some ⟨g, 0, none⟩ ∧ g < w.heap.size ∧ w.cell? ⟨g, k, none⟩ = some (.int .u8 (l[k].toNat : Int))
theorem Own.form (h : Own w B v l) : ∃ A cap, v = .slice A l.length cap ∧ l.length ≤ cap ∧ Rd w A l := by
  rcases h.parts with ⟨rfl, rfl⟩ | ⟨g, cap, rfl, h1, -, h2, h3⟩
  · exact ⟨none, 0, rfl, Nat.le_refl _, fun k hk => absurd hk (Nat.not_lt_zero k)⟩
  · exact ⟨_, cap, rfl, h1, fun k hk => ⟨g, rfl, h2, h3 k hk⟩⟩
theorem Rd.below {A : Option Addr} (h : Rd w A l) (hb : Below w.heap.size w w') : Rd w' A l := fun k hk => by
  obtain ⟨g, e, hg, hc⟩ := h k hk
  exact ⟨g, e, Nat.lt_of_lt_of_le hg hb.size, (hb.cell (p := ⟨g, _, none⟩) hg).trans hc⟩
theorem Own.made0 (w : World) : Own (w.alloc (.cells #[] 5)) w.heap.size (.slice (some ⟨w.heap.size, 0, none⟩) 0 0) [] :=
  ⟨rfl, .inr ⟨w.heap.size, 0, #[], rfl, Nat.le_refl _, heap_alloc_new w _, Nat.le_refl _, Nat.zero_le _, rfl, rfl⟩⟩
theorem Own.below (h : Own w B v l) (hb : Below w.heap.size w w') : Own w' B v l := by
  refine ⟨h.1, ?_⟩
  rcases h.2 with h0 | ⟨g, cap, cur, hv, hB, hg, rest⟩
  · exact .inl h0
  · exact .inr ⟨g, cap, cur, hv, hB, (hb.block g (Array.getElem?_eq_some_iff.1 hg).1).trans hg, rest⟩
theorem Own.mono {B' : Nat} (h : Own w B v l) (hB : B' ≤ B) : Own w B' v l := by
  refine ⟨h.1, ?_⟩
  rcases h.2 with h0 | ⟨g, cap, cur, hv, hB', hg, rest⟩
  · exact .inl h0
  · exact .inr ⟨g, cap, cur, hv, by omega, hg, rest⟩
end
theorem add_flat (g k : Nat) : (⟨g, 0, none⟩ : Addr).add k = ⟨g, k, none⟩ := by unfold Addr.add; split <;> simp_all
/-- Some bytes appended to a row of the call's own. -/
theorem append_b {ops : Array Oper} {rest : List Oper} {o : Oper} {a : Act} {Q : Exit → Act → World → Prop} {w0 w1 : World} {v : Value} {acc : List UInt8} (news : List UInt8) {vs : Array Value} (hvs : vs.toList = cells news) {g : Nat} (hg : w1.heap.size = g)
    (hb : Below w0.heap.size w0 w1) (hown : Own w1 w0.heap.size v acc)
    (hN : acc.length + news.length ≤ 8000000) (hgd : o.guard = none) (s x : Operand) (ho : o.op = .call { callee := .builtin .append, args := #[s, x], argTypes := #[22, 22] })
    (hs : a.eval s = v) (hx : a.eval x = .slice (some ⟨g, 0, none⟩) news.length news.length)
    (K : ∀ v2 w2, Own w2 w0.heap.size v2 (acc ++ news) → Below w0.heap.size w0 w2 → wpList Tryd.prog ops Q rest (a.put o.dst v2) w2) :
    wpList Tryd.prog ops Q (o :: rest) a (w1.alloc (.cells vs 5)) := by
  subst hg
  obtain ⟨i0, hi, hz0, hz1, hz2⟩ := info_parts info_byte
  refine wpList_append_own _ hgd s x 22 ho w0.heap.size 5 i0 (.int .u8 0) 1 1 Tryd.underlying22 hi hz0 hz1 hz2 rfl (by decide) v _ _ hs (hown.alloc _) ⟨w1.heap.size, 0, none⟩ news.length news.length (cells news) hx (by rw [cells_len, Nat.mul_one]) ?_ (cells_one _) ?_ ?_ ?_ ?_
  · intro j u hu
    rw [add_flat, (Blk.new w1 5 vs).cell j, ← hu, ← hvs]
    simp
  · unfold maxLen; omega
  · omega
  · have := hb.size; simp; omega
  · intro v2 w2 hown2 hgrow2 _
    refine K v2 w2 ?_ (Below.grown (hb.alloc hb.size _) hgrow2 (by have := hb.size; simp; omega) (fun g hg => (World.ownsRow.lt hown g hg).1))
    unfold Own
    rw [List.length_append, cells_append]
    exact hown2
end Go.Proofs.YtdpbikephjnndaaDoor.Byr
