/- Rows of spans that a call appends to; the head and the rest of a slice of spans. -/
import Derived.Test.YtfhcakpmlppbkaaGreatDoorSetI
import Derived.OwnWalk
import Derived.Laws.AppendOwn
import Derived.Laws.OwnMore
import Derived.BigRegion
import Derived.RegionTactic
namespace Go.Proofs.YtfhcakpmlppbkaaGreatDoor.Sets
open Go.RowKit

/-- Behind a region whose orders come to one end: that end is proved once. -/
theorem via {G Q : Prop} (h : G) (k : G → Q) : Q := k h

/-- The cells of some spans. -/
def cells : L → List Value
  | [] => []
  | s :: r => .int .i64 s.1 :: .int .i64 s.2 :: cells r
theorem cells_append (a b : L) : cells (a ++ b) = cells a ++ cells b := by
  induction a with
  | nil => rfl
  | cons s r ih => simp [cells, ih]
theorem cells_length (a : L) : (cells a).length = a.length * 2 := by
  induction a with
  | nil => rfl
  | cons s r ih => simp only [cells, List.length_cons, ih]; omega
theorem cells_at (a : L) (k : Nat) (h : k < a.length) : (cells a)[k * 2]? = some (.int .i64 a[k].1) ∧ (cells a)[k * 2 + 1]? = some (.int .i64 a[k].2) := by
  induction a generalizing k with
  | nil => simp at h
  | cons s r ih =>
    cases k with
    | zero => simp [cells]
    | succ k =>
      have := ih k (by simpa using h)
      simp only [cells, Nat.succ_mul, List.getElem_cons_succ]
      simpa using this
/-- v is a row of the call's own that holds the spans xs: the world w0 was there before. -/
def Own (w : World) (B : Nat) (v : Value) (xs : L) : Prop := w.ownsRow B 36 2 v xs.length (cells xs)
section
variable {w w' : World} {B : Nat} {v : Value} {xs : L}
theorem Own.form (h : Own w B v xs) : ∃ A c, v = .slice A xs.length c ∧ Row w B w.heap.size A xs.length c xs := by
  obtain ⟨h1, h2⟩ := h
  rcases h2 with ⟨rfl, h0⟩ | ⟨g, cap, cur, rfl, hB, hg, hn, hm, hs, ht⟩
  · have e : xs = [] := List.eq_nil_of_length_eq_zero h0
    subst e
    exact ⟨none, 0, rfl, Row.nil (Nat.le_refl _)⟩
  · refine ⟨_, cap, rfl, rfl, hn, Nat.le_refl _, fun _ => ⟨g, 0, cur, rfl, hB, (Array.getElem?_eq_some_iff.1 hg).1, hg, fun k hk => ?_⟩⟩
    have h3 := cells_at xs k hk
    rw [← ht, List.getElem?_take, List.getElem?_take, if_pos (by omega), if_pos (by omega)] at h3
    simpa using h3
theorem Own.alloc (h : Own w B v xs) (o : Obj) : (w.alloc o).ownsRow B 36 2 v xs.length (cells xs) := World.ownsRow.alloc h o
theorem Own.made0 (w : World) : Own (w.alloc (.cells #[] 36)) w.heap.size (.slice (some ⟨w.heap.size, 0, none⟩) 0 0) [] :=
  ⟨rfl, .inr ⟨w.heap.size, 0, #[], rfl, Nat.le_refl _, heap_alloc_new w _, Nat.le_refl _, Nat.zero_le _, rfl, rfl⟩⟩
theorem Own.nil (w : World) (B : Nat) : Own w B (.slice none 0 0) [] := World.ownsRow_nil w B _ 2
theorem Own.below (h : Own w B v xs) (hb : Below w.heap.size w w') : Own w' B v xs := by
  refine ⟨h.1, ?_⟩
  rcases h.2 with h0 | ⟨g, cap, cur, hv, hB, hg, rest⟩
  · exact .inl h0
  · exact .inr ⟨g, cap, cur, hv, hB, (hb.block g (Array.getElem?_eq_some_iff.1 hg).1).trans hg, rest⟩
theorem Own.mono {B' : Nat} (h : Own w B v xs) (hB : B' ≤ B) : Own w B' v xs := by
  refine ⟨h.1, ?_⟩
  rcases h.2 with h0 | ⟨g, cap, cur, hv, hB', hg, rest⟩
  · exact .inl h0
  · exact .inr ⟨g, cap, cur, hv, by omega, hg, rest⟩
end
section
variable {w : World} {s : Int × Int} {r : L} {A : Option Addr}
theorem Rd.head (h : Rd w A (r.length + 1) (s :: r)) : ∃ g off, A = some ⟨g, off, none⟩ ∧ g < w.heap.size ∧ w.cell? ⟨g, off, none⟩ = some (.int .i64 s.1) ∧ w.cell? ⟨g, off + 1, none⟩ = some (.int .i64 s.2) ∧
    Rd w (some ⟨g, off + 2, none⟩) r.length r := by
  obtain ⟨g, off, rfl, hg, hc⟩ := h.2 (by omega)
  have h0 := hc 0 (by simp)
  refine ⟨g, off, rfl, hg, by simpa using h0.1, by simpa using h0.2, rfl, fun _ => ⟨g, off + 2, rfl, hg, fun k hk => ?_⟩⟩
  have h1 := hc (k + 1) (by simpa using hk)
  simp only [List.getElem_cons_succ] at h1
  rw [show off + (k + 1) * 2 = off + 2 + k * 2 by omega] at h1
  exact h1
end
/-- The head of a slice of spans and what is behind it, at once; the head's cells in whatever world comes of w. -/
theorem Rd.split {w : World} {A : Option Addr} {k : Nat} {xs : L} (h : Rd w A (k + 1) xs) : ∃ (s : Int × Int) (r : L) (g off : Nat), xs = s :: r ∧ A = some ⟨g, off, none⟩ ∧ Hid (Rd w (some ⟨g, off + 2, none⟩) k r) ∧
    Hid (∀ w', Below w.heap.size w w' → g < w'.heap.size ∧ w'.cell? ⟨g, off, none⟩ = some (.int .i64 s.1) ∧ w'.cell? ⟨g, off + 1, none⟩ = some (.int .i64 s.2)) := by
  have hl := h.1
  rcases xs with _ | ⟨s, r⟩
  · simp at hl
  · simp only [List.length_cons, Nat.add_right_cancel_iff] at hl
    subst hl
    obtain ⟨g, off, rfl, -, -, -, px⟩ := h.head
    refine ⟨s, r, g, off, rfl, rfl, Lib.hid px, Lib.hid fun w' hb => ?_⟩
    obtain ⟨g', off', e, hg, c0, c1, -⟩ := (h.below hb).head
    injection e with e
    injection e with e1 e2
    subst e1 e2
    exact ⟨hg, c0, c1⟩
theorem Rd.none0 {w : World} {A : Option Addr} {xs : L} (h : Rd w A 0 xs) : xs = [] := List.eq_nil_of_length_eq_zero h.1
theorem Rd.zero {w : World} {A : Option Addr} {k c : Nat} {r : L} {B : Option Addr} (h : Hid (Rd w B k r)) (hk : k + 1 ≤ c) (hc : c = 1) : Rd w A k r := by
  have e : k = 0 := by omega
  subst e
  have := h.out.none0
  subst this
  exact Rd.nil
theorem Rd.short {w : World} {A : Option Addr} {r : L} (h : r.length + 1 ≤ 1) : Rd w A r.length r := by
  have e : r = [] := List.eq_nil_of_length_eq_zero (by omega)
  subst e
  exact Rd.nil
theorem Row.cap {w : World} {B U : Nat} {A : Option Addr} {n c c' : Nat} {xs : L} (h : Row w B U A n c xs) (hc : n ≤ c') : Row w B U A n c' xs := ⟨h.1, hc, h.2.2⟩
theorem Own.parts {w : World} {B : Nat} {v : Value} {xs : L} (h : Own w B v xs) : (v = .slice none 0 0 ∧ xs = []) ∨
    ∃ g cap, v = .slice (some ⟨g, 0, none⟩) xs.length cap ∧ xs.length ≤ cap ∧ cap ≤ maxLen ∧ Row w B w.heap.size (some ⟨g, 0, none⟩) xs.length cap xs := by
  have h2 := h.2
  rcases h2 with ⟨rfl, h0⟩ | ⟨g, cap, cur, rfl, hB, hg, hn, hm, hs, ht⟩
  · exact .inl ⟨rfl, List.eq_nil_of_length_eq_zero h0⟩
  · obtain ⟨A, c, e, hr⟩ := h.form
    injection e with e1 e2 e3
    subst e1 e3
    exact .inr ⟨g, cap, rfl, hn, hm, hr⟩
theorem app_len (a : L) (s : Int × Int) : (a ++ [s]).length = a.length + 1 := by simp
theorem cells_snoc (a : L) (s : Int × Int) : cells (a ++ [s]) = cells a ++ [.int .i64 s.1, .int .i64 s.2] := by rw [cells_append]; rfl
theorem add_flat (g k : Nat) : (⟨g, 0, none⟩ : Addr).add k = ⟨g, k, none⟩ := by unfold Addr.add; split <;> simp_all
theorem news_two (w : World) (a b : Value) : ∀ j u, [a, b][j]? = some u → (w.alloc (.cells #[a, b] 36)).cell? ((⟨w.heap.size, 0, none⟩ : Addr).add j) = some u := by
  intro j u hu
  rw [add_flat, (Blk.new w 36 #[a, b]).cell j]
  simpa using hu
theorem one_two (a b : Int) : ∀ u ∈ [Value.int .i64 a, .int .i64 b], u.oneCell' = true := by
  intro u hu
  simp at hu
  rcases hu with rfl | rfl <;> rfl
theorem Own.snoc {w0 w w' : World} {v v' : Value} {acc : L} {s : Int × Int} {o : Obj} (hb : Below w0.heap.size w0 w) (h0 : Own w w0.heap.size v acc)
    (h : w'.ownsRow w0.heap.size 36 2 v' (acc.length + 1) (cells acc ++ [.int .i64 s.1, .int .i64 s.2])) (hg : (w.alloc o).grownBy w' v.ownBlock) :
    Own w' w0.heap.size v' (acc ++ [s]) ∧ Below w0.heap.size w0 w' :=
  ⟨by unfold Own; rw [app_len, cells_snoc]; exact h, Below.grown (hb.alloc hb.size o) hg (by have := hb.size; simp; omega) (fun g hg => (h0.lt g hg).1)⟩
/-- One span appended to a row of the call's own. -/
theorem append_span {ops : Array Oper} {rest : List Oper} {o : Oper} {a : Act} {Q : Exit → Act → World → Prop} {w0 w1 : World} {v : Value} {acc : L} {f e : Int} (hb : Below w0.heap.size w0 w1) (hown : Own w1 w0.heap.size v acc)
    (hN : acc.length + 1 ≤ 8000000) (hgd : o.guard = none) (s x : Operand) (ho : o.op = .call { callee := .builtin .append, args := #[s, x], argTypes := #[24, 24] })
    (hs : a.eval s = v) (hx : a.eval x = .slice (some ⟨w1.heap.size, 0, none⟩) 1 1)
    (K : ∀ v2 w2, Own w2 w0.heap.size v2 (acc ++ [(f, e)]) → Below w0.heap.size w0 w2 → wpList Tryz.prog ops Q rest (a.put o.dst v2) w2) :
    wpList Tryz.prog ops Q (o :: rest) a (w1.alloc (.cells #[.int .i64 f, .int .i64 e] 36)) := by
  obtain ⟨i0, hi, hz0, hz1, hz2⟩ := info_parts info_span
  refine wpList_append_own _ hgd s x 24 ho w0.heap.size 36 i0 (.agg #[.int .i64 0, .int .i64 0]) 2 16 Tryz.underlying24 hi hz0 hz1 hz2 rfl (by decide) v _ _ hs (hown.alloc _) ⟨w1.heap.size, 0, none⟩ 1 1 [.int .i64 f, .int .i64 e] hx rfl (news_two _ _ _) (one_two _ _) ?_ ?_ ?_ ?_
  · unfold maxLen; omega
  · omega
  · have := hb.size; simp; omega
  · intro v2 w2 hown2 hgrow2 _
    obtain ⟨own2, hb2⟩ := Own.snoc (s := (f, e)) hb hown hown2 hgrow2
    exact K v2 w2 own2 hb2
/-- The same where the walk has reckoned the new block's number; and other blocks are kept. -/
theorem append_spanG {ops : Array Oper} {rest : List Oper} {o : Oper} {a : Act} {Q : Exit → Act → World → Prop} {w0 w1 : World} {v : Value} {acc : L} {f e : Int} {g : Nat} (hg : w1.heap.size = g) (hb : Below w0.heap.size w0 w1) (hown : Own w1 w0.heap.size v acc)
    (hN : acc.length + 1 ≤ 8000000) (hgd : o.guard = none) (s x : Operand) (ho : o.op = .call { callee := .builtin .append, args := #[s, x], argTypes := #[24, 24] })
    (hs : a.eval s = v) (hx : a.eval x = .slice (some ⟨g, 0, none⟩) 1 1)
    (K : ∀ v2 w2, Own w2 w0.heap.size v2 (acc ++ [(f, e)]) → Below w0.heap.size w0 w2 → (∀ G t cs, Blk w1 G t cs → v.ownBlock ≠ some G → Blk w2 G t cs) → wpList Tryz.prog ops Q rest (a.put o.dst v2) w2) :
    wpList Tryz.prog ops Q (o :: rest) a (w1.alloc (.cells #[.int .i64 f, .int .i64 e] 36)) := by
  subst hg
  obtain ⟨i0, hi, hz0, hz1, hz2⟩ := info_parts info_span
  refine wpList_append_own _ hgd s x 24 ho w0.heap.size 36 i0 (.agg #[.int .i64 0, .int .i64 0]) 2 16 Tryz.underlying24 hi hz0 hz1 hz2 rfl (by decide) v _ _ hs (hown.alloc _) ⟨w1.heap.size, 0, none⟩ 1 1 [.int .i64 f, .int .i64 e] hx rfl (news_two _ _ _) (one_two _ _) ?_ ?_ ?_ ?_
  · unfold maxLen; omega
  · omega
  · have := hb.size; simp; omega
  · intro v2 w2 hown2 hgrow2 _
    obtain ⟨own2, hb2⟩ := Own.snoc (s := (f, e)) hb hown hown2 hgrow2
    exact K v2 w2 own2 hb2 fun G t cs h hne => (hgrow2.block G (h.alloc _).lt (fun e => hne e.symm)).trans (h.alloc _)
theorem Own.below_own {w : World} {B : Nat} {v : Value} {acc : L} (h : Own w B v acc) : v.ownBlock ≠ some w.heap.size := fun e => by
  have := (World.ownsRow.lt h _ e).2
  omega

end Go.Proofs.YtfhcakpmlppbkaaGreatDoor.Sets
