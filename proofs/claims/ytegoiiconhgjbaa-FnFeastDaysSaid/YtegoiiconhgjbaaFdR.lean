/- Rows of dates of feasts (a feast and its day): made by gen_fdr.py. -/
import Derived.Test.YtegoiiconhgjbaaOwn
import Derived.Test.YtegoiiconhgjbaaFeaJ
namespace Go.Proofs.Ytegoiiconhgjbaa.Fdt
open Go.RowKit
open Go.Proofs.Ytegoiiconhgjbaa.Sets (L Rd cells cells_append cells_length cells_at app_len cells_snoc add_flat one_two)

theorem info_fd : (Try.prog.info? 87).map (fun i => (i.zero, i.size, i.bytes)) = some (some (.agg #[.int .i64 0, .int .i64 0]), 2, 16) := by kernel_rfl
/-- The slice is a row of the call's own, in a block from B on and below U. -/
def Row (w : World) (B U : Nat) (A : Option Addr) (n c : Nat) (xs : L) : Prop :=
  xs.length = n ∧ n ≤ c ∧ U ≤ w.heap.size ∧ (0 < n → ∃ g off cs, A = some ⟨g, off, none⟩ ∧ B ≤ g ∧ g < U ∧ Blk w g 87 cs ∧
    ∀ k (h : k < xs.length), cs[off + k * 2]? = some (.int .i64 xs[k].1) ∧ cs[off + k * 2 + 1]? = some (.int .i64 xs[k].2))

theorem Row.rd {w : World} {B U : Nat} {A : Option Addr} {n c : Nat} {xs : L} (h : Row w B U A n c xs) : Rd w A n xs :=
  ⟨h.1, fun hn => by
    obtain ⟨g, off, cs, e, _, hg, hb, hcell⟩ := h.2.2.2 hn
    refine ⟨g, off, e, Nat.lt_of_lt_of_le hg h.2.2.1, fun k hk => ?_⟩
    rw [hb.cell, hb.cell]
    exact hcell k hk⟩
theorem Row.nil {w : World} {B U : Nat} {c : Nat} (h : U ≤ w.heap.size) : Row w B U none 0 c [] := ⟨rfl, Nat.zero_le _, h, fun h => absurd h (Nat.lt_irrefl _)⟩
/-- v is a row of the call's own that holds the spans xs: the world w0 was there before. -/
def Own (w : World) (B : Nat) (v : Value) (xs : L) : Prop := w.ownsRow B 87 2 v xs.length (cells xs)
section
variable {w w' : World} {B : Nat} {v : Value} {xs : L}
theorem Own.form (h : Own w B v xs) : ∃ A c, v = .slice A xs.length c ∧ Row w B w.heap.size A xs.length c xs := by
  obtain ⟨h1, h2⟩ := h
  rcases h2 with ⟨rfl, h0⟩ | ⟨g, cap, cur, rfl, hB, hg, hn, hm, hs, ht⟩
  · have e : xs = [] := List.eq_nil_of_length_eq_zero h0
    subst e
    exact ⟨none, 0, rfl, Row.nil (Nat.le_refl _)⟩
  · refine ⟨_, cap, rfl, rfl, hn, Nat.le_refl _, fun _ => ⟨g, 0, cur, rfl, hB, (Array.getElem?_eq_some_iff.1 hg).1, hg, fun k hk => ?_⟩⟩
    have h3 := cells_at xs k hk
    rw [← ht, List.getElem?_take, List.getElem?_take, if_pos (by omega), if_pos (by omega)] at h3
    simpa using h3
theorem Own.alloc (h : Own w B v xs) (o : Obj) : (w.alloc o).ownsRow B 87 2 v xs.length (cells xs) := World.ownsRow.alloc h o
theorem Own.made0 (w : World) : Own (w.alloc (.cells #[] 87)) w.heap.size (.slice (some ⟨w.heap.size, 0, none⟩) 0 0) [] :=
  ⟨rfl, .inr ⟨w.heap.size, 0, #[], rfl, Nat.le_refl _, heap_alloc_new w _, Nat.le_refl _, Nat.zero_le _, rfl, rfl⟩⟩
theorem Own.nil (w : World) (B : Nat) : Own w B (.slice none 0 0) [] := World.ownsRow_nil w B _ 2
theorem Own.below (h : Own w B v xs) (hb : Below w.heap.size w w') : Own w' B v xs := by
  refine ⟨h.1, ?_⟩
  rcases h.2 with h0 | ⟨g, cap, cur, hv, hB, hg, rest⟩
  · exact .inl h0
  · exact .inr ⟨g, cap, cur, hv, hB, (hb.block g (Array.getElem?_eq_some_iff.1 hg).1).trans hg, rest⟩
theorem Own.mono {B' : Nat} (h : Own w B v xs) (hB : B' ≤ B) : Own w B' v xs := by
  refine ⟨h.1, ?_⟩
  rcases h.2 with h0 | ⟨g, cap, cur, hv, hB', hg, rest⟩
  · exact .inl h0
  · exact .inr ⟨g, cap, cur, hv, by omega, hg, rest⟩
end
theorem news_two (w : World) (a b : Value) : ∀ j u, [a, b][j]? = some u → (w.alloc (.cells #[a, b] 87)).cell? ((⟨w.heap.size, 0, none⟩ : Addr).add j) = some u := by
  intro j u hu
  rw [add_flat, (Blk.new w 87 #[a, b]).cell j]
  simpa using hu
theorem Own.snoc {w0 w w' : World} {v v' : Value} {acc : L} {s : Int × Int} {o : Obj} (hb : Below w0.heap.size w0 w) (h0 : Own w w0.heap.size v acc)
    (h : w'.ownsRow w0.heap.size 87 2 v' (acc.length + 1) (cells acc ++ [.int .i64 s.1, .int .i64 s.2])) (hg : (w.alloc o).grownBy w' v.ownBlock) :
    Own w' w0.heap.size v' (acc ++ [s]) ∧ Below w0.heap.size w0 w' :=
  ⟨by unfold Own; rw [app_len, cells_snoc]; exact h, Below.grown (hb.alloc hb.size o) hg (by have := hb.size; simp; omega) (fun g hg => (h0.lt g hg).1)⟩
/-- One span appended to a row of the call's own. -/
theorem append_fd {ops : Array Oper} {rest : List Oper} {o : Oper} {a : Act} {Q : Exit → Act → World → Prop} {w0 w1 : World} {v : Value} {acc : L} {f e : Int} (hb : Below w0.heap.size w0 w1) (hown : Own w1 w0.heap.size v acc)
    (hN : acc.length + 1 ≤ 8000000) (hgd : o.guard = none) (s x : Operand) (ho : o.op = .call { callee := .builtin .append, args := #[s, x], argTypes := #[84, 84] })
    (hs : a.eval s = v) (hx : a.eval x = .slice (some ⟨w1.heap.size, 0, none⟩) 1 1)
    (K : ∀ v2 w2, Own w2 w0.heap.size v2 (acc ++ [(f, e)]) → Below w0.heap.size w0 w2 → wpList Try.prog ops Q rest (a.put o.dst v2) w2) :
    wpList Try.prog ops Q (o :: rest) a (w1.alloc (.cells #[.int .i64 f, .int .i64 e] 87)) := by
  obtain ⟨i0, hi, hz0, hz1, hz2⟩ := info_parts info_fd
  refine wpList_append_own _ hgd s x 84 ho w0.heap.size 87 i0 (.agg #[.int .i64 0, .int .i64 0]) 2 16 Try.underlying84 hi hz0 hz1 hz2 rfl (by decide) v _ _ hs (hown.alloc _) ⟨w1.heap.size, 0, none⟩ 1 1 [.int .i64 f, .int .i64 e] hx rfl (news_two _ _ _) (one_two _ _) ?_ ?_ ?_ ?_
  · unfold maxLen; omega
  · omega
  · have := hb.size; simp; omega
  · intro v2 w2 hown2 hgrow2 _
    obtain ⟨own2, hb2⟩ := Own.snoc (s := (f, e)) hb hown hown2 hgrow2
    exact K v2 w2 own2 hb2
/-- Block g has room for cap spans and begins with the spans ys. -/
def Cells (w : World) (g cap : Nat) (ys : L) : Prop :=
  ∃ cs : Array Value, cs.size = cap * 2 ∧ Blk w g 87 cs ∧ ∀ j (h : j < ys.length), cs[j * 2]? = some (.int .i64 ys[j].1) ∧ cs[j * 2 + 1]? = some (.int .i64 ys[j].2)
section
variable {w w' : World} {g cap : Nat} {ys : L}
theorem Own.cells {B : Nat} {v : Value} (h : Own w B v ys) (hne : 0 < ys.length) : ∃ g cap, v = .slice (some ⟨g, 0, none⟩) ys.length cap ∧ B ≤ g ∧ g < w.heap.size ∧ ys.length ≤ cap ∧ cap ≤ maxLen ∧ Cells w g cap ys := by
  rcases h.2 with ⟨rfl, h0⟩ | ⟨g, cap, cur, rfl, hB, hg, hn, hm, hs, ht⟩
  · omega
  · refine ⟨g, cap, rfl, hB, (Array.getElem?_eq_some_iff.1 hg).1, hn, hm, cur, hs, hg, fun k hk => ?_⟩
    have h3 := cells_at ys k hk
    rw [← ht, List.getElem?_take, List.getElem?_take, if_pos (by omega), if_pos (by omega)] at h3
    simpa using h3
theorem Own.cellsN {B : Nat} {v : Value} (h : Own w B v ys) (n : Nat) (hn : ys.length = n) (h0 : 0 < n) : ∃ g cap, v = .slice (some ⟨g, 0, none⟩) n cap ∧ B ≤ g ∧ g < w.heap.size ∧ n ≤ cap ∧ cap ≤ maxLen ∧ Cells w g cap ys := by
  subst hn
  exact h.cells h0
theorem Cells.ownN {B n : Nat} (h : Cells w g cap ys) (e : ys.length = n) (hB : B ≤ g) (hn : n ≤ cap) (hm : cap ≤ maxLen) (own : ∀ {w : World} {ys : L}, Cells w g cap ys → B ≤ g → ys.length ≤ cap → cap ≤ maxLen → Own w B (.slice (some ⟨g, 0, none⟩) ys.length cap) ys) : Own w B (.slice (some ⟨g, 0, none⟩) n cap) ys := by
  subst e
  exact own h hB hn hm
theorem cells_get (a : L) (j : Nat) (h : j < a.length * 2) : (cells a)[j]? = if j % 2 = 0 then (a[j / 2]?).map (fun s => Value.int .i64 s.1) else (a[j / 2]?).map (fun s => Value.int .i64 s.2) := by
  have hk : j / 2 < a.length := by omega
  have h2 := cells_at a (j / 2) hk
  rw [List.getElem?_eq_getElem hk]
  split
  · rw [show j / 2 * 2 = j by omega] at h2; simpa using h2.1
  · rw [show j / 2 * 2 + 1 = j by omega] at h2; simpa using h2.2
end
section
variable {w w' : World} {g cap : Nat} {ys : L}
theorem Cells.at_ (h : Cells w g cap ys) (_hn : ys.length ≤ cap) {k : Nat} (hk : k < ys.length) : w.cell? ⟨g, k * 2, none⟩ = some (.int .i64 ys[k].1) ∧ w.cell? ⟨g, k * 2 + 1, none⟩ = some (.int .i64 ys[k].2) ∧
    w.frozen? ⟨g, k * 2, none⟩ = false ∧ w.frozen? ⟨g, k * 2 + 1, none⟩ = false := by
  obtain ⟨cs, hs, hb, hc⟩ := h
  obtain ⟨h0, h1⟩ := hc k hk
  exact ⟨(hb.cell _).trans h0, (hb.cell _).trans h1, hb.frozen _, hb.frozen _⟩
theorem Cells.set (h : Cells w g cap ys) (hn : ys.length ≤ cap) {k : Nat} (hk : k < ys.length) (s : Int × Int) :
    Cells ((w.setCell ⟨g, k * 2, none⟩ (.int .i64 s.1)).setCell ⟨g, k * 2 + 1, none⟩ (.int .i64 s.2)) g cap (ys.set k s) := by
  obtain ⟨cs, hs, hb, hc⟩ := h
  refine ⟨_, ?_, (hb.set_ (k * 2) _).set_ (k * 2 + 1) _, fun j hj => ?_⟩
  · simpa using hs
  · rw [List.length_set] at hj
    by_cases e : j = k
    · subst e
      rw [List.getElem_set_self]
      refine ⟨?_, ?_⟩
      · rw [Array.getElem?_setIfInBounds_ne (by omega), Array.getElem?_setIfInBounds_self_of_lt (by omega)]
      · rw [Array.getElem?_setIfInBounds_self_of_lt (by simp; omega)]
    · rw [List.getElem_set_ne (by omega), Array.getElem?_setIfInBounds_ne (by omega), Array.getElem?_setIfInBounds_ne (by omega), Array.getElem?_setIfInBounds_ne (by omega), Array.getElem?_setIfInBounds_ne (by omega)]
      exact hc j hj
theorem Cells.below (h : Cells w g cap ys) (hb : Below w.heap.size w w') : Cells w' g cap ys := by
  obtain ⟨cs, hs, hk, hc⟩ := h
  exact ⟨cs, hs, hk.below hb hk.lt, hc⟩
theorem Cells.rd (h : Cells w g cap ys) : Rd w (some ⟨g, 0, none⟩) ys.length ys := by
  obtain ⟨cs, hs, hk, hc⟩ := h
  refine ⟨rfl, fun _ => ⟨g, 0, rfl, hk.lt, fun k h => ?_⟩⟩
  rw [hk.cell, hk.cell]
  simpa using hc k h
end

end Go.Proofs.Ytegoiiconhgjbaa.Fdt
