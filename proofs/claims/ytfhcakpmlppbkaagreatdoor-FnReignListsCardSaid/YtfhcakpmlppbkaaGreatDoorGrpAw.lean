/- Texts of a claim in one file: ReiT ReiR. -/
import Derived.Test.YtfhcakpmlppbkaaGreatDoorGrpAs
import Derived.Test.YtfhcakpmlppbkaaGreatDoorGrpAv
import Derived.Test.YtfhcakpmlppbkaaGreatDoorGrpAm
import Derived.Test.YtfhcakpmlppbkaaGreatDoorGrpAp
import Derived.Test.YtfhcakpmlppbkaaGreatDoorGrpAc
import Derived.Test.YtfhcakpmlppbkaaGreatDoorGrpAd
namespace Go.Proofs.YtfhcakpmlppbkaaGreatDoor.Rei
open Go.RowKit
open Go.Proofs.YtfhcakpmlppbkaaGreatDoor.Ints (add_flat)

def rcells : LR → List Value
  | [] => []
  | r :: t => .string r.1 :: .int .i64 r.2.1 :: .int .i64 r.2.2 :: rcells t
theorem rcells_append (a b : LR) : rcells (a ++ b) = rcells a ++ rcells b := by
  induction a with
  | nil => rfl
  | cons s r ih => simp [rcells, ih]
theorem rcells_length (a : LR) : (rcells a).length = a.length * 3 := by
  induction a with
  | nil => rfl
  | cons s r ih => simp only [rcells, List.length_cons, ih]; omega
theorem rcells_at (a : LR) (k : Nat) (h : k < a.length) : (rcells a)[k * 3]? = some (.string a[k].1) ∧ (rcells a)[k * 3 + 1]? = some (.int .i64 a[k].2.1) ∧ (rcells a)[k * 3 + 2]? = some (.int .i64 a[k].2.2) := by
  induction a generalizing k with
  | nil => simp at h
  | cons s r ih =>
    cases k with
    | zero => simp [rcells]
    | succ k =>
      have := ih k (by simpa using h)
      simp only [rcells, Nat.succ_mul, List.getElem_cons_succ]
      simpa using this
theorem rcells_snoc (a : LR) (s : ByteArray × Int × Int) : rcells (a ++ [s]) = rcells a ++ [.string s.1, .int .i64 s.2.1, .int .i64 s.2.2] := by rw [rcells_append]; rfl
/-- v is a row of reigns of the call's own, in a block from B on. -/
def OwnR (w : World) (B : Nat) (v : Value) (xs : LR) : Prop := w.ownsRow B 79 3 v xs.length (rcells xs)
/-- Block g has room for cap reigns and begins with ys. -/
def CellsR (w : World) (g cap : Nat) (ys : LR) : Prop :=
  ∃ cs : Array Value, cs.size = cap * 3 ∧ Blk w g 79 cs ∧ ∀ j (h : j < ys.length), cs[j * 3]? = some (.string ys[j].1) ∧ cs[j * 3 + 1]? = some (.int .i64 ys[j].2.1) ∧ cs[j * 3 + 2]? = some (.int .i64 ys[j].2.2)
section
variable {w w' w1 w2 : World} {B g cap : Nat} {v : Value} {xs ys : LR}
theorem OwnR.made0 (w : World) : OwnR (w.alloc (.cells #[] 79)) w.heap.size (.slice (some ⟨w.heap.size, 0, none⟩) 0 0) [] :=
  ⟨rfl, .inr ⟨w.heap.size, 0, #[], rfl, Nat.le_refl _, heap_alloc_new w _, Nat.le_refl _, Nat.zero_le _, rfl, rfl⟩⟩
theorem OwnR.alloc (h : OwnR w B v xs) (o : Obj) : OwnR (w.alloc o) B v xs := World.ownsRow.alloc h o
theorem OwnR.mono {B' : Nat} (h : OwnR w B v xs) (hB : B' ≤ B) : OwnR w B' v xs := by
  refine ⟨h.1, ?_⟩
  rcases h.2 with h0 | ⟨g, cap, cur, hv, hB', hg, rest⟩
  · exact .inl h0
  · exact .inr ⟨g, cap, cur, hv, by omega, hg, rest⟩
theorem OwnR.below (h : OwnR w B v xs) (hb : Below w.heap.size w w') : OwnR w' B v xs := by
  refine ⟨h.1, ?_⟩
  rcases h.2 with h0 | ⟨g, cap, cur, hv, hB, hg, rest⟩
  · exact .inl h0
  · exact .inr ⟨g, cap, cur, hv, hB, (hb.block g (Array.getElem?_eq_some_iff.1 hg).1).trans hg, rest⟩
theorem OwnR.grown (h : OwnR w B v xs) (hb : w.grownBy w' (some g)) (hg : g < B) : OwnR w' B v xs :=
  World.ownsRow.kept h hb (by
    cases hv : v.ownBlock with
    | none => exact .inl rfl
    | some k =>
      have := (World.ownsRow.lt h k hv).1
      exact .inr (fun e => by injection e with e; omega))
theorem OwnR.cells (h : OwnR w B v ys) (hne : 0 < ys.length) : ∃ g cap, v = .slice (some ⟨g, 0, none⟩) ys.length cap ∧ B ≤ g ∧ g < w.heap.size ∧ ys.length ≤ cap ∧ cap ≤ maxLen ∧ CellsR w g cap ys := by
  rcases h.2 with ⟨rfl, h0⟩ | ⟨g, cap, cur, rfl, hB, hg, hn, hm, hs, ht⟩
  · omega
  · refine ⟨g, cap, rfl, hB, (Array.getElem?_eq_some_iff.1 hg).1, hn, hm, cur, hs, hg, fun k hk => ?_⟩
    have h3 := rcells_at ys k hk
    rw [← ht, List.getElem?_take, List.getElem?_take, List.getElem?_take, if_pos (by omega), if_pos (by omega), if_pos (by omega)] at h3
    simpa using h3
theorem OwnR.rd (h : OwnR w B v xs) (hs : ∀ r ∈ xs, r.1.size ≤ 13) : ∃ A c, v = .slice A xs.length c ∧ RdR w A xs.length xs := by
  have hs' : ∀ k (h : k < xs.length), xs[k].1.size ≤ maxLen := fun k hk => Nat.le_trans (hs _ (List.getElem_mem hk)) (by unfold maxLen; omega)
  rcases Nat.eq_zero_or_pos xs.length with h0 | h0
  · obtain ⟨-, h2⟩ := h
    rcases h2 with ⟨rfl, -⟩ | ⟨g, cap, cur, rfl, -⟩
    · rw [h0]
      exact ⟨none, 0, rfl, ⟨h0, hs', fun k => absurd k (by omega)⟩⟩
    · exact ⟨_, _, rfl, ⟨rfl, hs', fun k => absurd k (by omega)⟩⟩
  · obtain ⟨g, cap, rfl, -, hg, -, -, cs, -, hb, hc⟩ := h.cells h0
    exact ⟨_, _, rfl, rfl, hs', fun _ => ⟨g, 0, rfl, hg, fun k hk => by
      rw [hb.cell, hb.cell, hb.cell]
      simpa using hc k hk⟩⟩
theorem CellsR.own (h : CellsR w g cap ys) (hB : B ≤ g) (hn : ys.length ≤ cap) (hm : cap ≤ maxLen) : OwnR w B (.slice (some ⟨g, 0, none⟩) ys.length cap) ys := by
  obtain ⟨cs, hs, hb, hc⟩ := h
  refine ⟨rcells_length _, .inr ⟨g, cap, cs, rfl, hB, hb, hn, hm, hs, ?_⟩⟩
  apply List.ext_getElem?
  intro j
  by_cases hj : j < ys.length * 3
  · rw [List.getElem?_take, if_pos hj]
    have hk : j / 3 < ys.length := by omega
    have h2 := hc (j / 3) hk
    have h3 := rcells_at ys (j / 3) hk
    have : j = j / 3 * 3 ∨ j = j / 3 * 3 + 1 ∨ j = j / 3 * 3 + 2 := by omega
    rcases this with e | e | e
    · rw [e, h3.1]; simpa using h2.1
    · rw [e, h3.2.1]; simpa using h2.2.1
    · rw [e, h3.2.2]; simpa using h2.2.2
  · rw [List.getElem?_eq_none (by rw [List.length_take]; omega), List.getElem?_eq_none (by rw [rcells_length]; omega)]
theorem CellsR.at_ (h : CellsR w g cap ys) {k : Nat} (hk : k < ys.length) : w.cell? ⟨g, k * 3, none⟩ = some (.string ys[k].1) ∧ w.cell? ⟨g, k * 3 + 1, none⟩ = some (.int .i64 ys[k].2.1) ∧ w.cell? ⟨g, k * 3 + 2, none⟩ = some (.int .i64 ys[k].2.2) ∧
    w.frozen? ⟨g, k * 3, none⟩ = false ∧ w.frozen? ⟨g, k * 3 + 1, none⟩ = false ∧ w.frozen? ⟨g, k * 3 + 2, none⟩ = false := by
  obtain ⟨cs, hs, hb, hc⟩ := h
  obtain ⟨h0, h1, h2⟩ := hc k hk
  exact ⟨(hb.cell _).trans h0, (hb.cell _).trans h1, (hb.cell _).trans h2, hb.frozen _, hb.frozen _, hb.frozen _⟩
theorem CellsR.set (h : CellsR w g cap ys) (hn : ys.length ≤ cap) {k : Nat} (hk : k < ys.length) (r : ByteArray × Int × Int) :
    CellsR (((w.setCell ⟨g, k * 3, none⟩ (.string r.1)).setCell ⟨g, k * 3 + 1, none⟩ (.int .i64 r.2.1)).setCell ⟨g, k * 3 + 2, none⟩ (.int .i64 r.2.2)) g cap (ys.set k r) := by
  obtain ⟨cs, hs, hb, hc⟩ := h
  refine ⟨_, ?_, ((hb.set_ (k * 3) _).set_ (k * 3 + 1) _).set_ (k * 3 + 2) _, fun j hj => ?_⟩
  · simpa using hs
  · rw [List.length_set] at hj
    by_cases e : j = k
    · subst e
      rw [List.getElem_set_self]
      refine ⟨?_, ?_, ?_⟩
      · rw [Array.getElem?_setIfInBounds_ne (by omega), Array.getElem?_setIfInBounds_ne (by omega), Array.getElem?_setIfInBounds_self_of_lt (by omega)]
      · rw [Array.getElem?_setIfInBounds_ne (by omega), Array.getElem?_setIfInBounds_self_of_lt (by simp; omega)]
      · rw [Array.getElem?_setIfInBounds_self_of_lt (by simp; omega)]
    · obtain ⟨h0, h1, h2⟩ := hc j hj
      rw [List.getElem_set_ne (by omega)]
      refine ⟨?_, ?_, ?_⟩
      · rw [Array.getElem?_setIfInBounds_ne (by omega), Array.getElem?_setIfInBounds_ne (by omega), Array.getElem?_setIfInBounds_ne (by omega), h0]
      · rw [Array.getElem?_setIfInBounds_ne (by omega), Array.getElem?_setIfInBounds_ne (by omega), Array.getElem?_setIfInBounds_ne (by omega), h1]
      · rw [Array.getElem?_setIfInBounds_ne (by omega), Array.getElem?_setIfInBounds_ne (by omega), Array.getElem?_setIfInBounds_ne (by omega), h2]
theorem CellsR.below (h : CellsR w g cap ys) (hb : Below w.heap.size w w') : CellsR w' g cap ys := by
  obtain ⟨cs, hs, hk, hc⟩ := h
  exact ⟨cs, hs, hk.below hb hk.lt, hc⟩
theorem CellsR.grown {g' : Nat} (h : CellsR w g cap ys) (hb : w.grownBy w' (some g')) (hg : g ≠ g') : CellsR w' g cap ys := by
  obtain ⟨cs, hs, hk, hc⟩ := h
  exact ⟨cs, hs, hk.grown hb (fun e => hg (by injection e)), hc⟩
theorem CellsR.far {g' i : Nat} (h : CellsR w g cap ys) (hg : g ≠ g') (v : Value) : CellsR (w.setCell ⟨g', i, none⟩ v) g cap ys := by
  obtain ⟨cs, hs, hk, hc⟩ := h
  exact ⟨cs, hs, hk.far hg _, hc⟩
end
theorem news_three (w : World) (a b c : Value) : ∀ j u, [a, b, c][j]? = some u → (w.alloc (.cells #[a, b, c] 79)).cell? ((⟨w.heap.size, 0, none⟩ : Addr).add j) = some u := by
  intro j u hu
  rw [add_flat, (Blk.new w 79 #[a, b, c]).cell j]
  simpa using hu
theorem one_three (s : ByteArray) (a b : Int) : ∀ u ∈ [Value.string s, .int .i64 a, .int .i64 b], u.oneCell' = true := by
  intro u hu
  simp at hu
  rcases hu with rfl | rfl | rfl <;> rfl
/-- The three parts of a drawn reign. -/
def DR (r : ByteArray × Int × Int) : Prop := r.1.size ≤ 13 ∧ (0 ≤ r.2.1 ∧ r.2.1 ≤ 440000) ∧ (-1 ≤ r.2.2 ∧ r.2.2 ≤ 730500)
theorem grown_ownR {w w1 w2 : World} {g : Nat} {row : Option Nat} (h : w.grownBy w1 (some g)) (h2 : w1.grownBy w2 row) (hr : ∀ k, row = some k → w.heap.size ≤ k) : w.grownBy w2 (some g) :=
  ⟨h2.os.trans h.os, h2.tape.trans h.tape, h2.output.trans h.output, Nat.le_trans h.size h2.size, fun i hi hne => (h2.block i (Nat.lt_of_lt_of_le hi h.size) (fun e => by have := hr i e.symm; omega)).trans (h.block i hi hne)⟩
theorem src_ownR {A : Option Addr} {len cap : Nat} {zs : List Int} {W w w' : World} {g : Nat} {row : Option Nat} (h : Src A len cap zs W w g) (hb : w.grownBy w' row) (hr : ∀ k, row = some k → g < k) : Src A len cap zs W w' g := by
  obtain ⟨h1, h2, h3, p, s, h4, h5, h6, h7⟩ := h
  refine ⟨h1, ?_, h3, p, s, h4, h5, h6, h7.grown hb (fun e => by have := hr g e.symm; omega)⟩
  exact ⟨hb.os.trans h2.os, hb.tape.trans h2.tape, hb.output.trans h2.output, Nat.le_trans h2.size hb.size, fun i hi => (hb.block i (Nat.lt_of_lt_of_le hi h2.size) (fun e => by have := hr i e.symm; omega)).trans (h2.block i hi)⟩
/-- One reign appended, a source of drawn numbers beside it. -/
theorem append_reign {ops : Array Oper} {rest : List Oper} {o : Oper} {a : Act} {Q : Exit → Act → World → Prop} {A : Option Addr} {len cap : Nat} {zs : List Int} {W w w1 : World} {g : Nat} {v : Value} {acc : LR} {r : ByteArray × Int × Int} {N : Nat} (hg : w1.heap.size = N) (hs : Src A len cap zs W w1 g) (hgw : g < w.heap.size) (hgr : w.grownBy w1 (some g)) (hown : OwnR w1 w.heap.size v acc)
    (hN : acc.length + 1 ≤ 8000000) (hgd : o.guard = none) (s x : Operand) (ho : o.op = .call { callee := .builtin .append, args := #[s, x], argTypes := #[37, 37] })
    (hs1 : a.eval s = v) (hx : a.eval x = .slice (some ⟨N, 0, none⟩) 1 1)
    (K : ∀ v2 w2, OwnR w2 w.heap.size v2 (acc ++ [r]) → Src A len cap zs W w2 g → w.grownBy w2 (some g) → w1.heap.size ≤ w2.heap.size → (∀ k, k < w1.heap.size → k < w.heap.size ∨ v.ownBlock ≠ some k → w2.heap[k]? = w1.heap[k]?) → wpList Tryz.prog ops Q rest (a.put o.dst v2) w2) :
    wpList Tryz.prog ops Q (o :: rest) a (w1.alloc (.cells #[.string r.1, .int .i64 r.2.1, .int .i64 r.2.2] 79)) := by
  subst hg
  obtain ⟨i0, hi, hz0, hz1, hz2⟩ := info_parts info_reign
  refine wpList_append_own _ hgd s x 37 ho w.heap.size 79 i0 (.agg #[.string ⟨#[]⟩, .int .i64 0, .int .i64 0]) 3 32 Tryz.underlying37 hi hz0 hz1 hz2 rfl (by decide) v _ _ hs1 (World.ownsRow.alloc hown _) ⟨w1.heap.size, 0, none⟩ 1 1 [.string r.1, .int .i64 r.2.1, .int .i64 r.2.2] hx rfl (news_three _ _ _ _) (one_three _ _ _) ?_ ?_ ?_ ?_
  · unfold maxLen; omega
  · omega
  · have := hgr.size; simp; omega
  · intro v2 w2 hown2 hgrow2 _
    have hlt : ∀ k, v.ownBlock = some k → w.heap.size ≤ k := fun k hk => (World.ownsRow.lt hown k hk).1
    have hz := hgrow2.size
    simp at hz
    exact K v2 w2 (by unfold OwnR; rw [List.length_append, rcells_snoc]; exact hown2) (src_ownR (hs.alloc _) hgrow2 (fun k hk => by have := hlt k hk; omega)) (grown_ownR (only_alloc hgr _) hgrow2 hlt) (by omega)
      (fun k hk hn => (hgrow2.block k (by simp; omega) (fun e => by
        rcases hn with hn | hn
        · have := hlt k e.symm; omega
        · exact hn e.symm)).trans (heap_alloc_old w1 _ hk))

end Go.Proofs.YtfhcakpmlppbkaaGreatDoor.Rei

namespace Go.Proofs.YtfhcakpmlppbkaaGreatDoor.Rei
open Go.RowKit

section
variable {A : Option Addr} {len cap : Nat} {zs : List Int} {W w wz w' : World} {g R D : Nat} {s : ByteArray} {f t : Int}
theorem AcR.below (h : AcR A len cap zs W w g R D s f t wz) (hb : Below wz.heap.size wz w') : AcR A len cap zs W w g R D s f t w' :=
  ⟨h.src.below hb, h.only.trans (only_of_below hb _), h.r.below hb h.r.lt, h.dt.below hb h.dt.lt, h.rg, h.dg, h.rd, h.rw_, h.dw, h.sb, h.fb, h.tb⟩
theorem AcR.drewR (h : AcR A len cap zs W w g R D s f t wz) : AcR A len cap zs W w g R D s f t wz.drew := h.below (Below.refl _ _).drew
theorem AcR.s3 (h : AcR A len cap zs W w g R D s f t wz) : wz.cell? ⟨D, 0, none⟩ = some (.string s) ∧ wz.cell? ⟨D, 1, none⟩ = some (.int .i64 f) ∧ wz.cell? ⟨D, 2, none⟩ = some (.int .i64 t) := h.cells.1
theorem AcR.far (h : AcR A len cap zs W w g R D s f t wz) (a b c : Value) : (((wz.setCell ⟨R, 0, none⟩ a).setCell ⟨R, 1, none⟩ b).setCell ⟨R, 2, none⟩ c).cell? ⟨D, 0, none⟩ = some (.string s) ∧
    (((wz.setCell ⟨R, 0, none⟩ a).setCell ⟨R, 1, none⟩ b).setCell ⟨R, 2, none⟩ c).cell? ⟨D, 1, none⟩ = some (.int .i64 f) ∧ (((wz.setCell ⟨R, 0, none⟩ a).setCell ⟨R, 1, none⟩ b).setCell ⟨R, 2, none⟩ c).cell? ⟨D, 2, none⟩ = some (.int .i64 t) := by
  have e : ∀ (wq : World) (i k : Nat) (v : Value), (wq.setCell ⟨R, i, none⟩ v).cell? ⟨D, k, none⟩ = wq.cell? ⟨D, k, none⟩ := fun wq i k v => World.cell?_setCell_far _ _ _ _ h.rd
  refine ⟨?_, ?_, ?_⟩ <;> rw [e, e, e]
  · exact h.cells.1.1
  · exact h.cells.1.2.1
  · exact h.cells.1.2.2
theorem AcR.end_ (h : AcR A len cap zs W w g R D s f t wz) (hg : w.heap.size ≤ g) (a b c : Value) : Below w.heap.size w (((wz.setCell ⟨R, 0, none⟩ a).setCell ⟨R, 1, none⟩ b).setCell ⟨R, 2, none⟩ c) :=
  only_below (only_setCell (only_setCell (only_setCell h.only (.inr h.rw_) _) (.inr h.rw_) _) (.inr h.rw_) _) hg (Nat.le_refl _)
end

set_option maxHeartbeats 1000000 in
theorem spec_drawDay7 (A : Option Addr) (len cap : Nat) (zs : List Int) (W w : World) (g : Nat) (hs : Src A len cap zs W w g) :
    Calls Tryz.prog 56 #[.pointer (some ⟨g, 0, none⟩)] w (DrewP A len cap zs W w g dayish) := by
  go_enter Tryz.func56, Tryz.ntmps56
  go_wp2_with fail
  refine (spec_next A len cap zs W _ g 24 hs).mono ?_
  rintro e w1 ⟨x1, rfl, a1, b1, s1, k1⟩
  clear b1
  by_cases h0 : x1 = 0
  · subst h0
    go_wp2_with fail
    refine (spec_drawDay A len cap zs W _ g s1).mono ?_
    rintro e w2 ⟨x2, rfl, a2, s2, k2⟩
    go_wp2_with fail
    go_ret
    exact ⟨x2, rfl, a2, s2, k1.trans k2⟩
  · have e0 : (x1 == 0) = false := by simpa using h0
    clear h0
    go_wp2_with fail
    refine (spec_next A len cap zs W _ g 12000 s1).mono ?_
    rintro e w2 ⟨x2, rfl, a2, b2, s2, k2⟩
    have HD := Lib.hid (show dayish (420000 + x2) from ⟨by omega, by omega⟩)
    have b3 : x2 < 12000 := by omega
    clear b2
    go_wp2_with fail
    go_ret
    exact ⟨_, rfl, HD.out, s2, k1.trans k2⟩

/-- What a draw leaves that answers a reign and a number. -/
def DrawnRN (w : World) (e : Ending) (w' : World) : Prop :=
  ∃ (s : ByteArray) (f t n : Int), e = .returned (.tuple #[rV s f t, .int .i64 n]) ∧ s.size ≤ 13 ∧ (0 ≤ f ∧ f ≤ 440000) ∧ (-1 ≤ t ∧ t ≤ 730500) ∧ (-2 ≤ n ∧ n ≤ 2000000) ∧ Below w.heap.size w w'

end Go.Proofs.YtfhcakpmlppbkaaGreatDoor.Rei
