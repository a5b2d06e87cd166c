/- Texts of a claim in one file: MeetS Make. -/
import Derived.Test.YtfhcakpmlppbkaaDoorGrpAk
namespace Go.Proofs.YtfhcakpmlppbkaaDoor.Sets
open Go.RowKit

/-- A set that is answered, if what came in were sets and it isn't too long; and the code. -/
def resV (ok : Bool) (xs : L) : L := if ok then (if xs.length ≤ 300 then xs else []) else []
def resE (ok : Bool) (xs : L) : Int := if ok then (if xs.length ≤ 300 then 0 else 3) else 1
theorem res_len (b : Bool) (xs : L) : (resV b xs).length ≤ 2000000 := by
  unfold resV; split
  · split
    · omega
    · simp
  · simp
def SetOut (xs : L) (c : Int) (w : World) (e : Ending) (w' : World) : Prop :=
  ∃ A cap, e = .returned (.tuple #[.slice A xs.length cap, .int .i64 c]) ∧ Row w' w.heap.size w'.heap.size A xs.length cap xs ∧ Below w.heap.size w w'

end Go.Proofs.YtfhcakpmlppbkaaDoor.Sets

namespace Go.Proofs.YtfhcakpmlppbkaaDoor.Sets
open Go.RowKit

/-- Block g has room for cap spans and begins with the spans ys. -/
def Cells (w : World) (g cap : Nat) (ys : L) : Prop :=
  ∃ cs : Array Value, cs.size = cap * 2 ∧ Blk w g 40 cs ∧ ∀ j (h : j < ys.length), cs[j * 2]? = some (.int .i64 ys[j].1) ∧ cs[j * 2 + 1]? = some (.int .i64 ys[j].2)
section
variable {w w' : World} {g cap : Nat} {ys : L}
theorem Own.cells {B : Nat} {v : Value} (h : Own w B v ys) (hne : 0 < ys.length) : ∃ g cap, v = .slice (some ⟨g, 0, none⟩) ys.length cap ∧ B ≤ g ∧ g < w.heap.size ∧ ys.length ≤ cap ∧ cap ≤ maxLen ∧ Cells w g cap ys := by
  rcases h.2 with ⟨rfl, h0⟩ | ⟨g, cap, cur, rfl, hB, hg, hn, hm, hs, ht⟩
  · omega
  · refine ⟨g, cap, rfl, hB, (Array.getElem?_eq_some_iff.1 hg).1, hn, hm, cur, hs, hg, fun k hk => ?_⟩
    have h3 := cells_at ys k hk
    rw [← ht, List.getElem?_take, List.getElem?_take, if_pos (by omega), if_pos (by omega)] at h3
    simpa using h3
theorem Own.cellsN {B : Nat} {v : Value} (h : Own w B v ys) (n : Nat) (hn : ys.length = n) (h0 : 0 < n) : ∃ g cap, v = .slice (some ⟨g, 0, none⟩) n cap ∧ B ≤ g ∧ g < w.heap.size ∧ n ≤ cap ∧ cap ≤ maxLen ∧ Cells w g cap ys := by
  subst hn
  exact h.cells h0
theorem Cells.ownN {B n : Nat} (h : Cells w g cap ys) (e : ys.length = n) (hB : B ≤ g) (hn : n ≤ cap) (hm : cap ≤ maxLen) (own : ∀ {w : World} {ys : L}, Cells w g cap ys → B ≤ g → ys.length ≤ cap → cap ≤ maxLen → Own w B (.slice (some ⟨g, 0, none⟩) ys.length cap) ys) : Own w B (.slice (some ⟨g, 0, none⟩) n cap) ys := by
  subst e
  exact own h hB hn hm
theorem cells_get (a : L) (j : Nat) (h : j < a.length * 2) : (cells a)[j]? = if j % 2 = 0 then (a[j / 2]?).map (fun s => Value.int .i64 s.1) else (a[j / 2]?).map (fun s => Value.int .i64 s.2) := by
  have hk : j / 2 < a.length := by omega
  have h2 := cells_at a (j / 2) hk
  rw [List.getElem?_eq_getElem hk]
  split
  · rw [show j / 2 * 2 = j by omega] at h2; simpa using h2.1
  · rw [show j / 2 * 2 + 1 = j by omega] at h2; simpa using h2.2
theorem Cells.own {B : Nat} (h : Cells w g cap ys) (hB : B ≤ g) (hn : ys.length ≤ cap) (hm : cap ≤ maxLen) : Own w B (.slice (some ⟨g, 0, none⟩) ys.length cap) ys := by
  obtain ⟨cs, hs, hb, hc⟩ := h
  refine ⟨cells_length _, .inr ⟨g, cap, cs, rfl, hB, hb, hn, hm, hs, ?_⟩⟩
  apply List.ext_getElem?
  intro j
  by_cases hj : j < ys.length * 2
  · rw [List.getElem?_take, if_pos hj, cells_get _ _ hj]
    have hk : j / 2 < ys.length := by omega
    have h2 := hc (j / 2) hk
    rw [List.getElem?_eq_getElem hk]
    split
    · rw [show j / 2 * 2 = j by omega] at h2; simpa using h2.1
    · rw [show j / 2 * 2 + 1 = j by omega] at h2; simpa using h2.2
  · rw [List.getElem?_eq_none (by rw [List.length_take]; omega), List.getElem?_eq_none (by rw [cells_length]; omega)]
theorem Cells.at_ (h : Cells w g cap ys) (_hn : ys.length ≤ cap) {k : Nat} (hk : k < ys.length) : w.cell? ⟨g, k * 2, none⟩ = some (.int .i64 ys[k].1) ∧ w.cell? ⟨g, k * 2 + 1, none⟩ = some (.int .i64 ys[k].2) ∧
    w.frozen? ⟨g, k * 2, none⟩ = false ∧ w.frozen? ⟨g, k * 2 + 1, none⟩ = false := by
  obtain ⟨cs, hs, hb, hc⟩ := h
  obtain ⟨h0, h1⟩ := hc k hk
  exact ⟨(hb.cell _).trans h0, (hb.cell _).trans h1, hb.frozen _, hb.frozen _⟩
theorem Cells.set (h : Cells w g cap ys) (hn : ys.length ≤ cap) {k : Nat} (hk : k < ys.length) (s : Int × Int) :
    Cells ((w.setCell ⟨g, k * 2, none⟩ (.int .i64 s.1)).setCell ⟨g, k * 2 + 1, none⟩ (.int .i64 s.2)) g cap (ys.set k s) := by
  obtain ⟨cs, hs, hb, hc⟩ := h
  refine ⟨_, ?_, (hb.set_ (k * 2) _).set_ (k * 2 + 1) _, fun j hj => ?_⟩
  · simpa using hs
  · rw [List.length_set] at hj
    by_cases e : j = k
    · subst e
      rw [List.getElem_set_self]
      refine ⟨?_, ?_⟩
      · rw [Array.getElem?_setIfInBounds_ne (by omega), Array.getElem?_setIfInBounds_self_of_lt (by omega)]
      · rw [Array.getElem?_setIfInBounds_self_of_lt (by simp; omega)]
    · rw [List.getElem_set_ne (by omega), Array.getElem?_setIfInBounds_ne (by omega), Array.getElem?_setIfInBounds_ne (by omega), Array.getElem?_setIfInBounds_ne (by omega), Array.getElem?_setIfInBounds_ne (by omega)]
      exact hc j hj
theorem Cells.set2 (h : Cells w g cap ys) (hn : ys.length ≤ cap) {k : Nat} (hk : k < ys.length) (e : Int) :
    Cells (w.setCell ⟨g, k * 2 + 1, none⟩ (.int .i64 e)) g cap (ys.set k (ys[k].1, e)) := by
  obtain ⟨cs, hs, hb, hc⟩ := h
  refine ⟨_, ?_, hb.set_ (k * 2 + 1) _, fun j hj => ?_⟩
  · simpa using hs
  · rw [List.length_set] at hj
    by_cases e1 : j = k
    · subst e1
      rw [List.getElem_set_self]
      refine ⟨?_, ?_⟩
      · rw [Array.getElem?_setIfInBounds_ne (by omega)]; exact (hc j hk).1
      · rw [Array.getElem?_setIfInBounds_self_of_lt (by omega)]
    · rw [List.getElem_set_ne (by omega), Array.getElem?_setIfInBounds_ne (by omega), Array.getElem?_setIfInBounds_ne (by omega)]
      exact hc j hj
theorem Cells.drewN (h : Cells w g cap ys) (q : Nat) : Cells (w.drewN q) g cap ys := h
end

theorem Own.drewN {w : World} {B : Nat} {v : Value} {xs : L} (h : Own w B v xs) (q : Nat) : Own (w.drewN q) B v xs := h

/-! ### The list while a span is put in -/
def mid (k : Nat) (z : Int × Int) (acc : L) : L := acc.take k ++ z :: acc.drop k
theorem mid_len {k : Nat} {z : Int × Int} {acc : L} : (mid k z acc).length = acc.length + 1 := by simp [mid]; omega
theorem mid_end {z : Int × Int} {acc : L} : acc ++ [z] = mid acc.length z acc := by simp [mid]
theorem mid_get {k : Nat} {z : Int × Int} {acc : L} (hk : k < acc.length) : (mid (k + 1) z acc)[k]'(by rw [mid_len]; omega) = acc[k] := by
  simp only [mid]
  rw [List.getElem_append_left (by simp; omega)]
  simp
theorem mid_set {k : Nat} {z s : Int × Int} {acc : L} (hk : k ≤ acc.length) : (mid k z acc).set k s = mid k s acc := by
  simp only [mid]
  rw [List.set_append_right _ _ (by simp; omega)]
  simp [Nat.min_eq_left hk]
theorem mid_down {k : Nat} {z : Int × Int} {acc : L} (hk : k < acc.length) : (mid (k + 1) z acc).set (k + 1) acc[k] = mid k acc[k] acc := by
  rw [mid_set (by omega)]
  simp only [mid]
  rw [List.take_succ_eq_append_getElem hk, List.append_assoc, List.drop_eq_getElem_cons hk]
  rfl
theorem ins_start (s : Int × Int) (acc : L) : acc.take 0 ++ ins s (acc.drop 0) = ins s acc := by simp
theorem ins_step {s : Int × Int} {acc T : L} {k : Nat} (hk : k < acc.length) (hle : acc[k].1 ≤ s.1) (h : acc.take k ++ ins s (acc.drop k) = T) : acc.take (k + 1) ++ ins s (acc.drop (k + 1)) = T := by
  rw [List.drop_eq_getElem_cons hk, ins, if_pos hle] at h
  rw [List.take_succ_eq_append_getElem hk, List.append_assoc]
  exact h
theorem ins_stop {s : Int × Int} {acc T : L} {k : Nat} (hk : k < acc.length) (hle : ¬ acc[k].1 ≤ s.1) (h : acc.take k ++ ins s (acc.drop k) = T) : mid k s acc = T := by
  rw [List.drop_eq_getElem_cons hk, ins, if_neg hle] at h
  rw [mid, List.drop_eq_getElem_cons hk]
  exact h
theorem ins_end {s : Int × Int} {acc T : L} {k : Nat} (hk : acc.length ≤ k) (h : acc.take k ++ ins s (acc.drop k) = T) : mid k s acc = T := by
  rw [List.drop_eq_nil_of_le hk, ins] at h
  rw [mid, List.drop_eq_nil_of_le hk]
  exact h

/-- What a call leaves that answers a list of spans in a row that can be appended to. -/
def SpansO (xs : L) (w : World) (e : Ending) (w' : World) : Prop := ∃ v, e = .returned v ∧ Own w' w.heap.size v xs ∧ Below w.heap.size w w'

/-- The loop that puts the spans in order. -/
def SortLoop (T xs : L) (n : Nat) (w : World) (m : Nat) (v i : Value) (wr : World) : Prop :=
  ∃ (k : Nat) (acc : L), i = .int .i64 k ∧ m = n - k ∧ k ≤ n ∧ acc.length = k ∧ Own wr w.heap.size v acc ∧ Below w.heap.size w wr ∧ Hid (sort acc (xs.drop k) = T)

theorem mrg_join {zs pre T : L} {c : Int × Int} {k : Nat} (hk : k < zs.length) (hj : zs[k].1 ≤ c.2 + 1) (h : pre ++ mrg c (zs.drop k) = T) : pre ++ mrg (c.1, max c.2 zs[k].2) (zs.drop (k + 1)) = T := by
  rw [List.drop_eq_getElem_cons hk, mrg, if_pos hj] at h
  exact h
theorem mrg_next {zs pre T : L} {c : Int × Int} {k : Nat} (hk : k < zs.length) (hj : ¬ zs[k].1 ≤ c.2 + 1) (h : pre ++ mrg c (zs.drop k) = T) : (pre ++ [c]) ++ mrg zs[k] (zs.drop (k + 1)) = T := by
  rw [List.drop_eq_getElem_cons hk, mrg, if_neg hj] at h
  rw [List.append_assoc]; exact h
theorem merge_first {zs : L} (h : 0 < zs.length) : ([] : L) ++ mrg zs[0] (zs.drop (0 + 1)) = merge zs := by
  cases zs with
  | nil => simp at h
  | cons s r => rfl
theorem snoc_set {pre : L} {c d : Int × Int} : (pre ++ [c]).set pre.length d = pre ++ [d] := by
  rw [List.set_append_right _ _ (by simp)]
  simp

/-- The loop that joins spans in order. -/
def MergeLoop (zs T : L) (n : Nat) (w : World) (m : Nat) (v i : Value) (wr : World) : Prop :=
  ∃ (k : Nat) (ws : L), i = .int .i64 k ∧ m = n - k ∧ k ≤ n ∧ Own wr w.heap.size v ws ∧ Below w.heap.size w wr ∧
    ((k = 0 ∧ ws = []) ∨ ∃ pre c, ws = pre ++ [c] ∧ pre.length < k ∧ 0 ≤ c.1 ∧ c.1 ≤ c.2 ∧ c.2 ≤ 730499 ∧ Hid (pre ++ mrg c (zs.drop k) = T))

end Go.Proofs.YtfhcakpmlppbkaaDoor.Sets
