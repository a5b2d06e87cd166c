/- copy of spans into a row of the call's own. -/
import Derived.Test.YtfhcakpmlppbkaaGreatDoorMake
import Derived.Laws.IdiomCopy
import Derived.Laws.CopyRow
import Derived.Laws.CopyOwn
namespace Go.Proofs.YtfhcakpmlppbkaaGreatDoor.Sets
open Go.RowKit

theorem Rd.cells {w : World} {A : Option Addr} {n : Nat} {zs : L} (h : Rd w A n zs) (h0 : 0 < n) : ∃ ad, A = some ad ∧ ∀ j v, (cells zs)[j]? = some v → w.cell? (ad.add j) = some v := by
  obtain ⟨hl, hc⟩ := h
  obtain ⟨g, off, rfl, _, hcell⟩ := hc h0
  refine ⟨_, rfl, fun j v hv => ?_⟩
  have hj : j < zs.length * 2 := by
    rcases Nat.lt_or_ge j (zs.length * 2) with h | h
    · exact h
    · rw [List.getElem?_eq_none (by rw [cells_length]; exact h)] at hv; cases hv
  have hadd : (⟨g, off, none⟩ : Addr).add j = ⟨g, off + j, none⟩ := by unfold Addr.add; split <;> simp_all
  have hk : j / 2 < zs.length := by omega
  have h2 := hcell (j / 2) hk
  rw [cells_get _ _ hj, List.getElem?_eq_getElem hk] at hv
  rw [hadd]
  split at hv
  · have e : off + j / 2 * 2 = off + j := by omega
    rw [e] at h2
    rw [h2.1]; simpa using hv
  · have e : off + j / 2 * 2 + 1 = off + j := by omega
    rw [e] at h2
    rw [h2.2]; simpa using hv
theorem cells_one (a : L) : ∀ v ∈ cells a, v.oneCell' = true := by
  induction a with
  | nil => intro v h; cases h
  | cons s r ih =>
    intro v h
    simp only [cells, List.mem_cons] at h
    rcases h with rfl | rfl | h
    · rfl
    · rfl
    · exact ih v h

theorem run_copy_spans0 (w : World) (ty : TypeId) (D A : Option Addr) (dLen dCap c : Nat) :
    (Builtin.copy_ #[24, 24] ty #[.slice D dLen dCap, .slice A 0 c]).run Tryz.prog w = .ok (goInt 0) w := by
  obtain ⟨i, hi, hz, h1, h2⟩ := info_parts info_span
  have hl : ∀ (x : Addr), (loadCells x 0).run Tryz.prog w = .ok #[] w := fun x => by simpa using run_loadCells_list (P := Tryz.prog) w x [] (by simp)
  cases D <;> cases A <;> simp [Builtin.copy_, run_underlying Tryz.underlying24, Builtin.lenOf, Builtin.firstCells, sizeOf, typeInfo, hi, storeCells, hl]
theorem run_copy_spans (w : World) (ty : TypeId) (g o dLen dCap : Nat) (A : Option Addr) (n c : Nat) (zs : L) (h0 : 0 < n) (hr : Rd w A n zs) (hn : n ≤ dLen) (cur : Array Value) (hg : Blk w g 36 cur) (hfit : o + n * 2 ≤ cur.size) :
    (Builtin.copy_ #[24, 24] ty #[.slice (some ⟨g, o, none⟩) dLen dCap, .slice A n c]).run Tryz.prog w = .ok (goInt n) (w.setRow g (cur.toList.take o ++ cells zs ++ cur.toList.drop (o + n * 2)).toArray) := by
  obtain ⟨i, hi, hz, h1, h2⟩ := info_parts info_span
  have hl := hr.1
  obtain ⟨ad, rfl, hsrc⟩ := hr.cells h0
  have hll := run_loadCells_list (P := Tryz.prog) w ad (cells zs) hsrc
  rw [cells_length, hl] at hll
  have hst := run_storeCells_at Tryz.prog g o 36 (cells zs) 0 cur w hg (by rw [cells_length, hl]; simpa using hfit) (cells_one zs)
  rw [cells_length, hl] at hst
  have hm : Nat.min n dLen = n := Nat.min_eq_left hn
  simp only [Nat.add_zero] at hst
  simp [Builtin.copy_, run_underlying Tryz.underlying24, Builtin.lenOf, Builtin.firstCells, sizeOf, typeInfo, hi, h1, hm, hll, hst]

theorem splice_get {cap n : Nat} (cs : Array Value) (us zs : L) (hsz : cs.size = cap * 2) (hfit : us.length + n ≤ cap) (hc : ∀ j (h : j < us.length), cs[j * 2]? = some (.int .i64 us[j].1) ∧ cs[j * 2 + 1]? = some (.int .i64 us[j].2)) (hl : zs.length = n)
    (j : Nat) (hj : j < (us ++ zs).length) : (cs.toList.take (us.length * 2) ++ cells zs ++ cs.toList.drop (us.length * 2 + n * 2)).toArray[j * 2]? = some (.int .i64 (us ++ zs)[j].1) ∧
      (cs.toList.take (us.length * 2) ++ cells zs ++ cs.toList.drop (us.length * 2 + n * 2)).toArray[j * 2 + 1]? = some (.int .i64 (us ++ zs)[j].2) := by
  have hlen : (cs.toList.take (us.length * 2)).length = us.length * 2 := by rw [List.length_take]; simp; omega
  simp only [List.getElem?_toArray, List.append_assoc]
  rw [List.length_append] at hj
  by_cases h : j < us.length
  · obtain ⟨a, b⟩ := hc j h
    rw [List.getElem?_append_left (by omega), List.getElem?_append_left (by omega), List.getElem?_take, List.getElem?_take, if_pos (by omega), if_pos (by omega), List.getElem_append_left h]
    simpa using And.intro a b
  · have hk : j - us.length < zs.length := by omega
    obtain ⟨a, b⟩ := cells_at zs (j - us.length) hk
    have ex : (us ++ zs)[j]'(by rw [List.length_append]; exact hj) = zs[j - us.length] := List.getElem_append_right (by omega)
    rw [ex]
    refine ⟨?_, ?_⟩
    · rw [List.getElem?_append_right (by omega), hlen, List.getElem?_append_left (by rw [cells_length]; omega), show j * 2 - us.length * 2 = (j - us.length) * 2 by omega]
      exact a
    · rw [List.getElem?_append_right (by omega), hlen, List.getElem?_append_left (by rw [cells_length]; omega), show j * 2 + 1 - us.length * 2 = (j - us.length) * 2 + 1 by omega]
      exact b

/-- Spans copied behind those that are there. -/
theorem copy_spans {ops : Array Oper} {rest : List Oper} {o : Oper} {a : Act} {Q : Exit → Act → World → Prop} {w w0 : World} {g cap B : Nat} {us zs : L} {A : Option Addr} {n c : Nat} (hC : Cells w g cap us) (hr : Rd w A n zs) (hfit : us.length + n ≤ cap) (hb : Below B w0 w) (hB : B ≤ g)
    (hgd : o.guard = none) (d s : Operand) (ho : o.op = .call { callee := .builtin .copy, args := #[d, s], argTypes := #[24, 24] })
    (D : Option Addr) (dLen dCap : Nat) (hd : a.eval d = .slice D dLen dCap) (hs : a.eval s = .slice A n c) (hD : 0 < n → D = some ⟨g, us.length * 2, none⟩ ∧ n ≤ dLen)
    (K : ∀ w', Cells w' g cap (us ++ zs) → Below B w0 w' → wpList Tryz.prog ops Q rest (a.put o.dst (.int .i64 (n : Int))) w') : wpList Tryz.prog ops Q (o :: rest) a w := by
  refine wpList_plain hgd fun K' hK => ?_
  have hl := hr.1
  rcases Nat.eq_zero_or_pos n with h0 | h0
  · subst h0
    have e : zs = [] := List.eq_nil_of_length_eq_zero hl
    subst e
    have hrun := run_copy_spans0 w o.type D A dLen dCap c
    unfold Oper.wp
    simp [execOp, ho, resolve, invoke, builtin, hd, hs, hrun, Result.andThen]
    exact hK _ _ (K w (by simpa using hC) hb)
  · obtain ⟨rfl, hn⟩ := hD h0
    obtain ⟨cs, hsz, hg, hc⟩ := hC
    have hrun := run_copy_spans w o.type g (us.length * 2) dLen dCap A n c zs h0 hr hn cs hg (by omega)
    unfold Oper.wp
    simp [execOp, ho, resolve, invoke, builtin, hd, hs, hrun, Result.andThen]
    refine hK _ _ (K _ ⟨_, ?_, setRow_heap w g _ _ _ _ hg, fun j hj => ?_⟩ (below_setRow hb hB _))
    · simp [cells_length]; omega
    · simpa only [List.append_assoc] using splice_get cs us zs hsz hfit hc hl j hj

end Go.Proofs.YtfhcakpmlppbkaaGreatDoor.Sets
