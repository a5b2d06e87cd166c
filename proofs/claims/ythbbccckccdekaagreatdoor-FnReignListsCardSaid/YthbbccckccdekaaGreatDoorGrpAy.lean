/- Texts of a claim in one file: Copy Sort. -/
import Derived.Test.YthbbccckccdekaaGreatDoorGrpAs
import Derived.Laws.IdiomCopy
import Derived.Laws.CopyRow
import Derived.Laws.CopyOwn
import Derived.Test.YthbbccckccdekaaGreatDoorShelfS
namespace Go.Proofs.YthbbccckccdekaaGreatDoor.Sets
open Go.RowKit

theorem Rd.cells {w : World} {A : Option Addr} {n : Nat} {zs : L} (h : Rd w A n zs) (h0 : 0 < n) : ∃ ad, A = some ad ∧ ∀ j v, (cells zs)[j]? = some v → w.cell? (ad.add j) = some v := by
  obtain ⟨hl, hc⟩ := h
  obtain ⟨g, off, rfl, _, hcell⟩ := hc h0
  refine ⟨_, rfl, fun j v hv => ?_⟩
  have hj : j < zs.length * 2 := by
    rcases Nat.lt_or_ge j (zs.length * 2) with h | h
    · exact h
    · rw [List.getElem?_eq_none (by rw [cells_length]; exact h)] at hv; cases hv
  have hadd : (⟨g, off, none⟩ : Addr).add j = ⟨g, off + j, none⟩ := by unfold Addr.add; split <;> simp_all
  have hk : j / 2 < zs.length := by omega
  have h2 := hcell (j / 2) hk
  rw [cells_get _ _ hj, List.getElem?_eq_getElem hk] at hv
  rw [hadd]
  split at hv
  · have e : off + j / 2 * 2 = off + j := by omega
    rw [e] at h2
    rw [h2.1]; simpa using hv
  · have e : off + j / 2 * 2 + 1 = off + j := by omega
    rw [e] at h2
    rw [h2.2]; simpa using hv
theorem cells_one (a : L) : ∀ v ∈ cells a, v.oneCell' = true := by
  induction a with
  | nil => intro v h; cases h
  | cons s r ih =>
    intro v h
    simp only [cells, List.mem_cons] at h
    rcases h with rfl | rfl | h
    · rfl
    · rfl
    · exact ih v h

theorem run_copy_spans0 (w : World) (ty : TypeId) (D A : Option Addr) (dLen dCap c : Nat) :
    (Builtin.copy_ #[27, 27] ty #[.slice D dLen dCap, .slice A 0 c]).run Tryz.prog w = .ok (goInt 0) w := by
  obtain ⟨i, hi, hz, h1, h2⟩ := info_parts info_span
  have hl : ∀ (x : Addr), (loadCells x 0).run Tryz.prog w = .ok #[] w := fun x => by simpa using run_loadCells_list (P := Tryz.prog) w x [] (by simp)
  cases D <;> cases A <;> simp [Builtin.copy_, run_underlying Tryz.underlying27, Builtin.lenOf, Builtin.firstCells, sizeOf, typeInfo, hi, storeCells, hl]
theorem run_copy_spans (w : World) (ty : TypeId) (g o dLen dCap : Nat) (A : Option Addr) (n c : Nat) (zs : L) (h0 : 0 < n) (hr : Rd w A n zs) (hn : n ≤ dLen) (cur : Array Value) (hg : Blk w g 47 cur) (hfit : o + n * 2 ≤ cur.size) :
    (Builtin.copy_ #[27, 27] ty #[.slice (some ⟨g, o, none⟩) dLen dCap, .slice A n c]).run Tryz.prog w = .ok (goInt n) (w.setRow g (cur.toList.take o ++ cells zs ++ cur.toList.drop (o + n * 2)).toArray) := by
  obtain ⟨i, hi, hz, h1, h2⟩ := info_parts info_span
  have hl := hr.1
  obtain ⟨ad, rfl, hsrc⟩ := hr.cells h0
  have hll := run_loadCells_list (P := Tryz.prog) w ad (cells zs) hsrc
  rw [cells_length, hl] at hll
  have hst := run_storeCells_at Tryz.prog g o 47 (cells zs) 0 cur w hg (by rw [cells_length, hl]; simpa using hfit) (cells_one zs)
  rw [cells_length, hl] at hst
  have hm : Nat.min n dLen = n := Nat.min_eq_left hn
  simp only [Nat.add_zero] at hst
  simp [Builtin.copy_, run_underlying Tryz.underlying27, Builtin.lenOf, Builtin.firstCells, sizeOf, typeInfo, hi, h1, hm, hll, hst]

theorem splice_get {cap n : Nat} (cs : Array Value) (us zs : L) (hsz : cs.size = cap * 2) (hfit : us.length + n ≤ cap) (hc : ∀ j (h : j < us.length), cs[j * 2]? = some (.int .i64 us[j].1) ∧ cs[j * 2 + 1]? = some (.int .i64 us[j].2)) (hl : zs.length = n)
    (j : Nat) (hj : j < (us ++ zs).length) : (cs.toList.take (us.length * 2) ++ cells zs ++ cs.toList.drop (us.length * 2 + n * 2)).toArray[j * 2]? = some (.int .i64 (us ++ zs)[j].1) ∧
      (cs.toList.take (us.length * 2) ++ cells zs ++ cs.toList.drop (us.length * 2 + n * 2)).toArray[j * 2 + 1]? = some (.int .i64 (us ++ zs)[j].2) := by
  have hlen : (cs.toList.take (us.length * 2)).length = us.length * 2 := by rw [List.length_take]; simp; omega
  simp only [List.getElem?_toArray, List.append_assoc]
  rw [List.length_append] at hj
  by_cases h : j < us.length
  · obtain ⟨a, b⟩ := hc j h
    rw [List.getElem?_append_left (by omega), List.getElem?_append_left (by omega), List.getElem?_take, List.getElem?_take, if_pos (by omega), if_pos (by omega), List.getElem_append_left h]
    simpa using And.intro a b
  · have hk : j - us.length < zs.length := by omega
    obtain ⟨a, b⟩ := cells_at zs (j - us.length) hk
    have ex : (us ++ zs)[j]'(by rw [List.length_append]; exact hj) = zs[j - us.length] := List.getElem_append_right (by omega)
    rw [ex]
    refine ⟨?_, ?_⟩
    · rw [List.getElem?_append_right (by omega), hlen, List.getElem?_append_left (by rw [cells_length]; omega), show j * 2 - us.length * 2 = (j - us.length) * 2 by omega]
      exact a
    · rw [List.getElem?_append_right (by omega), hlen, List.getElem?_append_left (by rw [cells_length]; omega), show j * 2 + 1 - us.length * 2 = (j - us.length) * 2 + 1 by omega]
      exact b

/-- Spans copied behind those that are there. -/
theorem copy_spans {ops : Array Oper} {rest : List Oper} {o : Oper} {a : Act} {Q : Exit → Act → World → Prop} {w w0 : World} {g cap B : Nat} {us zs : L} {A : Option Addr} {n c : Nat} (hC : Cells w g cap us) (hr : Rd w A n zs) (hfit : us.length + n ≤ cap) (hb : Below B w0 w) (hB : B ≤ g)
    (hgd : o.guard = none) (d s : Operand) (ho : o.op = .call { callee := .builtin .copy, args := #[d, s], argTypes := #[27, 27] })
    (D : Option Addr) (dLen dCap : Nat) (hd : a.eval d = .slice D dLen dCap) (hs : a.eval s = .slice A n c) (hD : 0 < n → D = some ⟨g, us.length * 2, none⟩ ∧ n ≤ dLen)
    (K : ∀ w', Cells w' g cap (us ++ zs) → Below B w0 w' → wpList Tryz.prog ops Q rest (a.put o.dst (.int .i64 (n : Int))) w') : wpList Tryz.prog ops Q (o :: rest) a w := by
  refine wpList_plain hgd fun K' hK => ?_
  have hl := hr.1
  rcases Nat.eq_zero_or_pos n with h0 | h0
  · subst h0
    have e : zs = [] := List.eq_nil_of_length_eq_zero hl
    subst e
    have hrun := run_copy_spans0 w o.type D A dLen dCap c
    unfold Oper.wp
    simp [execOp, ho, resolve, invoke, builtin, hd, hs, hrun, Result.andThen]
    exact hK _ _ (K w (by simpa using hC) hb)
  · obtain ⟨rfl, hn⟩ := hD h0
    obtain ⟨cs, hsz, hg, hc⟩ := hC
    have hrun := run_copy_spans w o.type g (us.length * 2) dLen dCap A n c zs h0 hr hn cs hg (by omega)
    unfold Oper.wp
    simp [execOp, ho, resolve, invoke, builtin, hd, hs, hrun, Result.andThen]
    refine hK _ _ (K _ ⟨_, ?_, setRow_heap w g _ _ _ _ hg, fun j hj => ?_⟩ (below_setRow hb hB _))
    · simp [cells_length]; omega
    · simpa only [List.append_assoc] using splice_get cs us zs hsz hfit hc hl j hj

end Go.Proofs.YthbbccckccdekaaGreatDoor.Sets

namespace Go.Proofs.YthbbccckccdekaaGreatDoor.Sets
open Go.RowKit Go.Shelf Go.Lib Go.Sort

def encS (x : Int × Int) : List Value := [.int .i64 x.1, .int .i64 x.2]
def cmpI (x y : Int) : Int := if x < y then -1 else if y < x then 1 else 0

theorem nan_no (x : Int) (w : World) : Calls Tryz.prog 76 #[.int .i64 x] w fun e w' => e = .returned (.bool false) ∧ w = w' := by
  go_enter Tryz.func76, Tryz.ntmps76
  go_wp2
  go_ret
  exact ⟨by first | rfl | simp, rfl⟩
theorem compare_int (x y : Int) (w : World) : Calls Tryz.prog 57 #[.int .i64 x, .int .i64 y] w fun e w' => e = .returned (.int .i64 (cmpI x y)) ∧ w = w' := by
  by_cases h1 : x < y
  · have r := Lib.hid (show cmpI x y = -1 by rw [cmpI, if_pos h1])
    go_enter Tryz.func57, Tryz.ntmps57
    go_wp2_with fail
    refine (nan_no x _).mono ?_
    rintro e w1 ⟨rfl, rfl⟩
    go_wp2_with fail
    refine (nan_no y _).mono ?_
    rintro e w1 ⟨rfl, rfl⟩
    go_wp2_with fail
    go_ret
    exact ⟨by rw [r.out]; rfl, rfl⟩
  · by_cases h2 : y < x
    · have r := Lib.hid (show cmpI x y = 1 by rw [cmpI, if_neg h1, if_pos h2])
      go_enter Tryz.func57, Tryz.ntmps57
      go_wp2_with fail
      refine (nan_no x _).mono ?_
      rintro e w1 ⟨rfl, rfl⟩
      go_wp2_with fail
      refine (nan_no y _).mono ?_
      rintro e w1 ⟨rfl, rfl⟩
      go_wp2_with fail
      go_ret
      exact ⟨by rw [r.out]; rfl, rfl⟩
    · have r := Lib.hid (show cmpI x y = 0 by rw [cmpI, if_neg h1, if_neg h2])
      go_enter Tryz.func57, Tryz.ntmps57
      go_wp2_with fail
      refine (nan_no x _).mono ?_
      rintro e w1 ⟨rfl, rfl⟩
      go_wp2_with fail
      refine (nan_no y _).mono ?_
      rintro e w1 ⟨rfl, rfl⟩
      go_wp2_with fail
      go_ret
      exact ⟨by rw [r.out]; rfl, rfl⟩

theorem closure_cmp (x y : Int × Int) (W : World) : Calls Tryz.prog 56 #[.agg #[.int .i64 x.1, .int .i64 x.2], .agg #[.int .i64 y.1, .int .i64 y.2]] W fun e w' => e = .returned (.int .i64 (cmpI x.1 y.1)) ∧ ∃ q os', w' = grow (W.drewN q) os' := by
  go_enter Tryz.func56, Tryz.ntmps56
  go_wp2_with fail
  refine (compare_int x.1 y.1 _).mono ?_
  rintro e w1 ⟨rfl, rfl⟩
  go_wp2_with fail
  go_ret
  exact ⟨rfl, 0, _, by rw [alloc_eq_grow, alloc_eq_grow, grow_grow]; rfl⟩

theorem ltOf_cmp (x y : Int × Int) : ltOf (fun x y : Int × Int => cmpI x.1 y.1) x y = decide (x.1 < y.1) := by
  unfold ltOf cmpI
  by_cases h1 : x.1 < y.1
  · simp [h1]
  · by_cases h2 : y.1 < x.1 <;> simp [h1, h2]
theorem swo_cmp : SWO (ltOf fun x y : Int × Int => cmpI x.1 y.1) where
  irrefl x := by rw [ltOf_cmp]; simp
  trans x y z h1 h2 := by rw [ltOf_cmp] at *; simp at *; omega
  ntrans x y z h1 h2 := by rw [ltOf_cmp] at *; simp at *; omega

theorem put_get (F cs : Array Value) (j : Nat) (h : j < F.size) (h2 : j < cs.size) : (putCells id 0 F cs)[j]? = some F[j]! := by
  simp [putCells, h, h2]
theorem put_size (F cs : Array Value) : (putCells id 0 F cs).size = cs.size := by simp [putCells]
theorem sort_blk {w : World} {g : Nat} {cs : Array Value} (hb : Blk w g 47 cs) (m : Nat) (d' : Array (Int × Int)) (os : Array Obj) :
    Blk (sortWorldK encS 2 w g 0 m d' os) g 47 (putCells id 0 (flatK encS 2 d') cs) := by
  have hl := hb.lt
  have h2 : w.heap[g]? = some (.cells cs 47 (0, 0)) := hb
  unfold Blk sortWorldK putRowK putRow mapBlock grow Go.Sort.ahead
  rw [Array.getElem?_append_left (by simpa using hl), Array.getElem?_modify, if_pos rfl, h2]
  rfl
theorem sort_below {w : World} {g : Nat} (m : Nat) (d' : Array (Int × Int)) (os : Array Obj) (B : Nat) (hB : B ≤ g) (hg : g < w.heap.size) : Below B w (sortWorldK encS 2 w g 0 m d' os) := by
  refine ⟨rfl, rfl, rfl, size_sortWorldK_c encS 2 w g 0 m d' os, fun k hk => ?_⟩
  unfold sortWorldK putRowK putRow mapBlock grow Go.Sort.ahead
  rw [Array.getElem?_append_left (by simp; omega), Array.getElem?_modify, if_neg (by omega)]
theorem asc_of_sorted (ys : L) (h : ∀ i j (hj : j < ys.length) (hi : i < j), ys[i].1 ≤ ys[j].1) : Asc ys := by
  induction ys with
  | nil => trivial
  | cons s r ih =>
    refine ⟨fun t ht => ?_, ih fun i j hj hi => ?_⟩
    · obtain ⟨k, hk, rfl⟩ := List.getElem_of_mem ht
      have := h 0 (k + 1) (by simp only [List.length_cons]; omega) (by omega)
      simp only [List.getElem_cons_zero, List.getElem_cons_succ] at this
      exact this
    · have := h (i + 1) (j + 1) (by simp only [List.length_cons]; omega) (by omega)
      simp only [List.getElem_cons_succ] at this
      exact this

theorem impl_sort (g n : Nat) (xs : L) (w : World) (hC : Cells w g n xs) (hn : xs.length = n) (hsz : n ≤ 4000000) (B : Nat) (hB : B ≤ g) :
    Calls Tryz.prog 55 #[.slice (some ⟨g, 0, none⟩) n n, .func (.func 56) #[] #[]] w
      fun e w' => e = .returned (.tuple #[]) ∧ ∃ ys : L, ys.length = n ∧ (∀ x, x ∈ ys ↔ x ∈ xs) ∧ Asc ys ∧ Cells w' g n ys ∧ Below B w w' := by
  obtain ⟨cs, hs, hb, hc⟩ := hC
  have eg : ∀ args w, (callFunc 56 args).run Tryz.prog w = .ok (.enter 56 args) w := enters_of Tryz.func56 (by kernel_rfl) rfl
  have hsize : xs.toArray.size = n := by simpa using hn
  have hH : HoldsK encS 2 w g 0 xs.toArray := by
    intro j hj
    rw [size_flatK, hsize] at hj
    rw [get_flatK _ _ _ _ (by rw [hsize]; exact hj)]
    have hk : j / 2 < xs.length := by omega
    obtain ⟨h0, h1⟩ := hc (j / 2) hk
    refine ⟨?_, hb.frozen _⟩
    rw [hb.cell, Nat.zero_add, getElem!_pos xs.toArray (j / 2) (by simpa using hk)]
    by_cases he : j % 2 = 0
    · rw [show j / 2 * 2 = j by omega] at h0
      rw [h0, he]; simp [encS]
    · rw [show j / 2 * 2 + 1 = j by omega] at h1
      rw [h1, show j % 2 = 1 by omega]; simp [encS]
  have hcon := AnyQ.slices_SortFunc Tryz.sortSpan 2 Tryz.isAgg47 Tryz.sizeOf47 encS (fun _ => rfl) (fun x v hv => by simp [encS] at hv; rcases hv with rfl | rfl <;> rfl) (fun x y => cmpI x.1 y.1) swo_cmp 56 #[] g 0 n xs.toArray w eg (fun _ _ _ _ x y => closure_cmp x y _) hH hb.lt (by rw [hsize]; omega)
  rw [hsize] at hcon
  refine Calls.mono hcon ?_
  rintro e w' ⟨rfl, d', m, os, ⟨hp1, _, hp3⟩, hs2, rfl⟩
  have hd : d'.size = n := by rw [hp1, hsize]
  have hperm : d'.toList.Perm xs := by
    have h1 : d'.extract 0 n = d' := by rw [← hd]; simp
    have h2 : xs.toArray.extract 0 n = xs.toArray := by rw [← hsize]; simp
    rw [h1, h2] at hp3
    simpa using hp3
  refine ⟨rfl, d'.toList, by simpa using hd, fun x => hperm.mem_iff, asc_of_sorted _ fun i j hj hi => ?_, ⟨_, ?_, sort_blk hb m d' os, fun j hj => ?_⟩, sort_below m d' os B hB hb.lt⟩
  · have hj' : j < d'.size := by simpa using hj
    have h := hs2 i j (Nat.zero_le _) hi (by omega)
    rw [ltOf_cmp, getElem!_pos d' j hj', getElem!_pos d' i (by omega)] at h
    simpa using h
  · rw [put_size]; exact hs
  · have hj' : j < d'.size := by simpa using hj
    rw [put_get _ _ _ (by rw [size_flatK]; omega) (by omega), put_get _ _ _ (by rw [size_flatK]; omega) (by omega), get_flatK _ _ _ _ (by omega), get_flatK _ _ _ _ (by omega)]
    rw [show j * 2 / 2 = j by omega, show (j * 2 + 1) / 2 = j by omega, show j * 2 % 2 = 0 by omega, show (j * 2 + 1) % 2 = 1 by omega, getElem!_pos d' j hj']
    simp [encS]

end Go.Proofs.YthbbccckccdekaaGreatDoor.Sets
