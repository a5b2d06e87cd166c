/- The library's slices.SortFunc over spans, by their beginnings: a permutation, in order. -/
import Derived.Test.YtfhcakpmlppbkaaGreatDoorCopy
import Derived.Test.YtfhcakpmlppbkaaGreatDoorShelfS
namespace Go.Proofs.YtfhcakpmlppbkaaGreatDoor.Sets
open Go.RowKit Go.Shelf Go.Lib Go.Sort

def encS (x : Int × Int) : List Value := [.int .i64 x.1, .int .i64 x.2]
def cmpI (x y : Int) : Int := if x < y then -1 else if y < x then 1 else 0

theorem nan_no (x : Int) (w : World) : Calls Tryz.prog 108 #[.int .i64 x] w fun e w' => e = .returned (.bool false) ∧ w = w' := by
  go_enter Tryz.func108, Tryz.ntmps108
  go_wp2
  go_ret
  exact ⟨by first | rfl | simp, rfl⟩
theorem compare_int (x y : Int) (w : World) : Calls Tryz.prog 85 #[.int .i64 x, .int .i64 y] w fun e w' => e = .returned (.int .i64 (cmpI x y)) ∧ w = w' := by
  by_cases h1 : x < y
  · have r := Lib.hid (show cmpI x y = -1 by rw [cmpI, if_pos h1])
    go_enter Tryz.func85, Tryz.ntmps85
    go_wp2_with fail
    refine (nan_no x _).mono ?_
    rintro e w1 ⟨rfl, rfl⟩
    go_wp2_with fail
    refine (nan_no y _).mono ?_
    rintro e w1 ⟨rfl, rfl⟩
    go_wp2_with fail
    go_ret
    exact ⟨by rw [r.out]; rfl, rfl⟩
  · by_cases h2 : y < x
    · have r := Lib.hid (show cmpI x y = 1 by rw [cmpI, if_neg h1, if_pos h2])
      go_enter Tryz.func85, Tryz.ntmps85
      go_wp2_with fail
      refine (nan_no x _).mono ?_
      rintro e w1 ⟨rfl, rfl⟩
      go_wp2_with fail
      refine (nan_no y _).mono ?_
      rintro e w1 ⟨rfl, rfl⟩
      go_wp2_with fail
      go_ret
      exact ⟨by rw [r.out]; rfl, rfl⟩
    · have r := Lib.hid (show cmpI x y = 0 by rw [cmpI, if_neg h1, if_neg h2])
      go_enter Tryz.func85, Tryz.ntmps85
      go_wp2_with fail
      refine (nan_no x _).mono ?_
      rintro e w1 ⟨rfl, rfl⟩
      go_wp2_with fail
      refine (nan_no y _).mono ?_
      rintro e w1 ⟨rfl, rfl⟩
      go_wp2_with fail
      go_ret
      exact ⟨by rw [r.out]; rfl, rfl⟩

theorem closure_cmp (x y : Int × Int) (W : World) : Calls Tryz.prog 84 #[.agg #[.int .i64 x.1, .int .i64 x.2], .agg #[.int .i64 y.1, .int .i64 y.2]] W fun e w' => e = .returned (.int .i64 (cmpI x.1 y.1)) ∧ ∃ q os', w' = grow (W.drewN q) os' := by
  go_enter Tryz.func84, Tryz.ntmps84
  go_wp2_with fail
  refine (compare_int x.1 y.1 _).mono ?_
  rintro e w1 ⟨rfl, rfl⟩
  go_wp2_with fail
  go_ret
  exact ⟨rfl, 0, _, by rw [alloc_eq_grow, alloc_eq_grow, grow_grow]; rfl⟩

theorem ltOf_cmp (x y : Int × Int) : ltOf (fun x y : Int × Int => cmpI x.1 y.1) x y = decide (x.1 < y.1) := by
  unfold ltOf cmpI
  by_cases h1 : x.1 < y.1
  · simp [h1]
  · by_cases h2 : y.1 < x.1 <;> simp [h1, h2]
theorem swo_cmp : SWO (ltOf fun x y : Int × Int => cmpI x.1 y.1) where
  irrefl x := by rw [ltOf_cmp]; simp
  trans x y z h1 h2 := by rw [ltOf_cmp] at *; simp at *; omega
  ntrans x y z h1 h2 := by rw [ltOf_cmp] at *; simp at *; omega

theorem put_get (F cs : Array Value) (j : Nat) (h : j < F.size) (h2 : j < cs.size) : (putCells id 0 F cs)[j]? = some F[j]! := by
  simp [putCells, h, h2]
theorem put_size (F cs : Array Value) : (putCells id 0 F cs).size = cs.size := by simp [putCells]
theorem sort_blk {w : World} {g : Nat} {cs : Array Value} (hb : Blk w g 36 cs) (m : Nat) (d' : Array (Int × Int)) (os : Array Obj) :
    Blk (sortWorldK encS 2 w g 0 m d' os) g 36 (putCells id 0 (flatK encS 2 d') cs) := by
  have hl := hb.lt
  have h2 : w.heap[g]? = some (.cells cs 36 (0, 0)) := hb
  unfold Blk sortWorldK putRowK putRow mapBlock grow Go.Sort.ahead
  rw [Array.getElem?_append_left (by simpa using hl), Array.getElem?_modify, if_pos rfl, h2]
  rfl
theorem sort_below {w : World} {g : Nat} (m : Nat) (d' : Array (Int × Int)) (os : Array Obj) (B : Nat) (hB : B ≤ g) (hg : g < w.heap.size) : Below B w (sortWorldK encS 2 w g 0 m d' os) := by
  refine ⟨rfl, rfl, rfl, size_sortWorldK_c encS 2 w g 0 m d' os, fun k hk => ?_⟩
  unfold sortWorldK putRowK putRow mapBlock grow Go.Sort.ahead
  rw [Array.getElem?_append_left (by simp; omega), Array.getElem?_modify, if_neg (by omega)]
theorem asc_of_sorted (ys : L) (h : ∀ i j (hj : j < ys.length) (hi : i < j), ys[i].1 ≤ ys[j].1) : Asc ys := by
  induction ys with
  | nil => trivial
  | cons s r ih =>
    refine ⟨fun t ht => ?_, ih fun i j hj hi => ?_⟩
    · obtain ⟨k, hk, rfl⟩ := List.getElem_of_mem ht
      have := h 0 (k + 1) (by simp only [List.length_cons]; omega) (by omega)
      simp only [List.getElem_cons_zero, List.getElem_cons_succ] at this
      exact this
    · have := h (i + 1) (j + 1) (by simp only [List.length_cons]; omega) (by omega)
      simp only [List.getElem_cons_succ] at this
      exact this

theorem impl_sort (g n : Nat) (xs : L) (w : World) (hC : Cells w g n xs) (hn : xs.length = n) (hsz : n ≤ 4000000) (B : Nat) (hB : B ≤ g) :
    Calls Tryz.prog 83 #[.slice (some ⟨g, 0, none⟩) n n, .func (.func 84) #[] #[]] w
      fun e w' => e = .returned (.tuple #[]) ∧ ∃ ys : L, ys.length = n ∧ (∀ x, x ∈ ys ↔ x ∈ xs) ∧ Asc ys ∧ Cells w' g n ys ∧ Below B w w' := by
  obtain ⟨cs, hs, hb, hc⟩ := hC
  have eg : ∀ args w, (callFunc 84 args).run Tryz.prog w = .ok (.enter 84 args) w := enters_of Tryz.func84 (by kernel_rfl) rfl
  have hsize : xs.toArray.size = n := by simpa using hn
  have hH : HoldsK encS 2 w g 0 xs.toArray := by
    intro j hj
    rw [size_flatK, hsize] at hj
    rw [get_flatK _ _ _ _ (by rw [hsize]; exact hj)]
    have hk : j / 2 < xs.length := by omega
    obtain ⟨h0, h1⟩ := hc (j / 2) hk
    refine ⟨?_, hb.frozen _⟩
    rw [hb.cell, Nat.zero_add, getElem!_pos xs.toArray (j / 2) (by simpa using hk)]
    by_cases he : j % 2 = 0
    · rw [show j / 2 * 2 = j by omega] at h0
      rw [h0, he]; simp [encS]
    · rw [show j / 2 * 2 + 1 = j by omega] at h1
      rw [h1, show j % 2 = 1 by omega]; simp [encS]
  have hcon := AnyQ.slices_SortFunc Tryz.sortSpan 2 Tryz.isAgg36 Tryz.sizeOf36 encS (fun _ => rfl) (fun x v hv => by simp [encS] at hv; rcases hv with rfl | rfl <;> rfl) (fun x y => cmpI x.1 y.1) swo_cmp 84 #[] g 0 n xs.toArray w eg (fun _ _ _ _ x y => closure_cmp x y _) hH hb.lt (by rw [hsize]; omega)
  rw [hsize] at hcon
  refine Calls.mono hcon ?_
  rintro e w' ⟨rfl, d', m, os, ⟨hp1, _, hp3⟩, hs2, rfl⟩
  have hd : d'.size = n := by rw [hp1, hsize]
  have hperm : d'.toList.Perm xs := by
    have h1 : d'.extract 0 n = d' := by rw [← hd]; simp
    have h2 : xs.toArray.extract 0 n = xs.toArray := by rw [← hsize]; simp
    rw [h1, h2] at hp3
    simpa using hp3
  refine ⟨rfl, d'.toList, by simpa using hd, fun x => hperm.mem_iff, asc_of_sorted _ fun i j hj hi => ?_, ⟨_, ?_, sort_blk hb m d' os, fun j hj => ?_⟩, sort_below m d' os B hB hb.lt⟩
  · have hj' : j < d'.size := by simpa using hj
    have h := hs2 i j (Nat.zero_le _) hi (by omega)
    rw [ltOf_cmp, getElem!_pos d' j hj', getElem!_pos d' i (by omega)] at h
    simpa using h
  · rw [put_size]; exact hs
  · have hj' : j < d'.size := by simpa using hj
    rw [put_get _ _ _ (by rw [size_flatK]; omega) (by omega), put_get _ _ _ (by rw [size_flatK]; omega) (by omega), get_flatK _ _ _ _ (by omega), get_flatK _ _ _ _ (by omega)]
    rw [show j * 2 / 2 = j by omega, show (j * 2 + 1) / 2 = j by omega, show j * 2 % 2 = 0 by omega, show (j * 2 + 1) % 2 = 1 by omega, getElem!_pos d' j hj']
    simp [encS]

end Go.Proofs.YtfhcakpmlppbkaaGreatDoor.Sets
