/- Contract of impl's distance of two words: two rows that are exchanged. -/
import Derived.Test.YtdpbikephjnndaaWrdIa
import Derived.Test.YtdpbikephjnndaaArr
import Derived.BigRegion
namespace Go.Proofs.Ytdpbikephjnndaa.Wrd
open Go.RowKit
open Go.Proofs.Ytdpbikephjnndaa.Arr

/-- The first m cells of a row hold the distances of the first i letters of a from the beginnings of b. -/
def Rw (a b : List UInt8) (i m : Nat) (xs : List Int) : Prop := xs.length = 21 ∧ ∀ k, k < m → xs[k]? = some (dist (a.take i) (b.take k) : Int)
theorem Rw.next {a b : List UInt8} {i m : Nat} {xs : List Int} (h : Rw a b i m xs) (hm : m < 21) : Rw a b i (m + 1) (xs.set m (dist (a.take i) (b.take m) : Int)) := by
  refine ⟨by rw [List.length_set]; exact h.1, fun k hk => ?_⟩
  rw [List.getElem?_set]
  by_cases e : m = k
  · subst e
    rw [if_pos rfl, if_pos (by rw [h.1]; exact hm)]
  · rw [if_neg e]
    exact h.2 k (by omega)
def Two (w0 : World) (xs ys : List Int) (wr : World) : Prop := Ar wr w0.heap.size 61 xs ∧ Ar wr (w0.heap.size + 1) 61 ys ∧ Below w0.heap.size w0 wr
def DA (w0 : World) (m : Nat) (i : Value) (wr : World) : Prop :=
  ∃ (k : Nat) (xs ys : List Int), i = .int .i64 k ∧ m = 21 - k ∧ k ≤ 21 ∧ Two w0 xs ys wr ∧ xs.length = 21 ∧ ys.length = 21 ∧ Hid (∀ j, j < k → xs[j]? = some (j : Int))
def DB (a b : List UInt8) (w0 : World) (m : Nat) (i : Value) (wr : World) : Prop :=
  ∃ (k : Nat) (xs ys : List Int), i = .int .i64 k ∧ m = a.length - k ∧ k ≤ a.length ∧ Two w0 xs ys wr ∧ ys.length = 21 ∧ Hid (Rw a b k (b.length + 1) xs)
def DC (a b : List UInt8) (j : Nat) (xs : List Int) (w0 : World) (m : Nat) (i : Value) (wr : World) : Prop :=
  ∃ (k : Nat) (ys : List Int), i = .int .i64 k ∧ m = b.length - k ∧ k ≤ b.length ∧ Two w0 xs ys wr ∧ Hid (Rw a b (j + 1) (k + 1) ys)

section
variable {w0 wr : World} {xs ys : List Int}
theorem Two.c0 (h : Two w0 xs ys wr) {k : Nat} {x : Int} (hk : xs[k]? = some x) : wr.cell? ⟨w0.heap.size, k, none⟩ = some (.int .i64 x) := h.1.cell hk
theorem Two.c1 (h : Two w0 xs ys wr) {k : Nat} {x : Int} (hk : ys[k]? = some x) : wr.cell? ⟨w0.heap.size + 1, k, none⟩ = some (.int .i64 x) := h.2.1.cell hk
theorem Two.set0 (h : Two w0 xs ys wr) (k : Nat) (x : Int) : Two w0 (xs.set k x) ys (wr.setCell ⟨w0.heap.size, k, none⟩ (.int .i64 x)) :=
  ⟨h.1.set_ k x, h.2.1.far (by simp) _, h.2.2.setCell (Nat.le_refl _) _⟩
theorem Two.set1 (h : Two w0 xs ys wr) (k : Nat) (x : Int) : Two w0 xs (ys.set k x) (wr.setCell ⟨w0.heap.size + 1, k, none⟩ (.int .i64 x)) :=
  ⟨h.1.far (by simp) _, h.2.1.set_ k x, h.2.2.setCell (Nat.le_succ _) _⟩
theorem Two.drewN (h : Two w0 xs ys wr) (n : Nat) : Two w0 xs ys (wr.drewN n) := ⟨h.1, h.2.1, below_drewN h.2.2 n⟩
theorem Two.swap (h : Two w0 xs ys wr) : Two w0 ys xs ((wr.setRow w0.heap.size (arr ys)).setRow (w0.heap.size + 1) (arr xs)) :=
  ⟨(h.1.row_new ys).row_far (by simp) _, (h.2.1.row_far (g' := w0.heap.size) (by simp) _).row_new xs, below_row (below_row h.2.2 (Nat.le_refl _) _) (Nat.le_succ _) _⟩
end
theorem get_len {xs : List Int} {n k : Nat} (h : xs.length = n) (hk : k < n) : ∃ x, xs[k]? = some x := ⟨xs[k]'(by omega), List.getElem?_eq_getElem (by omega)⟩
theorem two_start (w : World) : Two w (List.replicate 21 0) (List.replicate 21 0) ((w.alloc (.cells (arr (List.replicate 21 0)) 61)).alloc (.cells (arr (List.replicate 21 0)) 61)) := by
  refine ⟨(Blk.new w _ _).alloc _, ?_, ((Below.refl _ _).alloc (Nat.le_refl _) _).alloc (by simp) _⟩
  have h := Blk.new (w.alloc (.cells (arr (List.replicate 21 0)) 61)) 61 (arr (List.replicate 21 0))
  rw [show (w.alloc (.cells (arr (List.replicate 21 0)) 61)).heap.size = w.heap.size + 1 by simp] at h
  exact h
theorem da_next {xs : List Int} {k : Nat} (hl : xs.length = 21) (hk : k < 21) (h : ∀ j, j < k → xs[j]? = some (j : Int)) : ∀ j, j < k + 1 → (xs.set k (k : Int))[j]? = some (j : Int) := fun j hj => by
  rw [List.getElem?_set]
  by_cases e : k = j
  · subst e
    rw [if_pos rfl, if_pos (by omega)]
  · rw [if_neg e]
    exact h j (by omega)
theorem rw_start (a b : List UInt8) (hb : b.length ≤ 20) {xs : List Int} (hl : xs.length = 21) (h : ∀ j : Nat, j < 21 → xs[j]? = some (j : Int)) : Rw a b 0 (b.length + 1) xs := ⟨hl, fun k hk => by
  rw [h k (by omega), List.take_zero, dist_nil, List.length_take, Nat.min_eq_left (by omega)]⟩
theorem rw_first (a b : List UInt8) {j : Nat} (hj : j + 1 ≤ a.length) {ys : List Int} (hl : ys.length = 21) : Rw a b (j + 1) (0 + 1) (ys.set 0 ((j : Int) + 1)) := ⟨by rw [List.length_set]; exact hl, fun k hk => by
  obtain rfl : k = 0 := by omega
  rw [List.getElem?_set, if_pos rfl, if_pos (by omega), List.take_zero, dist_nil', List.length_take, Nat.min_eq_left hj]
  rfl⟩

theorem info21 : (Try.prog.info? 61).map (·.size) = some 21 := by kernel_rfl

set_option maxRecDepth 100000 in
set_option maxHeartbeats 8000000 in
theorem impl_dist (a b : List UInt8) (ha : a.length ≤ 20) (hb : b.length ≤ 20) (w : World) : Calls Try.prog 34 #[.string (str a), .string (str b)] w fun e w' => e = .returned (.int .i64 (dist a b : Int)) ∧ Below w.heap.size w w' := by
  have sa := str_size a
  have sb := str_size b
  go_enter Try.func34, Try.ntmps34
  go_wp2_with fail
  go_loopg [11] 21 (fun m i wr => DA w m i wr)
  case atStart => exact ⟨0, _, _, rfl, by omega, by omega, two_start w, rfl, rfl, Lib.hid (fun j hj => by omega)⟩
  case round =>
    obtain ⟨k, xs, ys, rfl, hm, hk, H2, lx, ly, HX⟩ := hrel
    subst hm
    by_cases hlt : k < 21
    · have hgo : (k : Int) < 21 := by omega
      obtain ⟨x0, hx0⟩ := get_len lx hlt
      have q0 := H2.c0 hx0
      have f0 := H2.1.frozen k
      have HN := Lib.hid (da_next lx hlt HX.out)
      have H3 := H2.set0 k (k : Int)
      have lx3 : (xs.set k (k : Int)).length = 21 := by rw [List.length_set]; exact lx
      clear HX H2 hx0
      go_wp2_with fail
      go_roundg (21 - (k + 1))
      case measure => omega
      case rel => exact ⟨k + 1, _, ys, by go_num, by omega, by omega, H3, lx3, ly, HN⟩
    · obtain rfl : k = 21 := by omega
      have HR := Lib.hid (rw_start a b hb lx HX.out)
      clear HX
      go_wp2_with fail
      go_loopg [20] a.length (fun m i wr => DB a b w m i wr)
      case atStart => exact ⟨0, xs, ys, rfl, by omega, by omega, H2, ly, HR⟩
      case round =>
        clear HR H2 lx ly
        obtain ⟨j, xs, ys, rfl, hm, hj, H2, ly, HR⟩ := hrel
        subst hm
        by_cases hjt : j < a.length
        · have hgj : (j : Int) < (a.length : Int) := by omega
          obtain ⟨y0, hy0⟩ := get_len ly (show 0 < 21 by omega)
          have q0 := H2.c1 hy0
          have f0 := H2.2.1.frozen 0
          have HY := Lib.hid (rw_first a b (show j + 1 ≤ a.length by omega) ly)
          have H3 := H2.set1 0 ((j : Int) + 1)
          clear H2 hy0
          go_wp2_with fail
          go_loopg [28] b.length (fun m i wr => DC a b j xs w m i wr)
          case atStart => exact ⟨0, _, rfl, by omega, by omega, H3, HY⟩
          case round =>
            clear H3 HY q0 f0
            obtain ⟨k, ys, rfl, hm, hk, H2, HY⟩ := hrel
            subst hm
            by_cases hkt : k < b.length
            · have hgk : (k : Int) < (b.length : Int) := by omega
              have HC := Lib.hid (dist_cell a b j k hjt hkt)
              have z0 := HR.out.2 k (by omega)
              have z1 := HR.out.2 (k + 1) (by omega)
              have z2 := HY.out.2 k (by omega)
              obtain ⟨y3, z3⟩ := get_len HY.out.1 (show k + 1 < 21 by omega)
              have HN := Lib.hid (HY.out.next (show k + 1 < 21 by omega))
              have B0 := dist_le (a.take j) (b.take k)
              have B1 := dist_le (a.take j) (b.take (k + 1))
              have B2 := dist_le (a.take (j + 1)) (b.take k)
              simp only [List.length_take] at B0 B1 B2
              have hga : (str a)[j]'(by rw [str_size]; exact hjt) = a[j] := get_str a j _
              have hgb : (str b)[k]'(by rw [str_size]; exact hkt) = b[k] := get_str b k _
              obtain ⟨x, hx⟩ : ∃ x, a[j] = x := ⟨_, rfl⟩
              obtain ⟨y, hy⟩ : ∃ y, b[k] = y := ⟨_, rfl⟩
              rw [hx, hy] at HC
              rw [hx] at hga
              rw [hy] at hgb
              clear hx hy
              generalize dist (a.take j) (b.take k) = n0 at *
              generalize dist (a.take j) (b.take (k + 1)) = n1 at *
              generalize dist (a.take (j + 1)) (b.take k) = n2 at *
              generalize dist (a.take (j + 1)) (b.take (k + 1)) = T at *
              have c0 := H2.c0 z0
              have c1 := H2.c0 z1
              have c2 := H2.c1 z2
              have c3 := H2.c1 z3
              have f3 := H2.2.1.frozen (k + 1)
              clear z0 z1 z2 z3
              by_cases hxy : x = y
              · subst hxy
                have HT := Lib.hid (show T = min n0 (min (n1 + 1) (n2 + 1)) by have := HC.out; simpa using this)
                clear HC
                go_wp2_with fail
                go_quiet (fail)
                go_wp2_with fail
                have H4 := H2.drewN nq
                have p1 : (wr.drewN nq).cell? ⟨w.heap.size, k + 1, none⟩ = some (.int .i64 (n1 : Int)) := c1
                have p2 : (wr.drewN nq).cell? ⟨w.heap.size + 1, k, none⟩ = some (.int .i64 (n2 : Int)) := c2
                have p3 : (wr.drewN nq).cell? ⟨w.heap.size + 1, k + 1, none⟩ = some (.int .i64 y3) := c3
                have p4 : (wr.drewN nq).frozen? ⟨w.heap.size + 1, k + 1, none⟩ = false := f3
                generalize wr.drewN nq = w4 at *
                clear c0 c1 c2 c3 f3 hga hgb H2
                have hif : (if (n2 : Int) + 1 < if (n1 : Int) + 1 < (n0 : Int) then (n1 : Int) + 1 else (n0 : Int) then (n2 : Int) + 1 else if (n1 : Int) + 1 < (n0 : Int) then (n1 : Int) + 1 else (n0 : Int)) = (T : Int) := by rw [HT.out]; omega
                go_region
                go_wp2_with fail
                go_roundg (b.length - (k + 1))
                case measure => omega
                case rel => exact ⟨k + 1, _, by go_num, by omega, by omega, (H4.set1 (k + 1) _).drewN 1, HN⟩
              · have HT := Lib.hid (show T = min (n0 + 1) (min (n1 + 1) (n2 + 1)) by have := HC.out; rw [if_neg hxy] at this; exact this)
                have nx1 : ((x.toNat : Int) != (y.toNat : Int)) = true := byte_bne hxy
                have nx2 : ((x.toNat : Int) == (y.toNat : Int)) = false := byte_ne hxy
                clear HC hxy
                go_wp2_with fail
                go_quiet (fail)
                go_wp2_with fail
                have H4 := H2.drewN nq
                have p1 : (wr.drewN nq).cell? ⟨w.heap.size, k + 1, none⟩ = some (.int .i64 (n1 : Int)) := c1
                have p2 : (wr.drewN nq).cell? ⟨w.heap.size + 1, k, none⟩ = some (.int .i64 (n2 : Int)) := c2
                have p3 : (wr.drewN nq).cell? ⟨w.heap.size + 1, k + 1, none⟩ = some (.int .i64 y3) := c3
                have p4 : (wr.drewN nq).frozen? ⟨w.heap.size + 1, k + 1, none⟩ = false := f3
                generalize wr.drewN nq = w4 at *
                clear c0 c1 c2 c3 f3 hga hgb H2
                have hif : (if (n2 : Int) + 1 < if n1 < n0 then (n1 : Int) + 1 else (n0 : Int) + 1 then (n2 : Int) + 1 else if n1 < n0 then (n1 : Int) + 1 else (n0 : Int) + 1) = (T : Int) := by rw [HT.out]; omega
                go_region
                go_wp2_with fail
                go_roundg (b.length - (k + 1))
                case measure => omega
                case rel => exact ⟨k + 1, _, by go_num, by omega, by omega, (H4.set1 (k + 1) _).drewN 1, HN⟩
            · have ek : k = b.length := by omega
              subst ek
              have hgk : ¬ (b.length : Int) < (b.length : Int) := by omega
              have H5 := H2.swap
              have g0 := H2.1
              have g1 := H2.2.1
              have lx := HR.out.1
              have lys := HY.out.1
              have ax : (Try.prog.info? 61).map (·.size) = some (arr xs).size := by rw [arr_size, lx]; exact info21
              have ay : (Try.prog.info? 61).map (·.size) = some (arr ys).size := by rw [arr_size, lys]; exact info21
              clear HR H2
              unfold Ar Blk at g0 g1
              go_wp2_with (first
                | (refine wpList_load_row rfl 61 _ rfl (w.heap.size + 1) rfl _ _ _ _ g1 Try.underlying61 rfl ay ?_)
                | (refine wpList_load_row rfl 61 _ rfl w.heap.size rfl _ _ _ _ g0 Try.underlying61 rfl ax ?_)
                | (refine wpList_store_row rfl 61 _ _ rfl w.heap.size (arr ys) rfl rfl _ _ g0 ay (by rw [arr_size, arr_size, lx, lys]) (arr_one _) ?_)
                | (refine wpList_store_row rfl 61 _ _ rfl (w.heap.size + 1) (arr xs) rfl rfl _ _ ((setRow_other _ _ _ _ (by simp)).trans g1) ax (by rw [arr_size, arr_size, lx, lys]) (arr_one _) ?_))
              go_roundg (a.length - (j + 1))
              case measure => omega
              case rel => exact ⟨j + 1, ys, xs, by go_num, by omega, by omega, H5, lx, HY⟩
        · have ej : j = a.length := by omega
          subst ej
          have hgj : ¬ (a.length : Int) < (a.length : Int) := by omega
          have z0 := HR.out.2 b.length (by omega)
          rw [List.take_length, List.take_length] at z0
          have c0 := H2.c0 z0
          have fin := H2.2.2
          clear HR H2 z0
          go_wp2_with fail
          go_ret
          exact ⟨rfl, fin⟩

end Go.Proofs.Ytdpbikephjnndaa.Wrd
