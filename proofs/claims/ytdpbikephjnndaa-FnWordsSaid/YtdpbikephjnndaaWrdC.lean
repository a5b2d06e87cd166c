/- Contract of spec's distance of two words: made by gen_wrdc.py out of XWrdC.base. -/
import Derived.Test.YtdpbikephjnndaaWrdA
import Derived.Test.YtdpbikephjnndaaIntR
import Derived.Test.YtdpbikephjnndaaSplit
import Derived.Deep.AppendLies
import Derived.Deep.RegionHeld3
namespace Go.Proofs.Ytdpbikephjnndaa.Wrd
open Go.RowKit
open Go.Proofs.Ytdpbikephjnndaa.Ints (append_int append_intG)

/-- The first m cells of a row of distances. -/
def P (a b : List UInt8) (i m : Nat) : List Int := (List.range m).map fun k => (dist (a.take i) (b.take k) : Int)
theorem P_len (a b : List UInt8) (i m : Nat) : (P a b i m).length = m := by simp [P]
theorem P_snoc (a b : List UInt8) (i m : Nat) : P a b i (m + 1) = P a b i m ++ [(dist (a.take i) (b.take m) : Int)] := by simp [P, List.range_succ]
theorem P_get (a b : List UInt8) (i m k : Nat) (h : k < (P a b i m).length) : (P a b i m)[k] = (dist (a.take i) (b.take k) : Int) := by simp [P]
theorem P_first (a b : List UInt8) (k : Nat) (h : k ≤ b.length) : P a b 0 k ++ [(k : Int)] = P a b 0 (k + 1) := by
  rw [P_snoc, List.take_zero, dist_nil, List.length_take, Nat.min_eq_left h]
theorem P_one (a b : List UInt8) (i : Nat) (h : i ≤ a.length) : P a b i 1 = [(i : Int)] := by
  rw [P_snoc, List.take_zero, dist_nil', List.length_take, Nat.min_eq_left h]
  rfl
theorem own_one (w : World) (x : Int) : Ints.Own (w.alloc (.cells #[.int .i64 x] 2)) w.heap.size (.slice (some ⟨w.heap.size, 0, none⟩) 1 1) [x] :=
  ⟨rfl, .inr ⟨w.heap.size, 1, #[.int .i64 x], rfl, Nat.le_refl _, heap_alloc_new w _, Nat.le_refl _, by unfold maxLen; omega, rfl, rfl⟩⟩

def DiA (a b : List UInt8) (w0 : World) (m : Nat) (v i : Value) (wr : World) : Prop :=
  ∃ k : Nat, i = .int .i64 k ∧ m = b.length + 1 - k ∧ k ≤ b.length + 1 ∧ Ints.Own wr w0.heap.size v (P a b 0 k) ∧ Below w0.heap.size w0 wr
def DiB (a b : List UInt8) (w0 : World) (m : Nat) (v i : Value) (wr : World) : Prop :=
  ∃ (j : Nat) (A : Option Addr) (c : Nat), i = .int .i64 j ∧ m = a.length - j ∧ j ≤ a.length ∧ v = .slice A (b.length + 1) c ∧ b.length + 1 ≤ c ∧ Ints.Rd wr A (b.length + 1) (P a b j (b.length + 1)) ∧ Below w0.heap.size w0 wr
def DiC (a b : List UInt8) (j : Nat) (w0 : World) (m : Nat) (v i : Value) (wr : World) : Prop :=
  ∃ k : Nat, i = .int .i64 k ∧ m = b.length - k ∧ k ≤ b.length ∧ Ints.Own wr w0.heap.size v (P a b (j + 1) (k + 1)) ∧ Below w0.heap.size w0 wr

set_option maxRecDepth 100000 in
set_option maxHeartbeats 8000000 in
theorem spec_dist (a b : List UInt8) (ha : a.length ≤ 40) (hb : b.length ≤ 40) (w : World) : Calls Try.prog 35 #[.string (str a), .string (str b)] w fun e w' => e = .returned (.int .i64 (dist a b : Int)) ∧ Below w.heap.size w w' := by
  have sa := str_size a
  have sb := str_size b
  have own0 := Ints.Own.made0 w
  have bel0 : Below w.heap.size w (w.alloc (.cells #[] 2)) := (Below.refl _ _).alloc (Nat.le_refl _) _
  go_enter Try.func35, Try.ntmps35
  go_wp2_with fail
  go_loopg [5, 6] (b.length + 1) (fun m v i wr => DiA a b w m v i wr)
  case atStart => exact ⟨0, rfl, by omega, by omega, own0, bel0⟩
  case round =>
    clear own0 bel0
    obtain ⟨k, rfl, hm, hk, hown, bel⟩ := hrel
    subst hm
    by_cases hlt : k < b.length + 1
    · have hgo : (k : Int) ≤ (b.length : Int) := by omega
      have HA := Lib.hid (P_first a b k (by omega))
      have pl := P_len a b 0 k
      obtain ⟨acc2, ha2⟩ : ∃ x, P a b 0 (k + 1) = x := ⟨_, rfl⟩
      rw [ha2] at HA
      have HA2 := Lib.hid ha2
      clear ha2
      generalize P a b 0 k = acc at *
      go_wp2_with (at_builtin; refine append_int bel hown (by omega) rfl (.tmp 18) (.tmp 20) rfl rfl rfl ?_)
      intro v2 w2 own2 bel2
      rw [HA.out] at own2
      clear hown bel
      go_wp2_with fail
      go_roundg (b.length + 1 - (k + 1))
      case measure => omega
      case rel => exact ⟨k + 1, by go_num, by omega, by omega, by rw [HA2.out]; exact own2, bel2⟩
    · have ek : k = b.length + 1 := by omega
      subst ek
      have hge : ¬ ((b.length : Int) + 1 ≤ (b.length : Int)) := by omega
      obtain ⟨A, c, rfl, row⟩ := hown.form
      rw [P_len] at row ⊢
      have rd := row.rd
      have hc := row.2.1
      clear hown row
      generalize wr = w1 at *
      go_wp2_with fail
      go_loopg [5, 7] (a.length) (fun m v i wr => DiB a b w1 m v i wr)
      case atStart => exact ⟨0, A, c, rfl, by omega, by omega, rfl, hc, rd, Below.refl _ _⟩
      case round =>
        clear rd hc
        obtain ⟨j, A, c, rfl, hm, hj, rfl, hc, rd, belj⟩ := hrel
        subst hm
        by_cases hjt : j < a.length
        · have hgj : (j : Int) < (a.length : Int) := by omega
          have own1 := own_one wr ((j : Int) + 1)
          rw [show [(j : Int) + 1] = P a b (j + 1) 1 by rw [P_one a b (j + 1) (by omega)]; simp] at own1
          have bel1 : Below wr.heap.size wr (wr.alloc (.cells #[.int .i64 ((j : Int) + 1)] 2)) := (Below.refl _ _).alloc (Nat.le_refl _) _
          generalize wr = w2 at *
          go_wp2_with fail
          go_loopg [8, 9] (b.length) (fun m v i wr => DiC a b j w2 m v i wr)
          case atStart => exact ⟨0, rfl, by omega, by omega, own1, bel1⟩
          case round =>
            clear own1 bel1
            obtain ⟨k, rfl, hm, hk, hown, belk⟩ := hrel
            subst hm
            by_cases hkt : k < b.length
            · have hgk : (k : Int) < (b.length : Int) := by omega
              have HC := Lib.hid (dist_cell a b j k hjt hkt)
              obtain ⟨g, off, hl1, rfl, hg, z0⟩ := rd.at_ (show k < b.length + 1 by omega)
              obtain ⟨g', off', hl2, eg, hg', z1⟩ := rd.at_ (show k + 1 < b.length + 1 by omega)
              injection eg with eg
              injection eg with eg eo
              subst eg eo
              rw [P_get] at z0 z1
              have q0 := cell_on belk z0
              have q1 := cell_on belk z1
              obtain ⟨A3, c3, rfl, row3⟩ := hown.form
              obtain ⟨g3, off3, hl3, rfl, hg3, q3⟩ := row3.rd.at_ (show k < (P a b (j + 1) (k + 1)).length by rw [P_len]; omega)
              rw [P_get] at q3
              have HP := Lib.hid (P_snoc a b (j + 1) (k + 1))
              have pl := P_len a b (j + 1) (k + 1)
              have B0 := dist_le (a.take j) (b.take k)
              have B1 := dist_le (a.take j) (b.take (k + 1))
              have B2 := dist_le (a.take (j + 1)) (b.take k)
              simp only [List.length_take] at B0 B1 B2
              have hga : (str a)[j]'(by rw [str_size]; exact hjt) = a[j] := get_str a j _
              have hgb : (str b)[k]'(by rw [str_size]; exact hkt) = b[k] := get_str b k _
              obtain ⟨x, hx⟩ : ∃ x, a[j] = x := ⟨_, rfl⟩
              obtain ⟨y, hy⟩ : ∃ y, b[k] = y := ⟨_, rfl⟩
              rw [hx, hy] at HC
              rw [hx] at hga
              rw [hy] at hgb
              clear hx hy hl1 hl2 hl3 row3
              generalize dist (a.take j) (b.take k) = n0 at *
              generalize dist (a.take j) (b.take (k + 1)) = n1 at *
              generalize dist (a.take (j + 1)) (b.take k) = n2 at *
              generalize dist (a.take (j + 1)) (b.take (k + 1)) = T at *
              by_cases hxy : x = y
              · subst hxy
                have HT := Lib.hid (show T = min n0 (min (n1 + 1) (n2 + 1)) by have := HC.out; simpa using this)
                clear HC
                go_wp2_with fail
                go_quiet (fail)
                go_wp2_with fail
                have belq := below_drewN belk nq
                have hownq := hown.below (below_drewN (Below.refl wr.heap.size wr) nq)
                have p1 : (wr.drewN nq).cell? ⟨g, off + (k + 1), none⟩ = some (.int .i64 (n1 : Int)) := q1
                have p3 : (wr.drewN nq).cell? ⟨g3, off3 + k, none⟩ = some (.int .i64 (n2 : Int)) := q3
                generalize wr.drewN nq = w4 at *
                clear q0 q1 q3 z0 hown belk hga hgb
                have d1 : w4.drew.cell? ⟨g, off + (k + 1), none⟩ = some (.int .i64 (n1 : Int)) := p1
                have d3 : w4.drew.cell? ⟨g3, off3 + k, none⟩ = some (.int .i64 (n2 : Int)) := p3
                have w1 : IntKind.i64.wrap ((k : Int) + 1) = (k : Int) + 1 := by rw [IntKind.wrap_i64]; omega
                have w2' : IntKind.i64.wrap ((n1 : Int) + 1) = (n1 : Int) + 1 := by rw [IntKind.wrap_i64]; omega
                have w3 : IntKind.i64.wrap ((n2 : Int) + 1) = (n2 : Int) + 1 := by rw [IntKind.wrap_i64]; omega
                have x0 : (0 : Int) ≤ (k : Int) + 1 := by omega
                have x1 : (k : Int) + 1 < (b.length : Int) + 1 := by omega
                have x2 : (0 : Int) ≤ (k : Int) := by omega
                have x3 : (k : Int) < (k : Int) + 1 := by omega
                have hq : w4.ownsRow w2.heap.size 2 1 (.slice (some ⟨g3, off3, none⟩) (k + 1) c3) (k + 1) (Ints.cells (P a b (j + 1) (k + 1))) := by
                  have h := hownq
                  unfold Ints.Own at h
                  rwa [pl] at h
                obtain ⟨i0, hi, hz0, hz1, hz2⟩ := info_parts Ints.info_int
                refine wp_region_held_drew (S := (fun w' => w'.cell? ⟨g, off + (k + 1), none⟩ = some (.int .i64 (n1 : Int)))) (by kernel_rfl) ?_ (fun hHeld => ?_)
                · (exact d1)
                refine wpAnyH_take (i := 0) (oi := ⟨some 50, _, _, _, _, _⟩) (v := _) rfl (by kernel_rfl) (by kernel_rfl) (by kernel_rfl) (fun _ _ _ h => h) (Or.inl ⟨by kernel_rfl, by (intro wS hSw; (try dsimp only at hSw); go_split_ands; go_simp; (try with_reducible rfl))⟩) (by assumption) ?_
                try simp only [Act.put, List.setIfInBounds_toArray, List.set_cons_zero, List.set_cons_succ]
                refine wpAnyH_take (i := 1) (oi := ⟨some 51, _, _, _, _, _⟩) (v := _) rfl (by kernel_rfl) (by kernel_rfl) (by kernel_rfl) (fun _ _ _ h => h) (Or.inl ⟨by kernel_rfl, by (intro wS hSw; (try dsimp only at hSw); go_split_ands; go_simp; (try with_reducible rfl))⟩) (by assumption) ?_
                try simp only [Act.put, List.setIfInBounds_toArray, List.set_cons_zero, List.set_cons_succ]
                refine wpAnyH_take (i := 2) (oi := ⟨some 52, _, _, _, _, _⟩) (v := _) rfl (by kernel_rfl) (by kernel_rfl) (by kernel_rfl) (fun _ _ _ h => h) (Or.inl ⟨by kernel_rfl, by (intro wS hSw; (try dsimp only at hSw); go_split_ands; go_simp; (try with_reducible rfl))⟩) (by assumption) ?_
                try simp only [Act.put, List.setIfInBounds_toArray, List.set_cons_zero, List.set_cons_succ]
                refine wpAnyH_take (i := 3) (oi := ⟨some 53, _, _, _, _, _⟩) (v := _) rfl (by kernel_rfl) (by kernel_rfl) (by kernel_rfl) (fun _ _ _ h => h) (Or.inl ⟨by kernel_rfl, by (intro wS hSw; (try dsimp only at hSw); go_split_ands; go_simp; (try with_reducible rfl))⟩) (by assumption) ?_
                try simp only [Act.put, List.setIfInBounds_toArray, List.set_cons_zero, List.set_cons_succ]
                refine wpAnyH_take (i := 4) (oi := ⟨some 54, _, _, _, _, _⟩) (v := _) rfl (by kernel_rfl) (by kernel_rfl) (by kernel_rfl) (fun _ _ _ h => h) (Or.inl ⟨by kernel_rfl, by (intro wS hSw; (try dsimp only at hSw); go_split_ands; go_simp; (try with_reducible rfl))⟩) (by assumption) ?_
                try simp only [Act.put, List.setIfInBounds_toArray, List.set_cons_zero, List.set_cons_succ]
                refine wpAnyH_take (i := 5) (oi := ⟨some 55, _, _, _, _, _⟩) (v := _) rfl (by kernel_rfl) (by kernel_rfl) (by kernel_rfl) (fun _ _ _ h => h) (Or.inl ⟨by kernel_rfl, by (intro wS hSw; (try dsimp only at hSw); go_split_ands; go_simp; (try with_reducible rfl))⟩) (by assumption) ?_
                try simp only [Act.put, List.setIfInBounds_toArray, List.set_cons_zero, List.set_cons_succ]
                refine wpAnyH_take (i := 6) (oi := ⟨some 56, _, _, _, _, _⟩) (v := _) rfl (by kernel_rfl) (by kernel_rfl) (by kernel_rfl) (fun _ _ _ h => h) (Or.inl ⟨by kernel_rfl, by (intro wS hSw; (try dsimp only at hSw); go_split_ands; go_simp; (try with_reducible rfl))⟩) (by assumption) ?_
                try simp only [Act.put, List.setIfInBounds_toArray, List.set_cons_zero, List.set_cons_succ]
                refine wpAnyH_take (i := 7) (oi := ⟨some 57, _, _, _, _, _⟩) (v := _) rfl (by kernel_rfl) (by kernel_rfl) (by kernel_rfl) (fun _ _ _ h => h) (Or.inl ⟨by kernel_rfl, by (intro wS hSw; (try dsimp only at hSw); go_split_ands; go_simp; (try with_reducible rfl))⟩) (by assumption) ?_
                try simp only [Act.put, List.setIfInBounds_toArray, List.set_cons_zero, List.set_cons_succ]
                refine wpAnyH_take (i := 8) (oi := ⟨some 58, _, _, _, _, _⟩) (v := _) rfl (by kernel_rfl) (by kernel_rfl) (by kernel_rfl) (fun _ _ _ h => h) (Or.inl ⟨by kernel_rfl, by (intro wS hSw; (try dsimp only at hSw); go_split_ands; go_simp; (try with_reducible rfl))⟩) (by assumption) ?_
                try simp only [Act.put, List.setIfInBounds_toArray, List.set_cons_zero, List.set_cons_succ]
                refine wpAnyH_take (i := 9) (oi := ⟨some 59, _, _, _, _, _⟩) (v := _) rfl (by kernel_rfl) (by kernel_rfl) (by kernel_rfl) (fun _ _ _ h => h) (Or.inl ⟨by kernel_rfl, by (intro wS hSw; (try dsimp only at hSw); go_split_ands; go_simp; (try with_reducible rfl))⟩) (by assumption) ?_
                try simp only [Act.put, List.setIfInBounds_toArray, List.set_cons_zero, List.set_cons_succ]
                refine wpAnyH_take (i := 10) (oi := ⟨some 60, _, _, _, _, _⟩) (v := _) rfl (by kernel_rfl) (by kernel_rfl) (by kernel_rfl) (fun _ _ _ h => h) (Or.inl ⟨by kernel_rfl, by (intro wS hSw; (try dsimp only at hSw); go_split_ands; go_simp; (try with_reducible rfl))⟩) (by assumption) ?_
                try simp only [Act.put, List.setIfInBounds_toArray, List.set_cons_zero, List.set_cons_succ]
                refine wpAnyH_ready (rs := [11]) (by kernel_rfl) (by simp) ?_
                refine AllReadyH.cons (o := ⟨some 61, _, _, _, _, _⟩) rfl (fun K hK => ?_) AllReadyH.nil
                go_simp
                refine hK.out _ _ ?_ (fun hHeld => ?_)
                · (exact d1)
                clear hK K
                try simp only [Act.put, List.setIfInBounds_toArray, List.set_cons_zero, List.set_cons_succ]
                refine wpAnyH_take (i := 12) (oi := ⟨some 62, _, _, _, _, _⟩) (v := _) rfl (by kernel_rfl) (by kernel_rfl) (by kernel_rfl) (fun _ _ _ h => h) (Or.inl ⟨by kernel_rfl, by (intro wS hSw; (try dsimp only at hSw); go_split_ands; go_simp; (try with_reducible rfl))⟩) (by assumption) ?_
                try simp only [Act.put, List.setIfInBounds_toArray, List.set_cons_zero, List.set_cons_succ]
                refine wpAnyH_take (i := 13) (oi := ⟨some 63, _, _, _, _, _⟩) (v := _) rfl (by kernel_rfl) (by kernel_rfl) (by kernel_rfl) (fun _ _ _ h => h) (Or.inl ⟨by kernel_rfl, by (intro wS hSw; (try dsimp only at hSw); go_split_ands; go_simp; (try with_reducible rfl))⟩) (by assumption) ?_
                try simp only [Act.put, List.setIfInBounds_toArray, List.set_cons_zero, List.set_cons_succ]
                generalize hV : (if (n2 : Int) + 1 < (if (n1 : Int) + 1 < (n0 : Int) then (n1 : Int) + 1 else (n0 : Int)) then (n2 : Int) + 1 else (if (n1 : Int) + 1 < (n0 : Int) then (n1 : Int) + 1 else (n0 : Int))) = V
                have hqa : ((w4.alloc (.cells #[.int .i64 V] 2)).drew).ownsRow w2.heap.size 2 1 (.slice (some ⟨g3, off3, none⟩) (k + 1) c3) (k + 1) (Ints.cells (P a b (j + 1) (k + 1))) := World.ownsRow.alloc hq _
                refine wpAnyH_ready (rs := [14]) (by kernel_rfl) (by simp) ?_
                refine AllReadyH.cons (o := ⟨some 64, _, _, _, _, _⟩) rfl (fun K hK => ?_) AllReadyH.nil
                go_simp
                go_wp2_with fail
                refine hK.out _ _ ?_ (fun hHeld => ?_)
                · (exact cell_al d1)
                clear hK K
                try simp only [Act.put, List.setIfInBounds_toArray, List.set_cons_zero, List.set_cons_succ]
                refine wpAnyH_ready (rs := [15]) (by kernel_rfl) (by simp) ?_
                refine AllReadyH.cons (o := ⟨some 65, _, _, _, _, _⟩) rfl (fun K hK => ?_) AllReadyH.nil
                refine Eq.mpr (if_pos (by kernel_rfl)) ?_
                refine wp_append_own _ (.tmp 50) (.tmp 64) 62 rfl w2.heap.size 2 i0 (.int .i64 0) 1 8 Try.underlying62 hi hz0 hz1 hz2 rfl (by decide) _ _ _ rfl hqa ⟨w4.heap.size, 0, none⟩ 1 1 [.int .i64 V] rfl rfl (show ∀ j u, [Value.int .i64 V][j]? = some u → ((w4.alloc (.cells #[.int .i64 V] 2)).drew).cell? ((⟨w4.heap.size, 0, none⟩ : Addr).add j) = some u from cell_one_new _ _ _) ?c2 ?c3 ?c4 ?c5 ?_
                case c2 => intro u hu; simp at hu; subst hu; rfl
                case c3 => unfold maxLen; omega
                case c4 => omega
                case c5 => have := belq.size; simp; omega
                intro v' w5 hown5 hgrow5 _
                have hVT : V = (T : Int) := by rw [← hV, HT.out]; omega
                have own6 : Ints.Own w5 w2.heap.size v' (P a b (j + 1) (k + 1 + 1)) := by unfold Ints.Own; rw [HP.out, ← hVT, Ints.app_len, pl, Ints.cells_snoc]; exact hown5
                have bel6 := Below.grown (belq.alloc belq.size (.cells #[.int .i64 V] 2)).drew hgrow5 (by have := belq.size; simp; omega) (fun g hg => (World.ownsRow.lt hq g hg).1)
                refine hK.out _ _ ?_ (fun hHeld => ?_)
                · (exact cell_on bel6 z1)
                clear hK K
                try simp only [Act.put, List.setIfInBounds_toArray, List.set_cons_zero, List.set_cons_succ]
                refine wpAnyH_take (i := 16) (oi := ⟨some 8, _, _, _, _, _⟩) (v := _) rfl (by kernel_rfl) (by kernel_rfl) (by kernel_rfl) (fun _ _ _ h => h) (Or.inl ⟨by kernel_rfl, by (intro wS hSw; (try dsimp only at hSw); go_split_ands; go_simp; (try with_reducible rfl))⟩) (by assumption) ?_
                try simp only [Act.put, List.setIfInBounds_toArray, List.set_cons_zero, List.set_cons_succ]
                refine wpAnyH_done (by kernel_rfl) ?_ _
                clear hown5 hgrow5 hqa hq hownq belq p1 p3 d1 d3 hV hVT HT HP
                go_wp2_with fail
                go_roundg (b.length - (k + 1))
                case measure => omega
                case rel => exact ⟨k + 1, by go_num, by omega, by omega, own6, bel6⟩
              · have HT := Lib.hid (show T = min (n0 + 1) (min (n1 + 1) (n2 + 1)) by have := HC.out; rw [if_neg hxy] at this; exact this)
                have nx1 : ((x.toNat : Int) != (y.toNat : Int)) = true := byte_bne hxy
                have nx2 : ((x.toNat : Int) == (y.toNat : Int)) = false := byte_ne hxy
                clear hxy
                clear HC
                go_wp2_with fail
                go_quiet (fail)
                go_wp2_with fail
                have belq := below_drewN belk nq
                have hownq := hown.below (below_drewN (Below.refl wr.heap.size wr) nq)
                have p1 : (wr.drewN nq).cell? ⟨g, off + (k + 1), none⟩ = some (.int .i64 (n1 : Int)) := q1
                have p3 : (wr.drewN nq).cell? ⟨g3, off3 + k, none⟩ = some (.int .i64 (n2 : Int)) := q3
                generalize wr.drewN nq = w4 at *
                clear q0 q1 q3 z0 hown belk hga hgb
                have d1 : w4.drew.cell? ⟨g, off + (k + 1), none⟩ = some (.int .i64 (n1 : Int)) := p1
                have d3 : w4.drew.cell? ⟨g3, off3 + k, none⟩ = some (.int .i64 (n2 : Int)) := p3
                have w1 : IntKind.i64.wrap ((k : Int) + 1) = (k : Int) + 1 := by rw [IntKind.wrap_i64]; omega
                have w2' : IntKind.i64.wrap ((n1 : Int) + 1) = (n1 : Int) + 1 := by rw [IntKind.wrap_i64]; omega
                have w3 : IntKind.i64.wrap ((n2 : Int) + 1) = (n2 : Int) + 1 := by rw [IntKind.wrap_i64]; omega
                have x0 : (0 : Int) ≤ (k : Int) + 1 := by omega
                have x1 : (k : Int) + 1 < (b.length : Int) + 1 := by omega
                have x2 : (0 : Int) ≤ (k : Int) := by omega
                have x3 : (k : Int) < (k : Int) + 1 := by omega
                have hq : w4.ownsRow w2.heap.size 2 1 (.slice (some ⟨g3, off3, none⟩) (k + 1) c3) (k + 1) (Ints.cells (P a b (j + 1) (k + 1))) := by
                  have h := hownq
                  unfold Ints.Own at h
                  rwa [pl] at h
                obtain ⟨i0, hi, hz0, hz1, hz2⟩ := info_parts Ints.info_int
                refine wp_region_held_drew (S := (fun w' => w'.cell? ⟨g, off + (k + 1), none⟩ = some (.int .i64 (n1 : Int)))) (by kernel_rfl) ?_ (fun hHeld => ?_)
                · (exact d1)
                refine wpAnyH_take (i := 0) (oi := ⟨some 50, _, _, _, _, _⟩) (v := _) rfl (by kernel_rfl) (by kernel_rfl) (by kernel_rfl) (fun _ _ _ h => h) (Or.inl ⟨by kernel_rfl, by (intro wS hSw; (try dsimp only at hSw); go_split_ands; go_simp; (try with_reducible rfl))⟩) (by assumption) ?_
                try simp only [Act.put, List.setIfInBounds_toArray, List.set_cons_zero, List.set_cons_succ]
                refine wpAnyH_take (i := 1) (oi := ⟨some 51, _, _, _, _, _⟩) (v := _) rfl (by kernel_rfl) (by kernel_rfl) (by kernel_rfl) (fun _ _ _ h => h) (Or.inl ⟨by kernel_rfl, by (intro wS hSw; (try dsimp only at hSw); go_split_ands; go_simp; (try with_reducible rfl))⟩) (by assumption) ?_
                try simp only [Act.put, List.setIfInBounds_toArray, List.set_cons_zero, List.set_cons_succ]
                refine wpAnyH_take (i := 2) (oi := ⟨some 52, _, _, _, _, _⟩) (v := _) rfl (by kernel_rfl) (by kernel_rfl) (by kernel_rfl) (fun _ _ _ h => h) (Or.inl ⟨by kernel_rfl, by (intro wS hSw; (try dsimp only at hSw); go_split_ands; go_simp; (try with_reducible rfl))⟩) (by assumption) ?_
                try simp only [Act.put, List.setIfInBounds_toArray, List.set_cons_zero, List.set_cons_succ]
                refine wpAnyH_take (i := 3) (oi := ⟨some 53, _, _, _, _, _⟩) (v := _) rfl (by kernel_rfl) (by kernel_rfl) (by kernel_rfl) (fun _ _ _ h => h) (Or.inl ⟨by kernel_rfl, by (intro wS hSw; (try dsimp only at hSw); go_split_ands; go_simp; (try with_reducible rfl))⟩) (by assumption) ?_
                try simp only [Act.put, List.setIfInBounds_toArray, List.set_cons_zero, List.set_cons_succ]
                refine wpAnyH_take (i := 4) (oi := ⟨some 54, _, _, _, _, _⟩) (v := _) rfl (by kernel_rfl) (by kernel_rfl) (by kernel_rfl) (fun _ _ _ h => h) (Or.inl ⟨by kernel_rfl, by (intro wS hSw; (try dsimp only at hSw); go_split_ands; go_simp; (try with_reducible rfl))⟩) (by assumption) ?_
                try simp only [Act.put, List.setIfInBounds_toArray, List.set_cons_zero, List.set_cons_succ]
                refine wpAnyH_take (i := 5) (oi := ⟨some 55, _, _, _, _, _⟩) (v := _) rfl (by kernel_rfl) (by kernel_rfl) (by kernel_rfl) (fun _ _ _ h => h) (Or.inl ⟨by kernel_rfl, by (intro wS hSw; (try dsimp only at hSw); go_split_ands; go_simp; (try with_reducible rfl))⟩) (by assumption) ?_
                try simp only [Act.put, List.setIfInBounds_toArray, List.set_cons_zero, List.set_cons_succ]
                refine wpAnyH_take (i := 6) (oi := ⟨some 56, _, _, _, _, _⟩) (v := _) rfl (by kernel_rfl) (by kernel_rfl) (by kernel_rfl) (fun _ _ _ h => h) (Or.inl ⟨by kernel_rfl, by (intro wS hSw; (try dsimp only at hSw); go_split_ands; go_simp; (try with_reducible rfl))⟩) (by assumption) ?_
                try simp only [Act.put, List.setIfInBounds_toArray, List.set_cons_zero, List.set_cons_succ]
                refine wpAnyH_take (i := 7) (oi := ⟨some 57, _, _, _, _, _⟩) (v := _) rfl (by kernel_rfl) (by kernel_rfl) (by kernel_rfl) (fun _ _ _ h => h) (Or.inl ⟨by kernel_rfl, by (intro wS hSw; (try dsimp only at hSw); go_split_ands; go_simp; (try with_reducible rfl))⟩) (by assumption) ?_
                try simp only [Act.put, List.setIfInBounds_toArray, List.set_cons_zero, List.set_cons_succ]
                refine wpAnyH_take (i := 8) (oi := ⟨some 58, _, _, _, _, _⟩) (v := _) rfl (by kernel_rfl) (by kernel_rfl) (by kernel_rfl) (fun _ _ _ h => h) (Or.inl ⟨by kernel_rfl, by (intro wS hSw; (try dsimp only at hSw); go_split_ands; go_simp; (try with_reducible rfl))⟩) (by assumption) ?_
                try simp only [Act.put, List.setIfInBounds_toArray, List.set_cons_zero, List.set_cons_succ]
                refine wpAnyH_take (i := 9) (oi := ⟨some 59, _, _, _, _, _⟩) (v := _) rfl (by kernel_rfl) (by kernel_rfl) (by kernel_rfl) (fun _ _ _ h => h) (Or.inl ⟨by kernel_rfl, by (intro wS hSw; (try dsimp only at hSw); go_split_ands; go_simp; (try with_reducible rfl))⟩) (by assumption) ?_
                try simp only [Act.put, List.setIfInBounds_toArray, List.set_cons_zero, List.set_cons_succ]
                refine wpAnyH_take (i := 10) (oi := ⟨some 60, _, _, _, _, _⟩) (v := _) rfl (by kernel_rfl) (by kernel_rfl) (by kernel_rfl) (fun _ _ _ h => h) (Or.inl ⟨by kernel_rfl, by (intro wS hSw; (try dsimp only at hSw); go_split_ands; go_simp; (try with_reducible rfl))⟩) (by assumption) ?_
                try simp only [Act.put, List.setIfInBounds_toArray, List.set_cons_zero, List.set_cons_succ]
                refine wpAnyH_ready (rs := [11]) (by kernel_rfl) (by simp) ?_
                refine AllReadyH.cons (o := ⟨some 61, _, _, _, _, _⟩) rfl (fun K hK => ?_) AllReadyH.nil
                go_simp
                refine hK.out _ _ ?_ (fun hHeld => ?_)
                · (exact d1)
                clear hK K
                try simp only [Act.put, List.setIfInBounds_toArray, List.set_cons_zero, List.set_cons_succ]
                refine wpAnyH_take (i := 12) (oi := ⟨some 62, _, _, _, _, _⟩) (v := _) rfl (by kernel_rfl) (by kernel_rfl) (by kernel_rfl) (fun _ _ _ h => h) (Or.inl ⟨by kernel_rfl, by (intro wS hSw; (try dsimp only at hSw); go_split_ands; go_simp; (try with_reducible rfl))⟩) (by assumption) ?_
                try simp only [Act.put, List.setIfInBounds_toArray, List.set_cons_zero, List.set_cons_succ]
                refine wpAnyH_take (i := 13) (oi := ⟨some 63, _, _, _, _, _⟩) (v := _) rfl (by kernel_rfl) (by kernel_rfl) (by kernel_rfl) (fun _ _ _ h => h) (Or.inl ⟨by kernel_rfl, by (intro wS hSw; (try dsimp only at hSw); go_split_ands; go_simp; (try with_reducible rfl))⟩) (by assumption) ?_
                try simp only [Act.put, List.setIfInBounds_toArray, List.set_cons_zero, List.set_cons_succ]
                generalize hV : (if (n2 : Int) + 1 < (if n1 < n0 then (n1 : Int) + 1 else (n0 : Int) + 1) then (n2 : Int) + 1 else (if n1 < n0 then (n1 : Int) + 1 else (n0 : Int) + 1)) = V
                have hqa : ((w4.alloc (.cells #[.int .i64 V] 2)).drew).ownsRow w2.heap.size 2 1 (.slice (some ⟨g3, off3, none⟩) (k + 1) c3) (k + 1) (Ints.cells (P a b (j + 1) (k + 1))) := World.ownsRow.alloc hq _
                refine wpAnyH_ready (rs := [14]) (by kernel_rfl) (by simp) ?_
                refine AllReadyH.cons (o := ⟨some 64, _, _, _, _, _⟩) rfl (fun K hK => ?_) AllReadyH.nil
                go_simp
                go_wp2_with fail
                refine hK.out _ _ ?_ (fun hHeld => ?_)
                · (exact cell_al d1)
                clear hK K
                try simp only [Act.put, List.setIfInBounds_toArray, List.set_cons_zero, List.set_cons_succ]
                refine wpAnyH_ready (rs := [15]) (by kernel_rfl) (by simp) ?_
                refine AllReadyH.cons (o := ⟨some 65, _, _, _, _, _⟩) rfl (fun K hK => ?_) AllReadyH.nil
                refine Eq.mpr (if_pos (by kernel_rfl)) ?_
                refine wp_append_own _ (.tmp 50) (.tmp 64) 62 rfl w2.heap.size 2 i0 (.int .i64 0) 1 8 Try.underlying62 hi hz0 hz1 hz2 rfl (by decide) _ _ _ rfl hqa ⟨w4.heap.size, 0, none⟩ 1 1 [.int .i64 V] rfl rfl (show ∀ j u, [Value.int .i64 V][j]? = some u → ((w4.alloc (.cells #[.int .i64 V] 2)).drew).cell? ((⟨w4.heap.size, 0, none⟩ : Addr).add j) = some u from cell_one_new _ _ _) ?c2 ?c3 ?c4 ?c5 ?_
                case c2 => intro u hu; simp at hu; subst hu; rfl
                case c3 => unfold maxLen; omega
                case c4 => omega
                case c5 => have := belq.size; simp; omega
                intro v' w5 hown5 hgrow5 _
                have hVT : V = (T : Int) := by rw [← hV, HT.out]; omega
                have own6 : Ints.Own w5 w2.heap.size v' (P a b (j + 1) (k + 1 + 1)) := by unfold Ints.Own; rw [HP.out, ← hVT, Ints.app_len, pl, Ints.cells_snoc]; exact hown5
                have bel6 := Below.grown (belq.alloc belq.size (.cells #[.int .i64 V] 2)).drew hgrow5 (by have := belq.size; simp; omega) (fun g hg => (World.ownsRow.lt hq g hg).1)
                refine hK.out _ _ ?_ (fun hHeld => ?_)
                · (exact cell_on bel6 z1)
                clear hK K
                try simp only [Act.put, List.setIfInBounds_toArray, List.set_cons_zero, List.set_cons_succ]
                refine wpAnyH_take (i := 16) (oi := ⟨some 8, _, _, _, _, _⟩) (v := _) rfl (by kernel_rfl) (by kernel_rfl) (by kernel_rfl) (fun _ _ _ h => h) (Or.inl ⟨by kernel_rfl, by (intro wS hSw; (try dsimp only at hSw); go_split_ands; go_simp; (try with_reducible rfl))⟩) (by assumption) ?_
                try simp only [Act.put, List.setIfInBounds_toArray, List.set_cons_zero, List.set_cons_succ]
                refine wpAnyH_done (by kernel_rfl) ?_ _
                clear hown5 hgrow5 hqa hq hownq belq p1 p3 d1 d3 hV hVT HT HP
                go_wp2_with fail
                go_roundg (b.length - (k + 1))
                case measure => omega
                case rel => exact ⟨k + 1, by go_num, by omega, by omega, own6, bel6⟩
            · have ek : k = b.length := by omega
              subst ek
              have hgk : ¬ (b.length : Int) < (b.length : Int) := by omega
              obtain ⟨A3, c3, rfl, row3⟩ := hown.form
              rw [P_len] at row3 ⊢
              have rd3 := row3.rd
              have hc3 := row3.2.1
              have bel3 := belj.trans (belk.mono belj.size)
              clear hown row3 rd
              go_wp2_with fail
              go_roundg (a.length - (j + 1))
              case measure => omega
              case rel => exact ⟨j + 1, A3, c3, by go_num, by omega, by omega, rfl, hc3, rd3, bel3⟩
        · have ej : j = a.length := by omega
          subst ej
          have hgj : ¬ (a.length : Int) < (a.length : Int) := by omega
          obtain ⟨g, off, hl1, rfl, hg, z0⟩ := rd.at_ (show b.length < b.length + 1 by omega)
          rw [P_get, List.take_length, List.take_length] at z0
          have fin := bel.trans (belj.mono bel.size)
          clear rd
          go_wp2_with fail
          go_ret
          exact ⟨rfl, fin⟩

end Go.Proofs.Ytdpbikephjnndaa.Wrd
