/- Contract of impl's longest list of words that two phrases have in common. -/
import Derived.Test.YtdpbikephjnndaaDoorWrdIc
namespace Go.Proofs.YtdpbikephjnndaaDoor.Wrd
open Go.RowKit
open Go.Proofs.YtdpbikephjnndaaDoor.Arr

/-- How many words at the end of the first i of a and of the first k of b are the same. -/
def en (a b : List (List UInt8)) : Nat → Nat → Nat
  | 0, _ => 0
  | _ + 1, 0 => 0
  | i + 1, k + 1 => if a[i]? = b[k]? then en a b i k + 1 else 0
theorem en_zero (a b : List (List UInt8)) (i : Nat) : en a b i 0 = 0 := by cases i <;> rfl
theorem en_le (a b : List (List UInt8)) : ∀ i k, en a b i k ≤ i ∧ en a b i k ≤ k
  | 0, k => by simp [en]
  | i + 1, 0 => by simp [en]
  | i + 1, k + 1 => by
    have := en_le a b i k
    unfold en
    split <;> omega
theorem en_yes {a b : List (List UInt8)} {i k : Nat} (hi : i < a.length) (hk : k < b.length) (h : a[i] = b[k]) : en a b (i + 1) (k + 1) = en a b i k + 1 := by
  have e : a[i]? = b[k]? := by rw [List.getElem?_eq_getElem hi, List.getElem?_eq_getElem hk, h]
  rw [en, if_pos e]
theorem en_no {a b : List (List UInt8)} {i k : Nat} (hi : i < a.length) (hk : k < b.length) (h : a[i] ≠ b[k]) : en a b (i + 1) (k + 1) = 0 := by
  have e : ¬ a[i]? = b[k]? := by
    rw [List.getElem?_eq_getElem hi, List.getElem?_eq_getElem hk]
    exact fun q => h (Option.some.inj q)
  rw [en, if_neg e]
/-- What stands at the ends stands in the lists. -/
theorem en_run (a b : List (List UInt8)) : ∀ i k, i ≤ a.length → k ≤ b.length → en a b i k ≤ run (a.drop (i - en a b i k)) (b.drop (k - en a b i k))
  | 0, k, _, _ => by simp [en]
  | i + 1, 0, _, _ => by simp [en]
  | i + 1, k + 1, hi, hk => by
    by_cases h : a[i]'(by omega) = b[k]'(by omega)
    · have ih := en_run a b i k (by omega) (by omega)
      have le := en_le a b i k
      rw [en_yes (by omega) (by omega) h, Nat.add_sub_add_right, Nat.add_sub_add_right, run_more _ _ _ ih, List.getElem?_drop, List.getElem?_drop, Nat.sub_add_cancel le.1, Nat.sub_add_cancel le.2]
      exact ⟨a[i]'(by omega), List.getElem?_eq_getElem _, by rw [h]; exact List.getElem?_eq_getElem _⟩
    · rw [en_no (by omega) (by omega) h]
      omega
theorem run_en (a b : List (List UInt8)) (x y : Nat) : ∀ r, r ≤ run (a.drop x) (b.drop y) → r ≤ en a b (x + r) (y + r)
  | 0, _ => Nat.zero_le _
  | r + 1, h => by
    have ih := run_en a b x y r (by omega)
    have m := (run_more r _ _ (by omega)).1 h
    obtain ⟨z, e1, e2⟩ := m
    rw [List.getElem?_drop] at e1 e2
    have e : a[x + r]? = b[y + r]? := e1.trans e2.symm
    show r + 1 ≤ en a b ((x + r) + 1) ((y + r) + 1)
    rw [en, if_pos e]
    omega
/-- M is the greatest number among those of the first i rows, and of the first k places of the next one. -/
def CQ (a b : List (List UInt8)) (i k M : Nat) : Prop :=
  (M = 0 ∨ ∃ x y, x ≤ a.length ∧ y ≤ b.length ∧ en a b x y = M) ∧ ∀ x y, x ≤ a.length → y ≤ b.length → (x ≤ i ∨ (x = i + 1 ∧ y ≤ k)) → en a b x y ≤ M
theorem CQ.start (a b : List (List UInt8)) : CQ a b 0 0 0 := ⟨.inl rfl, fun x y _ _ h => by
  rcases h with h | ⟨-, h⟩
  · obtain rfl : x = 0 := by omega
    simp [en]
  · obtain rfl : y = 0 := by omega
    rw [en_zero]
    exact Nat.le_refl 0⟩
theorem CQ.next {a b : List (List UInt8)} {i k M n : Nat} (h : CQ a b i k M) (hi : i < a.length) (hk : k < b.length) (hn : en a b (i + 1) (k + 1) = n) : CQ a b i (k + 1) (if M < n then n else M) := by
  refine ⟨?_, fun x y hx hy hxy => ?_⟩
  · split
    · exact .inr ⟨i + 1, k + 1, hi, hk, hn⟩
    · exact h.1
  · by_cases e : x = i + 1 ∧ y = k + 1
    · rw [e.1, e.2, hn]
      split <;> omega
    · have := h.2 x y hx hy (by omega)
      split <;> omega
theorem CQ.row {a b : List (List UInt8)} {i M : Nat} (h : CQ a b i b.length M) : CQ a b (i + 1) 0 M := ⟨h.1, fun x y hx hy hxy => by
  rcases hxy with h1 | ⟨-, h1⟩
  · exact h.2 x y hx hy (by omega)
  · obtain rfl : y = 0 := by omega
    rw [en_zero]
    exact Nat.zero_le _⟩
theorem CQ.all {a b : List (List UInt8)} {M : Nat} (h : CQ a b a.length 0 M) : Common a b M := by
  have up : ∀ x y, x < a.length → y < b.length → run (a.drop x) (b.drop y) ≤ M := fun x y hx hy => by
    have r := run_en a b x y _ (Nat.le_refl _)
    have l := run_le (a.drop x) (b.drop y)
    rw [List.length_drop, List.length_drop] at l
    exact Nat.le_trans r (h.2 _ _ (by omega) (by omega) (.inl (by omega)))
  refine ⟨?_, up⟩
  rcases h.1 with e | ⟨x, y, hx, hy, e⟩
  · exact .inl e
  · by_cases h0 : M = 0
    · exact .inl h0
    · have le := en_le a b x y
      have r := en_run a b x y hx hy
      rw [e] at le r
      refine .inr ⟨x - M, y - M, by omega, by omega, Nat.le_antisymm (up _ _ (by omega) (by omega)) r⟩
theorem CQ.bd {a b : List (List UInt8)} {i k M : Nat} (h : CQ a b i k M) : M ≤ a.length := by
  rcases h.1 with e | ⟨x, y, hx, hy, e⟩
  · omega
  · have := (en_le a b x y).1
    omega

/-- The first m cells of a row hold the numbers of row i. -/
def Rn (a b : List (List UInt8)) (i m : Nat) (xs : List Int) : Prop := xs.length = 61 ∧ ∀ k, k < m → xs[k]? = some (en a b i k : Int)
theorem Rn.next {a b : List (List UInt8)} {i m : Nat} {xs : List Int} (h : Rn a b i m xs) (hm : m < 61) {v : Int} (hv : (en a b i m : Int) = v) : Rn a b i (m + 1) (xs.set m v) := by
  refine ⟨by rw [List.length_set]; exact h.1, fun k hk => ?_⟩
  rw [List.getElem?_set]
  by_cases e : m = k
  · subst e
    rw [if_pos rfl, if_pos (by rw [h.1]; exact hm), hv]
  · rw [if_neg e]
    exact h.2 k (by omega)
theorem Rn.skip {a b : List (List UInt8)} {i m : Nat} {xs : List Int} (h : Rn a b i m xs) (v : Int) : Rn a b i m (xs.set m v) := by
  refine ⟨by rw [List.length_set]; exact h.1, fun k hk => ?_⟩
  rw [List.getElem?_set, if_neg (by omega)]
  exact h.2 k hk
theorem Rn.first (a b : List (List UInt8)) (i : Nat) {xs : List Int} (h : xs.length = 61) (h0 : xs[0]? = some 0) : Rn a b i 1 xs := ⟨h, fun k hk => by
  obtain rfl : k = 0 := by omega
  rw [h0, en_zero]
  rfl⟩
def TwoN (w0 : World) (xs ys : List Int) (wr : World) : Prop := Ar wr w0.heap.size 64 xs ∧ Ar wr (w0.heap.size + 1) 64 ys ∧ Below w0.heap.size w0 wr
section
variable {w0 wr : World} {xs ys : List Int}
theorem TwoN.c0 (h : TwoN w0 xs ys wr) {k : Nat} {x : Int} (hk : xs[k]? = some x) : wr.cell? ⟨w0.heap.size, k, none⟩ = some (.int .i64 x) := h.1.cell hk
theorem TwoN.c1 (h : TwoN w0 xs ys wr) {k : Nat} {x : Int} (hk : ys[k]? = some x) : wr.cell? ⟨w0.heap.size + 1, k, none⟩ = some (.int .i64 x) := h.2.1.cell hk
theorem TwoN.set1 (h : TwoN w0 xs ys wr) (k : Nat) (x : Int) : TwoN w0 xs (ys.set k x) (wr.setCell ⟨w0.heap.size + 1, k, none⟩ (.int .i64 x)) :=
  ⟨h.1.far (by simp) _, h.2.1.set_ k x, h.2.2.setCell (Nat.le_succ _) _⟩
theorem TwoN.swap (h : TwoN w0 xs ys wr) : TwoN w0 ys xs ((wr.setRow w0.heap.size (arr ys)).setRow (w0.heap.size + 1) (arr xs)) :=
  ⟨(h.1.row_new ys).row_far (by simp) _, (h.2.1.row_far (g' := w0.heap.size) (by simp) _).row_new xs, below_row (below_row h.2.2 (Nat.le_refl _) _) (Nat.le_succ _) _⟩
end
theorem twoN_start (w : World) : TwoN w (List.replicate 61 0) (List.replicate 61 0) ((w.alloc (.cells (arr (List.replicate 61 0)) 64)).alloc (.cells (arr (List.replicate 61 0)) 64)) := by
  refine ⟨(Blk.new w _ _).alloc _, ?_, ((Below.refl _ _).alloc (Nat.le_refl _) _).alloc (by simp) _⟩
  have h := Blk.new (w.alloc (.cells (arr (List.replicate 61 0)) 64)) 64 (arr (List.replicate 61 0))
  rw [show (w.alloc (.cells (arr (List.replicate 61 0)) 64)).heap.size = w.heap.size + 1 by simp] at h
  exact h
def LA (a b : List (List UInt8)) (w0 : World) (m : Nat) (v i : Value) (wr : World) : Prop :=
  ∃ (k M : Nat) (xs ys : List Int), i = .int .i64 k ∧ m = a.length - k ∧ k ≤ a.length ∧ v = .int .i64 M ∧ TwoN w0 xs ys wr ∧ ys.length = 61 ∧ ys[0]? = some 0 ∧ Hid (Rn a b k (b.length + 1) xs) ∧ Hid (CQ a b k 0 M)
def LB (a b : List (List UInt8)) (j : Nat) (xs : List Int) (w0 : World) (m : Nat) (v i : Value) (wr : World) : Prop :=
  ∃ (k M : Nat) (ys : List Int), i = .int .i64 k ∧ m = b.length - k ∧ k ≤ b.length ∧ v = .int .i64 M ∧ TwoN w0 xs ys wr ∧ Hid (Rn a b (j + 1) (k + 1) ys) ∧ Hid (CQ a b j k M)
theorem rn_start (a b : List (List UInt8)) (hb : b.length ≤ 60) : Rn a b 0 (b.length + 1) (List.replicate 61 0) := ⟨by rw [List.length_replicate], fun k hk => by
  rw [List.getElem?_replicate, if_pos (by omega)]
  simp [en]⟩

theorem info61 : (Tryd.prog.info? 64).map (·.size) = some 61 := by kernel_rfl

set_option maxRecDepth 100000 in
set_option maxHeartbeats 8000000 in
theorem impl_longest (A1 A2 : Option Addr) (a b : List (List UInt8)) (ha : a.length ≤ 60) (hb : b.length ≤ 60) (w : World) (r1 : RdS w A1 a) (r2 : RdS w A2 b) :
    Calls Tryd.prog 30 #[.slice A1 a.length a.length, .slice A2 b.length b.length] w fun e w' => ∃ M : Nat, e = .returned (.int .i64 M) ∧ Common a b M ∧ Below w.heap.size w w' := by
  go_enter Tryd.func30, Tryd.ntmps30
  go_wp2_with fail
  go_loopg [5, 14] a.length (fun m v i wr => LA a b w m v i wr)
  case atStart => exact ⟨0, 0, _, _, rfl, by omega, by omega, rfl, twoN_start w, rfl, rfl, Lib.hid (rn_start a b hb), Lib.hid (CQ.start a b)⟩
  case round =>
    obtain ⟨j, M, xs, ys, rfl, hm, hj, rfl, H2, ly, y0, HR, HC⟩ := hrel
    subst hm
    by_cases hjt : j < a.length
    · have hgj : (j : Int) < (a.length : Int) := by omega
      obtain ⟨g, off, rfl, hg, ca⟩ := (r1.below H2.2.2) j hjt
      have HA := Lib.hid (rfl : a[j] = a[j])
      obtain ⟨p, hp⟩ : ∃ p, a[j] = p := ⟨_, rfl⟩
      rw [hp] at ca
      have HP := Lib.hid hp
      have HF := Lib.hid (Rn.first a b (j + 1) ly y0)
      clear hp HA ly y0
      go_wp2_with fail
      go_loopg [5, 20] b.length (fun m v i wr => LB a b j xs w m v i wr)
      case atStart => exact ⟨0, M, ys, rfl, by omega, by omega, rfl, H2, HF, HC⟩
      case round =>
        clear H2 HF HC ca
        obtain ⟨k, M, ys, rfl, hm, hk, rfl, H2, HY, HC⟩ := hrel
        subst hm
        by_cases hkt : k < b.length
        · have hgk : (k : Int) < (b.length : Int) := by omega
          obtain ⟨g', off', rfl, hg', cb⟩ := (r2.below H2.2.2) k hkt
          obtain ⟨q, hq⟩ : ∃ q, b[k] = q := ⟨_, rfl⟩
          rw [hq] at cb
          have mb := HC.out.bd
          have x0 := HR.out.2 k (by omega)
          have eb := (en_le a b j k).1
          obtain ⟨y1, hy1⟩ := get_len HY.out.1 (show k + 1 < 61 by omega)
          have c0 := H2.c0 x0
          have c1 := H2.c1 hy1
          have f1 := H2.2.1.frozen (k + 1)
          have H3 := H2.set1 (k + 1) 0
          have sp := str_toList p
          have sq' := str_toList q
          by_cases hpq : p = q
          · have eE := en_yes hjt hkt (by rw [HP.out, hq, hpq])
            have HN := Lib.hid ((HY.out.skip 0).next (show k + 1 < 61 by omega) (show (en a b (j + 1) (k + 1) : Int) = (en a b j k : Int) + 1 by rw [eE]; rfl))
            have HQ := Lib.hid (HC.out.next hjt hkt eE)
            have H4 := H3.set1 (k + 1) ((en a b j k : Int) + 1)
            have cx : (wr.setCell ⟨w.heap.size + 1, k + 1, none⟩ (.int .i64 0)).cell? ⟨w.heap.size, k, none⟩ = some (.int .i64 (en a b j k : Int)) := H3.c0 x0
            have cy : (wr.setCell ⟨w.heap.size + 1, k + 1, none⟩ (.int .i64 0)).cell? ⟨w.heap.size + 1, k + 1, none⟩ = some (.int .i64 0) := H3.c1 (by rw [List.getElem?_set, if_pos rfl, if_pos (by rw [HY.out.1]; omega)])
            have fy := H3.2.1.frozen (k + 1)
            have cz : ((wr.setCell ⟨w.heap.size + 1, k + 1, none⟩ (.int .i64 0)).setCell ⟨w.heap.size + 1, k + 1, none⟩ (.int .i64 ((en a b j k : Int) + 1))).cell? ⟨w.heap.size + 1, k + 1, none⟩ = some (.int .i64 ((en a b j k : Int) + 1)) := H4.c1 (by rw [List.getElem?_set, if_pos rfl, if_pos (by rw [List.length_set, HY.out.1]; omega)])
            clear H2 H3 HY HC eE x0 hy1 hq
            subst hpq
            have hb : (p == p) = true := by simp
            clear sq'
            generalize en a b j k = n at *
            by_cases hM : M < n + 1
            · rw [if_pos hM] at HQ
              have hM1 : (M : Int) < (n : Int) + 1 := by omega
              go_wp2_with fail
              go_roundg (b.length - (k + 1))
              case measure => omega
              case rel => exact ⟨k + 1, n + 1, _, by go_num, by omega, by omega, congrArg (Value.int .i64) (by omega), H4, HN, HQ⟩
            · rw [if_neg hM] at HQ
              have hM1 : ¬ (M : Int) < (n : Int) + 1 := by omega
              go_wp2_with fail
              go_roundg (b.length - (k + 1))
              case measure => omega
              case rel => exact ⟨k + 1, M, _, by go_num, by omega, by omega, rfl, H4, HN, HQ⟩
          · have eE := en_no hjt hkt (by rw [HP.out, hq]; exact hpq)
            have HN := Lib.hid (HY.out.next (show k + 1 < 61 by omega) (show (en a b (j + 1) (k + 1) : Int) = 0 by rw [eE]; rfl))
            have HQ := HC.out.next hjt hkt eE
            rw [if_neg (Nat.not_lt_zero _)] at HQ
            have HQ2 := Lib.hid HQ
            have cz : (wr.setCell ⟨w.heap.size + 1, k + 1, none⟩ (.int .i64 0)).cell? ⟨w.heap.size + 1, k + 1, none⟩ = some (.int .i64 0) := H3.c1 (by rw [List.getElem?_set, if_pos rfl, if_pos (by rw [HY.out.1]; omega)])
            have hb : (p == q) = false := by simpa using hpq
            have hM1 : ¬ (M : Int) < 0 := by omega
            clear H2 HY HC eE x0 hy1 hq hpq HQ
            go_wp2_with fail
            go_roundg (b.length - (k + 1))
            case measure => omega
            case rel => exact ⟨k + 1, M, _, by go_num, by omega, by omega, rfl, H3, HN, HQ2⟩
        · have ek : k = b.length := by omega
          subst ek
          have hgk : ¬ (b.length : Int) < (b.length : Int) := by omega
          have H5 := H2.swap
          have g0 := H2.1
          have g1 := H2.2.1
          have lx := HR.out.1
          have lys := HY.out.1
          have x0 : xs[0]? = some 0 := by
            rw [HR.out.2 0 (by omega), en_zero]
            rfl
          have HX := Lib.hid HC.out.row
          have ax : (Tryd.prog.info? 64).map (·.size) = some (arr xs).size := by rw [arr_size, lx]; exact info61
          have ay : (Tryd.prog.info? 64).map (·.size) = some (arr ys).size := by rw [arr_size, lys]; exact info61
          clear HR H2 HC HP
          unfold Ar Blk at g0 g1
          go_wp2_with (first
            | (refine wpList_load_row rfl 64 _ rfl (w.heap.size + 1) rfl _ _ _ _ g1 Tryd.underlying64 rfl ay ?_)
            | (refine wpList_load_row rfl 64 _ rfl w.heap.size rfl _ _ _ _ g0 Tryd.underlying64 rfl ax ?_)
            | (refine wpList_store_row rfl 64 _ _ rfl w.heap.size (arr ys) rfl rfl _ _ g0 ay (by rw [arr_size, arr_size, lx, lys]) (arr_one _) ?_)
            | (refine wpList_store_row rfl 64 _ _ rfl (w.heap.size + 1) (arr xs) rfl rfl _ _ ((setRow_other _ _ _ _ (by simp)).trans g1) ax (by rw [arr_size, arr_size, lx, lys]) (arr_one _) ?_))
          go_roundg (a.length - (j + 1))
          case measure => omega
          case rel => exact ⟨j + 1, M, ys, xs, by go_num, by omega, by omega, rfl, H5, lx, x0, HY, HX⟩
    · have ej : j = a.length := by omega
      subst ej
      have hgj : ¬ (a.length : Int) < (a.length : Int) := by omega
      have HM := Lib.hid HC.out.all
      have bel := H2.2.2
      clear HC HR H2
      go_wp2_with fail
      go_ret
      exact ⟨M, rfl, HM.out, bel⟩

end Go.Proofs.YtdpbikephjnndaaDoor.Wrd
