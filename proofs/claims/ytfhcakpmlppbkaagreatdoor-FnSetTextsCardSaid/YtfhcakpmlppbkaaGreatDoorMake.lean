/- A set made of spans: spec's l02Make. -/
import Derived.Test.YtfhcakpmlppbkaaGreatDoorMeetS
namespace Go.Proofs.YtfhcakpmlppbkaaGreatDoor.Sets
open Go.RowKit

/-- Block g has room for cap spans and begins with the spans ys. -/
def Cells (w : World) (g cap : Nat) (ys : L) : Prop :=
  ∃ cs : Array Value, cs.size = cap * 2 ∧ Blk w g 36 cs ∧ ∀ j (h : j < ys.length), cs[j * 2]? = some (.int .i64 ys[j].1) ∧ cs[j * 2 + 1]? = some (.int .i64 ys[j].2)
section
variable {w w' : World} {g cap : Nat} {ys : L}
theorem Own.cells {B : Nat} {v : Value} (h : Own w B v ys) (hne : 0 < ys.length) : ∃ g cap, v = .slice (some ⟨g, 0, none⟩) ys.length cap ∧ B ≤ g ∧ g < w.heap.size ∧ ys.length ≤ cap ∧ cap ≤ maxLen ∧ Cells w g cap ys := by
  rcases h.2 with ⟨rfl, h0⟩ | ⟨g, cap, cur, rfl, hB, hg, hn, hm, hs, ht⟩
  · omega
  · refine ⟨g, cap, rfl, hB, (Array.getElem?_eq_some_iff.1 hg).1, hn, hm, cur, hs, hg, fun k hk => ?_⟩
    have h3 := cells_at ys k hk
    rw [← ht, List.getElem?_take, List.getElem?_take, if_pos (by omega), if_pos (by omega)] at h3
    simpa using h3
theorem Own.cellsN {B : Nat} {v : Value} (h : Own w B v ys) (n : Nat) (hn : ys.length = n) (h0 : 0 < n) : ∃ g cap, v = .slice (some ⟨g, 0, none⟩) n cap ∧ B ≤ g ∧ g < w.heap.size ∧ n ≤ cap ∧ cap ≤ maxLen ∧ Cells w g cap ys := by
  subst hn
  exact h.cells h0
theorem Cells.ownN {B n : Nat} (h : Cells w g cap ys) (e : ys.length = n) (hB : B ≤ g) (hn : n ≤ cap) (hm : cap ≤ maxLen) (own : ∀ {w : World} {ys : L}, Cells w g cap ys → B ≤ g → ys.length ≤ cap → cap ≤ maxLen → Own w B (.slice (some ⟨g, 0, none⟩) ys.length cap) ys) : Own w B (.slice (some ⟨g, 0, none⟩) n cap) ys := by
  subst e
  exact own h hB hn hm
theorem cells_get (a : L) (j : Nat) (h : j < a.length * 2) : (cells a)[j]? = if j % 2 = 0 then (a[j / 2]?).map (fun s => Value.int .i64 s.1) else (a[j / 2]?).map (fun s => Value.int .i64 s.2) := by
  have hk : j / 2 < a.length := by omega
  have h2 := cells_at a (j / 2) hk
  rw [List.getElem?_eq_getElem hk]
  split
  · rw [show j / 2 * 2 = j by omega] at h2; simpa using h2.1
  · rw [show j / 2 * 2 + 1 = j by omega] at h2; simpa using h2.2
theorem Cells.own {B : Nat} (h : Cells w g cap ys) (hB : B ≤ g) (hn : ys.length ≤ cap) (hm : cap ≤ maxLen) : Own w B (.slice (some ⟨g, 0, none⟩) ys.length cap) ys := by
  obtain ⟨cs, hs, hb, hc⟩ := h
  refine ⟨cells_length _, .inr ⟨g, cap, cs, rfl, hB, hb, hn, hm, hs, ?_⟩⟩
  apply List.ext_getElem?
  intro j
  by_cases hj : j < ys.length * 2
  · rw [List.getElem?_take, if_pos hj, cells_get _ _ hj]
    have hk : j / 2 < ys.length := by omega
    have h2 := hc (j / 2) hk
    rw [List.getElem?_eq_getElem hk]
    split
    · rw [show j / 2 * 2 = j by omega] at h2; simpa using h2.1
    · rw [show j / 2 * 2 + 1 = j by omega] at h2; simpa using h2.2
  · rw [List.getElem?_eq_none (by rw [List.length_take]; omega), List.getElem?_eq_none (by rw [cells_length]; omega)]
theorem Cells.at_ (h : Cells w g cap ys) (_hn : ys.length ≤ cap) {k : Nat} (hk : k < ys.length) : w.cell? ⟨g, k * 2, none⟩ = some (.int .i64 ys[k].1) ∧ w.cell? ⟨g, k * 2 + 1, none⟩ = some (.int .i64 ys[k].2) ∧
    w.frozen? ⟨g, k * 2, none⟩ = false ∧ w.frozen? ⟨g, k * 2 + 1, none⟩ = false := by
  obtain ⟨cs, hs, hb, hc⟩ := h
  obtain ⟨h0, h1⟩ := hc k hk
  exact ⟨(hb.cell _).trans h0, (hb.cell _).trans h1, hb.frozen _, hb.frozen _⟩
theorem Cells.set (h : Cells w g cap ys) (hn : ys.length ≤ cap) {k : Nat} (hk : k < ys.length) (s : Int × Int) :
    Cells ((w.setCell ⟨g, k * 2, none⟩ (.int .i64 s.1)).setCell ⟨g, k * 2 + 1, none⟩ (.int .i64 s.2)) g cap (ys.set k s) := by
  obtain ⟨cs, hs, hb, hc⟩ := h
  refine ⟨_, ?_, (hb.set_ (k * 2) _).set_ (k * 2 + 1) _, fun j hj => ?_⟩
  · simpa using hs
  · rw [List.length_set] at hj
    by_cases e : j = k
    · subst e
      rw [List.getElem_set_self]
      refine ⟨?_, ?_⟩
      · rw [Array.getElem?_setIfInBounds_ne (by omega), Array.getElem?_setIfInBounds_self_of_lt (by omega)]
      · rw [Array.getElem?_setIfInBounds_self_of_lt (by simp; omega)]
    · rw [List.getElem_set_ne (by omega), Array.getElem?_setIfInBounds_ne (by omega), Array.getElem?_setIfInBounds_ne (by omega), Array.getElem?_setIfInBounds_ne (by omega), Array.getElem?_setIfInBounds_ne (by omega)]
      exact hc j hj
theorem Cells.set2 (h : Cells w g cap ys) (hn : ys.length ≤ cap) {k : Nat} (hk : k < ys.length) (e : Int) :
    Cells (w.setCell ⟨g, k * 2 + 1, none⟩ (.int .i64 e)) g cap (ys.set k (ys[k].1, e)) := by
  obtain ⟨cs, hs, hb, hc⟩ := h
  refine ⟨_, ?_, hb.set_ (k * 2 + 1) _, fun j hj => ?_⟩
  · simpa using hs
  · rw [List.length_set] at hj
    by_cases e1 : j = k
    · subst e1
      rw [List.getElem_set_self]
      refine ⟨?_, ?_⟩
      · rw [Array.getElem?_setIfInBounds_ne (by omega)]; exact (hc j hk).1
      · rw [Array.getElem?_setIfInBounds_self_of_lt (by omega)]
    · rw [List.getElem_set_ne (by omega), Array.getElem?_setIfInBounds_ne (by omega), Array.getElem?_setIfInBounds_ne (by omega)]
      exact hc j hj
theorem Cells.drewN (h : Cells w g cap ys) (q : Nat) : Cells (w.drewN q) g cap ys := h
end

theorem Own.drewN {w : World} {B : Nat} {v : Value} {xs : L} (h : Own w B v xs) (q : Nat) : Own (w.drewN q) B v xs := h

/-! ### The list while a span is put in -/
def mid (k : Nat) (z : Int × Int) (acc : L) : L := acc.take k ++ z :: acc.drop k
theorem mid_len {k : Nat} {z : Int × Int} {acc : L} : (mid k z acc).length = acc.length + 1 := by simp [mid]; omega
theorem mid_end {z : Int × Int} {acc : L} : acc ++ [z] = mid acc.length z acc := by simp [mid]
theorem mid_get {k : Nat} {z : Int × Int} {acc : L} (hk : k < acc.length) : (mid (k + 1) z acc)[k]'(by rw [mid_len]; omega) = acc[k] := by
  simp only [mid]
  rw [List.getElem_append_left (by simp; omega)]
  simp
theorem mid_set {k : Nat} {z s : Int × Int} {acc : L} (hk : k ≤ acc.length) : (mid k z acc).set k s = mid k s acc := by
  simp only [mid]
  rw [List.set_append_right _ _ (by simp; omega)]
  simp [Nat.min_eq_left hk]
theorem mid_down {k : Nat} {z : Int × Int} {acc : L} (hk : k < acc.length) : (mid (k + 1) z acc).set (k + 1) acc[k] = mid k acc[k] acc := by
  rw [mid_set (by omega)]
  simp only [mid]
  rw [List.take_succ_eq_append_getElem hk, List.append_assoc, List.drop_eq_getElem_cons hk]
  rfl
theorem ins_start (s : Int × Int) (acc : L) : acc.take 0 ++ ins s (acc.drop 0) = ins s acc := by simp
theorem ins_step {s : Int × Int} {acc T : L} {k : Nat} (hk : k < acc.length) (hle : acc[k].1 ≤ s.1) (h : acc.take k ++ ins s (acc.drop k) = T) : acc.take (k + 1) ++ ins s (acc.drop (k + 1)) = T := by
  rw [List.drop_eq_getElem_cons hk, ins, if_pos hle] at h
  rw [List.take_succ_eq_append_getElem hk, List.append_assoc]
  exact h
theorem ins_stop {s : Int × Int} {acc T : L} {k : Nat} (hk : k < acc.length) (hle : ¬ acc[k].1 ≤ s.1) (h : acc.take k ++ ins s (acc.drop k) = T) : mid k s acc = T := by
  rw [List.drop_eq_getElem_cons hk, ins, if_neg hle] at h
  rw [mid, List.drop_eq_getElem_cons hk]
  exact h
theorem ins_end {s : Int × Int} {acc T : L} {k : Nat} (hk : acc.length ≤ k) (h : acc.take k ++ ins s (acc.drop k) = T) : mid k s acc = T := by
  rw [List.drop_eq_nil_of_le hk, ins] at h
  rw [mid, List.drop_eq_nil_of_le hk]
  exact h

/-- What a call leaves that answers a list of spans in a row that can be appended to. -/
def SpansO (xs : L) (w : World) (e : Ending) (w' : World) : Prop := ∃ v, e = .returned v ∧ Own w' w.heap.size v xs ∧ Below w.heap.size w w'

/-- The loop that puts the spans in order. -/
def SortLoop (T xs : L) (n : Nat) (w : World) (m : Nat) (v i : Value) (wr : World) : Prop :=
  ∃ (k : Nat) (acc : L), i = .int .i64 k ∧ m = n - k ∧ k ≤ n ∧ acc.length = k ∧ Own wr w.heap.size v acc ∧ Below w.heap.size w wr ∧ Hid (sort acc (xs.drop k) = T)

theorem mrg_join {zs pre T : L} {c : Int × Int} {k : Nat} (hk : k < zs.length) (hj : zs[k].1 ≤ c.2 + 1) (h : pre ++ mrg c (zs.drop k) = T) : pre ++ mrg (c.1, max c.2 zs[k].2) (zs.drop (k + 1)) = T := by
  rw [List.drop_eq_getElem_cons hk, mrg, if_pos hj] at h
  exact h
theorem mrg_next {zs pre T : L} {c : Int × Int} {k : Nat} (hk : k < zs.length) (hj : ¬ zs[k].1 ≤ c.2 + 1) (h : pre ++ mrg c (zs.drop k) = T) : (pre ++ [c]) ++ mrg zs[k] (zs.drop (k + 1)) = T := by
  rw [List.drop_eq_getElem_cons hk, mrg, if_neg hj] at h
  rw [List.append_assoc]; exact h
theorem merge_first {zs : L} (h : 0 < zs.length) : ([] : L) ++ mrg zs[0] (zs.drop (0 + 1)) = merge zs := by
  cases zs with
  | nil => simp at h
  | cons s r => rfl
theorem snoc_set {pre : L} {c d : Int × Int} : (pre ++ [c]).set pre.length d = pre ++ [d] := by
  rw [List.set_append_right _ _ (by simp)]
  simp

/-- The loop that joins spans in order. -/
def MergeLoop (zs T : L) (n : Nat) (w : World) (m : Nat) (v i : Value) (wr : World) : Prop :=
  ∃ (k : Nat) (ws : L), i = .int .i64 k ∧ m = n - k ∧ k ≤ n ∧ Own wr w.heap.size v ws ∧ Below w.heap.size w wr ∧
    ((k = 0 ∧ ws = []) ∨ ∃ pre c, ws = pre ++ [c] ∧ pre.length < k ∧ 0 ≤ c.1 ∧ c.1 ≤ c.2 ∧ c.2 ≤ 730499 ∧ Hid (pre ++ mrg c (zs.drop k) = T))

set_option maxHeartbeats 4000000 in
set_option maxRecDepth 100000 in
theorem spec_makeO (A : Option Addr) (n c : Nat) (xs : L) (hn : n ≤ 2000) (hok : Hid (∀ s ∈ xs, ok s)) (w : World) (hx : Rd w A n xs) :
    Calls Tryz.prog 53 #[.slice A n c] w (SpansO (make xs) w) := by
  have hlx := hx.1
  obtain ⟨T, hT⟩ : ∃ T, sort [] xs = T := ⟨_, rfl⟩
  have HT0 := Lib.hid hT
  clear hT
  go_enter Tryz.func53, Tryz.ntmps53
  go_wp2_with fail
  go_loopg [3, 4] n (fun m v i wr => SortLoop T xs n w m v i wr)
  case atStart => exact ⟨0, [], rfl, by omega, by omega, rfl, Own.made0 w, (Below.refl _ _).alloc (Nat.le_refl _) _, Lib.hid (by simpa using HT0.out)⟩
  case round =>
    obtain ⟨i, acc, rfl, hm, hi, hal, hown, hb, HT⟩ := hrel
    subst hm
    by_cases hlt : i < n
    · obtain ⟨g, off, hl, rfl, hg, c0, c1⟩ := (hx.below hb).at_ hlt
      obtain ⟨B, cb, rfl, hrow⟩ := hown.form
      have hrd := hrow.rd
      have HO := Lib.hid hown
      clear hrow hown
      rw [hal] at hrd HO
      rw [hal]
      go_wp2_with fail
      go_loopg [5] (i + 1) (fun m t wr' => ∃ (k q : Nat), k ≤ i ∧ m = i + 1 - k ∧ t = .int .i64 k ∧ wr' = wr.drewN q ∧ Hid (acc.take k ++ ins xs[i] (acc.drop k) = ins xs[i] acc))
      case atStart => exact ⟨0, 0, by omega, by omega, rfl, rfl, Lib.hid (ins_start _ _)⟩
      case round =>
        obtain ⟨k, q, hk, hm2, rfl, rfl, HI⟩ := hrel
        subst hm2
        have d0 : (wr.drewN q).cell? ⟨g, off + i * 2, none⟩ = some (.int .i64 xs[i].1) := c0
        by_cases hin : k < i
        · have hka : k < acc.length := by omega
          obtain ⟨g2, o2, hk2, rfl, hg2, e0, e1⟩ := hrd.at_ hin
          have f0 : (wr.drewN q).cell? ⟨g2, o2 + k * 2, none⟩ = some (.int .i64 acc[k].1) := e0
          by_cases hle : acc[k].1 ≤ xs[i].1
          · have HI2 := Lib.hid (ins_step hka hle HI.out)
            have hd : decide (acc[k].1 ≤ xs[i].1) = true := by simpa using hle
            clear hle HI
            go_wp2_with fail
            go_quiet (fail)
            go_wp2_with fail
            go_roundg (i + 1 - (k + 1))
            case measure => omega
            case rel => exact ⟨k + 1, _, by omega, rfl, by go_num, rfl, HI2⟩
          · have HI2 := Lib.hid (ins_stop hka hle HI.out)
            have hd : decide (acc[k].1 ≤ xs[i].1) = false := by simpa using hle
            clear hle HI
            go_wp2_with fail
            go_quiet (fail)
            have hb2 : Below w.heap.size w (wr.drewN (q + nq)) := below_drewN hb _
            have HO2 : Own (wr.drewN (q + nq)) w.heap.size (.slice _ i cb) acc := HO.out
            go_wp2_with (at_builtin; refine append_span (f := 0) (e := 0) hb2 HO2 (by omega) rfl (.tmp 36) (.tmp 38) rfl rfl rfl ?_)
            intro v2 w2 own2 hb3
            obtain ⟨g3, cap, rfl, hB3, hg3, hc3, hm3, HC3⟩ := own2.cellsN (i + 1) (by simp; omega) (by omega)
            rw [mid_end, hal] at HC3
            have HM3 := Lib.hid hm3
            clear own2 HO2 hb2 hrd HO hm3 c0 c1 hg hg3 d0
            go_wp2_with fail
            go_loopg [6] i (fun m t wr2 => ∃ (p : Nat) (z : Int × Int), k ≤ p ∧ p ≤ i ∧ p = m ∧ t = .int .i64 p ∧ Below w.heap.size w wr2 ∧ Cells wr2 g3 cap (mid p z acc))
            case atStart => exact ⟨i, (0, 0), by omega, by omega, by omega, by first | rfl | go_num, hb3, HC3⟩
            case round =>
              obtain ⟨p, z, hp0, hp1, hm3, rfl, hb4, HC4⟩ := hrel
              subst hm3
              by_cases hgo : k < p
              · obtain ⟨r, rfl⟩ : ∃ r, p = r + 1 := ⟨p - 1, by omega⟩
                have hra : r < acc.length := by omega
                obtain ⟨a0, a1, -, -⟩ := HC4.at_ (by rw [mid_len]; omega) (k := r) (by rw [mid_len]; omega)
                obtain ⟨b0, b1, b2, b3⟩ := HC4.at_ (by rw [mid_len]; omega) (k := r + 1) (by rw [mid_len]; omega)
                rw [mid_get hra] at a0 a1
                have ST := HC4.set (by rw [mid_len]; omega) (k := r + 1) (by rw [mid_len]; omega) acc[r]
                rw [mid_down hra] at ST
                have HS := Lib.hid ST
                have hr2 : (r : Int) < (i : Int) + 1 := by omega
                have hr3 : (r : Int) + 1 < (i : Int) + 1 := by omega
                clear ST HC4
                go_wp2_with fail
                go_roundg r
                case measure => omega
                case rel => exact ⟨r, _, by omega, by omega, by omega, by first | rfl | go_num, (hb4.setCell hB3 _).setCell hB3 _, HS.out⟩
              · have e3 : k = p := by omega
                obtain rfl := e3
                obtain ⟨g', off', _, e4, hg, c0, c1⟩ := (hx.below hb4).at_ hlt
                injection e4 with e4; injection e4 with e4 e4'; subst e4 e4'
                obtain ⟨b0, b1, b2, b3⟩ := HC4.at_ (by rw [mid_len]; omega) (k := k) (by rw [mid_len]; omega)
                have ST := HC4.set (by rw [mid_len]; omega) (k := k) (by rw [mid_len]; omega) xs[i]
                rw [mid_set (by omega), HI2.out] at ST
                have HS := Lib.hid ST
                have hr2 : (k : Int) < (i : Int) + 1 := by omega
                clear ST HC4
                go_wp2_with fail
                go_roundg (n - (i + 1))
                case measure => omega
                case rel => exact ⟨i + 1, _, by go_num, rfl, by omega, by rw [ins_length]; omega, HS.out.ownN (by rw [ins_length]; omega) hB3 hc3 HM3.out Cells.own, (hb4.setCell hB3 _).setCell hB3 _, Lib.hid (by have := HT.out; rwa [List.drop_eq_getElem_cons hl] at this)⟩
        · have HI2 := Lib.hid (ins_end (by omega) HI.out)
          clear HI
          go_wp2_with fail
          go_quiet (fail)
          have hb2 : Below w.heap.size w (wr.drewN (q + nq)) := below_drewN hb _
          have HO2 : Own (wr.drewN (q + nq)) w.heap.size (.slice _ i cb) acc := HO.out
          go_wp2_with (at_builtin; refine append_span (f := 0) (e := 0) hb2 HO2 (by omega) rfl (.tmp 36) (.tmp 38) rfl rfl rfl ?_)
          intro v2 w2 own2 hb3
          obtain ⟨g3, cap, rfl, hB3, hg3, hc3, hm3, HC3⟩ := own2.cellsN (i + 1) (by simp; omega) (by omega)
          rw [mid_end, hal] at HC3
          have HM3 := Lib.hid hm3
          clear own2 HO2 hb2 hrd HO hm3 c0 c1 hg hg3 d0
          go_wp2_with fail
          go_loopg [6] i (fun m t wr2 => ∃ (p : Nat) (z : Int × Int), k ≤ p ∧ p ≤ i ∧ p = m ∧ t = .int .i64 p ∧ Below w.heap.size w wr2 ∧ Cells wr2 g3 cap (mid p z acc))
          case atStart => exact ⟨i, (0, 0), by omega, by omega, by omega, by first | rfl | go_num, hb3, HC3⟩
          case round =>
            obtain ⟨p, z, hp0, hp1, hm3, rfl, hb4, HC4⟩ := hrel
            subst hm3
            by_cases hgo : k < p
            · exfalso; omega
            · have e3 : k = p := by omega
              obtain rfl := e3
              obtain ⟨g', off', _, e4, hg, c0, c1⟩ := (hx.below hb4).at_ hlt
              injection e4 with e4; injection e4 with e4 e4'; subst e4 e4'
              obtain ⟨b0, b1, b2, b3⟩ := HC4.at_ (by rw [mid_len]; omega) (k := k) (by rw [mid_len]; omega)
              have ST := HC4.set (by rw [mid_len]; omega) (k := k) (by rw [mid_len]; omega) xs[i]
              rw [mid_set (by omega), HI2.out] at ST
              have HS := Lib.hid ST
              have hr2 : (k : Int) < (i : Int) + 1 := by omega
              clear ST HC4
              go_wp2_with fail
              go_roundg (n - (i + 1))
              case measure => omega
              case rel => exact ⟨i + 1, _, by go_num, rfl, by omega, by rw [ins_length]; omega, HS.out.ownN (by rw [ins_length]; omega) hB3 hc3 HM3.out Cells.own, (hb4.setCell hB3 _).setCell hB3 _, Lib.hid (by have := HT.out; rwa [List.drop_eq_getElem_cons hl] at this)⟩
    · have E : acc = T := by
        have := HT.out
        rw [show xs.drop i = [] from List.drop_eq_nil_of_le (by omega)] at this
        simpa [sort] using this
      have en : i = n := by omega
      subst en
      subst E
      have hokT : Hid (∀ s ∈ acc, ok s) := Lib.hid fun s hs => hok.out s (by have := HT0.out; rw [← this] at hs; simpa using (sort_mem [] xs s).1 hs)
      have MK := Lib.hid (show merge acc = make xs by rw [make, HT0.out])
      obtain ⟨A3, c3, rfl, hrow3⟩ := hown.form
      have hrd := hrow3.rd
      rw [hal] at hrd
      rw [hal]
      clear hown hrow3 HT HT0 hx hok
      go_wp2_with fail
      go_loopg [7, 8] i (fun m v t wr2 => MergeLoop acc (make xs) i wr m v t wr2)
      case atStart => exact ⟨0, [], rfl, by omega, by omega, Own.made0 wr, (Below.refl _ _).alloc (Nat.le_refl _) _, .inl ⟨rfl, rfl⟩⟩
      case round =>
        obtain ⟨k, ws, rfl, hm2, hk, hown, hb2, hst⟩ := hrel
        subst hm2
        by_cases hlt2 : k < i
        · obtain ⟨g, off, hl2, rfl, hg, c0, c1⟩ := (hrd.below hb2).at_ hlt2
          obtain ⟨s0, s1, s2⟩ := hokT.out _ (List.getElem_mem hl2)
          rcases hst with ⟨rfl, rfl⟩ | ⟨pre, c, rfl, hpl, hc0, hc1, hc2, HM⟩
          · obtain ⟨B, cb, rfl, -⟩ := hown.form
            simp only [List.length_nil] at *
            go_wp2_with fail
            go_quiet (fail)
            have hb3 := below_drewN hb2 nq
            have HO := hown.drewN nq
            have HM := Lib.hid (show ([] : L) ++ mrg acc[0] (acc.drop (0 + 1)) = make xs by rw [← MK.out]; exact merge_first hl2)
            have d0 : (wr.drewN nq).cell? ⟨g, off + 0 * 2, none⟩ = some (.int .i64 acc[0].1) := c0
            have d1 : (wr.drewN nq).cell? ⟨g, off + 0 * 2 + 1, none⟩ = some (.int .i64 acc[0].2) := c1
            simp only [Nat.zero_mul, Nat.add_zero] at d0 d1
            generalize wr.drewN nq = w3 at hb3 HO d0 d1 ⊢
            go_wp2_with (at_builtin; refine append_span hb3 HO (by simp) rfl (.tmp 104) (.tmp 109) rfl rfl rfl ?_)
            intro v4 w4 own4 hb4
            clear HO hb3 hown hb2 d0 d1 c0 c1
            go_wp2_with fail
            go_roundg (i - 1)
            case measure => omega
            case rel => exact ⟨1, _, rfl, rfl, by omega, own4, hb4, .inr ⟨[], _, rfl, by simp, s0, s1, s2, HM⟩⟩
          · obtain ⟨g2, cap, rfl, hB2, hg2, hc3, hm3, HC⟩ := hown.cellsN (pre.length + 1) (by simp) (by omega)
            have hkl : pre.length < (pre ++ [c]).length := by simp
            obtain ⟨e0, e1, f0, f1⟩ := HC.at_ (by simp; omega) hkl
            have ec : (pre ++ [c])[pre.length]'hkl = c := by simp
            rw [ec] at e0 e1
            have hz : decide ((0 : Int) ≤ (pre.length : Int)) = true := by simp
            have w1' : IntKind.i64.wrap (c.2 + 1) = c.2 + 1 := IntWalk.i64_in _ ⟨by omega, by omega⟩
            have j0 : (0 : Int) ≤ (pre.length : Int) := by omega
            have j1 : (pre.length : Int) < (pre.length : Int) + 1 := by omega
            by_cases hj : acc[k].1 ≤ c.2 + 1
            · have hd : decide (acc[k].1 ≤ c.2 + 1) = true := by simpa using hj
              have HN := Lib.hid (mrg_join hl2 hj HM.out)
              obtain ⟨e, hE⟩ : ∃ e, (if c.2 < acc[k].2 then acc[k].2 else c.2) = e := ⟨_, rfl⟩
              have hE2 : max c.2 acc[k].2 = e := by rw [← hE]; split <;> omega
              rw [hE2] at HN
              have ST := HC.set2 (by simp; omega) hkl e
              rw [ec, snoc_set] at ST
              have HS := Lib.hid ST
              have be : c.1 ≤ e ∧ e ≤ 730499 := by omega
              have HM3 := Lib.hid hm3
              clear HC ST hE2 hj HM hown ec hm3
              go_wp2_with fail
              go_quiet (fail)
              have p0 : (wr.drewN nq).cell? ⟨g2, pre.length * 2 + 1, none⟩ = some (.int .i64 c.2) := e1
              have p1 : (wr.drewN nq).frozen? ⟨g2, pre.length * 2 + 1, none⟩ = false := f1
              have d1 : (wr.drewN nq).cell? ⟨g, off + k * 2 + 1, none⟩ = some (.int .i64 acc[k].2) := c1
              have hb3 := below_drewN hb2 nq
              have HC3 : Hid (Cells (((wr.drewN nq).setCell ⟨g2, pre.length * 2 + 1, none⟩ (.int .i64 e)).drew) g2 cap (pre ++ [(c.1, e)])) := HS
              clear HS hb2 e0 e1 f0 f1 c0 c1 hd
              generalize wr.drewN nq = w3 at p0 p1 d1 hb3 HC3 ⊢
              go_wp2_with fail
              refine' via ?proof ?rest
              case rest => (intro hK; go_region; exact hK)
              go_wp2_with fail
              go_roundg (i - (k + 1))
              case measure => omega
              case rel => exact ⟨k + 1, pre ++ [(c.1, e)], by go_num, rfl, by omega, HC3.out.ownN (by simp) hB2 hc3 HM3.out Cells.own, (hb3.setCell (p := ⟨g2, _, none⟩) hB2 _).drew, .inr ⟨pre, (c.1, e), rfl, by omega, hc0, be.1, be.2, HN⟩⟩
            · have hd : decide (acc[k].1 ≤ c.2 + 1) = false := by simpa using hj
              have HN := Lib.hid (mrg_next hl2 hj HM.out)
              clear HM HC hj ec
              go_wp2_with fail
              go_quiet (fail)
              have hb3 := below_drewN hb2 nq
              have HO := hown.drewN nq
              have d0 : (wr.drewN nq).cell? ⟨g, off + k * 2, none⟩ = some (.int .i64 acc[k].1) := c0
              have d1 : (wr.drewN nq).cell? ⟨g, off + k * 2 + 1, none⟩ = some (.int .i64 acc[k].2) := c1
              generalize wr.drewN nq = w3 at hb3 HO d0 d1 ⊢
              go_wp2_with (at_builtin; refine append_span hb3 HO (by simp; omega) rfl (.tmp 104) (.tmp 109) rfl rfl rfl ?_)
              intro v4 w4 own4 hb4
              clear HO hb3 hown hb2 d0 d1 c0 c1 e0 e1 f0 f1
              go_wp2_with fail
              go_roundg (i - (k + 1))
              case measure => omega
              case rel => exact ⟨k + 1, _, by go_num, rfl, by omega, own4, hb4, .inr ⟨pre ++ [c], acc[k], by simp, by simp; omega, s0, s1, s2, HN⟩⟩
        · have hend : ws = make xs := by
            rcases hst with ⟨rfl, rfl⟩ | ⟨pre, c, rfl, hpl, hc0, hc1, hc2, HM⟩
            · rw [← MK.out, show acc = [] from List.eq_nil_of_length_eq_zero (by omega)]
              rfl
            · have := HM.out
              rw [show acc.drop k = [] from List.drop_eq_nil_of_le (by omega)] at this
              exact this
          subst hend
          have hws := hb.size
          have R := Lib.hid (hown.mono hws)
          have hfin := below_on hb hb2
          obtain ⟨A4, c4, rfl, -⟩ := hown.form
          clear hown hb2 hb
          go_wp2_with fail
          go_ret
          exact ⟨_, rfl, R.out, hfin⟩

theorem spec_make (A : Option Addr) (n c : Nat) (xs : L) (hn : n ≤ 2000) (hok : Hid (∀ s ∈ xs, ok s)) (w : World) (hx : Rd w A n xs) :
    Calls Tryz.prog 53 #[.slice A n c] w (Spans (make xs) w) :=
  (spec_makeO A n c xs hn hok w hx).mono fun e w' ⟨v, he, ho, hb⟩ => by
    obtain ⟨A4, c4, rfl, hrow⟩ := ho.form
    exact ⟨A4, c4, he, hrow, hb⟩

end Go.Proofs.YtfhcakpmlppbkaaGreatDoor.Sets
