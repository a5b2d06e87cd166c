/- Contract of spec's normal form of a word. -/
import Derived.Test.YtdpbikephjnndaaDoorWrdA
import Derived.Test.YtdpbikephjnndaaDoorBytR
import Derived.Test.YtdpbikephjnndaaDoorSplit
namespace Go.Proofs.YtdpbikephjnndaaDoor.Wrd
open Go.RowKit
open Go.Proofs.YtdpbikephjnndaaDoor.Byr (append_b)

theorem wide_next {l : List UInt8} {k : Nat} (h : k < l.length) : (l.take k).flatMap widen ++ widen l[k] = (l.take (k + 1)).flatMap widen := by
  rw [List.take_succ_eq_append_getElem h, List.flatMap_append]
  simp
/-- The text as it has been widened. -/
def NmL (l : List UInt8) (w0 : World) (m : Nat) (v i : Value) (wr : World) : Prop :=
  ∃ k : Nat, i = .int .i64 k ∧ m = l.length - k ∧ k ≤ l.length ∧ Byr.Own wr w0.heap.size v ((l.take k).flatMap widen) ∧ Below w0.heap.size w0 wr
def NmO (W : List UInt8) (w0 : World) (m : Nat) (v i : Value) (wr : World) : Prop :=
  ∃ k : Nat, i = .int .i64 k ∧ m = W.length - k ∧ k ≤ W.length ∧ Byr.Own wr w0.heap.size v (sq none (W.take k)) ∧ Below w0.heap.size w0 wr

theorem sq_next {W : List UInt8} {k : Nat} (h : k < W.length) (hn : k = 0 ∨ ∃ h0 : 0 < k, W[k - 1] ≠ W[k]) : sq none (W.take k) ++ [W[k]] = sq none (W.take (k + 1)) := by
  rw [List.take_succ_eq_append_getElem h, sq_snoc, if_neg]
  rintro (e | ⟨-, e⟩)
  · rcases hn with rfl | ⟨h0, hne⟩
    · simp at e
    · rw [List.getLast?_eq_getElem?, List.length_take, Nat.min_eq_left (by omega), List.getElem?_take, if_pos (by omega), List.getElem?_eq_getElem (by omega)] at e
      injection e with e
      exact hne e
  · cases e
theorem sq_same {W : List UInt8} {k : Nat} (h : k < W.length) (h0 : 0 < k) (he : W[k - 1] = W[k]) : sq none (W.take k) = sq none (W.take (k + 1)) := by
  rw [List.take_succ_eq_append_getElem h, sq_snoc, if_pos]
  left
  rw [List.getLast?_eq_getElem?, List.length_take, Nat.min_eq_left (by omega), List.getElem?_take, if_pos (by omega), List.getElem?_eq_getElem (by omega), he]
theorem sq_pos {W : List UInt8} (h : 1 ≤ W.length) : 1 ≤ (sq none W).length := by
  cases W with
  | nil => simp at h
  | cons c r => unfold sq; simp
theorem wide_pos {l : List UInt8} (h : 1 ≤ l.length) : 1 ≤ (l.flatMap widen).length := by
  cases l with
  | nil => simp at h
  | cons c r =>
    have := (widen_len c).1
    simp only [List.flatMap_cons, List.length_append]
    omega
theorem norm_yes {l S : List UInt8} (h : sq none (l.flatMap widen) = S) (h3 : 3 ≤ S.length) (he : S[S.length - 1]'(by omega) = 101) : norm l = S.take (S.length - 1) := by
  unfold norm cutE
  rw [h, if_pos ⟨h3, by rw [List.getLast?_eq_getElem?, List.getElem?_eq_getElem (by omega), he]⟩, List.dropLast_eq_take]
theorem norm_no {l S : List UInt8} (h : sq none (l.flatMap widen) = S) (hn : ¬ (3 ≤ S.length ∧ ∃ h0 : 0 < S.length, S[S.length - 1] = 101)) : norm l = S := by
  unfold norm cutE
  rw [h, if_neg]
  rintro ⟨h3, e⟩
  rw [List.getLast?_eq_getElem?, List.getElem?_eq_getElem (by omega)] at e
  injection e with e
  exact hn ⟨h3, by omega, e⟩

set_option maxRecDepth 100000 in
set_option maxHeartbeats 8000000 in
theorem spec_norm (l : List UInt8) (hl : l.length ≤ 20) (hl1 : 1 ≤ l.length) (w : World) : Calls Tryd.prog 43 #[.string (str l)] w (Tx (norm l) w) := by
  have sz := str_size l
  have own0 := Byr.Own.made0 w
  have bel0 : Below w.heap.size w (w.alloc (.cells #[] 5)) := (Below.refl _ _).alloc (Nat.le_refl _) _
  go_enter Tryd.func43, Tryd.ntmps43
  go_wp2_with fail
  go_loopg [3, 4] (l.length) (fun m v i wr => NmL l w m v i wr)
  case atStart => exact ⟨0, rfl, by omega, by omega, own0, bel0⟩
  case round =>
    clear own0 bel0
    obtain ⟨k, rfl, hm, hk, hown, bel⟩ := hrel
    subst hm
    by_cases hlt : k < l.length
    · have hgo : (k : Int) < (l.length : Int) := by omega
      have hgs : (str l)[k]'(by rw [str_size]; exact hlt) = l[k] := get_str l k _
      have HW := Lib.hid (wide_next hlt)
      have wl := wide_len (l.take k)
      rw [List.length_take] at wl
      obtain ⟨acc2, ha2⟩ : ∃ x, (l.take (k + 1)).flatMap widen = x := ⟨_, rfl⟩
      rw [ha2] at HW
      have HA2 := Lib.hid ha2
      clear ha2
      generalize (l.take k).flatMap widen = acc at *
      obtain ⟨c, hc⟩ : ∃ c, l[k] = c := ⟨_, rfl⟩
      rw [hc] at HW hgs
      clear hc
      by_cases c0 : c = 118
      · subst c0
        have HA := Lib.hid (show acc ++ [117] = acc2 from HW.out)
        clear HW
        go_wp2_with (at_builtin; refine append_b [117] (by rfl) rfl bel hown (by simp; omega) rfl (.tmp 25) (.tmp 26) rfl rfl rfl ?_)
        intro v2 w2 own2 bel2
        rw [HA.out] at own2
        clear hown bel
        go_wp2_with fail
        go_roundg (l.length - (k + 1))
        case measure => omega
        case rel => exact ⟨k + 1, by go_num, by omega, by omega, by rw [HA2.out]; exact own2, bel2⟩
      · have n0 : ((c.toNat : Int) == 118) = false := byte_ne c0
        by_cases c1 : c = 106
        · subst c1
          have HA := Lib.hid (show acc ++ [105] = acc2 from HW.out)
          clear HW
          go_wp2_with (at_builtin; refine append_b [105] (by rfl) rfl bel hown (by simp; omega) rfl (.tmp 31) (.tmp 32) rfl rfl rfl ?_)
          intro v2 w2 own2 bel2
          rw [HA.out] at own2
          clear hown bel
          go_wp2_with fail
          go_roundg (l.length - (k + 1))
          case measure => omega
          case rel => exact ⟨k + 1, by go_num, by omega, by omega, by rw [HA2.out]; exact own2, bel2⟩
        · have n1 : ((c.toNat : Int) == 106) = false := byte_ne c1
          by_cases c2 : c = 121
          · subst c2
            have HA := Lib.hid (show acc ++ [105] = acc2 from HW.out)
            clear HW
            go_wp2_with (at_builtin; refine append_b [105] (by rfl) rfl bel hown (by simp; omega) rfl (.tmp 31) (.tmp 32) rfl rfl rfl ?_)
            intro v2 w2 own2 bel2
            rw [HA.out] at own2
            clear hown bel
            go_wp2_with fail
            go_roundg (l.length - (k + 1))
            case measure => omega
            case rel => exact ⟨k + 1, by go_num, by omega, by omega, by rw [HA2.out]; exact own2, bel2⟩
          · have n2 : ((c.toNat : Int) == 121) = false := byte_ne c2
            by_cases c3 : c = 119
            · subst c3
              have HA := Lib.hid (show acc ++ [117, 117] = acc2 from HW.out)
              clear HW
              go_wp2_with (at_builtin; refine append_b [117, 117] (by rfl) rfl bel hown (by simp; omega) rfl (.tmp 36) (.tmp 37) rfl rfl rfl ?_)
              intro v2 w2 own2 bel2
              rw [HA.out] at own2
              clear hown bel
              go_wp2_with fail
              go_roundg (l.length - (k + 1))
              case measure => omega
              case rel => exact ⟨k + 1, by go_num, by omega, by omega, by rw [HA2.out]; exact own2, bel2⟩
            · have n3 : ((c.toNat : Int) == 119) = false := byte_ne c3
              have ew : widen c = [c] := by unfold widen; rw [if_neg c0, if_neg (fun h => h.elim c1 c2), if_neg c3]
              clear c0 c1 c2 c3
              have HA := Lib.hid (show acc ++ [c] = acc2 from by have h := HW.out; rwa [ew] at h)
              clear HW
              go_wp2_with (at_builtin; refine append_b [c] (by rfl) rfl bel hown (by simp; omega) rfl (.tmp 17) (.tmp 21) rfl rfl rfl ?_)
              intro v2 w2 own2 bel2
              rw [HA.out] at own2
              clear hown bel
              go_wp2_with fail
              go_roundg (l.length - (k + 1))
              case measure => omega
              case rel => exact ⟨k + 1, by go_num, by omega, by omega, by rw [HA2.out]; exact own2, bel2⟩
    · have ek : k = l.length := by omega
      subst ek
      have hge : ¬ (l.length : Int) < (l.length : Int) := by omega
      rw [List.take_length] at hown
      have wl := wide_len l
      have wl1 := wide_pos hl1
      obtain ⟨W, hW⟩ : ∃ W, l.flatMap widen = W := ⟨_, rfl⟩
      rw [hW] at hown wl wl1
      have HW := Lib.hid hW
      clear hW
      obtain ⟨A, cap, rfl, hcap, hrd⟩ := hown.form
      have own0 := Byr.Own.made0 wr
      have bel0 : Below wr.heap.size wr (wr.alloc (.cells #[] 5)) := (Below.refl _ _).alloc (Nat.le_refl _) _
      clear hown
      generalize wr = w1 at *
      go_wp2_with fail
      go_loopg [5, 6] (W.length) (fun m v i wr => NmO W w1 m v i wr)
      case atStart => exact ⟨0, rfl, by omega, by omega, own0, bel0⟩
      case round =>
        clear own0 bel0
        obtain ⟨j, rfl, hm, hj, hown, belq⟩ := hrel
        subst hm
        by_cases hjt : j < W.length
        · have hgj : (j : Int) < (W.length : Int) := by omega
          have sl := sq_len none (W.take j)
          rw [List.length_take] at sl
          obtain ⟨g, rfl, hg, q0⟩ := (hrd.below belq) j hjt
          cases j with
          | zero =>
            have HS := Lib.hid (sq_next hjt (.inl rfl))
            obtain ⟨c, hc⟩ : ∃ c, W[0] = c := ⟨_, rfl⟩
            rw [hc] at HS q0
            go_wp2_with fail
            go_quiet (fail)
            have belq2 := below_drewN belq nq
            have hown2 := hown.below (below_drewN (Below.refl wr.heap.size wr) nq)
            clear hown belq
            go_wp2_with (at_builtin; refine append_b [c] (by rfl) rfl belq2 hown2 (by simp only [List.length_cons, List.length_nil]; omega) rfl (.tmp 60) (.tmp 65) rfl rfl rfl ?_)
            intro v2 w2 own2 bel2
            have own3 : Byr.Own w2 w1.heap.size v2 (sq none (W.take (0 + 1))) := by rw [← HS.out]; exact own2
            clear hown2 belq2
            go_wp2_with fail
            go_roundg (W.length - (0 + 1))
            case measure => omega
            case rel => exact ⟨0 + 1, by go_num, by omega, by omega, own3, bel2⟩
          | succ j =>
            obtain ⟨g', eg, hg', q1⟩ := (hrd.below belq) j (by omega)
            injection eg with eg
            injection eg with eg
            subst eg
            by_cases hs : W[j] = W[j + 1]
            · have HS := Lib.hid (sq_same hjt (by omega) hs)
              rw [← hs] at q0
              obtain ⟨c, hc⟩ : ∃ c, W[j] = c := ⟨_, rfl⟩
              rw [hc] at q0 q1
              clear hs
              have hz : (((j : Int) + 1) == 0) = false := by simp; omega
              go_wp2_with fail
              go_quiet (fail)
              have belq2 := below_drewN belq nq
              have hown2 := hown.below (below_drewN (Below.refl wr.heap.size wr) nq)
              clear hown belq
              go_wp2_with fail
              go_roundg (W.length - (j + 1 + 1))
              case measure => omega
              case rel => exact ⟨j + 1 + 1, by go_num, by omega, by omega, by rw [← HS.out]; exact hown2, belq2⟩
            · have HS := Lib.hid (sq_next hjt (.inr ⟨by omega, hs⟩))
              obtain ⟨c, hc⟩ : ∃ c, W[j + 1] = c := ⟨_, rfl⟩
              obtain ⟨d, hd⟩ : ∃ d, W[j] = d := ⟨_, rfl⟩
              rw [hc] at HS q0 hs
              rw [hd] at q1 hs
              have n1 : ((c.toNat : Int) != (d.toNat : Int)) = true := byte_bne (fun e => hs e.symm)
              have n2 : ((c.toNat : Int) == (d.toNat : Int)) = false := byte_ne (fun e => hs e.symm)
              have hz : (((j : Int) + 1) == 0) = false := by simp; omega
              clear hs hc hd
              go_wp2_with fail
              go_quiet (fail)
              have belq2 := below_drewN belq nq
              have hown2 := hown.below (below_drewN (Below.refl wr.heap.size wr) nq)
              clear hown belq
              go_wp2_with (at_builtin; refine append_b [c] (by rfl) rfl belq2 hown2 (by simp only [List.length_cons, List.length_nil]; omega) rfl (.tmp 60) (.tmp 65) rfl rfl rfl ?_)
              intro v2 w2 own2 bel2
              rw [HS.out] at own2
              clear hown2 belq2
              go_wp2_with fail
              go_roundg (W.length - (j + 1 + 1))
              case measure => omega
              case rel => exact ⟨j + 1 + 1, by go_num, by omega, by omega, own2, bel2⟩
        · have ej : j = W.length := by omega
          subst ej
          have hgj : ¬ (W.length : Int) < (W.length : Int) := by omega
          rw [List.take_length] at hown
          obtain ⟨S, hS⟩ : ∃ S, sq none W = S := ⟨_, rfl⟩
          rw [hS] at hown
          have HS : Hid (sq none (l.flatMap widen) = S) := Lib.hid (by rw [HW.out]; exact hS)
          obtain ⟨A2, cap2, rfl, hcap2, hrd2⟩ := hown.form
          have sl := sq_len none W
          rw [hS] at sl
          have fin := bel.trans (belq.mono bel.size)
          have hS' := hS
          clear hown hS hrd
          have sb : S.length ≤ 80 := by omega
          have sp := sq_pos wl1
          rw [hS'] at sp
          clear sl wl wl1 hcap
          obtain ⟨n, hn⟩ : ∃ n, S.length = n + 1 := ⟨S.length - 1, by omega⟩
          obtain ⟨g2, rfl, hg2, q0⟩ := hrd2 n (by omega)
          have cells : ∀ i, i < S.length → ∀ h, wr.cell? ⟨g2, i, none⟩ = some (.int .u8 ((S[i]'h).toNat : Int)) := fun i hi _ => by
            obtain ⟨g3, e3, -, h⟩ := hrd2 i hi
            injection e3 with e3
            injection e3 with e3
            subst e3
            exact h
          have hcv := run_convert_bytes_back (P := Tryd.prog) wr 22 9 5 ⟨g2, 0, none⟩ cap2 (S.take n) Tryd.underlying22 Tryd.underlying5 Tryd.underlying9 (fun i hi => by
            have hi2 : i < S.length := by simp at hi; omega
            rw [Addr.add_lit, Nat.zero_add, List.getElem_take]
            exact cells i hi2 hi2)
          rw [show (S.take n).length = n by simp; omega] at hcv
          have hcw := run_convert_bytes_back (P := Tryd.prog) wr 22 9 5 ⟨g2, 0, none⟩ cap2 S Tryd.underlying22 Tryd.underlying5 Tryd.underlying9 (fun i hi => by
            rw [Addr.add_lit, Nat.zero_add]
            exact cells i hi hi)
          by_cases he : 3 ≤ S.length ∧ S[n] = 101
          · have HN := Lib.hid (norm_yes HS.out he.1 (by simpa [hn] using he.2))
            have h3 := he.1
            rw [he.2] at q0
            have q1 : wr.cell? ⟨g2, n, none⟩ = some (.int .u8 101) := q0
            rw [hn] at HN hcap2 h3 sb ⊢
            clear q0 he hrd2 HS HW hn cells hcw
            go_wp2
            go_ret
            exact ⟨by rw [HN.out]; rfl, fin⟩
          · have HN := Lib.hid (norm_no HS.out (fun h => he ⟨h.1, by have := h.2.2; simpa [hn] using this⟩))
            obtain ⟨c, hc⟩ : ∃ c, S[n] = c := ⟨_, rfl⟩
            rw [hc] at q0 he
            by_cases h3 : 3 ≤ S.length
            · have n1 : ((c.toNat : Int) == 101) = false := byte_ne (fun e => he ⟨h3, e⟩)
              rw [hn] at hcap2 h3 sb hcw ⊢
              clear he hc hrd2 HS HW hn cells hcv
              go_wp2
              go_ret
              exact ⟨by rw [HN.out]; rfl, fin⟩
            · rw [hn] at hcap2 h3 sb hcw ⊢
              clear he hc hrd2 HS HW hn cells hcv q0
              go_wp2
              go_ret
              exact ⟨by rw [HN.out]; rfl, fin⟩

end Go.Proofs.YtdpbikephjnndaaDoor.Wrd
