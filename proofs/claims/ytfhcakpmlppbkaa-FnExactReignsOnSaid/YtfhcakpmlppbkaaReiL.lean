/- laws' marks of reigns: markText, markReignS. -/
import Derived.Test.YtfhcakpmlppbkaaReiK
import Derived.Laws.IdiomStrings
import Derived.Laws.BytesArg
namespace Go.Proofs.Ytfhcakpmlppbkaa.Rei
open Go.RowKit
open Go.Proofs.Ytfhcakpmlppbkaa.Eas (It)

theorem convd (n : Int) : ∀ (wx : World) (g : Nat), wx.cell? ⟨g, 0, none⟩ = some (.int .u8 n) →
    (convert 22 9 (.slice (some ⟨g, 0, none⟩) 1 1)).run Try.prog wx = .ok (.string (strOfNums [n])) wx := by
  intro wx g hc
  exact run_convert_bytes_arg wx 22 5 Try.underlying22 Try.underlying5 g 0 1 1 [n] rfl (by
    intro i hi
    obtain rfl : i = 0 := by omega
    simpa using hc) 9 Try.underlying9
theorem size_nums1 (n : Int) : (strOfNums [n]).size = 1 := by simp [strOfNums, ByteArray.size]

set_option maxHeartbeats 1000000 in
theorem laws_markText (k : Int) (k0 : 0 ≤ k) (k1 : k ≤ 100000000) (w : World) :
    Calls Try.prog 62 #[.int .i64 k] w fun e w' => ∃ s : ByteArray, e = .returned (.string s) ∧ Below w.heap.size w w' := by
  by_cases hk : k ≤ 0
  · go_enter Try.func62, Try.ntmps62
    go_wp2_with fail
    go_ret
    exact ⟨_, rfl, Below.refl _ _⟩
  · have hk' : 0 < k := by omega
    go_enter Try.func62, Try.ntmps62
    go_wp2_with fail
    go_loopg [0, 3] k.toNat (fun m v t wr => ∃ (j : Int) (s : ByteArray), v = .int .i64 j ∧ t = .string s ∧ m = j.toNat ∧ 0 ≤ j ∧ j ≤ k ∧ (s.size : Int) + j ≤ k ∧ Below w.heap.size w wr)
    case atStart => exact ⟨k, _, rfl, rfl, rfl, by omega, by omega, by simp [ByteArray.size], Below.refl _ _⟩
    case round =>
      obtain ⟨j, s, rfl, rfl, hm, j0, j1, js, hb⟩ := hrel
      subst hm
      by_cases hj : 0 < j
      · have m0 := Int.emod_nonneg j (show (10 : Int) ≠ 0 by decide)
        have m1 := Int.emod_lt_of_pos j (show (0 : Int) < 10 by decide)
        have hcv := convd (48 + j % 10)
        have d0 : 0 ≤ j / 10 := by omega
        have d1 : j / 10 ≤ j - 1 := by omega
        have sz : (strOfNums [48 + j % 10]).size = 1 := size_nums1 _
        have w1 : IntKind.i64.wrap (j.tdiv 10) = j / 10 := by rw [Int.tdiv_eq_ediv_of_nonneg j0]; exact IntWalk.i64_in _ ⟨by omega, by omega⟩
        have w2 : j.tmod 10 = j % 10 := Int.tmod_eq_emod_of_nonneg j0
        have w3 : IntKind.i64.wrap (48 + j % 10) = 48 + j % 10 := IntWalk.i64_in _ ⟨by omega, by omega⟩
        have w4 : IntKind.u8.wrap (48 + j % 10) = 48 + j % 10 := IntWalk.u8_in _ ⟨by omega, by omega⟩
        go_wp2_with fail
        go_roundg (j / 10).toNat
        case measure => omega
        case rel => exact ⟨j / 10, _, rfl, rfl, rfl, d0, by omega, by rw [ByteArray.size_append, sz]; omega, hb.alloc hb.size _⟩
      · go_wp2_with fail
        go_ret
        exact ⟨⟨_, rfl⟩, hb⟩

theorem chg_below {B U : Nat} {w w1 w2 : World} (h : Sets.Chg B U w w1) (hb : Below w1.heap.size w1 w2) : Sets.Chg B U w w2 :=
  ⟨hb.os.trans h.os, hb.tape.trans h.tape, hb.output.trans h.output, Nat.le_trans h.size hb.size, fun i hi hr => (hb.block i (Nat.lt_of_lt_of_le hi h.size)).trans (h.block i hi hr)⟩

set_option maxHeartbeats 1000000 in
theorem laws_markReignS (A : Option Addr) (n c B U : Nat) (xs : LR) (k0 : Int) (h0 : 0 ≤ k0) (h1 : k0 ≤ 4000000) (hn : n ≤ 2000000) (w : World) (h : RowR w B U A n c xs) :
    Calls Try.prog 32 #[.slice A n c, .int .i64 k0] w fun e w' => e = .returned (.int .i64 (k0 + 3 * n)) ∧ Sets.Chg B U w w' := by
  obtain ⟨hl, hc, hU, -, hrow⟩ := h
  by_cases hz : n = 0
  · subst hz
    go_enter Try.func32, Try.ntmps32
    go_wp2_with fail
    go_loopg [1, 5] 0 (fun m t i wr => i = .int .i64 0 ∧ t = .int .i64 k0 ∧ w = wr)
    case atStart => exact ⟨rfl, rfl, rfl⟩
    case round =>
      obtain ⟨rfl, rfl, rfl⟩ := hrel
      go_wp2_with fail
      go_ret
      exact ⟨by simp, Sets.Chg.refl _⟩
  · obtain ⟨g, off, cs0, rfl, hB, hg, hb0, hcell⟩ := hrow (by omega)
    have hsz : ∀ k, k < n → off + k * 3 + 2 < cs0.size := fun k hk => by
      have := (hcell k (by omega)).2.2
      rcases Nat.lt_or_ge (off + k * 3 + 2) cs0.size with h | h
      · exact h
      · rw [Array.getElem?_eq_none h] at this; cases this
    have HS := Lib.hid hsz
    clear hsz hcell hrow
    go_enter Try.func32, Try.ntmps32
    go_wp2_with fail
    go_loopg [1, 5] n (fun m t i wr => ∃ k : Nat, k ≤ n ∧ m = n - k ∧ i = .int .i64 k ∧ t = .int .i64 (k0 + 3 * k) ∧ Sets.Chg B U w wr ∧ ∃ cs, Blk wr g 25 cs ∧ Hid (cs.size = cs0.size))
    case atStart => exact ⟨0, by omega, by omega, rfl, by simp, Sets.Chg.refl _, _, hb0, Lib.hid rfl⟩
    case round =>
      obtain ⟨k, hk, hm, rfl, rfl, hch, cs, hb, hs⟩ := hrel
      subst hm
      by_cases hlt : k < n
      · have z := HS.out k hlt
        rw [← hs.out] at z
        have M := Lib.hid (laws_markText (k0 + 3 * k) (by omega) (by omega))
        go_wp2_with fail
        refine (M.out _).mono ?_
        rintro e w2 ⟨s, rfl, hb2⟩
        have q := hb.below hb2 hb.lt
        have hch2 := chg_below hch hb2
        have d0 := (q.cell (off + k * 3)).trans (Array.getElem?_eq_getElem (by omega))
        have d1 := (q.cell (off + k * 3 + 1)).trans (Array.getElem?_eq_getElem (by omega))
        have d2 := (q.cell (off + k * 3 + 2)).trans (Array.getElem?_eq_getElem (by omega))
        generalize cs[off + k * 3] = u0 at d0
        generalize cs[off + k * 3 + 1] = u1 at d1
        generalize cs[off + k * 3 + 2] = u2 at d2
        have f0 := q.frozen (off + k * 3)
        have f1 := q.frozen (off + k * 3 + 1)
        have f2 := q.frozen (off + k * 3 + 2)
        have NB := Lib.hid (((q.set_ (off + k * 3) (.string s)).set_ (off + k * 3 + 1) (.int .i64 (k0 + 3 * k + 1))).set_ (off + k * 3 + 2) (.int .i64 (k0 + 3 * k + 1 + 1)))
        clear q z hb hb2 M hch
        go_wp2_with fail
        go_roundg (n - (k + 1))
        case measure => omega
        case rel => exact ⟨k + 1, by omega, by omega, by go_num, by push_cast; rw [show k0 + 3 * (k : Int) + 1 + 1 + 1 = k0 + 3 * ((k : Int) + 1) by omega], ((hch2.setCell (p := ⟨g, _, none⟩) hB hg _).setCell (p := ⟨g, _, none⟩) hB hg _).setCell (p := ⟨g, _, none⟩) hB hg _, _, NB.out, Lib.hid (by simp [hs.out])⟩
      · have e : k = n := by omega
        subst e
        go_wp2_with fail
        go_ret
        exact ⟨rfl, hch⟩

end Go.Proofs.Ytfhcakpmlppbkaa.Rei
