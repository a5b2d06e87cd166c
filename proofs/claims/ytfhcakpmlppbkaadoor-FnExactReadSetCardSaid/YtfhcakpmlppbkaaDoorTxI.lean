/- Contracts of impl's texts of spans and sets, over the library's decimal texts of numbers and strings.Join. -/
import Derived.Test.YtfhcakpmlppbkaaDoorShelf
import Derived.Test.YtfhcakpmlppbkaaDoorTxT
import Derived.Lib.AppendIntMem
import Derived.Lib.LaidTab
namespace Go.Proofs.YtfhcakpmlppbkaaDoor.Sets
open Go.RowKit

/-- The library's table of powers of ten reads as the program's text lays it. -/
def Tabs (w : World) : Prop := Lib.TabIs Tryd.prog w "internal/strconv.uint64pow10" .u64 Lib.pow10Tab
theorem Tabs.below {W w : World} (h : Tabs W) (hb : Below W.heap.size W w) : Tabs w := by
  unfold Tabs Lib.TabIs at h ⊢
  obtain ⟨g, hg⟩ : ∃ g, Tryd.prog.globalNamed "internal/strconv.uint64pow10" = some g := by
    cases hg : Tryd.prog.globalNamed "internal/strconv.uint64pow10" with
    | none => unfold World.var? at h; rw [hg] at h; cases h
    | some g => exact ⟨g, rfl⟩
  refine var?_below hb hg ?_ h
  rcases Nat.lt_or_ge g W.heap.size with hl | hl
  · exact hl
  · exfalso
    unfold World.var? at h
    rw [hg] at h
    simp [Array.getElem?_eq_none hl] at h

theorem itoa_dec (n : Int) (h0 : 0 ≤ n) (h1 : n < 1000000000) : Lib.itoa n = Txt.dec n := by
  obtain ⟨u, rfl⟩ := Int.eq_ofNat_of_zero_le h0
  rw [Lib.itoa_nonneg]
  have key : ∀ (k u : Nat), u < 10 ^ k → Txt.decF (k + 1) (u : Int) = Lib.decDigits u := by
    intro k
    induction k with
    | zero =>
      intro u hu
      obtain rfl : u = 0 := by simpa using hu
      rw [Lib.decDigits]
      rfl
    | succ k ih =>
      intro u hu
      have e : Txt.dg (u : Int) = UInt8.ofNat (48 + u % 10) := by
        unfold Txt.dg
        congr 1
      rw [Lib.decDigits]
      by_cases h : u < 10
      · rw [dif_pos h]
        have hi : (u : Int) < 10 := by omega
        rw [Txt.decF, if_pos hi, e, Nat.mod_eq_of_lt h]
      · rw [dif_neg h]
        have hi : ¬ (u : Int) < 10 := by omega
        rw [Txt.decF, if_neg hi, e]
        have hq : (u : Int) / 10 = ((u / 10 : Nat) : Int) := by omega
        rw [hq, ih (u / 10) (by rw [Nat.pow_succ] at hu; omega)]
  exact (key 18 u (by omega)).symm

theorem go_FormatInt (n : Int) (h0 : 0 ≤ n) (h1 : n < 1000000000) (w : World) (ht : Tabs w) : Calls Tryd.prog 32 #[.int .i64 n, .int .i64 10] w (Tx (Txt.dec n) w) := by
  refine (Tryd.strconv_FormatInt_10 n (by omega) (by omega) w ht).mono ?_
  rintro e w1 ⟨rfl, k, os, rfl⟩
  rw [itoa_dec n h0 h1]
  exact ⟨rfl, Lib.below_grow _ _ (Nat.le_refl _) _ _⟩

theorem run_make_strs (n : Nat) (hn : n ≤ 2000000) (w : World) :
    (Instr.makeSlice 36 (.int .i64 (n : Int)) (.int .i64 (n : Int))).run Tryd.prog w = .ok (.slice (some ⟨w.heap.size, 0, none⟩) n n) (w.alloc (.cells (madeCells #[.string ByteArray.empty] n) 9)) := by
  obtain ⟨i, hi, hz, h1, h2⟩ := info_parts info_str
  have h := run_make (P := Tryd.prog) w 36 9 i _ Tryd.underlying36 hi hz .i64 .i64 n n (by omega) (by omega) (by rw [h2]; omega) (by omega)
  rw [h1] at h
  simpa [Value.cells] using h

/-- A row that the call fills: its first k texts are those of xs. -/
def FillT (w : World) (g k n : Nat) (xs : L) : Prop :=
  ∃ cs : Array Value, cs.size = n ∧ Blk w g 9 cs ∧ ∀ j (h : j < xs.length), j < k → cs[j]? = some (.string (str (wd xs[j])))
theorem FillT.step {w : World} {g k n : Nat} {xs : L} (h : FillT w g k n xs) (hk : k < xs.length) (hn : k < n) :
    FillT (w.setCell ⟨g, k, none⟩ (.string (str (wd xs[k])))) g (k + 1) n xs := by
  obtain ⟨cs, hs, hb, hc⟩ := h
  refine ⟨_, ?_, hb.set_ k _, fun j hj hjk => ?_⟩
  · simpa using hs
  · by_cases e : j = k
    · subst e
      rw [Array.getElem?_setIfInBounds_self_of_lt (by omega)]
    · rw [Array.getElem?_setIfInBounds_ne (by omega)]
      exact hc j hj (by omega)
theorem FillT.cells {w : World} {g k n : Nat} {xs : L} (h : FillT w g k n xs) {j : Nat} (hj : j < n) : (∃ u, w.cell? ⟨g, j, none⟩ = some u) ∧ w.frozen? ⟨g, j, none⟩ = false := by
  obtain ⟨cs, hs, hb, hc⟩ := h
  exact ⟨⟨_, (hb.cell _).trans (Array.getElem?_eq_getElem (by omega))⟩, hb.frozen _⟩
theorem FillT.below {w w' : World} {g k n : Nat} {xs : L} (h : FillT w g k n xs) (hb : Below w.heap.size w w') : FillT w' g k n xs := by
  obtain ⟨cs, hs, hk, hc⟩ := h
  exact ⟨cs, hs, hk.below hb hk.lt, hc⟩
theorem FillT.lt {w : World} {g k n : Nat} {xs : L} (h : FillT w g k n xs) : g < w.heap.size := by
  obtain ⟨cs, hs, hk, hc⟩ := h
  exact hk.lt

end Go.Proofs.YtfhcakpmlppbkaaDoor.Sets
