/- Texts of a claim in one file: ReiD ReiK. -/
import Derived.Test.YtfhcakpmlppbkaaDoorGrpAp
import Derived.Test.YtfhcakpmlppbkaaDoorGrpAn
import Derived.Test.YtfhcakpmlppbkaaDoorGrpAo
namespace Go.Proofs.YtfhcakpmlppbkaaDoor.Rei
open Go.RowKit
open Go.Proofs.YtfhcakpmlppbkaaDoor.Ints (Own append_int)
open Go.Proofs.YtfhcakpmlppbkaaDoor.Fea (isDay spec_day_yes spec_day_no)

/-- The indices below k of the reigns that a day is in. -/
def ons (xs : LR) (n : Int) : Nat → List Int
  | 0 => []
  | k + 1 => ons xs n k ++ (if h : k < xs.length then (if xs[k].2.1 ≤ n ∧ n ≤ xs[k].2.2 then [(k : Int)] else []) else [])
theorem ons_yes {xs : LR} {n : Int} {k : Nat} (h : k < xs.length) (hin : xs[k].2.1 ≤ n ∧ n ≤ xs[k].2.2) : ons xs n k ++ [(k : Int)] = ons xs n (k + 1) := by rw [ons, dif_pos h, if_pos hin]
theorem ons_no {xs : LR} {n : Int} {k : Nat} (h : k < xs.length) (hin : ¬ (xs[k].2.1 ≤ n ∧ n ≤ xs[k].2.2)) : ons xs n k = ons xs n (k + 1) := by rw [ons, dif_pos h, if_neg hin, List.append_nil]
theorem ons_len (xs : LR) (n : Int) (k : Nat) : (ons xs n k).length ≤ k := by
  induction k with
  | zero => simp [ons]
  | succ k ih =>
    rw [ons]
    split
    · split <;> simp <;> omega
    · simp; omega

def OnL (xs : LR) (n : Int) (N : Nat) (w0 : World) (m : Nat) (v i : Value) (wr : World) : Prop :=
  ∃ (k : Nat) (acc : List Int), i = .int .i64 k ∧ m = N - k ∧ k ≤ N ∧ Hid (acc = ons xs n k) ∧ acc.length ≤ k ∧ Own wr w0.heap.size v acc ∧ Below w0.heap.size w0 wr

set_option maxRecDepth 100000 in
set_option maxHeartbeats 4000000 in
theorem spec_on7 (A : Option Addr) (N c : Nat) (xs : LR) (hn : N ≤ 1000) (n : Int) (w : World) (h : RdR w A N xs) :
    Calls Tryd.prog 26 #[.slice A N c, .int .i64 n] w fun e w' => ∃ v, e = .returned v ∧ Own w' w.heap.size v (ons xs n N) ∧ Below w.heap.size w w' := by
  have own0 := Own.made0 w
  have hb0 : Below w.heap.size w (w.alloc (.cells #[] 2)) := (Below.refl _ _).alloc (Nat.le_refl _) _
  go_enter Tryd.func26, Tryd.ntmps26
  go_wp2_with fail
  go_loopg [5, 6] N (fun m v i wr => OnL xs n N w m v i wr)
  case atStart => exact ⟨0, [], rfl, by omega, by omega, Lib.hid rfl, by simp, own0, hb0⟩
  case round =>
    clear own0 hb0
    obtain ⟨k, acc, rfl, hm, hk, HA, hl, hown, hb⟩ := hrel
    subst hm
    by_cases hlt : k < N
    · obtain ⟨g, off, hx, rfl, -, hg, c0, c1, c2⟩ := (h.below hb).at_ hlt
      by_cases hin : xs[k].2.1 ≤ n ∧ n ≤ xs[k].2.2
      · have I := Lib.hid (Eas.spec_in_yes n xs[k].2.1 xs[k].2.2 hin)
        have HN := Lib.hid (HA.out ▸ ons_yes hx hin : acc ++ [(k : Int)] = ons xs n (k + 1))
        clear HA hin
        go_wp2_with fail
        go_quiet ((go_at_call 42; exact Calls.quiet_of_same ((I.out _).mono fun _ _ ⟨a, b⟩ => ⟨a, b.symm⟩)))
        go_wp2_with (at_builtin; refine append_int (below_drewN hb _) (hown.below (below_drewN (Below.refl _ _) _)) (by omega) rfl (.tmp 26) (.tmp 28) rfl rfl rfl ?_)
        intro v6 w6 own6 hb7
        clear hown hb
        go_wp2_with fail
        go_roundg (N - (k + 1))
        case measure => omega
        case rel => exact ⟨k + 1, _, by go_num, by omega, by omega, HN, by simp; omega, own6, hb7⟩
      · have I := Lib.hid (Eas.spec_in_no n xs[k].2.1 xs[k].2.2 hin)
        have HN := Lib.hid (HA.out.trans (ons_no hx hin))
        clear HA hin
        go_wp2_with fail
        go_quiet ((go_at_call 42; exact Calls.quiet_of_same ((I.out _).mono fun _ _ ⟨a, b⟩ => ⟨a, b.symm⟩)))
        go_wp2_with fail
        go_roundg (N - (k + 1))
        case measure => omega
        case rel => exact ⟨k + 1, _, by go_num, by omega, by omega, HN, by omega, hown.below (below_drewN (Below.refl _ _) _), below_drewN hb _⟩
    · have HV : acc = ons xs n N := by
        have e : k = N := by omega
        have h := HA.out
        rwa [e] at h
      subst HV
      have hge : (N : Int) ≤ k := by omega
      clear HA
      go_wp2_with fail
      go_ret
      exact ⟨_, rfl, hown, hb⟩

/-- What ReignsOn answers. -/
noncomputable def roL (xs : LR) (n : Int) : List Int := if arOk xs ∧ isDay n then ons xs n xs.length else []
noncomputable def roE (xs : LR) (n : Int) : Int := if ¬ arOk xs then 1 else if isDay n then 0 else 2

end Go.Proofs.YtfhcakpmlppbkaaDoor.Rei

namespace Go.Proofs.YtfhcakpmlppbkaaDoor.Rei
open Go.RowKit
open Go.Proofs.YtfhcakpmlppbkaaDoor.Eas (It)

/-- The slice is a row of reigns of the call's own, in a block from B on and below U. -/
def RowR (w : World) (B U : Nat) (A : Option Addr) (n c : Nat) (xs : LR) : Prop :=
  xs.length = n ∧ n ≤ c ∧ U ≤ w.heap.size ∧ (∀ k (h : k < xs.length), xs[k].1.size ≤ maxLen) ∧ (0 < n → ∃ g off cs, A = some ⟨g, off, none⟩ ∧ B ≤ g ∧ g < U ∧ Blk w g 54 cs ∧
    ∀ k (h : k < xs.length), cs[off + k * 3]? = some (.string xs[k].1) ∧ cs[off + k * 3 + 1]? = some (.int .i64 xs[k].2.1) ∧ cs[off + k * 3 + 2]? = some (.int .i64 xs[k].2.2))
theorem RowR.rd {w : World} {B U : Nat} {A : Option Addr} {n c : Nat} {xs : LR} (h : RowR w B U A n c xs) : RdR w A n xs :=
  ⟨h.1, h.2.2.2.1, fun hn => by
    obtain ⟨g, off, cs, e, _, hg, hb, hcell⟩ := h.2.2.2.2 hn
    refine ⟨g, off, e, Nat.lt_of_lt_of_le hg h.2.2.1, fun k hk => ?_⟩
    rw [hb.cell, hb.cell, hb.cell]
    exact hcell k hk⟩
theorem RowR.below {w w' : World} {B U : Nat} {A : Option Addr} {n c : Nat} {xs : LR} (h : RowR w B U A n c xs) (hb : Below w.heap.size w w') : RowR w' B U A n c xs :=
  ⟨h.1, h.2.1, Nat.le_trans h.2.2.1 hb.size, h.2.2.2.1, fun hn => by
    obtain ⟨g, off, cs, e, h1, hg, hk, hcell⟩ := h.2.2.2.2 hn
    exact ⟨g, off, cs, e, h1, hg, hk.below hb hk.lt, hcell⟩⟩
theorem RowR.chg {w w' : World} {B U B' U' : Nat} {A : Option Addr} {n c : Nat} {xs : LR} (h : RowR w B U A n c xs) (hc : Sets.Chg B' U' w w') (hd : U ≤ B' ∨ U' ≤ B) : RowR w' B U A n c xs :=
  ⟨h.1, h.2.1, Nat.le_trans h.2.2.1 hc.size, h.2.2.2.1, fun hn => by
    obtain ⟨g, off, cs, e, h1, hg, hk, hcell⟩ := h.2.2.2.2 hn
    exact ⟨g, off, cs, e, h1, hg, (hc.block g hk.lt (by omega)).trans hk, hcell⟩⟩

set_option maxHeartbeats 2000000 in
/-- The count of what a list of reigns holds: a number from 0 on tells that the list is not long. -/
theorem laws_szReignS (A : Option Addr) (n c : Nat) (xs : LR) (hn : n ≤ maxLen) (w : World) (h : RdR w A n xs) :
    Calls Tryd.prog 10 #[.slice A n c, .int .i64 1048576] w fun e w' => ∃ r : Int, e = .returned (.int .i64 r) ∧ (0 ≤ r → n ≤ 1048576) ∧ Below w.heap.size w w' := by
  unfold maxLen at hn
  by_cases hbig : (1048576 : Int) - (n : Int) < 0
  · go_enter Tryd.func10, Tryd.ntmps10
    go_wp2_with fail
    go_ret
    exact ⟨-1, rfl, fun k => absurd k (by omega), Below.refl _ _⟩
  · have hle : n ≤ 1048576 := by omega
    go_enter Tryd.func10, Tryd.ntmps10
    go_wp2_with fail
    go_loopg [1, 5] n (fun m v i wr => ∃ (k : Nat) (l : Int), i = .int .i64 k ∧ v = .int .i64 l ∧ 0 ≤ l ∧ l ≤ 1048576 ∧ m = n - k ∧ k ≤ n ∧ Below w.heap.size w wr)
    case atStart => exact ⟨0, _, rfl, rfl, by omega, by omega, by omega, by omega, Below.refl _ _⟩
    case round =>
      obtain ⟨k, l, rfl, rfl, l0, l1, hm, hk, hb⟩ := hrel
      subst hm
      by_cases hlt : k < n
      · obtain ⟨g, off, hl, rfl, hs, hg, c0, c1, c2⟩ := (h.below hb).at_ hlt
        obtain ⟨r, hr⟩ : ∃ r : Int, (if l - (xs[k].1.size : Int) < 0 then (-1 : Int) else l - (xs[k].1.size : Int)) = r := ⟨_, rfl⟩
        have Z := Lib.hid (laws_szReign xs[k].1 hs xs[k].2.1 xs[k].2.2 l r l0 l1 hr)
        have hrb : -1 ≤ r ∧ r ≤ 1048576 := by rw [← hr]; split <;> omega
        clear hr hs
        by_cases hneg : r < 0
        · go_wp2_with fail
          refine (Z.out _).mono ?_
          rintro e w2 ⟨rfl, hb2⟩
          go_wp2_with fail
          go_ret
          exact ⟨-1, rfl, fun k => absurd k (by omega), hb.trans (hb2.mono hb.size)⟩
        · go_wp2_with fail
          refine (Z.out _).mono ?_
          rintro e w2 ⟨rfl, hb2⟩
          go_wp2_with fail
          go_roundg (n - (k + 1))
          case measure => omega
          case rel => exact ⟨k + 1, _, by go_num, rfl, by omega, by omega, rfl, by omega, hb.trans (hb2.mono hb.size)⟩
      · go_wp2_with fail
        go_ret
        exact ⟨l, rfl, fun _ => hle, hb⟩

set_option maxHeartbeats 1000000 in
theorem laws_eqReign (s : ByteArray) (f t : Int) (w : World) : Calls Tryd.prog 35 #[rV s f t, rV s f t] w fun e w' => e = .returned (.bool true) ∧ Below w.heap.size w w' := by
  go_enter Tryd.func35, Tryd.ntmps35
  go_wp2_with fail
  go_ret
  exact ⟨rfl, ((Below.refl _ _).alloc (Nat.le_refl _) _).alloc (by simp) _⟩

theorem info_reign : (Tryd.prog.info? 54).map (fun i => (i.zero, i.size, i.bytes)) = some (some (.agg #[.string ⟨#[]⟩, .int .i64 0, .int .i64 0]), 3, 32) := by kernel_rfl
theorem run_make_reigns (n : Nat) (hn : n ≤ 2000000) (w : World) :
    (Instr.makeSlice 32 (.int .i64 (n : Int)) (.int .i64 (n : Int))).run Tryd.prog w = .ok (.slice (some ⟨w.heap.size, 0, none⟩) n n) (w.alloc (.cells (madeCells #[.string ⟨#[]⟩, .int .i64 0, .int .i64 0] (n * 3)) 54)) := by
  obtain ⟨i, hi, hz, h1, h2⟩ := info_parts info_reign
  have h := run_make (P := Tryd.prog) w 32 54 i _ Tryd.underlying32 hi hz .i64 .i64 n n (by omega) (by omega) (by rw [h2]; omega) (by omega)
  rw [h1] at h
  simpa [Value.cells] using h
/-- A row that the call fills: its first k reigns are those of xs. -/
def FillR (w : World) (g k n : Nat) (xs : LR) : Prop :=
  ∃ cs : Array Value, cs.size = n * 3 ∧ Blk w g 54 cs ∧ ∀ j (h : j < xs.length), j < k → cs[j * 3]? = some (.string xs[j].1) ∧ cs[j * 3 + 1]? = some (.int .i64 xs[j].2.1) ∧ cs[j * 3 + 2]? = some (.int .i64 xs[j].2.2)
theorem FillR.row {w : World} {B g n c : Nat} {xs : LR} (h : FillR w g xs.length n xs) (hs : ∀ k (h : k < xs.length), xs[k].1.size ≤ maxLen) (hn : xs.length ≤ c) (hB : B ≤ g) : RowR w B w.heap.size (some ⟨g, 0, none⟩) xs.length c xs :=
  ⟨rfl, hn, Nat.le_refl _, hs, fun _ => by
    obtain ⟨cs, hs, hb, hc⟩ := h
    refine ⟨g, 0, cs, rfl, hB, hb.lt, hb, fun k hk => ?_⟩
    simpa using hc k hk hk⟩
theorem FillR.step {w : World} {g k n : Nat} {xs : LR} (h : FillR w g k n xs) (hk : k < xs.length) (hn : k < n) :
    FillR (((w.setCell ⟨g, k * 3, none⟩ (.string xs[k].1)).setCell ⟨g, k * 3 + 1, none⟩ (.int .i64 xs[k].2.1)).setCell ⟨g, k * 3 + 2, none⟩ (.int .i64 xs[k].2.2)) g (k + 1) n xs := by
  obtain ⟨cs, hs, hb, hc⟩ := h
  refine ⟨_, ?_, ((hb.set_ (k * 3) _).set_ (k * 3 + 1) _).set_ (k * 3 + 2) _, fun j hj hjk => ?_⟩
  · simpa using hs
  · by_cases e : j = k
    · subst e
      refine ⟨?_, ?_, ?_⟩
      · rw [Array.getElem?_setIfInBounds_ne (by omega), Array.getElem?_setIfInBounds_ne (by omega), Array.getElem?_setIfInBounds_self_of_lt (by omega)]
      · rw [Array.getElem?_setIfInBounds_ne (by omega), Array.getElem?_setIfInBounds_self_of_lt (by simp; omega)]
      · rw [Array.getElem?_setIfInBounds_self_of_lt (by simp; omega)]
    · have z := hc j hj (by omega)
      refine ⟨?_, ?_, ?_⟩
      · rw [Array.getElem?_setIfInBounds_ne (by omega), Array.getElem?_setIfInBounds_ne (by omega), Array.getElem?_setIfInBounds_ne (by omega)]; exact z.1
      · rw [Array.getElem?_setIfInBounds_ne (by omega), Array.getElem?_setIfInBounds_ne (by omega), Array.getElem?_setIfInBounds_ne (by omega)]; exact z.2.1
      · rw [Array.getElem?_setIfInBounds_ne (by omega), Array.getElem?_setIfInBounds_ne (by omega), Array.getElem?_setIfInBounds_ne (by omega)]; exact z.2.2
theorem FillR.cells {w : World} {g k n : Nat} {xs : LR} (h : FillR w g k n xs) {j : Nat} (hj : j < n) :
    (∃ u, w.cell? ⟨g, j * 3, none⟩ = some u) ∧ (∃ u, w.cell? ⟨g, j * 3 + 1, none⟩ = some u) ∧ (∃ u, w.cell? ⟨g, j * 3 + 2, none⟩ = some u) ∧ w.frozen? ⟨g, j * 3, none⟩ = false ∧ w.frozen? ⟨g, j * 3 + 1, none⟩ = false ∧ w.frozen? ⟨g, j * 3 + 2, none⟩ = false := by
  obtain ⟨cs, hs, hb, hc⟩ := h
  exact ⟨⟨_, (hb.cell _).trans (Array.getElem?_eq_getElem (by omega))⟩, ⟨_, (hb.cell _).trans (Array.getElem?_eq_getElem (by omega))⟩, ⟨_, (hb.cell _).trans (Array.getElem?_eq_getElem (by omega))⟩, hb.frozen _, hb.frozen _, hb.frozen _⟩
theorem FillR.below {w w' : World} {g k n : Nat} {xs : LR} (h : FillR w g k n xs) (hb : Below w.heap.size w w') : FillR w' g k n xs := by
  obtain ⟨cs, hs, hk, hc⟩ := h
  exact ⟨cs, hs, hk.below hb hk.lt, hc⟩

set_option maxHeartbeats 400000 in
set_option maxRecDepth 10000 in
theorem laws_toReignS (A : Option Addr) (n c : Nat) (xs : LR) (hn : n ≤ 2000000) (w : World) (h : RdR w A n xs) :
    Calls Tryd.prog 12 #[.slice A n c] w fun e w' => ∃ A' : Option Addr, e = .returned (.slice A' n n) ∧ RowR w' w.heap.size w'.heap.size A' n n xs ∧ Below w.heap.size w w' := by
  have hmk := run_make_reigns n hn
  go_enter Tryd.func12, Tryd.ntmps12
  go_wp2_with fail
  clear hmk
  go_loopg [4] n (fun m i wr => ∃ k : Nat, k ≤ n ∧ m = n - k ∧ i = .int .i64 k ∧ Below w.heap.size w wr ∧ FillR wr w.heap.size k n xs)
  case atStart => exact ⟨0, by omega, by omega, rfl, (Below.refl _ _).alloc (Nat.le_refl _) _, _, size_madeCells _ _, Blk.new _ _ _, fun j _ h => absurd h (by omega)⟩
  case round =>
    obtain ⟨k, hk, hm, rfl, hb, hf⟩ := hrel
    subst hm
    by_cases hlt : k < n
    · obtain ⟨g, off, hl, rfl, hs, hg, c0, c1, c2⟩ := (h.below hb).at_ hlt
      go_wp2_with fail
      refine (laws_toReign _ _ _ _).mono ?_
      rintro e w2 ⟨rfl, hb2⟩
      have hf2 := hf.below hb2
      obtain ⟨⟨u, d0⟩, ⟨u', d1⟩, ⟨u'', d2⟩, f0, f1, f2⟩ := hf2.cells hlt
      have HF := Lib.hid (hf2.step hl hlt)
      clear h hf hf2
      go_wp2_with fail
      go_roundg (n - (k + 1))
      case measure => omega
      case rel => exact ⟨k + 1, by omega, by omega, by go_num, (((hb.trans (hb2.mono hb.size)).setCell (Nat.le_refl _) _).setCell (Nat.le_refl _) _).setCell (Nat.le_refl _) _, HF.out⟩
    · have e : k = n := by omega
      subst e
      have hl := h.1
      subst hl
      have hs := Lib.hid h.2.1
      go_wp2_with fail
      go_ret
      exact ⟨_, rfl, hf.row hs.out (Nat.le_refl _) (Nat.le_refl _), hb⟩

set_option maxHeartbeats 1000000 in
set_option maxRecDepth 10000 in
theorem laws_eqReignS (A A' : Option Addr) (n c c' : Nat) (xs : LR) (hn : n ≤ 2000000) (w : World) (h : RdR w A n xs) (h' : RdR w A' n xs) :
    Calls Tryd.prog 14 #[.slice A n c, .slice A' n c'] w fun e w' => e = .returned (.bool true) ∧ Below w.heap.size w w' := by
  go_enter Tryd.func14, Tryd.ntmps14
  go_wp2_with fail
  go_loopg [5] n (fun m i wr => ∃ k : Nat, k ≤ n ∧ m = n - k ∧ i = .int .i64 k ∧ Below w.heap.size w wr)
  case atStart => exact ⟨0, by omega, by omega, rfl, Below.refl _ _⟩
  case round =>
    obtain ⟨k, hk, hm, rfl, hb⟩ := hrel
    subst hm
    by_cases hlt : k < n
    · obtain ⟨g, off, hl, rfl, hs, hg, c0, c1, c2⟩ := (h.below hb).at_ hlt
      obtain ⟨g', off', hl', rfl, -, hg', c0', c1', c2'⟩ := (h'.below hb).at_ hlt
      go_wp2_with fail
      refine wp_region_still_tail 8 (by kernel_rfl) (by kernel_rfl) ?_
      change wpStill _ _ (wr.drew) (fun a => wpList _ _ _ _ a (wr.drew)) _ _
      have hb2 : Below w.heap.size w (wr.drew) := hb.drew
      have hz : (wr.drew).cell? = wr.cell? := rfl
      rw [← hz] at c0 c1 c2 c0' c1' c2'
      clear hb hz h h' hg hg' hs
      generalize wr.drew = w2 at hb2 c0 c1 c2 c0' c1' c2' ⊢
      simp only [List.take_succ_cons, List.take_zero, List.drop_succ_cons, List.drop_zero]
      iterate 8 still_step
      refine wpStill_nil ?_
      go_wp2_with fail
      refine (laws_eqReign _ _ _ _).mono ?_
      rintro e w3 ⟨rfl, hb3⟩
      go_wp2_with fail
      go_roundg (n - (k + 1))
      case measure => omega
      case rel => exact ⟨k + 1, by omega, by omega, by go_num, hb2.trans (hb3.mono hb2.size)⟩
    · go_wp2_with fail
      go_ret
      exact ⟨rfl, hb⟩

end Go.Proofs.YtfhcakpmlppbkaaDoor.Rei
