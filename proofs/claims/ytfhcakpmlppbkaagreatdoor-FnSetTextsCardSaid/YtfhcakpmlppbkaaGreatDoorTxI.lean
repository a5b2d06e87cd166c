/- Contracts of impl's texts of spans and sets, over the library's decimal texts of numbers and strings.Join. -/
import Derived.Test.YtfhcakpmlppbkaaGreatDoorShelf
import Derived.Test.YtfhcakpmlppbkaaGreatDoorTxT
import Derived.Lib.AppendIntMem
import Derived.Lib.LaidTab
namespace Go.Proofs.YtfhcakpmlppbkaaGreatDoor.Sets
open Go.RowKit

/-- The library's table of powers of ten reads as the program's text lays it. -/
def Tabs (w : World) : Prop := Lib.TabIs Tryz.prog w "internal/strconv.uint64pow10" .u64 Lib.pow10Tab
theorem Tabs.below {W w : World} (h : Tabs W) (hb : Below W.heap.size W w) : Tabs w := by
  unfold Tabs Lib.TabIs at h ⊢
  obtain ⟨g, hg⟩ : ∃ g, Tryz.prog.globalNamed "internal/strconv.uint64pow10" = some g := by
    cases hg : Tryz.prog.globalNamed "internal/strconv.uint64pow10" with
    | none => unfold World.var? at h; rw [hg] at h; cases h
    | some g => exact ⟨g, rfl⟩
  refine var?_below hb hg ?_ h
  rcases Nat.lt_or_ge g W.heap.size with hl | hl
  · exact hl
  · exfalso
    unfold World.var? at h
    rw [hg] at h
    simp [Array.getElem?_eq_none hl] at h

theorem itoa_dec (n : Int) (h0 : 0 ≤ n) (h1 : n < 1000000000) : Lib.itoa n = Txt.dec n := by
  obtain ⟨u, rfl⟩ := Int.eq_ofNat_of_zero_le h0
  rw [Lib.itoa_nonneg]
  have key : ∀ (k u : Nat), u < 10 ^ k → Txt.decF (k + 1) (u : Int) = Lib.decDigits u := by
    intro k
    induction k with
    | zero =>
      intro u hu
      obtain rfl : u = 0 := by simpa using hu
      rw [Lib.decDigits]
      rfl
    | succ k ih =>
      intro u hu
      have e : Txt.dg (u : Int) = UInt8.ofNat (48 + u % 10) := by
        unfold Txt.dg
        congr 1
      rw [Lib.decDigits]
      by_cases h : u < 10
      · rw [dif_pos h]
        have hi : (u : Int) < 10 := by omega
        rw [Txt.decF, if_pos hi, e, Nat.mod_eq_of_lt h]
      · rw [dif_neg h]
        have hi : ¬ (u : Int) < 10 := by omega
        rw [Txt.decF, if_neg hi, e]
        have hq : (u : Int) / 10 = ((u / 10 : Nat) : Int) := by omega
        rw [hq, ih (u / 10) (by rw [Nat.pow_succ] at hu; omega)]
  exact (key 18 u (by omega)).symm

theorem go_FormatInt (n : Int) (h0 : 0 ≤ n) (h1 : n < 1000000000) (w : World) (ht : Tabs w) : Calls Tryz.prog 67 #[.int .i64 n, .int .i64 10] w (Tx (Txt.dec n) w) := by
  refine (Tryz.strconv_FormatInt_10 n (by omega) (by omega) w ht).mono ?_
  rintro e w1 ⟨rfl, k, os, rfl⟩
  rw [itoa_dec n h0 h1]
  exact ⟨rfl, Lib.below_grow _ _ (Nat.le_refl _) _ _⟩

set_option maxHeartbeats 1000000 in
theorem impl_text (f t : Int) (h0 : 0 ≤ f) (h1 : f ≤ t) (h2 : t ≤ 730499) (w : World) (ht : Tabs w) :
    Calls Tryz.prog 36 #[.agg #[.int .i64 f, .int .i64 t]] w (Tx (wd (f, t)) w) := by
  have C1 := Lib.hid (fun wx (k : Tabs wx) => go_FormatInt f h0 (by omega) wx k)
  have C2 := Lib.hid (fun wx (k : Tabs wx) => go_FormatInt t (by omega) (by omega) wx k)
  have HT := Lib.hid ht
  clear ht
  have sz1 : (str (Txt.dec f)).size ≤ 19 := by rw [str_size]; exact Txt.dec_length _
  have sz2 : (str (Txt.dec t)).size ≤ 19 := by rw [str_size]; exact Txt.dec_length _
  have sz3 : (str (Txt.dec f) ++ (⟨#[46, 46]⟩ : ByteArray)).size ≤ 21 := by
    rw [show (⟨#[46, 46]⟩ : ByteArray) = str [46, 46] from rfl, str_add, str_size]
    have := Txt.dec_length f
    simp
    omega
  by_cases he : f = t
  · subst he
    have E := Lib.hid (show Txt.dec f = wd (f, f) by unfold wd; rw [if_neg (by simp)])
    go_enter Tryz.func36, Tryz.ntmps36
    have S := (St.start w).alloc 36 #[.int .i64 f, .int .i64 f]
    go_wp2_with fail
    refine (C1.out _ (HT.out.below S.bel)).mono ?_
    rintro e w1 ⟨rfl, hb1⟩
    have S := S.call hb1
    have c0 : w1.cell? ⟨w.heap.size, 0, none⟩ = some (.int .i64 f) := S.b0.cell 0
    have c1 : w1.cell? ⟨w.heap.size, 1, none⟩ = some (.int .i64 f) := S.b0.cell 1
    go_wp2_with fail
    go_ret
    exact ⟨congrArg (fun l => Ending.returned (.string (str l))) E.out, S.bel⟩
  · have hlt : f < t := by omega
    have E := Lib.hid (show str (Txt.dec f) ++ (⟨#[46, 46]⟩ : ByteArray) ++ str (Txt.dec t) = str (wd (f, t)) by
      rw [show (⟨#[46, 46]⟩ : ByteArray) = str [46, 46] from rfl, str_add, str_add]
      unfold wd
      rw [if_pos hlt])
    have hd : (f == t) = false := by simpa using he
    clear he
    go_enter Tryz.func36, Tryz.ntmps36
    have S := (St.start w).alloc 36 #[.int .i64 f, .int .i64 t]
    go_wp2_with fail
    refine (C1.out _ (HT.out.below S.bel)).mono ?_
    rintro e w1 ⟨rfl, hb1⟩
    have S := S.call hb1
    have c0 : w1.cell? ⟨w.heap.size, 0, none⟩ = some (.int .i64 f) := S.b0.cell 0
    have c1 : w1.cell? ⟨w.heap.size, 1, none⟩ = some (.int .i64 t) := S.b0.cell 1
    go_wp2_with fail
    refine (C2.out _ (HT.out.below S.bel)).mono ?_
    rintro e w2 ⟨rfl, hb2⟩
    have S := S.call hb2
    go_wp2_with fail
    go_ret
    exact ⟨congrArg (fun b => Ending.returned (.string b)) E.out, S.bel⟩

theorem run_make_strs (n : Nat) (hn : n ≤ 2000000) (w : World) :
    (Instr.makeSlice 57 (.int .i64 (n : Int)) (.int .i64 (n : Int))).run Tryz.prog w = .ok (.slice (some ⟨w.heap.size, 0, none⟩) n n) (w.alloc (.cells (madeCells #[.string ByteArray.empty] n) 9)) := by
  obtain ⟨i, hi, hz, h1, h2⟩ := info_parts info_str
  have h := run_make (P := Tryz.prog) w 57 9 i _ Tryz.underlying57 hi hz .i64 .i64 n n (by omega) (by omega) (by rw [h2]; omega) (by omega)
  rw [h1] at h
  simpa [Value.cells] using h

/-- A row that the call fills: its first k texts are those of xs. -/
def FillT (w : World) (g k n : Nat) (xs : L) : Prop :=
  ∃ cs : Array Value, cs.size = n ∧ Blk w g 9 cs ∧ ∀ j (h : j < xs.length), j < k → cs[j]? = some (.string (str (wd xs[j])))
theorem FillT.step {w : World} {g k n : Nat} {xs : L} (h : FillT w g k n xs) (hk : k < xs.length) (hn : k < n) :
    FillT (w.setCell ⟨g, k, none⟩ (.string (str (wd xs[k])))) g (k + 1) n xs := by
  obtain ⟨cs, hs, hb, hc⟩ := h
  refine ⟨_, ?_, hb.set_ k _, fun j hj hjk => ?_⟩
  · simpa using hs
  · by_cases e : j = k
    · subst e
      rw [Array.getElem?_setIfInBounds_self_of_lt (by omega)]
    · rw [Array.getElem?_setIfInBounds_ne (by omega)]
      exact hc j hj (by omega)
theorem FillT.cells {w : World} {g k n : Nat} {xs : L} (h : FillT w g k n xs) {j : Nat} (hj : j < n) : (∃ u, w.cell? ⟨g, j, none⟩ = some u) ∧ w.frozen? ⟨g, j, none⟩ = false := by
  obtain ⟨cs, hs, hb, hc⟩ := h
  exact ⟨⟨_, (hb.cell _).trans (Array.getElem?_eq_getElem (by omega))⟩, hb.frozen _⟩
theorem FillT.below {w w' : World} {g k n : Nat} {xs : L} (h : FillT w g k n xs) (hb : Below w.heap.size w w') : FillT w' g k n xs := by
  obtain ⟨cs, hs, hk, hc⟩ := h
  exact ⟨cs, hs, hk.below hb hk.lt, hc⟩
theorem FillT.lt {w : World} {g k n : Nat} {xs : L} (h : FillT w g k n xs) : g < w.heap.size := by
  obtain ⟨cs, hs, hk, hc⟩ := h
  exact hk.lt

set_option maxHeartbeats 2000000 in
set_option maxRecDepth 10000 in
theorem impl_SetText_yes (A : Option Addr) (n c : Nat) (xs : L) (hn : n ≤ maxLen) (hs : setB xs = true) (hn0 : 0 < n) (w : World) (h : Rd w A n xs) (ht : Tabs w) :
    Calls Tryz.prog 7 #[.slice A n c] w (TxO (txt xs) 0 w) := by
  have C1 := Lib.hid (impl_IsSet A n c xs hn w h)
  rw [hs] at C1
  obtain ⟨h3, hok⟩ := setB_t hs
  have hl0 := h.1
  have HT := Lib.hid ht
  have HO := Lib.hid hok
  clear hs ht hok
  have hmk := run_make_strs n (by omega)
  have hne : ((n : Int) == 0) = false := by rw [beq_eq_false_iff_ne]; omega
  go_enter Tryz.func7, Tryz.ntmps7
  go_wp2_with fail
  refine C1.out.mono ?_
  rintro e w1 ⟨rfl, hb1⟩
  have h1 := h.below hb1
  go_wp2_with fail
  have hF : FillT (w1.alloc (.cells (madeCells #[.string ByteArray.empty] n) 9)) w1.heap.size 0 n xs := ⟨_, by rw [size_madeCells], Blk.new _ _ _, fun j _ h => absurd h (by omega)⟩
  have hB : Below w.heap.size w (w1.alloc (.cells (madeCells #[.string ByteArray.empty] n) 9)) := hb1.alloc hb1.size _
  have hD := hb1.size
  clear hmk
  generalize w1.heap.size = D at hF hD ⊢
  go_loopg [18] n (fun m i wr => ∃ k : Nat, k ≤ n ∧ m = n - k ∧ i = .int .i64 k ∧ Below w.heap.size w wr ∧ FillT wr D k n xs)
  case atStart => exact ⟨0, by omega, by omega, rfl, hB, hF⟩
  case round =>
    obtain ⟨k, hk, hm, rfl, hb, hf⟩ := hrel
    subst hm
    by_cases hlt : k < n
    · obtain ⟨g, off, hl, rfl, hg, c0, c1⟩ := (h.below hb).at_ hlt
      have okk : ok xs[k] := HO.out _ (List.getElem_mem hl)
      obtain ⟨o0, o1, o2⟩ := okk
      have hfl := hf.lt
      have hf1 := hf.below ((Below.refl wr.heap.size wr).alloc (Nat.le_refl _) (.cells #[.int .i64 xs[k].1, .int .i64 xs[k].2] 36))
      have hbA : Below w.heap.size w (wr.alloc (.cells #[.int .i64 xs[k].1, .int .i64 xs[k].2] 36)) := hb.alloc hb.size _
      go_wp2_with fail
      refine (impl_text xs[k].1 xs[k].2 o0 (by omega) (by omega) _ (HT.out.below hbA)).mono ?_
      rintro e w2 ⟨rfl, hb2⟩
      have hf2 := hf1.below hb2
      obtain ⟨⟨u, d0⟩, f0⟩ := hf2.cells hlt
      have HF := Lib.hid (hf2.step hl hlt)
      have hb3 := below_on hbA hb2
      clear hf hf1 hf2 hB hF hb hbA h1 h
      go_wp2_with fail
      go_roundg (n - (k + 1))
      case measure => omega
      case rel => exact ⟨k + 1, by omega, by omega, by go_num, hb3.setCell hD _, HF.out⟩
    · have e : k = n := by omega
      subst e
      obtain ⟨cs, hs, hk2, hc⟩ := hf
      have hx : (xs.map fun s => str (wd s)).length = k := by simp [hl0]
      have hj : Lib.join ((xs.map fun s => str (wd s)).map (·.data.toList)) (⟨#[44]⟩ : ByteArray).data.toList = txt xs := by
        have hne : xs ≠ [] := fun e => by rw [e] at hl0; simp at hl0; omega
        have e1 : (xs.map fun s => str (wd s)).map (·.data.toList) = xs.map wd := by
          rw [List.map_map]
          rfl
        rw [e1]
        exact (if_neg hne).symm
      have hlen : (txt xs).length ≤ 140737488355328 := by
        have hne : xs ≠ [] := fun e => by rw [e] at hl0; simp at hl0; omega
        have e2 : txt xs = J (xs.map wd) (xs.map wd).length := by rw [J_all]; exact if_neg hne
        have := J_len (ps := xs.map wd) (by
          intro p hp
          obtain ⟨s, _, rfl⟩ := List.mem_map.1 hp
          exact wd_len s) (xs.map wd).length (Nat.le_refl _)
        rw [e2]
        simp at this ⊢
        omega
      have CJ := Tryz.strings_Join D 0 k (xs.map fun s => str (wd s)) ⟨#[44]⟩ wr (by
        intro j x hx2
        have hjl : j < xs.length := by
          rcases Nat.lt_or_ge j xs.length with h | h
          · exact h
          · rw [List.getElem?_eq_none (by simpa using h)] at hx2; cases hx2
        rw [Nat.zero_add, hk2.cell, hc j hjl (by omega)]
        simp [List.getElem?_eq_getElem hjl] at hx2
        rw [hx2]) hk2.lt (by omega) (by omega) (by rw [hj]; exact hlen)
      rw [hj, hx] at CJ
      have CJ := Lib.hid CJ
      clear hj hlen hc hk2 hs
      go_wp2_with fail
      refine CJ.out.mono ?_
      rintro e w2 ⟨rfl, hb2⟩
      have hfin := below_on hb hb2
      go_wp2_with fail
      go_ret2
      exact ⟨rfl, hfin⟩

set_option maxHeartbeats 1000000 in
theorem impl_SetText (A : Option Addr) (n c : Nat) (xs : L) (hn : n ≤ maxLen) (w : World) (h : Rd w A n xs) (ht : Tabs w) :
    Calls Tryz.prog 7 #[.slice A n c] w (TxO (txtV xs) (txtE xs) w) := by
  have hl0 := h.1
  by_cases hs : setB xs = true
  · have e1 : txt xs = txtV xs := (if_pos hs).symm
    have e2 : 0 = txtE xs := (if_pos hs).symm
    by_cases hz : 0 < n
    · exact (impl_SetText_yes A n c xs hn hs hz w h ht).mono fun e w' k => txo_eq k e1 e2
    · have hx : xs = [] := List.eq_nil_of_length_eq_zero (by omega)
      have hn0 : n = 0 := by omega
      subst hx hn0
      have C1 := Lib.hid (impl_IsSet A 0 c [] hn w h)
      rw [hs] at C1
      have E := Lib.hid (show [45] = txtV [] ∧ 0 = txtE [] from ⟨by rw [← e1]; rfl, e2⟩)
      clear e1 e2 hs
      go_enter Tryz.func7, Tryz.ntmps7
      go_wp2_with fail
      refine C1.out.mono ?_
      rintro e w1 ⟨rfl, hb1⟩
      go_wp2_with fail
      go_ret2
      exact ⟨by rw [← E.out.1, ← E.out.2]; rfl, hb1⟩
  · have hb' : setB xs = false := by simpa using hs
    have E := Lib.hid (show [] = txtV xs ∧ 1 = txtE xs from ⟨(if_neg hs).symm, (if_neg hs).symm⟩)
    have C1 := Lib.hid (impl_IsSet A n c xs hn w h)
    rw [hb'] at C1
    clear hs hb'
    go_enter Tryz.func7, Tryz.ntmps7
    go_wp2_with fail
    refine C1.out.mono ?_
    rintro e w1 ⟨rfl, hb1⟩
    go_wp2_with fail
    go_ret2
    exact ⟨by rw [← E.out.1, ← E.out.2]; rfl, hb1⟩

end Go.Proofs.YtfhcakpmlppbkaaGreatDoor.Sets
