/- Texts of a claim in one file: ReiIr SetH. -/
import Derived.Test.YtfhcakpmlppbkaaGreatDoorGrpBe
import Derived.Test.YtfhcakpmlppbkaaGreatDoorGrpBf
import Derived.Test.YtfhcakpmlppbkaaGreatDoorGrpBh
import Derived.Test.YtfhcakpmlppbkaaGreatDoorGrpBi
import Derived.Test.YtfhcakpmlppbkaaGreatDoorGrpAn
import Derived.Test.YtfhcakpmlppbkaaGreatDoorGrpAy
namespace Go.Proofs.YtfhcakpmlppbkaaGreatDoor.Rei
open Go.RowKit
open Go.Proofs.YtfhcakpmlppbkaaGreatDoor.Ints (Own)
open Go.Proofs.YtfhcakpmlppbkaaGreatDoor.Sets (cell_keep below_on Tabs go_FormatInt run_make_strs)
open Go.Proofs.YtfhcakpmlppbkaaGreatDoor.Fea (isDay)

/-- A row that the call fills: its first k texts are those of ts. -/
def FillU (w : World) (g k n : Nat) (ts : List (List UInt8)) : Prop :=
  ∃ cs : Array Value, cs.size = n ∧ Blk w g 9 cs ∧ ∀ j (h : j < ts.length), j < k → cs[j]? = some (.string (str ts[j]))
theorem FillU.step {w : World} {g k n : Nat} {ts : List (List UInt8)} (h : FillU w g k n ts) (hk : k < ts.length) (hn : k < n) :
    FillU (w.setCell ⟨g, k, none⟩ (.string (str ts[k]))) g (k + 1) n ts := by
  obtain ⟨cs, hs, hb, hc⟩ := h
  refine ⟨_, ?_, hb.set_ k _, fun j hj hjk => ?_⟩
  · simpa using hs
  · by_cases e : j = k
    · subst e
      rw [Array.getElem?_setIfInBounds_self_of_lt (by omega)]
    · rw [Array.getElem?_setIfInBounds_ne (by omega)]
      exact hc j hj (by omega)
theorem FillU.cells {w : World} {g k n : Nat} {ts : List (List UInt8)} (h : FillU w g k n ts) {j : Nat} (hj : j < n) : (∃ u, w.cell? ⟨g, j, none⟩ = some u) ∧ w.frozen? ⟨g, j, none⟩ = false := by
  obtain ⟨cs, hs, hb, hc⟩ := h
  exact ⟨⟨_, (hb.cell _).trans (Array.getElem?_eq_getElem (by omega))⟩, hb.frozen _⟩
theorem FillU.below {w w' : World} {g k n : Nat} {ts : List (List UInt8)} (h : FillU w g k n ts) (hb : Below w.heap.size w w') : FillU w' g k n ts := by
  obtain ⟨cs, hs, hk, hc⟩ := h
  exact ⟨cs, hs, hk.below hb hk.lt, hc⟩
theorem FillU.lt {w : World} {g k n : Nat} {ts : List (List UInt8)} (h : FillU w g k n ts) : g < w.heap.size := by
  obtain ⟨cs, hs, hk, hc⟩ := h
  exact hk.lt

set_option maxRecDepth 100000 in
set_option maxHeartbeats 4000000 in
theorem impl_RegnalText_yes (A : Option Addr) (N c : Nat) (xs : LR) (n : Int) (ha : arOk xs) (hd : isDay n) (w : World) (h : RdR w A N xs) (ht : Tabs w) :
    Calls Tryz.prog 25 #[.slice A N c, .int .i64 n] w (TxE (rgT xs n) 0 w) := by
  have hlen := h.1
  have C := Lib.hid (impl_ReignsOn_yes A N c xs n ha hd w h)
  obtain ⟨d0, d1⟩ := hd
  have HL := Lib.hid (show (ons xs n N).length ≤ 30 from Nat.le_trans (ons_len xs n N) (by have := ha.2.2; omega))
  have HM := Lib.hid (fun x hx => ons_mem (xs := xs) (n := n) (N := N) (x := x) hx)
  have HR := Lib.hid (fun k hk => ha.1 k hk)
  have HT := Lib.hid (show rgT xs n = if ons xs n N = [] then [45] else Lib.join ((ons xs n N).map (rgi xs n)) [44] by unfold rgT; rw [hlen])
  have H := Lib.hid h
  have HN := Lib.hid hlen
  have HTB := Lib.hid ht
  clear ha h hlen ht
  generalize ons xs n N = on at *
  have hlo := HL.out
  have hmk := run_make_strs on.length (by omega)
  obtain ⟨ts, hts⟩ : ∃ ts, on.map (rgi xs n) = ts := ⟨_, rfl⟩
  have HTL := Lib.hid (show ts.length = on.length by rw [← hts, List.length_map])
  have HTA := Lib.hid (fun k (q : k < ts.length) (q2 : k < on.length) => (show ts[k] = rgi xs n on[k] by subst hts; simp))
  have HT2 := Lib.hid (show ¬ on = [] → rgT xs n = Lib.join ts [44] from fun q => by rw [HT.out, if_neg q, hts])
  have HT1 := Lib.hid (show on = [] → rgT xs n = [45] from fun q => by rw [HT.out, if_pos q])
  have H40 : Hid (∀ p ∈ ts, p.length ≤ 40) := Lib.hid (by
    rw [← hts]
    intro p hp
    obtain ⟨x, hx, rfl⟩ := List.mem_map.1 hp
    obtain ⟨j, hj, rfl, -, -⟩ := HM.out x hx
    rw [rgi_at hj]
    exact rgw_len n (by have := (HR.out j hj).1.2.2; omega))
  clear hts HT
  go_enter Tryz.func25, Tryz.ntmps25
  go_wp2_with fail
  refine C.out.mono ?_
  rintro e w1 ⟨OA, oc, rfl, hrow, hb1⟩
  have hrd := hrow.rd
  have H1 := Lib.hid (H.out.below hb1)
  have T1 := Lib.hid (HTB.out.below hb1)
  clear C hrow H HTB
  by_cases hz : on = []
  · have E := Lib.hid (HT1.out hz)
    have hd : ((on.length : Int) == 0) = true := by rw [hz]; rfl
    clear hz HT1 HT2 hmk
    go_wp2_with fail
    go_ret2
    exact ⟨txe_ret E.out.symm, hb1⟩
  have E := Lib.hid (HT2.out hz)
  have hd : ((on.length : Int) == 0) = false := by simpa using hz
  clear hz HT1 HT2
  have hb2 : Below w1.heap.size w1 (w1.alloc (.cells (madeCells #[.string ByteArray.empty] on.length) 9)) := (Below.refl _ _).alloc (Nat.le_refl _) _
  have HF : FillU (w1.alloc (.cells (madeCells #[.string ByteArray.empty] on.length) 9)) w1.heap.size 0 on.length ts := ⟨_, by rw [size_madeCells], Blk.new _ _ _, fun j _ h => absurd h (by omega)⟩
  go_wp2_with fail
  clear hmk
  go_loopg [29] on.length (fun m i wr => ∃ k : Nat, k ≤ on.length ∧ m = on.length - k ∧ i = .int .i64 k ∧ Below w1.heap.size w1 wr ∧ FillU wr w1.heap.size k on.length ts)
  case atStart => exact ⟨0, by omega, by omega, rfl, hb2, HF⟩
  case round =>
    clear hb2 HF
    obtain ⟨k, hk, hm, rfl, hb, hf⟩ := hrel
    subst hm
    by_cases hlt : k < on.length
    · obtain ⟨g1, off1, hl1, rfl, hg1, e0⟩ := (hrd.below hb).at_ hlt
      obtain ⟨x, hx⟩ : ∃ x, on[k] = x := ⟨_, rfl⟩
      obtain ⟨j, hj, hxj, jin1, jin2⟩ := HM.out x (hx ▸ List.getElem_mem hl1)
      have hjN : j < N := by have := HN.out; omega
      obtain ⟨g2, off2, hl2, rfl, hsz, hg2, c0, c1, c2⟩ := (H1.out.below hb).at_ hjN
      have HO := HR.out j hj
      have hkt : k < ts.length := by have := HTL.out; omega
      have HW := Lib.hid (show rgw xs[j] n = ts[k] by rw [HTA.out k hkt hlt, hx, hxj, rgi_at hj])
      have HS := Lib.hid (rgw_str xs[j] n)
      have HG := Lib.hid (rgw_len n (r := xs[j]) (by have := HO.1.2.2; omega))
      rw [hx] at e0
      rw [hxj] at e0
      obtain ⟨ho1, ⟨f0, f1⟩, ⟨t0, t1⟩, ho4⟩ := HO
      have sz : xs[j].1.size ≤ 12 := by have := ho1.2.2; omega
      have Y := Lib.hid (impl_yearOn xs[j].1 xs[j].2.1 xs[j].2.2 n f0 jin1 jin2 t1)
      obtain ⟨r1, r2, r3⟩ := ry_bd jin1
      have hyn := yr_le (show n ≤ 730499 from d1)
      have ry1 : ry xs[j].2.1 n < 1000000000 := by have := (Fea.yr_isY xs[j].2.1 f0 f1).1; have := (Fea.yr_isY n d0 d1).2; omega
      have FM := Lib.hid (fun wx (q : Tabs wx) => go_FormatInt (ry xs[j].2.1 n) (by omega) ry1 wx q)
      have sd : (str (Txt.dec (ry xs[j].2.1 n))).size ≤ 19 := by rw [str_size]; exact Txt.dec_length _
      clear hx hxj ho1 t0 t1 ho4 r1 r2 r3 hyn jin1 jin2 ry1
      unfold rV at Y
      generalize ry xs[j].2.1 n = yy at *
      generalize xs[j] = q at *
      obtain ⟨s, f, t⟩ := q
      dsimp only at *
      have n1 : ¬ 9223372036854775807 < (str (Txt.dec yy)).size + 1 := by omega
      have n2 : ¬ 9223372036854775807 < (str (Txt.dec yy)).size + 1 + s.size := by omega
      have hb3 := (hb.alloc hb.size (.cells #[.string s, .int .i64 f, .int .i64 t] 79)).drew
      have BQ := (Blk.new wr 79 #[.string s, .int .i64 f, .int .i64 t]).drew
      have q0 := BQ.cell 0
      have q1 := BQ.cell 1
      have q2 := BQ.cell 2
      simp only [List.getElem?_toArray, List.getElem?_cons_zero, List.getElem?_cons_succ] at q0 q1 q2
      have hne : w1.heap.size ≠ wr.heap.size := by have := hf.lt; omega
      have hf3 : FillU (wr.alloc (.cells #[.string s, .int .i64 f, .int .i64 t] 79)).drew w1.heap.size k on.length ts := hf.below ((Below.refl _ _).alloc (Nat.le_refl _) (.cells #[.string s, .int .i64 f, .int .i64 t] 79)).drew
      clear hf hb BQ
      go_wp2_with fail
      refine wp_region_held_drew (S := (fun w' => w'.cell? ⟨wr.heap.size, 0, none⟩ = some (.string s) ∧ w'.cell? ⟨wr.heap.size, 1, none⟩ = some (.int .i64 f) ∧ w'.cell? ⟨wr.heap.size, 2, none⟩ = some (.int .i64 t))) (by kernel_rfl) ?_ (fun hHeld => ?_)
      · (exact ⟨q0, q1, q2⟩)
      refine wpAnyH_take (i := 0) (oi := ⟨some 38, _, _, _, _, _⟩) (v := _) rfl (by kernel_rfl) (by kernel_rfl) (by kernel_rfl) (fun _ _ _ h => h) (Or.inl ⟨by kernel_rfl, by (intro wS hSw; (try dsimp only at hSw); go_split_ands; go_simp; (try with_reducible rfl))⟩) (by assumption) ?_
      try simp only [Act.put, List.setIfInBounds_toArray, List.set_cons_zero, List.set_cons_succ]
      refine wpAnyH_take (i := 1) (oi := ⟨some 39, _, _, _, _, _⟩) (v := _) rfl (by kernel_rfl) (by kernel_rfl) (by kernel_rfl) (fun _ _ _ h => h) (Or.inl ⟨by kernel_rfl, by (intro wS hSw; (try dsimp only at hSw); go_split_ands; go_simp; (try with_reducible rfl))⟩) (by assumption) ?_
      try simp only [Act.put, List.setIfInBounds_toArray, List.set_cons_zero, List.set_cons_succ]
      refine wpAnyH_take (i := 2) (oi := ⟨some 40, _, _, _, _, _⟩) (v := _) rfl (by kernel_rfl) (by kernel_rfl) (by kernel_rfl) (fun _ _ _ h => h) (Or.inl ⟨by kernel_rfl, by (intro wS hSw; (try dsimp only at hSw); go_split_ands; go_simp; (try with_reducible rfl))⟩) (by assumption) ?_
      try simp only [Act.put, List.setIfInBounds_toArray, List.set_cons_zero, List.set_cons_succ]
      refine wpAnyH_take (i := 3) (oi := ⟨some 41, _, _, _, _, _⟩) (v := _) rfl (by kernel_rfl) (by kernel_rfl) (by kernel_rfl) (fun _ _ _ h => h) (Or.inl ⟨by kernel_rfl, by (intro wS hSw; (try dsimp only at hSw); go_split_ands; go_simp; (try with_reducible rfl))⟩) (by assumption) ?_
      try simp only [Act.put, List.setIfInBounds_toArray, List.set_cons_zero, List.set_cons_succ]
      refine wpAnyH_take (i := 7) (oi := ⟨some 45, _, _, _, _, _⟩) (v := _) rfl (by kernel_rfl) (by kernel_rfl) (by kernel_rfl) (fun _ _ _ h => h) (Or.inl ⟨by kernel_rfl, by (intro wS hSw; (try dsimp only at hSw); go_split_ands; go_simp; (try with_reducible rfl))⟩) (by assumption) ?_
      try simp only [Act.put, List.setIfInBounds_toArray, List.set_cons_zero, List.set_cons_succ]
      refine wpAnyH_take (i := 8) (oi := ⟨some 46, _, _, _, _, _⟩) (v := _) rfl (by kernel_rfl) (by kernel_rfl) (by kernel_rfl) (fun _ _ _ h => h) (Or.inl ⟨by kernel_rfl, by (intro wS hSw; (try dsimp only at hSw); go_split_ands; go_simp; (try with_reducible rfl))⟩) (by assumption) ?_
      try simp only [Act.put, List.setIfInBounds_toArray, List.set_cons_zero, List.set_cons_succ]
      refine wpAnyH_ready (rs := [4]) (by kernel_rfl) (by simp) ?_
      refine AllReadyH.cons (o := ⟨some 42, _, _, _, _, _⟩) rfl (fun K hK => ?_) AllReadyH.nil
      go_simp
      refine (Y.out _).mono ?_
      rintro e w4 ⟨rfl, hb4⟩
      have hb5 := below_on hb3 hb4
      go_wp2_with fail
      refine hK.out _ _ ?_ (fun hHeld => ?_)
      · (have a := hHeld.1; have b := hHeld.2.1; have c := hHeld.2.2; exact ⟨cell_keep hb4 a, cell_keep hb4 b, cell_keep hb4 c⟩)
      clear hK K
      try simp only [Act.put, List.setIfInBounds_toArray, List.set_cons_zero, List.set_cons_succ]
      refine wpAnyH_ready (rs := [5]) (by kernel_rfl) (by simp) ?_
      refine AllReadyH.cons (o := ⟨some 43, _, _, _, _, _⟩) rfl (fun K hK => ?_) AllReadyH.nil
      go_simp
      refine (FM.out _ (T1.out.below hb5)).mono ?_
      rintro e w5 ⟨rfl, hb6⟩
      have hb7 := below_on hb5 hb6
      have hf5 := (hf3.below hb4).below hb6
      obtain ⟨⟨u, p0⟩, z0⟩ := hf5.cells hlt
      have HF := hf5.step hkt hlt
      rw [← HW.out, ← HS.out] at HF
      have HFF := Lib.hid HF
      go_wp2_with fail
      refine hK.out _ _ ?_ (fun hHeld => ?_)
      · (have a := hHeld.1; have b := hHeld.2.1; have c := hHeld.2.2; exact ⟨cell_keep hb6 a, cell_keep hb6 b, cell_keep hb6 c⟩)
      clear hK K
      try simp only [Act.put, List.setIfInBounds_toArray, List.set_cons_zero, List.set_cons_succ]
      refine wpAnyH_take (i := 6) (oi := ⟨some 44, _, _, _, _, _⟩) (v := _) rfl (by kernel_rfl) (by kernel_rfl) (by kernel_rfl) (fun _ _ _ h => h) (Or.inl ⟨by kernel_rfl, by (intro wS hSw; (try dsimp only at hSw); go_split_ands; go_simp; (try with_reducible rfl))⟩) (by assumption) ?_
      try simp only [Act.put, List.setIfInBounds_toArray, List.set_cons_zero, List.set_cons_succ]
      refine wpAnyH_take (i := 9) (oi := ⟨some 47, _, _, _, _, _⟩) (v := _) rfl (by kernel_rfl) (by kernel_rfl) (by kernel_rfl) (fun _ _ _ h => h) (Or.inl ⟨by kernel_rfl, by (intro wS hSw; (try dsimp only at hSw); go_split_ands; go_simp; (try with_reducible rfl))⟩) (by assumption) ?_
      try simp only [Act.put, List.setIfInBounds_toArray, List.set_cons_zero, List.set_cons_succ]
      refine wpAnyH_take (i := 10) (oi := ⟨some 48, _, _, _, _, _⟩) (v := _) rfl (by kernel_rfl) (by kernel_rfl) (by kernel_rfl) (fun _ _ _ h => h) (Or.inl ⟨by kernel_rfl, by (intro wS hSw; (try dsimp only at hSw); go_split_ands; go_simp; (try with_reducible rfl))⟩) (by assumption) ?_
      try simp only [Act.put, List.setIfInBounds_toArray, List.set_cons_zero, List.set_cons_succ]
      refine wpAnyH_ready (rs := [11]) (by kernel_rfl) (by simp) ?_
      refine AllReadyH.cons (o := ⟨none, _, _, _, _, _⟩) rfl (fun K hK => ?_) AllReadyH.nil
      go_simp
      go_wp2_with fail
      refine hK.out _ _ ?_ (fun hHeld => ?_)
      · (have a := hHeld.1; have b := hHeld.2.1; have c := hHeld.2.2; exact ⟨(World.cell?_setCell_far _ _ _ _ (by simpa using hne)).trans a, (World.cell?_setCell_far _ _ _ _ (by simpa using hne)).trans b, (World.cell?_setCell_far _ _ _ _ (by simpa using hne)).trans c⟩)
      clear hK K
      try simp only [Act.put, List.setIfInBounds_toArray, List.set_cons_zero, List.set_cons_succ]
      refine wpAnyH_done (by kernel_rfl) ?_ _
      have hb8 := hb7.setCell (p := ⟨w1.heap.size, k, none⟩) (Nat.le_refl _) (.string (str (Txt.dec yy) ++ (⟨#[32]⟩ : ByteArray) ++ s))
      clear hf3 hf5 HF hb3 hb4 hb5 hb6 Y FM c0 c1 c2 q0 q1 q2 hHeld n1 n2
      go_wp2_with fail
      go_roundg (on.length - (k + 1))
      case measure => omega
      case rel => exact ⟨k + 1, by omega, by omega, by go_num, hb8, HFF.out⟩
    · have e : k = on.length := by omega
      subst e
      have hge : (on.length : Int) ≤ on.length := by omega
      obtain ⟨cs, hs, hk2, hc⟩ := hf
      have hx : (ts.map fun l => str l).length = on.length := by rw [List.length_map]; exact HTL.out
      have hj : Lib.join ((ts.map fun l => str l).map (·.data.toList)) (⟨#[44]⟩ : ByteArray).data.toList = Lib.join ts [44] := by
        rw [List.map_map]
        have : (fun l : List UInt8 => (str l).data.toList) = id := rfl
        show Lib.join (ts.map (fun l : List UInt8 => (str l).data.toList)) [44] = _
        rw [this, List.map_id]
      have hlen : (Lib.join ts [44]).length ≤ 140737488355328 := by
        have h1 := Sets.J_len (ps := ts) H40.out ts.length (Nat.le_refl _)
        rw [Sets.J_all] at h1
        have := HTL.out
        omega
      have CJ := Tryz.strings_Join w1.heap.size 0 on.length (ts.map fun l => str l) ⟨#[44]⟩ wr (by
        intro j x hx2
        have hjl : j < ts.length := by
          rcases Nat.lt_or_ge j ts.length with h | h
          · exact h
          · rw [List.getElem?_eq_none (by simpa using h)] at hx2; cases hx2
        have := HTL.out
        rw [Nat.zero_add, hk2.cell, hc j hjl (by omega)]
        simp [List.getElem?_eq_getElem hjl] at hx2
        rw [hx2]) hk2.lt (by omega) (by omega) (by rw [hj]; exact hlen)
      rw [hj, hx] at CJ
      rw [← E.out] at CJ
      have CJ := Lib.hid CJ
      clear hj hlen hc hk2 hs E
      go_wp2_with fail
      refine CJ.out.mono ?_
      rintro e w2 ⟨rfl, hb3⟩
      have hfin := hb1.trans ((hb.trans (hb3.mono hb.size)).mono hb1.size)
      go_wp2_with fail
      go_ret2
      exact ⟨rfl, hfin⟩

set_option maxHeartbeats 1000000 in
theorem impl_RegnalText (A : Option Addr) (N c : Nat) (xs : LR) (hn : N ≤ maxLen) (n : Int) (w : World) (h : RdR w A N xs) (ht : Tabs w) :
    Calls Tryz.prog 25 #[.slice A N c, .int .i64 n] w (TxE (rtL xs n) (rtE xs n) w) := by
  by_cases hk : arOk xs ∧ isDay n
  · rw [show rtL xs n = rgT xs n from if_pos hk, show rtE xs n = 0 from (if_neg (fun k => k hk.1)).trans (if_pos hk.2)]
    exact impl_RegnalText_yes A N c xs n hk.1 hk.2 w h ht
  · have R := Lib.hid (impl_ReignsOn A N c xs hn n w h)
    have e1 : roL xs n = [] := if_neg hk
    have e2 : rtE xs n = roE xs n := rfl
    have hne : roE xs n ≠ 0 := by
      unfold roE
      by_cases ha : arOk xs
      · rw [if_neg (fun k => k ha), if_neg (fun k => hk ⟨ha, k⟩)]
        decide
      · rw [if_pos ha]
        decide
    rw [show rtL xs n = [] from if_neg hk, e2]
    rw [e1] at R
    clear hk h ht e1 e2
    generalize roE xs n = E at *
    have hd : (E != 0) = true := by simpa using hne
    go_enter Tryz.func25, Tryz.ntmps25
    go_wp2_with fail
    refine R.out.mono ?_
    rintro e w1 ⟨OA, oc, rfl, -, hb1⟩
    go_wp2_with fail
    go_ret2
    exact ⟨rfl, hb1⟩

end Go.Proofs.YtfhcakpmlppbkaaGreatDoor.Rei

namespace Go.Proofs.YtfhcakpmlppbkaaGreatDoor.Sets
open Go.RowKit

theorem has_drop {xs : L} {k : Nat} (hk : k < xs.length) (d : Int) : has (xs.drop k) d ↔ (xs[k].1 ≤ d ∧ d ≤ xs[k].2) ∨ has (xs.drop (k + 1)) d := by
  rw [List.drop_eq_getElem_cons hk, has_cons]
theorem hasB_t {xs : L} {d : Int} (h : has xs d) : hasB xs d = true := decide_eq_true h
theorem hasB_f {xs : L} {d : Int} (h : ¬ has xs d) : hasB xs d = false := decide_eq_false h

theorem impl_in (f t d : Int) (b : Bool) (hb : decide (f ≤ d ∧ d ≤ t) = b) (g : Nat) (w : World) (hc : w.cell? ⟨g, 0, none⟩ = some (.int .i64 d)) :
    Calls Tryz.prog 87 #[.agg #[.int .i64 f, .int .i64 t], .pointer (some ⟨g, 0, none⟩)] w (Bl b w) := by
  have H := Lib.hid (impl_spanHas f t d b hb)
  have fin : Below w.heap.size w (w.alloc (.cells #[.int .i64 f, .int .i64 t] 36)) := (Below.refl _ _).alloc (Nat.le_refl _) _
  have d0 : (w.alloc (.cells #[.int .i64 f, .int .i64 t] 36)).cell? ⟨g, 0, none⟩ = some (.int .i64 d) := cell_keep fin hc
  clear hb hc
  go_enter Tryz.func87, Tryz.ntmps87
  go_wp2_with fail
  refine (H.out _).mono ?_
  rintro e w1 ⟨rfl, hb⟩
  have hfin := below_on fin hb
  go_wp2_with fail
  go_ret
  exact ⟨rfl, hfin⟩

/-- What a call leaves that finds the first span with a day, or none. -/
def Found (b : Bool) (w : World) (e : Ending) (w' : World) : Prop := ∃ i : Int, e = .returned (.int .i64 i) ∧ decide (0 ≤ i) = b ∧ Below w.heap.size w w'

set_option maxHeartbeats 1000000 in
theorem impl_index (A : Option Addr) (n c : Nat) (xs : L) (d : Int) (hn : n ≤ maxLen) (g0 : Nat) (w : World) (h : Rd w A n xs) (hc : w.cell? ⟨g0, 0, none⟩ = some (.int .i64 d)) :
    Calls Tryz.prog 109 #[.slice A n c, .func (.func 87) #[] #[.pointer (some ⟨g0, 0, none⟩)]] w (Found (hasB xs d) w) := by
  have hlen := h.1
  unfold maxLen at hn
  have HC := Lib.hid hc
  clear hc
  go_enter Tryz.func109, Tryz.ntmps109
  go_wp2_with fail
  go_loopg [8] n (fun m i wr => ∃ (k : Nat), k ≤ n ∧ m = n - k ∧ i = .int .i64 k ∧ Hid (has xs d ↔ has (xs.drop k) d) ∧ Below w.heap.size w wr)
  case atStart => exact ⟨0, by omega, by omega, rfl, Lib.hid Iff.rfl, Below.refl _ _⟩
  case round =>
    obtain ⟨k, hk, hm, rfl, HE, hb⟩ := hrel
    subst hm
    by_cases hlt : k < n
    · obtain ⟨g, off, hl, rfl, hg, c0, c1⟩ := (h.below hb).at_ hlt
      by_cases hin : xs[k].1 ≤ d ∧ d ≤ xs[k].2
      · have r := Lib.hid (hasB_t (HE.out.2 ((has_drop hl d).2 (.inl hin))))
        have t := Lib.hid (show decide (xs[k].1 ≤ d ∧ d ≤ xs[k].2) = true from decide_eq_true hin)
        clear hin
        go_wp2_with fail
        refine (impl_in xs[k].1 xs[k].2 d true t.out g0 _ (cell_keep hb HC.out)).mono ?_
        rintro e w1 ⟨rfl, hb1⟩
        go_wp2_with fail
        go_ret
        exact ⟨_, rfl, by rw [r.out]; simp, below_on hb hb1⟩
      · have HN := Lib.hid (show has xs d ↔ has (xs.drop (k + 1)) d by rw [HE.out, has_drop hl]; simp [hin])
        have t := Lib.hid (show decide (xs[k].1 ≤ d ∧ d ≤ xs[k].2) = false from decide_eq_false hin)
        clear hin
        go_wp2_with fail
        refine (impl_in xs[k].1 xs[k].2 d false t.out g0 _ (cell_keep hb HC.out)).mono ?_
        rintro e w1 ⟨rfl, hb1⟩
        have hfin := below_on hb hb1
        go_wp2_with fail
        go_roundg (n - (k + 1))
        case measure => omega
        case rel => exact ⟨k + 1, by omega, by omega, by go_num, HN, hfin⟩
    · have r := Lib.hid (hasB_f (xs := xs) (d := d) (by rw [HE.out, List.drop_eq_nil_of_le (by omega)]; exact has_nil d))
      go_wp2_with fail
      go_ret
      exact ⟨_, rfl, by rw [r.out]; simp, hb⟩

theorem impl_contains (A : Option Addr) (n c : Nat) (xs : L) (d : Int) (hn : n ≤ maxLen) (g0 : Nat) (w : World) (h : Rd w A n xs) (hc : w.cell? ⟨g0, 0, none⟩ = some (.int .i64 d)) :
    Calls Tryz.prog 86 #[.slice A n c, .func (.func 87) #[] #[.pointer (some ⟨g0, 0, none⟩)]] w (Bl (hasB xs d) w) := by
  have HC := Lib.hid hc
  have HN := Lib.hid hn
  clear hc hn
  go_enter Tryz.func86, Tryz.ntmps86
  go_wp2_with fail
  refine (impl_index A n c xs d HN.out g0 _ h HC.out).mono ?_
  rintro e w1 ⟨i, rfl, hi, hb⟩
  have HI := Lib.hid hi
  clear hi
  go_wp2_with fail
  go_ret
  exact ⟨ret_b HI.out, hb⟩

set_option maxHeartbeats 1000000 in
theorem impl_has (A : Option Addr) (n c : Nat) (xs : L) (d : Int) (hn : n ≤ maxLen) (w : World) (h : Rd w A n xs) :
    Calls Tryz.prog 55 #[.slice A n c, .int .i64 d] w (Bl (hasB xs d) w) := by
  have HN := Lib.hid hn
  clear hn
  go_enter Tryz.func55, Tryz.ntmps55
  go_wp2_with fail
  have fin : Below w.heap.size w (w.alloc (.cells #[.int .i64 d] 2)) := (Below.refl _ _).alloc (Nat.le_refl _) _
  have q := (Blk.new w 2 #[.int .i64 d]).cell 0
  refine (impl_contains A n c xs d HN.out _ _ (h.below fin) (by simp)).mono ?_
  rintro e w1 ⟨rfl, hb⟩
  have hfin := below_on fin hb
  clear q fin
  go_wp2_with fail
  go_ret
  exact ⟨rfl, hfin⟩

def hasV (xs : L) (d : Int) : Bool := setB xs && decide (0 ≤ d ∧ d ≤ 730499) && hasB xs d
def hasE (xs : L) (d : Int) : Int := if setB xs then if 0 ≤ d ∧ d ≤ 730499 then 0 else 2 else 1

theorem impl_HasDay (A : Option Addr) (n c : Nat) (xs : L) (d : Int) (hn : n ≤ maxLen) (w : World) (h : Rd w A n xs) :
    Calls Tryz.prog 16 #[.slice A n c, .int .i64 d] w (TwoB (hasV xs d) (hasE xs d) w) := by
  have HN := Lib.hid hn
  clear hn
  by_cases hs : setB xs = true
  · rw [hasV, hasE, if_pos hs, hs]
    have H := Lib.hid hs
    clear hs
    by_cases hd : 0 ≤ d ∧ d ≤ 730499
    · have E := Lib.hid (show decide (0 ≤ d ∧ d ≤ 730499) = true from decide_eq_true hd)
      rw [if_pos hd, decide_eq_true hd]
      clear hd
      go_enter Tryz.func16, Tryz.ntmps16
      go_wp2_with fail
      refine (impl_IsSetB A n c xs true H.out HN.out _ h).mono ?_
      rintro e w1 ⟨rfl, b1⟩
      go_wp2_with fail
      refine (impl_isDay d true E.out _).mono ?_
      rintro e w2 ⟨rfl, rfl⟩
      go_wp2_with fail
      refine (impl_has A n c xs d HN.out _ (h.below b1)).mono ?_
      rintro e w2 ⟨rfl, b2⟩
      go_wp2_with fail
      go_ret2
      exact ⟨by simp, below_on b1 b2⟩
    · have E := Lib.hid (show decide (0 ≤ d ∧ d ≤ 730499) = false from decide_eq_false hd)
      rw [if_neg hd, decide_eq_false hd]
      clear hd
      go_enter Tryz.func16, Tryz.ntmps16
      go_wp2_with fail
      refine (impl_IsSetB A n c xs true H.out HN.out _ h).mono ?_
      rintro e w1 ⟨rfl, b1⟩
      go_wp2_with fail
      refine (impl_isDay d false E.out _).mono ?_
      rintro e w2 ⟨rfl, rfl⟩
      go_wp2_with fail
      go_ret2
      exact ⟨by simp, b1⟩
  · have hs' : setB xs = false := by simpa using hs
    rw [hasV, hasE, if_neg hs, hs']
    have H := Lib.hid hs'
    clear hs hs'
    go_enter Tryz.func16, Tryz.ntmps16
    go_wp2_with fail
    refine (impl_IsSetB A n c xs false H.out HN.out _ h).mono ?_
    rintro e w1 ⟨rfl, b1⟩
    go_wp2_with fail
    go_ret2
    exact ⟨by simp, b1⟩

end Go.Proofs.YtfhcakpmlppbkaaGreatDoor.Sets
