/- Contracts of spec's l02Text and SetText. -/
import Derived.Test.YtfhcakpmlppbkaaGreatDoorTxS
import Derived.Maps.AppendAt
namespace Go.Proofs.YtfhcakpmlppbkaaGreatDoor.Sets
open Go.RowKit

def TextLoop (xs : L) (w : World) (m : Nat) (v i : Value) (wr : World) : Prop :=
  ∃ (k : Nat) (ps : List (List UInt8)), i = .int .i64 k ∧ m = xs.length - k ∧ k ≤ xs.length ∧ ps.length = k ∧ Hid (ps = (xs.take k).map wd) ∧
    wr.ownsRow w.heap.size 9 1 v ps.length (ps.map fun p => Value.string (str p)) ∧ Below w.heap.size w wr

theorem words_step {xs : L} {ps : List (List UInt8)} {k : Nat} {t : List UInt8} (hk : k < xs.length) (h : ps = (xs.take k).map wd) (ht : t = wd xs[k]) : ps ++ [t] = (xs.take (k + 1)).map wd := by
  rw [List.take_succ_eq_append_getElem hk, List.map_append, h, ht]
  rfl

theorem owns_below {w w' : World} {base : Nat} {e : TypeId} {size : Nat} {v : Value} {n : Nat} {xs : List Value} (h : w.ownsRow base e size v n xs) (hb : Below w.heap.size w w') : w'.ownsRow base e size v n xs := by
  refine ⟨h.1, ?_⟩
  rcases h.2 with h0 | ⟨g, cap, cur, hv, hB, hg, rest⟩
  · exact .inl h0
  · exact .inr ⟨g, cap, cur, hv, hB, (hb.block g (Array.getElem?_eq_some_iff.1 hg).1).trans hg, rest⟩

set_option maxHeartbeats 2000000 in
set_option maxRecDepth 10000 in
theorem spec_l02Text (A : Option Addr) (n c : Nat) (xs : L) (hn : n ≤ 300) (hok : Hid (∀ s ∈ xs, ok s)) (w : World) (h : Rd w A n xs) :
    Calls Tryz.prog 39 #[.slice A n c] w (Tx (txt xs) w) := by
  have hl0 := h.1
  obtain ⟨i0, hi, hz0, hz1, hz2⟩ := info_parts info_str
  go_enter Tryz.func39, Tryz.ntmps39
  go_wp2_with fail
  go_loopg [3, 4] n (fun m v i wr => TextLoop xs w m v i wr)
  case atStart =>
    exact ⟨0, [], rfl, by omega, by omega, rfl, Lib.hid rfl, ⟨rfl, .inr ⟨w.heap.size, 0, #[], rfl, Nat.le_refl _, heap_alloc_new w _, Nat.le_refl _, Nat.zero_le _, rfl, rfl⟩⟩, (Below.refl _ _).alloc (Nat.le_refl _) _⟩
  case round =>
    obtain ⟨k, ps, rfl, hm, hk, hps, HP, hown, hbel⟩ := hrel
    subst hm
    by_cases hlt : k < n
    · obtain ⟨g, off, hl, rfl, hg, c0, c1⟩ := (h.below hbel).at_ hlt
      have okk : ok xs[k] := hok.out _ (List.getElem_mem hl)
      obtain ⟨o0, o1, o2⟩ := okk
      have hd1 := Lib.hid (spec_dec xs[k].1 (by omega) (by omega))
      have hd2 := Lib.hid (spec_dec xs[k].2 (by omega) (by omega))
      have sz1 : (str (Txt.dec xs[k].1)).size ≤ 19 := by rw [str_size]; exact Txt.dec_length _
      have sz2 : (str (Txt.dec xs[k].2)).size ≤ 19 := by rw [str_size]; exact Txt.dec_length _
      go_wp2_with fail
      refine (hd1.out _).mono ?_
      rintro e w2 ⟨rfl, hb2⟩
      have c0' := cell_later hb2 c0
      have c1' := cell_later hb2 c1
      have hbel2 := below_on hbel hb2
      have hown2 := owns_below hown hb2
      by_cases hgt : xs[k].1 < xs[k].2
      · have HT := Lib.hid (show Txt.dec xs[k].1 ++ [46, 46] ++ Txt.dec xs[k].2 = wd xs[k] from (if_pos hgt).symm)
        have E := Lib.hid (show str (Txt.dec xs[k].1) ++ (⟨#[46, 46]⟩ : ByteArray) ++ str (Txt.dec xs[k].2) = str (Txt.dec xs[k].1 ++ [46, 46] ++ Txt.dec xs[k].2) by
          rw [show (⟨#[46, 46]⟩ : ByteArray) = str [46, 46] from rfl, str_add, str_add])
        have sz3 : (str (Txt.dec xs[k].1) ++ (⟨#[46, 46]⟩ : ByteArray)).size ≤ 21 := by
          rw [show (⟨#[46, 46]⟩ : ByteArray) = str [46, 46] from rfl, str_add, str_size]
          have := Txt.dec_length xs[k].1
          simp
          omega
        clear c0 c1
        go_wp2_with fail
        go_quiet (fail)
        have c0 : (w2.drewN nq).cell? ⟨g, off + k * 2, none⟩ = some (.int .i64 xs[k].1) := c0'
        have c1 : (w2.drewN nq).cell? ⟨g, off + k * 2 + 1, none⟩ = some (.int .i64 xs[k].2) := c1'
        have hbel3 := below_drewN hbel2 nq
        have hown3 := owns_below hown2 (w' := w2.drewN nq) (below_drewN (Below.refl _ _) nq)
        clear c0' c1' hbel2 hown2 hown hbel hb2
        generalize w2.drewN nq = w3 at c0 c1 hbel3 hown3 ⊢
        go_wp2_with fail
        refine (hd2.out _).mono ?_
        rintro e w4 ⟨rfl, hb4⟩
        have hbel4 := below_on hbel3 hb4
        have hown4 := owns_below hown3 hb4
        clear hbel3 hown3 hb4 c0 c1
        go_wp2_with (at_builtin; refine wpList_append_own _ rfl (.tmp 39) (.tmp 41) 57 rfl w.heap.size 9 i0 (.string ByteArray.empty) 1 16 Tryz.underlying57 hi hz0 hz1 hz2 rfl (by decide) _ _ _ rfl (hown4.alloc _) ⟨w4.heap.size, 0, none⟩ 1 1 [.string (str (Txt.dec xs[k].1) ++ (⟨#[46, 46]⟩ : ByteArray) ++ str (Txt.dec xs[k].2))] rfl rfl (cell_one_new _ _ _) ?c2 ?c3 ?c4 ?c5 ?_)
        case c2 => intro u hu; simp at hu; subst hu; rfl
        case c3 => unfold maxLen; omega
        case c4 => omega
        case c5 => have := hbel4.size; simp; omega
        intro v' w1 hown1 hgrow1 _
        have hb1 := Below.grown (hbel4.alloc hbel4.size (.cells #[.string (str (Txt.dec xs[k].1) ++ (⟨#[46, 46]⟩ : ByteArray) ++ str (Txt.dec xs[k].2))] 9)) hgrow1 (by have := hbel4.size; simp; omega) (fun g hg => (World.ownsRow.lt hown4 g hg).1)
        have hown9 : w1.ownsRow w.heap.size 9 1 v' (ps ++ [(Txt.dec xs[k].1 ++ [46, 46] ++ Txt.dec xs[k].2)]).length ((ps ++ [(Txt.dec xs[k].1 ++ [46, 46] ++ Txt.dec xs[k].2)]).map fun p => Value.string (str p)) := by
          have h := hown1
          rw [E.out] at h
          simpa [hps] using h
        have HP2 := Lib.hid (words_step hl HP.out HT.out)
        clear hown1 hgrow1
        go_wp2_with fail
        go_roundg (n - (k + 1))
        case measure => omega
        case rel => exact ⟨k + 1, _, by go_num, by omega, by omega, by simp; omega, HP2, hown9, hb1⟩
      · have HT := Lib.hid (show Txt.dec xs[k].1 = wd xs[k] from (if_neg hgt).symm)
        have hd : decide (xs[k].1 < xs[k].2) = false := by simpa using hgt
        clear c0 c1
        go_wp2_with fail
        go_quiet (fail)
        have hbel4 := below_drewN hbel2 nq
        have hown4 := owns_below hown2 (w' := w2.drewN nq) (below_drewN (Below.refl _ _) nq)
        clear c0' c1' hbel2 hown2 hown hbel hb2
        generalize w2.drewN nq = w4 at hbel4 hown4 ⊢
        go_wp2_with (at_builtin; refine wpList_append_own _ rfl (.tmp 39) (.tmp 41) 57 rfl w.heap.size 9 i0 (.string ByteArray.empty) 1 16 Tryz.underlying57 hi hz0 hz1 hz2 rfl (by decide) _ _ _ rfl (hown4.alloc _) ⟨w4.heap.size, 0, none⟩ 1 1 [.string (str (Txt.dec xs[k].1))] rfl rfl (cell_one_new _ _ _) ?c2 ?c3 ?c4 ?c5 ?_)
        case c2 => intro u hu; simp at hu; subst hu; rfl
        case c3 => unfold maxLen; omega
        case c4 => omega
        case c5 => have := hbel4.size; simp; omega
        intro v' w1 hown1 hgrow1 _
        have hb1 := Below.grown (hbel4.alloc hbel4.size (.cells #[.string (str (Txt.dec xs[k].1))] 9)) hgrow1 (by have := hbel4.size; simp; omega) (fun g hg => (World.ownsRow.lt hown4 g hg).1)
        have hown9 : w1.ownsRow w.heap.size 9 1 v' (ps ++ [(Txt.dec xs[k].1)]).length ((ps ++ [(Txt.dec xs[k].1)]).map fun p => Value.string (str p)) := by
          have h := hown1
          skip
          simpa [hps] using h
        have HP2 := Lib.hid (words_step hl HP.out HT.out)
        clear hown1 hgrow1
        go_wp2_with fail
        go_roundg (n - (k + 1))
        case measure => omega
        case rel => exact ⟨k + 1, _, by go_num, by omega, by omega, by simp; omega, HP2, hown9, hb1⟩
    · have ek : k = xs.length := by omega
      have HP3 := Lib.hid (show ps = xs.map wd by rw [HP.out, ek, List.take_length])
      have hnn : xs.length = ps.length := by omega
      by_cases hz : ps.length = 0
      · have E := Lib.hid (show [45] = txt xs by
          have : xs = [] := List.eq_nil_of_length_eq_zero (by omega)
          simp [txt, this])
        have hd : ((ps.length : Int) == 0) = true := by simp [hz]
        rcases hown.2 with ⟨rfl, h0⟩ | ⟨g, cap, cur, rfl, hg, hh, hc, hm2, hcur⟩
        · clear hz
          go_wp2_with fail
          go_ret
          exact ⟨congrArg (fun l => Ending.returned (.string (str l))) E.out, hbel⟩
        · clear hz
          go_wp2_with fail
          go_ret
          exact ⟨congrArg (fun l => Ending.returned (.string (str l))) E.out, hbel⟩
      · have E := Lib.hid (show Lib.join ps [44] = txt xs by
          have hne : xs ≠ [] := fun e => hz (by rw [← hnn, e]; rfl)
          rw [HP3.out]
          exact (if_neg hne).symm)
        have hd : ((ps.length : Int) == 0) = false := by rw [beq_eq_false_iff_ne]; omega
        have h40 : ∀ p ∈ ps, p.length ≤ 40 := by
          rw [HP3.out]
          intro p hp
          obtain ⟨s, _, rfl⟩ := List.mem_map.1 hp
          exact wd_len s
        rcases hown.2 with ⟨rfl, h0⟩ | ⟨g, cap, cur, rfl, hg, hh, hc, hm2, hcur⟩
        · exact absurd h0 hz
        · have hgl : g < wr.heap.size := by
            rcases Nat.lt_or_ge g wr.heap.size with h | h
            · exact h
            · rw [Array.getElem?_eq_none h] at hh; cases hh
          have CJ := spec_join ps g cap (by omega) h40 wr hgl (fun j hj => by
            rw [hown.cellAt j (by omega)]
            simp [hj])
          rw [show ps.length = n by omega] at CJ
          have CJ := Lib.hid CJ
          clear hz h40 hh hcur hown
          go_wp2_with fail
          refine CJ.out.mono ?_
          rintro e w2 ⟨rfl, hb2⟩
          have hfin := below_on hbel hb2
          go_wp2_with fail
          go_ret
          exact ⟨congrArg (fun l => Ending.returned (.string (str l))) E.out, hfin⟩

/-- What SetText answers. -/
def txtV (xs : L) : List UInt8 := if setB xs = true then txt xs else []
def txtE (xs : L) : Int := if setB xs = true then 0 else 1
def TxO (l : List UInt8) (c : Int) (w : World) (e : Ending) (w' : World) : Prop := e = .returned (.tuple #[.string (str l), .int .i64 c]) ∧ Below w.heap.size w w'
theorem txo_eq {l l' : List UInt8} {c c' : Int} {w w' : World} {e : Ending} (h : TxO l c w e w') (h1 : l = l') (h2 : c = c') : TxO l' c' w e w' := by subst h1 h2; exact h

theorem setB_t {xs : L} (h : setB xs = true) : xs.length ≤ 300 ∧ ∀ s ∈ xs, ok s := by
  have := of_decide_eq_true h
  exact ⟨this.1, this.2.ok_of⟩

set_option maxHeartbeats 1000000 in
theorem spec_SetText (A : Option Addr) (n c : Nat) (xs : L) (hn : n ≤ maxLen) (w : World) (h : Rd w A n xs) :
    Calls Tryz.prog 8 #[.slice A n c] w (TxO (txtV xs) (txtE xs) w) := by
  have C1 := Lib.hid (spec_IsSet A n c xs hn w h)
  have hl0 := h.1
  by_cases hb : setB xs = true
  · obtain ⟨h3, hok⟩ := setB_t hb
    have HE := Lib.hid (show txt xs = txtV xs ∧ 0 = txtE xs from ⟨(if_pos hb).symm, (if_pos hb).symm⟩)
    have HO := Lib.hid hok
    rw [hb] at C1
    clear hb hok
    go_enter Tryz.func8, Tryz.ntmps8
    go_wp2_with fail
    refine C1.out.mono ?_
    rintro e w1 ⟨rfl, hb1⟩
    have h1 := h.below hb1
    go_wp2_with fail
    refine (spec_l02Text A n c xs (by omega) HO w1 h1).mono ?_
    rintro e w2 ⟨rfl, hb2⟩
    have hfin := below_on hb1 hb2
    go_wp2_with fail
    go_ret2
    exact ⟨by rw [HE.out.1, HE.out.2]; rfl, hfin⟩
  · have hb' : setB xs = false := by simpa using hb
    have HE := Lib.hid (show [] = txtV xs ∧ 1 = txtE xs from ⟨(if_neg hb).symm, (if_neg hb).symm⟩)
    rw [hb'] at C1
    clear hb hb'
    go_enter Tryz.func8, Tryz.ntmps8
    go_wp2_with fail
    refine C1.out.mono ?_
    rintro e w1 ⟨rfl, hb1⟩
    go_wp2_with fail
    go_ret2
    exact ⟨by rw [← HE.out.1, ← HE.out.2]; rfl, hb1⟩

end Go.Proofs.YtfhcakpmlppbkaaGreatDoor.Sets
