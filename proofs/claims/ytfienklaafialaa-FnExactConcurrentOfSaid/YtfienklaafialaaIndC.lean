/- Contract of spec's years with a mark: made by gen_indc.py. -/
import Derived.Test.YtfienklaafialaaIndA
import Derived.Test.YtfienklaafialaaIntR
import Derived.Deep.RegionHeld3
namespace Go.Proofs.Ytfienklaafialaa.Ind
open Go.RowKit
open Go.Proofs.Ytfienklaafialaa.Eas (isY It spec_year_yes spec_year_no)
open Go.Proofs.Ytfienklaafialaa.Ints (Own append_int)
open Go.Proofs.Ytfienklaafialaa.Sets (cell_keep below_on)

theorem ym_yes {a e c f : Int} {j : Nat} {acc : List Int} (h : acc = ym a e c f j) (hf : fits a e c (f + j)) : acc ++ [f + j] = ym a e c f (j + 1) := by subst h; rw [ym, if_pos hf]
theorem ym_no {a e c f : Int} {j : Nat} {acc : List Int} (h : acc = ym a e c f j) (hf : ¬ fits a e c (f + j)) : acc = ym a e c f (j + 1) := by subst h; rw [ym, if_neg hf, List.append_nil]
def YmL (a e c f : Int) (N : Nat) (w0 : World) (m : Nat) (v y : Value) (wr : World) : Prop :=
  ∃ (j : Nat) (acc : List Int), y = .int .i64 (f + j) ∧ m = N - j ∧ j ≤ N ∧ Hid (acc = ym a e c f j) ∧ acc.length ≤ j ∧ Own wr w0.heap.size v acc ∧ Below w0.heap.size w0 wr

set_option maxRecDepth 100000 in
set_option maxHeartbeats 16000000 in
theorem spec_YearsMarked_yes (a e c f t : Int) (hm : mkOk a e c) (hr : ymR f t) (w : World) :
    Calls Try.prog 36 #[mV a e c, .int .i64 f, .int .i64 t] w (Fea.IntsOut (ym a e c f (t + 1 - f).toNat) 0 w) := by
  have M := Lib.hid (spec_IsYearMark a e c true (decide_eq_true hm))
  obtain ⟨hf, hft, ht⟩ := hr
  have Y := Lib.hid (spec_year_yes f hf)
  obtain ⟨f1, f2⟩ := hf
  obtain ⟨m, hmm⟩ : ∃ m, min 2000 (f + 600) = m := ⟨_, rfl⟩
  have cM : (if f + 600 < 2000 then f + 600 else 2000) = m := by split <;> omega
  have R := Lib.hid (Eas.spec_in_yes t f m ⟨hft, by omega⟩)
  have ht2 : t ≤ 2000 := by omega
  obtain ⟨N, hN⟩ : ∃ N, (t + 1 - f).toNat = N := ⟨_, rfl⟩
  have hN2 : (N : Int) = t + 1 - f := by omega
  have hN3 : N ≤ 601 := by omega
  rw [hN]
  clear hN hmm ht hm
  unfold mV at M ⊢
  have S0 := (St.start w).alloc 42 #[.int .i64 a, .int .i64 e, .int .i64 c]
  obtain ⟨c0, c1, c2⟩ := S0.b0.three
  go_enter Try.func36, Try.ntmps36
  go_wp2_with fail
  refine (M.out _).mono ?_
  rintro e9 w1 ⟨rfl, hb1⟩
  have S1 := S0.call hb1
  clear S0 hb1 c0 c1 c2 M
  go_wp2_with fail
  refine (Y.out _).mono ?_
  rintro e9 w9 ⟨rfl, rfl⟩
  go_wp2_with fail
  refine (R.out _).mono ?_
  rintro e9 w9 ⟨rfl, rfl⟩
  have own0 := Own.made0 w1
  have hb0 : Below w1.heap.size w1 (w1.alloc (.cells #[] 2)) := (Below.refl _ _).alloc (Nat.le_refl _) _
  obtain ⟨c0, c1, c2⟩ := S1.b0.three
  have hb2 := S1.bel
  clear S1 Y R cM
  go_wp2_with fail
  go_loopg [8, 9] N (fun m v y wr => YmL a e c f N w1 m v y wr)
  case atStart => exact ⟨0, [], by simp, by omega, by omega, Lib.hid rfl, by simp, own0, hb0⟩
  case round =>
    clear own0 hb0
    obtain ⟨j, acc, rfl, hm, hj, HA, hl, hown, hb⟩ := hrel
    subst hm
    by_cases hlt : j < N
    · obtain ⟨y, hy⟩ : ∃ y, f + (j : Int) = y := ⟨_, rfl⟩
      have hy1 : 1 ≤ y := by omega
      have hy2 : y ≤ 2000 := by omega
      have hy3 : y ≤ t := by omega
      have I := Lib.hid (spec_ind y (by omega) (by omega))
      have E := Lib.hid (spec_ep y (by omega) (by omega))
      have C := Lib.hid (spec_con y ⟨hy1, hy2⟩)
      have k0 := cell_keep hb c0
      have k1 := cell_keep hb c1
      have k2 := cell_keep hb c2
      have HFY := Lib.hid hy
      rw [hy]
      have HFT := Lib.hid (fun h : fits a e c y => ym_yes (acc := acc) HA.out (by rw [HFY.out]; exact h))
      have HFN := Lib.hid (fun h : ¬ fits a e c y => ym_no (acc := acc) HA.out (by rw [HFY.out]; exact h))
      rw [hy] at HFT
      obtain ⟨iy, hiy⟩ : ∃ x, ind y = x := ⟨_, rfl⟩
      obtain ⟨ey, hey⟩ : ∃ x, ep y = x := ⟨_, rfl⟩
      obtain ⟨cy, hcy⟩ : ∃ x, con y = x := ⟨_, rfl⟩
      have HFI := Lib.hid (show fits a e c y ↔ (a = 0 ∨ a = iy) ∧ (e < 0 ∨ e = ey) ∧ (c = 0 ∨ c = cy) by unfold fits; rw [hiy, hey, hcy])
      rw [hiy] at I
      rw [hey] at E
      rw [hcy] at C
      clear hiy hey hcy HA
      by_cases ha0 : a = 0
      · have ea : (a == 0) = true := by simp [ha0]
        have pa : a = 0 ∨ a = iy := .inl ha0
        clear ha0
        go_wp2_with fail
        go_quiet (fail)
        have k0' : (wr.drewN nq).cell? ⟨w.heap.size, 0, none⟩ = some (.int .i64 a) := k0
        have k1' : (wr.drewN nq).cell? ⟨w.heap.size, 1, none⟩ = some (.int .i64 e) := k1
        have k2' : (wr.drewN nq).cell? ⟨w.heap.size, 2, none⟩ = some (.int .i64 c) := k2
        have hb' := below_drewN hb nq
        have hown' := hown.below (below_drewN (Below.refl wr.heap.size wr) nq)
        clear k0 k1 k2 hb hown
        generalize wr.drewN nq = wa1 at k0' k1' k2' hb' hown' ⊢
        have k0 := k0'
        have k1 := k1'
        have k2 := k2'
        have hb := hb'
        have hown := hown'
        clear k0' k1' k2' hb' hown'
        by_cases he0 : e < 0
        · have pe : e < 0 ∨ e = ey := .inl he0
          go_wp2_with fail
          go_quiet (fail)
          have k0' : (wa1.drewN nq).cell? ⟨w.heap.size, 0, none⟩ = some (.int .i64 a) := k0
          have k1' : (wa1.drewN nq).cell? ⟨w.heap.size, 1, none⟩ = some (.int .i64 e) := k1
          have k2' : (wa1.drewN nq).cell? ⟨w.heap.size, 2, none⟩ = some (.int .i64 c) := k2
          have hb' := below_drewN hb nq
          have hown' := hown.below (below_drewN (Below.refl wa1.heap.size wa1) nq)
          clear k0 k1 k2 hb hown
          generalize wa1.drewN nq = wa2 at k0' k1' k2' hb' hown' ⊢
          have k0 := k0'
          have k1 := k1'
          have k2 := k2'
          have hb := hb'
          have hown := hown'
          clear k0' k1' k2' hb' hown'
          by_cases hc0 : c = 0
          · have ec : (c == 0) = true := by simp [hc0]
            have HF := HFI.out.2 ⟨pa, pe, .inl hc0⟩
            clear hc0
            go_wp2_with fail
            go_quiet (fail)
            have k0' : (wa2.drewN nq).cell? ⟨w.heap.size, 0, none⟩ = some (.int .i64 a) := k0
            have k1' : (wa2.drewN nq).cell? ⟨w.heap.size, 1, none⟩ = some (.int .i64 e) := k1
            have k2' : (wa2.drewN nq).cell? ⟨w.heap.size, 2, none⟩ = some (.int .i64 c) := k2
            have hb' := below_drewN hb nq
            have hown' := hown.below (below_drewN (Below.refl wa2.heap.size wa2) nq)
            clear k0 k1 k2 hb hown
            generalize wa2.drewN nq = wa3 at k0' k1' k2' hb' hown' ⊢
            have k0 := k0'
            have k1 := k1'
            have k2 := k2'
            have hb := hb'
            have hown := hown'
            clear k0' k1' k2' hb' hown'
            clear k0 k1 k2 I E C HFI HFN
            go_wp2_with (at_builtin; refine append_int hb hown (by omega) rfl (.tmp 72) (.tmp 74) rfl rfl rfl ?_)
            intro v6 w6 own6 hb7
            clear hown hb
            go_wp2_with fail
            go_roundg (N - (j + 1))
            case measure => omega
            case rel => exact ⟨j + 1, _, by rw [← hy]; push_cast; rw [Int.add_assoc], by omega, by omega, Lib.hid (HFT.out HF), by simp; omega, own6, hb7⟩
          · have ec : (c == 0) = false := by simpa using hc0
            by_cases hc1 : c = cy
            · have ec1 : (c == cy) = true := by simp [hc1]
              have HF := HFI.out.2 ⟨pa, pe, .inr hc1⟩
              clear hc0 hc1
              go_wp2_with fail
              go_region_held3 (fun w' => w'.cell? ⟨w.heap.size, 0, none⟩ = some (.int .i64 a) ∧ w'.cell? ⟨w.heap.size, 1, none⟩ = some (.int .i64 e) ∧ w'.cell? ⟨w.heap.size, 2, none⟩ = some (.int .i64 c))
                (first | exact ⟨k0, k1, k2⟩ | exact ⟨cell_keep hq k0, cell_keep hq k1, cell_keep hq k2⟩)
                (first | (go_at_call 75; refine (C.out _).mono ?_; rintro e9 wq ⟨rfl, hq⟩))
              have hb' := below_on (below_drewN hb 1) hq
              have hown' := (hown.below (below_drewN (Below.refl wa2.heap.size wa2) 1)).below hq
              clear hb hown hq
              have hb := hb'
              have hown := hown'
              clear hb' hown'
              clear k0 k1 k2 I E C HFI HFN
              go_wp2_with (at_builtin; refine append_int hb hown (by omega) rfl (.tmp 72) (.tmp 74) rfl rfl rfl ?_)
              intro v6 w6 own6 hb7
              clear hown hb
              go_wp2_with fail
              go_roundg (N - (j + 1))
              case measure => omega
              case rel => exact ⟨j + 1, _, by rw [← hy]; push_cast; rw [Int.add_assoc], by omega, by omega, Lib.hid (HFT.out HF), by simp; omega, own6, hb7⟩
            · have ec1 : (c == cy) = false := by simpa using hc1
              have HF : ¬ fits a e c y := fun h => (HFI.out.1 h).2.2.elim hc0 hc1
              clear hc0 hc1
              go_wp2_with fail
              go_region_held3 (fun w' => w'.cell? ⟨w.heap.size, 0, none⟩ = some (.int .i64 a) ∧ w'.cell? ⟨w.heap.size, 1, none⟩ = some (.int .i64 e) ∧ w'.cell? ⟨w.heap.size, 2, none⟩ = some (.int .i64 c))
                (first | exact ⟨k0, k1, k2⟩ | exact ⟨cell_keep hq k0, cell_keep hq k1, cell_keep hq k2⟩)
                (first | (go_at_call 75; refine (C.out _).mono ?_; rintro e9 wq ⟨rfl, hq⟩))
              have hb' := below_on (below_drewN hb 1) hq
              have hown' := (hown.below (below_drewN (Below.refl wa2.heap.size wa2) 1)).below hq
              clear hb hown hq
              have hb := hb'
              have hown := hown'
              clear hb' hown'
              clear k0 k1 k2 I E C HFI HFT
              go_wp2_with fail
              go_roundg (N - (j + 1))
              case measure => omega
              case rel => exact ⟨j + 1, _, by rw [← hy]; push_cast; rw [Int.add_assoc], by omega, by omega, Lib.hid (HFN.out HF), by omega, hown, hb⟩
        · have ee : decide (e < 0) = false := by simpa using he0
          by_cases he1 : e = ey
          · have ee1 : (e == ey) = true := by simp [he1]
            have pe : e < 0 ∨ e = ey := .inr he1
            clear he0 he1
            go_wp2_with fail
            go_quiet ((go_at_call 74; exact Calls.quiet_of_same ((E.out _).mono fun _ _ ⟨a, b⟩ => ⟨a, b.symm⟩)))
            have k0' : (wa1.drewN nq).cell? ⟨w.heap.size, 0, none⟩ = some (.int .i64 a) := k0
            have k1' : (wa1.drewN nq).cell? ⟨w.heap.size, 1, none⟩ = some (.int .i64 e) := k1
            have k2' : (wa1.drewN nq).cell? ⟨w.heap.size, 2, none⟩ = some (.int .i64 c) := k2
            have hb' := below_drewN hb nq
            have hown' := hown.below (below_drewN (Below.refl wa1.heap.size wa1) nq)
            clear k0 k1 k2 hb hown
            generalize wa1.drewN nq = wa4 at k0' k1' k2' hb' hown' ⊢
            have k0 := k0'
            have k1 := k1'
            have k2 := k2'
            have hb := hb'
            have hown := hown'
            clear k0' k1' k2' hb' hown'
            by_cases hc0 : c = 0
            · have ec : (c == 0) = true := by simp [hc0]
              have HF := HFI.out.2 ⟨pa, pe, .inl hc0⟩
              clear hc0
              go_wp2_with fail
              go_quiet (fail)
              have k0' : (wa4.drewN nq).cell? ⟨w.heap.size, 0, none⟩ = some (.int .i64 a) := k0
              have k1' : (wa4.drewN nq).cell? ⟨w.heap.size, 1, none⟩ = some (.int .i64 e) := k1
              have k2' : (wa4.drewN nq).cell? ⟨w.heap.size, 2, none⟩ = some (.int .i64 c) := k2
              have hb' := below_drewN hb nq
              have hown' := hown.below (below_drewN (Below.refl wa4.heap.size wa4) nq)
              clear k0 k1 k2 hb hown
              generalize wa4.drewN nq = wa5 at k0' k1' k2' hb' hown' ⊢
              have k0 := k0'
              have k1 := k1'
              have k2 := k2'
              have hb := hb'
              have hown := hown'
              clear k0' k1' k2' hb' hown'
              clear k0 k1 k2 I E C HFI HFN
              go_wp2_with (at_builtin; refine append_int hb hown (by omega) rfl (.tmp 72) (.tmp 74) rfl rfl rfl ?_)
              intro v6 w6 own6 hb7
              clear hown hb
              go_wp2_with fail
              go_roundg (N - (j + 1))
              case measure => omega
              case rel => exact ⟨j + 1, _, by rw [← hy]; push_cast; rw [Int.add_assoc], by omega, by omega, Lib.hid (HFT.out HF), by simp; omega, own6, hb7⟩
            · have ec : (c == 0) = false := by simpa using hc0
              by_cases hc1 : c = cy
              · have ec1 : (c == cy) = true := by simp [hc1]
                have HF := HFI.out.2 ⟨pa, pe, .inr hc1⟩
                clear hc0 hc1
                go_wp2_with fail
                go_region_held3 (fun w' => w'.cell? ⟨w.heap.size, 0, none⟩ = some (.int .i64 a) ∧ w'.cell? ⟨w.heap.size, 1, none⟩ = some (.int .i64 e) ∧ w'.cell? ⟨w.heap.size, 2, none⟩ = some (.int .i64 c))
                  (first | exact ⟨k0, k1, k2⟩ | exact ⟨cell_keep hq k0, cell_keep hq k1, cell_keep hq k2⟩)
                  (first | (go_at_call 75; refine (C.out _).mono ?_; rintro e9 wq ⟨rfl, hq⟩))
                have hb' := below_on (below_drewN hb 1) hq
                have hown' := (hown.below (below_drewN (Below.refl wa4.heap.size wa4) 1)).below hq
                clear hb hown hq
                have hb := hb'
                have hown := hown'
                clear hb' hown'
                clear k0 k1 k2 I E C HFI HFN
                go_wp2_with (at_builtin; refine append_int hb hown (by omega) rfl (.tmp 72) (.tmp 74) rfl rfl rfl ?_)
                intro v6 w6 own6 hb7
                clear hown hb
                go_wp2_with fail
                go_roundg (N - (j + 1))
                case measure => omega
                case rel => exact ⟨j + 1, _, by rw [← hy]; push_cast; rw [Int.add_assoc], by omega, by omega, Lib.hid (HFT.out HF), by simp; omega, own6, hb7⟩
              · have ec1 : (c == cy) = false := by simpa using hc1
                have HF : ¬ fits a e c y := fun h => (HFI.out.1 h).2.2.elim hc0 hc1
                clear hc0 hc1
                go_wp2_with fail
                go_region_held3 (fun w' => w'.cell? ⟨w.heap.size, 0, none⟩ = some (.int .i64 a) ∧ w'.cell? ⟨w.heap.size, 1, none⟩ = some (.int .i64 e) ∧ w'.cell? ⟨w.heap.size, 2, none⟩ = some (.int .i64 c))
                  (first | exact ⟨k0, k1, k2⟩ | exact ⟨cell_keep hq k0, cell_keep hq k1, cell_keep hq k2⟩)
                  (first | (go_at_call 75; refine (C.out _).mono ?_; rintro e9 wq ⟨rfl, hq⟩))
                have hb' := below_on (below_drewN hb 1) hq
                have hown' := (hown.below (below_drewN (Below.refl wa4.heap.size wa4) 1)).below hq
                clear hb hown hq
                have hb := hb'
                have hown := hown'
                clear hb' hown'
                clear k0 k1 k2 I E C HFI HFT
                go_wp2_with fail
                go_roundg (N - (j + 1))
                case measure => omega
                case rel => exact ⟨j + 1, _, by rw [← hy]; push_cast; rw [Int.add_assoc], by omega, by omega, Lib.hid (HFN.out HF), by omega, hown, hb⟩
          · have ee1 : (e == ey) = false := by simpa using he1
            have ne : ¬ fits a e c y := fun h => (HFI.out.1 h).2.1.elim he0 he1
            clear he0 he1
            go_wp2_with fail
            go_quiet ((go_at_call 74; exact Calls.quiet_of_same ((E.out _).mono fun _ _ ⟨a, b⟩ => ⟨a, b.symm⟩)))
            have k0' : (wa1.drewN nq).cell? ⟨w.heap.size, 0, none⟩ = some (.int .i64 a) := k0
            have k1' : (wa1.drewN nq).cell? ⟨w.heap.size, 1, none⟩ = some (.int .i64 e) := k1
            have k2' : (wa1.drewN nq).cell? ⟨w.heap.size, 2, none⟩ = some (.int .i64 c) := k2
            have hb' := below_drewN hb nq
            have hown' := hown.below (below_drewN (Below.refl wa1.heap.size wa1) nq)
            clear k0 k1 k2 hb hown
            generalize wa1.drewN nq = wa6 at k0' k1' k2' hb' hown' ⊢
            have k0 := k0'
            have k1 := k1'
            have k2 := k2'
            have hb := hb'
            have hown := hown'
            clear k0' k1' k2' hb' hown'
            have HF := ne
            go_wp2_with fail
            go_quiet (fail)
            have k0' : (wa6.drewN nq).cell? ⟨w.heap.size, 0, none⟩ = some (.int .i64 a) := k0
            have k1' : (wa6.drewN nq).cell? ⟨w.heap.size, 1, none⟩ = some (.int .i64 e) := k1
            have k2' : (wa6.drewN nq).cell? ⟨w.heap.size, 2, none⟩ = some (.int .i64 c) := k2
            have hb' := below_drewN hb nq
            have hown' := hown.below (below_drewN (Below.refl wa6.heap.size wa6) nq)
            clear k0 k1 k2 hb hown
            generalize wa6.drewN nq = wa7 at k0' k1' k2' hb' hown' ⊢
            have k0 := k0'
            have k1 := k1'
            have k2 := k2'
            have hb := hb'
            have hown := hown'
            clear k0' k1' k2' hb' hown'
            clear k0 k1 k2 I E C HFI HFT
            go_wp2_with fail
            go_roundg (N - (j + 1))
            case measure => omega
            case rel => exact ⟨j + 1, _, by rw [← hy]; push_cast; rw [Int.add_assoc], by omega, by omega, Lib.hid (HFN.out HF), by omega, hown, hb⟩
      · have ea : (a == 0) = false := by simpa using ha0
        by_cases ha1 : a = iy
        · have ea1 : (a == iy) = true := by simp [ha1]
          have pa : a = 0 ∨ a = iy := .inr ha1
          clear ha0 ha1
          go_wp2_with fail
          go_quiet ((go_at_call 70; exact Calls.quiet_of_same ((I.out _).mono fun _ _ ⟨a, b⟩ => ⟨a, b.symm⟩)))
          have k0' : (wr.drewN nq).cell? ⟨w.heap.size, 0, none⟩ = some (.int .i64 a) := k0
          have k1' : (wr.drewN nq).cell? ⟨w.heap.size, 1, none⟩ = some (.int .i64 e) := k1
          have k2' : (wr.drewN nq).cell? ⟨w.heap.size, 2, none⟩ = some (.int .i64 c) := k2
          have hb' := below_drewN hb nq
          have hown' := hown.below (below_drewN (Below.refl wr.heap.size wr) nq)
          clear k0 k1 k2 hb hown
          generalize wr.drewN nq = wa8 at k0' k1' k2' hb' hown' ⊢
          have k0 := k0'
          have k1 := k1'
          have k2 := k2'
          have hb := hb'
          have hown := hown'
          clear k0' k1' k2' hb' hown'
          by_cases he0 : e < 0
          · have pe : e < 0 ∨ e = ey := .inl he0
            go_wp2_with fail
            go_quiet (fail)
            have k0' : (wa8.drewN nq).cell? ⟨w.heap.size, 0, none⟩ = some (.int .i64 a) := k0
            have k1' : (wa8.drewN nq).cell? ⟨w.heap.size, 1, none⟩ = some (.int .i64 e) := k1
            have k2' : (wa8.drewN nq).cell? ⟨w.heap.size, 2, none⟩ = some (.int .i64 c) := k2
            have hb' := below_drewN hb nq
            have hown' := hown.below (below_drewN (Below.refl wa8.heap.size wa8) nq)
            clear k0 k1 k2 hb hown
            generalize wa8.drewN nq = wa9 at k0' k1' k2' hb' hown' ⊢
            have k0 := k0'
            have k1 := k1'
            have k2 := k2'
            have hb := hb'
            have hown := hown'
            clear k0' k1' k2' hb' hown'
            by_cases hc0 : c = 0
            · have ec : (c == 0) = true := by simp [hc0]
              have HF := HFI.out.2 ⟨pa, pe, .inl hc0⟩
              clear hc0
              go_wp2_with fail
              go_quiet (fail)
              have k0' : (wa9.drewN nq).cell? ⟨w.heap.size, 0, none⟩ = some (.int .i64 a) := k0
              have k1' : (wa9.drewN nq).cell? ⟨w.heap.size, 1, none⟩ = some (.int .i64 e) := k1
              have k2' : (wa9.drewN nq).cell? ⟨w.heap.size, 2, none⟩ = some (.int .i64 c) := k2
              have hb' := below_drewN hb nq
              have hown' := hown.below (below_drewN (Below.refl wa9.heap.size wa9) nq)
              clear k0 k1 k2 hb hown
              generalize wa9.drewN nq = wa10 at k0' k1' k2' hb' hown' ⊢
              have k0 := k0'
              have k1 := k1'
              have k2 := k2'
              have hb := hb'
              have hown := hown'
              clear k0' k1' k2' hb' hown'
              clear k0 k1 k2 I E C HFI HFN
              go_wp2_with (at_builtin; refine append_int hb hown (by omega) rfl (.tmp 72) (.tmp 74) rfl rfl rfl ?_)
              intro v6 w6 own6 hb7
              clear hown hb
              go_wp2_with fail
              go_roundg (N - (j + 1))
              case measure => omega
              case rel => exact ⟨j + 1, _, by rw [← hy]; push_cast; rw [Int.add_assoc], by omega, by omega, Lib.hid (HFT.out HF), by simp; omega, own6, hb7⟩
            · have ec : (c == 0) = false := by simpa using hc0
              by_cases hc1 : c = cy
              · have ec1 : (c == cy) = true := by simp [hc1]
                have HF := HFI.out.2 ⟨pa, pe, .inr hc1⟩
                clear hc0 hc1
                go_wp2_with fail
                go_region_held3 (fun w' => w'.cell? ⟨w.heap.size, 0, none⟩ = some (.int .i64 a) ∧ w'.cell? ⟨w.heap.size, 1, none⟩ = some (.int .i64 e) ∧ w'.cell? ⟨w.heap.size, 2, none⟩ = some (.int .i64 c))
                  (first | exact ⟨k0, k1, k2⟩ | exact ⟨cell_keep hq k0, cell_keep hq k1, cell_keep hq k2⟩)
                  (first | (go_at_call 75; refine (C.out _).mono ?_; rintro e9 wq ⟨rfl, hq⟩))
                have hb' := below_on (below_drewN hb 1) hq
                have hown' := (hown.below (below_drewN (Below.refl wa9.heap.size wa9) 1)).below hq
                clear hb hown hq
                have hb := hb'
                have hown := hown'
                clear hb' hown'
                clear k0 k1 k2 I E C HFI HFN
                go_wp2_with (at_builtin; refine append_int hb hown (by omega) rfl (.tmp 72) (.tmp 74) rfl rfl rfl ?_)
                intro v6 w6 own6 hb7
                clear hown hb
                go_wp2_with fail
                go_roundg (N - (j + 1))
                case measure => omega
                case rel => exact ⟨j + 1, _, by rw [← hy]; push_cast; rw [Int.add_assoc], by omega, by omega, Lib.hid (HFT.out HF), by simp; omega, own6, hb7⟩
              · have ec1 : (c == cy) = false := by simpa using hc1
                have HF : ¬ fits a e c y := fun h => (HFI.out.1 h).2.2.elim hc0 hc1
                clear hc0 hc1
                go_wp2_with fail
                go_region_held3 (fun w' => w'.cell? ⟨w.heap.size, 0, none⟩ = some (.int .i64 a) ∧ w'.cell? ⟨w.heap.size, 1, none⟩ = some (.int .i64 e) ∧ w'.cell? ⟨w.heap.size, 2, none⟩ = some (.int .i64 c))
                  (first | exact ⟨k0, k1, k2⟩ | exact ⟨cell_keep hq k0, cell_keep hq k1, cell_keep hq k2⟩)
                  (first | (go_at_call 75; refine (C.out _).mono ?_; rintro e9 wq ⟨rfl, hq⟩))
                have hb' := below_on (below_drewN hb 1) hq
                have hown' := (hown.below (below_drewN (Below.refl wa9.heap.size wa9) 1)).below hq
                clear hb hown hq
                have hb := hb'
                have hown := hown'
                clear hb' hown'
                clear k0 k1 k2 I E C HFI HFT
                go_wp2_with fail
                go_roundg (N - (j + 1))
                case measure => omega
                case rel => exact ⟨j + 1, _, by rw [← hy]; push_cast; rw [Int.add_assoc], by omega, by omega, Lib.hid (HFN.out HF), by omega, hown, hb⟩
          · have ee : decide (e < 0) = false := by simpa using he0
            by_cases he1 : e = ey
            · have ee1 : (e == ey) = true := by simp [he1]
              have pe : e < 0 ∨ e = ey := .inr he1
              clear he0 he1
              go_wp2_with fail
              go_quiet ((go_at_call 74; exact Calls.quiet_of_same ((E.out _).mono fun _ _ ⟨a, b⟩ => ⟨a, b.symm⟩)))
              have k0' : (wa8.drewN nq).cell? ⟨w.heap.size, 0, none⟩ = some (.int .i64 a) := k0
              have k1' : (wa8.drewN nq).cell? ⟨w.heap.size, 1, none⟩ = some (.int .i64 e) := k1
              have k2' : (wa8.drewN nq).cell? ⟨w.heap.size, 2, none⟩ = some (.int .i64 c) := k2
              have hb' := below_drewN hb nq
              have hown' := hown.below (below_drewN (Below.refl wa8.heap.size wa8) nq)
              clear k0 k1 k2 hb hown
              generalize wa8.drewN nq = wa11 at k0' k1' k2' hb' hown' ⊢
              have k0 := k0'
              have k1 := k1'
              have k2 := k2'
              have hb := hb'
              have hown := hown'
              clear k0' k1' k2' hb' hown'
              by_cases hc0 : c = 0
              · have ec : (c == 0) = true := by simp [hc0]
                have HF := HFI.out.2 ⟨pa, pe, .inl hc0⟩
                clear hc0
                go_wp2_with fail
                go_quiet (fail)
                have k0' : (wa11.drewN nq).cell? ⟨w.heap.size, 0, none⟩ = some (.int .i64 a) := k0
                have k1' : (wa11.drewN nq).cell? ⟨w.heap.size, 1, none⟩ = some (.int .i64 e) := k1
                have k2' : (wa11.drewN nq).cell? ⟨w.heap.size, 2, none⟩ = some (.int .i64 c) := k2
                have hb' := below_drewN hb nq
                have hown' := hown.below (below_drewN (Below.refl wa11.heap.size wa11) nq)
                clear k0 k1 k2 hb hown
                generalize wa11.drewN nq = wa12 at k0' k1' k2' hb' hown' ⊢
                have k0 := k0'
                have k1 := k1'
                have k2 := k2'
                have hb := hb'
                have hown := hown'
                clear k0' k1' k2' hb' hown'
                clear k0 k1 k2 I E C HFI HFN
                go_wp2_with (at_builtin; refine append_int hb hown (by omega) rfl (.tmp 72) (.tmp 74) rfl rfl rfl ?_)
                intro v6 w6 own6 hb7
                clear hown hb
                go_wp2_with fail
                go_roundg (N - (j + 1))
                case measure => omega
                case rel => exact ⟨j + 1, _, by rw [← hy]; push_cast; rw [Int.add_assoc], by omega, by omega, Lib.hid (HFT.out HF), by simp; omega, own6, hb7⟩
              · have ec : (c == 0) = false := by simpa using hc0
                by_cases hc1 : c = cy
                · have ec1 : (c == cy) = true := by simp [hc1]
                  have HF := HFI.out.2 ⟨pa, pe, .inr hc1⟩
                  clear hc0 hc1
                  go_wp2_with fail
                  go_region_held3 (fun w' => w'.cell? ⟨w.heap.size, 0, none⟩ = some (.int .i64 a) ∧ w'.cell? ⟨w.heap.size, 1, none⟩ = some (.int .i64 e) ∧ w'.cell? ⟨w.heap.size, 2, none⟩ = some (.int .i64 c))
                    (first | exact ⟨k0, k1, k2⟩ | exact ⟨cell_keep hq k0, cell_keep hq k1, cell_keep hq k2⟩)
                    (first | (go_at_call 75; refine (C.out _).mono ?_; rintro e9 wq ⟨rfl, hq⟩))
                  have hb' := below_on (below_drewN hb 1) hq
                  have hown' := (hown.below (below_drewN (Below.refl wa11.heap.size wa11) 1)).below hq
                  clear hb hown hq
                  have hb := hb'
                  have hown := hown'
                  clear hb' hown'
                  clear k0 k1 k2 I E C HFI HFN
                  go_wp2_with (at_builtin; refine append_int hb hown (by omega) rfl (.tmp 72) (.tmp 74) rfl rfl rfl ?_)
                  intro v6 w6 own6 hb7
                  clear hown hb
                  go_wp2_with fail
                  go_roundg (N - (j + 1))
                  case measure => omega
                  case rel => exact ⟨j + 1, _, by rw [← hy]; push_cast; rw [Int.add_assoc], by omega, by omega, Lib.hid (HFT.out HF), by simp; omega, own6, hb7⟩
                · have ec1 : (c == cy) = false := by simpa using hc1
                  have HF : ¬ fits a e c y := fun h => (HFI.out.1 h).2.2.elim hc0 hc1
                  clear hc0 hc1
                  go_wp2_with fail
                  go_region_held3 (fun w' => w'.cell? ⟨w.heap.size, 0, none⟩ = some (.int .i64 a) ∧ w'.cell? ⟨w.heap.size, 1, none⟩ = some (.int .i64 e) ∧ w'.cell? ⟨w.heap.size, 2, none⟩ = some (.int .i64 c))
                    (first | exact ⟨k0, k1, k2⟩ | exact ⟨cell_keep hq k0, cell_keep hq k1, cell_keep hq k2⟩)
                    (first | (go_at_call 75; refine (C.out _).mono ?_; rintro e9 wq ⟨rfl, hq⟩))
                  have hb' := below_on (below_drewN hb 1) hq
                  have hown' := (hown.below (below_drewN (Below.refl wa11.heap.size wa11) 1)).below hq
                  clear hb hown hq
                  have hb := hb'
                  have hown := hown'
                  clear hb' hown'
                  clear k0 k1 k2 I E C HFI HFT
                  go_wp2_with fail
                  go_roundg (N - (j + 1))
                  case measure => omega
                  case rel => exact ⟨j + 1, _, by rw [← hy]; push_cast; rw [Int.add_assoc], by omega, by omega, Lib.hid (HFN.out HF), by omega, hown, hb⟩
            · have ee1 : (e == ey) = false := by simpa using he1
              have ne : ¬ fits a e c y := fun h => (HFI.out.1 h).2.1.elim he0 he1
              clear he0 he1
              go_wp2_with fail
              go_quiet ((go_at_call 74; exact Calls.quiet_of_same ((E.out _).mono fun _ _ ⟨a, b⟩ => ⟨a, b.symm⟩)))
              have k0' : (wa8.drewN nq).cell? ⟨w.heap.size, 0, none⟩ = some (.int .i64 a) := k0
              have k1' : (wa8.drewN nq).cell? ⟨w.heap.size, 1, none⟩ = some (.int .i64 e) := k1
              have k2' : (wa8.drewN nq).cell? ⟨w.heap.size, 2, none⟩ = some (.int .i64 c) := k2
              have hb' := below_drewN hb nq
              have hown' := hown.below (below_drewN (Below.refl wa8.heap.size wa8) nq)
              clear k0 k1 k2 hb hown
              generalize wa8.drewN nq = wa13 at k0' k1' k2' hb' hown' ⊢
              have k0 := k0'
              have k1 := k1'
              have k2 := k2'
              have hb := hb'
              have hown := hown'
              clear k0' k1' k2' hb' hown'
              have HF := ne
              go_wp2_with fail
              go_quiet (fail)
              have k0' : (wa13.drewN nq).cell? ⟨w.heap.size, 0, none⟩ = some (.int .i64 a) := k0
              have k1' : (wa13.drewN nq).cell? ⟨w.heap.size, 1, none⟩ = some (.int .i64 e) := k1
              have k2' : (wa13.drewN nq).cell? ⟨w.heap.size, 2, none⟩ = some (.int .i64 c) := k2
              have hb' := below_drewN hb nq
              have hown' := hown.below (below_drewN (Below.refl wa13.heap.size wa13) nq)
              clear k0 k1 k2 hb hown
              generalize wa13.drewN nq = wa14 at k0' k1' k2' hb' hown' ⊢
              have k0 := k0'
              have k1 := k1'
              have k2 := k2'
              have hb := hb'
              have hown := hown'
              clear k0' k1' k2' hb' hown'
              clear k0 k1 k2 I E C HFI HFT
              go_wp2_with fail
              go_roundg (N - (j + 1))
              case measure => omega
              case rel => exact ⟨j + 1, _, by rw [← hy]; push_cast; rw [Int.add_assoc], by omega, by omega, Lib.hid (HFN.out HF), by omega, hown, hb⟩
        · have ea1 : (a == iy) = false := by simpa using ha1
          have na : ¬ fits a e c y := fun h => (HFI.out.1 h).1.elim ha0 ha1
          clear ha0 ha1
          go_wp2_with fail
          go_quiet ((go_at_call 70; exact Calls.quiet_of_same ((I.out _).mono fun _ _ ⟨a, b⟩ => ⟨a, b.symm⟩)))
          have k0' : (wr.drewN nq).cell? ⟨w.heap.size, 0, none⟩ = some (.int .i64 a) := k0
          have k1' : (wr.drewN nq).cell? ⟨w.heap.size, 1, none⟩ = some (.int .i64 e) := k1
          have k2' : (wr.drewN nq).cell? ⟨w.heap.size, 2, none⟩ = some (.int .i64 c) := k2
          have hb' := below_drewN hb nq
          have hown' := hown.below (below_drewN (Below.refl wr.heap.size wr) nq)
          clear k0 k1 k2 hb hown
          generalize wr.drewN nq = wa15 at k0' k1' k2' hb' hown' ⊢
          have k0 := k0'
          have k1 := k1'
          have k2 := k2'
          have hb := hb'
          have hown := hown'
          clear k0' k1' k2' hb' hown'
          go_wp2_with fail
          go_quiet (fail)
          have k0' : (wa15.drewN nq).cell? ⟨w.heap.size, 0, none⟩ = some (.int .i64 a) := k0
          have k1' : (wa15.drewN nq).cell? ⟨w.heap.size, 1, none⟩ = some (.int .i64 e) := k1
          have k2' : (wa15.drewN nq).cell? ⟨w.heap.size, 2, none⟩ = some (.int .i64 c) := k2
          have hb' := below_drewN hb nq
          have hown' := hown.below (below_drewN (Below.refl wa15.heap.size wa15) nq)
          clear k0 k1 k2 hb hown
          generalize wa15.drewN nq = wa16 at k0' k1' k2' hb' hown' ⊢
          have k0 := k0'
          have k1 := k1'
          have k2 := k2'
          have hb := hb'
          have hown := hown'
          clear k0' k1' k2' hb' hown'
          have HF := na
          go_wp2_with fail
          go_quiet (fail)
          have k0' : (wa16.drewN nq).cell? ⟨w.heap.size, 0, none⟩ = some (.int .i64 a) := k0
          have k1' : (wa16.drewN nq).cell? ⟨w.heap.size, 1, none⟩ = some (.int .i64 e) := k1
          have k2' : (wa16.drewN nq).cell? ⟨w.heap.size, 2, none⟩ = some (.int .i64 c) := k2
          have hb' := below_drewN hb nq
          have hown' := hown.below (below_drewN (Below.refl wa16.heap.size wa16) nq)
          clear k0 k1 k2 hb hown
          generalize wa16.drewN nq = wa17 at k0' k1' k2' hb' hown' ⊢
          have k0 := k0'
          have k1 := k1'
          have k2 := k2'
          have hb := hb'
          have hown := hown'
          clear k0' k1' k2' hb' hown'
          clear k0 k1 k2 I E C HFI HFT
          go_wp2_with fail
          go_roundg (N - (j + 1))
          case measure => omega
          case rel => exact ⟨j + 1, _, by rw [← hy]; push_cast; rw [Int.add_assoc], by omega, by omega, Lib.hid (HFN.out HF), by omega, hown, hb⟩
    · have HV : acc = ym a e c f N := by
        have e2 : j = N := by omega
        have h := HA.out
        rwa [e2] at h
      subst HV
      have hge : t < f + (j : Int) := by omega
      clear HA
      go_wp2_with fail
      go_ret2
      exact Fea.IntsOut.of (hown.mono hb2.size) (hb2.trans (hb.mono hb2.size))

set_option maxHeartbeats 2000000 in
theorem spec_YearsMarked (a e c f t : Int) (w : World) : Calls Try.prog 36 #[mV a e c, .int .i64 f, .int .i64 t] w (Fea.IntsOut (ymL a e c f t) (ymE a e c f t) w) := by
  have S0 := (St.start w).alloc 42 #[.int .i64 a, .int .i64 e, .int .i64 c]
  obtain ⟨c0, c1, c2⟩ := S0.b0.three
  by_cases hm : mkOk a e c
  · by_cases hr : ymR f t
    · rw [show ymL a e c f t = ym a e c f (t + 1 - f).toNat from if_pos ⟨hm, hr⟩, show ymE a e c f t = 0 from (if_neg (fun h => h hm)).trans (if_pos hr)]
      exact spec_YearsMarked_yes a e c f t hm hr w
    · rw [show ymL a e c f t = [] from if_neg (fun h => hr h.2), show ymE a e c f t = 2 from (if_neg (fun h => h hm)).trans (if_neg hr)]
      have M := Lib.hid (spec_IsYearMark a e c true (decide_eq_true hm))
      unfold mV at M ⊢
      clear hm
      by_cases hf : isY f
      · have Y := Lib.hid (spec_year_yes f hf)
        obtain ⟨f1, f2⟩ := hf
        obtain ⟨m, hmm⟩ : ∃ m, min 2000 (f + 600) = m := ⟨_, rfl⟩
        have cM : (if f + 600 < 2000 then f + 600 else 2000) = m := by split <;> omega
        have R := Lib.hid (Eas.spec_in_no t f m (fun h => hr ⟨⟨f1, f2⟩, h.1, by omega⟩))
        clear hr hmm
        go_enter Try.func36, Try.ntmps36
        go_wp2_with fail
        refine (M.out _).mono ?_
        rintro e9 w1 ⟨rfl, hb1⟩
        have S1 := S0.call hb1
        clear S0 hb1 c0 c1 c2 M
        go_wp2_with fail
        refine (Y.out _).mono ?_
        rintro e9 w9 ⟨rfl, rfl⟩
        go_wp2_with fail
        refine (R.out _).mono ?_
        rintro e9 w9 ⟨rfl, rfl⟩
        go_wp2_with fail
        go_ret2
        exact Fea.IntsOut.empty S1.bel
      · have Y := Lib.hid (spec_year_no f hf)
        clear hr hf
        go_enter Try.func36, Try.ntmps36
        go_wp2_with fail
        refine (M.out _).mono ?_
        rintro e9 w1 ⟨rfl, hb1⟩
        have S1 := S0.call hb1
        clear S0 hb1 c0 c1 c2 M
        go_wp2_with fail
        refine (Y.out _).mono ?_
        rintro e9 w9 ⟨rfl, rfl⟩
        go_wp2_with fail
        go_ret2
        exact Fea.IntsOut.empty S1.bel
  · rw [show ymL a e c f t = [] from if_neg (fun h => hm h.1), show ymE a e c f t = 1 from if_pos hm]
    have M := Lib.hid (spec_IsYearMark a e c false (decide_eq_false hm))
    unfold mV at M ⊢
    clear hm
    go_enter Try.func36, Try.ntmps36
    go_wp2_with fail
    refine (M.out _).mono ?_
    rintro e9 w1 ⟨rfl, hb1⟩
    have S1 := S0.call hb1
    clear S0 hb1 c0 c1 c2 M
    go_wp2_with fail
    go_ret2
    exact Fea.IntsOut.empty S1.bel

end Go.Proofs.Ytfienklaafialaa.Ind
