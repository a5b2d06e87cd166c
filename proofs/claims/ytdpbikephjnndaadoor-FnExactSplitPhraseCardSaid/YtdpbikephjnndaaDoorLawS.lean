/- The walks of the exact laws on words and phrases: made by gen_laws.py. -/
import Derived.Test.YtdpbikephjnndaaDoorWrdG
import Derived.Test.YtdpbikephjnndaaDoorStrR
import Derived.Test.YtdpbikephjnndaaDoorWrdI
namespace Go.Proofs.YtdpbikephjnndaaDoor.Wrd
open Go.RowKit

theorem as_str (s : ByteArray) : ∃ l, s = str l := ⟨s.data.toList, by simp [str]⟩

/-- An opened list of texts. -/
def LsOk (ps : List (List UInt8)) (len : Nat) : Prop := ps.length = len ∧ len ≤ maxLen ∧ ∀ p ∈ ps, p.length ≤ maxLen


theorem TextsE.row {ps : List (List UInt8)} {E : Int} {w w' : World} {e : Ending} (h : TextsE ps E w e w') : ∃ A c, e = .returned (.tuple #[.slice A ps.length c, .int .i64 E]) ∧ RowS w' w.heap.size w'.heap.size A ps ∧ Below w.heap.size w w' := by
  obtain ⟨v, rfl, own, hb⟩ := h
  obtain ⟨A, c, rfl, -, -⟩ := own_rdS own
  exact ⟨A, c, rfl, own_row own, hb⟩
theorem sp_len {l : List UInt8} (_h : l.length ≤ 1048576) : (spL l).length ≤ 2000000 := by
  unfold spL
  split
  · simp
  · split
    · rename_i q; have := q.2; omega
    · simp

set_option maxHeartbeats 2000000 in
theorem walk_FnExactSplitPhrase (s : ByteArray) (hs : s.size ≤ maxLen) (w : World) (hM : Mx w) : Calls Tryd.prog 4 #[.string s] w (Bl true w) := by
  obtain ⟨ls, rfl⟩ := as_str s
  have szs := str_size ls
  unfold maxLen at hs
  by_cases bs : (1048576 : Int) < (ls.length : Int)
  · go_enter Tryd.func4, Tryd.ntmps4
    go_wp2_with fail
    go_ret
    exact ⟨rfl, Below.refl _ _⟩
  · have S := Lib.hid (fun w => (spec_SplitPhrase ls (by omega) w).mono fun e w' h => h.row)
    have I := Lib.hid (fun w h => (impl_SplitPhrase ls (by omega) w h).mono fun e w' h => h.row)
    have hl := sp_len (l := ls) (by omega)
    generalize spL ls = V at S I hl
    generalize spE ls = E at S I
    go_enter Tryd.func4, Tryd.ntmps4
    go_wp2_with fail
    refine (S.out _).mono ?_
    rintro e w1 ⟨AW, cW, rfl, RW, b1⟩
    go_wp2_with fail
    refine (I.out _ (hM.below b1)).mono ?_
    rintro e w2 ⟨AG, cG, rfl, RG, b2⟩
    have RW := RW.below b2
    have k2 := b1.trans (b2.mono b1.size)
    have z1 := b1.size
    have z2 := b2.size
    clear b1 b2
    go_wp2_with fail
    refine (laws_eqS AG AW _ _ V hl _ RG.rd RW.rd).mono ?_
    rintro e w3 ⟨rfl, b3⟩
    have RW := RW.below b3
    have RG := RG.below b3
    have k3 := k2.trans (b3.mono k2.size)
    have z3 := b3.size
    clear b3 k2
    go_wp2_with fail
    refine (laws_markS AG _ _ _ V 1 (by omega) (by omega) hl _ RG).mono ?_
    rintro e w4 ⟨rfl, RG, hc⟩
    have RW := RW.chg hc (by omega)
    have k4 := k3.trans (hc.below (B0 := w.heap.size) (by omega) (by omega))
    have z4 := hc.size
    clear hc k3
    have hqq : ¬ (1 + (V.length : Int) < 0) := by omega
    go_wp2_with fail
    refine (laws_heldS AG cG V.length 1 (by omega) (by omega) hl _ RG.rd).mono ?_
    rintro e w5 ⟨rfl, b5⟩
    have RW := RW.below b5
    have RG := RG.below b5
    have k5 := k4.trans (b5.mono k4.size)
    clear b5 k4
    go_wp2_with fail
    refine (I.out _ (hM.below k5)).mono ?_
    rintro e w6 ⟨AH, cH, rfl, RH, b6⟩
    have RW := RW.below b6
    have RG := RG.below b6
    have k6 := k5.trans (b6.mono k5.size)
    clear b6 k5
    go_wp2_with fail
    refine (laws_eqS AH AW _ _ V hl _ RH.rd RW.rd).mono ?_
    rintro e w7 ⟨rfl, b7⟩
    have RG := RG.below b7
    have k7 := k6.trans (b7.mono k6.size)
    clear b7 k6 RH RW
    go_wp2_with fail
    refine (laws_heldS AG cG V.length 1 (by omega) (by omega) hl _ RG.rd).mono ?_
    rintro e w8 ⟨rfl, b8⟩
    have k8 := k7.trans (b8.mono k7.size)
    go_wp2_with fail
    go_ret
    exact ⟨rfl, k8⟩


end Go.Proofs.YtdpbikephjnndaaDoor.Wrd
