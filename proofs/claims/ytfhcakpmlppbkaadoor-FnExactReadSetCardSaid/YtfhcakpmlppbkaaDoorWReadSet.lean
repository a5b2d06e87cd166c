/- The walk of the law on ReadSet. -/
import Derived.Test.YtfhcakpmlppbkaaDoorTxO
namespace Go.Proofs.YtfhcakpmlppbkaaDoor.Sets
open Go.RowKit

theorem rd_len (l : List UInt8) : (rdV l).length ≤ 2000000 := by
  by_cases h : ∃ xs, isTxt l xs
  · obtain ⟨xs, hx⟩ := h
    rw [(rd_yes hx).1]
    have := set_len hx.1
    omega
  · rw [(rd_no h).1]; simp

set_option maxHeartbeats 4000000 in
set_option maxRecDepth 100000 in
theorem walk_FnExactReadSet (s : ByteArray) (hs : s.size ≤ maxLen) (w : World) (he : Env w) :
    Calls Tryd.prog 3 #[.string s] w (Bl true w) := by
  obtain ⟨l, rfl⟩ : ∃ l, s = str l := ⟨s.data.toList, by simp [str]⟩
  have sz := str_size l
  rw [sz] at hs
  unfold maxLen at hs
  by_cases hbig : 1048576 < l.length
  · have hb : (1048576 : Int) < (l.length : Int) := by omega
    clear hbig
    go_enter Tryd.func3, Tryd.ntmps3
    go_wp2_with fail
    go_ret
    exact ⟨rfl, Below.refl _ _⟩
  have hb : ¬ (1048576 : Int) < (l.length : Int) := by omega
  have EV := Lib.hid he
  clear he
  obtain ⟨V, E, HL, HS, HI⟩ : ∃ (V : L) (E : Int), Hid (V.length ≤ 2000000) ∧ Hid (∀ (wx : World), Calls Tryd.prog 5 #[.string (str l)] wx (SetOut V E wx)) ∧ Hid (∀ (wx : World), Env wx → Calls Tryd.prog 6 #[.string (str l)] wx (SetOut V E wx)) :=
    ⟨_, _, Lib.hid (rd_len l), Lib.hid fun wx => spec_ReadSet l (by omega) wx, Lib.hid fun wx q => impl_ReadSet l (by omega) wx q⟩
  clear hbig hs
  go_enter Tryd.func3, Tryd.ntmps3
  go_wp2_with fail
  have kk : Below w.heap.size w w := Below.refl _ _
  have z0 : w.heap.size ≤ w.heap.size := Nat.le_refl _
  refine (HS.out w).mono ?_
  rintro e w3 ⟨AW, cW, rfl, RW, b⟩
  replace kk := below_on kk b
  have z3 : w.heap.size ≤ w3.heap.size := b.size
  go_wp2_with fail
  refine (HI.out w3 (EV.out.below kk)).mono ?_
  rintro e w5 ⟨AG, cG, rfl, RG, b⟩
  replace kk := below_on kk b
  replace RW := RW.below b
  have z5 : w3.heap.size ≤ w5.heap.size := b.size
  go_wp2_with fail
  refine (laws_eqSpans AG AW _ _ _ V HL.out w5 RG.rd RW.rd).mono ?_
  rintro e w6 ⟨rfl, b⟩
  replace kk := below_on kk b
  replace RW := RW.below b
  replace RG := RG.below b
  have z6 : w5.heap.size ≤ w6.heap.size := b.size
  go_wp2_with fail
  refine (laws_mark AG _ _ _ _ V 1 (by omega) (by omega) HL.out w6 RG).mono ?_
  rintro e w11 ⟨rfl, RG', hc⟩
  replace kk := kk.trans (hc.below (B0 := w.heap.size) (by omega) kk.size)
  have z11 : w6.heap.size ≤ w11.heap.size := hc.size
  replace RW := RW.chg hc (by omega)
  clear RG hc
  have hqq : ¬ (1 + 2 * (V.length : Int) < 0) := by omega
  go_wp2_with fail
  refine (laws_held AG _ cG 1 (by omega) (by omega) HL.out w11 RG'.rd).mono ?_
  rintro e wz ⟨rfl, rfl⟩
  go_wp2_with fail
  refine (HI.out w11 (EV.out.below kk)).mono ?_
  rintro e w13 ⟨AH, cH, rfl, RH, b⟩
  replace kk := below_on kk b
  replace RW := RW.below b
  replace RG' := RG'.below b
  have z13 : w11.heap.size ≤ w13.heap.size := b.size
  go_wp2_with fail
  refine (laws_eqSpans AH AW _ _ _ V HL.out w13 RH.rd RW.rd).mono ?_
  rintro e w14 ⟨rfl, b⟩
  replace kk := below_on kk b
  replace RW := RW.below b
  replace RG' := RG'.below b
  replace RH := RH.below b
  have z14 : w13.heap.size ≤ w14.heap.size := b.size
  go_wp2_with fail
  refine (laws_held AG _ cG 1 (by omega) (by omega) HL.out w14 RG'.rd).mono ?_
  rintro e wz ⟨rfl, rfl⟩
  go_wp2_with fail
  go_ret
  exact ⟨rfl, kk⟩

end Go.Proofs.YtfhcakpmlppbkaaDoor.Sets
