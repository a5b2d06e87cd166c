/- impl's reading of a date, and the walk of the law on it. -/
import Derived.Test.YtkmkfpglnmpnmaaDoorReadP
import Derived.Test.YtkmkfpglnmpnmaaDoorLawB
namespace Go.Proofs.YtkmkfpglnmpnmaaDoor
open Go.RowKit

theorem refusal {l : List UInt8} {w w' : World} (h : IsRead l 0 0 0 false) (hb : Below w.heap.size w w') : ReadRet l w (.returned (.tuple #[.agg #[.int .i64 0, .int .i64 0, .int .i64 0], .bool false])) w' :=
  ⟨0, 0, 0, false, rfl, h, hb⟩
theorem byte_ne {c : UInt8} (h : ¬ c = 45) : ((c.toNat : Int) != 45) = true := by
  have : ¬ (c.toNat : Int) = 45 := fun hh => h (UInt8.toNat_inj.1 (by
    have h2 : c.toNat = 45 := by omega
    simpa using h2))
  simpa using this
theorem byte_eq {c : UInt8} (h : c = 45) : ((c.toNat : Int) != 45) = false := by subst h; rfl

set_option maxHeartbeats 800000 in
theorem impl_ReadDate_no (l : List UInt8) (_hl : l.length ≤ 2000000) (h : Hid (¬ (l.length = 10 ∧ l[4]? = some 45 ∧ l[7]? = some 45))) (w : World) : Calls Tryd.prog 14 #[.string (str l)] w (ReadRet l w) := by
  have sz := str_size l
  have hR := Lib.hid (refusal (w := w) (isRead_no (l := l) (fun a b c _ _ _ => absurd ⟨a, b, c⟩ h.out)) ((Below.refl w.heap.size w).alloc (Nat.le_refl _) (.cells #[.int .i64 0, .int .i64 0, .int .i64 0] 25)))
  by_cases h10 : l.length = 10
  · have e4 : (str l)[4]'(by rw [str_size]; omega) = l[4] := get_str l 4 _
    have e7 : (str l)[7]'(by rw [str_size]; omega) = l[7] := get_str l 7 _
    have b10 : ((l.length : Int) != 10) = false := by rw [h10]; rfl
    by_cases h4 : l[4] = 45
    · have h7 : ¬ l[7] = 45 := fun h7 => h.out ⟨h10, by rw [List.getElem?_eq_getElem (by omega), h4], by rw [List.getElem?_eq_getElem (by omega), h7]⟩
      have b4 := byte_eq h4
      have b7 := byte_ne h7
      clear h4 h7 h
      go_enter Tryd.func14, Tryd.ntmps14
      go_wp2_with fail
      exact bodyPost_ret (v := .tuple #[.agg #[.int .i64 0, .int .i64 0, .int .i64 0], .bool false]) (by simp [results, Tryd.results14, go_sem]) rfl hR.out
    · have b4 := byte_ne h4
      clear h4 h
      go_enter Tryd.func14, Tryd.ntmps14
      go_wp2_with fail
      exact bodyPost_ret (v := .tuple #[.agg #[.int .i64 0, .int .i64 0, .int .i64 0], .bool false]) (by simp [results, Tryd.results14, go_sem]) rfl hR.out
  · have b10 : ((l.length : Int) != 10) = true := by simp; omega
    clear h10 h
    go_enter Tryd.func14, Tryd.ntmps14
    go_wp2_with fail
    exact bodyPost_ret (v := .tuple #[.agg #[.int .i64 0, .int .i64 0, .int .i64 0], .bool false]) (by simp [results, Tryd.results14, go_sem]) rfl hR.out

/-- What the three calls read. -/
theorem parts_str (l : List UInt8) (h : l.length = 10) : (str l).extract 0 4 = str (yy l) ∧ (str l).extract 5 7 = str (mm l) ∧ (str l).extract 8 10 = str (dd l) := by
  refine ⟨by rw [ext_str]; rfl, by rw [ext_str]; rfl, ?_⟩
  rw [ext_str, List.take_of_length_le (by simp; omega)]
  rfl

set_option maxHeartbeats 1000000 in
theorem impl_ReadDate_at (l : List UInt8) (h10 : l.length = 10) (h4 : Hid (l[4]? = some 45)) (h7 : Hid (l[7]? = some 45)) (w : World) : Calls Tryd.prog 14 #[.string (str l)] w (ReadRet l w) := by
  have sz : (str l).size = 10 := by rw [str_size]; exact h10
  have e4 : (str l)[4]'(by rw [str_size]; omega) = l[4] := get_str l 4 _
  have e7 : (str l)[7]'(by rw [str_size]; omega) = l[7] := get_str l 7 _
  have b4 := byte_eq (c := l[4]) (by have := h4.out; rw [List.getElem?_eq_getElem (by omega)] at this; injection this)
  have b7 := byte_eq (c := l[7]) (by have := h7.out; rw [List.getElem?_eq_getElem (by omega)] at this; injection this)
  obtain ⟨x1, x2, x3⟩ := parts_str l h10
  have H10 := Lib.hid h10
  have k1 : (yy l).length ≤ 9 := by simp [yy]; omega
  have k2 : (mm l).length ≤ 9 := by simp [mm]; omega
  have k3 : (dd l).length ≤ 9 := by simp [dd]; omega

  go_enter Tryd.func14, Tryd.ntmps14
  go_wp2_with fail
  refine (impl_readDigits (yy l) k1 _).mono ?_
  rintro e w1 ⟨rfl, rfl⟩
  go_wp2_with fail
  refine (impl_readDigits (mm l) k2 _).mono ?_
  rintro e w1 ⟨rfl, rfl⟩
  go_wp2_with fail
  refine (impl_readDigits (dd l) k3 _).mono ?_
  rintro e w1 ⟨rfl, rfl⟩
  have hbel : ∀ o : Obj, Below w.heap.size w ((w.alloc (.cells #[.int .i64 0, .int .i64 0, .int .i64 0] 25)).alloc o) := fun o => ((Below.refl _ _).alloc (Nat.le_refl _) _).alloc (by simp) _
  by_cases a1 : allDg (yy l) = true
  · by_cases a2 : allDg (mm l) = true
    · by_cases a3 : allDg (dd l) = true
      · have n1 : rdNum (yy l) = Txt.plain (yy l) := by simp [rdNum, a1]
        have n2 : rdNum (mm l) = Txt.plain (mm l) := by simp [rdNum, a2]
        have n3 : rdNum (dd l) = Txt.plain (dd l) := by simp [rdNum, a3]
        have A := Lib.hid (And.intro a1 (And.intro a2 a3))
        go_wp2_with fail
        generalize hy : Txt.plain (yy l) = y at *
        generalize hm : Txt.plain (mm l) = m at *
        generalize hd : Txt.plain (dd l) = d at *
        have HP := Lib.hid (And.intro hy (And.intro hm hd))
        clear hy hm hd n1 n2 n3
        refine (impl_isValid y m d _).mono ?_
        rintro e w2 ⟨rfl, hb⟩
        have qR : Blk w2 w.heap.size 25 #[.int .i64 0, .int .i64 0, .int .i64 0] := ((Blk.new w _ _).alloc _).below hb (by simp; omega)
        have qD : Blk w2 (w.heap.size + 1) 25 #[.int .i64 y, .int .i64 m, .int .i64 d] := by
          have := (Blk.new (w.alloc (.cells #[.int .i64 0, .int .i64 0, .int .i64 0] 25)) 25 #[.int .i64 y, .int .i64 m, .int .i64 d]).below hb (by simp)
          simpa using this
        have hB := (hbel (.cells #[.int .i64 y, .int .i64 m, .int .i64 d] 25)).trans (hb.mono (by simp; omega))
        clear hbel hb
        obtain ⟨c0, c1, c2⟩ := qR.three
        have z0 := qR.frozen 0
        have z1 := qR.frozen 1
        have z2 := qR.frozen 2
        obtain ⟨g0, g1, g2⟩ := qD.three
        have hB3 : ∀ a b c : Value, Below w.heap.size w (((w2.setCell ⟨w.heap.size, 0, none⟩ a).setCell ⟨w.heap.size, 1, none⟩ b).setCell ⟨w.heap.size, 2, none⟩ c) := fun a b c => ((hB.setCell (Nat.le_refl _) _).setCell (Nat.le_refl _) _).setCell (Nat.le_refl _) _
        clear qR qD hB
        by_cases hv : (vb false y m d || vb true y m d) = true
        · have HV := Lib.hid (show Cal.valid false y m d ∨ Cal.valid true y m d by simpa [vb_iff] using hv)
          go_wp2_with fail
          refine bodyPost_ret (v := .tuple #[.agg #[.int .i64 y, .int .i64 m, .int .i64 d], .bool true]) (by simp [results, Tryd.results14, go_sem, c0, c1, c2]) rfl ⟨y, m, d, true, rfl, ?_, hB3 _ _ _⟩
          obtain ⟨rfl, rfl, rfl⟩ := HP.out
          exact isRead_yes H10.out h4.out h7.out A.out.1 A.out.2.1 A.out.2.2 HV.out
        · have hv' : (vb false y m d || vb true y m d) = false := by simpa using hv
          have HV := Lib.hid (show ¬ (Cal.valid false y m d ∨ Cal.valid true y m d) by simpa [vb_iff] using hv)
          clear hv
          go_wp2_with fail
          refine bodyPost_ret (v := .tuple #[.agg #[.int .i64 0, .int .i64 0, .int .i64 0], .bool false]) (by simp [results, Tryd.results14, go_sem, c0, c1, c2]) rfl (refusal (isRead_no fun _ _ _ _ _ _ => ?_) (hB3 _ _ _))
          obtain ⟨rfl, rfl, rfl⟩ := HP.out
          exact HV.out
      · have f3 : allDg (dd l) = false := by simpa using a3
        have HN := Lib.hid (isRead_no (l := l) (fun _ _ _ x1 x2 x3 => absurd x3 a3))
        clear a3
        go_wp2_with fail
        exact bodyPost_ret (v := .tuple #[.agg #[.int .i64 0, .int .i64 0, .int .i64 0], .bool false]) (by simp [results, Tryd.results14, go_sem]) rfl (refusal HN.out (hbel _))
    · have f2 : allDg (mm l) = false := by simpa using a2
      have HN := Lib.hid (isRead_no (l := l) (fun _ _ _ x1 x2 x3 => absurd x2 a2))
      clear a2
      go_wp2_with fail
      exact bodyPost_ret (v := .tuple #[.agg #[.int .i64 0, .int .i64 0, .int .i64 0], .bool false]) (by simp [results, Tryd.results14, go_sem]) rfl (refusal HN.out (hbel _))
  · have f1 : allDg (yy l) = false := by simpa using a1
    have HN := Lib.hid (isRead_no (l := l) (fun _ _ _ x1 x2 x3 => absurd x1 a1))
    clear a1
    go_wp2_with fail
    exact bodyPost_ret (v := .tuple #[.agg #[.int .i64 0, .int .i64 0, .int .i64 0], .bool false]) (by simp [results, Tryd.results14, go_sem]) rfl (refusal HN.out (hbel _))

theorem impl_ReadDate (l : List UInt8) (hl : l.length ≤ 2000000) (w : World) : Calls Tryd.prog 14 #[.string (str l)] w (ReadRet l w) := by
  by_cases h : l.length = 10 ∧ l[4]? = some 45 ∧ l[7]? = some 45
  · exact impl_ReadDate_at l h.1 (Lib.hid h.2.1) (Lib.hid h.2.2) w
  · exact impl_ReadDate_no l hl (Lib.hid h) w

end Go.Proofs.YtkmkfpglnmpnmaaDoor
