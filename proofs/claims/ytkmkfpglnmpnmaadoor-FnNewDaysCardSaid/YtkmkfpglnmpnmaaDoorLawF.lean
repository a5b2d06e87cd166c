/- The walk of the law on new dates, days and the texts of dates. -/
import Derived.Test.YtkmkfpglnmpnmaaDoorLawB
import Derived.Test.YtkmkfpglnmpnmaaDoorLawD
import Derived.Test.YtkmkfpglnmpnmaaDoorFmt
import Derived.Test.YtkmkfpglnmpnmaaDoorDamage
import Derived.Test.YtkmkfpglnmpnmaaDoorSt
namespace Go.Proofs.YtkmkfpglnmpnmaaDoor
open Go.RowKit

set_option maxHeartbeats 400000 in
theorem laws_big2 (A : Option Addr) (len cap : Nat) (hm : len ≤ maxLen) (w : World) :
    Calls Tryd.prog 5 #[.slice A len cap] w fun e w' => e = .returned (.bool (decide (4096 < len))) ∧ w = w' := by
  unfold maxLen at hm
  go_enter Tryd.func5, Tryd.ntmps5
  go_wp2_with fail
  go_ret
  exact ⟨ret_bool (by simp; try omega), rfl⟩

theorem isRead_dateTx {l : List UInt8} {y m d : Int} (h : IsRead l y m d true) : dateTx y m d = l := by
  rcases h with ⟨_, hv, e⟩ | ⟨h, _⟩
  · unfold dateTx
    rw [if_pos hv]
    exact e
  · cases h
theorem isRead_of_dateTx (y m d : Int) : (IsRead (dateTx y m d) y m d true ∧ (str (dateTx y m d)).toList.isEmpty = false ∧ ((str (dateTx y m d)).toList == []) = false) ∨ (IsRead (dateTx y m d) 0 0 0 false ∧ (str (dateTx y m d)).toList.isEmpty = true ∧ ((str (dateTx y m d)).toList == []) = true) := by
  rw [str_toList]
  by_cases h : Cal.valid false y m d ∨ Cal.valid true y m d
  · refine .inl ⟨.inl ⟨rfl, h, by unfold dateTx; rw [if_pos h]⟩, ?_, ?_⟩ <;> (unfold dateTx; rw [if_pos h]; rfl)
  · have e : dateTx y m d = [] := by unfold dateTx; rw [if_neg h]
    rw [e]
    refine .inr ⟨.inr ⟨rfl, rfl, rfl, rfl, fun y' m' d' _ e' => ?_⟩, rfl, rfl⟩
    have := (date_parts y' m' d').1
    rw [e'] at this
    cases this

set_option maxRecDepth 100000 in
set_option maxHeartbeats 8000000 in
theorem walk_FnNewDays (A : Option Addr) (len cap : Nat) (zs : List Int) (W : World) (hrow : IsRow .u8 W A len cap zs) (ht : Tabs W) :
    Calls Tryd.prog 3 #[.slice A len cap] W (Bl true W) := by
  have hm : len ≤ maxLen := by
    rcases hrow with ⟨_, rfl, _⟩ | ⟨_, _, h1, h2, _⟩
    · exact Nat.zero_le _
    · omega
  have HR := Lib.hid hrow
  have HT := Lib.hid ht
  clear hrow ht
  have S := St.start W
  by_cases hbig : 4096 < len
  · go_enter Tryd.func3, Tryd.ntmps3
    go_wp2_with fail
    refine (laws_big2 A len cap hm _).mono ?_
    rintro e w1 ⟨rfl, rfl⟩
    go_wp2_with fail
    go_ret
    exact ⟨rfl, Below.refl _ _⟩
  · go_enter Tryd.func3, Tryd.ntmps3
    go_wp2_with fail
    refine (laws_big2 A len cap hm _).mono ?_
    rintro e w1 ⟨rfl, rfl⟩
    go_wp2_with fail
    refine (spec_DrawNewDay A len cap zs W _ HR.out S.bel).mono ?_
    rintro e w1 ⟨y, m, d, rfl, hy, hmm, hd, hb⟩
    have S1 := (S.call hb).alloc 25 #[.int .i64 y, .int .i64 m, .int .i64 d]
    clear S hb hy hmm hd
    go_wp2_with fail
    generalize w1.heap.size = D3 at S1 ⊢
    refine (impl_NewDay y m d _).mono ?_
    rintro e w2 ⟨rfl, hb2⟩
    have S2 := S1.call hb2
    obtain ⟨c0, c1, c2⟩ := S2.b0.three
    clear S1 hb2
    go_wp2_with fail
    refine (spec_NewDay y m d _).mono ?_
    rintro e w3 ⟨rfl, hb3⟩
    have S3 := S2.call hb3
    clear S2 hb3 c0 c1 c2
    go_wp2_with fail
    refine (spec_DrawNewDate A len cap zs W _ HR.out S3.bel).mono ?_
    rintro e w4 ⟨k, rfl, hk, hb4⟩
    have S4 := S3.call hb4
    clear S3 hb4 hk
    go_wp2_with fail
    refine (impl_NewDate k _).mono ?_
    rintro e w5 ⟨y1, m1, d1, q1, rfl, hd1, hb5⟩
    have HD := Lib.hid hd1
    have S5 := (S4.call hb5).alloc 25 #[.int .i64 y1, .int .i64 m1, .int .i64 d1]
    clear S4 hb5 hd1
    go_wp2_with fail
    generalize w5.heap.size = D9 at S5 ⊢
    refine (spec_NewDate k _).mono ?_
    rintro e w6 ⟨y2, m2, d2, q2, rfl, hd2, hb6⟩
    obtain ⟨rfl, rfl, rfl, rfl⟩ := HD.out.uniq hd2
    have S6 := (S5.call hb6).alloc 25 #[.int .i64 y1, .int .i64 m1, .int .i64 d1]
    clear S5 hb6 hd2
    go_wp2_with fail
    generalize w6.heap.size = D11 at S6 ⊢
    refine (spec_DrawDateText A len cap zs W _ HR.out S6.bel).mono ?_
    rintro e w7 ⟨a, b, c, rfl, _, _, _, hb7⟩
    have S7 := (S6.call hb7).alloc 25 #[.int .i64 a, .int .i64 b, .int .i64 c]
    clear S6 hb7
    go_wp2_with fail
    generalize w7.heap.size = D13 at S7 ⊢
    refine (impl_DateText a b c _ (HT.out.below S7.bel)).mono ?_
    rintro e w8 ⟨rfl, hb8⟩
    have S8 := S7.call hb8
    clear S7 hb8
    go_wp2_with fail
    refine (impl_ReadDate (dateTx a b c) (by have := date_len a b c; omega) _).mono ?_
    rintro e w9 ⟨a2, b2, c2, o2, rfl, hr9, hb9⟩
    have HX := Lib.hid hr9
    have S9 := (S8.call hb9).alloc 25 #[.int .i64 a2, .int .i64 b2, .int .i64 c2]
    clear S8 hb9 hr9
    go_wp2_with fail
    generalize w9.heap.size = D15 at S9 ⊢
    refine (spec_DrawReadDate A len cap zs W _ HR.out S9.bel).mono ?_
    rintro e w10 ⟨l, rfl, hl, hb10⟩
    have S10 := S9.call hb10
    clear S9 hb10
    go_wp2_with fail
    refine (impl_ReadDate l (by omega) _).mono ?_
    rintro e w11 ⟨u, v, x, o3, rfl, hr11, hb11⟩
    have HU := Lib.hid hr11
    have S11 := (S10.call hb11).alloc 25 #[.int .i64 u, .int .i64 v, .int .i64 x]
    clear S10 hb11 hr11
    go_wp2_with fail
    generalize w11.heap.size = D18 at S11 ⊢
    refine (spec_ReadDate l (by omega) _).mono ?_
    rintro e w12 ⟨u2, v2, x2, o4, rfl, hr12, hb12⟩
    obtain ⟨rfl, rfl, rfl, rfl⟩ := HU.out.uniq hr12
    have S12 := (S11.call hb12).alloc 25 #[.int .i64 u, .int .i64 v, .int .i64 x]
    clear S11 hb12 hr12 hl
    have hV : (vb true y m d = true ∧ dayErr true y m d = 0 ∧ DateIs true (dayNum true y m d) y m d 0) ∨ (vb true y m d = false ∧ dayErr true y m d = 1) := by
      by_cases hv : Cal.valid true y m d
      · refine .inl ⟨vb_true hv, by simp [dayErr, hv], ?_⟩
        have hr := Cal.num_range true hv
        rw [show dayNum true y m d = Cal.num true y m d by simp [dayNum, hv]]
        exact .inl ⟨hr.1, hr.2, rfl, hv, rfl⟩
      · exact .inr ⟨vb_false hv, by simp [dayErr, hv]⟩
    have hQ : (q1 = 0 ∧ dayNum true y1 m1 d1 = k ∧ dayErr true y1 m1 d1 = 0) ∨ q1 = 2 := by
      rcases HD.out with ⟨_, _, h, hv, hn⟩ | ⟨_, h, _⟩
      · exact .inl ⟨h, by simp [dayNum, hv, hn], by simp [dayErr, hv]⟩
      · exact .inr h
    have hX : (a = a2 ∧ b = b2 ∧ c = c2 ∧ o2 = true ∧ (str (dateTx a b c)).toList.isEmpty = false ∧ ((str (dateTx a b c)).toList == []) = false) ∨ (o2 = false ∧ (str (dateTx a b c)).toList.isEmpty = true ∧ ((str (dateTx a b c)).toList == []) = true) := by
      rcases isRead_of_dateTx a b c with ⟨h, e1, e2⟩ | ⟨h, e1, e2⟩
      · obtain ⟨g1, g2, g3, g4⟩ := HX.out.uniq h
        exact .inl ⟨g1.symm, g2.symm, g3.symm, g4, e1, e2⟩
      · exact .inr ⟨(HX.out.uniq h).2.2.2, e1, e2⟩
    have hU : (o3 = true ∧ ((str (dateTx u v x)).toList == (str l).toList) = true) ∨ o3 = false := by
      cases o3
      · exact .inr rfl
      · exact .inl ⟨rfl, by rw [isRead_dateTx HU.out]; simp⟩
    have hQ2 := Lib.hid hQ
    have hV2 := Lib.hid hV
    have hX2 := Lib.hid hX
    have hU2 := Lib.hid hU
    clear hQ hV hX hU HD HX HU
    rcases hX2.out with ⟨rfl, rfl, rfl, rfl, eX, eX2⟩ | ⟨rfl, eX, eX2⟩
    · clear hX2
      rcases hU2.out with ⟨rfl, eU⟩ | rfl
      · clear hU2
        rcases hV2.out with ⟨eV, eE, hu⟩ | ⟨eV, eE⟩
        · clear hV2
          have HN := Lib.hid hu
          clear hu
          rcases hQ2.out with ⟨rfl, eN1, eE1⟩ | rfl
          · clear hQ2
            obtain ⟨t90, t91, t92⟩ := S12.b0.three
            obtain ⟨g90, g91, g92⟩ := S12.b1.three
            obtain ⟨f90, f91, f92⟩ := S12.b2.three
            obtain ⟨i90, i91, i92⟩ := S12.b3.three
            obtain ⟨j90, j91, j92⟩ := S12.b4.three
            obtain ⟨n90, n91, n92⟩ := S12.tail.b4.three
            obtain ⟨r90, r91, r92⟩ := S12.tail.tail.b4.three
            go_wp2_with fail
            refine (spec_DateText a b c _).mono ?_
            rintro e w13 ⟨rfl, hb13⟩
            have S13 := S12.call hb13
            clear t90 t91 t92 g90 g91 g92 f90 f91 f92 i90 i91 i92 j90 j91 j92 n90 n91 n92 r90 r91 r92
            obtain ⟨t90, t91, t92⟩ := S13.b0.three
            obtain ⟨g90, g91, g92⟩ := S13.b1.three
            obtain ⟨f90, f91, f92⟩ := S13.b2.three
            obtain ⟨i90, i91, i92⟩ := S13.b3.three
            obtain ⟨j90, j91, j92⟩ := S13.b4.three
            obtain ⟨n90, n91, n92⟩ := S13.tail.b4.three
            obtain ⟨r90, r91, r92⟩ := S13.tail.tail.b4.three
            go_wp2_with fail
            refine (impl_DateText u v x _ (HT.out.below S13.bel)).mono ?_
            rintro e w14 ⟨rfl, hb14⟩
            have S14 := S13.call hb14
            clear t90 t91 t92 g90 g91 g92 f90 f91 f92 i90 i91 i92 j90 j91 j92 n90 n91 n92 r90 r91 r92
            obtain ⟨t90, t91, t92⟩ := S14.b0.three
            obtain ⟨g90, g91, g92⟩ := S14.b1.three
            obtain ⟨f90, f91, f92⟩ := S14.b2.three
            obtain ⟨i90, i91, i92⟩ := S14.b3.three
            obtain ⟨j90, j91, j92⟩ := S14.b4.three
            obtain ⟨n90, n91, n92⟩ := S14.tail.b4.three
            obtain ⟨r90, r91, r92⟩ := S14.tail.tail.b4.three
            go_wp2_with fail
            refine (impl_IsNewDate y m d _).mono ?_
            rintro e w15 ⟨rfl, hb15⟩
            have S15 := S14.call hb15
            clear t90 t91 t92 g90 g91 g92 f90 f91 f92 i90 i91 i92 j90 j91 j92 n90 n91 n92 r90 r91 r92
            obtain ⟨t90, t91, t92⟩ := S15.b0.three
            obtain ⟨g90, g91, g92⟩ := S15.b1.three
            obtain ⟨f90, f91, f92⟩ := S15.b2.three
            obtain ⟨i90, i91, i92⟩ := S15.b3.three
            obtain ⟨j90, j91, j92⟩ := S15.b4.three
            obtain ⟨n90, n91, n92⟩ := S15.tail.b4.three
            obtain ⟨r90, r91, r92⟩ := S15.tail.tail.b4.three
            go_wp2_with fail
            refine (impl_NewDay y1 m1 d1 _).mono ?_
            rintro e w16 ⟨rfl, hb16⟩
            have S16 := S15.call hb16
            clear t90 t91 t92 g90 g91 g92 f90 f91 f92 i90 i91 i92 j90 j91 j92 n90 n91 n92 r90 r91 r92
            obtain ⟨t90, t91, t92⟩ := S16.b0.three
            obtain ⟨g90, g91, g92⟩ := S16.b1.three
            obtain ⟨f90, f91, f92⟩ := S16.b2.three
            obtain ⟨i90, i91, i92⟩ := S16.b3.three
            obtain ⟨j90, j91, j92⟩ := S16.b4.three
            obtain ⟨n90, n91, n92⟩ := S16.tail.b4.three
            obtain ⟨r90, r91, r92⟩ := S16.tail.tail.b4.three
            go_wp2_with fail
            refine (impl_NewDate (dayNum true y m d) _).mono ?_
            rintro e w17 ⟨y3, m3, d3, q3, rfl, hd3, hb17⟩
            obtain ⟨rfl, rfl, rfl, rfl⟩ := HN.out.uniq hd3
            have S18 := (S16.call hb17).alloc 25 #[.int .i64 y, .int .i64 m, .int .i64 d]
            clear HN hd3 t90 t91 t92 g90 g91 g92 f90 f91 f92 i90 i91 i92 j90 j91 j92 n90 n91 n92 r90 r91 r92
            obtain ⟨r90, r91, r92⟩ := S18.tail.tail.tail.b4.three
            go_wp2_with fail
            go_ret
            exact ⟨rfl, S18.bel⟩
          · clear hQ2
            obtain ⟨t90, t91, t92⟩ := S12.b0.three
            obtain ⟨g90, g91, g92⟩ := S12.b1.three
            obtain ⟨f90, f91, f92⟩ := S12.b2.three
            obtain ⟨i90, i91, i92⟩ := S12.b3.three
            obtain ⟨j90, j91, j92⟩ := S12.b4.three
            obtain ⟨n90, n91, n92⟩ := S12.tail.b4.three
            obtain ⟨r90, r91, r92⟩ := S12.tail.tail.b4.three
            go_wp2_with fail
            refine (spec_DateText a b c _).mono ?_
            rintro e w13 ⟨rfl, hb13⟩
            have S13 := S12.call hb13
            clear t90 t91 t92 g90 g91 g92 f90 f91 f92 i90 i91 i92 j90 j91 j92 n90 n91 n92 r90 r91 r92
            obtain ⟨t90, t91, t92⟩ := S13.b0.three
            obtain ⟨g90, g91, g92⟩ := S13.b1.three
            obtain ⟨f90, f91, f92⟩ := S13.b2.three
            obtain ⟨i90, i91, i92⟩ := S13.b3.three
            obtain ⟨j90, j91, j92⟩ := S13.b4.three
            obtain ⟨n90, n91, n92⟩ := S13.tail.b4.three
            obtain ⟨r90, r91, r92⟩ := S13.tail.tail.b4.three
            go_wp2_with fail
            refine (impl_DateText u v x _ (HT.out.below S13.bel)).mono ?_
            rintro e w14 ⟨rfl, hb14⟩
            have S14 := S13.call hb14
            clear t90 t91 t92 g90 g91 g92 f90 f91 f92 i90 i91 i92 j90 j91 j92 n90 n91 n92 r90 r91 r92
            obtain ⟨t90, t91, t92⟩ := S14.b0.three
            obtain ⟨g90, g91, g92⟩ := S14.b1.three
            obtain ⟨f90, f91, f92⟩ := S14.b2.three
            obtain ⟨i90, i91, i92⟩ := S14.b3.three
            obtain ⟨j90, j91, j92⟩ := S14.b4.three
            obtain ⟨n90, n91, n92⟩ := S14.tail.b4.three
            obtain ⟨r90, r91, r92⟩ := S14.tail.tail.b4.three
            go_wp2_with fail
            refine (impl_IsNewDate y m d _).mono ?_
            rintro e w15 ⟨rfl, hb15⟩
            have S15 := S14.call hb15
            clear t90 t91 t92 g90 g91 g92 f90 f91 f92 i90 i91 i92 j90 j91 j92 n90 n91 n92 r90 r91 r92
            obtain ⟨t90, t91, t92⟩ := S15.b0.three
            obtain ⟨g90, g91, g92⟩ := S15.b1.three
            obtain ⟨f90, f91, f92⟩ := S15.b2.three
            obtain ⟨i90, i91, i92⟩ := S15.b3.three
            obtain ⟨j90, j91, j92⟩ := S15.b4.three
            obtain ⟨n90, n91, n92⟩ := S15.tail.b4.three
            obtain ⟨r90, r91, r92⟩ := S15.tail.tail.b4.three
            go_wp2_with fail
            refine (impl_NewDate (dayNum true y m d) _).mono ?_
            rintro e w16 ⟨y3, m3, d3, q3, rfl, hd3, hb16⟩
            obtain ⟨rfl, rfl, rfl, rfl⟩ := HN.out.uniq hd3
            have S17 := (S15.call hb16).alloc 25 #[.int .i64 y, .int .i64 m, .int .i64 d]
            clear HN hd3 t90 t91 t92 g90 g91 g92 f90 f91 f92 i90 i91 i92 j90 j91 j92 n90 n91 n92 r90 r91 r92
            obtain ⟨r90, r91, r92⟩ := S17.tail.tail.tail.b4.three
            go_wp2_with fail
            go_ret
            exact ⟨rfl, S17.bel⟩
        · clear hV2
          rcases hQ2.out with ⟨rfl, eN1, eE1⟩ | rfl
          · clear hQ2
            obtain ⟨t90, t91, t92⟩ := S12.b0.three
            obtain ⟨g90, g91, g92⟩ := S12.b1.three
            obtain ⟨f90, f91, f92⟩ := S12.b2.three
            obtain ⟨i90, i91, i92⟩ := S12.b3.three
            obtain ⟨j90, j91, j92⟩ := S12.b4.three
            obtain ⟨n90, n91, n92⟩ := S12.tail.b4.three
            obtain ⟨r90, r91, r92⟩ := S12.tail.tail.b4.three
            go_wp2_with fail
            refine (spec_DateText a b c _).mono ?_
            rintro e w13 ⟨rfl, hb13⟩
            have S13 := S12.call hb13
            clear t90 t91 t92 g90 g91 g92 f90 f91 f92 i90 i91 i92 j90 j91 j92 n90 n91 n92 r90 r91 r92
            obtain ⟨t90, t91, t92⟩ := S13.b0.three
            obtain ⟨g90, g91, g92⟩ := S13.b1.three
            obtain ⟨f90, f91, f92⟩ := S13.b2.three
            obtain ⟨i90, i91, i92⟩ := S13.b3.three
            obtain ⟨j90, j91, j92⟩ := S13.b4.three
            obtain ⟨n90, n91, n92⟩ := S13.tail.b4.three
            obtain ⟨r90, r91, r92⟩ := S13.tail.tail.b4.three
            go_wp2_with fail
            refine (impl_DateText u v x _ (HT.out.below S13.bel)).mono ?_
            rintro e w14 ⟨rfl, hb14⟩
            have S14 := S13.call hb14
            clear t90 t91 t92 g90 g91 g92 f90 f91 f92 i90 i91 i92 j90 j91 j92 n90 n91 n92 r90 r91 r92
            obtain ⟨t90, t91, t92⟩ := S14.b0.three
            obtain ⟨g90, g91, g92⟩ := S14.b1.three
            obtain ⟨f90, f91, f92⟩ := S14.b2.three
            obtain ⟨i90, i91, i92⟩ := S14.b3.three
            obtain ⟨j90, j91, j92⟩ := S14.b4.three
            obtain ⟨n90, n91, n92⟩ := S14.tail.b4.three
            obtain ⟨r90, r91, r92⟩ := S14.tail.tail.b4.three
            go_wp2_with fail
            refine (impl_IsNewDate y m d _).mono ?_
            rintro e w15 ⟨rfl, hb15⟩
            have S15 := S14.call hb15
            clear t90 t91 t92 g90 g91 g92 f90 f91 f92 i90 i91 i92 j90 j91 j92 n90 n91 n92 r90 r91 r92
            obtain ⟨t90, t91, t92⟩ := S15.b0.three
            obtain ⟨g90, g91, g92⟩ := S15.b1.three
            obtain ⟨f90, f91, f92⟩ := S15.b2.three
            obtain ⟨i90, i91, i92⟩ := S15.b3.three
            obtain ⟨j90, j91, j92⟩ := S15.b4.three
            obtain ⟨n90, n91, n92⟩ := S15.tail.b4.three
            obtain ⟨r90, r91, r92⟩ := S15.tail.tail.b4.three
            go_wp2_with fail
            refine (impl_NewDay y1 m1 d1 _).mono ?_
            rintro e w16 ⟨rfl, hb16⟩
            have S16 := S15.call hb16
            clear t90 t91 t92 g90 g91 g92 f90 f91 f92 i90 i91 i92 j90 j91 j92 n90 n91 n92 r90 r91 r92
            obtain ⟨t90, t91, t92⟩ := S16.b0.three
            obtain ⟨g90, g91, g92⟩ := S16.b1.three
            obtain ⟨f90, f91, f92⟩ := S16.b2.three
            obtain ⟨i90, i91, i92⟩ := S16.b3.three
            obtain ⟨j90, j91, j92⟩ := S16.b4.three
            obtain ⟨n90, n91, n92⟩ := S16.tail.b4.three
            obtain ⟨r90, r91, r92⟩ := S16.tail.tail.b4.three
            go_wp2_with fail
            go_ret
            exact ⟨rfl, S16.bel⟩
          · clear hQ2
            obtain ⟨t90, t91, t92⟩ := S12.b0.three
            obtain ⟨g90, g91, g92⟩ := S12.b1.three
            obtain ⟨f90, f91, f92⟩ := S12.b2.three
            obtain ⟨i90, i91, i92⟩ := S12.b3.three
            obtain ⟨j90, j91, j92⟩ := S12.b4.three
            obtain ⟨n90, n91, n92⟩ := S12.tail.b4.three
            obtain ⟨r90, r91, r92⟩ := S12.tail.tail.b4.three
            go_wp2_with fail
            refine (spec_DateText a b c _).mono ?_
            rintro e w13 ⟨rfl, hb13⟩
            have S13 := S12.call hb13
            clear t90 t91 t92 g90 g91 g92 f90 f91 f92 i90 i91 i92 j90 j91 j92 n90 n91 n92 r90 r91 r92
            obtain ⟨t90, t91, t92⟩ := S13.b0.three
            obtain ⟨g90, g91, g92⟩ := S13.b1.three
            obtain ⟨f90, f91, f92⟩ := S13.b2.three
            obtain ⟨i90, i91, i92⟩ := S13.b3.three
            obtain ⟨j90, j91, j92⟩ := S13.b4.three
            obtain ⟨n90, n91, n92⟩ := S13.tail.b4.three
            obtain ⟨r90, r91, r92⟩ := S13.tail.tail.b4.three
            go_wp2_with fail
            refine (impl_DateText u v x _ (HT.out.below S13.bel)).mono ?_
            rintro e w14 ⟨rfl, hb14⟩
            have S14 := S13.call hb14
            clear t90 t91 t92 g90 g91 g92 f90 f91 f92 i90 i91 i92 j90 j91 j92 n90 n91 n92 r90 r91 r92
            obtain ⟨t90, t91, t92⟩ := S14.b0.three
            obtain ⟨g90, g91, g92⟩ := S14.b1.three
            obtain ⟨f90, f91, f92⟩ := S14.b2.three
            obtain ⟨i90, i91, i92⟩ := S14.b3.three
            obtain ⟨j90, j91, j92⟩ := S14.b4.three
            obtain ⟨n90, n91, n92⟩ := S14.tail.b4.three
            obtain ⟨r90, r91, r92⟩ := S14.tail.tail.b4.three
            go_wp2_with fail
            refine (impl_IsNewDate y m d _).mono ?_
            rintro e w15 ⟨rfl, hb15⟩
            have S15 := S14.call hb15
            clear t90 t91 t92 g90 g91 g92 f90 f91 f92 i90 i91 i92 j90 j91 j92 n90 n91 n92 r90 r91 r92
            obtain ⟨t90, t91, t92⟩ := S15.b0.three
            obtain ⟨g90, g91, g92⟩ := S15.b1.three
            obtain ⟨f90, f91, f92⟩ := S15.b2.three
            obtain ⟨i90, i91, i92⟩ := S15.b3.three
            obtain ⟨j90, j91, j92⟩ := S15.b4.three
            obtain ⟨n90, n91, n92⟩ := S15.tail.b4.three
            obtain ⟨r90, r91, r92⟩ := S15.tail.tail.b4.three
            go_wp2_with fail
            go_ret
            exact ⟨rfl, S15.bel⟩
      · clear hU2
        rcases hV2.out with ⟨eV, eE, hu⟩ | ⟨eV, eE⟩
        · clear hV2
          have HN := Lib.hid hu
          clear hu
          rcases hQ2.out with ⟨rfl, eN1, eE1⟩ | rfl
          · clear hQ2
            obtain ⟨t90, t91, t92⟩ := S12.b0.three
            obtain ⟨g90, g91, g92⟩ := S12.b1.three
            obtain ⟨f90, f91, f92⟩ := S12.b2.three
            obtain ⟨i90, i91, i92⟩ := S12.b3.three
            obtain ⟨j90, j91, j92⟩ := S12.b4.three
            obtain ⟨n90, n91, n92⟩ := S12.tail.b4.three
            obtain ⟨r90, r91, r92⟩ := S12.tail.tail.b4.three
            go_wp2_with fail
            refine (spec_DateText a b c _).mono ?_
            rintro e w13 ⟨rfl, hb13⟩
            have S13 := S12.call hb13
            clear t90 t91 t92 g90 g91 g92 f90 f91 f92 i90 i91 i92 j90 j91 j92 n90 n91 n92 r90 r91 r92
            obtain ⟨t90, t91, t92⟩ := S13.b0.three
            obtain ⟨g90, g91, g92⟩ := S13.b1.three
            obtain ⟨f90, f91, f92⟩ := S13.b2.three
            obtain ⟨i90, i91, i92⟩ := S13.b3.three
            obtain ⟨j90, j91, j92⟩ := S13.b4.three
            obtain ⟨n90, n91, n92⟩ := S13.tail.b4.three
            obtain ⟨r90, r91, r92⟩ := S13.tail.tail.b4.three
            go_wp2_with fail
            refine (impl_IsNewDate y m d _).mono ?_
            rintro e w14 ⟨rfl, hb14⟩
            have S14 := S13.call hb14
            clear t90 t91 t92 g90 g91 g92 f90 f91 f92 i90 i91 i92 j90 j91 j92 n90 n91 n92 r90 r91 r92
            obtain ⟨t90, t91, t92⟩ := S14.b0.three
            obtain ⟨g90, g91, g92⟩ := S14.b1.three
            obtain ⟨f90, f91, f92⟩ := S14.b2.three
            obtain ⟨i90, i91, i92⟩ := S14.b3.three
            obtain ⟨j90, j91, j92⟩ := S14.b4.three
            obtain ⟨n90, n91, n92⟩ := S14.tail.b4.three
            obtain ⟨r90, r91, r92⟩ := S14.tail.tail.b4.three
            go_wp2_with fail
            refine (impl_NewDay y1 m1 d1 _).mono ?_
            rintro e w15 ⟨rfl, hb15⟩
            have S15 := S14.call hb15
            clear t90 t91 t92 g90 g91 g92 f90 f91 f92 i90 i91 i92 j90 j91 j92 n90 n91 n92 r90 r91 r92
            obtain ⟨t90, t91, t92⟩ := S15.b0.three
            obtain ⟨g90, g91, g92⟩ := S15.b1.three
            obtain ⟨f90, f91, f92⟩ := S15.b2.three
            obtain ⟨i90, i91, i92⟩ := S15.b3.three
            obtain ⟨j90, j91, j92⟩ := S15.b4.three
            obtain ⟨n90, n91, n92⟩ := S15.tail.b4.three
            obtain ⟨r90, r91, r92⟩ := S15.tail.tail.b4.three
            go_wp2_with fail
            refine (impl_NewDate (dayNum true y m d) _).mono ?_
            rintro e w16 ⟨y3, m3, d3, q3, rfl, hd3, hb16⟩
            obtain ⟨rfl, rfl, rfl, rfl⟩ := HN.out.uniq hd3
            have S17 := (S15.call hb16).alloc 25 #[.int .i64 y, .int .i64 m, .int .i64 d]
            clear HN hd3 t90 t91 t92 g90 g91 g92 f90 f91 f92 i90 i91 i92 j90 j91 j92 n90 n91 n92 r90 r91 r92
            obtain ⟨r90, r91, r92⟩ := S17.tail.tail.tail.b4.three
            go_wp2_with fail
            go_ret
            exact ⟨rfl, S17.bel⟩
          · clear hQ2
            obtain ⟨t90, t91, t92⟩ := S12.b0.three
            obtain ⟨g90, g91, g92⟩ := S12.b1.three
            obtain ⟨f90, f91, f92⟩ := S12.b2.three
            obtain ⟨i90, i91, i92⟩ := S12.b3.three
            obtain ⟨j90, j91, j92⟩ := S12.b4.three
            obtain ⟨n90, n91, n92⟩ := S12.tail.b4.three
            obtain ⟨r90, r91, r92⟩ := S12.tail.tail.b4.three
            go_wp2_with fail
            refine (spec_DateText a b c _).mono ?_
            rintro e w13 ⟨rfl, hb13⟩
            have S13 := S12.call hb13
            clear t90 t91 t92 g90 g91 g92 f90 f91 f92 i90 i91 i92 j90 j91 j92 n90 n91 n92 r90 r91 r92
            obtain ⟨t90, t91, t92⟩ := S13.b0.three
            obtain ⟨g90, g91, g92⟩ := S13.b1.three
            obtain ⟨f90, f91, f92⟩ := S13.b2.three
            obtain ⟨i90, i91, i92⟩ := S13.b3.three
            obtain ⟨j90, j91, j92⟩ := S13.b4.three
            obtain ⟨n90, n91, n92⟩ := S13.tail.b4.three
            obtain ⟨r90, r91, r92⟩ := S13.tail.tail.b4.three
            go_wp2_with fail
            refine (impl_IsNewDate y m d _).mono ?_
            rintro e w14 ⟨rfl, hb14⟩
            have S14 := S13.call hb14
            clear t90 t91 t92 g90 g91 g92 f90 f91 f92 i90 i91 i92 j90 j91 j92 n90 n91 n92 r90 r91 r92
            obtain ⟨t90, t91, t92⟩ := S14.b0.three
            obtain ⟨g90, g91, g92⟩ := S14.b1.three
            obtain ⟨f90, f91, f92⟩ := S14.b2.three
            obtain ⟨i90, i91, i92⟩ := S14.b3.three
            obtain ⟨j90, j91, j92⟩ := S14.b4.three
            obtain ⟨n90, n91, n92⟩ := S14.tail.b4.three
            obtain ⟨r90, r91, r92⟩ := S14.tail.tail.b4.three
            go_wp2_with fail
            refine (impl_NewDate (dayNum true y m d) _).mono ?_
            rintro e w15 ⟨y3, m3, d3, q3, rfl, hd3, hb15⟩
            obtain ⟨rfl, rfl, rfl, rfl⟩ := HN.out.uniq hd3
            have S16 := (S14.call hb15).alloc 25 #[.int .i64 y, .int .i64 m, .int .i64 d]
            clear HN hd3 t90 t91 t92 g90 g91 g92 f90 f91 f92 i90 i91 i92 j90 j91 j92 n90 n91 n92 r90 r91 r92
            obtain ⟨r90, r91, r92⟩ := S16.tail.tail.tail.b4.three
            go_wp2_with fail
            go_ret
            exact ⟨rfl, S16.bel⟩
        · clear hV2
          rcases hQ2.out with ⟨rfl, eN1, eE1⟩ | rfl
          · clear hQ2
            obtain ⟨t90, t91, t92⟩ := S12.b0.three
            obtain ⟨g90, g91, g92⟩ := S12.b1.three
            obtain ⟨f90, f91, f92⟩ := S12.b2.three
            obtain ⟨i90, i91, i92⟩ := S12.b3.three
            obtain ⟨j90, j91, j92⟩ := S12.b4.three
            obtain ⟨n90, n91, n92⟩ := S12.tail.b4.three
            obtain ⟨r90, r91, r92⟩ := S12.tail.tail.b4.three
            go_wp2_with fail
            refine (spec_DateText a b c _).mono ?_
            rintro e w13 ⟨rfl, hb13⟩
            have S13 := S12.call hb13
            clear t90 t91 t92 g90 g91 g92 f90 f91 f92 i90 i91 i92 j90 j91 j92 n90 n91 n92 r90 r91 r92
            obtain ⟨t90, t91, t92⟩ := S13.b0.three
            obtain ⟨g90, g91, g92⟩ := S13.b1.three
            obtain ⟨f90, f91, f92⟩ := S13.b2.three
            obtain ⟨i90, i91, i92⟩ := S13.b3.three
            obtain ⟨j90, j91, j92⟩ := S13.b4.three
            obtain ⟨n90, n91, n92⟩ := S13.tail.b4.three
            obtain ⟨r90, r91, r92⟩ := S13.tail.tail.b4.three
            go_wp2_with fail
            refine (impl_IsNewDate y m d _).mono ?_
            rintro e w14 ⟨rfl, hb14⟩
            have S14 := S13.call hb14
            clear t90 t91 t92 g90 g91 g92 f90 f91 f92 i90 i91 i92 j90 j91 j92 n90 n91 n92 r90 r91 r92
            obtain ⟨t90, t91, t92⟩ := S14.b0.three
            obtain ⟨g90, g91, g92⟩ := S14.b1.three
            obtain ⟨f90, f91, f92⟩ := S14.b2.three
            obtain ⟨i90, i91, i92⟩ := S14.b3.three
            obtain ⟨j90, j91, j92⟩ := S14.b4.three
            obtain ⟨n90, n91, n92⟩ := S14.tail.b4.three
            obtain ⟨r90, r91, r92⟩ := S14.tail.tail.b4.three
            go_wp2_with fail
            refine (impl_NewDay y1 m1 d1 _).mono ?_
            rintro e w15 ⟨rfl, hb15⟩
            have S15 := S14.call hb15
            clear t90 t91 t92 g90 g91 g92 f90 f91 f92 i90 i91 i92 j90 j91 j92 n90 n91 n92 r90 r91 r92
            obtain ⟨t90, t91, t92⟩ := S15.b0.three
            obtain ⟨g90, g91, g92⟩ := S15.b1.three
            obtain ⟨f90, f91, f92⟩ := S15.b2.three
            obtain ⟨i90, i91, i92⟩ := S15.b3.three
            obtain ⟨j90, j91, j92⟩ := S15.b4.three
            obtain ⟨n90, n91, n92⟩ := S15.tail.b4.three
            obtain ⟨r90, r91, r92⟩ := S15.tail.tail.b4.three
            go_wp2_with fail
            go_ret
            exact ⟨rfl, S15.bel⟩
          · clear hQ2
            obtain ⟨t90, t91, t92⟩ := S12.b0.three
            obtain ⟨g90, g91, g92⟩ := S12.b1.three
            obtain ⟨f90, f91, f92⟩ := S12.b2.three
            obtain ⟨i90, i91, i92⟩ := S12.b3.three
            obtain ⟨j90, j91, j92⟩ := S12.b4.three
            obtain ⟨n90, n91, n92⟩ := S12.tail.b4.three
            obtain ⟨r90, r91, r92⟩ := S12.tail.tail.b4.three
            go_wp2_with fail
            refine (spec_DateText a b c _).mono ?_
            rintro e w13 ⟨rfl, hb13⟩
            have S13 := S12.call hb13
            clear t90 t91 t92 g90 g91 g92 f90 f91 f92 i90 i91 i92 j90 j91 j92 n90 n91 n92 r90 r91 r92
            obtain ⟨t90, t91, t92⟩ := S13.b0.three
            obtain ⟨g90, g91, g92⟩ := S13.b1.three
            obtain ⟨f90, f91, f92⟩ := S13.b2.three
            obtain ⟨i90, i91, i92⟩ := S13.b3.three
            obtain ⟨j90, j91, j92⟩ := S13.b4.three
            obtain ⟨n90, n91, n92⟩ := S13.tail.b4.three
            obtain ⟨r90, r91, r92⟩ := S13.tail.tail.b4.three
            go_wp2_with fail
            refine (impl_IsNewDate y m d _).mono ?_
            rintro e w14 ⟨rfl, hb14⟩
            have S14 := S13.call hb14
            clear t90 t91 t92 g90 g91 g92 f90 f91 f92 i90 i91 i92 j90 j91 j92 n90 n91 n92 r90 r91 r92
            obtain ⟨t90, t91, t92⟩ := S14.b0.three
            obtain ⟨g90, g91, g92⟩ := S14.b1.three
            obtain ⟨f90, f91, f92⟩ := S14.b2.three
            obtain ⟨i90, i91, i92⟩ := S14.b3.three
            obtain ⟨j90, j91, j92⟩ := S14.b4.three
            obtain ⟨n90, n91, n92⟩ := S14.tail.b4.three
            obtain ⟨r90, r91, r92⟩ := S14.tail.tail.b4.three
            go_wp2_with fail
            go_ret
            exact ⟨rfl, S14.bel⟩
    · clear hX2
      rcases hU2.out with ⟨rfl, eU⟩ | rfl
      · clear hU2
        rcases hV2.out with ⟨eV, eE, hu⟩ | ⟨eV, eE⟩
        · clear hV2
          have HN := Lib.hid hu
          clear hu
          rcases hQ2.out with ⟨rfl, eN1, eE1⟩ | rfl
          · clear hQ2
            obtain ⟨t90, t91, t92⟩ := S12.b0.three
            obtain ⟨g90, g91, g92⟩ := S12.b1.three
            obtain ⟨f90, f91, f92⟩ := S12.b2.three
            obtain ⟨i90, i91, i92⟩ := S12.b3.three
            obtain ⟨j90, j91, j92⟩ := S12.b4.three
            obtain ⟨n90, n91, n92⟩ := S12.tail.b4.three
            obtain ⟨r90, r91, r92⟩ := S12.tail.tail.b4.three
            go_wp2_with fail
            refine (spec_DateText a b c _).mono ?_
            rintro e w13 ⟨rfl, hb13⟩
            have S13 := S12.call hb13
            clear t90 t91 t92 g90 g91 g92 f90 f91 f92 i90 i91 i92 j90 j91 j92 n90 n91 n92 r90 r91 r92
            obtain ⟨t90, t91, t92⟩ := S13.b0.three
            obtain ⟨g90, g91, g92⟩ := S13.b1.three
            obtain ⟨f90, f91, f92⟩ := S13.b2.three
            obtain ⟨i90, i91, i92⟩ := S13.b3.three
            obtain ⟨j90, j91, j92⟩ := S13.b4.three
            obtain ⟨n90, n91, n92⟩ := S13.tail.b4.three
            obtain ⟨r90, r91, r92⟩ := S13.tail.tail.b4.three
            go_wp2_with fail
            refine (impl_DateText u v x _ (HT.out.below S13.bel)).mono ?_
            rintro e w14 ⟨rfl, hb14⟩
            have S14 := S13.call hb14
            clear t90 t91 t92 g90 g91 g92 f90 f91 f92 i90 i91 i92 j90 j91 j92 n90 n91 n92 r90 r91 r92
            obtain ⟨t90, t91, t92⟩ := S14.b0.three
            obtain ⟨g90, g91, g92⟩ := S14.b1.three
            obtain ⟨f90, f91, f92⟩ := S14.b2.three
            obtain ⟨i90, i91, i92⟩ := S14.b3.three
            obtain ⟨j90, j91, j92⟩ := S14.b4.three
            obtain ⟨n90, n91, n92⟩ := S14.tail.b4.three
            obtain ⟨r90, r91, r92⟩ := S14.tail.tail.b4.three
            go_wp2_with fail
            refine (impl_IsNewDate y m d _).mono ?_
            rintro e w15 ⟨rfl, hb15⟩
            have S15 := S14.call hb15
            clear t90 t91 t92 g90 g91 g92 f90 f91 f92 i90 i91 i92 j90 j91 j92 n90 n91 n92 r90 r91 r92
            obtain ⟨t90, t91, t92⟩ := S15.b0.three
            obtain ⟨g90, g91, g92⟩ := S15.b1.three
            obtain ⟨f90, f91, f92⟩ := S15.b2.three
            obtain ⟨i90, i91, i92⟩ := S15.b3.three
            obtain ⟨j90, j91, j92⟩ := S15.b4.three
            obtain ⟨n90, n91, n92⟩ := S15.tail.b4.three
            obtain ⟨r90, r91, r92⟩ := S15.tail.tail.b4.three
            go_wp2_with fail
            refine (impl_NewDay y1 m1 d1 _).mono ?_
            rintro e w16 ⟨rfl, hb16⟩
            have S16 := S15.call hb16
            clear t90 t91 t92 g90 g91 g92 f90 f91 f92 i90 i91 i92 j90 j91 j92 n90 n91 n92 r90 r91 r92
            obtain ⟨t90, t91, t92⟩ := S16.b0.three
            obtain ⟨g90, g91, g92⟩ := S16.b1.three
            obtain ⟨f90, f91, f92⟩ := S16.b2.three
            obtain ⟨i90, i91, i92⟩ := S16.b3.three
            obtain ⟨j90, j91, j92⟩ := S16.b4.three
            obtain ⟨n90, n91, n92⟩ := S16.tail.b4.three
            obtain ⟨r90, r91, r92⟩ := S16.tail.tail.b4.three
            go_wp2_with fail
            refine (impl_NewDate (dayNum true y m d) _).mono ?_
            rintro e w17 ⟨y3, m3, d3, q3, rfl, hd3, hb17⟩
            obtain ⟨rfl, rfl, rfl, rfl⟩ := HN.out.uniq hd3
            have S18 := (S16.call hb17).alloc 25 #[.int .i64 y, .int .i64 m, .int .i64 d]
            clear HN hd3 t90 t91 t92 g90 g91 g92 f90 f91 f92 i90 i91 i92 j90 j91 j92 n90 n91 n92 r90 r91 r92
            obtain ⟨r90, r91, r92⟩ := S18.tail.tail.tail.b4.three
            go_wp2_with fail
            go_ret
            exact ⟨rfl, S18.bel⟩
          · clear hQ2
            obtain ⟨t90, t91, t92⟩ := S12.b0.three
            obtain ⟨g90, g91, g92⟩ := S12.b1.three
            obtain ⟨f90, f91, f92⟩ := S12.b2.three
            obtain ⟨i90, i91, i92⟩ := S12.b3.three
            obtain ⟨j90, j91, j92⟩ := S12.b4.three
            obtain ⟨n90, n91, n92⟩ := S12.tail.b4.three
            obtain ⟨r90, r91, r92⟩ := S12.tail.tail.b4.three
            go_wp2_with fail
            refine (spec_DateText a b c _).mono ?_
            rintro e w13 ⟨rfl, hb13⟩
            have S13 := S12.call hb13
            clear t90 t91 t92 g90 g91 g92 f90 f91 f92 i90 i91 i92 j90 j91 j92 n90 n91 n92 r90 r91 r92
            obtain ⟨t90, t91, t92⟩ := S13.b0.three
            obtain ⟨g90, g91, g92⟩ := S13.b1.three
            obtain ⟨f90, f91, f92⟩ := S13.b2.three
            obtain ⟨i90, i91, i92⟩ := S13.b3.three
            obtain ⟨j90, j91, j92⟩ := S13.b4.three
            obtain ⟨n90, n91, n92⟩ := S13.tail.b4.three
            obtain ⟨r90, r91, r92⟩ := S13.tail.tail.b4.three
            go_wp2_with fail
            refine (impl_DateText u v x _ (HT.out.below S13.bel)).mono ?_
            rintro e w14 ⟨rfl, hb14⟩
            have S14 := S13.call hb14
            clear t90 t91 t92 g90 g91 g92 f90 f91 f92 i90 i91 i92 j90 j91 j92 n90 n91 n92 r90 r91 r92
            obtain ⟨t90, t91, t92⟩ := S14.b0.three
            obtain ⟨g90, g91, g92⟩ := S14.b1.three
            obtain ⟨f90, f91, f92⟩ := S14.b2.three
            obtain ⟨i90, i91, i92⟩ := S14.b3.three
            obtain ⟨j90, j91, j92⟩ := S14.b4.three
            obtain ⟨n90, n91, n92⟩ := S14.tail.b4.three
            obtain ⟨r90, r91, r92⟩ := S14.tail.tail.b4.three
            go_wp2_with fail
            refine (impl_IsNewDate y m d _).mono ?_
            rintro e w15 ⟨rfl, hb15⟩
            have S15 := S14.call hb15
            clear t90 t91 t92 g90 g91 g92 f90 f91 f92 i90 i91 i92 j90 j91 j92 n90 n91 n92 r90 r91 r92
            obtain ⟨t90, t91, t92⟩ := S15.b0.three
            obtain ⟨g90, g91, g92⟩ := S15.b1.three
            obtain ⟨f90, f91, f92⟩ := S15.b2.three
            obtain ⟨i90, i91, i92⟩ := S15.b3.three
            obtain ⟨j90, j91, j92⟩ := S15.b4.three
            obtain ⟨n90, n91, n92⟩ := S15.tail.b4.three
            obtain ⟨r90, r91, r92⟩ := S15.tail.tail.b4.three
            go_wp2_with fail
            refine (impl_NewDate (dayNum true y m d) _).mono ?_
            rintro e w16 ⟨y3, m3, d3, q3, rfl, hd3, hb16⟩
            obtain ⟨rfl, rfl, rfl, rfl⟩ := HN.out.uniq hd3
            have S17 := (S15.call hb16).alloc 25 #[.int .i64 y, .int .i64 m, .int .i64 d]
            clear HN hd3 t90 t91 t92 g90 g91 g92 f90 f91 f92 i90 i91 i92 j90 j91 j92 n90 n91 n92 r90 r91 r92
            obtain ⟨r90, r91, r92⟩ := S17.tail.tail.tail.b4.three
            go_wp2_with fail
            go_ret
            exact ⟨rfl, S17.bel⟩
        · clear hV2
          rcases hQ2.out with ⟨rfl, eN1, eE1⟩ | rfl
          · clear hQ2
            obtain ⟨t90, t91, t92⟩ := S12.b0.three
            obtain ⟨g90, g91, g92⟩ := S12.b1.three
            obtain ⟨f90, f91, f92⟩ := S12.b2.three
            obtain ⟨i90, i91, i92⟩ := S12.b3.three
            obtain ⟨j90, j91, j92⟩ := S12.b4.three
            obtain ⟨n90, n91, n92⟩ := S12.tail.b4.three
            obtain ⟨r90, r91, r92⟩ := S12.tail.tail.b4.three
            go_wp2_with fail
            refine (spec_DateText a b c _).mono ?_
            rintro e w13 ⟨rfl, hb13⟩
            have S13 := S12.call hb13
            clear t90 t91 t92 g90 g91 g92 f90 f91 f92 i90 i91 i92 j90 j91 j92 n90 n91 n92 r90 r91 r92
            obtain ⟨t90, t91, t92⟩ := S13.b0.three
            obtain ⟨g90, g91, g92⟩ := S13.b1.three
            obtain ⟨f90, f91, f92⟩ := S13.b2.three
            obtain ⟨i90, i91, i92⟩ := S13.b3.three
            obtain ⟨j90, j91, j92⟩ := S13.b4.three
            obtain ⟨n90, n91, n92⟩ := S13.tail.b4.three
            obtain ⟨r90, r91, r92⟩ := S13.tail.tail.b4.three
            go_wp2_with fail
            refine (impl_DateText u v x _ (HT.out.below S13.bel)).mono ?_
            rintro e w14 ⟨rfl, hb14⟩
            have S14 := S13.call hb14
            clear t90 t91 t92 g90 g91 g92 f90 f91 f92 i90 i91 i92 j90 j91 j92 n90 n91 n92 r90 r91 r92
            obtain ⟨t90, t91, t92⟩ := S14.b0.three
            obtain ⟨g90, g91, g92⟩ := S14.b1.three
            obtain ⟨f90, f91, f92⟩ := S14.b2.three
            obtain ⟨i90, i91, i92⟩ := S14.b3.three
            obtain ⟨j90, j91, j92⟩ := S14.b4.three
            obtain ⟨n90, n91, n92⟩ := S14.tail.b4.three
            obtain ⟨r90, r91, r92⟩ := S14.tail.tail.b4.three
            go_wp2_with fail
            refine (impl_IsNewDate y m d _).mono ?_
            rintro e w15 ⟨rfl, hb15⟩
            have S15 := S14.call hb15
            clear t90 t91 t92 g90 g91 g92 f90 f91 f92 i90 i91 i92 j90 j91 j92 n90 n91 n92 r90 r91 r92
            obtain ⟨t90, t91, t92⟩ := S15.b0.three
            obtain ⟨g90, g91, g92⟩ := S15.b1.three
            obtain ⟨f90, f91, f92⟩ := S15.b2.three
            obtain ⟨i90, i91, i92⟩ := S15.b3.three
            obtain ⟨j90, j91, j92⟩ := S15.b4.three
            obtain ⟨n90, n91, n92⟩ := S15.tail.b4.three
            obtain ⟨r90, r91, r92⟩ := S15.tail.tail.b4.three
            go_wp2_with fail
            refine (impl_NewDay y1 m1 d1 _).mono ?_
            rintro e w16 ⟨rfl, hb16⟩
            have S16 := S15.call hb16
            clear t90 t91 t92 g90 g91 g92 f90 f91 f92 i90 i91 i92 j90 j91 j92 n90 n91 n92 r90 r91 r92
            obtain ⟨t90, t91, t92⟩ := S16.b0.three
            obtain ⟨g90, g91, g92⟩ := S16.b1.three
            obtain ⟨f90, f91, f92⟩ := S16.b2.three
            obtain ⟨i90, i91, i92⟩ := S16.b3.three
            obtain ⟨j90, j91, j92⟩ := S16.b4.three
            obtain ⟨n90, n91, n92⟩ := S16.tail.b4.three
            obtain ⟨r90, r91, r92⟩ := S16.tail.tail.b4.three
            go_wp2_with fail
            go_ret
            exact ⟨rfl, S16.bel⟩
          · clear hQ2
            obtain ⟨t90, t91, t92⟩ := S12.b0.three
            obtain ⟨g90, g91, g92⟩ := S12.b1.three
            obtain ⟨f90, f91, f92⟩ := S12.b2.three
            obtain ⟨i90, i91, i92⟩ := S12.b3.three
            obtain ⟨j90, j91, j92⟩ := S12.b4.three
            obtain ⟨n90, n91, n92⟩ := S12.tail.b4.three
            obtain ⟨r90, r91, r92⟩ := S12.tail.tail.b4.three
            go_wp2_with fail
            refine (spec_DateText a b c _).mono ?_
            rintro e w13 ⟨rfl, hb13⟩
            have S13 := S12.call hb13
            clear t90 t91 t92 g90 g91 g92 f90 f91 f92 i90 i91 i92 j90 j91 j92 n90 n91 n92 r90 r91 r92
            obtain ⟨t90, t91, t92⟩ := S13.b0.three
            obtain ⟨g90, g91, g92⟩ := S13.b1.three
            obtain ⟨f90, f91, f92⟩ := S13.b2.three
            obtain ⟨i90, i91, i92⟩ := S13.b3.three
            obtain ⟨j90, j91, j92⟩ := S13.b4.three
            obtain ⟨n90, n91, n92⟩ := S13.tail.b4.three
            obtain ⟨r90, r91, r92⟩ := S13.tail.tail.b4.three
            go_wp2_with fail
            refine (impl_DateText u v x _ (HT.out.below S13.bel)).mono ?_
            rintro e w14 ⟨rfl, hb14⟩
            have S14 := S13.call hb14
            clear t90 t91 t92 g90 g91 g92 f90 f91 f92 i90 i91 i92 j90 j91 j92 n90 n91 n92 r90 r91 r92
            obtain ⟨t90, t91, t92⟩ := S14.b0.three
            obtain ⟨g90, g91, g92⟩ := S14.b1.three
            obtain ⟨f90, f91, f92⟩ := S14.b2.three
            obtain ⟨i90, i91, i92⟩ := S14.b3.three
            obtain ⟨j90, j91, j92⟩ := S14.b4.three
            obtain ⟨n90, n91, n92⟩ := S14.tail.b4.three
            obtain ⟨r90, r91, r92⟩ := S14.tail.tail.b4.three
            go_wp2_with fail
            refine (impl_IsNewDate y m d _).mono ?_
            rintro e w15 ⟨rfl, hb15⟩
            have S15 := S14.call hb15
            clear t90 t91 t92 g90 g91 g92 f90 f91 f92 i90 i91 i92 j90 j91 j92 n90 n91 n92 r90 r91 r92
            obtain ⟨t90, t91, t92⟩ := S15.b0.three
            obtain ⟨g90, g91, g92⟩ := S15.b1.three
            obtain ⟨f90, f91, f92⟩ := S15.b2.three
            obtain ⟨i90, i91, i92⟩ := S15.b3.three
            obtain ⟨j90, j91, j92⟩ := S15.b4.three
            obtain ⟨n90, n91, n92⟩ := S15.tail.b4.three
            obtain ⟨r90, r91, r92⟩ := S15.tail.tail.b4.three
            go_wp2_with fail
            go_ret
            exact ⟨rfl, S15.bel⟩
      · clear hU2
        rcases hV2.out with ⟨eV, eE, hu⟩ | ⟨eV, eE⟩
        · clear hV2
          have HN := Lib.hid hu
          clear hu
          rcases hQ2.out with ⟨rfl, eN1, eE1⟩ | rfl
          · clear hQ2
            obtain ⟨t90, t91, t92⟩ := S12.b0.three
            obtain ⟨g90, g91, g92⟩ := S12.b1.three
            obtain ⟨f90, f91, f92⟩ := S12.b2.three
            obtain ⟨i90, i91, i92⟩ := S12.b3.three
            obtain ⟨j90, j91, j92⟩ := S12.b4.three
            obtain ⟨n90, n91, n92⟩ := S12.tail.b4.three
            obtain ⟨r90, r91, r92⟩ := S12.tail.tail.b4.three
            go_wp2_with fail
            refine (spec_DateText a b c _).mono ?_
            rintro e w13 ⟨rfl, hb13⟩
            have S13 := S12.call hb13
            clear t90 t91 t92 g90 g91 g92 f90 f91 f92 i90 i91 i92 j90 j91 j92 n90 n91 n92 r90 r91 r92
            obtain ⟨t90, t91, t92⟩ := S13.b0.three
            obtain ⟨g90, g91, g92⟩ := S13.b1.three
            obtain ⟨f90, f91, f92⟩ := S13.b2.three
            obtain ⟨i90, i91, i92⟩ := S13.b3.three
            obtain ⟨j90, j91, j92⟩ := S13.b4.three
            obtain ⟨n90, n91, n92⟩ := S13.tail.b4.three
            obtain ⟨r90, r91, r92⟩ := S13.tail.tail.b4.three
            go_wp2_with fail
            refine (impl_IsNewDate y m d _).mono ?_
            rintro e w14 ⟨rfl, hb14⟩
            have S14 := S13.call hb14
            clear t90 t91 t92 g90 g91 g92 f90 f91 f92 i90 i91 i92 j90 j91 j92 n90 n91 n92 r90 r91 r92
            obtain ⟨t90, t91, t92⟩ := S14.b0.three
            obtain ⟨g90, g91, g92⟩ := S14.b1.three
            obtain ⟨f90, f91, f92⟩ := S14.b2.three
            obtain ⟨i90, i91, i92⟩ := S14.b3.three
            obtain ⟨j90, j91, j92⟩ := S14.b4.three
            obtain ⟨n90, n91, n92⟩ := S14.tail.b4.three
            obtain ⟨r90, r91, r92⟩ := S14.tail.tail.b4.three
            go_wp2_with fail
            refine (impl_NewDay y1 m1 d1 _).mono ?_
            rintro e w15 ⟨rfl, hb15⟩
            have S15 := S14.call hb15
            clear t90 t91 t92 g90 g91 g92 f90 f91 f92 i90 i91 i92 j90 j91 j92 n90 n91 n92 r90 r91 r92
            obtain ⟨t90, t91, t92⟩ := S15.b0.three
            obtain ⟨g90, g91, g92⟩ := S15.b1.three
            obtain ⟨f90, f91, f92⟩ := S15.b2.three
            obtain ⟨i90, i91, i92⟩ := S15.b3.three
            obtain ⟨j90, j91, j92⟩ := S15.b4.three
            obtain ⟨n90, n91, n92⟩ := S15.tail.b4.three
            obtain ⟨r90, r91, r92⟩ := S15.tail.tail.b4.three
            go_wp2_with fail
            refine (impl_NewDate (dayNum true y m d) _).mono ?_
            rintro e w16 ⟨y3, m3, d3, q3, rfl, hd3, hb16⟩
            obtain ⟨rfl, rfl, rfl, rfl⟩ := HN.out.uniq hd3
            have S17 := (S15.call hb16).alloc 25 #[.int .i64 y, .int .i64 m, .int .i64 d]
            clear HN hd3 t90 t91 t92 g90 g91 g92 f90 f91 f92 i90 i91 i92 j90 j91 j92 n90 n91 n92 r90 r91 r92
            obtain ⟨r90, r91, r92⟩ := S17.tail.tail.tail.b4.three
            go_wp2_with fail
            go_ret
            exact ⟨rfl, S17.bel⟩
          · clear hQ2
            obtain ⟨t90, t91, t92⟩ := S12.b0.three
            obtain ⟨g90, g91, g92⟩ := S12.b1.three
            obtain ⟨f90, f91, f92⟩ := S12.b2.three
            obtain ⟨i90, i91, i92⟩ := S12.b3.three
            obtain ⟨j90, j91, j92⟩ := S12.b4.three
            obtain ⟨n90, n91, n92⟩ := S12.tail.b4.three
            obtain ⟨r90, r91, r92⟩ := S12.tail.tail.b4.three
            go_wp2_with fail
            refine (spec_DateText a b c _).mono ?_
            rintro e w13 ⟨rfl, hb13⟩
            have S13 := S12.call hb13
            clear t90 t91 t92 g90 g91 g92 f90 f91 f92 i90 i91 i92 j90 j91 j92 n90 n91 n92 r90 r91 r92
            obtain ⟨t90, t91, t92⟩ := S13.b0.three
            obtain ⟨g90, g91, g92⟩ := S13.b1.three
            obtain ⟨f90, f91, f92⟩ := S13.b2.three
            obtain ⟨i90, i91, i92⟩ := S13.b3.three
            obtain ⟨j90, j91, j92⟩ := S13.b4.three
            obtain ⟨n90, n91, n92⟩ := S13.tail.b4.three
            obtain ⟨r90, r91, r92⟩ := S13.tail.tail.b4.three
            go_wp2_with fail
            refine (impl_IsNewDate y m d _).mono ?_
            rintro e w14 ⟨rfl, hb14⟩
            have S14 := S13.call hb14
            clear t90 t91 t92 g90 g91 g92 f90 f91 f92 i90 i91 i92 j90 j91 j92 n90 n91 n92 r90 r91 r92
            obtain ⟨t90, t91, t92⟩ := S14.b0.three
            obtain ⟨g90, g91, g92⟩ := S14.b1.three
            obtain ⟨f90, f91, f92⟩ := S14.b2.three
            obtain ⟨i90, i91, i92⟩ := S14.b3.three
            obtain ⟨j90, j91, j92⟩ := S14.b4.three
            obtain ⟨n90, n91, n92⟩ := S14.tail.b4.three
            obtain ⟨r90, r91, r92⟩ := S14.tail.tail.b4.three
            go_wp2_with fail
            refine (impl_NewDate (dayNum true y m d) _).mono ?_
            rintro e w15 ⟨y3, m3, d3, q3, rfl, hd3, hb15⟩
            obtain ⟨rfl, rfl, rfl, rfl⟩ := HN.out.uniq hd3
            have S16 := (S14.call hb15).alloc 25 #[.int .i64 y, .int .i64 m, .int .i64 d]
            clear HN hd3 t90 t91 t92 g90 g91 g92 f90 f91 f92 i90 i91 i92 j90 j91 j92 n90 n91 n92 r90 r91 r92
            obtain ⟨r90, r91, r92⟩ := S16.tail.tail.tail.b4.three
            go_wp2_with fail
            go_ret
            exact ⟨rfl, S16.bel⟩
        · clear hV2
          rcases hQ2.out with ⟨rfl, eN1, eE1⟩ | rfl
          · clear hQ2
            obtain ⟨t90, t91, t92⟩ := S12.b0.three
            obtain ⟨g90, g91, g92⟩ := S12.b1.three
            obtain ⟨f90, f91, f92⟩ := S12.b2.three
            obtain ⟨i90, i91, i92⟩ := S12.b3.three
            obtain ⟨j90, j91, j92⟩ := S12.b4.three
            obtain ⟨n90, n91, n92⟩ := S12.tail.b4.three
            obtain ⟨r90, r91, r92⟩ := S12.tail.tail.b4.three
            go_wp2_with fail
            refine (spec_DateText a b c _).mono ?_
            rintro e w13 ⟨rfl, hb13⟩
            have S13 := S12.call hb13
            clear t90 t91 t92 g90 g91 g92 f90 f91 f92 i90 i91 i92 j90 j91 j92 n90 n91 n92 r90 r91 r92
            obtain ⟨t90, t91, t92⟩ := S13.b0.three
            obtain ⟨g90, g91, g92⟩ := S13.b1.three
            obtain ⟨f90, f91, f92⟩ := S13.b2.three
            obtain ⟨i90, i91, i92⟩ := S13.b3.three
            obtain ⟨j90, j91, j92⟩ := S13.b4.three
            obtain ⟨n90, n91, n92⟩ := S13.tail.b4.three
            obtain ⟨r90, r91, r92⟩ := S13.tail.tail.b4.three
            go_wp2_with fail
            refine (impl_IsNewDate y m d _).mono ?_
            rintro e w14 ⟨rfl, hb14⟩
            have S14 := S13.call hb14
            clear t90 t91 t92 g90 g91 g92 f90 f91 f92 i90 i91 i92 j90 j91 j92 n90 n91 n92 r90 r91 r92
            obtain ⟨t90, t91, t92⟩ := S14.b0.three
            obtain ⟨g90, g91, g92⟩ := S14.b1.three
            obtain ⟨f90, f91, f92⟩ := S14.b2.three
            obtain ⟨i90, i91, i92⟩ := S14.b3.three
            obtain ⟨j90, j91, j92⟩ := S14.b4.three
            obtain ⟨n90, n91, n92⟩ := S14.tail.b4.three
            obtain ⟨r90, r91, r92⟩ := S14.tail.tail.b4.three
            go_wp2_with fail
            refine (impl_NewDay y1 m1 d1 _).mono ?_
            rintro e w15 ⟨rfl, hb15⟩
            have S15 := S14.call hb15
            clear t90 t91 t92 g90 g91 g92 f90 f91 f92 i90 i91 i92 j90 j91 j92 n90 n91 n92 r90 r91 r92
            obtain ⟨t90, t91, t92⟩ := S15.b0.three
            obtain ⟨g90, g91, g92⟩ := S15.b1.three
            obtain ⟨f90, f91, f92⟩ := S15.b2.three
            obtain ⟨i90, i91, i92⟩ := S15.b3.three
            obtain ⟨j90, j91, j92⟩ := S15.b4.three
            obtain ⟨n90, n91, n92⟩ := S15.tail.b4.three
            obtain ⟨r90, r91, r92⟩ := S15.tail.tail.b4.three
            go_wp2_with fail
            go_ret
            exact ⟨rfl, S15.bel⟩
          · clear hQ2
            obtain ⟨t90, t91, t92⟩ := S12.b0.three
            obtain ⟨g90, g91, g92⟩ := S12.b1.three
            obtain ⟨f90, f91, f92⟩ := S12.b2.three
            obtain ⟨i90, i91, i92⟩ := S12.b3.three
            obtain ⟨j90, j91, j92⟩ := S12.b4.three
            obtain ⟨n90, n91, n92⟩ := S12.tail.b4.three
            obtain ⟨r90, r91, r92⟩ := S12.tail.tail.b4.three
            go_wp2_with fail
            refine (spec_DateText a b c _).mono ?_
            rintro e w13 ⟨rfl, hb13⟩
            have S13 := S12.call hb13
            clear t90 t91 t92 g90 g91 g92 f90 f91 f92 i90 i91 i92 j90 j91 j92 n90 n91 n92 r90 r91 r92
            obtain ⟨t90, t91, t92⟩ := S13.b0.three
            obtain ⟨g90, g91, g92⟩ := S13.b1.three
            obtain ⟨f90, f91, f92⟩ := S13.b2.three
            obtain ⟨i90, i91, i92⟩ := S13.b3.three
            obtain ⟨j90, j91, j92⟩ := S13.b4.three
            obtain ⟨n90, n91, n92⟩ := S13.tail.b4.three
            obtain ⟨r90, r91, r92⟩ := S13.tail.tail.b4.three
            go_wp2_with fail
            refine (impl_IsNewDate y m d _).mono ?_
            rintro e w14 ⟨rfl, hb14⟩
            have S14 := S13.call hb14
            clear t90 t91 t92 g90 g91 g92 f90 f91 f92 i90 i91 i92 j90 j91 j92 n90 n91 n92 r90 r91 r92
            obtain ⟨t90, t91, t92⟩ := S14.b0.three
            obtain ⟨g90, g91, g92⟩ := S14.b1.three
            obtain ⟨f90, f91, f92⟩ := S14.b2.three
            obtain ⟨i90, i91, i92⟩ := S14.b3.three
            obtain ⟨j90, j91, j92⟩ := S14.b4.three
            obtain ⟨n90, n91, n92⟩ := S14.tail.b4.three
            obtain ⟨r90, r91, r92⟩ := S14.tail.tail.b4.three
            go_wp2_with fail
            go_ret
            exact ⟨rfl, S14.bel⟩

end Go.Proofs.YtkmkfpglnmpnmaaDoor
