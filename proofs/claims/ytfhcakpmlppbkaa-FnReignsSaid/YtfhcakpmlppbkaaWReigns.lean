/- The walk of the law FnReigns: made by gen_wreigns.py. -/
import Derived.Test.YtfhcakpmlppbkaaReiS
namespace Go.Proofs.Ytfhcakpmlppbkaa.Rei
open Go.RowKit

theorem _root_.Go.Proofs.Ytfhcakpmlppbkaa.Blk.two7 {w : World} {g : Nat} {t : TypeId} {a b : Value} (h : Blk w g t #[a, b]) : w.cell? ⟨g, 0, none⟩ = some a ∧ w.cell? ⟨g, 1, none⟩ = some b := ⟨h.cell 0, h.cell 1⟩
theorem ret_bool7 {a b : Bool} (h : b = a) : Ending.returned (.bool a) = .returned (.bool b) := by rw [h]
set_option maxHeartbeats 400000 in
theorem laws_big7 (A : Option Addr) (len cap : Nat) (hm : len ≤ maxLen) (w : World) :
    Calls Try.prog 12 #[.slice A len cap] w fun e w' => e = .returned (.bool (decide (4096 < len))) ∧ w = w' := by
  unfold maxLen at hm
  go_enter Try.func12, Try.ntmps12
  go_wp2_with fail
  go_ret
  exact ⟨ret_bool7 (by simp; try omega), rfl⟩

set_option maxRecDepth 100000 in
set_option maxHeartbeats 8000000 in
theorem walk_FnReigns (A : Option Addr) (len cap : Nat) (zs : List Int) (W : World) (hrow : IsRow .u8 W A len cap zs) :
    Calls Try.prog 3 #[.slice A len cap] W (Bl true W) := by
  have hm : len ≤ maxLen := by
    rcases hrow with ⟨_, rfl, _⟩ | ⟨_, _, h1, h2, _⟩
    · exact Nat.zero_le _
    · omega
  have HR := Lib.hid hrow
  clear hrow
  have bel := Below.refl W.heap.size W
  by_cases hbig : 4096 < len
  · go_enter Try.func3, Try.ntmps3
    go_wp2_with fail
    refine (laws_big7 A len cap hm _).mono ?_
    rintro e w1 ⟨rfl, rfl⟩
    go_wp2_with fail
    go_ret
    exact ⟨rfl, Below.refl _ _⟩
  go_enter Try.func3, Try.ntmps3
  go_wp2_with fail
  refine (laws_big7 A len cap hm _).mono ?_
  rintro e w1 ⟨rfl, rfl⟩
  go_wp2_with fail
  refine (spec_DrawRegnalYear A len cap zs W _ HR.out bel).mono ?_
  rintro e wq ⟨s, f, t, n, rfl, sb, -, -, ⟨n0, n1⟩, hb⟩
  replace bel := bel.trans (hb.mono bel.size)
  clear hb
  replace bel := bel.alloc bel.size (.cells #[.string s, .int .i64 f, .int .i64 t] 25)
  have Rr := Blk.new wq 25 #[.string s, .int .i64 f, .int .i64 t]
  obtain ⟨K, E1, I1, S1, H1⟩ := ry_pack s (by unfold maxLen; omega) f t n
  unfold rV at I1 S1
  obtain ⟨rr0, rr1, rr2⟩ := Rr.three
  go_wp2_with fail
  refine (I1.out _).mono ?_
  rintro e wq ⟨rfl, hb⟩
  clear rr0 rr1 rr2
  replace bel := bel.trans (hb.mono bel.size)
  replace Rr := Rr.below hb Rr.lt
  clear hb
  obtain ⟨rr0, rr1, rr2⟩ := Rr.three
  go_wp2_with fail
  refine (S1.out _).mono ?_
  rintro e wq ⟨rfl, hb⟩
  clear rr0 rr1 rr2
  replace bel := bel.trans (hb.mono bel.size)
  replace Rr := Rr.below hb Rr.lt
  clear hb
  clear I1 S1
  go_wp2_with fail
  refine (spec_DrawRegnalSpan A len cap zs W _ HR.out bel).mono ?_
  rintro e wq ⟨s2, f2, t2, m, rfl, sb2, -, -, ⟨m0, m1⟩, hb⟩
  replace bel := bel.trans (hb.mono bel.size)
  replace Rr := Rr.below hb Rr.lt
  clear hb
  replace bel := bel.alloc bel.size (.cells #[.string s2, .int .i64 f2, .int .i64 t2] 25)
  replace Rr := Rr.alloc (.cells #[.string s2, .int .i64 f2, .int .i64 t2] 25)
  have Ra := Blk.new wq 25 #[.string s2, .int .i64 f2, .int .i64 t2]
  obtain ⟨F, T, E, C, D, I2, S2, I3, S3, H2⟩ := rs_pack s2 (by unfold maxLen; omega) f2 t2 m (by omega)
  unfold rV at I2 S2 I3 S3
  obtain ⟨ra0, ra1, ra2⟩ := Ra.three
  go_wp2_with fail
  refine (I2.out _).mono ?_
  rintro e wq ⟨rfl, hb⟩
  clear ra0 ra1 ra2
  replace bel := bel.trans (hb.mono bel.size)
  replace Rr := Rr.below hb Rr.lt
  replace Ra := Ra.below hb Ra.lt
  clear hb
  replace bel := bel.alloc bel.size (.cells #[.int .i64 F, .int .i64 T] 31)
  replace Rr := Rr.alloc (.cells #[.int .i64 F, .int .i64 T] 31)
  replace Ra := Ra.alloc (.cells #[.int .i64 F, .int .i64 T] 31)
  have Pa := Blk.new wq 31 #[.int .i64 F, .int .i64 T]
  obtain ⟨ra0, ra1, ra2⟩ := Ra.three
  go_wp2_with fail
  refine (S2.out _).mono ?_
  rintro e wq ⟨rfl, hb⟩
  clear ra0 ra1 ra2
  replace bel := bel.trans (hb.mono bel.size)
  replace Rr := Rr.below hb Rr.lt
  replace Ra := Ra.below hb Ra.lt
  replace Pa := Pa.below hb Pa.lt
  clear hb
  replace bel := bel.alloc bel.size (.cells #[.int .i64 F, .int .i64 T] 31)
  replace Rr := Rr.alloc (.cells #[.int .i64 F, .int .i64 T] 31)
  replace Ra := Ra.alloc (.cells #[.int .i64 F, .int .i64 T] 31)
  replace Pa := Pa.alloc (.cells #[.int .i64 F, .int .i64 T] 31)
  have Pb := Blk.new wq 31 #[.int .i64 F, .int .i64 T]
  clear I2 S2
  obtain ⟨ra0, ra1, ra2⟩ := Ra.three
  go_wp2_with fail
  refine (I3.out _).mono ?_
  rintro e wq ⟨rfl, hb⟩
  clear ra0 ra1 ra2
  replace bel := bel.trans (hb.mono bel.size)
  replace Rr := Rr.below hb Rr.lt
  replace Ra := Ra.below hb Ra.lt
  replace Pa := Pa.below hb Pa.lt
  replace Pb := Pb.below hb Pb.lt
  clear hb
  obtain ⟨ra0, ra1, ra2⟩ := Ra.three
  go_wp2_with fail
  refine (S3.out _).mono ?_
  rintro e wq ⟨rfl, hb⟩
  clear ra0 ra1 ra2
  replace bel := bel.trans (hb.mono bel.size)
  replace Rr := Rr.below hb Rr.lt
  replace Ra := Ra.below hb Ra.lt
  replace Pa := Pa.below hb Pa.lt
  replace Pb := Pb.below hb Pb.lt
  clear hb
  clear I3 S3 HR
  have hne := neq_span7 F T
  have hgd : Try.prog.eqGuardType Try.prog.depth 31 = false := by kernel_rfl
  rcases H2.out with e2 | ⟨rfl, T0, T1, q1, q2⟩
  · clear H2
    rcases H1.out with e1 | ⟨rfl, F3, T3, P, h1, h2⟩
    · clear H1
      obtain ⟨pa0, pa1⟩ := Pa.two7
      obtain ⟨pb0, pb1⟩ := Pb.two7
      go_wp2_with fail
      go_ret
      exact ⟨rfl, bel⟩
    · unfold rV at P
      clear H1
      obtain ⟨pa0, pa1⟩ := Pa.two7
      obtain ⟨pb0, pb1⟩ := Pb.two7
      obtain ⟨rr0, rr1, rr2⟩ := Rr.three
      go_wp2_with fail
      refine (P.out _).mono ?_
      rintro e wq ⟨rfl, hb⟩
      clear pa0 pa1 pb0 pb1 rr0 rr1 rr2
      replace bel := bel.trans (hb.mono bel.size)
      replace Rr := Rr.below hb Rr.lt
      replace Ra := Ra.below hb Ra.lt
      replace Pa := Pa.below hb Pa.lt
      replace Pb := Pb.below hb Pb.lt
      clear hb
      replace bel := bel.alloc bel.size (.cells #[.int .i64 F3, .int .i64 T3] 31)
      replace Rr := Rr.alloc (.cells #[.int .i64 F3, .int .i64 T3] 31)
      replace Ra := Ra.alloc (.cells #[.int .i64 F3, .int .i64 T3] 31)
      replace Pa := Pa.alloc (.cells #[.int .i64 F3, .int .i64 T3] 31)
      replace Pb := Pb.alloc (.cells #[.int .i64 F3, .int .i64 T3] 31)
      have Pd := Blk.new wq 31 #[.int .i64 F3, .int .i64 T3]
      clear P
      obtain ⟨pd0, pd1⟩ := Pd.two7
      go_wp2_with fail
      go_ret
      exact ⟨ret_bool7 (by simp; try omega), bel⟩
  · rcases q1 with ⟨rfl, rfl⟩ | hm1
    · rcases q2 with ⟨hlt, hnc, T2, Q⟩ | ⟨rfl, rfl, F2, T2, E2, he2, Q⟩
      · unfold rV at Q
        clear H2
        obtain ⟨ra0, ra1, ra2⟩ := Ra.three
        obtain ⟨pa0, pa1⟩ := Pa.two7
        obtain ⟨pb0, pb1⟩ := Pb.two7
        go_wp2_with fail
        refine (Q.out _).mono ?_
        rintro e wq ⟨rfl, hb⟩
        clear ra0 ra1 ra2 pa0 pa1 pb0 pb1
        replace bel := bel.trans (hb.mono bel.size)
        replace Rr := Rr.below hb Rr.lt
        replace Ra := Ra.below hb Ra.lt
        replace Pa := Pa.below hb Pa.lt
        replace Pb := Pb.below hb Pb.lt
        clear hb
        replace bel := bel.alloc bel.size (.cells #[.int .i64 (T + 1), .int .i64 T2] 31)
        replace Rr := Rr.alloc (.cells #[.int .i64 (T + 1), .int .i64 T2] 31)
        replace Ra := Ra.alloc (.cells #[.int .i64 (T + 1), .int .i64 T2] 31)
        replace Pa := Pa.alloc (.cells #[.int .i64 (T + 1), .int .i64 T2] 31)
        replace Pb := Pb.alloc (.cells #[.int .i64 (T + 1), .int .i64 T2] 31)
        have Pc := Blk.new wq 31 #[.int .i64 (T + 1), .int .i64 T2]
        clear Q
        rcases H1.out with e1 | ⟨rfl, F3, T3, P, h1, h2⟩
        · clear H1
          obtain ⟨pa0, pa1⟩ := Pa.two7
          obtain ⟨pc0, pc1⟩ := Pc.two7
          go_wp2_with fail
          go_ret
          exact ⟨rfl, bel⟩
        · unfold rV at P
          clear H1
          obtain ⟨pa0, pa1⟩ := Pa.two7
          obtain ⟨pc0, pc1⟩ := Pc.two7
          obtain ⟨rr0, rr1, rr2⟩ := Rr.three
          go_wp2_with fail
          refine (P.out _).mono ?_
          rintro e wq ⟨rfl, hb⟩
          clear pa0 pa1 pc0 pc1 rr0 rr1 rr2
          replace bel := bel.trans (hb.mono bel.size)
          replace Rr := Rr.below hb Rr.lt
          replace Ra := Ra.below hb Ra.lt
          replace Pa := Pa.below hb Pa.lt
          replace Pb := Pb.below hb Pb.lt
          replace Pc := Pc.below hb Pc.lt
          clear hb
          replace bel := bel.alloc bel.size (.cells #[.int .i64 F3, .int .i64 T3] 31)
          replace Rr := Rr.alloc (.cells #[.int .i64 F3, .int .i64 T3] 31)
          replace Ra := Ra.alloc (.cells #[.int .i64 F3, .int .i64 T3] 31)
          replace Pa := Pa.alloc (.cells #[.int .i64 F3, .int .i64 T3] 31)
          replace Pb := Pb.alloc (.cells #[.int .i64 F3, .int .i64 T3] 31)
          replace Pc := Pc.alloc (.cells #[.int .i64 F3, .int .i64 T3] 31)
          have Pd := Blk.new wq 31 #[.int .i64 F3, .int .i64 T3]
          clear P
          obtain ⟨pd0, pd1⟩ := Pd.two7
          go_wp2_with fail
          go_ret
          exact ⟨ret_bool7 (by simp; try omega), bel⟩
      · unfold rV at Q
        clear H2
        obtain ⟨ra0, ra1, ra2⟩ := Ra.three
        obtain ⟨pa0, pa1⟩ := Pa.two7
        obtain ⟨pb0, pb1⟩ := Pb.two7
        go_wp2_with fail
        refine (Q.out _).mono ?_
        rintro e wq ⟨rfl, hb⟩
        clear ra0 ra1 ra2 pa0 pa1 pb0 pb1
        replace bel := bel.trans (hb.mono bel.size)
        replace Rr := Rr.below hb Rr.lt
        replace Ra := Ra.below hb Ra.lt
        replace Pa := Pa.below hb Pa.lt
        replace Pb := Pb.below hb Pb.lt
        clear hb
        replace bel := bel.alloc bel.size (.cells #[.int .i64 F2, .int .i64 T2] 31)
        replace Rr := Rr.alloc (.cells #[.int .i64 F2, .int .i64 T2] 31)
        replace Ra := Ra.alloc (.cells #[.int .i64 F2, .int .i64 T2] 31)
        replace Pa := Pa.alloc (.cells #[.int .i64 F2, .int .i64 T2] 31)
        replace Pb := Pb.alloc (.cells #[.int .i64 F2, .int .i64 T2] 31)
        have Pc := Blk.new wq 31 #[.int .i64 F2, .int .i64 T2]
        clear Q
        rcases H1.out with e1 | ⟨rfl, F3, T3, P, h1, h2⟩
        · clear H1
          obtain ⟨pa0, pa1⟩ := Pa.two7
          obtain ⟨pc0, pc1⟩ := Pc.two7
          go_wp2_with fail
          go_ret
          exact ⟨rfl, bel⟩
        · unfold rV at P
          clear H1
          obtain ⟨pa0, pa1⟩ := Pa.two7
          obtain ⟨pc0, pc1⟩ := Pc.two7
          obtain ⟨rr0, rr1, rr2⟩ := Rr.three
          go_wp2_with fail
          refine (P.out _).mono ?_
          rintro e wq ⟨rfl, hb⟩
          clear pa0 pa1 pc0 pc1 rr0 rr1 rr2
          replace bel := bel.trans (hb.mono bel.size)
          replace Rr := Rr.below hb Rr.lt
          replace Ra := Ra.below hb Ra.lt
          replace Pa := Pa.below hb Pa.lt
          replace Pb := Pb.below hb Pb.lt
          replace Pc := Pc.below hb Pc.lt
          clear hb
          replace bel := bel.alloc bel.size (.cells #[.int .i64 F3, .int .i64 T3] 31)
          replace Rr := Rr.alloc (.cells #[.int .i64 F3, .int .i64 T3] 31)
          replace Ra := Ra.alloc (.cells #[.int .i64 F3, .int .i64 T3] 31)
          replace Pa := Pa.alloc (.cells #[.int .i64 F3, .int .i64 T3] 31)
          replace Pb := Pb.alloc (.cells #[.int .i64 F3, .int .i64 T3] 31)
          replace Pc := Pc.alloc (.cells #[.int .i64 F3, .int .i64 T3] 31)
          have Pd := Blk.new wq 31 #[.int .i64 F3, .int .i64 T3]
          clear P
          obtain ⟨pd0, pd1⟩ := Pd.two7
          go_wp2_with fail
          go_ret
          exact ⟨ret_bool7 (by simp; try omega), bel⟩
    · rcases q2 with ⟨hlt, hnc, T2, Q⟩ | ⟨rfl, rfl, F2, T2, E2, he2, Q⟩
      · unfold rV at Q
        clear H2
        obtain ⟨ra0, ra1, ra2⟩ := Ra.three
        obtain ⟨pa0, pa1⟩ := Pa.two7
        obtain ⟨pb0, pb1⟩ := Pb.two7
        go_wp2_with fail
        refine (Q.out _).mono ?_
        rintro e wq ⟨rfl, hb⟩
        clear ra0 ra1 ra2 pa0 pa1 pb0 pb1
        replace bel := bel.trans (hb.mono bel.size)
        replace Rr := Rr.below hb Rr.lt
        replace Ra := Ra.below hb Ra.lt
        replace Pa := Pa.below hb Pa.lt
        replace Pb := Pb.below hb Pb.lt
        clear hb
        replace bel := bel.alloc bel.size (.cells #[.int .i64 (T + 1), .int .i64 T2] 31)
        replace Rr := Rr.alloc (.cells #[.int .i64 (T + 1), .int .i64 T2] 31)
        replace Ra := Ra.alloc (.cells #[.int .i64 (T + 1), .int .i64 T2] 31)
        replace Pa := Pa.alloc (.cells #[.int .i64 (T + 1), .int .i64 T2] 31)
        replace Pb := Pb.alloc (.cells #[.int .i64 (T + 1), .int .i64 T2] 31)
        have Pc := Blk.new wq 31 #[.int .i64 (T + 1), .int .i64 T2]
        clear Q
        rcases H1.out with e1 | ⟨rfl, F3, T3, P, h1, h2⟩
        · clear H1
          obtain ⟨pa0, pa1⟩ := Pa.two7
          obtain ⟨pc0, pc1⟩ := Pc.two7
          go_wp2_with fail
          go_ret
          exact ⟨rfl, bel⟩
        · unfold rV at P
          clear H1
          obtain ⟨pa0, pa1⟩ := Pa.two7
          obtain ⟨pc0, pc1⟩ := Pc.two7
          obtain ⟨rr0, rr1, rr2⟩ := Rr.three
          go_wp2_with fail
          refine (P.out _).mono ?_
          rintro e wq ⟨rfl, hb⟩
          clear pa0 pa1 pc0 pc1 rr0 rr1 rr2
          replace bel := bel.trans (hb.mono bel.size)
          replace Rr := Rr.below hb Rr.lt
          replace Ra := Ra.below hb Ra.lt
          replace Pa := Pa.below hb Pa.lt
          replace Pb := Pb.below hb Pb.lt
          replace Pc := Pc.below hb Pc.lt
          clear hb
          replace bel := bel.alloc bel.size (.cells #[.int .i64 F3, .int .i64 T3] 31)
          replace Rr := Rr.alloc (.cells #[.int .i64 F3, .int .i64 T3] 31)
          replace Ra := Ra.alloc (.cells #[.int .i64 F3, .int .i64 T3] 31)
          replace Pa := Pa.alloc (.cells #[.int .i64 F3, .int .i64 T3] 31)
          replace Pb := Pb.alloc (.cells #[.int .i64 F3, .int .i64 T3] 31)
          replace Pc := Pc.alloc (.cells #[.int .i64 F3, .int .i64 T3] 31)
          have Pd := Blk.new wq 31 #[.int .i64 F3, .int .i64 T3]
          clear P
          obtain ⟨pd0, pd1⟩ := Pd.two7
          go_wp2_with fail
          go_ret
          exact ⟨ret_bool7 (by simp; try omega), bel⟩
      · unfold rV at Q
        clear H2
        obtain ⟨ra0, ra1, ra2⟩ := Ra.three
        obtain ⟨pa0, pa1⟩ := Pa.two7
        obtain ⟨pb0, pb1⟩ := Pb.two7
        go_wp2_with fail
        refine (Q.out _).mono ?_
        rintro e wq ⟨rfl, hb⟩
        clear ra0 ra1 ra2 pa0 pa1 pb0 pb1
        replace bel := bel.trans (hb.mono bel.size)
        replace Rr := Rr.below hb Rr.lt
        replace Ra := Ra.below hb Ra.lt
        replace Pa := Pa.below hb Pa.lt
        replace Pb := Pb.below hb Pb.lt
        clear hb
        replace bel := bel.alloc bel.size (.cells #[.int .i64 F2, .int .i64 T2] 31)
        replace Rr := Rr.alloc (.cells #[.int .i64 F2, .int .i64 T2] 31)
        replace Ra := Ra.alloc (.cells #[.int .i64 F2, .int .i64 T2] 31)
        replace Pa := Pa.alloc (.cells #[.int .i64 F2, .int .i64 T2] 31)
        replace Pb := Pb.alloc (.cells #[.int .i64 F2, .int .i64 T2] 31)
        have Pc := Blk.new wq 31 #[.int .i64 F2, .int .i64 T2]
        clear Q
        rcases H1.out with e1 | ⟨rfl, F3, T3, P, h1, h2⟩
        · clear H1
          obtain ⟨pa0, pa1⟩ := Pa.two7
          obtain ⟨pc0, pc1⟩ := Pc.two7
          go_wp2_with fail
          go_ret
          exact ⟨rfl, bel⟩
        · unfold rV at P
          clear H1
          obtain ⟨pa0, pa1⟩ := Pa.two7
          obtain ⟨pc0, pc1⟩ := Pc.two7
          obtain ⟨rr0, rr1, rr2⟩ := Rr.three
          go_wp2_with fail
          refine (P.out _).mono ?_
          rintro e wq ⟨rfl, hb⟩
          clear pa0 pa1 pc0 pc1 rr0 rr1 rr2
          replace bel := bel.trans (hb.mono bel.size)
          replace Rr := Rr.below hb Rr.lt
          replace Ra := Ra.below hb Ra.lt
          replace Pa := Pa.below hb Pa.lt
          replace Pb := Pb.below hb Pb.lt
          replace Pc := Pc.below hb Pc.lt
          clear hb
          replace bel := bel.alloc bel.size (.cells #[.int .i64 F3, .int .i64 T3] 31)
          replace Rr := Rr.alloc (.cells #[.int .i64 F3, .int .i64 T3] 31)
          replace Ra := Ra.alloc (.cells #[.int .i64 F3, .int .i64 T3] 31)
          replace Pa := Pa.alloc (.cells #[.int .i64 F3, .int .i64 T3] 31)
          replace Pb := Pb.alloc (.cells #[.int .i64 F3, .int .i64 T3] 31)
          replace Pc := Pc.alloc (.cells #[.int .i64 F3, .int .i64 T3] 31)
          have Pd := Blk.new wq 31 #[.int .i64 F3, .int .i64 T3]
          clear P
          obtain ⟨pd0, pd1⟩ := Pd.two7
          go_wp2_with fail
          go_ret
          exact ⟨ret_bool7 (by simp; try omega), bel⟩

end Go.Proofs.Ytfhcakpmlppbkaa.Rei
