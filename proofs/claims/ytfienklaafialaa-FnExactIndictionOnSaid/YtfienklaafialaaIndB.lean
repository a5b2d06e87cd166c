/- Contracts of spec's days with an indiction: made by gen_indb.py. -/
import Derived.Test.YtfienklaafialaaIndA
import Derived.Test.YtfienklaafialaaMeetS
import Derived.Lib.SlicesS
namespace Go.Proofs.Ytfienklaafialaa.Ind
open Go.RowKit
open Go.Proofs.Ytfienklaafialaa.Eas (isY It)
open Go.Proofs.Ytfienklaafialaa.Sets (Own append_spanG spec_makeO SpansO make SetOut)
open Go.Proofs.Ytfienklaafialaa.Fea (yr yr_isY yr_in ys_old spec_oldOf SDate.year isDay spec_day_yes spec_day_no cums)

theorem ids_yes {k i f t Y0 : Int} {j : Nat} {acc : Sets.L} {a b : Int} (h : acc = ids k i f t Y0 j) (hi : ind (Y0 + j) = i) (ha : max f (yF k (Y0 + j)) = a) (hb : min t (yT k (Y0 + j)) = b) (hab : a ≤ b) : acc ++ [(a, b)] = ids k i f t Y0 (j + 1) := by
  subst h ha hb
  rw [ids, sp, if_pos ⟨hi, hab⟩]
theorem ids_no {k i f t Y0 : Int} {j : Nat} {acc : Sets.L} (h : acc = ids k i f t Y0 j) (hn : ¬ (ind (Y0 + j) = i ∧ max f (yF k (Y0 + j)) ≤ min t (yT k (Y0 + j)))) : acc = ids k i f t Y0 (j + 1) := by
  subst h
  rw [ids, sp, if_neg hn, List.append_nil]
set_option maxHeartbeats 400000 in
theorem spec_number_zero (m d : Int) (m1 : 1 ≤ m) (m2 : m ≤ 13) (d1 : -1000 ≤ d) (d2 : d ≤ 1000000) (w : World) :
    Calls Try.prog 51 #[.agg #[.int .i64 0, .int .i64 m, .int .i64 d], .bool false] w (It (d - 366 + Cal.cum false 0 m) w) := by
  go_enter Try.func51, Try.ntmps51
  go_wp2_with fail
  go_loop [6, 7] (fun s k => ∃ j : Int, 1 ≤ j ∧ j ≤ m ∧ k = .int .i64 j ∧ s = .int .i64 (d - 366 + Cal.cum false 0 j)) (fun _ k => (m - intOf k).toNat)
  case atStart => exact ⟨1, by omega, by omega, rfl, by rw [Cal.cum_one]; go_num⟩
  case round =>
    obtain ⟨j, hj1, hj2, rfl, rfl⟩ := hrel
    have cb := Cal.cum_bd false 0 j hj1 (by omega)
    have ml := Cal.mlen_bd false 0 j
    have cs := Lib.hid (Cal.cum_succ false 0 j hj1)
    by_cases hlt : j < m
    · go_wp2_with (go_at_call 81; refine (spec_mlen false 0 j (by omega) _).mono ?_; rintro e w2 ⟨rfl, rfl⟩)
      go_round
      case rel => exact ⟨j + 1, by omega, by omega, rfl, by rw [cs.out]; go_num⟩
      case measure => simp [intOf]; omega
    · have hm := Lib.hid (show j = m by omega)
      go_wp2_with fail
      go_ret
      exact ⟨ret_int (by rw [hm.out]), (Below.refl _ _).alloc (Nat.le_refl _) _⟩
/-- The turn of the year before: in the year 0 it is before all days. -/
theorem spec_turn (k y : Int) (h0 : 0 ≤ y) (h1 : y ≤ 9000) : ∃ x : Int, (∀ f : Int, 0 ≤ f → max f x = max f (trn k y)) ∧ -1000 ≤ x ∧ x ≤ 4000000 ∧ Hid (∀ w, Calls Try.prog 51 #[.agg #[.int .i64 y, .int .i64 9, .int .i64 (kdy k)], .bool false] w (It x w)) := by
  have hk := kdy_bd k
  obtain ⟨v, a, b, c, d⟩ := trn_eq k y
  rw [ys_old] at c
  by_cases e : y = 0
  · subst e
    have q := (cums 0).2.2.2.2.2.1
    have q2 : (if Cal.lp false 0 then (1 : Int) else 0) = 1 := rfl
    rw [q2] at q
    refine ⟨_, ?_, ?_, ?_, Lib.hid fun w => spec_number_zero 9 (kdy k) (by omega) (by omega) (by omega) (by omega) w⟩
    · intro f hf; omega
    · omega
    · omega
  · refine ⟨_, fun f _ => rfl, ?_, ?_, Lib.hid fun w => Rei.spec_number_far y 9 (kdy k) (by omega) h1 (by omega) (by omega) (by omega) (by omega) w⟩
    · omega
    · omega

theorem spec_turn_pos (k y : Int) (h0 : 1 ≤ y) (h1 : y ≤ 9000) : ∃ x : Int, x = trn k y ∧ 0 ≤ x ∧ x ≤ 4000000 ∧ Hid (∀ w, Calls Try.prog 51 #[.agg #[.int .i64 y, .int .i64 9, .int .i64 (kdy k)], .bool false] w (It x w)) := by
  have hk := kdy_bd k
  obtain ⟨v, a, b, c, d⟩ := trn_eq k y
  rw [ys_old] at c
  exact ⟨_, rfl, by omega, by omega, Lib.hid fun w => Rei.spec_number_far y 9 (kdy k) h0 h1 (by omega) (by omega) (by omega) (by omega) w⟩

def IdL (k i f t Y0 : Int) (N : Nat) (w0 : World) (m : Nat) (v y : Value) (wr : World) : Prop :=
  ∃ (j : Nat) (acc : Sets.L), y = .int .i64 (Y0 + j) ∧ m = N - j ∧ j ≤ N ∧ Hid (acc = ids k i f t Y0 j) ∧ acc.length ≤ j ∧ Own wr w0.heap.size v acc ∧ Below w0.heap.size w0 wr

set_option maxRecDepth 100000 in
set_option maxHeartbeats 8000000 in
theorem spec_idSet (k i f t : Int) (hk : isK k) (_hi : 1 ≤ i ∧ i ≤ 15) (hf : 0 ≤ f ∧ f ≤ 730499) (ht : f ≤ t ∧ t ≤ 730499) (hN0 : idN f t ≤ 1000) (w : World) :
    Calls Try.prog 66 #[.int .i64 k, .int .i64 i, .int .i64 f, .int .i64 t] w (SpansO (idS k i f t) w) := by
  obtain ⟨f0, f1⟩ := hf
  obtain ⟨t0, t1⟩ := ht
  have OF := Lib.hid (fun w => (spec_oldOf f (by rw [Cal.ys_1]; simpa using f0) f1 w).mono fun e w' k => SDate.year k f1)
  have OT := Lib.hid (fun w => (spec_oldOf t (by rw [Cal.ys_1]; simp; omega) t1 w).mono fun e w' k => SDate.year k t1)
  obtain ⟨a0, a1⟩ := yr_isY f f0 f1
  obtain ⟨b0, b1⟩ := yr_isY t (by omega) t1
  have hyy := yr_le t0
  have hM := Lib.hid (show idS k i f t = make (ids k i f t (yr f) (idN f t)) from rfl)
  obtain ⟨N, hN⟩ : ∃ N, idN f t = N := ⟨_, rfl⟩
  have hN2 : (N : Int) = yr t + 2 - yr f := by rw [← hN]; unfold idN; omega
  rw [hN] at hM hN0
  have HOK := Lib.hid (ids_ok (k := k) (i := i) (Y0 := yr f) f0 t1 N)
  clear hN
  generalize yr f = Y0 at *
  generalize yr t = Y1 at *
  have hfd : ∀ (m d : Int) (w : World), (Instr.field 69 (.agg #[.int .i64 Y0, .int .i64 m, .int .i64 d]) 0).run Try.prog w = .ok (.int .i64 Y0) w := fun _ _ _ => by kernel_rfl
  have hfd1 : ∀ (m d : Int) (w : World), (Instr.field 69 (.agg #[.int .i64 Y1, .int .i64 m, .int .i64 d]) 0).run Try.prog w = .ok (.int .i64 Y1) w := fun _ _ _ => by kernel_rfl
  have own0 := Own.made0 w
  have hb0 : Below w.heap.size w (w.alloc (.cells #[] 74)) := (Below.refl _ _).alloc (Nat.le_refl _) _
  go_enter Try.func66, Try.ntmps66
  go_wp2_with fail
  refine (OF.out _).mono ?_
  rintro e w1 ⟨m1, d1, rfl, hba⟩
  have own1 := own0.below hba
  have hb1 := hb0.trans (hba.mono hb0.size)
  clear own0 hb0 hba OF
  go_wp2_with fail
  clear hfd
  go_loopg [9, 10] N (fun m v y wr => IdL k i f t Y0 N w m v y wr)
  case atStart => exact ⟨0, [], by simp, by omega, by omega, Lib.hid rfl, by simp, own1, hb1⟩
  case round =>
    clear own1 hb1
    obtain ⟨j, acc, rfl, hm, hj, HA, hl, hown, hb⟩ := hrel
    subst hm
    by_cases hlt : j < N
    · have HIN := Lib.hid (And.intro hN2 hyy)
      obtain ⟨Y, hY⟩ : ∃ Y, Y0 + (j : Int) = Y := ⟨_, rfl⟩
      have hY1 : 1 ≤ Y := by omega
      have hY2 : Y ≤ 2001 := by omega
      have hY3 : Y ≤ Y1 + 1 := by omega
      have N1 := Lib.hid (fun w => Rei.spec_number_far Y 1 1 hY1 (by omega) (by omega) (by omega) (by omega) (by omega) w)
      have N2 := Lib.hid (fun w => Rei.spec_number_far Y 12 31 hY1 (by omega) (by omega) (by omega) (by omega) (by omega) w)
      have I := Lib.hid (spec_ind Y (by omega) (by omega))
      have HYF := Lib.hid (show yF k Y = if k = 2 then Cal.num false Y 1 1 else trn k (Y - 1) from rfl)
      have HYT := Lib.hid (show yT k Y = if k = 2 then Cal.num false Y 12 31 else trn k Y - 1 from rfl)
      have yb := ys_old Y
      have yb2 := ys_old (Y + 1)
      have y11 := num_0101 Y
      have y12 := num_1231 Y
      have hn1 : 0 ≤ Cal.num false Y 1 1 ∧ Cal.num false Y 1 1 ≤ 4000000 := by omega
      have hn2 : 0 ≤ Cal.num false Y 12 31 ∧ Cal.num false Y 12 31 ≤ 4000000 := by omega
      clear yb yb2 y11 y12
      rw [hY]
      generalize Cal.num false Y 1 1 = n1 at *
      generalize Cal.num false Y 12 31 = n2 at *
      by_cases hk2 : k = 2
      · have hke : (k == 2) = true := by simp [hk2]
        obtain ⟨a, ha⟩ : ∃ a, max f n1 = a := ⟨_, rfl⟩
        obtain ⟨b, hb9⟩ : ∃ b, min t n2 = b := ⟨_, rfl⟩
        have cA : (if f < n1 then n1 else f) = a := by split <;> omega
        have cB : (if n2 < t then n2 else t) = b := by split <;> omega
        have ea := Lib.hid (show max f (yF k Y) = a by rw [HYF.out, if_pos hk2]; exact ha)
        have eb := Lib.hid (show min t (yT k Y) = b by rw [HYT.out, if_pos hk2]; exact hb9)
        clear HYF HYT ha hb9 hk2
        by_cases hii : ind Y = i
        · have he : (ind Y == i) = true := by simpa using hii
          by_cases hab : a ≤ b
          · have HN := Lib.hid (ids_yes HA.out (by rw [hY]; exact hii) (by rw [hY]; exact ea.out) (by rw [hY]; exact eb.out) hab)
            clear HA hii ea eb
            go_wp2_with fail
            refine (OT.out _).mono ?_
            rintro e w2 ⟨m2, d2, rfl, hb2⟩
            go_wp2_with fail
            refine (N1.out _).mono ?_
            rintro e w3 ⟨rfl, hb3⟩
            go_wp2_with fail
            refine (N2.out _).mono ?_
            rintro e w4 ⟨rfl, hb4⟩
            have hbv := hb2.trans (hb3.mono hb2.size)
            have hbw := hbv.trans (hb4.mono hbv.size)
            have hsz := hbw.size
            have hbc := hbw.alloc hbw.size (.cells #[.int .i64 a, .int .i64 b] 74)
            clear hb2 hb3 hb4 hbv hbw
            go_wp2_with fail
            refine (I.out _).mono ?_
            rintro e wi ⟨rfl, rfl⟩
            have own2 := hown.below hbc
            have hb3 := hb.trans (hbc.mono hb.size)
            clear hown hbc hb
            go_wp2_with (at_builtin; refine append_spanG (g := w4.heap.size + 1) (by simp) hb3 own2 (by omega) rfl (.tmp 69) (.tmp 71) rfl rfl rfl ?_)
            intro v6 w6 own6 hb7 _
            clear own2 hb3
            go_wp2_with fail
            go_roundg (N - (j + 1))
            case measure => omega
            case rel => exact ⟨j + 1, _, by rw [← hY]; push_cast; rw [Int.add_assoc], by omega, by omega, HN, by simp; omega, own6, hb7⟩
          · have HN := Lib.hid (ids_no (acc := acc) HA.out (by rw [hY, ea.out, eb.out]; exact fun h => hab h.2))
            have hba : b < a := by omega
            clear HA hii ea eb hab
            go_wp2_with fail
            refine (OT.out _).mono ?_
            rintro e w2 ⟨m2, d2, rfl, hb2⟩
            go_wp2_with fail
            refine (N1.out _).mono ?_
            rintro e w3 ⟨rfl, hb3⟩
            go_wp2_with fail
            refine (N2.out _).mono ?_
            rintro e w4 ⟨rfl, hb4⟩
            have hbv := hb2.trans (hb3.mono hb2.size)
            have hbw := hbv.trans (hb4.mono hbv.size)
            have hsz := hbw.size
            have hbc := hbw.alloc hbw.size (.cells #[.int .i64 a, .int .i64 b] 74)
            clear hb2 hb3 hb4 hbv hbw
            go_wp2_with fail
            refine (I.out _).mono ?_
            rintro e wi ⟨rfl, rfl⟩
            have own2 := hown.below hbc
            have hb3 := hb.trans (hbc.mono hb.size)
            clear hown hbc hb
            go_wp2_with fail
            go_roundg (N - (j + 1))
            case measure => omega
            case rel => exact ⟨j + 1, _, by rw [← hY]; push_cast; rw [Int.add_assoc], by omega, by omega, HN, by omega, own2, hb3⟩
        · have he : (ind Y == i) = false := by simpa using hii
          have HN := Lib.hid (ids_no (acc := acc) HA.out (by rw [hY]; exact fun h => hii h.1))
          clear HA hii ea eb
          go_wp2_with fail
          refine (OT.out _).mono ?_
          rintro e w2 ⟨m2, d2, rfl, hb2⟩
          go_wp2_with fail
          refine (N1.out _).mono ?_
          rintro e w3 ⟨rfl, hb3⟩
          go_wp2_with fail
          refine (N2.out _).mono ?_
          rintro e w4 ⟨rfl, hb4⟩
          have hbv := hb2.trans (hb3.mono hb2.size)
          have hbw := hbv.trans (hb4.mono hbv.size)
          have hsz := hbw.size
          have hbc := hbw.alloc hbw.size (.cells #[.int .i64 a, .int .i64 b] 74)
          clear hb2 hb3 hb4 hbv hbw
          go_wp2_with fail
          refine (I.out _).mono ?_
          rintro e wi ⟨rfl, rfl⟩
          have own2 := hown.below hbc
          have hb3 := hb.trans (hbc.mono hb.size)
          clear hown hbc hb
          go_wp2_with fail
          go_roundg (N - (j + 1))
          case measure => omega
          case rel => exact ⟨j + 1, _, by rw [← hY]; push_cast; rw [Int.add_assoc], by omega, by omega, HN, by omega, own2, hb3⟩
      · have hke : (k == 2) = false := by simpa using hk2
        obtain ⟨k0, k1⟩ := hk
        obtain ⟨q, rfl⟩ : ∃ q : Nat, k = q := ⟨k.toNat, by omega⟩
        have hq : (q : Int) < 2 := by omega
        obtain ⟨x1, hx1, xl, xh, T1⟩ := spec_turn (q : Int) (Y - 1) (by omega) (by omega)
        obtain ⟨x2, hx2, yl, yh, T2⟩ := spec_turn_pos (q : Int) Y (by omega) (by omega)
        have hcell : ∀ (wz : World), (wz.alloc (.cells #[.int .i64 1, .int .i64 24] 2)).cell? ⟨wz.heap.size, q, none⟩ = some (.int .i64 (kdy q)) := fun wz => by
          rw [(Blk.new wz 2 #[.int .i64 1, .int .i64 24]).cell q]
          have : q = 0 ∨ q = 1 := by omega
          rcases this with rfl | rfl <;> rfl
        obtain ⟨a, ha⟩ : ∃ a, max f x1 = a := ⟨_, rfl⟩
        obtain ⟨b, hb9⟩ : ∃ b, min t (x2 - 1) = b := ⟨_, rfl⟩
        have cA : (if f < x1 then x1 else f) = a := by split <;> omega
        have cB : (if x2 - 1 < t then x2 - 1 else t) = b := by split <;> omega
        have ea := Lib.hid (show max f (yF (q : Int) Y) = a by rw [HYF.out, if_neg hk2, ← ha, hx1 f f0])
        have eb := Lib.hid (show min t (yT (q : Int) Y) = b by rw [HYT.out, if_neg hk2, ← hb9, hx2])
        generalize kdy (q : Int) = dy at *
        clear HYF HYT ha hb9 hk2 k0 k1 hx1 hx2
        by_cases hii : ind Y = i
        · have he : (ind Y == i) = true := by simpa using hii
          by_cases hab : a ≤ b
          · have HN := Lib.hid (ids_yes HA.out (by rw [hY]; exact hii) (by rw [hY]; exact ea.out) (by rw [hY]; exact eb.out) hab)
            clear HA hii ea eb
            go_wp2_with fail
            refine (OT.out _).mono ?_
            rintro e w2 ⟨m2, d2, rfl, hb2⟩
            go_wp2_with fail
            refine (N1.out _).mono ?_
            rintro e w3 ⟨rfl, hb3⟩
            go_wp2_with fail
            refine (N2.out _).mono ?_
            rintro e w4 ⟨rfl, hb4⟩
            have hbv := hb2.trans (hb3.mono hb2.size)
            have hbw := hbv.trans (hb4.mono hbv.size)
            have hsz := hbw.size
            have BP := Blk.new w4 74 #[.int .i64 n1, .int .i64 n2]
            have hbx := hbw.alloc hbw.size (.cells #[.int .i64 n1, .int .i64 n2] 74)
            clear hb2 hb3 hb4 hbv hbw
            have kc := hcell (w4.alloc (.cells #[.int .i64 n1, .int .i64 n2] 74))
            have hby := hbx.alloc hbx.size (.cells #[.int .i64 1, .int .i64 24] 2)
            have BQ := BP.alloc (.cells #[.int .i64 1, .int .i64 24] 2)
            simp only [World.size_alloc] at kc
            clear hbx BP
            go_wp2_with fail
            refine (T1.out _).mono ?_
            rintro e w5 ⟨rfl, hb5⟩
            have hb6 := hby.trans (hb5.mono hby.size)
            have BR := BQ.below hb5 BQ.lt
            clear hby hb5 BQ kc
            go_wp2_with fail
            refine (T2.out _).mono ?_
            rintro e w6 ⟨rfl, hb7⟩
            have hb8 := hb6.trans (hb7.mono hb6.size)
            have BS := BR.below hb7 BR.lt
            have p0 := BS.cell 0
            have p1 := BS.cell 1
            have z0 := BS.frozen 0
            have z1 := BS.frozen 1
            simp at p0 p1
            have hbc := (((hb8.setCell (p := ⟨w4.heap.size, 0, none⟩) hsz (.int .i64 x1)).setCell (p := ⟨w4.heap.size, 1, none⟩) hsz (.int .i64 (x2 - 1))).setCell (p := ⟨w4.heap.size, 0, none⟩) hsz (.int .i64 a)).setCell (p := ⟨w4.heap.size, 1, none⟩) hsz (.int .i64 b)
            have BT := (((BS.set_ 0 (.int .i64 x1)).set_ 1 (.int .i64 (x2 - 1))).set_ 0 (.int .i64 a)).set_ 1 (.int .i64 b)
            have r0 : ((((w6.setCell ⟨w4.heap.size, 0, none⟩ (.int .i64 x1)).setCell ⟨w4.heap.size, 1, none⟩ (.int .i64 (x2 - 1))).setCell ⟨w4.heap.size, 0, none⟩ (.int .i64 a)).setCell ⟨w4.heap.size, 1, none⟩ (.int .i64 b)).cell? ⟨w4.heap.size, 0, none⟩ = some (.int .i64 a) := (BT.cell 0).trans rfl
            have r1 : ((((w6.setCell ⟨w4.heap.size, 0, none⟩ (.int .i64 x1)).setCell ⟨w4.heap.size, 1, none⟩ (.int .i64 (x2 - 1))).setCell ⟨w4.heap.size, 0, none⟩ (.int .i64 a)).setCell ⟨w4.heap.size, 1, none⟩ (.int .i64 b)).cell? ⟨w4.heap.size, 1, none⟩ = some (.int .i64 b) := (BT.cell 1).trans rfl
            clear hb6 hb7 hb8 BR BS BT
            go_wp2_with fail
            refine (I.out _).mono ?_
            rintro e wi ⟨rfl, rfl⟩
            have own2 := hown.below hbc
            have hb3 := hb.trans (hbc.mono hb.size)
            clear hown hbc hb
            go_wp2_with (at_builtin; refine append_spanG (g := w6.heap.size) (by simp) hb3 own2 (by omega) rfl (.tmp 69) (.tmp 71) rfl rfl rfl ?_)
            intro v6 w6 own6 hb7 _
            clear own2 hb3
            go_wp2_with fail
            go_roundg (N - (j + 1))
            case measure => omega
            case rel => exact ⟨j + 1, _, by rw [← hY]; push_cast; rw [Int.add_assoc], by omega, by omega, HN, by simp; omega, own6, hb7⟩
          · have HN := Lib.hid (ids_no (acc := acc) HA.out (by rw [hY, ea.out, eb.out]; exact fun h => hab h.2))
            have hba : b < a := by omega
            clear HA hii ea eb hab
            go_wp2_with fail
            refine (OT.out _).mono ?_
            rintro e w2 ⟨m2, d2, rfl, hb2⟩
            go_wp2_with fail
            refine (N1.out _).mono ?_
            rintro e w3 ⟨rfl, hb3⟩
            go_wp2_with fail
            refine (N2.out _).mono ?_
            rintro e w4 ⟨rfl, hb4⟩
            have hbv := hb2.trans (hb3.mono hb2.size)
            have hbw := hbv.trans (hb4.mono hbv.size)
            have hsz := hbw.size
            have BP := Blk.new w4 74 #[.int .i64 n1, .int .i64 n2]
            have hbx := hbw.alloc hbw.size (.cells #[.int .i64 n1, .int .i64 n2] 74)
            clear hb2 hb3 hb4 hbv hbw
            have kc := hcell (w4.alloc (.cells #[.int .i64 n1, .int .i64 n2] 74))
            have hby := hbx.alloc hbx.size (.cells #[.int .i64 1, .int .i64 24] 2)
            have BQ := BP.alloc (.cells #[.int .i64 1, .int .i64 24] 2)
            simp only [World.size_alloc] at kc
            clear hbx BP
            go_wp2_with fail
            refine (T1.out _).mono ?_
            rintro e w5 ⟨rfl, hb5⟩
            have hb6 := hby.trans (hb5.mono hby.size)
            have BR := BQ.below hb5 BQ.lt
            clear hby hb5 BQ kc
            go_wp2_with fail
            refine (T2.out _).mono ?_
            rintro e w6 ⟨rfl, hb7⟩
            have hb8 := hb6.trans (hb7.mono hb6.size)
            have BS := BR.below hb7 BR.lt
            have p0 := BS.cell 0
            have p1 := BS.cell 1
            have z0 := BS.frozen 0
            have z1 := BS.frozen 1
            simp at p0 p1
            have hbc := (((hb8.setCell (p := ⟨w4.heap.size, 0, none⟩) hsz (.int .i64 x1)).setCell (p := ⟨w4.heap.size, 1, none⟩) hsz (.int .i64 (x2 - 1))).setCell (p := ⟨w4.heap.size, 0, none⟩) hsz (.int .i64 a)).setCell (p := ⟨w4.heap.size, 1, none⟩) hsz (.int .i64 b)
            have BT := (((BS.set_ 0 (.int .i64 x1)).set_ 1 (.int .i64 (x2 - 1))).set_ 0 (.int .i64 a)).set_ 1 (.int .i64 b)
            have r0 : ((((w6.setCell ⟨w4.heap.size, 0, none⟩ (.int .i64 x1)).setCell ⟨w4.heap.size, 1, none⟩ (.int .i64 (x2 - 1))).setCell ⟨w4.heap.size, 0, none⟩ (.int .i64 a)).setCell ⟨w4.heap.size, 1, none⟩ (.int .i64 b)).cell? ⟨w4.heap.size, 0, none⟩ = some (.int .i64 a) := (BT.cell 0).trans rfl
            have r1 : ((((w6.setCell ⟨w4.heap.size, 0, none⟩ (.int .i64 x1)).setCell ⟨w4.heap.size, 1, none⟩ (.int .i64 (x2 - 1))).setCell ⟨w4.heap.size, 0, none⟩ (.int .i64 a)).setCell ⟨w4.heap.size, 1, none⟩ (.int .i64 b)).cell? ⟨w4.heap.size, 1, none⟩ = some (.int .i64 b) := (BT.cell 1).trans rfl
            clear hb6 hb7 hb8 BR BS BT
            go_wp2_with fail
            refine (I.out _).mono ?_
            rintro e wi ⟨rfl, rfl⟩
            have own2 := hown.below hbc
            have hb3 := hb.trans (hbc.mono hb.size)
            clear hown hbc hb
            go_wp2_with fail
            go_roundg (N - (j + 1))
            case measure => omega
            case rel => exact ⟨j + 1, _, by rw [← hY]; push_cast; rw [Int.add_assoc], by omega, by omega, HN, by omega, own2, hb3⟩
        · have he : (ind Y == i) = false := by simpa using hii
          have HN := Lib.hid (ids_no (acc := acc) HA.out (by rw [hY]; exact fun h => hii h.1))
          clear HA hii ea eb
          go_wp2_with fail
          refine (OT.out _).mono ?_
          rintro e w2 ⟨m2, d2, rfl, hb2⟩
          go_wp2_with fail
          refine (N1.out _).mono ?_
          rintro e w3 ⟨rfl, hb3⟩
          go_wp2_with fail
          refine (N2.out _).mono ?_
          rintro e w4 ⟨rfl, hb4⟩
          have hbv := hb2.trans (hb3.mono hb2.size)
          have hbw := hbv.trans (hb4.mono hbv.size)
          have hsz := hbw.size
          have BP := Blk.new w4 74 #[.int .i64 n1, .int .i64 n2]
          have hbx := hbw.alloc hbw.size (.cells #[.int .i64 n1, .int .i64 n2] 74)
          clear hb2 hb3 hb4 hbv hbw
          have kc := hcell (w4.alloc (.cells #[.int .i64 n1, .int .i64 n2] 74))
          have hby := hbx.alloc hbx.size (.cells #[.int .i64 1, .int .i64 24] 2)
          have BQ := BP.alloc (.cells #[.int .i64 1, .int .i64 24] 2)
          simp only [World.size_alloc] at kc
          clear hbx BP
          go_wp2_with fail
          refine (T1.out _).mono ?_
          rintro e w5 ⟨rfl, hb5⟩
          have hb6 := hby.trans (hb5.mono hby.size)
          have BR := BQ.below hb5 BQ.lt
          clear hby hb5 BQ kc
          go_wp2_with fail
          refine (T2.out _).mono ?_
          rintro e w6 ⟨rfl, hb7⟩
          have hb8 := hb6.trans (hb7.mono hb6.size)
          have BS := BR.below hb7 BR.lt
          have p0 := BS.cell 0
          have p1 := BS.cell 1
          have z0 := BS.frozen 0
          have z1 := BS.frozen 1
          simp at p0 p1
          have hbc := (((hb8.setCell (p := ⟨w4.heap.size, 0, none⟩) hsz (.int .i64 x1)).setCell (p := ⟨w4.heap.size, 1, none⟩) hsz (.int .i64 (x2 - 1))).setCell (p := ⟨w4.heap.size, 0, none⟩) hsz (.int .i64 a)).setCell (p := ⟨w4.heap.size, 1, none⟩) hsz (.int .i64 b)
          have BT := (((BS.set_ 0 (.int .i64 x1)).set_ 1 (.int .i64 (x2 - 1))).set_ 0 (.int .i64 a)).set_ 1 (.int .i64 b)
          have r0 : ((((w6.setCell ⟨w4.heap.size, 0, none⟩ (.int .i64 x1)).setCell ⟨w4.heap.size, 1, none⟩ (.int .i64 (x2 - 1))).setCell ⟨w4.heap.size, 0, none⟩ (.int .i64 a)).setCell ⟨w4.heap.size, 1, none⟩ (.int .i64 b)).cell? ⟨w4.heap.size, 0, none⟩ = some (.int .i64 a) := (BT.cell 0).trans rfl
          have r1 : ((((w6.setCell ⟨w4.heap.size, 0, none⟩ (.int .i64 x1)).setCell ⟨w4.heap.size, 1, none⟩ (.int .i64 (x2 - 1))).setCell ⟨w4.heap.size, 0, none⟩ (.int .i64 a)).setCell ⟨w4.heap.size, 1, none⟩ (.int .i64 b)).cell? ⟨w4.heap.size, 1, none⟩ = some (.int .i64 b) := (BT.cell 1).trans rfl
          clear hb6 hb7 hb8 BR BS BT
          go_wp2_with fail
          refine (I.out _).mono ?_
          rintro e wi ⟨rfl, rfl⟩
          have own2 := hown.below hbc
          have hb3 := hb.trans (hbc.mono hb.size)
          clear hown hbc hb
          go_wp2_with fail
          go_roundg (N - (j + 1))
          case measure => omega
          case rel => exact ⟨j + 1, _, by rw [← hY]; push_cast; rw [Int.add_assoc], by omega, by omega, HN, by omega, own2, hb3⟩
    · have hV : acc = ids k i f t Y0 N := by
        have e : j = N := by omega
        have h := HA.out
        rwa [e] at h
      have hge : Y1 + 1 < Y0 + (j : Int) := by omega
      obtain ⟨A2, c2, rfl, row⟩ := hown.form
      have rd2 := row.rd
      have HK := Lib.hid (show ∀ s ∈ acc, Sets.ok s by rw [hV]; exact HOK.out)
      have HV := Lib.hid hV
      have hl9 : acc.length ≤ 2000 := by omega
      clear HA hV row hown
      go_wp2_with fail
      refine (OT.out _).mono ?_
      rintro e w2 ⟨m2, d2, rfl, hb2⟩
      have rd3 := rd2.below hb2
      have hb3 := hb.trans (hb2.mono hb.size)
      clear rd2 hb2 hb
      go_wp2_with fail
      refine (spec_makeO A2 acc.length c2 acc hl9 HK _ rd3).mono ?_
      rintro e w3 ⟨v3, rfl, own3, hb4⟩
      go_wp2_with fail
      go_ret
      exact ⟨_, rfl, by rw [hM.out, ← HV.out]; exact own3.mono hb3.size, hb3.trans (hb4.mono hb3.size)⟩

set_option maxHeartbeats 2000000 in
theorem spec_IndictionDays (k i f t : Int) (w : World) : Calls Try.prog 19 #[.int .i64 k, .int .i64 i, .int .i64 f, .int .i64 t] w (SetOut (idL k i f t) (idE k i f t) w) := by
  by_cases hk : isK k
  · have K := Lib.hid (spec_kind_yes k hk)
    by_cases hi : 1 ≤ i ∧ i ≤ 15
    · have J := Lib.hid (Eas.spec_in_yes i 1 15 hi)
      by_cases hf : 0 ≤ f ∧ f ≤ 730499
      · have D := Lib.hid (spec_day_yes f hf)
        obtain ⟨m, hm⟩ : ∃ m, min 730499 (f + 40000) = m := ⟨_, rfl⟩
        have cM : (if f + 40000 < 730499 then f + 40000 else 730499) = m := by split <;> omega
        by_cases ht : f ≤ t ∧ t ≤ m
        · have R := Lib.hid (Eas.spec_in_yes t f m ht)
          have ok : idOk k i f t := ⟨hk, hi, hf, ht.1, by omega⟩
          rw [show idL k i f t = idS k i f t from if_pos ok, show idE k i f t = 0 from if_pos ok]
          have S := Lib.hid (spec_idSet k i f t hk hi hf ⟨ht.1, by omega⟩ (by have := yr_le ht.1; unfold idN; have p := yr_in t; have q := yr_in f; rw [ys_old, ys_old] at p q; omega))
          obtain ⟨f0, f1⟩ := hf
          generalize idS k i f t = V at S
          clear ok hk hi ht hm
          go_enter Try.func19, Try.ntmps19
          go_wp2_with fail
          refine (K.out _).mono ?_
          rintro e w1 ⟨rfl, rfl⟩
          go_wp2_with fail
          refine (J.out _).mono ?_
          rintro e w1 ⟨rfl, rfl⟩
          go_wp2_with fail
          refine (D.out _).mono ?_
          rintro e w1 ⟨rfl, rfl⟩
          go_wp2_with fail
          refine (R.out _).mono ?_
          rintro e w1 ⟨rfl, rfl⟩
          go_wp2_with fail
          refine (S.out _).mono ?_
          rintro e w1 ⟨v, rfl, own, hb⟩
          obtain ⟨A2, c2, rfl, row⟩ := own.form
          clear own
          go_wp2_with fail
          go_ret2
          exact ⟨A2, c2, rfl, row, hb⟩
        · have R := Lib.hid (Eas.spec_in_no t f m ht)
          have ok : ¬ idOk k i f t := fun h => ht ⟨h.2.2.2.1, by have := h.2.2.2.2; omega⟩
          rw [show idL k i f t = [] from if_neg ok, show idE k i f t = 2 from if_neg ok]
          obtain ⟨f0, f1⟩ := hf
          clear ok hk hi ht hm
          go_enter Try.func19, Try.ntmps19
          go_wp2_with fail
          refine (K.out _).mono ?_
          rintro e w1 ⟨rfl, rfl⟩
          go_wp2_with fail
          refine (J.out _).mono ?_
          rintro e w1 ⟨rfl, rfl⟩
          go_wp2_with fail
          refine (D.out _).mono ?_
          rintro e w1 ⟨rfl, rfl⟩
          go_wp2_with fail
          refine (R.out _).mono ?_
          rintro e w1 ⟨rfl, rfl⟩
          go_wp2_with fail
          go_ret2
          exact ⟨none, 0, rfl, Sets.Row.nil (Nat.le_refl _), Below.refl _ _⟩
      · have D := Lib.hid (spec_day_no f hf)
        have ok : ¬ idOk k i f t := fun h => hf h.2.2.1
        rw [show idL k i f t = [] from if_neg ok, show idE k i f t = 2 from if_neg ok]
        clear ok hk hi hf
        go_enter Try.func19, Try.ntmps19
        go_wp2_with fail
        refine (K.out _).mono ?_
        rintro e w1 ⟨rfl, rfl⟩
        go_wp2_with fail
        refine (J.out _).mono ?_
        rintro e w1 ⟨rfl, rfl⟩
        go_wp2_with fail
        refine (D.out _).mono ?_
        rintro e w1 ⟨rfl, rfl⟩
        go_wp2_with fail
        go_ret2
        exact ⟨none, 0, rfl, Sets.Row.nil (Nat.le_refl _), Below.refl _ _⟩
    · have J := Lib.hid (Eas.spec_in_no i 1 15 hi)
      have ok : ¬ idOk k i f t := fun h => hi h.2.1
      rw [show idL k i f t = [] from if_neg ok, show idE k i f t = 2 from if_neg ok]
      clear ok hk hi
      go_enter Try.func19, Try.ntmps19
      go_wp2_with fail
      refine (K.out _).mono ?_
      rintro e w1 ⟨rfl, rfl⟩
      go_wp2_with fail
      refine (J.out _).mono ?_
      rintro e w1 ⟨rfl, rfl⟩
      go_wp2_with fail
      go_ret2
      exact ⟨none, 0, rfl, Sets.Row.nil (Nat.le_refl _), Below.refl _ _⟩
  · have K := Lib.hid (spec_kind_no k hk)
    have ok : ¬ idOk k i f t := fun h => hk h.1
    rw [show idL k i f t = [] from if_neg ok, show idE k i f t = 2 from if_neg ok]
    clear ok hk
    go_enter Try.func19, Try.ntmps19
    go_wp2_with fail
    refine (K.out _).mono ?_
    rintro e w1 ⟨rfl, rfl⟩
    go_wp2_with fail
    go_ret2
    exact ⟨none, 0, rfl, Sets.Row.nil (Nat.le_refl _), Below.refl _ _⟩

end Go.Proofs.Ytfienklaafialaa.Ind
