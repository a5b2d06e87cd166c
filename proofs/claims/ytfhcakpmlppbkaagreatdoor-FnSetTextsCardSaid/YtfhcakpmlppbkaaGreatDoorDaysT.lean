/- The contract of spec's function that turns days into dates. -/
import Derived.Test.YtfhcakpmlppbkaaGreatDoorDaysS
namespace Go.Proofs.YtfhcakpmlppbkaaGreatDoor
open Go.RowKit

/-- The loop over the years: no year too far. -/
def SYear (f : Bool) (n : Int) (w : World) (g : Nat) (wr : World) : Prop :=
  ∃ y : Int, 1 ≤ y ∧ y ≤ 2000 ∧ g = (2000 - y).toNat ∧ Cal.ys f y ≤ n ∧
    Blk wr w.heap.size 113 #[.int .i64 0, .int .i64 0, .int .i64 0] ∧
    Blk wr (w.heap.size + 1) 113 #[.int .i64 y, .int .i64 1, .int .i64 1] ∧ Below w.heap.size w wr
/-- The loop over the months: the year is the last that begins in time, no month too far. -/
def SMonth (f : Bool) (n : Int) (w : World) (g : Nat) (wr : World) : Prop :=
  ∃ y m : Int, 1 ≤ y ∧ y ≤ 2000 ∧ (y < 2000 → n < Cal.ys f (y + 1)) ∧ 1 ≤ m ∧ m ≤ 12 ∧ g = (12 - m).toNat ∧ Cal.ys f y + Cal.cum f y m ≤ n ∧
    Blk wr w.heap.size 113 #[.int .i64 0, .int .i64 0, .int .i64 0] ∧
    Blk wr (w.heap.size + 1) 113 #[.int .i64 y, .int .i64 m, .int .i64 1] ∧ Below w.heap.size w wr
/-- What the call leaves: the date with the number, if there is one; else no date. -/
def SDate (f : Bool) (n : Int) (w : World) (e : Ending) (w' : World) : Prop :=
  ∃ y m d : Int, e = .returned (.agg #[.int .i64 y, .int .i64 m, .int .i64 d]) ∧ (n < Cal.ys f 2001 → Cal.valid f y m d) ∧ (Cal.ys f 2001 ≤ n → ¬ Cal.valid f y m d) ∧ Cal.num f y m d = n ∧ Below w.heap.size w w'

theorem num_first (f : Bool) (y m : Int) : Cal.num f y m 1 = Cal.ys f y + Cal.cum f y m := by unfold Cal.num; omega

theorem sdate_of (f : Bool) (n y m : Int) (y1 : 1 ≤ y) (y2 : y ≤ 2000) (m1 : 1 ≤ m) (m2 : m ≤ 12) (hy : y < 2000 → n < Cal.ys f (y + 1)) (hm : m < 12 → n < Cal.ys f y + Cal.cum f y (m + 1)) (hlo : Cal.ys f y + Cal.cum f y m ≤ n) :
    (n < Cal.ys f 2001 → Cal.valid f y m (n - Cal.num f y m 1 + 1)) ∧ (Cal.ys f 2001 ≤ n → ¬ Cal.valid f y m (n - Cal.num f y m 1 + 1)) ∧ Cal.num f y m (n - Cal.num f y m 1 + 1) = n := by
  have cs := Cal.cum_succ f y m m1
  have yss := Cal.ys_succ f y
  have c13 := Cal.cum_13 f y
  rw [num_first]
  refine ⟨fun h => ⟨y1, y2, m1, m2, by omega, ?_⟩, fun h hv => ?_, by unfold Cal.num; omega⟩
  · by_cases hm' : m < 12
    · have := hm hm'; omega
    · have e : m = 12 := by omega
      subst e
      rw [show (12 : Int) + 1 = 13 from rfl] at cs
      by_cases hy' : y < 2000
      · have := hy hy'; omega
      · have e : y = 2000 := by omega
        subst e
        rw [show (2000 : Int) + 1 = 2001 from rfl] at yss
        omega
  · have := (Cal.num_range f hv).2
    unfold Cal.num at this
    omega

set_option maxHeartbeats 1000000 in
theorem spec_date_old (n : Int) (h1 : Cal.ys false 1 ≤ n) (h2 : n ≤ 730499) (w : World) :
    Calls Tryz.prog 119 #[.int .i64 n, .bool false] w (SDate false n w) := by
  have b1 := Cal.ys_bd false 1 (by omega) (by omega)
  have g1 := Cal.sguess_lo false n h1
  have g2 := Cal.sguess_bd false n h1 h2
  rw [show (Cal.ys false 1) = 0 from rfl, Int.sub_zero] at g1 g2
  have n0 : 0 ≤ n := by rw [Cal.ys_1] at h1; simpa using h1
  go_enter Tryz.func119, Tryz.ntmps119
  go_wp2_with fail
  go_loopg [] (2000 - (n / 366 + 1)).toNat (fun g wr => SYear false n w g wr)
  case atStart => exact ⟨_, by omega, by omega, rfl, g1, (Blk.new _ _ _).alloc _, by simpa using Blk.new (w.alloc _) _ _, ((Below.refl _ _).alloc (Nat.le_refl _) _).alloc (by simp) _⟩
  case round =>
    obtain ⟨Y, y1, y2, hg, hlo, k0, k1, hbel⟩ := hrel
    subst hg
    have c0 := k1.cell 0
    have c1 := k1.cell 1
    have c2 := k1.cell 2
    simp at c0 c1 c2
    have e1 := num_first false (Y + 1) 1
    rw [Cal.cum_one] at e1
    have E1 := Lib.hid e1
    clear e1
    have frame : ∀ w2, Below wr.heap.size wr w2 → Blk w2 w.heap.size 113 #[.int .i64 0, .int .i64 0, .int .i64 0] ∧ Blk w2 (w.heap.size + 1) 113 #[.int .i64 Y, .int .i64 1, .int .i64 1] ∧ Below w.heap.size w w2 :=
      fun w2 hb => ⟨k0.below hb k0.lt, k1.below hb k1.lt, hbel.trans (hb.mono hbel.size)⟩
    have F := Lib.hid frame
    clear frame
    by_cases hgo : Y < 2000 ∧ Cal.num false (Y + 1) 1 1 ≤ n
    · obtain ⟨hlt, hle⟩ := hgo
      go_wp2_with fail
      refine (spec_number false (Y + 1) 1 1 (by omega) (by omega) (by omega) (by omega) (by omega) (by omega) _).mono ?_
      rintro e w2 ⟨rfl, hb⟩
      obtain ⟨q0, q1, q2⟩ := F.out w2 hb
      clear c0 c1 c2 hb F
      have c0 := q1.cell 0
      have z0 := q1.frozen 0
      simp at c0
      go_wp2_with fail
      go_roundg (2000 - (Y + 1)).toNat
      case measure => omega
      case rel => exact ⟨Y + 1, by omega, by omega, rfl, by rw [← (Int.add_zero (Cal.ys _ _)), ← E1.out]; exact hle, q0.far (by simp) _, by simpa using q1.set_ 0 _, q2.setCell (by simp) _⟩
    · have hyn : Y < 2000 → n < Cal.ys false (Y + 1) := fun h => by
        have := E1.out
        have h' : ¬ Cal.num false (Y + 1) 1 1 ≤ n := fun h'' => hgo ⟨h, h''⟩
        omega
      by_cases hlt : Y < 2000
      · have hle : ¬ Cal.num false (Y + 1) 1 1 ≤ n := fun h'' => hgo ⟨hlt, h''⟩
        have HY := Lib.hid hyn
        clear hgo hyn
        go_wp2_with fail
        refine (spec_number false (Y + 1) 1 1 (by omega) (by omega) (by omega) (by omega) (by omega) (by omega) _).mono ?_
        rintro e w2 ⟨rfl, hb⟩
        obtain ⟨q0, q1, q2⟩ := F.out w2 hb
        clear c0 c1 c2 hb F k0 k1 hbel
        have c1 := q1.cell 1
        have c0 := q1.cell 0
        simp at c0 c1
        go_wp2_with fail
        clear c0 c1 hle hlt
        go_loopg [] 11 (fun g wr => SMonth false n w g wr)
        case atStart => exact ⟨Y, 1, y1, y2, HY.out, by omega, by omega, rfl, by rw [Cal.cum_one]; omega, q0, q1, q2⟩
        case round =>
          clear q0 q1 q2 hlo y1 y2 HY E1
          obtain ⟨Z, m, y1, y2, hyn, m1, m2, hg, hlo, k0, k1, hbel⟩ := hrel
          subst hg
          have HY := Lib.hid hyn
          clear hyn
          have c0 := k1.cell 0
          have c1 := k1.cell 1
          have c2 := k1.cell 2
          simp at c0 c1 c2
          have E1 := Lib.hid (num_first false Z (m + 1))
          have F := Lib.hid (show ∀ wa w2, Below wr.heap.size wr wa → Below wa.heap.size wa w2 → Blk w2 w.heap.size 113 #[.int .i64 0, .int .i64 0, .int .i64 0] ∧ Blk w2 (w.heap.size + 1) 113 #[.int .i64 Z, .int .i64 m, .int .i64 1] ∧ Below w.heap.size w w2 from
            fun wa w2 ha hb => ⟨(k0.below ha k0.lt).below hb (Nat.lt_of_lt_of_le k0.lt ha.size), (k1.below ha k1.lt).below hb (Nat.lt_of_lt_of_le k1.lt ha.size), (hbel.trans (ha.mono hbel.size)).trans (hb.mono (Nat.le_trans hbel.size ha.size))⟩)
          by_cases hgo : m < 12 ∧ Cal.num false Z (m + 1) 1 ≤ n
          · obtain ⟨hlt2, hle2⟩ := hgo
            go_wp2_with fail
            refine (spec_number false Z (m + 1) 1 (by omega) (by omega) (by omega) (by omega) (by omega) (by omega) _).mono ?_
            rintro e w3 ⟨rfl, hb⟩
            obtain ⟨q0, q1, q2⟩ := F.out _ w3 (Below.refl _ _) hb
            clear c0 c1 c2 hb F
            have c1 := q1.cell 1
            have z1 := q1.frozen 1
            simp at c1
            go_wp2_with fail
            go_roundg (12 - (m + 1)).toNat
            case measure => omega
            case rel => exact ⟨Z, m + 1, y1, y2, HY.out, by omega, by omega, rfl, by rw [← E1.out]; exact hle2, q0.far (by simp) _, by simpa using q1.set_ 1 _, q2.setCell (by simp) _⟩
          · have hmn := Lib.hid (show m < 12 → n < Cal.ys false Z + Cal.cum false Z (m + 1) from fun h => by
              have := E1.out
              have h' : ¬ Cal.num false Z (m + 1) 1 ≤ n := fun h'' => hgo ⟨h, h''⟩
              omega)
            have hfin := Lib.hid (sdate_of false n Z m y1 y2 m1 m2 HY.out hmn.out hlo)
            have nb : 0 ≤ Cal.num false Z m 1 ∧ Cal.num false Z m 1 ≤ 730499 := by
              have a := Cal.ys_bd false Z y1 (by omega)
              have b := Cal.cum_bd false Z m m1 (by omega)
              rw [num_first]
              omega
            by_cases hlt2 : m < 12
            · have hle2 : ¬ Cal.num false Z (m + 1) 1 ≤ n := fun h'' => hgo ⟨hlt2, h''⟩
              clear hgo
              go_wp2_with fail
              refine (spec_number false Z (m + 1) 1 (by omega) (by omega) (by omega) (by omega) (by omega) (by omega) _).mono ?_
              rintro e wa ⟨rfl, ha⟩
              obtain ⟨q0, q1, q2⟩ := F.out _ wa (Below.refl _ _) ha
              clear c0 c1 c2
              have c0 := q1.cell 0
              have c1 := q1.cell 1
              have c2 := q1.cell 2
              simp at c0 c1 c2
              go_wp2_with fail
              refine (spec_number false Z m 1 (by omega) (by omega) (by omega) (by omega) (by omega) (by omega) _).mono ?_
              rintro e w3 ⟨rfl, hb⟩
              obtain ⟨q0, q1, q2⟩ := F.out _ w3 ha hb
              clear ha hb F
              clear c0 c1 c2
              have c0 := q1.cell 0
              have c1 := q1.cell 1
              have c2 := q1.cell 2
              have z2 := q1.frozen 2
              have e0 := q0.cell 0
              have e1 := q0.cell 1
              have e2 := q0.cell 2
              have x0 := q0.frozen 0
              have x1 := q0.frozen 1
              have x2 := q0.frozen 2
              simp at c0 c1 c2 e0 e1 e2
              go_wp2_with fail
              refine bodyPost_ret (v := .agg #[.int .i64 Z, .int .i64 m, .int .i64 (n - Cal.num false Z m 1 + 1)]) (by simp [results, Tryz.results119, go_sem, e0, e1, e2]) rfl ⟨Z, m, _, rfl, hfin.out.1, hfin.out.2.1, hfin.out.2.2, ?_⟩
              exact (((q2.setCell (by simp) _).setCell (Nat.le_refl _) _).setCell (Nat.le_refl _) _).setCell (Nat.le_refl _) _
            · clear hgo
              go_wp2_with fail
              refine (spec_number false Z m 1 (by omega) (by omega) (by omega) (by omega) (by omega) (by omega) _).mono ?_
              rintro e w3 ⟨rfl, hb⟩
              obtain ⟨q0, q1, q2⟩ := F.out _ w3 (Below.refl _ _) hb
              clear hb F
              clear c0 c1 c2
              have c0 := q1.cell 0
              have c1 := q1.cell 1
              have c2 := q1.cell 2
              have z2 := q1.frozen 2
              have e0 := q0.cell 0
              have e1 := q0.cell 1
              have e2 := q0.cell 2
              have x0 := q0.frozen 0
              have x1 := q0.frozen 1
              have x2 := q0.frozen 2
              simp at c0 c1 c2 e0 e1 e2
              go_wp2_with fail
              refine bodyPost_ret (v := .agg #[.int .i64 Z, .int .i64 m, .int .i64 (n - Cal.num false Z m 1 + 1)]) (by simp [results, Tryz.results119, go_sem, e0, e1, e2]) rfl ⟨Z, m, _, rfl, hfin.out.1, hfin.out.2.1, hfin.out.2.2, ?_⟩
              exact (((q2.setCell (by simp) _).setCell (Nat.le_refl _) _).setCell (Nat.le_refl _) _).setCell (Nat.le_refl _) _
      · have HY := Lib.hid hyn
        clear hgo hyn F
        go_wp2_with fail
        have q0 := k0
        have q1 := k1
        have q2 := hbel
        clear k0 k1 hbel c0 c1 c2 hlt
        go_loopg [] 11 (fun g wr => SMonth false n w g wr)
        case atStart => exact ⟨Y, 1, y1, y2, HY.out, by omega, by omega, rfl, by rw [Cal.cum_one]; omega, q0, q1, q2⟩
        case round =>
          clear q0 q1 q2 hlo y1 y2 HY E1
          obtain ⟨Z, m, y1, y2, hyn, m1, m2, hg, hlo, k0, k1, hbel⟩ := hrel
          subst hg
          have HY := Lib.hid hyn
          clear hyn
          have c0 := k1.cell 0
          have c1 := k1.cell 1
          have c2 := k1.cell 2
          simp at c0 c1 c2
          have E1 := Lib.hid (num_first false Z (m + 1))
          have F := Lib.hid (show ∀ wa w2, Below wr.heap.size wr wa → Below wa.heap.size wa w2 → Blk w2 w.heap.size 113 #[.int .i64 0, .int .i64 0, .int .i64 0] ∧ Blk w2 (w.heap.size + 1) 113 #[.int .i64 Z, .int .i64 m, .int .i64 1] ∧ Below w.heap.size w w2 from
            fun wa w2 ha hb => ⟨(k0.below ha k0.lt).below hb (Nat.lt_of_lt_of_le k0.lt ha.size), (k1.below ha k1.lt).below hb (Nat.lt_of_lt_of_le k1.lt ha.size), (hbel.trans (ha.mono hbel.size)).trans (hb.mono (Nat.le_trans hbel.size ha.size))⟩)
          by_cases hgo : m < 12 ∧ Cal.num false Z (m + 1) 1 ≤ n
          · obtain ⟨hlt2, hle2⟩ := hgo
            go_wp2_with fail
            refine (spec_number false Z (m + 1) 1 (by omega) (by omega) (by omega) (by omega) (by omega) (by omega) _).mono ?_
            rintro e w3 ⟨rfl, hb⟩
            obtain ⟨q0, q1, q2⟩ := F.out _ w3 (Below.refl _ _) hb
            clear c0 c1 c2 hb F
            have c1 := q1.cell 1
            have z1 := q1.frozen 1
            simp at c1
            go_wp2_with fail
            go_roundg (12 - (m + 1)).toNat
            case measure => omega
            case rel => exact ⟨Z, m + 1, y1, y2, HY.out, by omega, by omega, rfl, by rw [← E1.out]; exact hle2, q0.far (by simp) _, by simpa using q1.set_ 1 _, q2.setCell (by simp) _⟩
          · have hmn := Lib.hid (show m < 12 → n < Cal.ys false Z + Cal.cum false Z (m + 1) from fun h => by
              have := E1.out
              have h' : ¬ Cal.num false Z (m + 1) 1 ≤ n := fun h'' => hgo ⟨h, h''⟩
              omega)
            have hfin := Lib.hid (sdate_of false n Z m y1 y2 m1 m2 HY.out hmn.out hlo)
            have nb : 0 ≤ Cal.num false Z m 1 ∧ Cal.num false Z m 1 ≤ 730499 := by
              have a := Cal.ys_bd false Z y1 (by omega)
              have b := Cal.cum_bd false Z m m1 (by omega)
              rw [num_first]
              omega
            by_cases hlt2 : m < 12
            · have hle2 : ¬ Cal.num false Z (m + 1) 1 ≤ n := fun h'' => hgo ⟨hlt2, h''⟩
              clear hgo
              go_wp2_with fail
              refine (spec_number false Z (m + 1) 1 (by omega) (by omega) (by omega) (by omega) (by omega) (by omega) _).mono ?_
              rintro e wa ⟨rfl, ha⟩
              obtain ⟨q0, q1, q2⟩ := F.out _ wa (Below.refl _ _) ha
              clear c0 c1 c2
              have c0 := q1.cell 0
              have c1 := q1.cell 1
              have c2 := q1.cell 2
              simp at c0 c1 c2
              go_wp2_with fail
              refine (spec_number false Z m 1 (by omega) (by omega) (by omega) (by omega) (by omega) (by omega) _).mono ?_
              rintro e w3 ⟨rfl, hb⟩
              obtain ⟨q0, q1, q2⟩ := F.out _ w3 ha hb
              clear ha hb F
              clear c0 c1 c2
              have c0 := q1.cell 0
              have c1 := q1.cell 1
              have c2 := q1.cell 2
              have z2 := q1.frozen 2
              have e0 := q0.cell 0
              have e1 := q0.cell 1
              have e2 := q0.cell 2
              have x0 := q0.frozen 0
              have x1 := q0.frozen 1
              have x2 := q0.frozen 2
              simp at c0 c1 c2 e0 e1 e2
              go_wp2_with fail
              refine bodyPost_ret (v := .agg #[.int .i64 Z, .int .i64 m, .int .i64 (n - Cal.num false Z m 1 + 1)]) (by simp [results, Tryz.results119, go_sem, e0, e1, e2]) rfl ⟨Z, m, _, rfl, hfin.out.1, hfin.out.2.1, hfin.out.2.2, ?_⟩
              exact (((q2.setCell (by simp) _).setCell (Nat.le_refl _) _).setCell (Nat.le_refl _) _).setCell (Nat.le_refl _) _
            · clear hgo
              go_wp2_with fail
              refine (spec_number false Z m 1 (by omega) (by omega) (by omega) (by omega) (by omega) (by omega) _).mono ?_
              rintro e w3 ⟨rfl, hb⟩
              obtain ⟨q0, q1, q2⟩ := F.out _ w3 (Below.refl _ _) hb
              clear hb F
              clear c0 c1 c2
              have c0 := q1.cell 0
              have c1 := q1.cell 1
              have c2 := q1.cell 2
              have z2 := q1.frozen 2
              have e0 := q0.cell 0
              have e1 := q0.cell 1
              have e2 := q0.cell 2
              have x0 := q0.frozen 0
              have x1 := q0.frozen 1
              have x2 := q0.frozen 2
              simp at c0 c1 c2 e0 e1 e2
              go_wp2_with fail
              refine bodyPost_ret (v := .agg #[.int .i64 Z, .int .i64 m, .int .i64 (n - Cal.num false Z m 1 + 1)]) (by simp [results, Tryz.results119, go_sem, e0, e1, e2]) rfl ⟨Z, m, _, rfl, hfin.out.1, hfin.out.2.1, hfin.out.2.2, ?_⟩
              exact (((q2.setCell (by simp) _).setCell (Nat.le_refl _) _).setCell (Nat.le_refl _) _).setCell (Nat.le_refl _) _

set_option maxHeartbeats 1000000 in
theorem spec_date_new (n : Int) (h1 : Cal.ys true 1 ≤ n) (h2 : n ≤ 730499) (w : World) :
    Calls Tryz.prog 119 #[.int .i64 n, .bool true] w (SDate true n w) := by
  have b1 := Cal.ys_bd true 1 (by omega) (by omega)
  have g1 := Cal.sguess_lo true n h1
  have g2 := Cal.sguess_bd true n h1 h2
  rw [show (Cal.ys true 1) = 2 from rfl] at g1 g2
  have n0 : 2 ≤ n := by rw [Cal.ys_1] at h1; simpa using h1
  go_enter Tryz.func119, Tryz.ntmps119
  go_wp2_with fail
  go_loopg [] (2000 - ((n - 2) / 366 + 1)).toNat (fun g wr => SYear true n w g wr)
  case atStart => exact ⟨_, by omega, by omega, rfl, g1, (Blk.new _ _ _).alloc _, by simpa using Blk.new (w.alloc _) _ _, ((Below.refl _ _).alloc (Nat.le_refl _) _).alloc (by simp) _⟩
  case round =>
    obtain ⟨Y, y1, y2, hg, hlo, k0, k1, hbel⟩ := hrel
    subst hg
    have c0 := k1.cell 0
    have c1 := k1.cell 1
    have c2 := k1.cell 2
    simp at c0 c1 c2
    have e1 := num_first true (Y + 1) 1
    rw [Cal.cum_one] at e1
    have E1 := Lib.hid e1
    clear e1
    have frame : ∀ w2, Below wr.heap.size wr w2 → Blk w2 w.heap.size 113 #[.int .i64 0, .int .i64 0, .int .i64 0] ∧ Blk w2 (w.heap.size + 1) 113 #[.int .i64 Y, .int .i64 1, .int .i64 1] ∧ Below w.heap.size w w2 :=
      fun w2 hb => ⟨k0.below hb k0.lt, k1.below hb k1.lt, hbel.trans (hb.mono hbel.size)⟩
    have F := Lib.hid frame
    clear frame
    by_cases hgo : Y < 2000 ∧ Cal.num true (Y + 1) 1 1 ≤ n
    · obtain ⟨hlt, hle⟩ := hgo
      go_wp2_with fail
      refine (spec_number true (Y + 1) 1 1 (by omega) (by omega) (by omega) (by omega) (by omega) (by omega) _).mono ?_
      rintro e w2 ⟨rfl, hb⟩
      obtain ⟨q0, q1, q2⟩ := F.out w2 hb
      clear c0 c1 c2 hb F
      have c0 := q1.cell 0
      have z0 := q1.frozen 0
      simp at c0
      go_wp2_with fail
      go_roundg (2000 - (Y + 1)).toNat
      case measure => omega
      case rel => exact ⟨Y + 1, by omega, by omega, rfl, by rw [← (Int.add_zero (Cal.ys _ _)), ← E1.out]; exact hle, q0.far (by simp) _, by simpa using q1.set_ 0 _, q2.setCell (by simp) _⟩
    · have hyn : Y < 2000 → n < Cal.ys true (Y + 1) := fun h => by
        have := E1.out
        have h' : ¬ Cal.num true (Y + 1) 1 1 ≤ n := fun h'' => hgo ⟨h, h''⟩
        omega
      by_cases hlt : Y < 2000
      · have hle : ¬ Cal.num true (Y + 1) 1 1 ≤ n := fun h'' => hgo ⟨hlt, h''⟩
        have HY := Lib.hid hyn
        clear hgo hyn
        go_wp2_with fail
        refine (spec_number true (Y + 1) 1 1 (by omega) (by omega) (by omega) (by omega) (by omega) (by omega) _).mono ?_
        rintro e w2 ⟨rfl, hb⟩
        obtain ⟨q0, q1, q2⟩ := F.out w2 hb
        clear c0 c1 c2 hb F k0 k1 hbel
        have c1 := q1.cell 1
        have c0 := q1.cell 0
        simp at c0 c1
        go_wp2_with fail
        clear c0 c1 hle hlt
        go_loopg [] 11 (fun g wr => SMonth true n w g wr)
        case atStart => exact ⟨Y, 1, y1, y2, HY.out, by omega, by omega, rfl, by rw [Cal.cum_one]; omega, q0, q1, q2⟩
        case round =>
          clear q0 q1 q2 hlo y1 y2 HY E1
          obtain ⟨Z, m, y1, y2, hyn, m1, m2, hg, hlo, k0, k1, hbel⟩ := hrel
          subst hg
          have HY := Lib.hid hyn
          clear hyn
          have c0 := k1.cell 0
          have c1 := k1.cell 1
          have c2 := k1.cell 2
          simp at c0 c1 c2
          have E1 := Lib.hid (num_first true Z (m + 1))
          have F := Lib.hid (show ∀ wa w2, Below wr.heap.size wr wa → Below wa.heap.size wa w2 → Blk w2 w.heap.size 113 #[.int .i64 0, .int .i64 0, .int .i64 0] ∧ Blk w2 (w.heap.size + 1) 113 #[.int .i64 Z, .int .i64 m, .int .i64 1] ∧ Below w.heap.size w w2 from
            fun wa w2 ha hb => ⟨(k0.below ha k0.lt).below hb (Nat.lt_of_lt_of_le k0.lt ha.size), (k1.below ha k1.lt).below hb (Nat.lt_of_lt_of_le k1.lt ha.size), (hbel.trans (ha.mono hbel.size)).trans (hb.mono (Nat.le_trans hbel.size ha.size))⟩)
          by_cases hgo : m < 12 ∧ Cal.num true Z (m + 1) 1 ≤ n
          · obtain ⟨hlt2, hle2⟩ := hgo
            go_wp2_with fail
            refine (spec_number true Z (m + 1) 1 (by omega) (by omega) (by omega) (by omega) (by omega) (by omega) _).mono ?_
            rintro e w3 ⟨rfl, hb⟩
            obtain ⟨q0, q1, q2⟩ := F.out _ w3 (Below.refl _ _) hb
            clear c0 c1 c2 hb F
            have c1 := q1.cell 1
            have z1 := q1.frozen 1
            simp at c1
            go_wp2_with fail
            go_roundg (12 - (m + 1)).toNat
            case measure => omega
            case rel => exact ⟨Z, m + 1, y1, y2, HY.out, by omega, by omega, rfl, by rw [← E1.out]; exact hle2, q0.far (by simp) _, by simpa using q1.set_ 1 _, q2.setCell (by simp) _⟩
          · have hmn := Lib.hid (show m < 12 → n < Cal.ys true Z + Cal.cum true Z (m + 1) from fun h => by
              have := E1.out
              have h' : ¬ Cal.num true Z (m + 1) 1 ≤ n := fun h'' => hgo ⟨h, h''⟩
              omega)
            have hfin := Lib.hid (sdate_of true n Z m y1 y2 m1 m2 HY.out hmn.out hlo)
            have nb : 0 ≤ Cal.num true Z m 1 ∧ Cal.num true Z m 1 ≤ 730499 := by
              have a := Cal.ys_bd true Z y1 (by omega)
              have b := Cal.cum_bd true Z m m1 (by omega)
              rw [num_first]
              omega
            by_cases hlt2 : m < 12
            · have hle2 : ¬ Cal.num true Z (m + 1) 1 ≤ n := fun h'' => hgo ⟨hlt2, h''⟩
              clear hgo
              go_wp2_with fail
              refine (spec_number true Z (m + 1) 1 (by omega) (by omega) (by omega) (by omega) (by omega) (by omega) _).mono ?_
              rintro e wa ⟨rfl, ha⟩
              obtain ⟨q0, q1, q2⟩ := F.out _ wa (Below.refl _ _) ha
              clear c0 c1 c2
              have c0 := q1.cell 0
              have c1 := q1.cell 1
              have c2 := q1.cell 2
              simp at c0 c1 c2
              go_wp2_with fail
              refine (spec_number true Z m 1 (by omega) (by omega) (by omega) (by omega) (by omega) (by omega) _).mono ?_
              rintro e w3 ⟨rfl, hb⟩
              obtain ⟨q0, q1, q2⟩ := F.out _ w3 ha hb
              clear ha hb F
              clear c0 c1 c2
              have c0 := q1.cell 0
              have c1 := q1.cell 1
              have c2 := q1.cell 2
              have z2 := q1.frozen 2
              have e0 := q0.cell 0
              have e1 := q0.cell 1
              have e2 := q0.cell 2
              have x0 := q0.frozen 0
              have x1 := q0.frozen 1
              have x2 := q0.frozen 2
              simp at c0 c1 c2 e0 e1 e2
              go_wp2_with fail
              refine bodyPost_ret (v := .agg #[.int .i64 Z, .int .i64 m, .int .i64 (n - Cal.num true Z m 1 + 1)]) (by simp [results, Tryz.results119, go_sem, e0, e1, e2]) rfl ⟨Z, m, _, rfl, hfin.out.1, hfin.out.2.1, hfin.out.2.2, ?_⟩
              exact (((q2.setCell (by simp) _).setCell (Nat.le_refl _) _).setCell (Nat.le_refl _) _).setCell (Nat.le_refl _) _
            · clear hgo
              go_wp2_with fail
              refine (spec_number true Z m 1 (by omega) (by omega) (by omega) (by omega) (by omega) (by omega) _).mono ?_
              rintro e w3 ⟨rfl, hb⟩
              obtain ⟨q0, q1, q2⟩ := F.out _ w3 (Below.refl _ _) hb
              clear hb F
              clear c0 c1 c2
              have c0 := q1.cell 0
              have c1 := q1.cell 1
              have c2 := q1.cell 2
              have z2 := q1.frozen 2
              have e0 := q0.cell 0
              have e1 := q0.cell 1
              have e2 := q0.cell 2
              have x0 := q0.frozen 0
              have x1 := q0.frozen 1
              have x2 := q0.frozen 2
              simp at c0 c1 c2 e0 e1 e2
              go_wp2_with fail
              refine bodyPost_ret (v := .agg #[.int .i64 Z, .int .i64 m, .int .i64 (n - Cal.num true Z m 1 + 1)]) (by simp [results, Tryz.results119, go_sem, e0, e1, e2]) rfl ⟨Z, m, _, rfl, hfin.out.1, hfin.out.2.1, hfin.out.2.2, ?_⟩
              exact (((q2.setCell (by simp) _).setCell (Nat.le_refl _) _).setCell (Nat.le_refl _) _).setCell (Nat.le_refl _) _
      · have HY := Lib.hid hyn
        clear hgo hyn F
        go_wp2_with fail
        have q0 := k0
        have q1 := k1
        have q2 := hbel
        clear k0 k1 hbel c0 c1 c2 hlt
        go_loopg [] 11 (fun g wr => SMonth true n w g wr)
        case atStart => exact ⟨Y, 1, y1, y2, HY.out, by omega, by omega, rfl, by rw [Cal.cum_one]; omega, q0, q1, q2⟩
        case round =>
          clear q0 q1 q2 hlo y1 y2 HY E1
          obtain ⟨Z, m, y1, y2, hyn, m1, m2, hg, hlo, k0, k1, hbel⟩ := hrel
          subst hg
          have HY := Lib.hid hyn
          clear hyn
          have c0 := k1.cell 0
          have c1 := k1.cell 1
          have c2 := k1.cell 2
          simp at c0 c1 c2
          have E1 := Lib.hid (num_first true Z (m + 1))
          have F := Lib.hid (show ∀ wa w2, Below wr.heap.size wr wa → Below wa.heap.size wa w2 → Blk w2 w.heap.size 113 #[.int .i64 0, .int .i64 0, .int .i64 0] ∧ Blk w2 (w.heap.size + 1) 113 #[.int .i64 Z, .int .i64 m, .int .i64 1] ∧ Below w.heap.size w w2 from
            fun wa w2 ha hb => ⟨(k0.below ha k0.lt).below hb (Nat.lt_of_lt_of_le k0.lt ha.size), (k1.below ha k1.lt).below hb (Nat.lt_of_lt_of_le k1.lt ha.size), (hbel.trans (ha.mono hbel.size)).trans (hb.mono (Nat.le_trans hbel.size ha.size))⟩)
          by_cases hgo : m < 12 ∧ Cal.num true Z (m + 1) 1 ≤ n
          · obtain ⟨hlt2, hle2⟩ := hgo
            go_wp2_with fail
            refine (spec_number true Z (m + 1) 1 (by omega) (by omega) (by omega) (by omega) (by omega) (by omega) _).mono ?_
            rintro e w3 ⟨rfl, hb⟩
            obtain ⟨q0, q1, q2⟩ := F.out _ w3 (Below.refl _ _) hb
            clear c0 c1 c2 hb F
            have c1 := q1.cell 1
            have z1 := q1.frozen 1
            simp at c1
            go_wp2_with fail
            go_roundg (12 - (m + 1)).toNat
            case measure => omega
            case rel => exact ⟨Z, m + 1, y1, y2, HY.out, by omega, by omega, rfl, by rw [← E1.out]; exact hle2, q0.far (by simp) _, by simpa using q1.set_ 1 _, q2.setCell (by simp) _⟩
          · have hmn := Lib.hid (show m < 12 → n < Cal.ys true Z + Cal.cum true Z (m + 1) from fun h => by
              have := E1.out
              have h' : ¬ Cal.num true Z (m + 1) 1 ≤ n := fun h'' => hgo ⟨h, h''⟩
              omega)
            have hfin := Lib.hid (sdate_of true n Z m y1 y2 m1 m2 HY.out hmn.out hlo)
            have nb : 0 ≤ Cal.num true Z m 1 ∧ Cal.num true Z m 1 ≤ 730499 := by
              have a := Cal.ys_bd true Z y1 (by omega)
              have b := Cal.cum_bd true Z m m1 (by omega)
              rw [num_first]
              omega
            by_cases hlt2 : m < 12
            · have hle2 : ¬ Cal.num true Z (m + 1) 1 ≤ n := fun h'' => hgo ⟨hlt2, h''⟩
              clear hgo
              go_wp2_with fail
              refine (spec_number true Z (m + 1) 1 (by omega) (by omega) (by omega) (by omega) (by omega) (by omega) _).mono ?_
              rintro e wa ⟨rfl, ha⟩
              obtain ⟨q0, q1, q2⟩ := F.out _ wa (Below.refl _ _) ha
              clear c0 c1 c2
              have c0 := q1.cell 0
              have c1 := q1.cell 1
              have c2 := q1.cell 2
              simp at c0 c1 c2
              go_wp2_with fail
              refine (spec_number true Z m 1 (by omega) (by omega) (by omega) (by omega) (by omega) (by omega) _).mono ?_
              rintro e w3 ⟨rfl, hb⟩
              obtain ⟨q0, q1, q2⟩ := F.out _ w3 ha hb
              clear ha hb F
              clear c0 c1 c2
              have c0 := q1.cell 0
              have c1 := q1.cell 1
              have c2 := q1.cell 2
              have z2 := q1.frozen 2
              have e0 := q0.cell 0
              have e1 := q0.cell 1
              have e2 := q0.cell 2
              have x0 := q0.frozen 0
              have x1 := q0.frozen 1
              have x2 := q0.frozen 2
              simp at c0 c1 c2 e0 e1 e2
              go_wp2_with fail
              refine bodyPost_ret (v := .agg #[.int .i64 Z, .int .i64 m, .int .i64 (n - Cal.num true Z m 1 + 1)]) (by simp [results, Tryz.results119, go_sem, e0, e1, e2]) rfl ⟨Z, m, _, rfl, hfin.out.1, hfin.out.2.1, hfin.out.2.2, ?_⟩
              exact (((q2.setCell (by simp) _).setCell (Nat.le_refl _) _).setCell (Nat.le_refl _) _).setCell (Nat.le_refl _) _
            · clear hgo
              go_wp2_with fail
              refine (spec_number true Z m 1 (by omega) (by omega) (by omega) (by omega) (by omega) (by omega) _).mono ?_
              rintro e w3 ⟨rfl, hb⟩
              obtain ⟨q0, q1, q2⟩ := F.out _ w3 (Below.refl _ _) hb
              clear hb F
              clear c0 c1 c2
              have c0 := q1.cell 0
              have c1 := q1.cell 1
              have c2 := q1.cell 2
              have z2 := q1.frozen 2
              have e0 := q0.cell 0
              have e1 := q0.cell 1
              have e2 := q0.cell 2
              have x0 := q0.frozen 0
              have x1 := q0.frozen 1
              have x2 := q0.frozen 2
              simp at c0 c1 c2 e0 e1 e2
              go_wp2_with fail
              refine bodyPost_ret (v := .agg #[.int .i64 Z, .int .i64 m, .int .i64 (n - Cal.num true Z m 1 + 1)]) (by simp [results, Tryz.results119, go_sem, e0, e1, e2]) rfl ⟨Z, m, _, rfl, hfin.out.1, hfin.out.2.1, hfin.out.2.2, ?_⟩
              exact (((q2.setCell (by simp) _).setCell (Nat.le_refl _) _).setCell (Nat.le_refl _) _).setCell (Nat.le_refl _) _

theorem spec_date (f : Bool) (n : Int) (h1 : Cal.ys f 1 ≤ n) (h2 : n ≤ 730499) (w : World) :
    Calls Tryz.prog 119 #[.int .i64 n, .bool f] w (SDate f n w) := by
  cases f
  · exact spec_date_old n h1 h2 w
  · exact spec_date_new n h1 h2 w

end Go.Proofs.YtfhcakpmlppbkaaGreatDoor
