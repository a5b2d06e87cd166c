/- Contracts of spec's DaysWith, StylesFor, and of the names of styles. -/
import Derived.Test.YtigjpalbaapkkaaStyB
import Derived.Test.YtigjpalbaapkkaaFeaQ
import Derived.Test.YtigjpalbaapkkaaIntR
import Derived.Deep.RegionHeld3
namespace Go.Proofs.Ytigjpalbaapkkaa.Sty
open Go.RowKit
open Go.Proofs.Ytigjpalbaapkkaa.Eas (isY It)
open Go.Proofs.Ytigjpalbaapkkaa.Fea (yr yr_isY spec_oldOf isDay spec_day_yes spec_day_no bs bs_toList IdxIs spec_text)
open Go.Proofs.Ytigjpalbaapkkaa.Ints (Rd Row Own append_int append_intG)

/-- What a call leaves that answers a list of numbers in a row of its own. -/
def RowO (xs : List Int) (w : World) (e : Ending) (w' : World) : Prop := ∃ v, e = .returned v ∧ Own w' w.heap.size v xs ∧ Below w.heap.size w w'
def DdL (m d a b Y0 : Int) (N : Nat) (w0 : World) (k : Nat) (v i : Value) (wr : World) : Prop :=
  ∃ (j : Nat) (acc : List Int), i = .int .i64 (Y0 + j) ∧ k = N - j ∧ j ≤ N ∧ Hid (acc = dd m d a b Y0 j) ∧ acc.length ≤ j ∧ Own wr w0.heap.size v acc ∧ Below w0.heap.size w0 wr
theorem dd_yes {m d a b Y0 x : Int} {j : Nat} {acc : List Int} (h : acc = dd m d a b Y0 j) (hv : Cal.valid false (Y0 + j) m d) (hx : Cal.num false (Y0 + j) m d = x) (h1 : a ≤ x ∧ x ≤ b) : acc ++ [x] = dd m d a b Y0 (j + 1) := by
  subst h hx
  rw [dd, if_pos ⟨hv, h1⟩]
theorem dd_no {m d a b Y0 : Int} {j : Nat} {acc : List Int} (h : acc = dd m d a b Y0 j) (hn : ¬ (Cal.valid false (Y0 + j) m d ∧ a ≤ Cal.num false (Y0 + j) m d ∧ Cal.num false (Y0 + j) m d ≤ b)) : acc = dd m d a b Y0 (j + 1) := by
  subst h
  rw [dd, if_neg hn, List.append_nil]
theorem _root_.Go.Proofs.Ytigjpalbaapkkaa.St.date {g t : Nat} {x y z u v : Value} {p q : Addr} {L : List (Nat × TypeId × Array Value)} {w0 w : World} (h : St ((g, t, #[x, y, z]) :: L) w0 w) (h0 : w0.cell? p = some u) (h1 : w0.cell? q = some v) :
    w.cell? p = some u ∧ w.cell? q = some v ∧ w.cell? ⟨g, 0, none⟩ = some x ∧ w.cell? ⟨g, 1, none⟩ = some y ∧ w.cell? ⟨g, 2, none⟩ = some z ∧ St ((g, t, #[x, y, z]) :: L) w0 w :=
  ⟨(h.bel.cell (World.block_lt_of_cell? _ _ h0)).trans h0, (h.bel.cell (World.block_lt_of_cell? _ _ h1)).trans h1, h.b0.cell 0, h.b0.cell 1, h.b0.cell 2, h⟩
theorem _root_.Go.Proofs.Ytigjpalbaapkkaa.St.drwS {L : List (Nat × TypeId × Array Value)} {w0 w : World} (h : St L w0 w) : St L w0 w.drew := h.drewN 1

set_option maxRecDepth 100000 in
set_option maxHeartbeats 8000000 in
theorem spec_sdays (m d a b : Int) (a0 : 0 ≤ a) (a1 : a ≤ 730499) (b0 : 0 ≤ b) (b1 : b ≤ 730499) (N : Nat) (hN : (N : Int) = yr b + 1 - yr a) (hN3 : N ≤ 3) (w : World) :
    Calls Try.prog 87 #[.agg #[.int .i64 a, .int .i64 b], .int .i64 m, .int .i64 d] w (RowO (dd m d a b (yr a) N) w) := by
  have OA := Lib.hid (fun w => (spec_oldOf a (by rw [Cal.ys_1]; simpa using a0) a1 w).mono fun e w' k => Fea.SDate.year k a1)
  have OB := Lib.hid (fun w => (spec_oldOf b (by rw [Cal.ys_1]; simpa using b0) b1 w).mono fun e w' k => Fea.SDate.year k b1)
  obtain ⟨ya0, ya1⟩ := yr_isY a a0 a1
  obtain ⟨yb0, yb1⟩ := yr_isY b b0 b1
  generalize yr a = ya at *
  generalize yr b = yb at *
  have hfa : ∀ (m d : Int) (w : World), (Instr.field 47 (.agg #[.int .i64 ya, .int .i64 m, .int .i64 d]) 0).run Try.prog w = .ok (.int .i64 ya) w := fun _ _ _ => by kernel_rfl
  have hfb : ∀ (m d : Int) (w : World), (Instr.field 47 (.agg #[.int .i64 yb, .int .i64 m, .int .i64 d]) 0).run Try.prog w = .ok (.int .i64 yb) w := fun _ _ _ => by kernel_rfl
  have SB := (St.start w).alloc 40 #[.int .i64 a, .int .i64 b]
  have own0 := Own.made0 (w.alloc (.cells #[.int .i64 a, .int .i64 b] 40))
  have hb0 : Below (w.alloc (.cells #[.int .i64 a, .int .i64 b] 40)).heap.size (w.alloc (.cells #[.int .i64 a, .int .i64 b] 40)) ((w.alloc (.cells #[.int .i64 a, .int .i64 b] 40)).alloc (.cells #[] 2)) := (Below.refl _ _).alloc (Nat.le_refl _) _
  have q0 : (w.alloc (.cells #[.int .i64 a, .int .i64 b] 40)).cell? ⟨w.heap.size, 0, none⟩ = some (.int .i64 a) := SB.b0.cell 0
  have q1 : (w.alloc (.cells #[.int .i64 a, .int .i64 b] 40)).cell? ⟨w.heap.size, 1, none⟩ = some (.int .i64 b) := SB.b0.cell 1
  have hbw := SB.bel
  clear SB
  go_enter Try.func87, Try.ntmps87
  go_wp2_with fail
  obtain ⟨w0, hw0⟩ : ∃ w0, w.alloc (.cells #[.int .i64 a, .int .i64 b] 40) = w0 := ⟨_, rfl⟩
  have hz : w.heap.size + 1 = w0.heap.size := by rw [← hw0]; simp
  rw [hw0] at own0 hb0 q0 q1 hbw ⊢
  rw [hz]
  refine (OA.out _).mono ?_
  rintro e w1 ⟨mm, ddd, rfl, hba⟩
  have own1 := own0.below hba
  have hb1 := hb0.trans (hba.mono hb0.size)
  clear own0 hb0 hba OA hw0 hz
  go_wp2_with fail
  clear hfa
  go_loopg [7, 8] N (fun k v i wr => DdL m d a b ya N w0 k v i wr)
  case atStart => exact ⟨0, [], by simp, by omega, by omega, Lib.hid rfl, by simp, own1, hb1⟩
  case round =>
    clear own1 hb1
    obtain ⟨j, acc, rfl, hk, hj, HA, hl, hown, hb1⟩ := hrel
    subst hk
    have k0 : wr.cell? ⟨w.heap.size, 0, none⟩ = some (.int .i64 a) := (hb1.cell (World.block_lt_of_cell? _ _ q0)).trans q0
    have k1 : wr.cell? ⟨w.heap.size, 1, none⟩ = some (.int .i64 b) := (hb1.cell (World.block_lt_of_cell? _ _ q1)).trans q1
    by_cases hlt : j < N
    · have hq : ya + (j : Int) ≤ yb := by omega
      have hj4 : (j : Int) ≤ 3 := by omega
      have HN0 := Lib.hid hN
      have HAdd := HA
      obtain ⟨Y, hY⟩ : ∃ Y, ya + (j : Int) = Y := ⟨_, rfl⟩
      have hY1 : 1 ≤ Y := by omega
      have hY2 : Y ≤ 2000 := by omega
      have V := Lib.hid (spec_IsOldDate Y m d)
      by_cases hv : Cal.valid false Y m d
      · rw [vb_true hv] at V
        obtain ⟨x, hx⟩ : ∃ x, Cal.num false Y m d = x := ⟨_, rfl⟩
        have NU := Lib.hid (Eas.spec_num false Y m d x hv hx)
        by_cases hin : a ≤ x ∧ x ≤ b
        · have I := Lib.hid (Eas.spec_in_yes x a b hin)
          have HN := Lib.hid (dd_yes HA.out (by rw [hY]; exact hv) (by rw [hY]; exact hx) hin)
          rw [hY]
          clear hv hx hin HA HAdd
          go_wp2_with fail
          refine (OB.out _).mono ?_
          rintro e w2 ⟨m2, d2, rfl, hb2⟩
          have own2 := hown.below hb2
          have hb3 := hb1.trans (hb2.mono hb1.size)
          replace k0 := (hb2.cell (World.block_lt_of_cell? _ _ k0)).trans k0
          replace k1 := (hb2.cell (World.block_lt_of_cell? _ _ k1)).trans k1
          clear hown hb1 hb2
          have SD := (St.start w2).alloc 47 #[.int .i64 Y, .int .i64 m, .int .i64 d]
          go_wp2_with fail
          go_region_held3 (fun w' => w'.cell? ⟨w.heap.size, 0, none⟩ = some (.int .i64 a) ∧ w'.cell? ⟨w.heap.size, 1, none⟩ = some (.int .i64 b) ∧ w'.cell? ⟨w2.heap.size, 0, none⟩ = some (.int .i64 Y) ∧ w'.cell? ⟨w2.heap.size, 1, none⟩ = some (.int .i64 m) ∧ w'.cell? ⟨w2.heap.size, 2, none⟩ = some (.int .i64 d) ∧ St [(w2.heap.size, 47, #[.int .i64 Y, .int .i64 m, .int .i64 d])] w2 w')
            (first | with_reducible exact SD.drwS.date k0 k1 | with_reducible exact SQ.date k0 k1 | with_reducible exact SR.date k0 k1)
            (first
              | (go_at_call 86; refine (V.out _).mono ?_; rintro e wq ⟨rfl, hq⟩; have SQ := SD.drwS.call hq)
              | (go_at_call 117; refine (NU.out _).mono ?_; rintro e wt ⟨rfl, hr⟩; have SR := SQ.call hr)
              | (go_at_call 95; refine (I.out _).mono ?_; rintro e wz ⟨rfl, rfl⟩))
          have own4 := own2.below SR.bel
          have hb4 := hb3.trans (SR.bel.mono hb3.size)
          have e0 := SR.b0.cell 0
          have e1 := SR.b0.cell 1
          have e2 := SR.b0.cell 2
          simp only [List.getElem?_toArray, List.getElem?_cons_zero, List.getElem?_cons_succ] at e0 e1 e2
          clear SD SQ SR own2 hb3
          go_wp2_with fail
          refine (NU.out _).mono ?_
          rintro e w5 ⟨rfl, hb5⟩
          have own5 := own4.below hb5
          have hb6 := hb4.trans (hb5.mono hb4.size)
          clear own4 hb5 hb4
          go_wp2_with (at_builtin; refine append_int hb6 own5 (by omega) rfl (.tmp 38) (.tmp 41) rfl rfl rfl ?_)
          intro v6 w6 own6 hb7
          clear own5 hb6
          go_wp2_with fail
          go_roundg (N - (j + 1))
          case measure => omega
          case rel => exact ⟨j + 1, _, by rw [← hY]; push_cast; rw [Int.add_assoc], by omega, by omega, HN, by simp; omega, own6, hb7⟩
        · have I := Lib.hid (Eas.spec_in_no x a b hin)
          have HN := Lib.hid (dd_no (a := a) (b := b) HA.out (by rw [hY, hx]; exact fun h => hin h.2))
          rw [hY]
          clear hv hx hin HA HAdd
          go_wp2_with fail
          refine (OB.out _).mono ?_
          rintro e w2 ⟨m2, d2, rfl, hb2⟩
          have own2 := hown.below hb2
          have hb3 := hb1.trans (hb2.mono hb1.size)
          replace k0 := (hb2.cell (World.block_lt_of_cell? _ _ k0)).trans k0
          replace k1 := (hb2.cell (World.block_lt_of_cell? _ _ k1)).trans k1
          clear hown hb1 hb2
          have SD := (St.start w2).alloc 47 #[.int .i64 Y, .int .i64 m, .int .i64 d]
          go_wp2_with fail
          go_region_held3 (fun w' => w'.cell? ⟨w.heap.size, 0, none⟩ = some (.int .i64 a) ∧ w'.cell? ⟨w.heap.size, 1, none⟩ = some (.int .i64 b) ∧ w'.cell? ⟨w2.heap.size, 0, none⟩ = some (.int .i64 Y) ∧ w'.cell? ⟨w2.heap.size, 1, none⟩ = some (.int .i64 m) ∧ w'.cell? ⟨w2.heap.size, 2, none⟩ = some (.int .i64 d) ∧ St [(w2.heap.size, 47, #[.int .i64 Y, .int .i64 m, .int .i64 d])] w2 w')
            (first | with_reducible exact SD.drwS.date k0 k1 | with_reducible exact SQ.date k0 k1 | with_reducible exact SR.date k0 k1)
            (first
              | (go_at_call 86; refine (V.out _).mono ?_; rintro e wq ⟨rfl, hq⟩; have SQ := SD.drwS.call hq)
              | (go_at_call 117; refine (NU.out _).mono ?_; rintro e wt ⟨rfl, hr⟩; have SR := SQ.call hr)
              | (go_at_call 95; refine (I.out _).mono ?_; rintro e wz ⟨rfl, rfl⟩))
          have own4 := own2.below SR.bel
          have hb4 := hb3.trans (SR.bel.mono hb3.size)
          clear SD SQ SR own2 hb3
          go_wp2_with fail
          go_roundg (N - (j + 1))
          case measure => omega
          case rel => exact ⟨j + 1, _, by rw [← hY]; push_cast; rw [Int.add_assoc], by omega, by omega, HN, by omega, own4, hb4⟩
      · rw [vb_false hv] at V
        have HN := Lib.hid (dd_no (a := a) (b := b) HA.out (by rw [hY]; exact fun h => hv h.1))
        rw [hY]
        clear hv HA HAdd
        go_wp2_with fail
        refine (OB.out _).mono ?_
        rintro e w2 ⟨m2, d2, rfl, hb2⟩
        have own2 := hown.below hb2
        have hb3 := hb1.trans (hb2.mono hb1.size)
        replace k0 := (hb2.cell (World.block_lt_of_cell? _ _ k0)).trans k0
        replace k1 := (hb2.cell (World.block_lt_of_cell? _ _ k1)).trans k1
        clear hown hb1 hb2
        have SD := (St.start w2).alloc 47 #[.int .i64 Y, .int .i64 m, .int .i64 d]
        go_wp2_with fail
        generalize w2.alloc (.cells #[.int .i64 Y, .int .i64 m, .int .i64 d] 47) = w3 at SD ⊢
        refine wp_region_held_drew (S := (fun w' => w'.cell? ⟨w.heap.size, 0, none⟩ = some (.int .i64 a) ∧ w'.cell? ⟨w.heap.size, 1, none⟩ = some (.int .i64 b) ∧ w'.cell? ⟨w2.heap.size, 0, none⟩ = some (.int .i64 Y) ∧ w'.cell? ⟨w2.heap.size, 1, none⟩ = some (.int .i64 m) ∧ w'.cell? ⟨w2.heap.size, 2, none⟩ = some (.int .i64 d) ∧ St [(w2.heap.size, 47, #[.int .i64 Y, .int .i64 m, .int .i64 d])] w2 w')) (by kernel_rfl) ?_ (fun hHeld => ?_)
        · (exact SD.drwS.date k0 k1)
        refine wpAnyH_take (i := 0) (oi := ⟨some 27, _, _, _, _, _⟩) (v := _) rfl (by kernel_rfl) (by kernel_rfl) (by kernel_rfl) (fun _ _ _ h => h) (Or.inl ⟨by kernel_rfl, by (intro wS hSw; (try dsimp only at hSw); go_split_ands; go_simp; (try with_reducible rfl))⟩) (by assumption) ?_
        try simp only [Act.put, List.setIfInBounds_toArray, List.set_cons_zero, List.set_cons_succ]
        refine wpAnyH_ready (rs := [1]) (by kernel_rfl) (by simp) ?_
        refine AllReadyH.cons (o := ⟨some 28, _, _, _, _, _⟩) rfl (fun K hK => ?_) AllReadyH.nil
        go_simp
        refine (V.out _).mono ?_
        rintro e wq ⟨rfl, hq⟩
        have SQ := SD.drwS.call hq
        go_wp2_with fail
        refine hK.out _ _ ?_ (fun hHeld => ?_)
        · (exact SQ.date k0 k1)
        clear hK K
        try simp only [Act.put, List.setIfInBounds_toArray, List.set_cons_zero, List.set_cons_succ]
        refine wpAnyH_take (i := 2) (oi := ⟨some 29, _, _, _, _, _⟩) (v := _) rfl (by kernel_rfl) (by kernel_rfl) (by kernel_rfl) (fun _ _ _ h => h) (Or.inl ⟨by kernel_rfl, by (intro wS hSw; (try dsimp only at hSw); go_split_ands; go_simp; (try with_reducible rfl))⟩) (by assumption) ?_
        try simp only [Act.put, List.setIfInBounds_toArray, List.set_cons_zero, List.set_cons_succ]
        refine wpAnyH_take (i := 3) (oi := ⟨some 30, _, _, _, _, _⟩) (v := undef) rfl (by kernel_rfl) (by kernel_rfl) (by kernel_rfl) (fun _ _ _ h => h) (Or.inr ⟨by kernel_rfl, rfl⟩) (by assumption) ?_
        try simp only [Act.put, List.setIfInBounds_toArray, List.set_cons_zero, List.set_cons_succ]
        refine wpAnyH_take (i := 4) (oi := ⟨some 31, _, _, _, _, _⟩) (v := undef) rfl (by kernel_rfl) (by kernel_rfl) (by kernel_rfl) (fun _ _ _ h => h) (Or.inr ⟨by kernel_rfl, rfl⟩) (by assumption) ?_
        try simp only [Act.put, List.setIfInBounds_toArray, List.set_cons_zero, List.set_cons_succ]
        refine wpAnyH_take (i := 5) (oi := ⟨some 32, _, _, _, _, _⟩) (v := undef) rfl (by kernel_rfl) (by kernel_rfl) (by kernel_rfl) (fun _ _ _ h => h) (Or.inr ⟨by kernel_rfl, rfl⟩) (by assumption) ?_
        try simp only [Act.put, List.setIfInBounds_toArray, List.set_cons_zero, List.set_cons_succ]
        refine wpAnyH_take (i := 6) (oi := ⟨some 33, _, _, _, _, _⟩) (v := undef) rfl (by kernel_rfl) (by kernel_rfl) (by kernel_rfl) (fun _ _ _ h => h) (Or.inr ⟨by kernel_rfl, rfl⟩) (by assumption) ?_
        try simp only [Act.put, List.setIfInBounds_toArray, List.set_cons_zero, List.set_cons_succ]
        refine wpAnyH_take (i := 7) (oi := ⟨some 34, _, _, _, _, _⟩) (v := undef) rfl (by kernel_rfl) (by kernel_rfl) (by kernel_rfl) (fun _ _ _ h => h) (Or.inr ⟨by kernel_rfl, rfl⟩) (by assumption) ?_
        try simp only [Act.put, List.setIfInBounds_toArray, List.set_cons_zero, List.set_cons_succ]
        refine wpAnyH_take (i := 8) (oi := ⟨some 35, _, _, _, _, _⟩) (v := undef) rfl (by kernel_rfl) (by kernel_rfl) (by kernel_rfl) (fun _ _ _ h => h) (Or.inr ⟨by kernel_rfl, rfl⟩) (by assumption) ?_
        try simp only [Act.put, List.setIfInBounds_toArray, List.set_cons_zero, List.set_cons_succ]
        refine wpAnyH_take (i := 9) (oi := ⟨some 36, _, _, _, _, _⟩) (v := undef) rfl (by kernel_rfl) (by kernel_rfl) (by kernel_rfl) (fun _ _ _ h => h) (Or.inr ⟨by kernel_rfl, rfl⟩) (by assumption) ?_
        try simp only [Act.put, List.setIfInBounds_toArray, List.set_cons_zero, List.set_cons_succ]
        refine wpAnyH_take (i := 10) (oi := ⟨some 37, _, _, _, _, _⟩) (v := _) rfl (by kernel_rfl) (by kernel_rfl) (by kernel_rfl) (fun _ _ _ h => h) (Or.inl ⟨by kernel_rfl, by (intro wS hSw; (try dsimp only at hSw); go_split_ands; go_simp; (try with_reducible rfl))⟩) (by assumption) ?_
        try simp only [Act.put, List.setIfInBounds_toArray, List.set_cons_zero, List.set_cons_succ]
        refine wpAnyH_done (by kernel_rfl) ?_ _
        have own4 := own2.below SQ.bel
        have hb4 := hb3.trans (SQ.bel.mono hb3.size)
        clear SD SQ own2 hb3
        go_wp2_with fail
        go_roundg (N - (j + 1))
        case measure => omega
        case rel => exact ⟨j + 1, _, by rw [← hY]; push_cast; rw [Int.add_assoc], by omega, by omega, HN, by omega, own4, hb4⟩
    · have HV : acc = dd m d a b ya N := by
        have e : j = N := by omega
        have h := HA.out
        rwa [e] at h
      subst HV
      have hge : yb + 1 ≤ ya + (j : Int) := by omega
      clear HA
      go_wp2_with fail
      refine (OB.out _).mono ?_
      rintro e w2 ⟨m2, d2, rfl, hb2⟩
      have own2 := hown.below hb2
      have hb3 := hb1.trans (hb2.mono hb1.size)
      clear hown hb1 hb2
      go_wp2_with fail
      go_ret
      exact ⟨_, rfl, own2.mono hbw.size, hbw.trans (hb3.mono hbw.size)⟩

def SfL (n y : Int) (w0 : World) (k : Nat) (v i : Value) (wr : World) : Prop :=
  ∃ (j : Nat) (acc : List Int), i = .int .i64 j ∧ k = 7 - j ∧ j ≤ 7 ∧ Hid (acc = sf n y j) ∧ acc.length ≤ j ∧ Own wr w0.heap.size v acc ∧ Below w0.heap.size w0 wr
set_option maxRecDepth 100000 in
set_option maxHeartbeats 4000000 in
theorem spec_StylesFor_yes (n y : Int) (h : sfOk n y) (w : World) : Calls Try.prog 21 #[.int .i64 n, .int .i64 y] w (Fea.IntsOut (sf n y 7) 0 w) := by
  obtain ⟨⟨n0, n1⟩, hy⟩ := h
  have D := Lib.hid (spec_day_yes n ⟨n0, n1⟩)
  have Y := Lib.hid (spec_syear_yes y hy)
  clear hy
  have own0 := Own.made0 w
  have hb0 : Below w.heap.size w (w.alloc (.cells #[] 2)) := (Below.refl _ _).alloc (Nat.le_refl _) _
  go_enter Try.func21, Try.ntmps21
  go_wp2_with fail
  refine (D.out _).mono ?_
  rintro e w1 ⟨rfl, rfl⟩
  go_wp2_with fail
  refine (Y.out _).mono ?_
  rintro e w1 ⟨rfl, rfl⟩
  go_wp2_with fail
  go_loopg [6, 7] 7 (fun k v i wr => SfL n y w k v i wr)
  case atStart => exact ⟨0, [], rfl, by omega, by omega, Lib.hid rfl, by simp, own0, hb0⟩
  case round =>
    clear own0 hb0
    obtain ⟨j, acc, rfl, hk, hj, HA, hl, hown, hb1⟩ := hrel
    subst hk
    by_cases hlt : j < 7
    · have O := Lib.hid (spec_on6 j n ⟨by omega, by omega⟩ n0 n1)
      have hj6 : (j : Int) ≤ 6 := by omega
      have HC : Hid ((told j n = true ∧ (on j n == y) = true ∧ OnIs j n y) ∨ (told j n = true ∧ (on j n == y) = false ∧ ¬ OnIs j n y) ∨ (told j n = false ∧ ¬ OnIs j n y)) := by
        rcases on_cases j n with ⟨z, h1, h2, h3⟩ | ⟨h1, h2, h3⟩
        · by_cases e : z = y
          · exact .inl ⟨h3, by simpa using h2.trans e, e ▸ h1⟩
          · exact .inr (.inl ⟨h3, by rw [h2]; simpa using e, fun k => e (h1.uniq k)⟩)
        · exact .inr (.inr ⟨h3, h1 y⟩)
      generalize told j n = t at O HC
      generalize on j n = z at O HC
      rcases HC.out with ⟨rfl, hz, ho⟩ | ⟨rfl, hz, ho⟩ | ⟨rfl, ho⟩
      · have HN : Hid (acc ++ [(j : Int)] = sf n y (j + 1)) := Lib.hid (by rw [HA.out, sf, if_pos ho])
        have hzy : z = y := by simpa using hz
        subst hzy
        clear HC HA ho hz
        go_wp2_with fail
        refine (O.out _).mono ?_
        rintro e w2 ⟨rfl, hb2⟩
        have own2 := hown.below hb2
        have hb3 := hb1.trans (hb2.mono hb1.size)
        clear hown hb1 hb2
        go_wp2_with (at_builtin; refine append_int hb3 own2 (by omega) rfl (.tmp 35) (.tmp 37) rfl rfl rfl ?_)
        intro v6 w6 own6 hb7
        clear own2 hb3
        go_wp2_with fail
        go_roundg (7 - (j + 1))
        case measure => omega
        case rel => exact ⟨j + 1, _, by go_num, by omega, by omega, HN, by simp; omega, own6, hb7⟩
      · have HN : Hid (acc = sf n y (j + 1)) := Lib.hid (by rw [HA.out, sf, if_neg ho, List.append_nil])
        clear HC HA ho
        go_wp2_with fail
        refine (O.out _).mono ?_
        rintro e w2 ⟨rfl, hb2⟩
        have own2 := hown.below hb2
        have hb3 := hb1.trans (hb2.mono hb1.size)
        clear hown hb1 hb2
        go_wp2_with fail
        go_roundg (7 - (j + 1))
        case measure => omega
        case rel => exact ⟨j + 1, _, by go_num, by omega, by omega, HN, by omega, own2, hb3⟩
      · have HN : Hid (acc = sf n y (j + 1)) := Lib.hid (by rw [HA.out, sf, if_neg ho, List.append_nil])
        clear HC HA ho
        go_wp2_with fail
        refine (O.out _).mono ?_
        rintro e w2 ⟨rfl, hb2⟩
        have own2 := hown.below hb2
        have hb3 := hb1.trans (hb2.mono hb1.size)
        clear hown hb1 hb2
        go_wp2_with fail
        go_roundg (7 - (j + 1))
        case measure => omega
        case rel => exact ⟨j + 1, _, by go_num, by omega, by omega, HN, by omega, own2, hb3⟩
    · have HV : acc = sf n y 7 := by
        have e : j = 7 := by omega
        have h := HA.out
        rwa [e] at h
      subst HV
      have hge : (7 : Int) ≤ j := by omega
      clear HA
      go_wp2_with fail
      go_ret2
      exact Fea.IntsOut.of hown hb1

theorem spec_StylesFor (n y : Int) (w : World) : Calls Try.prog 21 #[.int .i64 n, .int .i64 y] w (Fea.IntsOut (sfL n y) (sfE n y) w) := by
  by_cases h : sfOk n y
  · rw [show sfL n y = sf n y 7 from if_pos h, show sfE n y = 0 from if_pos h]
    exact spec_StylesFor_yes n y h w
  · rw [show sfL n y = [] from if_neg h, show sfE n y = 2 from if_neg h]
    by_cases hn : isDay n
    · have D := Lib.hid (spec_day_yes n hn)
      have Y := Lib.hid (spec_syear_no y (fun k => h ⟨hn, k⟩))
      clear h hn
      go_enter Try.func21, Try.ntmps21
      go_wp2_with fail
      refine (D.out _).mono ?_
      rintro e w1 ⟨rfl, rfl⟩
      go_wp2_with fail
      refine (Y.out _).mono ?_
      rintro e w1 ⟨rfl, rfl⟩
      go_wp2_with fail
      go_ret2
      exact Fea.IntsOut.empty (Below.refl _ _)
    · have D := Lib.hid (spec_day_no n hn)
      clear h hn
      go_enter Try.func21, Try.ntmps21
      go_wp2_with fail
      refine (D.out _).mono ?_
      rintro e w1 ⟨rfl, rfl⟩
      go_wp2_with fail
      go_ret2
      exact Fea.IntsOut.empty (Below.refl _ _)

/-- What DaysWith leaves. -/
def DwO (s y m d : Int) (w : World) (e : Ending) (w' : World) : Prop := ∃ (V : List Int) (E : Int), DwAns s y m d V E ∧ Fea.IntsOut V E w e w'
theorem DwO.no {s y m d : Int} {w w' : World} (h : ¬ dwOk s y m d) (hb : Below w.heap.size w w') : DwO s y m d w (.returned (.tuple #[.slice none 0 0, .int .i64 2])) w' := ⟨[], 2, .inr ⟨h, rfl, rfl⟩, Fea.IntsOut.empty hb⟩

set_option maxRecDepth 100000 in
set_option maxHeartbeats 2000000 in
theorem spec_DaysWith (s y m d : Int) (w : World) : Calls Try.prog 35 #[.int .i64 s, .int .i64 y, .int .i64 m, .int .i64 d] w (DwO s y m d w) := by
  have V := Lib.hid (spec_IsOldDate 4 m d)
  by_cases hs : isS s
  · have S := Lib.hid (spec_style_yes s hs)
    by_cases hy : isT y
    · have Y := Lib.hid (spec_syear_yes y hy)
      by_cases hv : Cal.valid false 4 m d
      · rw [vb_true hv] at V
        have P := Lib.hid (spec_sspan s y hs hy)
        obtain ⟨a0, a1⟩ := bg_bd2 s y hy.1 (by have := hy.2; omega)
        obtain ⟨b0, b1⟩ := bg_bd2 s (y + 1) (by have := hy.1; omega) (by have := hy.2; omega)
        have hg := (bg_all s y).2.2.1
        obtain ⟨s1, s2, s3⟩ := span_years s y
        have hm := yr_monoS (show bg s y ≤ bg s (y + 1) - 1 by omega)
        obtain ⟨N, hN⟩ : ∃ N : Nat, (N : Int) = yr (bg s (y + 1) - 1) + 1 - yr (bg s y) := ⟨(yr (bg s (y + 1) - 1) + 1 - yr (bg s y)).toNat, by omega⟩
        have D := Lib.hid (spec_sdays m d (bg s y) (bg s (y + 1) - 1) a0 a1 (by omega) (by omega) N hN (by omega))
        have HA := Lib.hid (dd_ans (show dwOk s y m d from ⟨⟨hs, hy⟩, hv⟩) (Int.le_refl _) (Int.le_refl _) N hN (by omega))
        clear hN hm s1 s2 s3 hg a0 a1 b0 b1 hv hs hy
        generalize dd m d (bg s y) (bg s (y + 1) - 1) (yr (bg s y)) N = V0 at D HA
        generalize bg s y = a at *
        generalize bg s (y + 1) - 1 = b at *
        go_enter Try.func35, Try.ntmps35
        go_wp2_with fail
        refine (S.out _).mono ?_
        rintro e w1 ⟨rfl, rfl⟩
        go_wp2_with fail
        refine (Y.out _).mono ?_
        rintro e w1 ⟨rfl, rfl⟩
        go_wp2_with fail
        refine (V.out _).mono ?_
        rintro e w1 ⟨rfl, hb1⟩
        go_wp2_with fail
        refine (P.out _).mono ?_
        rintro e w2 ⟨rfl, hb2⟩
        go_wp2_with fail
        refine (D.out _).mono ?_
        rintro e w3 ⟨v, rfl, ho, hb3⟩
        have hb4 := hb1.trans (hb2.mono hb1.size)
        go_wp2_with fail
        go_ret2
        exact ⟨V0, 0, HA.out, Fea.IntsOut.of (ho.mono hb4.size) (hb4.trans (hb3.mono hb4.size))⟩
      · rw [vb_false hv] at V
        have HN := Lib.hid (show ¬ dwOk s y m d from fun h => hv h.2)
        clear hv hs hy
        go_enter Try.func35, Try.ntmps35
        go_wp2_with fail
        refine (S.out _).mono ?_
        rintro e w1 ⟨rfl, rfl⟩
        go_wp2_with fail
        refine (Y.out _).mono ?_
        rintro e w1 ⟨rfl, rfl⟩
        go_wp2_with fail
        refine (V.out _).mono ?_
        rintro e w1 ⟨rfl, hb1⟩
        go_wp2_with fail
        go_ret2
        exact DwO.no HN.out hb1
    · have Y := Lib.hid (spec_syear_no y hy)
      have HN := Lib.hid (show ¬ dwOk s y m d from fun h => hy h.1.2)
      clear hs hy
      go_enter Try.func35, Try.ntmps35
      go_wp2_with fail
      refine (S.out _).mono ?_
      rintro e w1 ⟨rfl, rfl⟩
      go_wp2_with fail
      refine (Y.out _).mono ?_
      rintro e w1 ⟨rfl, rfl⟩
      go_wp2_with fail
      go_ret2
      exact DwO.no HN.out (Below.refl _ _)
  · have S := Lib.hid (spec_style_no s hs)
    have HN := Lib.hid (show ¬ dwOk s y m d from fun h => hs h.1.1)
    clear hs
    go_enter Try.func35, Try.ntmps35
    go_wp2_with fail
    refine (S.out _).mono ?_
    rintro e w1 ⟨rfl, rfl⟩
    go_wp2_with fail
    go_ret2
    exact DwO.no HN.out (Below.refl _ _)

/-! ### names -/
theorem spec_snames (w : World) : Calls Try.prog 82 #[] w fun e w' => ∃ g, e = .returned (.slice (some ⟨g, 0, none⟩) 7 7) ∧ Blk w' g 9 snV ∧ (w.heap.size ≤ g ∧ g < w'.heap.size) ∧ Below w.heap.size w w' := by
  go_enter Try.func82, Try.ntmps82
  go_wp2_with fail
  go_ret
  exact ⟨w.heap.size, rfl, Blk.new w 9 snV, ⟨Nat.le_refl _, by simp⟩, (Below.refl _ _).alloc (Nat.le_refl _) _⟩
/-- What StyleNamed and StyleName leave. -/
def SnO (l : List UInt8) (w : World) (e : Ending) (w' : World) : Prop := ∃ k b, SNamed l k b ∧ e = .returned (.tuple #[.int .i64 k, .bool b]) ∧ Below w.heap.size w w'
theorem spec_StyleNamed (s : ByteArray) (w : World) : Calls Try.prog 29 #[.string s] w (SnO s.toList w) := by
  go_enter Try.func29, Try.ntmps29
  go_wp2_with fail
  refine (spec_snames _).mono ?_
  rintro e w1 ⟨g, rfl, hg, hlt, hb⟩
  go_wp2_with fail
  refine (spec_text g 7 snms snms_len (by omega) s _ hg).mono ?_
  rintro e w2 ⟨k, hk, rfl, rfl⟩
  by_cases h0 : k < 0
  · have HN := Lib.hid (show SNamed s.toList 0 false from ⟨k, hk, .inr ⟨by rcases hk with ⟨j, e, -⟩ | ⟨e, -⟩ <;> omega, rfl, rfl⟩⟩)
    clear hk hg
    go_wp2_with fail
    go_ret2
    exact ⟨0, false, HN, rfl, hb⟩
  · have h0 : 0 ≤ k := by omega
    have HN := Lib.hid (show SNamed s.toList k true from ⟨k, hk, .inl ⟨h0, rfl, rfl⟩⟩)
    clear hk hg
    go_wp2_with fail
    go_ret2
    exact ⟨k, true, HN, rfl, hb⟩
def StO (l : List UInt8) (w : World) (e : Ending) (w' : World) : Prop := e = .returned (.string (bs l)) ∧ Below w.heap.size w w'
theorem ret_bsS {l l' : List UInt8} (h : l = l') : Ending.returned (.string (bs l)) = .returned (.string (bs l')) := by rw [h]
theorem spec_StyleName (f : Int) (w : World) : Calls Try.prog 31 #[.int .i64 f] w (StO (snL f) w) := by
  by_cases hf : isS f
  · have F := Lib.hid (spec_style_yes f hf)
    obtain ⟨h0, h1⟩ := hf
    obtain ⟨j, rfl⟩ : ∃ j : Nat, f = j := ⟨f.toNat, by omega⟩
    have hj : j < 7 := by omega
    have HG := Lib.hid (snV_get j hj)
    obtain ⟨s, hs⟩ : ∃ s, bs (snL (j : Int)) = s := ⟨_, rfl⟩
    rw [hs] at HG
    have HS := Lib.hid hs
    clear hs
    go_enter Try.func31, Try.ntmps31
    go_wp2_with fail
    refine (F.out _).mono ?_
    rintro e w1 ⟨rfl, rfl⟩
    go_wp2_with fail
    refine (spec_snames _).mono ?_
    rintro e w1 ⟨g, rfl, hg, hlt, hb⟩
    have c0 := (hg.cell j).trans HG.out
    clear hg
    go_wp2_with fail
    go_ret
    exact ⟨by rw [HS.out]; rfl, hb⟩
  · have F := Lib.hid (spec_style_no f hf)
    have HL := Lib.hid (snL_no f hf)
    clear hf
    go_enter Try.func31, Try.ntmps31
    go_wp2_with fail
    refine (F.out _).mono ?_
    rintro e w1 ⟨rfl, rfl⟩
    go_wp2_with fail
    go_ret
    exact ⟨ret_bsS HL.out.symm, Below.refl _ _⟩

end Go.Proofs.Ytigjpalbaapkkaa.Sty
