/- Texts of a claim in one file: ReiIa Copy. -/
import Derived.Test.YtfhcakpmlppbkaaGreatDoorGrpAs
import Derived.Test.YtfhcakpmlppbkaaGreatDoorGrpAy
import Derived.Test.YtfhcakpmlppbkaaGreatDoorGrpAo
import Derived.Laws.IdiomCopy
import Derived.Laws.CopyRow
import Derived.Laws.CopyOwn
namespace Go.Proofs.YtfhcakpmlppbkaaGreatDoor.Rei
open Go.RowKit
open Go.Proofs.YtfhcakpmlppbkaaGreatDoor.Eas (It)
open Go.Proofs.YtfhcakpmlppbkaaGreatDoor.Fea (isDay)
open Go.Proofs.YtfhcakpmlppbkaaGreatDoor.Sets (cell_keep below_on okB ok okB_t okB_f impl_valid)

theorem impl_day_yes (n : Int) (h : isDay n) (w : World) : Calls Tryz.prog 54 #[.int .i64 n] w fun e w' => e = .returned (.bool true) ∧ w = w' := Sets.impl_isDay n true (decide_eq_true h) w
theorem impl_day_no (n : Int) (h : ¬ isDay n) (w : World) : Calls Tryz.prog 54 #[.int .i64 n] w fun e w' => e = .returned (.bool false) ∧ w = w' := Sets.impl_isDay n false (decide_eq_false h) w

theorem impl_isName (s : ByteArray) (hs : s.size ≤ maxLen) (b : Bool) (h : decide (nmOk s 12) = b) (w : World) : Calls Tryz.prog 97 #[.string s] w fun e w' => e = .returned (.bool b) ∧ w = w' := by
  have N := Lib.hid (Sml.impl_small s 12 hs b (by rw [← h]; exact decide_eq_decide.2 Iff.rfl))
  clear h
  go_enter Tryz.func97, Tryz.ntmps97
  go_wp2_with fail
  refine (N.out _).mono ?_
  rintro e w1 ⟨rfl, rfl⟩
  go_wp2_with fail
  go_ret
  exact ⟨rfl, rfl⟩

/-- What a call leaves that answers a span. -/
def SpI (f t : Int) (w : World) (e : Ending) (w' : World) : Prop := e = .returned (.agg #[.int .i64 f, .int .i64 t]) ∧ Below w.heap.size w w'

theorem impl_rspan (s : ByteArray) (f t : Int) (w : World) : Calls Tryz.prog 58 #[rV s f t] w (SpI f t w) := by
  have hb : Below w.heap.size w ((w.alloc (.cells #[.string s, .int .i64 f, .int .i64 t] 79)).alloc (.cells #[.int .i64 f, .int .i64 t] 36)) := ((Below.refl _ _).alloc (Nat.le_refl _) _).alloc (by simp) _
  go_enter Tryz.func58, Tryz.ntmps58
  go_wp2_with fail
  refine bodyPost_ret (v := .agg #[.int .i64 f, .int .i64 t]) (by simp [results, Tryz.results58, go_sem]) rfl ⟨rfl, hb⟩

theorem rok_ok {s : ByteArray} {f t : Int} (hn : nmOk s 12) : rOk s f t ↔ ok (f, t) := by
  unfold rOk ok
  simp only
  constructor
  · rintro ⟨-, h1, h2, h3⟩; omega
  · intro h; exact ⟨hn, by omega, by omega, by omega⟩

set_option maxHeartbeats 1000000 in
theorem impl_reign (s : ByteArray) (hs : s.size ≤ maxLen) (f t : Int) (b : Bool) (h : decide (rOk s f t) = b) (w : World) : Calls Tryz.prog 75 #[rV s f t] w fun e w' => e = .returned (.bool b) ∧ Below w.heap.size w w' := by
  have S := (St.start w).alloc 79 #[.string s, .int .i64 f, .int .i64 t]
  obtain ⟨c0, c1, c2, -⟩ := S.rei
  by_cases hn : nmOk s 12
  · have N := Lib.hid (impl_isName s hs true (decide_eq_true hn))
    have R := Lib.hid (impl_rspan s f t)
    have V := Lib.hid (fun w => impl_valid f t b w (by
      rw [← h]
      by_cases k : ok (f, t)
      · rw [okB_t k, decide_eq_true ((rok_ok hn).2 k)]
      · rw [okB_f k, decide_eq_false (fun q => k ((rok_ok hn).1 q))]))
    clear h hn
    go_enter Tryz.func75, Tryz.ntmps75
    go_wp2_with fail
    refine (N.out _).mono ?_
    rintro e w1 ⟨rfl, rfl⟩
    go_wp2_with fail
    refine (R.out _).mono ?_
    rintro e w2 ⟨rfl, hb2⟩
    go_wp2_with fail
    refine (V.out _).mono ?_
    rintro e w3 ⟨rfl, hb3⟩
    go_wp2_with fail
    go_ret
    exact ⟨rfl, ((S.call hb2).call hb3).bel⟩
  · have N := Lib.hid (impl_isName s hs false (decide_eq_false hn))
    have hb : b = false := by rw [← h]; exact decide_eq_false fun k => hn k.1
    subst hb
    clear h hn
    go_enter Tryz.func75, Tryz.ntmps75
    go_wp2_with fail
    refine (N.out _).mono ?_
    rintro e w1 ⟨rfl, rfl⟩
    go_wp2_with fail
    go_ret
    exact ⟨rfl, S.bel⟩

set_option maxHeartbeats 1600000 in
set_option maxRecDepth 10000 in
theorem impl_AreReigns (A : Option Addr) (n c : Nat) (xs : LR) (hn : n ≤ maxLen) (w : World) (h : RdR w A n xs) :
    Calls Tryz.prog 31 #[.slice A n c] w fun e w' => e = .returned (.bool (decide (arOk xs))) ∧ Below w.heap.size w w' := by
  unfold maxLen at hn
  have hlen := h.1
  by_cases h3 : n ≤ 30
  · have h3' : decide (30 < (n : Int)) = false := by simp; omega
    go_enter Tryz.func31, Tryz.ntmps31
    go_wp2_with fail
    go_loopg [10] n (fun m i wr => ∃ k : Nat, k ≤ n ∧ m = n - k ∧ i = .int .i64 k ∧ Below w.heap.size w wr ∧ Hid (UpR xs k))
    case atStart => exact ⟨0, by omega, by omega, rfl, Below.refl _ _, Lib.hid (upr_0 xs)⟩
    case round =>
      obtain ⟨k, hk, hm, rfl, hb, hu⟩ := hrel
      subst hm
      by_cases hlt : k < n
      · rcases Nat.eq_zero_or_pos k with h0 | h0
        · obtain ⟨g, off, hl, rfl, hsz, hg, c0, c1, c2⟩ := (h.below hb).at_ hlt
          have hz : decide (0 < k) = false := by simp [h0]
          by_cases ho : rOk xs[k].1 xs[k].2.1 xs[k].2.2
          · have v := Lib.hid (impl_reign _ hsz _ _ _ (decide_eq_true ho))
            have HU := Lib.hid (upr_one hl h0 hu.out ho)
            clear hu ho h0 hsz
            have BQ := (Blk.new wr 79 #[.string xs[k].1, .int .i64 xs[k].2.1, .int .i64 xs[k].2.2]).drew
            have hbd : Below w.heap.size w (wr.alloc (.cells #[.string xs[k].1, .int .i64 xs[k].2.1, .int .i64 xs[k].2.2] 79)).drew := (hb.alloc hb.size _).drew
            go_wp2_with fail
            refine wp_region_held_drew (S := (fun w' => w'.cell? ⟨wr.heap.size, 0, none⟩ = some (.string xs[k].1) ∧ w'.cell? ⟨wr.heap.size, 1, none⟩ = some (.int .i64 xs[k].2.1) ∧ w'.cell? ⟨wr.heap.size, 2, none⟩ = some (.int .i64 xs[k].2.2) ∧ Below w.heap.size w w')) (by kernel_rfl) ?_ (fun hHeld => ?_)
            · (exact ⟨BQ.cell 0, BQ.cell 1, BQ.cell 2, hbd⟩)
            refine wpAnyH_take (i := 0) (oi := ⟨some 15, _, _, _, _, _⟩) (v := _) rfl (by kernel_rfl) (by kernel_rfl) (by kernel_rfl) (fun _ _ _ h => h) (Or.inl ⟨by kernel_rfl, by (intro wS hSw; (try dsimp only at hSw); go_split_ands; go_simp; (try with_reducible rfl))⟩) (by assumption) ?_
            try simp only [Act.put, List.setIfInBounds_toArray, List.set_cons_zero, List.set_cons_succ]
            refine wpAnyH_ready (rs := [1]) (by kernel_rfl) (by simp) ?_
            refine AllReadyH.cons (o := ⟨some 16, _, _, _, _, _⟩) rfl (fun K hK => ?_) AllReadyH.nil
            go_simp
            refine (v.out _).mono ?_
            rintro e wq ⟨rfl, hbq⟩
            go_wp2_with fail
            refine hK.out _ _ ?_ (fun hHeld => ?_)
            · ((go_split_ands; exact ⟨cell_keep hbq (by assumption), cell_keep hbq (by assumption), cell_keep hbq (by assumption), below_on (by assumption) hbq⟩))
            clear hK K
            try simp only [Act.put, List.setIfInBounds_toArray, List.set_cons_zero, List.set_cons_succ]
            refine wpAnyH_take (i := 2) (oi := ⟨some 17, _, _, _, _, _⟩) (v := _) rfl (by kernel_rfl) (by kernel_rfl) (by kernel_rfl) (fun _ _ _ h => h) (Or.inl ⟨by kernel_rfl, by (intro wS hSw; (try dsimp only at hSw); go_split_ands; go_simp; (try with_reducible rfl))⟩) (by assumption) ?_
            try simp only [Act.put, List.setIfInBounds_toArray, List.set_cons_zero, List.set_cons_succ]
            refine wpAnyH_take (i := 3) (oi := ⟨some 18, _, _, _, _, _⟩) (v := _) rfl (by kernel_rfl) (by kernel_rfl) (by kernel_rfl) (fun _ _ _ h => h) (Or.inl ⟨by kernel_rfl, by (intro wS hSw; (try dsimp only at hSw); go_split_ands; go_simp; (try with_reducible rfl))⟩) (by assumption) ?_
            try simp only [Act.put, List.setIfInBounds_toArray, List.set_cons_zero, List.set_cons_succ]
            refine wpAnyH_take (i := 4) (oi := ⟨some 19, _, _, _, _, _⟩) (v := _) rfl (by kernel_rfl) (by kernel_rfl) (by kernel_rfl) (fun _ _ _ h => h) (Or.inl ⟨by kernel_rfl, by (intro wS hSw; (try dsimp only at hSw); go_split_ands; go_simp; (try with_reducible rfl))⟩) (by assumption) ?_
            try simp only [Act.put, List.setIfInBounds_toArray, List.set_cons_zero, List.set_cons_succ]
            refine wpAnyH_take (i := 5) (oi := ⟨some 20, _, _, _, _, _⟩) (v := _) rfl (by kernel_rfl) (by kernel_rfl) (by kernel_rfl) (fun _ _ _ h => h) (Or.inl ⟨by kernel_rfl, by (intro wS hSw; (try dsimp only at hSw); go_split_ands; go_simp; (try with_reducible rfl))⟩) (by assumption) ?_
            try simp only [Act.put, List.setIfInBounds_toArray, List.set_cons_zero, List.set_cons_succ]
            refine wpAnyH_take (i := 6) (oi := ⟨some 21, _, _, _, _, _⟩) (v := _) rfl (by kernel_rfl) (by kernel_rfl) (by kernel_rfl) (fun _ _ _ h => h) (Or.inl ⟨by kernel_rfl, by (intro wS hSw; (try dsimp only at hSw); go_split_ands; go_simp; (try with_reducible rfl))⟩) (by assumption) ?_
            try simp only [Act.put, List.setIfInBounds_toArray, List.set_cons_zero, List.set_cons_succ]
            refine wpAnyH_take (i := 7) (oi := ⟨some 22, _, _, _, _, _⟩) (v := undef) rfl (by kernel_rfl) (by kernel_rfl) (by kernel_rfl) (fun _ _ _ h => h) (Or.inr ⟨by kernel_rfl, rfl⟩) (by assumption) ?_
            try simp only [Act.put, List.setIfInBounds_toArray, List.set_cons_zero, List.set_cons_succ]
            refine wpAnyH_take (i := 8) (oi := ⟨some 23, _, _, _, _, _⟩) (v := undef) rfl (by kernel_rfl) (by kernel_rfl) (by kernel_rfl) (fun _ _ _ h => h) (Or.inr ⟨by kernel_rfl, rfl⟩) (by assumption) ?_
            try simp only [Act.put, List.setIfInBounds_toArray, List.set_cons_zero, List.set_cons_succ]
            refine wpAnyH_take (i := 9) (oi := ⟨some 24, _, _, _, _, _⟩) (v := undef) rfl (by kernel_rfl) (by kernel_rfl) (by kernel_rfl) (fun _ _ _ h => h) (Or.inr ⟨by kernel_rfl, rfl⟩) (by assumption) ?_
            try simp only [Act.put, List.setIfInBounds_toArray, List.set_cons_zero, List.set_cons_succ]
            refine wpAnyH_take (i := 10) (oi := ⟨some 25, _, _, _, _, _⟩) (v := undef) rfl (by kernel_rfl) (by kernel_rfl) (by kernel_rfl) (fun _ _ _ h => h) (Or.inr ⟨by kernel_rfl, rfl⟩) (by assumption) ?_
            try simp only [Act.put, List.setIfInBounds_toArray, List.set_cons_zero, List.set_cons_succ]
            refine wpAnyH_take (i := 11) (oi := ⟨some 26, _, _, _, _, _⟩) (v := undef) rfl (by kernel_rfl) (by kernel_rfl) (by kernel_rfl) (fun _ _ _ h => h) (Or.inr ⟨by kernel_rfl, rfl⟩) (by assumption) ?_
            try simp only [Act.put, List.setIfInBounds_toArray, List.set_cons_zero, List.set_cons_succ]
            refine wpAnyH_take (i := 12) (oi := ⟨some 27, _, _, _, _, _⟩) (v := undef) rfl (by kernel_rfl) (by kernel_rfl) (by kernel_rfl) (fun _ _ _ h => h) (Or.inr ⟨by kernel_rfl, rfl⟩) (by assumption) ?_
            try simp only [Act.put, List.setIfInBounds_toArray, List.set_cons_zero, List.set_cons_succ]
            refine wpAnyH_take (i := 13) (oi := ⟨some 28, _, _, _, _, _⟩) (v := undef) rfl (by kernel_rfl) (by kernel_rfl) (by kernel_rfl) (fun _ _ _ h => h) (Or.inr ⟨by kernel_rfl, rfl⟩) (by assumption) ?_
            try simp only [Act.put, List.setIfInBounds_toArray, List.set_cons_zero, List.set_cons_succ]
            refine wpAnyH_take (i := 14) (oi := ⟨some 29, _, _, _, _, _⟩) (v := undef) rfl (by kernel_rfl) (by kernel_rfl) (by kernel_rfl) (fun _ _ _ h => h) (Or.inr ⟨by kernel_rfl, rfl⟩) (by assumption) ?_
            try simp only [Act.put, List.setIfInBounds_toArray, List.set_cons_zero, List.set_cons_succ]
            refine wpAnyH_take (i := 15) (oi := ⟨some 30, _, _, _, _, _⟩) (v := undef) rfl (by kernel_rfl) (by kernel_rfl) (by kernel_rfl) (fun _ _ _ h => h) (Or.inr ⟨by kernel_rfl, rfl⟩) (by assumption) ?_
            try simp only [Act.put, List.setIfInBounds_toArray, List.set_cons_zero, List.set_cons_succ]
            refine wpAnyH_take (i := 16) (oi := ⟨some 31, _, _, _, _, _⟩) (v := _) rfl (by kernel_rfl) (by kernel_rfl) (by kernel_rfl) (fun _ _ _ h => h) (Or.inl ⟨by kernel_rfl, by (intro wS hSw; (try dsimp only at hSw); go_split_ands; go_simp; (try with_reducible rfl))⟩) (by assumption) ?_
            try simp only [Act.put, List.setIfInBounds_toArray, List.set_cons_zero, List.set_cons_succ]
            refine wpAnyH_take (i := 17) (oi := ⟨some 32, _, _, _, _, _⟩) (v := _) rfl (by kernel_rfl) (by kernel_rfl) (by kernel_rfl) (fun _ _ _ h => h) (Or.inl ⟨by kernel_rfl, by (intro wS hSw; (try dsimp only at hSw); go_split_ands; go_simp; (try with_reducible rfl))⟩) (by assumption) ?_
            try simp only [Act.put, List.setIfInBounds_toArray, List.set_cons_zero, List.set_cons_succ]
            refine wpAnyH_done (by kernel_rfl) ?_ _
            have hfin : Below w.heap.size w _ := hHeld.2.2.2
            clear hHeld
            go_wp2_with fail
            go_roundg (n - (k + 1))
            case measure => omega
            case rel => exact ⟨k + 1, by omega, by omega, by go_num, hfin, HU.out⟩
          · have v := Lib.hid (impl_reign _ hsz _ _ _ (decide_eq_false ho))
            have r := Lib.hid (ar_bad hl ho)
            clear hu ho h0 hsz
            have BQ := (Blk.new wr 79 #[.string xs[k].1, .int .i64 xs[k].2.1, .int .i64 xs[k].2.2]).drew
            have hbd : Below w.heap.size w (wr.alloc (.cells #[.string xs[k].1, .int .i64 xs[k].2.1, .int .i64 xs[k].2.2] 79)).drew := (hb.alloc hb.size _).drew
            go_wp2_with fail
            refine wp_region_held_drew (S := (fun w' => w'.cell? ⟨wr.heap.size, 0, none⟩ = some (.string xs[k].1) ∧ w'.cell? ⟨wr.heap.size, 1, none⟩ = some (.int .i64 xs[k].2.1) ∧ w'.cell? ⟨wr.heap.size, 2, none⟩ = some (.int .i64 xs[k].2.2) ∧ Below w.heap.size w w')) (by kernel_rfl) ?_ (fun hHeld => ?_)
            · (exact ⟨BQ.cell 0, BQ.cell 1, BQ.cell 2, hbd⟩)
            refine wpAnyH_take (i := 0) (oi := ⟨some 15, _, _, _, _, _⟩) (v := _) rfl (by kernel_rfl) (by kernel_rfl) (by kernel_rfl) (fun _ _ _ h => h) (Or.inl ⟨by kernel_rfl, by (intro wS hSw; (try dsimp only at hSw); go_split_ands; go_simp; (try with_reducible rfl))⟩) (by assumption) ?_
            try simp only [Act.put, List.setIfInBounds_toArray, List.set_cons_zero, List.set_cons_succ]
            refine wpAnyH_ready (rs := [1]) (by kernel_rfl) (by simp) ?_
            refine AllReadyH.cons (o := ⟨some 16, _, _, _, _, _⟩) rfl (fun K hK => ?_) AllReadyH.nil
            go_simp
            refine (v.out _).mono ?_
            rintro e wq ⟨rfl, hbq⟩
            go_wp2_with fail
            refine hK.out _ _ ?_ (fun hHeld => ?_)
            · ((go_split_ands; exact ⟨cell_keep hbq (by assumption), cell_keep hbq (by assumption), cell_keep hbq (by assumption), below_on (by assumption) hbq⟩))
            clear hK K
            try simp only [Act.put, List.setIfInBounds_toArray, List.set_cons_zero, List.set_cons_succ]
            refine wpAnyH_take (i := 2) (oi := ⟨some 17, _, _, _, _, _⟩) (v := _) rfl (by kernel_rfl) (by kernel_rfl) (by kernel_rfl) (fun _ _ _ h => h) (Or.inl ⟨by kernel_rfl, by (intro wS hSw; (try dsimp only at hSw); go_split_ands; go_simp; (try with_reducible rfl))⟩) (by assumption) ?_
            try simp only [Act.put, List.setIfInBounds_toArray, List.set_cons_zero, List.set_cons_succ]
            refine wpAnyH_take (i := 3) (oi := ⟨some 18, _, _, _, _, _⟩) (v := _) rfl (by kernel_rfl) (by kernel_rfl) (by kernel_rfl) (fun _ _ _ h => h) (Or.inl ⟨by kernel_rfl, by (intro wS hSw; (try dsimp only at hSw); go_split_ands; go_simp; (try with_reducible rfl))⟩) (by assumption) ?_
            try simp only [Act.put, List.setIfInBounds_toArray, List.set_cons_zero, List.set_cons_succ]
            refine wpAnyH_take (i := 4) (oi := ⟨some 19, _, _, _, _, _⟩) (v := undef) rfl (by kernel_rfl) (by kernel_rfl) (by kernel_rfl) (fun _ _ _ h => h) (Or.inr ⟨by kernel_rfl, rfl⟩) (by assumption) ?_
            try simp only [Act.put, List.setIfInBounds_toArray, List.set_cons_zero, List.set_cons_succ]
            refine wpAnyH_take (i := 5) (oi := ⟨some 20, _, _, _, _, _⟩) (v := undef) rfl (by kernel_rfl) (by kernel_rfl) (by kernel_rfl) (fun _ _ _ h => h) (Or.inr ⟨by kernel_rfl, rfl⟩) (by assumption) ?_
            try simp only [Act.put, List.setIfInBounds_toArray, List.set_cons_zero, List.set_cons_succ]
            refine wpAnyH_take (i := 6) (oi := ⟨some 21, _, _, _, _, _⟩) (v := undef) rfl (by kernel_rfl) (by kernel_rfl) (by kernel_rfl) (fun _ _ _ h => h) (Or.inr ⟨by kernel_rfl, rfl⟩) (by assumption) ?_
            try simp only [Act.put, List.setIfInBounds_toArray, List.set_cons_zero, List.set_cons_succ]
            refine wpAnyH_take (i := 7) (oi := ⟨some 22, _, _, _, _, _⟩) (v := undef) rfl (by kernel_rfl) (by kernel_rfl) (by kernel_rfl) (fun _ _ _ h => h) (Or.inr ⟨by kernel_rfl, rfl⟩) (by assumption) ?_
            try simp only [Act.put, List.setIfInBounds_toArray, List.set_cons_zero, List.set_cons_succ]
            refine wpAnyH_take (i := 8) (oi := ⟨some 23, _, _, _, _, _⟩) (v := undef) rfl (by kernel_rfl) (by kernel_rfl) (by kernel_rfl) (fun _ _ _ h => h) (Or.inr ⟨by kernel_rfl, rfl⟩) (by assumption) ?_
            try simp only [Act.put, List.setIfInBounds_toArray, List.set_cons_zero, List.set_cons_succ]
            refine wpAnyH_take (i := 9) (oi := ⟨some 24, _, _, _, _, _⟩) (v := undef) rfl (by kernel_rfl) (by kernel_rfl) (by kernel_rfl) (fun _ _ _ h => h) (Or.inr ⟨by kernel_rfl, rfl⟩) (by assumption) ?_
            try simp only [Act.put, List.setIfInBounds_toArray, List.set_cons_zero, List.set_cons_succ]
            refine wpAnyH_take (i := 10) (oi := ⟨some 25, _, _, _, _, _⟩) (v := undef) rfl (by kernel_rfl) (by kernel_rfl) (by kernel_rfl) (fun _ _ _ h => h) (Or.inr ⟨by kernel_rfl, rfl⟩) (by assumption) ?_
            try simp only [Act.put, List.setIfInBounds_toArray, List.set_cons_zero, List.set_cons_succ]
            refine wpAnyH_take (i := 11) (oi := ⟨some 26, _, _, _, _, _⟩) (v := undef) rfl (by kernel_rfl) (by kernel_rfl) (by kernel_rfl) (fun _ _ _ h => h) (Or.inr ⟨by kernel_rfl, rfl⟩) (by assumption) ?_
            try simp only [Act.put, List.setIfInBounds_toArray, List.set_cons_zero, List.set_cons_succ]
            refine wpAnyH_take (i := 12) (oi := ⟨some 27, _, _, _, _, _⟩) (v := undef) rfl (by kernel_rfl) (by kernel_rfl) (by kernel_rfl) (fun _ _ _ h => h) (Or.inr ⟨by kernel_rfl, rfl⟩) (by assumption) ?_
            try simp only [Act.put, List.setIfInBounds_toArray, List.set_cons_zero, List.set_cons_succ]
            refine wpAnyH_take (i := 13) (oi := ⟨some 28, _, _, _, _, _⟩) (v := undef) rfl (by kernel_rfl) (by kernel_rfl) (by kernel_rfl) (fun _ _ _ h => h) (Or.inr ⟨by kernel_rfl, rfl⟩) (by assumption) ?_
            try simp only [Act.put, List.setIfInBounds_toArray, List.set_cons_zero, List.set_cons_succ]
            refine wpAnyH_take (i := 14) (oi := ⟨some 29, _, _, _, _, _⟩) (v := undef) rfl (by kernel_rfl) (by kernel_rfl) (by kernel_rfl) (fun _ _ _ h => h) (Or.inr ⟨by kernel_rfl, rfl⟩) (by assumption) ?_
            try simp only [Act.put, List.setIfInBounds_toArray, List.set_cons_zero, List.set_cons_succ]
            refine wpAnyH_take (i := 15) (oi := ⟨some 30, _, _, _, _, _⟩) (v := undef) rfl (by kernel_rfl) (by kernel_rfl) (by kernel_rfl) (fun _ _ _ h => h) (Or.inr ⟨by kernel_rfl, rfl⟩) (by assumption) ?_
            try simp only [Act.put, List.setIfInBounds_toArray, List.set_cons_zero, List.set_cons_succ]
            refine wpAnyH_take (i := 16) (oi := ⟨some 31, _, _, _, _, _⟩) (v := undef) rfl (by kernel_rfl) (by kernel_rfl) (by kernel_rfl) (fun _ _ _ h => h) (Or.inr ⟨by kernel_rfl, rfl⟩) (by assumption) ?_
            try simp only [Act.put, List.setIfInBounds_toArray, List.set_cons_zero, List.set_cons_succ]
            refine wpAnyH_take (i := 17) (oi := ⟨some 32, _, _, _, _, _⟩) (v := _) rfl (by kernel_rfl) (by kernel_rfl) (by kernel_rfl) (fun _ _ _ h => h) (Or.inl ⟨by kernel_rfl, by (intro wS hSw; (try dsimp only at hSw); go_split_ands; go_simp; (try with_reducible rfl))⟩) (by assumption) ?_
            try simp only [Act.put, List.setIfInBounds_toArray, List.set_cons_zero, List.set_cons_succ]
            refine wpAnyH_done (by kernel_rfl) ?_ _
            have hfin : Below w.heap.size w _ := hHeld.2.2.2
            clear hHeld
            go_wp2_with fail
            go_ret
            exact ⟨ret_bool r.out, hfin⟩
        · obtain ⟨j, rfl⟩ : ∃ j, k = j + 1 := ⟨k - 1, by omega⟩
          obtain ⟨g, off, hl, rfl, hsz, hg, c0, c1, c2⟩ := (h.below hb).at_ hlt
          have j2 : (0 : Int) ≤ (j : Int) + 1 := by omega
          by_cases ho : rOk xs[j + 1].1 xs[j + 1].2.1 xs[j + 1].2.2
          · obtain ⟨g', off', hl', e', -, -, -, p1, -⟩ := (h.below hb).at_ (k := j) (by omega)
            obtain ⟨rfl, rfl⟩ : g = g' ∧ off = off' := by injection e' with e'; injection e' with e1 e2; exact ⟨e1, e2⟩
            clear e'
            have v := Lib.hid (impl_reign _ hsz _ _ _ (decide_eq_true ho))
            have hz : decide (0 < j + 1) = true := by simp
            have wj : IntKind.i64.wrap (j : Int) = (j : Int) := IntWalk.i64_in _ ⟨by omega, by omega⟩
            have j0 : (0 : Int) ≤ (j : Int) := by omega
            have j1 : (j : Int) < (n : Int) := by omega
            by_cases hl2 : xs[j + 1].2.1 < xs[j].2.1
            · have r := Lib.hid (ar_near hl hl2)
              have hd : decide (xs[j + 1].2.1 < xs[j].2.1) = true := by simpa using hl2
              clear hu ho h0 hl2 hsz
              have BQ := (Blk.new wr 79 #[.string xs[j + 1].1, .int .i64 xs[j + 1].2.1, .int .i64 xs[j + 1].2.2]).drew
              have hbd : Below w.heap.size w (wr.alloc (.cells #[.string xs[j + 1].1, .int .i64 xs[j + 1].2.1, .int .i64 xs[j + 1].2.2] 79)).drew := (hb.alloc hb.size _).drew
              have p1' : (wr.alloc (.cells #[.string xs[j + 1].1, .int .i64 xs[j + 1].2.1, .int .i64 xs[j + 1].2.2] 79)).drew.cell? ⟨g, off + j * 3 + 1, none⟩ = some (.int .i64 xs[j].2.1) := (((Below.refl wr.heap.size wr).alloc (Nat.le_refl _) _).cell (p := ⟨g, off + j * 3 + 1, none⟩) hg).trans p1
              go_wp2_with fail
              refine wp_region_held_drew (S := (fun w' => w'.cell? ⟨wr.heap.size, 0, none⟩ = some (.string xs[j + 1].1) ∧ w'.cell? ⟨wr.heap.size, 1, none⟩ = some (.int .i64 xs[j + 1].2.1) ∧ w'.cell? ⟨wr.heap.size, 2, none⟩ = some (.int .i64 xs[j + 1].2.2) ∧ w'.cell? ⟨g, off + j * 3 + 1, none⟩ = some (.int .i64 xs[j].2.1) ∧ Below w.heap.size w w')) (by kernel_rfl) ?_ (fun hHeld => ?_)
              · (exact ⟨BQ.cell 0, BQ.cell 1, BQ.cell 2, p1', hbd⟩)
              refine wpAnyH_take (i := 0) (oi := ⟨some 15, _, _, _, _, _⟩) (v := _) rfl (by kernel_rfl) (by kernel_rfl) (by kernel_rfl) (fun _ _ _ h => h) (Or.inl ⟨by kernel_rfl, by (intro wS hSw; (try dsimp only at hSw); go_split_ands; go_simp; (try with_reducible rfl))⟩) (by assumption) ?_
              try simp only [Act.put, List.setIfInBounds_toArray, List.set_cons_zero, List.set_cons_succ]
              refine wpAnyH_ready (rs := [1]) (by kernel_rfl) (by simp) ?_
              refine AllReadyH.cons (o := ⟨some 16, _, _, _, _, _⟩) rfl (fun K hK => ?_) AllReadyH.nil
              go_simp
              refine (v.out _).mono ?_
              rintro e wq ⟨rfl, hbq⟩
              go_wp2_with fail
              refine hK.out _ _ ?_ (fun hHeld => ?_)
              · ((go_split_ands; exact ⟨cell_keep hbq (by assumption), cell_keep hbq (by assumption), cell_keep hbq (by assumption), cell_keep hbq (by assumption), below_on (by assumption) hbq⟩))
              clear hK K
              try simp only [Act.put, List.setIfInBounds_toArray, List.set_cons_zero, List.set_cons_succ]
              refine wpAnyH_take (i := 2) (oi := ⟨some 17, _, _, _, _, _⟩) (v := _) rfl (by kernel_rfl) (by kernel_rfl) (by kernel_rfl) (fun _ _ _ h => h) (Or.inl ⟨by kernel_rfl, by (intro wS hSw; (try dsimp only at hSw); go_split_ands; go_simp; (try with_reducible rfl))⟩) (by assumption) ?_
              try simp only [Act.put, List.setIfInBounds_toArray, List.set_cons_zero, List.set_cons_succ]
              refine wpAnyH_take (i := 3) (oi := ⟨some 18, _, _, _, _, _⟩) (v := _) rfl (by kernel_rfl) (by kernel_rfl) (by kernel_rfl) (fun _ _ _ h => h) (Or.inl ⟨by kernel_rfl, by (intro wS hSw; (try dsimp only at hSw); go_split_ands; go_simp; (try with_reducible rfl))⟩) (by assumption) ?_
              try simp only [Act.put, List.setIfInBounds_toArray, List.set_cons_zero, List.set_cons_succ]
              refine wpAnyH_take (i := 4) (oi := ⟨some 19, _, _, _, _, _⟩) (v := _) rfl (by kernel_rfl) (by kernel_rfl) (by kernel_rfl) (fun _ _ _ h => h) (Or.inl ⟨by kernel_rfl, by (intro wS hSw; (try dsimp only at hSw); go_split_ands; go_simp; (try with_reducible rfl))⟩) (by assumption) ?_
              try simp only [Act.put, List.setIfInBounds_toArray, List.set_cons_zero, List.set_cons_succ]
              refine wpAnyH_take (i := 5) (oi := ⟨some 20, _, _, _, _, _⟩) (v := _) rfl (by kernel_rfl) (by kernel_rfl) (by kernel_rfl) (fun _ _ _ h => h) (Or.inl ⟨by kernel_rfl, by (intro wS hSw; (try dsimp only at hSw); go_split_ands; go_simp; (try with_reducible rfl))⟩) (by assumption) ?_
              try simp only [Act.put, List.setIfInBounds_toArray, List.set_cons_zero, List.set_cons_succ]
              refine wpAnyH_take (i := 6) (oi := ⟨some 21, _, _, _, _, _⟩) (v := _) rfl (by kernel_rfl) (by kernel_rfl) (by kernel_rfl) (fun _ _ _ h => h) (Or.inl ⟨by kernel_rfl, by (intro wS hSw; (try dsimp only at hSw); go_split_ands; go_simp; (try with_reducible rfl))⟩) (by assumption) ?_
              try simp only [Act.put, List.setIfInBounds_toArray, List.set_cons_zero, List.set_cons_succ]
              refine wpAnyH_take (i := 7) (oi := ⟨some 22, _, _, _, _, _⟩) (v := _) rfl (by kernel_rfl) (by kernel_rfl) (by kernel_rfl) (fun _ _ _ h => h) (Or.inl ⟨by kernel_rfl, by (intro wS hSw; (try dsimp only at hSw); go_split_ands; go_simp; (try with_reducible rfl))⟩) (by assumption) ?_
              try simp only [Act.put, List.setIfInBounds_toArray, List.set_cons_zero, List.set_cons_succ]
              refine wpAnyH_take (i := 8) (oi := ⟨some 23, _, _, _, _, _⟩) (v := _) rfl (by kernel_rfl) (by kernel_rfl) (by kernel_rfl) (fun _ _ _ h => h) (Or.inl ⟨by kernel_rfl, by (intro wS hSw; (try dsimp only at hSw); go_split_ands; go_simp; (try with_reducible rfl))⟩) (by assumption) ?_
              try simp only [Act.put, List.setIfInBounds_toArray, List.set_cons_zero, List.set_cons_succ]
              refine wpAnyH_take (i := 9) (oi := ⟨some 24, _, _, _, _, _⟩) (v := _) rfl (by kernel_rfl) (by kernel_rfl) (by kernel_rfl) (fun _ _ _ h => h) (Or.inl ⟨by kernel_rfl, by (intro wS hSw; (try dsimp only at hSw); go_split_ands; go_simp; (try with_reducible rfl))⟩) (by assumption) ?_
              try simp only [Act.put, List.setIfInBounds_toArray, List.set_cons_zero, List.set_cons_succ]
              refine wpAnyH_take (i := 10) (oi := ⟨some 25, _, _, _, _, _⟩) (v := _) rfl (by kernel_rfl) (by kernel_rfl) (by kernel_rfl) (fun _ _ _ h => h) (Or.inl ⟨by kernel_rfl, by (intro wS hSw; (try dsimp only at hSw); go_split_ands; go_simp; (try with_reducible rfl))⟩) (by assumption) ?_
              try simp only [Act.put, List.setIfInBounds_toArray, List.set_cons_zero, List.set_cons_succ]
              refine wpAnyH_take (i := 11) (oi := ⟨some 26, _, _, _, _, _⟩) (v := _) rfl (by kernel_rfl) (by kernel_rfl) (by kernel_rfl) (fun _ _ _ h => h) (Or.inl ⟨by kernel_rfl, by (intro wS hSw; (try dsimp only at hSw); go_split_ands; go_simp; (try with_reducible rfl))⟩) (by assumption) ?_
              try simp only [Act.put, List.setIfInBounds_toArray, List.set_cons_zero, List.set_cons_succ]
              refine wpAnyH_take (i := 12) (oi := ⟨some 27, _, _, _, _, _⟩) (v := _) rfl (by kernel_rfl) (by kernel_rfl) (by kernel_rfl) (fun _ _ _ h => h) (Or.inl ⟨by kernel_rfl, by (intro wS hSw; (try dsimp only at hSw); go_split_ands; go_simp; (try with_reducible rfl))⟩) (by assumption) ?_
              try simp only [Act.put, List.setIfInBounds_toArray, List.set_cons_zero, List.set_cons_succ]
              refine wpAnyH_take (i := 13) (oi := ⟨some 28, _, _, _, _, _⟩) (v := _) rfl (by kernel_rfl) (by kernel_rfl) (by kernel_rfl) (fun _ _ _ h => h) (Or.inl ⟨by kernel_rfl, by (intro wS hSw; (try dsimp only at hSw); go_split_ands; go_simp; (try with_reducible rfl))⟩) (by assumption) ?_
              try simp only [Act.put, List.setIfInBounds_toArray, List.set_cons_zero, List.set_cons_succ]
              refine wpAnyH_take (i := 14) (oi := ⟨some 29, _, _, _, _, _⟩) (v := _) rfl (by kernel_rfl) (by kernel_rfl) (by kernel_rfl) (fun _ _ _ h => h) (Or.inl ⟨by kernel_rfl, by (intro wS hSw; (try dsimp only at hSw); go_split_ands; go_simp; (try with_reducible rfl))⟩) (by assumption) ?_
              try simp only [Act.put, List.setIfInBounds_toArray, List.set_cons_zero, List.set_cons_succ]
              refine wpAnyH_take (i := 15) (oi := ⟨some 30, _, _, _, _, _⟩) (v := _) rfl (by kernel_rfl) (by kernel_rfl) (by kernel_rfl) (fun _ _ _ h => h) (Or.inl ⟨by kernel_rfl, by (intro wS hSw; (try dsimp only at hSw); go_split_ands; go_simp; (try with_reducible rfl))⟩) (by assumption) ?_
              try simp only [Act.put, List.setIfInBounds_toArray, List.set_cons_zero, List.set_cons_succ]
              refine wpAnyH_take (i := 16) (oi := ⟨some 31, _, _, _, _, _⟩) (v := _) rfl (by kernel_rfl) (by kernel_rfl) (by kernel_rfl) (fun _ _ _ h => h) (Or.inl ⟨by kernel_rfl, by (intro wS hSw; (try dsimp only at hSw); go_split_ands; go_simp; (try with_reducible rfl))⟩) (by assumption) ?_
              try simp only [Act.put, List.setIfInBounds_toArray, List.set_cons_zero, List.set_cons_succ]
              refine wpAnyH_take (i := 17) (oi := ⟨some 32, _, _, _, _, _⟩) (v := _) rfl (by kernel_rfl) (by kernel_rfl) (by kernel_rfl) (fun _ _ _ h => h) (Or.inl ⟨by kernel_rfl, by (intro wS hSw; (try dsimp only at hSw); go_split_ands; go_simp; (try with_reducible rfl))⟩) (by assumption) ?_
              try simp only [Act.put, List.setIfInBounds_toArray, List.set_cons_zero, List.set_cons_succ]
              refine wpAnyH_done (by kernel_rfl) ?_ _
              have hfin : Below w.heap.size w _ := hHeld.2.2.2.2
              clear hHeld
              go_wp2_with fail
              go_ret
              exact ⟨ret_bool r.out, hfin⟩
            · have HU := Lib.hid (upr_step hl hu.out ho hl2)
              have hd : decide (xs[j + 1].2.1 < xs[j].2.1) = false := by simpa using hl2
              clear hu ho h0 hl2 hsz
              have BQ := (Blk.new wr 79 #[.string xs[j + 1].1, .int .i64 xs[j + 1].2.1, .int .i64 xs[j + 1].2.2]).drew
              have hbd : Below w.heap.size w (wr.alloc (.cells #[.string xs[j + 1].1, .int .i64 xs[j + 1].2.1, .int .i64 xs[j + 1].2.2] 79)).drew := (hb.alloc hb.size _).drew
              have p1' : (wr.alloc (.cells #[.string xs[j + 1].1, .int .i64 xs[j + 1].2.1, .int .i64 xs[j + 1].2.2] 79)).drew.cell? ⟨g, off + j * 3 + 1, none⟩ = some (.int .i64 xs[j].2.1) := (((Below.refl wr.heap.size wr).alloc (Nat.le_refl _) _).cell (p := ⟨g, off + j * 3 + 1, none⟩) hg).trans p1
              go_wp2_with fail
              refine wp_region_held_drew (S := (fun w' => w'.cell? ⟨wr.heap.size, 0, none⟩ = some (.string xs[j + 1].1) ∧ w'.cell? ⟨wr.heap.size, 1, none⟩ = some (.int .i64 xs[j + 1].2.1) ∧ w'.cell? ⟨wr.heap.size, 2, none⟩ = some (.int .i64 xs[j + 1].2.2) ∧ w'.cell? ⟨g, off + j * 3 + 1, none⟩ = some (.int .i64 xs[j].2.1) ∧ Below w.heap.size w w')) (by kernel_rfl) ?_ (fun hHeld => ?_)
              · (exact ⟨BQ.cell 0, BQ.cell 1, BQ.cell 2, p1', hbd⟩)
              refine wpAnyH_take (i := 0) (oi := ⟨some 15, _, _, _, _, _⟩) (v := _) rfl (by kernel_rfl) (by kernel_rfl) (by kernel_rfl) (fun _ _ _ h => h) (Or.inl ⟨by kernel_rfl, by (intro wS hSw; (try dsimp only at hSw); go_split_ands; go_simp; (try with_reducible rfl))⟩) (by assumption) ?_
              try simp only [Act.put, List.setIfInBounds_toArray, List.set_cons_zero, List.set_cons_succ]
              refine wpAnyH_ready (rs := [1]) (by kernel_rfl) (by simp) ?_
              refine AllReadyH.cons (o := ⟨some 16, _, _, _, _, _⟩) rfl (fun K hK => ?_) AllReadyH.nil
              go_simp
              refine (v.out _).mono ?_
              rintro e wq ⟨rfl, hbq⟩
              go_wp2_with fail
              refine hK.out _ _ ?_ (fun hHeld => ?_)
              · ((go_split_ands; exact ⟨cell_keep hbq (by assumption), cell_keep hbq (by assumption), cell_keep hbq (by assumption), cell_keep hbq (by assumption), below_on (by assumption) hbq⟩))
              clear hK K
              try simp only [Act.put, List.setIfInBounds_toArray, List.set_cons_zero, List.set_cons_succ]
              refine wpAnyH_take (i := 2) (oi := ⟨some 17, _, _, _, _, _⟩) (v := _) rfl (by kernel_rfl) (by kernel_rfl) (by kernel_rfl) (fun _ _ _ h => h) (Or.inl ⟨by kernel_rfl, by (intro wS hSw; (try dsimp only at hSw); go_split_ands; go_simp; (try with_reducible rfl))⟩) (by assumption) ?_
              try simp only [Act.put, List.setIfInBounds_toArray, List.set_cons_zero, List.set_cons_succ]
              refine wpAnyH_take (i := 3) (oi := ⟨some 18, _, _, _, _, _⟩) (v := _) rfl (by kernel_rfl) (by kernel_rfl) (by kernel_rfl) (fun _ _ _ h => h) (Or.inl ⟨by kernel_rfl, by (intro wS hSw; (try dsimp only at hSw); go_split_ands; go_simp; (try with_reducible rfl))⟩) (by assumption) ?_
              try simp only [Act.put, List.setIfInBounds_toArray, List.set_cons_zero, List.set_cons_succ]
              refine wpAnyH_take (i := 4) (oi := ⟨some 19, _, _, _, _, _⟩) (v := _) rfl (by kernel_rfl) (by kernel_rfl) (by kernel_rfl) (fun _ _ _ h => h) (Or.inl ⟨by kernel_rfl, by (intro wS hSw; (try dsimp only at hSw); go_split_ands; go_simp; (try with_reducible rfl))⟩) (by assumption) ?_
              try simp only [Act.put, List.setIfInBounds_toArray, List.set_cons_zero, List.set_cons_succ]
              refine wpAnyH_take (i := 5) (oi := ⟨some 20, _, _, _, _, _⟩) (v := _) rfl (by kernel_rfl) (by kernel_rfl) (by kernel_rfl) (fun _ _ _ h => h) (Or.inl ⟨by kernel_rfl, by (intro wS hSw; (try dsimp only at hSw); go_split_ands; go_simp; (try with_reducible rfl))⟩) (by assumption) ?_
              try simp only [Act.put, List.setIfInBounds_toArray, List.set_cons_zero, List.set_cons_succ]
              refine wpAnyH_take (i := 6) (oi := ⟨some 21, _, _, _, _, _⟩) (v := _) rfl (by kernel_rfl) (by kernel_rfl) (by kernel_rfl) (fun _ _ _ h => h) (Or.inl ⟨by kernel_rfl, by (intro wS hSw; (try dsimp only at hSw); go_split_ands; go_simp; (try with_reducible rfl))⟩) (by assumption) ?_
              try simp only [Act.put, List.setIfInBounds_toArray, List.set_cons_zero, List.set_cons_succ]
              refine wpAnyH_take (i := 7) (oi := ⟨some 22, _, _, _, _, _⟩) (v := _) rfl (by kernel_rfl) (by kernel_rfl) (by kernel_rfl) (fun _ _ _ h => h) (Or.inl ⟨by kernel_rfl, by (intro wS hSw; (try dsimp only at hSw); go_split_ands; go_simp; (try with_reducible rfl))⟩) (by assumption) ?_
              try simp only [Act.put, List.setIfInBounds_toArray, List.set_cons_zero, List.set_cons_succ]
              refine wpAnyH_take (i := 8) (oi := ⟨some 23, _, _, _, _, _⟩) (v := _) rfl (by kernel_rfl) (by kernel_rfl) (by kernel_rfl) (fun _ _ _ h => h) (Or.inl ⟨by kernel_rfl, by (intro wS hSw; (try dsimp only at hSw); go_split_ands; go_simp; (try with_reducible rfl))⟩) (by assumption) ?_
              try simp only [Act.put, List.setIfInBounds_toArray, List.set_cons_zero, List.set_cons_succ]
              refine wpAnyH_take (i := 9) (oi := ⟨some 24, _, _, _, _, _⟩) (v := _) rfl (by kernel_rfl) (by kernel_rfl) (by kernel_rfl) (fun _ _ _ h => h) (Or.inl ⟨by kernel_rfl, by (intro wS hSw; (try dsimp only at hSw); go_split_ands; go_simp; (try with_reducible rfl))⟩) (by assumption) ?_
              try simp only [Act.put, List.setIfInBounds_toArray, List.set_cons_zero, List.set_cons_succ]
              refine wpAnyH_take (i := 10) (oi := ⟨some 25, _, _, _, _, _⟩) (v := _) rfl (by kernel_rfl) (by kernel_rfl) (by kernel_rfl) (fun _ _ _ h => h) (Or.inl ⟨by kernel_rfl, by (intro wS hSw; (try dsimp only at hSw); go_split_ands; go_simp; (try with_reducible rfl))⟩) (by assumption) ?_
              try simp only [Act.put, List.setIfInBounds_toArray, List.set_cons_zero, List.set_cons_succ]
              refine wpAnyH_take (i := 11) (oi := ⟨some 26, _, _, _, _, _⟩) (v := _) rfl (by kernel_rfl) (by kernel_rfl) (by kernel_rfl) (fun _ _ _ h => h) (Or.inl ⟨by kernel_rfl, by (intro wS hSw; (try dsimp only at hSw); go_split_ands; go_simp; (try with_reducible rfl))⟩) (by assumption) ?_
              try simp only [Act.put, List.setIfInBounds_toArray, List.set_cons_zero, List.set_cons_succ]
              refine wpAnyH_take (i := 12) (oi := ⟨some 27, _, _, _, _, _⟩) (v := _) rfl (by kernel_rfl) (by kernel_rfl) (by kernel_rfl) (fun _ _ _ h => h) (Or.inl ⟨by kernel_rfl, by (intro wS hSw; (try dsimp only at hSw); go_split_ands; go_simp; (try with_reducible rfl))⟩) (by assumption) ?_
              try simp only [Act.put, List.setIfInBounds_toArray, List.set_cons_zero, List.set_cons_succ]
              refine wpAnyH_take (i := 13) (oi := ⟨some 28, _, _, _, _, _⟩) (v := _) rfl (by kernel_rfl) (by kernel_rfl) (by kernel_rfl) (fun _ _ _ h => h) (Or.inl ⟨by kernel_rfl, by (intro wS hSw; (try dsimp only at hSw); go_split_ands; go_simp; (try with_reducible rfl))⟩) (by assumption) ?_
              try simp only [Act.put, List.setIfInBounds_toArray, List.set_cons_zero, List.set_cons_succ]
              refine wpAnyH_take (i := 14) (oi := ⟨some 29, _, _, _, _, _⟩) (v := _) rfl (by kernel_rfl) (by kernel_rfl) (by kernel_rfl) (fun _ _ _ h => h) (Or.inl ⟨by kernel_rfl, by (intro wS hSw; (try dsimp only at hSw); go_split_ands; go_simp; (try with_reducible rfl))⟩) (by assumption) ?_
              try simp only [Act.put, List.setIfInBounds_toArray, List.set_cons_zero, List.set_cons_succ]
              refine wpAnyH_take (i := 15) (oi := ⟨some 30, _, _, _, _, _⟩) (v := _) rfl (by kernel_rfl) (by kernel_rfl) (by kernel_rfl) (fun _ _ _ h => h) (Or.inl ⟨by kernel_rfl, by (intro wS hSw; (try dsimp only at hSw); go_split_ands; go_simp; (try with_reducible rfl))⟩) (by assumption) ?_
              try simp only [Act.put, List.setIfInBounds_toArray, List.set_cons_zero, List.set_cons_succ]
              refine wpAnyH_take (i := 16) (oi := ⟨some 31, _, _, _, _, _⟩) (v := _) rfl (by kernel_rfl) (by kernel_rfl) (by kernel_rfl) (fun _ _ _ h => h) (Or.inl ⟨by kernel_rfl, by (intro wS hSw; (try dsimp only at hSw); go_split_ands; go_simp; (try with_reducible rfl))⟩) (by assumption) ?_
              try simp only [Act.put, List.setIfInBounds_toArray, List.set_cons_zero, List.set_cons_succ]
              refine wpAnyH_take (i := 17) (oi := ⟨some 32, _, _, _, _, _⟩) (v := _) rfl (by kernel_rfl) (by kernel_rfl) (by kernel_rfl) (fun _ _ _ h => h) (Or.inl ⟨by kernel_rfl, by (intro wS hSw; (try dsimp only at hSw); go_split_ands; go_simp; (try with_reducible rfl))⟩) (by assumption) ?_
              try simp only [Act.put, List.setIfInBounds_toArray, List.set_cons_zero, List.set_cons_succ]
              refine wpAnyH_done (by kernel_rfl) ?_ _
              have hfin : Below w.heap.size w _ := hHeld.2.2.2.2
              clear hHeld
              go_wp2_with fail
              go_roundg (n - ((j + 1) + 1))
              case measure => omega
              case rel => exact ⟨(j + 1) + 1, by omega, by omega, by go_num, hfin, HU.out⟩
          · have v := Lib.hid (impl_reign _ hsz _ _ _ (decide_eq_false ho))
            have r := Lib.hid (ar_bad hl ho)
            clear hu ho h0 hsz
            have BQ := (Blk.new wr 79 #[.string xs[j + 1].1, .int .i64 xs[j + 1].2.1, .int .i64 xs[j + 1].2.2]).drew
            have hbd : Below w.heap.size w (wr.alloc (.cells #[.string xs[j + 1].1, .int .i64 xs[j + 1].2.1, .int .i64 xs[j + 1].2.2] 79)).drew := (hb.alloc hb.size _).drew
            go_wp2_with fail
            refine wp_region_held_drew (S := (fun w' => w'.cell? ⟨wr.heap.size, 0, none⟩ = some (.string xs[j + 1].1) ∧ w'.cell? ⟨wr.heap.size, 1, none⟩ = some (.int .i64 xs[j + 1].2.1) ∧ w'.cell? ⟨wr.heap.size, 2, none⟩ = some (.int .i64 xs[j + 1].2.2) ∧ Below w.heap.size w w')) (by kernel_rfl) ?_ (fun hHeld => ?_)
            · (exact ⟨BQ.cell 0, BQ.cell 1, BQ.cell 2, hbd⟩)
            refine wpAnyH_take (i := 0) (oi := ⟨some 15, _, _, _, _, _⟩) (v := _) rfl (by kernel_rfl) (by kernel_rfl) (by kernel_rfl) (fun _ _ _ h => h) (Or.inl ⟨by kernel_rfl, by (intro wS hSw; (try dsimp only at hSw); go_split_ands; go_simp; (try with_reducible rfl))⟩) (by assumption) ?_
            try simp only [Act.put, List.setIfInBounds_toArray, List.set_cons_zero, List.set_cons_succ]
            refine wpAnyH_ready (rs := [1]) (by kernel_rfl) (by simp) ?_
            refine AllReadyH.cons (o := ⟨some 16, _, _, _, _, _⟩) rfl (fun K hK => ?_) AllReadyH.nil
            go_simp
            refine (v.out _).mono ?_
            rintro e wq ⟨rfl, hbq⟩
            go_wp2_with fail
            refine hK.out _ _ ?_ (fun hHeld => ?_)
            · ((go_split_ands; exact ⟨cell_keep hbq (by assumption), cell_keep hbq (by assumption), cell_keep hbq (by assumption), below_on (by assumption) hbq⟩))
            clear hK K
            try simp only [Act.put, List.setIfInBounds_toArray, List.set_cons_zero, List.set_cons_succ]
            refine wpAnyH_take (i := 2) (oi := ⟨some 17, _, _, _, _, _⟩) (v := _) rfl (by kernel_rfl) (by kernel_rfl) (by kernel_rfl) (fun _ _ _ h => h) (Or.inl ⟨by kernel_rfl, by (intro wS hSw; (try dsimp only at hSw); go_split_ands; go_simp; (try with_reducible rfl))⟩) (by assumption) ?_
            try simp only [Act.put, List.setIfInBounds_toArray, List.set_cons_zero, List.set_cons_succ]
            refine wpAnyH_take (i := 3) (oi := ⟨some 18, _, _, _, _, _⟩) (v := _) rfl (by kernel_rfl) (by kernel_rfl) (by kernel_rfl) (fun _ _ _ h => h) (Or.inl ⟨by kernel_rfl, by (intro wS hSw; (try dsimp only at hSw); go_split_ands; go_simp; (try with_reducible rfl))⟩) (by assumption) ?_
            try simp only [Act.put, List.setIfInBounds_toArray, List.set_cons_zero, List.set_cons_succ]
            refine wpAnyH_take (i := 4) (oi := ⟨some 19, _, _, _, _, _⟩) (v := undef) rfl (by kernel_rfl) (by kernel_rfl) (by kernel_rfl) (fun _ _ _ h => h) (Or.inr ⟨by kernel_rfl, rfl⟩) (by assumption) ?_
            try simp only [Act.put, List.setIfInBounds_toArray, List.set_cons_zero, List.set_cons_succ]
            refine wpAnyH_take (i := 5) (oi := ⟨some 20, _, _, _, _, _⟩) (v := undef) rfl (by kernel_rfl) (by kernel_rfl) (by kernel_rfl) (fun _ _ _ h => h) (Or.inr ⟨by kernel_rfl, rfl⟩) (by assumption) ?_
            try simp only [Act.put, List.setIfInBounds_toArray, List.set_cons_zero, List.set_cons_succ]
            refine wpAnyH_take (i := 6) (oi := ⟨some 21, _, _, _, _, _⟩) (v := undef) rfl (by kernel_rfl) (by kernel_rfl) (by kernel_rfl) (fun _ _ _ h => h) (Or.inr ⟨by kernel_rfl, rfl⟩) (by assumption) ?_
            try simp only [Act.put, List.setIfInBounds_toArray, List.set_cons_zero, List.set_cons_succ]
            refine wpAnyH_take (i := 7) (oi := ⟨some 22, _, _, _, _, _⟩) (v := undef) rfl (by kernel_rfl) (by kernel_rfl) (by kernel_rfl) (fun _ _ _ h => h) (Or.inr ⟨by kernel_rfl, rfl⟩) (by assumption) ?_
            try simp only [Act.put, List.setIfInBounds_toArray, List.set_cons_zero, List.set_cons_succ]
            refine wpAnyH_take (i := 8) (oi := ⟨some 23, _, _, _, _, _⟩) (v := undef) rfl (by kernel_rfl) (by kernel_rfl) (by kernel_rfl) (fun _ _ _ h => h) (Or.inr ⟨by kernel_rfl, rfl⟩) (by assumption) ?_
            try simp only [Act.put, List.setIfInBounds_toArray, List.set_cons_zero, List.set_cons_succ]
            refine wpAnyH_take (i := 9) (oi := ⟨some 24, _, _, _, _, _⟩) (v := undef) rfl (by kernel_rfl) (by kernel_rfl) (by kernel_rfl) (fun _ _ _ h => h) (Or.inr ⟨by kernel_rfl, rfl⟩) (by assumption) ?_
            try simp only [Act.put, List.setIfInBounds_toArray, List.set_cons_zero, List.set_cons_succ]
            refine wpAnyH_take (i := 10) (oi := ⟨some 25, _, _, _, _, _⟩) (v := undef) rfl (by kernel_rfl) (by kernel_rfl) (by kernel_rfl) (fun _ _ _ h => h) (Or.inr ⟨by kernel_rfl, rfl⟩) (by assumption) ?_
            try simp only [Act.put, List.setIfInBounds_toArray, List.set_cons_zero, List.set_cons_succ]
            refine wpAnyH_take (i := 11) (oi := ⟨some 26, _, _, _, _, _⟩) (v := undef) rfl (by kernel_rfl) (by kernel_rfl) (by kernel_rfl) (fun _ _ _ h => h) (Or.inr ⟨by kernel_rfl, rfl⟩) (by assumption) ?_
            try simp only [Act.put, List.setIfInBounds_toArray, List.set_cons_zero, List.set_cons_succ]
            refine wpAnyH_take (i := 12) (oi := ⟨some 27, _, _, _, _, _⟩) (v := undef) rfl (by kernel_rfl) (by kernel_rfl) (by kernel_rfl) (fun _ _ _ h => h) (Or.inr ⟨by kernel_rfl, rfl⟩) (by assumption) ?_
            try simp only [Act.put, List.setIfInBounds_toArray, List.set_cons_zero, List.set_cons_succ]
            refine wpAnyH_take (i := 13) (oi := ⟨some 28, _, _, _, _, _⟩) (v := undef) rfl (by kernel_rfl) (by kernel_rfl) (by kernel_rfl) (fun _ _ _ h => h) (Or.inr ⟨by kernel_rfl, rfl⟩) (by assumption) ?_
            try simp only [Act.put, List.setIfInBounds_toArray, List.set_cons_zero, List.set_cons_succ]
            refine wpAnyH_take (i := 14) (oi := ⟨some 29, _, _, _, _, _⟩) (v := undef) rfl (by kernel_rfl) (by kernel_rfl) (by kernel_rfl) (fun _ _ _ h => h) (Or.inr ⟨by kernel_rfl, rfl⟩) (by assumption) ?_
            try simp only [Act.put, List.setIfInBounds_toArray, List.set_cons_zero, List.set_cons_succ]
            refine wpAnyH_take (i := 15) (oi := ⟨some 30, _, _, _, _, _⟩) (v := undef) rfl (by kernel_rfl) (by kernel_rfl) (by kernel_rfl) (fun _ _ _ h => h) (Or.inr ⟨by kernel_rfl, rfl⟩) (by assumption) ?_
            try simp only [Act.put, List.setIfInBounds_toArray, List.set_cons_zero, List.set_cons_succ]
            refine wpAnyH_take (i := 16) (oi := ⟨some 31, _, _, _, _, _⟩) (v := undef) rfl (by kernel_rfl) (by kernel_rfl) (by kernel_rfl) (fun _ _ _ h => h) (Or.inr ⟨by kernel_rfl, rfl⟩) (by assumption) ?_
            try simp only [Act.put, List.setIfInBounds_toArray, List.set_cons_zero, List.set_cons_succ]
            refine wpAnyH_take (i := 17) (oi := ⟨some 32, _, _, _, _, _⟩) (v := _) rfl (by kernel_rfl) (by kernel_rfl) (by kernel_rfl) (fun _ _ _ h => h) (Or.inl ⟨by kernel_rfl, by (intro wS hSw; (try dsimp only at hSw); go_split_ands; go_simp; (try with_reducible rfl))⟩) (by assumption) ?_
            try simp only [Act.put, List.setIfInBounds_toArray, List.set_cons_zero, List.set_cons_succ]
            refine wpAnyH_done (by kernel_rfl) ?_ _
            have hfin : Below w.heap.size w _ := hHeld.2.2.2
            clear hHeld
            go_wp2_with fail
            go_ret
            exact ⟨ret_bool r.out, hfin⟩
      · have r := Lib.hid (ar_all (xs := xs) (by omega) hu.out (by omega))
        clear hu
        go_wp2_with fail
        go_ret
        exact ⟨ret_bool r.out, hb⟩
  · have h3' : decide (30 < (n : Int)) = true := by simp; omega
    have r := Lib.hid (ar_long (xs := xs) (by omega))
    clear h
    go_enter Tryz.func31, Tryz.ntmps31
    go_wp2_with fail
    go_ret
    exact ⟨ret_bool r.out, Below.refl _ _⟩

end Go.Proofs.YtfhcakpmlppbkaaGreatDoor.Rei

namespace Go.Proofs.YtfhcakpmlppbkaaGreatDoor.Sets
open Go.RowKit

theorem Rd.cells {w : World} {A : Option Addr} {n : Nat} {zs : L} (h : Rd w A n zs) (h0 : 0 < n) : ∃ ad, A = some ad ∧ ∀ j v, (cells zs)[j]? = some v → w.cell? (ad.add j) = some v := by
  obtain ⟨hl, hc⟩ := h
  obtain ⟨g, off, rfl, _, hcell⟩ := hc h0
  refine ⟨_, rfl, fun j v hv => ?_⟩
  have hj : j < zs.length * 2 := by
    rcases Nat.lt_or_ge j (zs.length * 2) with h | h
    · exact h
    · rw [List.getElem?_eq_none (by rw [cells_length]; exact h)] at hv; cases hv
  have hadd : (⟨g, off, none⟩ : Addr).add j = ⟨g, off + j, none⟩ := by unfold Addr.add; split <;> simp_all
  have hk : j / 2 < zs.length := by omega
  have h2 := hcell (j / 2) hk
  rw [cells_get _ _ hj, List.getElem?_eq_getElem hk] at hv
  rw [hadd]
  split at hv
  · have e : off + j / 2 * 2 = off + j := by omega
    rw [e] at h2
    rw [h2.1]; simpa using hv
  · have e : off + j / 2 * 2 + 1 = off + j := by omega
    rw [e] at h2
    rw [h2.2]; simpa using hv
theorem cells_one (a : L) : ∀ v ∈ cells a, v.oneCell' = true := by
  induction a with
  | nil => intro v h; cases h
  | cons s r ih =>
    intro v h
    simp only [cells, List.mem_cons] at h
    rcases h with rfl | rfl | h
    · rfl
    · rfl
    · exact ih v h

theorem run_copy_spans0 (w : World) (ty : TypeId) (D A : Option Addr) (dLen dCap c : Nat) :
    (Builtin.copy_ #[24, 24] ty #[.slice D dLen dCap, .slice A 0 c]).run Tryz.prog w = .ok (goInt 0) w := by
  obtain ⟨i, hi, hz, h1, h2⟩ := info_parts info_span
  have hl : ∀ (x : Addr), (loadCells x 0).run Tryz.prog w = .ok #[] w := fun x => by simpa using run_loadCells_list (P := Tryz.prog) w x [] (by simp)
  cases D <;> cases A <;> simp [Builtin.copy_, run_underlying Tryz.underlying24, Builtin.lenOf, Builtin.firstCells, sizeOf, typeInfo, hi, storeCells, hl]
theorem run_copy_spans (w : World) (ty : TypeId) (g o dLen dCap : Nat) (A : Option Addr) (n c : Nat) (zs : L) (h0 : 0 < n) (hr : Rd w A n zs) (hn : n ≤ dLen) (cur : Array Value) (hg : Blk w g 36 cur) (hfit : o + n * 2 ≤ cur.size) :
    (Builtin.copy_ #[24, 24] ty #[.slice (some ⟨g, o, none⟩) dLen dCap, .slice A n c]).run Tryz.prog w = .ok (goInt n) (w.setRow g (cur.toList.take o ++ cells zs ++ cur.toList.drop (o + n * 2)).toArray) := by
  obtain ⟨i, hi, hz, h1, h2⟩ := info_parts info_span
  have hl := hr.1
  obtain ⟨ad, rfl, hsrc⟩ := hr.cells h0
  have hll := run_loadCells_list (P := Tryz.prog) w ad (cells zs) hsrc
  rw [cells_length, hl] at hll
  have hst := run_storeCells_at Tryz.prog g o 36 (cells zs) 0 cur w hg (by rw [cells_length, hl]; simpa using hfit) (cells_one zs)
  rw [cells_length, hl] at hst
  have hm : Nat.min n dLen = n := Nat.min_eq_left hn
  simp only [Nat.add_zero] at hst
  simp [Builtin.copy_, run_underlying Tryz.underlying24, Builtin.lenOf, Builtin.firstCells, sizeOf, typeInfo, hi, h1, hm, hll, hst]

theorem splice_get {cap n : Nat} (cs : Array Value) (us zs : L) (hsz : cs.size = cap * 2) (hfit : us.length + n ≤ cap) (hc : ∀ j (h : j < us.length), cs[j * 2]? = some (.int .i64 us[j].1) ∧ cs[j * 2 + 1]? = some (.int .i64 us[j].2)) (hl : zs.length = n)
    (j : Nat) (hj : j < (us ++ zs).length) : (cs.toList.take (us.length * 2) ++ cells zs ++ cs.toList.drop (us.length * 2 + n * 2)).toArray[j * 2]? = some (.int .i64 (us ++ zs)[j].1) ∧
      (cs.toList.take (us.length * 2) ++ cells zs ++ cs.toList.drop (us.length * 2 + n * 2)).toArray[j * 2 + 1]? = some (.int .i64 (us ++ zs)[j].2) := by
  have hlen : (cs.toList.take (us.length * 2)).length = us.length * 2 := by rw [List.length_take]; simp; omega
  simp only [List.getElem?_toArray, List.append_assoc]
  rw [List.length_append] at hj
  by_cases h : j < us.length
  · obtain ⟨a, b⟩ := hc j h
    rw [List.getElem?_append_left (by omega), List.getElem?_append_left (by omega), List.getElem?_take, List.getElem?_take, if_pos (by omega), if_pos (by omega), List.getElem_append_left h]
    simpa using And.intro a b
  · have hk : j - us.length < zs.length := by omega
    obtain ⟨a, b⟩ := cells_at zs (j - us.length) hk
    have ex : (us ++ zs)[j]'(by rw [List.length_append]; exact hj) = zs[j - us.length] := List.getElem_append_right (by omega)
    rw [ex]
    refine ⟨?_, ?_⟩
    · rw [List.getElem?_append_right (by omega), hlen, List.getElem?_append_left (by rw [cells_length]; omega), show j * 2 - us.length * 2 = (j - us.length) * 2 by omega]
      exact a
    · rw [List.getElem?_append_right (by omega), hlen, List.getElem?_append_left (by rw [cells_length]; omega), show j * 2 + 1 - us.length * 2 = (j - us.length) * 2 + 1 by omega]
      exact b

/-- Spans copied behind those that are there. -/
theorem copy_spans {ops : Array Oper} {rest : List Oper} {o : Oper} {a : Act} {Q : Exit → Act → World → Prop} {w w0 : World} {g cap B : Nat} {us zs : L} {A : Option Addr} {n c : Nat} (hC : Cells w g cap us) (hr : Rd w A n zs) (hfit : us.length + n ≤ cap) (hb : Below B w0 w) (hB : B ≤ g)
    (hgd : o.guard = none) (d s : Operand) (ho : o.op = .call { callee := .builtin .copy, args := #[d, s], argTypes := #[24, 24] })
    (D : Option Addr) (dLen dCap : Nat) (hd : a.eval d = .slice D dLen dCap) (hs : a.eval s = .slice A n c) (hD : 0 < n → D = some ⟨g, us.length * 2, none⟩ ∧ n ≤ dLen)
    (K : ∀ w', Cells w' g cap (us ++ zs) → Below B w0 w' → wpList Tryz.prog ops Q rest (a.put o.dst (.int .i64 (n : Int))) w') : wpList Tryz.prog ops Q (o :: rest) a w := by
  refine wpList_plain hgd fun K' hK => ?_
  have hl := hr.1
  rcases Nat.eq_zero_or_pos n with h0 | h0
  · subst h0
    have e : zs = [] := List.eq_nil_of_length_eq_zero hl
    subst e
    have hrun := run_copy_spans0 w o.type D A dLen dCap c
    unfold Oper.wp
    simp [execOp, ho, resolve, invoke, builtin, hd, hs, hrun, Result.andThen]
    exact hK _ _ (K w (by simpa using hC) hb)
  · obtain ⟨rfl, hn⟩ := hD h0
    obtain ⟨cs, hsz, hg, hc⟩ := hC
    have hrun := run_copy_spans w o.type g (us.length * 2) dLen dCap A n c zs h0 hr hn cs hg (by omega)
    unfold Oper.wp
    simp [execOp, ho, resolve, invoke, builtin, hd, hs, hrun, Result.andThen]
    refine hK _ _ (K _ ⟨_, ?_, setRow_heap w g _ _ _ _ hg, fun j hj => ?_⟩ (below_setRow hb hB _))
    · simp [cells_length]; omega
    · simpa only [List.append_assoc] using splice_get cs us zs hsz hfit hc hl j hj

end Go.Proofs.YtfhcakpmlppbkaaGreatDoor.Sets
