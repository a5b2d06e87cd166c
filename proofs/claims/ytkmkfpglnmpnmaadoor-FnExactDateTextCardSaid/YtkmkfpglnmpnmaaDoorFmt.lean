/- Contracts of impl's texts of dates, over the library's decimal texts of numbers. -/
import Derived.Test.YtkmkfpglnmpnmaaDoorShelf
import Derived.Test.YtkmkfpglnmpnmaaDoorReadP
import Derived.Test.YtkmkfpglnmpnmaaDoorLawA
import Derived.Lib.AppendIntMem
import Derived.Lib.LaidTab
namespace Go.Proofs.YtkmkfpglnmpnmaaDoor
open Go.RowKit

/-- The library's table of powers of ten reads as the program's text lays it. -/
def Tabs (w : World) : Prop := Lib.TabIs Tryd.prog w "internal/strconv.uint64pow10" .u64 Lib.pow10Tab
theorem Tabs.below {W w : World} (h : Tabs W) (hb : Below W.heap.size W w) : Tabs w := by
  unfold Tabs Lib.TabIs at h ⊢
  obtain ⟨g, hg⟩ : ∃ g, Tryd.prog.globalNamed "internal/strconv.uint64pow10" = some g := by
    cases hg : Tryd.prog.globalNamed "internal/strconv.uint64pow10" with
    | none => unfold World.var? at h; rw [hg] at h; cases h
    | some g => exact ⟨g, rfl⟩
  refine var?_below hb hg ?_ h
  rcases Nat.lt_or_ge g W.heap.size with hl | hl
  · exact hl
  · exfalso
    unfold World.var? at h
    rw [hg] at h
    simp [Array.getElem?_eq_none hl] at h

theorem itoa_dec (n : Int) (h0 : 0 ≤ n) (h1 : n < 10000) : Lib.itoa n = Txt.dec n := by
  obtain ⟨u, rfl⟩ := Int.eq_ofNat_of_zero_le h0
  rw [Lib.itoa_nonneg]
  have key : ∀ (k u : Nat), u < 10 ^ k → Txt.decF (k + 1) (u : Int) = Lib.decDigits u := by
    intro k
    induction k with
    | zero =>
      intro u hu
      obtain rfl : u = 0 := by simpa using hu
      rw [Lib.decDigits]
      rfl
    | succ k ih =>
      intro u hu
      have e : Txt.dg (u : Int) = UInt8.ofNat (48 + u % 10) := by
        unfold Txt.dg
        congr 1
      rw [Lib.decDigits]
      by_cases h : u < 10
      · rw [dif_pos h]
        have hi : (u : Int) < 10 := by omega
        rw [Txt.decF, if_pos hi, e, Nat.mod_eq_of_lt h]
      · rw [dif_neg h]
        have hi : ¬ (u : Int) < 10 := by omega
        rw [Txt.decF, if_neg hi, e]
        have hq : (u : Int) / 10 = ((u / 10 : Nat) : Int) := by omega
        rw [hq, ih (u / 10) (by rw [Nat.pow_succ] at hu; omega)]
  exact (key 18 u (by omega)).symm

set_option maxHeartbeats 400000 in
theorem go_FormatInt (n : Int) (h0 : 0 ≤ n) (h1 : n < 10000) (w : World) (ht : Tabs w) : Calls Tryd.prog 44 #[.int .i64 n, .int .i64 10] w (Tx (Txt.dec n) w) := by
  have HT := Lib.hid ht
  clear ht
  go_enter Tryd.func44, Tryd.ntmps44
  go_wp2_with fail
  refine (Tryd.internal_strconv_FormatInt_10 n (by omega) (by omega) _ HT.out).mono ?_
  rintro e w1 ⟨rfl, k, os, rfl⟩
  rw [itoa_dec n h0 h1]
  go_wp2_with fail
  go_ret
  exact ⟨rfl, Lib.below_grow _ _ (Nat.le_refl _) _ _⟩

set_option maxHeartbeats 800000 in
theorem impl_padded (n : Int) (k : Nat) (h0 : 0 ≤ n) (h1 : n < 10000) (hk : k ≤ 20) (w : World) (ht : Tabs w) : Calls Tryd.prog 31 #[.int .i64 n, .int .i64 k] w (Tx (Txt.pad k (Txt.dec n)) w) := by
  have dl := Txt.dec_length n
  have HT := Lib.hid ht
  clear ht
  go_enter Tryd.func31, Tryd.ntmps31
  go_wp2_with fail
  refine (go_FormatInt n h0 h1 _ HT.out).mono ?_
  rintro e w1 ⟨rfl, hb⟩
  go_wp2_with fail
  generalize hD : Txt.dec n = D at dl ⊢
  have HD := Lib.hid hD
  clear hD
  go_loopg [5] (k - D.length) (fun g t wr => ∃ j : Nat, j ≤ k - D.length ∧ g = k - D.length - j ∧ t = .string (str (List.replicate j 48 ++ D)) ∧ Below w.heap.size w wr)
  case atStart => exact ⟨0, Nat.zero_le _, rfl, by simp, hb⟩
  case round =>
    obtain ⟨j, hj, hg, rfl, hbel⟩ := hrel
    subst hg
    have sz : (str (List.replicate j 48 ++ D)).size = j + D.length := by rw [str_size]; simp
    have E := Lib.hid (show (⟨#[48]⟩ : ByteArray) ++ str (List.replicate j 48 ++ D) = str (List.replicate (j + 1) 48 ++ D) by
      rw [show (⟨#[48]⟩ : ByteArray) = str [48] from rfl, str_add, List.replicate_succ]; simp)
    by_cases hlt : j + D.length < k
    · have hgo : ((j : Int) + (D.length : Int) < (k : Int)) := by omega
      go_wp2_with fail
      go_roundg (k - D.length - (j + 1))
      case measure => omega
      case rel => exact ⟨j + 1, by omega, by omega, congrArg Value.string E.out, hbel⟩
    · have hgo : ¬ ((j : Int) + (D.length : Int) < (k : Int)) := by omega
      have hfin := Lib.hid (show List.replicate j 48 ++ D = Txt.pad k D by unfold Txt.pad; rw [show k - D.length = j by omega])
      go_wp2_with fail
      go_ret
      exact ⟨congrArg (fun l => Ending.returned (.string (str l))) (by rw [HD.out]; exact hfin.out), hbel⟩

set_option maxHeartbeats 800000 in
theorem impl_DateText_no (y m d : Int) (hv : Hid ((vb false y m d || vb true y m d) = false)) (w : World) :
    Calls Tryd.prog 13 #[.agg #[.int .i64 y, .int .i64 m, .int .i64 d]] w (Tx [] w) := by
  have e1 := hv.out
  go_enter Tryd.func13, Tryd.ntmps13
  go_wp2_with fail
  refine (impl_isValid y m d _).mono ?_
  rintro e w1 ⟨rfl, hb1⟩
  go_wp2_with fail
  go_ret
  exact ⟨rfl, ((Below.refl _ _).alloc (Nat.le_refl _) _).trans (hb1.mono (by simp))⟩

set_option maxHeartbeats 800000 in
theorem impl_DateText_at (y m d : Int) (hb : (1 ≤ y ∧ y ≤ 2000) ∧ (1 ≤ m ∧ m ≤ 12) ∧ (1 ≤ d ∧ d ≤ 31)) (hv : Hid ((vb false y m d || vb true y m d) = true)) (w : World) (ht : Tabs w) :
    Calls Tryd.prog 13 #[.agg #[.int .i64 y, .int .i64 m, .int .i64 d]] w (Tx (Txt.date y m d) w) := by
  obtain ⟨⟨y1, y2⟩, ⟨m1, m2⟩, d1, d2⟩ := hb
  have P1 : ∀ wx, Below w.heap.size w wx → Calls Tryd.prog 31 #[.int .i64 y, .int .i64 4] wx (Tx (Txt.p4 y) wx) := fun wx hx => by
    have := impl_padded y 4 (by omega) (by omega) (by omega) wx (ht.below hx)
    rwa [Txt.pad4 y (by omega) (by omega)] at this
  have P2 : ∀ n wx, Below w.heap.size w wx → 0 ≤ n → n ≤ 99 → Calls Tryd.prog 31 #[.int .i64 n, .int .i64 2] wx (Tx (Txt.p2 n) wx) := fun n wx hx a b => by
    have := impl_padded n 2 (by omega) (by omega) (by omega) wx (ht.below hx)
    rwa [Txt.pad2 n (by omega) (by omega)] at this
  have H1 := Lib.hid P1
  have H2 := Lib.hid P2
  clear P1 P2 ht
  have s1 : (str (Txt.p4 y)).size = 4 := by rw [str_size]; rfl
  have s2 : (str (Txt.p2 m)).size = 2 := by rw [str_size]; rfl
  have s3 : (str (Txt.p2 d)).size = 2 := by rw [str_size]; rfl
  have e1 := hv.out
  go_enter Tryd.func13, Tryd.ntmps13
  go_wp2_with fail
  refine (impl_isValid y m d _).mono ?_
  rintro e w1 ⟨rfl, hb1⟩
  have q1 := (Blk.new w _ _).below hb1 (by simp)
  go_wp2_with fail
  have hk : Below w.heap.size w w1 := ((Below.refl _ _).alloc (Nat.le_refl _) _).trans (hb1.mono (by simp))
  obtain ⟨c0, c1, c2⟩ := q1.three
  go_region_held3 (fun w' => w'.cell? ⟨w.heap.size, 0, none⟩ = some (.int .i64 y) ∧ w'.cell? ⟨w.heap.size, 1, none⟩ = some (.int .i64 m) ∧ w'.cell? ⟨w.heap.size, 2, none⟩ = some (.int .i64 d) ∧ Below w.heap.size w w')
    (first | exact ⟨c0, c1, c2, hk.drew⟩ | (go_split_ands; refine ⟨cell_later hb ?_, cell_later hb ?_, cell_later hb ?_, below_step ?_ hb⟩ <;> assumption))
    (first
      | (go_at_call_of 31 (Value.int .i64 y); go_split_ands; refine (H1.out _ ?_).mono ?_; assumption; rintro e wq ⟨rfl, hb⟩)
      | (go_at_call_of 31 (Value.int .i64 m); go_split_ands; refine (H2.out m _ ?_ (by omega) (by omega)).mono ?_; assumption; rintro e wq ⟨rfl, hb⟩)
      | (go_at_call_of 31 (Value.int .i64 d); go_split_ands; refine (H2.out d _ ?_ (by omega) (by omega)).mono ?_; assumption; rintro e wq ⟨rfl, hb⟩))
  go_wp2_with fail
  go_ret
  exact ⟨congrArg (fun b => Ending.returned (.string b)) (date_str y m d), by go_split_ands; assumption⟩

theorem impl_DateText (y m d : Int) (w : World) (ht : Tabs w) : Calls Tryd.prog 13 #[.agg #[.int .i64 y, .int .i64 m, .int .i64 d]] w (Tx (dateTx y m d) w) := by
  unfold dateTx
  by_cases h : Cal.valid false y m d ∨ Cal.valid true y m d
  · rw [if_pos h]
    exact impl_DateText_at y m d (either_bd h) (Lib.hid (by simpa [vb_iff] using h)) w ht
  · rw [if_neg h]
    exact impl_DateText_no y m d (Lib.hid (by simpa [← Bool.not_eq_true, vb_iff] using h)) w

set_option maxHeartbeats 800000 in
theorem walk_FnExactDateText (y m d : Int) (_f0 : (Lit.int .i64 y).wf = true) (_f1 : (Lit.int .i64 m).wf = true) (_f2 : (Lit.int .i64 d).wf = true) (w : World) (ht : Tabs w) :
    Calls Tryd.prog 4 #[.agg #[.int .i64 y, .int .i64 m, .int .i64 d]] w (Bl true w) := by
  have HT := Lib.hid ht
  clear ht
  go_enter Tryd.func4, Tryd.ntmps4
  go_wp2_with fail
  refine (laws_toDate y m d _).mono ?_
  rintro e w1 ⟨rfl, hb1⟩
  have q1 := (Blk.new w _ _).below hb1 (by simp)
  have z1 := hb1.size
  simp at z1
  have k1 : Below w.heap.size w w1 := ((Below.refl _ _).alloc (Nat.le_refl _) _).trans (hb1.mono (by simp))
  go_wp2_with fail
  refine (spec_DateText y m d _).mono ?_
  rintro e w2 ⟨rfl, hb2⟩
  have q2 := q1.below hb2 q1.lt
  have k2 := below_step k1 hb2
  obtain ⟨c0, c1, c2⟩ := q2.three
  go_wp2_with fail
  refine (laws_toDate y m d _).mono ?_
  rintro e w3 ⟨rfl, hb3⟩
  have k3 := below_step k2 hb3
  go_wp2_with fail
  refine (impl_DateText y m d _ (HT.out.below k3)).mono ?_
  rintro e w4 ⟨rfl, hb4⟩
  go_wp2_with fail
  go_ret
  exact ⟨rfl, below_step k3 hb4⟩

end Go.Proofs.YtkmkfpglnmpnmaaDoor
