/- Contracts of spec's decimal texts. -/
import Derived.Test.YtkmkfpglnmpnmaaDoorText
import Derived.Test.YtkmkfpglnmpnmaaDoorDaysE
import Derived.Laws.IdiomStrings
import Derived.Laws.BytesArg
import Derived.Deep.RegionWith
import Derived.Deep.RegionHeld3
namespace Go.Proofs.YtkmkfpglnmpnmaaDoor
open Go.RowKit

/-- A list of bytes as a string. -/
def str (l : List UInt8) : ByteArray := ⟨l.toArray⟩
theorem str_size (l : List UInt8) : (str l).size = l.length := by simp [str, ByteArray.size]
theorem str_add (a b : List UInt8) : str a ++ str b = str (a ++ b) := by
  simp [str, ByteArray.ext_iff]

/-- What a call leaves that answers a text. -/
def Tx (l : List UInt8) (w : World) (e : Ending) (w' : World) : Prop := e = .returned (.string (str l)) ∧ Below w.heap.size w w'

theorem conv1 (n : Int) (h0 : 0 ≤ n) (h1 : n < 10) : ∀ (wx : World) (g : Nat), wx.cell? ⟨g, 0, none⟩ = some (.int .u8 (48 + n)) →
    (convert 22 9 (.slice (some ⟨g, 0, none⟩) 1 1)).run Tryd.prog wx = .ok (.string (str [Txt.dg n])) wx := by
  intro wx g hc
  have h := run_convert_bytes_arg wx 22 5 Tryd.underlying22 Tryd.underlying5 g 0 1 1 [48 + n] rfl (by
    intro i hi
    obtain rfl : i = 0 := by omega
    simpa using hc) 9 Tryd.underlying9
  rw [h]
  have e : n % 10 = n := by omega
  simp [strOfNums, str, Txt.dg, e]

set_option maxHeartbeats 800000 in
theorem spec_decF (k : Nat) : ∀ (n : Int) (w : World), 0 ≤ n → Hid (n ≤ 9223372036854775807) → Hid (n < 10 ^ (k + 1)) → k ≤ 18 → Calls Tryd.prog 45 #[.int .i64 n] w (Tx (Txt.decF (k + 1) n) w) := by
  induction k with
  | zero =>
    intro n w h0 _ h1 _
    have h2 : n < 10 := by have := h1.out; simpa using this
    clear h1
    have hcv := conv1 n h0 h2
    have E := Lib.hid (show [Txt.dg n] = Txt.decF 1 n by simp [Txt.decF, h2])
    go_enter Tryd.func45, Tryd.ntmps45
    go_wp2_with fail
    go_ret
    exact ⟨congrArg (fun l => Ending.returned (.string (str l))) E.out, (Below.refl _ _).alloc (Nat.le_refl _) _⟩
  | succ k ih =>
    intro n w h0 hnb h1 hk
    by_cases h2 : n < 10
    · clear h1
      have hcv := conv1 n h0 h2
      have E := Lib.hid (show [Txt.dg n] = Txt.decF (k + 1 + 1) n by simp [Txt.decF, h2])
      clear ih
      go_enter Tryd.func45, Tryd.ntmps45
      go_wp2_with fail
      go_ret
      exact ⟨congrArg (fun l => Ending.returned (.string (str l))) E.out, (Below.refl _ _).alloc (Nat.le_refl _) _⟩
    · have hq : Hid (n / 10 < 10 ^ (k + 1)) := Lib.hid (by
        have := h1.out
        rw [Int.pow_succ] at this
        omega)
      have IH := Lib.hid (fun wx => ih (n / 10) wx (by omega) (Lib.hid (by have := hnb.out; omega)) hq (by omega))
      clear ih h1 hq
      have m0 := Int.emod_nonneg n (show (10 : Int) ≠ 0 by decide)
      have m1 := Int.emod_lt_of_pos n (show (0 : Int) < 10 by decide)
      have hcv := conv1 (n % 10) m0 m1
      have ed : Txt.dg (n % 10) = Txt.dg n := by simp [Txt.dg]
      rw [ed] at hcv
      have E := Lib.hid (show str (Txt.decF (k + 1) (n / 10)) ++ str [Txt.dg n] = str (Txt.decF (k + 1 + 1) n) by rw [str_add]; simp [Txt.decF, h2])
      have sz1 : (str (Txt.decF (k + 1) (n / 10))).size ≤ 19 := by rw [str_size]; have := Txt.decF_length (k + 1) (n / 10); omega
      have sz2 : (str [Txt.dg n]).size ≤ 1 := by rw [str_size]; simp
      clear ed
      have d0 : 0 ≤ n / 10 := by omega
      have nb : n ≤ 9223372036854775807 := hnb.out
      have w1 : IntKind.i64.wrap (n.tdiv 10) = n / 10 := by rw [Int.tdiv_eq_ediv_of_nonneg h0]; exact IntWalk.i64_in _ ⟨by omega, by omega⟩
      have w2 : n.tmod 10 = n % 10 := Int.tmod_eq_emod_of_nonneg h0
      have w3 : IntKind.i64.wrap (48 + n % 10) = 48 + n % 10 := IntWalk.i64_in _ ⟨by omega, by omega⟩
      have w4 : IntKind.u8.wrap (48 + n % 10) = 48 + n % 10 := IntWalk.u8_in _ ⟨by omega, by omega⟩
      clear nb hnb
      go_enter Tryd.func45, Tryd.ntmps45
      go_wp2_with fail
      go_region_with (go_at_call 45; refine (IH.out _).mono ?_; rintro e w1 ⟨rfl, hb⟩; obtain ⟨hc, hf⟩ := bcell hb)
      all_goals
        go_wp2_with fail
        go_ret
        refine ⟨congrArg (fun b => Ending.returned (.string b)) E.out, ?_⟩
        first
          | exact (Below.trans (below_drewN (Below.refl _ _) 1) hb).alloc hb.size _
          | exact (Below.trans (below_drewN ((Below.refl _ _).alloc (Nat.le_refl _) _) 1) (hb.mono (by simp)))

theorem spec_dec (n : Int) (h0 : 0 ≤ n) (h1 : n ≤ 9223372036854775807) (w : World) : Calls Tryd.prog 45 #[.int .i64 n] w (Tx (Txt.dec n) w) :=
  spec_decF 18 n w h0 (Lib.hid h1) (Lib.hid (by omega)) (by omega)

set_option maxHeartbeats 800000 in
theorem spec_padded (n : Int) (k : Nat) (h0 : 0 ≤ n) (h1 : n ≤ 1000000) (hk : k ≤ 20) (w : World) : Calls Tryd.prog 38 #[.int .i64 n, .int .i64 k] w (Tx (Txt.pad k (Txt.dec n)) w) := by
  have dl := Txt.dec_length n
  go_enter Tryd.func38, Tryd.ntmps38
  go_wp2_with fail
  refine (spec_dec n h0 (by omega) _).mono ?_
  rintro e w1 ⟨rfl, hb⟩
  go_wp2_with fail
  generalize hD : Txt.dec n = D at dl ⊢
  have HD := Lib.hid hD
  clear hD
  go_loopg [5] (k - D.length) (fun g t wr => ∃ j : Nat, j ≤ k - D.length ∧ g = k - D.length - j ∧ t = .string (str (List.replicate j 48 ++ D)) ∧ Below w.heap.size w wr)
  case atStart => exact ⟨0, Nat.zero_le _, rfl, by simp, hb⟩
  case round =>
    obtain ⟨j, hj, hg, rfl, hbel⟩ := hrel
    subst hg
    have sz : (str (List.replicate j 48 ++ D)).size = j + D.length := by rw [str_size]; simp
    have E := Lib.hid (show (⟨#[48]⟩ : ByteArray) ++ str (List.replicate j 48 ++ D) = str (List.replicate (j + 1) 48 ++ D) by
      rw [show (⟨#[48]⟩ : ByteArray) = str [48] from rfl, str_add, List.replicate_succ]; simp)
    by_cases hlt : j + D.length < k
    · have hgo : ((j : Int) + (D.length : Int) < (k : Int)) := by omega
      go_wp2_with fail
      go_roundg (k - D.length - (j + 1))
      case measure => omega
      case rel => exact ⟨j + 1, by omega, by omega, congrArg Value.string E.out, hbel⟩
    · have hgo : ¬ ((j : Int) + (D.length : Int) < (k : Int)) := by omega
      have hfin := Lib.hid (show List.replicate j 48 ++ D = Txt.pad k D by unfold Txt.pad; rw [show k - D.length = j by omega])
      go_wp2_with fail
      go_ret
      exact ⟨congrArg (fun l => Ending.returned (.string (str l))) (by rw [HD.out]; exact hfin.out), hbel⟩

set_option maxHeartbeats 800000 in
theorem spec_DateText_no (y m d : Int) (h1 : Hid (¬ Cal.valid false y m d)) (h2 : Hid (¬ Cal.valid true y m d)) (w : World) :
    Calls Tryd.prog 17 #[.agg #[.int .i64 y, .int .i64 m, .int .i64 d]] w (Tx [] w) := by
  have v1 := vb_false h1.out
  have v2 := vb_false h2.out
  go_enter Tryd.func17, Tryd.ntmps17
  go_wp2_with fail
  refine (spec_IsOldDate y m d _).mono ?_
  rintro e w1 ⟨rfl, hb1⟩
  have q1 := (Blk.new w _ _).below hb1 (by simp)
  obtain ⟨c0, c1, c2⟩ := q1.three
  go_wp2_with fail
  refine (spec_IsNewDate y m d _).mono ?_
  rintro e w2 ⟨rfl, hb2⟩
  go_wp2_with fail
  go_ret
  have zz := hb1.size
  simp at zz
  exact ⟨rfl, (((Below.refl _ _).alloc (Nat.le_refl _) _).trans (hb1.mono (by simp))).trans (hb2.mono (by omega))⟩

theorem valid_bd {f : Bool} {y m d : Int} (h : Cal.valid f y m d) : (1 ≤ y ∧ y ≤ 2000) ∧ (1 ≤ m ∧ m ≤ 12) ∧ (1 ≤ d ∧ d ≤ 31) := by
  have := Cal.mlen_bd f y m
  obtain ⟨a, b, c, d, e, g⟩ := h
  exact ⟨⟨a, b⟩, ⟨c, d⟩, e, by omega⟩

theorem cell_later {w wx : World} {a : Addr} {v : Value} (hb : Below w.heap.size w wx) (h : w.cell? a = some v) : wx.cell? a = some v := (hb.cell (World.block_lt_of_cell? _ _ h)).trans h
theorem below_step {w w1 w2 : World} (h : Below w.heap.size w w1) (hb : Below w1.heap.size w1 w2) : Below w.heap.size w w2 := h.trans (hb.mono h.size)

theorem date_str (y m d : Int) : str (Txt.p4 y) ++ ⟨#[45]⟩ ++ str (Txt.p2 m) ++ ⟨#[45]⟩ ++ str (Txt.p2 d) = str (Txt.date y m d) := by
  rw [show (⟨#[45]⟩ : ByteArray) = str [45] from rfl]
  simp only [str_add]
  rfl

set_option maxHeartbeats 800000 in
theorem spec_DateText_at (y m d : Int) (hb : (1 ≤ y ∧ y ≤ 2000) ∧ (1 ≤ m ∧ m ≤ 12) ∧ (1 ≤ d ∧ d ≤ 31)) (hv : (Hid (vb false y m d = true)) ∨ (Hid (vb false y m d = false) ∧ Hid (vb true y m d = true))) (w : World) :
    Calls Tryd.prog 17 #[.agg #[.int .i64 y, .int .i64 m, .int .i64 d]] w (Tx (Txt.date y m d) w) := by
  obtain ⟨⟨y1, y2⟩, ⟨m1, m2⟩, d1, d2⟩ := hb
  have P1 : ∀ wx, Calls Tryd.prog 38 #[.int .i64 y, .int .i64 4] wx (Tx (Txt.p4 y) wx) := fun wx => by
    have := spec_padded y 4 (by omega) (by omega) (by omega) wx
    rwa [Txt.pad4 y (by omega) (by omega)] at this
  have P2 : ∀ n wx, 0 ≤ n → n ≤ 99 → Calls Tryd.prog 38 #[.int .i64 n, .int .i64 2] wx (Tx (Txt.p2 n) wx) := fun n wx a b => by
    have := spec_padded n 2 (by omega) (by omega) (by omega) wx
    rwa [Txt.pad2 n (by omega) (by omega)] at this
  have H1 := Lib.hid P1
  have H2 := Lib.hid P2
  clear P1 P2
  have s1 : (str (Txt.p4 y)).size = 4 := by rw [str_size]; rfl
  have s2 : (str (Txt.p2 m)).size = 2 := by rw [str_size]; rfl
  have s3 : (str (Txt.p2 d)).size = 2 := by rw [str_size]; rfl
  rcases hv with v1 | ⟨v1, v2⟩
  · have e1 := v1.out
    go_enter Tryd.func17, Tryd.ntmps17
    go_wp2_with fail
    refine (spec_IsOldDate y m d _).mono ?_
    rintro e w1 ⟨rfl, hb1⟩
    have q1 := (Blk.new w _ _).below hb1 (by simp)
    go_wp2_with fail
    have hk : Below w.heap.size w w1 := ((Below.refl _ _).alloc (Nat.le_refl _) _).trans (hb1.mono (by simp))
    obtain ⟨c0, c1, c2⟩ := q1.three
    go_region_held3 (fun w' => w'.cell? ⟨w.heap.size, 0, none⟩ = some (.int .i64 y) ∧ w'.cell? ⟨w.heap.size, 1, none⟩ = some (.int .i64 m) ∧ w'.cell? ⟨w.heap.size, 2, none⟩ = some (.int .i64 d) ∧ Below w.heap.size w w')
      (first | exact ⟨c0, c1, c2, hk.drew⟩ | (go_split_ands; refine ⟨cell_later hb ?_, cell_later hb ?_, cell_later hb ?_, below_step ?_ hb⟩ <;> assumption))
      (first
        | (go_at_call_of 38 (Value.int .i64 y); refine (H1.out _).mono ?_; rintro e wq ⟨rfl, hb⟩)
        | (go_at_call_of 38 (Value.int .i64 m); refine (H2.out m _ (by omega) (by omega)).mono ?_; rintro e wq ⟨rfl, hb⟩)
        | (go_at_call_of 38 (Value.int .i64 d); refine (H2.out d _ (by omega) (by omega)).mono ?_; rintro e wq ⟨rfl, hb⟩))
    go_wp2_with fail
    go_ret
    exact ⟨congrArg (fun b => Ending.returned (.string b)) (date_str y m d), by go_split_ands; assumption⟩
  · have e1 := v1.out
    have e2 := v2.out
    go_enter Tryd.func17, Tryd.ntmps17
    go_wp2_with fail
    refine (spec_IsOldDate y m d _).mono ?_
    rintro e w1 ⟨rfl, hb1⟩
    have q1 := (Blk.new w _ _).below hb1 (by simp)
    obtain ⟨c0, c1, c2⟩ := q1.three
    go_wp2_with fail
    refine (spec_IsNewDate y m d _).mono ?_
    rintro e w2 ⟨rfl, hb2⟩
    have q2 := q1.below hb2 q1.lt
    clear c0 c1 c2
    go_wp2_with fail
    have hk : Below w.heap.size w w2 := below_step (((Below.refl _ _).alloc (Nat.le_refl _) _).trans (hb1.mono (by simp))) hb2
    obtain ⟨c0, c1, c2⟩ := q2.three
    go_region_held3 (fun w' => w'.cell? ⟨w.heap.size, 0, none⟩ = some (.int .i64 y) ∧ w'.cell? ⟨w.heap.size, 1, none⟩ = some (.int .i64 m) ∧ w'.cell? ⟨w.heap.size, 2, none⟩ = some (.int .i64 d) ∧ Below w.heap.size w w')
      (first | exact ⟨c0, c1, c2, hk.drew⟩ | (go_split_ands; refine ⟨cell_later hb ?_, cell_later hb ?_, cell_later hb ?_, below_step ?_ hb⟩ <;> assumption))
      (first
        | (go_at_call_of 38 (Value.int .i64 y); refine (H1.out _).mono ?_; rintro e wq ⟨rfl, hb⟩)
        | (go_at_call_of 38 (Value.int .i64 m); refine (H2.out m _ (by omega) (by omega)).mono ?_; rintro e wq ⟨rfl, hb⟩)
        | (go_at_call_of 38 (Value.int .i64 d); refine (H2.out d _ (by omega) (by omega)).mono ?_; rintro e wq ⟨rfl, hb⟩))
    go_wp2_with fail
    go_ret
    exact ⟨congrArg (fun b => Ending.returned (.string b)) (date_str y m d), by go_split_ands; assumption⟩

/-- The text of a date, or nothing. -/
def dateTx (y m d : Int) : List UInt8 := if Cal.valid false y m d ∨ Cal.valid true y m d then Txt.date y m d else []
theorem spec_DateText (y m d : Int) (w : World) : Calls Tryd.prog 17 #[.agg #[.int .i64 y, .int .i64 m, .int .i64 d]] w (Tx (dateTx y m d) w) := by
  unfold dateTx
  by_cases h1 : Cal.valid false y m d
  · rw [if_pos (.inl h1)]
    exact spec_DateText_at y m d (valid_bd h1) (.inl (Lib.hid (vb_true h1))) w
  · by_cases h2 : Cal.valid true y m d
    · rw [if_pos (.inr h2)]
      exact spec_DateText_at y m d (valid_bd h2) (.inr ⟨Lib.hid (vb_false h1), Lib.hid (vb_true h2)⟩) w
    · rw [if_neg (by rintro (h | h); exact h1 h; exact h2 h)]
      exact spec_DateText_no y m d (Lib.hid h1) (Lib.hid h2) w

end Go.Proofs.YtkmkfpglnmpnmaaDoor
