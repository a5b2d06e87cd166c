/- Contracts of impl's beginnings of a year, and of the map of rules: made by gen_styia.py. -/
import Derived.Test.YtigjpalbaapkkaaStyC
import Derived.Test.YtigjpalbaapkkaaEasG
import Derived.Test.YtigjpalbaapkkaaMapI
import Derived.Shelf.Abstract
namespace Go.Proofs.Ytigjpalbaapkkaa.Sty
open Go.RowKit
open Go.Proofs.Ytigjpalbaapkkaa.Eas (isY It oE impl_oldDayOf impl_keptOld)
open Go.Proofs.Ytigjpalbaapkkaa.Fea (bs fixed_valid)

theorem impl_bg0 (y : Int) (h1 : 2 ≤ y) (h2 : y ≤ 2000) (w : World) : Calls Try.prog 103 #[.int .i64 y] w (It (bg 0 y) w) := by
  have A := Lib.hid (impl_oldDayOf (y) 1 1 (fixed_valid (y) 1 1 ⟨by omega, by omega⟩ (by omega) (by omega) (by omega) (by omega)))
  rw [show bg 0 y = Cal.num false (y) 1 1 from rfl]
  generalize Cal.num false (y) 1 1 = n at A
  go_enter Try.func103, Try.ntmps103
  go_wp2_with fail
  refine (A.out _).mono ?_
  rintro e w1 ⟨rfl, hb⟩
  go_wp2_with fail
  go_ret
  exact ⟨rfl, hb⟩

theorem impl_bg1 (y : Int) (h1 : 2 ≤ y) (h2 : y ≤ 2000) (w : World) : Calls Try.prog 104 #[.int .i64 y] w (It (bg 1 y) w) := by
  have A := Lib.hid (impl_oldDayOf (y) 3 1 (fixed_valid (y) 3 1 ⟨by omega, by omega⟩ (by omega) (by omega) (by omega) (by omega)))
  rw [show bg 1 y = Cal.num false (y) 3 1 from rfl]
  generalize Cal.num false (y) 3 1 = n at A
  go_enter Try.func104, Try.ntmps104
  go_wp2_with fail
  refine (A.out _).mono ?_
  rintro e w1 ⟨rfl, hb⟩
  go_wp2_with fail
  go_ret
  exact ⟨rfl, hb⟩

theorem impl_bg2 (y : Int) (h1 : 2 ≤ y) (h2 : y ≤ 2000) (w : World) : Calls Try.prog 105 #[.int .i64 y] w (It (bg 2 y) w) := by
  have A := Lib.hid (impl_oldDayOf (y) 3 25 (fixed_valid (y) 3 25 ⟨by omega, by omega⟩ (by omega) (by omega) (by omega) (by omega)))
  rw [show bg 2 y = Cal.num false (y) 3 25 from rfl]
  generalize Cal.num false (y) 3 25 = n at A
  go_enter Try.func105, Try.ntmps105
  go_wp2_with fail
  refine (A.out _).mono ?_
  rintro e w1 ⟨rfl, hb⟩
  go_wp2_with fail
  go_ret
  exact ⟨rfl, hb⟩

theorem impl_bg3 (y : Int) (h1 : 2 ≤ y) (h2 : y ≤ 2000) (w : World) : Calls Try.prog 106 #[.int .i64 y] w (It (bg 3 y) w) := by
  have A := Lib.hid (impl_oldDayOf (y - 1) 3 25 (fixed_valid (y - 1) 3 25 ⟨by omega, by omega⟩ (by omega) (by omega) (by omega) (by omega)))
  rw [show bg 3 y = Cal.num false (y - 1) 3 25 from rfl]
  generalize Cal.num false (y - 1) 3 25 = n at A
  go_enter Try.func106, Try.ntmps106
  go_wp2_with fail
  refine (A.out _).mono ?_
  rintro e w1 ⟨rfl, hb⟩
  go_wp2_with fail
  go_ret
  exact ⟨rfl, hb⟩

theorem impl_bg4 (y : Int) (h1 : 2 ≤ y) (h2 : y ≤ 2000) (w : World) : Calls Try.prog 107 #[.int .i64 y] w (It (bg 4 y) w) := by
  have A := Lib.hid (impl_keptOld y ⟨by omega, h2⟩)
  rw [show bg 4 y = oE y from rfl]
  generalize oE y = n at A
  go_enter Try.func107, Try.ntmps107
  go_wp2_with fail
  refine (A.out _).mono ?_
  rintro e w1 ⟨rfl, hb⟩
  go_wp2_with fail
  go_ret
  exact ⟨rfl, hb⟩

theorem impl_bg5 (y : Int) (h1 : 2 ≤ y) (h2 : y ≤ 2000) (w : World) : Calls Try.prog 108 #[.int .i64 y] w (It (bg 5 y) w) := by
  have A := Lib.hid (impl_oldDayOf (y - 1) 12 25 (fixed_valid (y - 1) 12 25 ⟨by omega, by omega⟩ (by omega) (by omega) (by omega) (by omega)))
  rw [show bg 5 y = Cal.num false (y - 1) 12 25 from rfl]
  generalize Cal.num false (y - 1) 12 25 = n at A
  go_enter Try.func108, Try.ntmps108
  go_wp2_with fail
  refine (A.out _).mono ?_
  rintro e w1 ⟨rfl, hb⟩
  go_wp2_with fail
  go_ret
  exact ⟨rfl, hb⟩

theorem impl_bg6 (y : Int) (h1 : 2 ≤ y) (h2 : y ≤ 2000) (w : World) : Calls Try.prog 109 #[.int .i64 y] w (It (bg 6 y) w) := by
  have A := Lib.hid (impl_oldDayOf (y - 1) 9 1 (fixed_valid (y - 1) 9 1 ⟨by omega, by omega⟩ (by omega) (by omega) (by omega) (by omega)))
  rw [show bg 6 y = Cal.num false (y - 1) 9 1 from rfl]
  generalize Cal.num false (y - 1) 9 1 = n at A
  go_enter Try.func109, Try.ntmps109
  go_wp2_with fail
  refine (A.out _).mono ?_
  rintro e w1 ⟨rfl, hb⟩
  go_wp2_with fail
  go_ret
  exact ⟨rfl, hb⟩

/-- The functions that tell a beginning, by their styles. -/
def stF : Nat → Nat
  | 0 => 103
  | 1 => 104
  | 2 => 105
  | 3 => 106
  | 4 => 107
  | 5 => 108
  | _ => 109
/-- What the map holds for a style. -/
def stV (j : Nat) : Value := .agg #[.string (bs (snL j)), .func (.func (stF j)) #[] #[]]
def stN : Nat → ByteArray
  | 0 => ⟨#[106, 97, 110, 117, 97, 114, 121]⟩
  | 1 => ⟨#[109, 97, 114, 99, 104]⟩
  | 2 => ⟨#[108, 97, 100, 121]⟩
  | 3 => ⟨#[112, 105, 115, 97]⟩
  | 4 => ⟨#[101, 97, 115, 116, 101, 114]⟩
  | 5 => ⟨#[99, 104, 114, 105, 115, 116, 109, 97, 115]⟩
  | 6 => ⟨#[115, 101, 112, 116, 101, 109, 98, 101, 114]⟩
  | _ => ⟨#[]⟩
def stE : Array MapEntry := #[{ key := .int .i64 0, val := .agg #[.string (stN 0), .func (.func (stF 0)) #[] #[]], born := 0 }, { key := .int .i64 1, val := .agg #[.string (stN 1), .func (.func (stF 1)) #[] #[]], born := 1 }, { key := .int .i64 2, val := .agg #[.string (stN 2), .func (.func (stF 2)) #[] #[]], born := 2 }, { key := .int .i64 3, val := .agg #[.string (stN 3), .func (.func (stF 3)) #[] #[]], born := 3 }, { key := .int .i64 4, val := .agg #[.string (stN 4), .func (.func (stF 4)) #[] #[]], born := 4 }, { key := .int .i64 5, val := .agg #[.string (stN 5), .func (.func (stF 5)) #[] #[]], born := 5 }, { key := .int .i64 6, val := .agg #[.string (stN 6), .func (.func (stF 6)) #[] #[]], born := 6 }] 

theorem impl_bgF (j : Nat) (hj : j < 7) (y : Int) (h1 : 2 ≤ y) (h2 : y ≤ 2000) (w : World) : Calls Try.prog (stF j) #[.int .i64 y] w (It (bg j y) w) := by
  have h : j = 0 ∨ j = 1 ∨ j = 2 ∨ j = 3 ∨ j = 4 ∨ j = 5 ∨ j = 6 := by omega
  rcases h with rfl | rfl | rfl | rfl | rfl | rfl | rfl
  · exact impl_bg0 y h1 h2 w
  · exact impl_bg1 y h1 h2 w
  · exact impl_bg2 y h1 h2 w
  · exact impl_bg3 y h1 h2 w
  · exact impl_bg4 y h1 h2 w
  · exact impl_bg5 y h1 h2 w
  · exact impl_bg6 y h1 h2 w

theorem stF_enters (j : Nat) (hj : j < 7) : ∀ args w, (callFunc (stF j) args).run Try.prog w = .ok (.enter (stF j) args) w := by
  have h : j = 0 ∨ j = 1 ∨ j = 2 ∨ j = 3 ∨ j = 4 ∨ j = 5 ∨ j = 6 := by omega
  rcases h with rfl | rfl | rfl | rfl | rfl | rfl | rfl
  · exact enters_of Try.func103 (by kernel_rfl) rfl
  · exact enters_of Try.func104 (by kernel_rfl) rfl
  · exact enters_of Try.func105 (by kernel_rfl) rfl
  · exact enters_of Try.func106 (by kernel_rfl) rfl
  · exact enters_of Try.func107 (by kernel_rfl) rfl
  · exact enters_of Try.func108 (by kernel_rfl) rfl
  · exact enters_of Try.func109 (by kernel_rfl) rfl

theorem stN_is (j : Nat) (hj : j < 7) : stN j = bs (snL j) := by
  have h : j = 0 ∨ j = 1 ∨ j = 2 ∨ j = 3 ∨ j = 4 ∨ j = 5 ∨ j = 6 := by omega
  rcases h with rfl | rfl | rfl | rfl | rfl | rfl | rfl
  · exact (by kernel_rfl : stN 0 = bs (snL ((0 : Nat) : Int)))
  · exact (by kernel_rfl : stN 1 = bs (snL ((1 : Nat) : Int)))
  · exact (by kernel_rfl : stN 2 = bs (snL ((2 : Nat) : Int)))
  · exact (by kernel_rfl : stN 3 = bs (snL ((3 : Nat) : Int)))
  · exact (by kernel_rfl : stN 4 = bs (snL ((4 : Nat) : Int)))
  · exact (by kernel_rfl : stN 5 = bs (snL ((5 : Nat) : Int)))
  · exact (by kernel_rfl : stN 6 = bs (snL ((6 : Nat) : Int)))

theorem stE_at (j : Nat) (hj : j < 7) : Instr.findNow (.int .i64) (.int .i64 j) stE.toList 0 = some (some (j, stV j)) := by
  unfold stV
  rw [← stN_is j hj]
  have h : j = 0 ∨ j = 1 ∨ j = 2 ∨ j = 3 ∨ j = 4 ∨ j = 5 ∨ j = 6 := by omega
  rcases h with rfl | rfl | rfl | rfl | rfl | rfl | rfl <;> rfl
theorem stE_no (s : Int) (h : ¬ isS s) : Instr.findNow (.int .i64) (.int .i64 s) stE.toList 0 = some none := by
  unfold isS at h
  have e : ∀ k : Int, 0 ≤ k → k ≤ 6 → (s == k) = false := fun k a b => by simp; omega
  simp [stE, Instr.findNow, Instr.sameNow, e 0 (by omega) (by omega), e 1 (by omega) (by omega), e 2 (by omega) (by omega), e 3 (by omega) (by omega), e 4 (by omega) (by omega), e 5 (by omega) (by omega), e 6 (by omega) (by omega)]

/-- Block b is the map of rules. -/
def StMap (w : World) (b : Nat) : Prop := w.heap[b]? = some (.map stE 7)
theorem StMap.below {w w' : World} {b B : Nat} (h : StMap w b) (hb : Below B w w') (hl : b < B) : StMap w' b := (hb.block b hl).trans h
theorem StMap.lt {w : World} {b : Nat} (h : StMap w b) : b < w.heap.size := (Array.getElem?_eq_some_iff.1 h).1
theorem StMap.at_ {w : World} {b : Nat} (h : StMap w b) (j : Nat) (hj : j < 7) : (Instr.lookup 84 (.map (some b)) (.int .i64 j) false).run Try.prog w = .ok (stV j) w :=
  run_map_at Try.underlying84 Try.underlying2 h (stE_at j hj)
theorem st_zero (w : World) : (zeroValue 83).run Try.prog w = .ok (.agg #[.string ⟨#[]⟩, .nilFunc]) w := by kernel_rfl
theorem StMap.no {w : World} {b : Nat} (h : StMap w b) (s : Int) (hs : ¬ isS s) : (Instr.lookup 84 (.map (some b)) (.int .i64 s) false).run Try.prog w = .ok (.agg #[.string ⟨#[]⟩, .nilFunc]) w :=
  run_map_no Try.underlying84 Try.underlying2 h (stE_no s hs) (st_zero w)

def RulesOut (w : World) (e : Ending) (w' : World) : Prop := ∃ b, e = .returned (.map (some b)) ∧ StMap w' b ∧ w.heap.size ≤ b ∧ Below w.heap.size w w'
set_option maxRecDepth 10000 in
set_option maxHeartbeats 1000000 in
theorem impl_rules (w : World) : Calls Try.prog 71 #[] w (RulesOut w) := by
  have hmm := @run_makeMap Try.prog
  have h0 : (w.alloc (.map #[] 0)).heap[w.heap.size]? = some (.map #[] 0) := (MapKept.heap_alloc w _).1
  have b0 : Below w.heap.size w (w.alloc (.map #[] 0)) := (Below.refl _ _).alloc (Nat.le_refl _) _
  go_enter Try.func71, Try.ntmps71

  go_wp2_with (refine wpList_map_lit rfl _ _ _ 84 rfl 2 83 Try.underlying84 Try.underlying2 w.heap.size 0 _ rfl h0 0 rfl (.agg #[.string (stN 0), .func (.func (stF 0)) #[] #[]]) rfl rfl ?_)
  intro w1 h1 g1
  have b1 : Below w.heap.size w w1 := b0.grown g1 b0.size (fun j hj => by cases hj; exact Nat.le_refl _)
  go_wp2_with (refine wpList_map_lit rfl _ _ _ 84 rfl 2 83 Try.underlying84 Try.underlying2 w.heap.size 1 _ rfl h1 1 rfl (.agg #[.string (stN 1), .func (.func (stF 1)) #[] #[]]) rfl rfl ?_)
  intro w2 h2 g2
  have b2 : Below w.heap.size w w2 := b1.grown g2 b1.size (fun j hj => by cases hj; exact Nat.le_refl _)
  go_wp2_with (refine wpList_map_lit rfl _ _ _ 84 rfl 2 83 Try.underlying84 Try.underlying2 w.heap.size 2 _ rfl h2 2 rfl (.agg #[.string (stN 2), .func (.func (stF 2)) #[] #[]]) rfl rfl ?_)
  intro w3 h3 g3
  have b3 : Below w.heap.size w w3 := b2.grown g3 b2.size (fun j hj => by cases hj; exact Nat.le_refl _)
  go_wp2_with (refine wpList_map_lit rfl _ _ _ 84 rfl 2 83 Try.underlying84 Try.underlying2 w.heap.size 3 _ rfl h3 3 rfl (.agg #[.string (stN 3), .func (.func (stF 3)) #[] #[]]) rfl rfl ?_)
  intro w4 h4 g4
  have b4 : Below w.heap.size w w4 := b3.grown g4 b3.size (fun j hj => by cases hj; exact Nat.le_refl _)
  go_wp2_with (refine wpList_map_lit rfl _ _ _ 84 rfl 2 83 Try.underlying84 Try.underlying2 w.heap.size 4 _ rfl h4 4 rfl (.agg #[.string (stN 4), .func (.func (stF 4)) #[] #[]]) rfl rfl ?_)
  intro w5 h5 g5
  have b5 : Below w.heap.size w w5 := b4.grown g5 b4.size (fun j hj => by cases hj; exact Nat.le_refl _)
  go_wp2_with (refine wpList_map_lit rfl _ _ _ 84 rfl 2 83 Try.underlying84 Try.underlying2 w.heap.size 5 _ rfl h5 5 rfl (.agg #[.string (stN 5), .func (.func (stF 5)) #[] #[]]) rfl rfl ?_)
  intro w6 h6 g6
  have b6 : Below w.heap.size w w6 := b5.grown g6 b5.size (fun j hj => by cases hj; exact Nat.le_refl _)
  go_wp2_with (refine wpList_map_lit rfl _ _ _ 84 rfl 2 83 Try.underlying84 Try.underlying2 w.heap.size 6 _ rfl h6 6 rfl (.agg #[.string (stN 6), .func (.func (stF 6)) #[] #[]]) rfl rfl ?_)
  intro w7 h7 g7
  have b7 : Below w.heap.size w w7 := b6.grown g7 b6.size (fun j hj => by cases hj; exact Nat.le_refl _)
  go_wp2_with fail
  go_ret
  exact ⟨w.heap.size, rfl, h7, Nat.le_refl _, b7⟩

end Go.Proofs.Ytigjpalbaapkkaa.Sty
