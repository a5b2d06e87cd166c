/- Contracts of impl's twenty rules of feasts, and of the function that lays them in an array: made by gen_feaib.py. -/
import Derived.Test.YtegoiiconhgjbaaFeaIa
import Derived.Test.YtegoiiconhgjbaaFeaQ
import Derived.Test.YtegoiiconhgjbaaEasG
import Derived.Shelf.Abstract
namespace Go.Proofs.Ytegoiiconhgjbaa.Fea
open Go.RowKit
open Go.Proofs.Ytegoiiconhgjbaa.Eas (isY It oE oM oD oE_bd impl_oldDayOf impl_keptOld)

theorem impl_rule0 (y : Int) (hy : isY y) (w : World) : Calls Try.prog 124 #[.int .i64 y] w (It (fd 0 y) w) := by
  have A := Lib.hid (impl_oldDayOf y 1 1 (fixed_valid y 1 1 hy (by omega) (by omega) (by omega) (by omega)))
  clear hy
  rw [show fd 0 y = Cal.num false y 1 1 from rfl]
  generalize Cal.num false y 1 1 = n at A
  go_enter Try.func124, Try.ntmps124
  go_wp2_with fail
  refine (A.out _).mono ?_
  rintro e w1 ⟨rfl, hb⟩
  go_wp2_with fail
  go_ret
  exact ⟨rfl, hb⟩

theorem impl_rule1 (y : Int) (hy : isY y) (w : World) : Calls Try.prog 125 #[.int .i64 y] w (It (fd 1 y) w) := by
  have A := Lib.hid (impl_oldDayOf y 1 6 (fixed_valid y 1 6 hy (by omega) (by omega) (by omega) (by omega)))
  clear hy
  rw [show fd 1 y = Cal.num false y 1 6 from rfl]
  generalize Cal.num false y 1 6 = n at A
  go_enter Try.func125, Try.ntmps125
  go_wp2_with fail
  refine (A.out _).mono ?_
  rintro e w1 ⟨rfl, hb⟩
  go_wp2_with fail
  go_ret
  exact ⟨rfl, hb⟩

theorem impl_rule2 (y : Int) (hy : isY y) (w : World) : Calls Try.prog 126 #[.int .i64 y] w (It (fd 2 y) w) := by
  have A := Lib.hid (impl_oldDayOf y 2 2 (fixed_valid y 2 2 hy (by omega) (by omega) (by omega) (by omega)))
  clear hy
  rw [show fd 2 y = Cal.num false y 2 2 from rfl]
  generalize Cal.num false y 2 2 = n at A
  go_enter Try.func126, Try.ntmps126
  go_wp2_with fail
  refine (A.out _).mono ?_
  rintro e w1 ⟨rfl, hb⟩
  go_wp2_with fail
  go_ret
  exact ⟨rfl, hb⟩

theorem impl_rule3 (y : Int) (hy : isY y) (w : World) : Calls Try.prog 127 #[.int .i64 y] w (It (fd 3 y) w) := by
  have A := Lib.hid (impl_oldDayOf y 3 25 (fixed_valid y 3 25 hy (by omega) (by omega) (by omega) (by omega)))
  clear hy
  rw [show fd 3 y = Cal.num false y 3 25 from rfl]
  generalize Cal.num false y 3 25 = n at A
  go_enter Try.func127, Try.ntmps127
  go_wp2_with fail
  refine (A.out _).mono ?_
  rintro e w1 ⟨rfl, hb⟩
  go_wp2_with fail
  go_ret
  exact ⟨rfl, hb⟩

theorem impl_rule4 (y : Int) (hy : isY y) (w : World) : Calls Try.prog 128 #[.int .i64 y] w (It (fd 4 y) w) := by
  have A := Lib.hid (impl_oldDayOf y 6 24 (fixed_valid y 6 24 hy (by omega) (by omega) (by omega) (by omega)))
  clear hy
  rw [show fd 4 y = Cal.num false y 6 24 from rfl]
  generalize Cal.num false y 6 24 = n at A
  go_enter Try.func128, Try.ntmps128
  go_wp2_with fail
  refine (A.out _).mono ?_
  rintro e w1 ⟨rfl, hb⟩
  go_wp2_with fail
  go_ret
  exact ⟨rfl, hb⟩

theorem impl_rule5 (y : Int) (hy : isY y) (w : World) : Calls Try.prog 129 #[.int .i64 y] w (It (fd 5 y) w) := by
  have A := Lib.hid (impl_oldDayOf y 6 29 (fixed_valid y 6 29 hy (by omega) (by omega) (by omega) (by omega)))
  clear hy
  rw [show fd 5 y = Cal.num false y 6 29 from rfl]
  generalize Cal.num false y 6 29 = n at A
  go_enter Try.func129, Try.ntmps129
  go_wp2_with fail
  refine (A.out _).mono ?_
  rintro e w1 ⟨rfl, hb⟩
  go_wp2_with fail
  go_ret
  exact ⟨rfl, hb⟩

theorem impl_rule6 (y : Int) (hy : isY y) (w : World) : Calls Try.prog 130 #[.int .i64 y] w (It (fd 6 y) w) := by
  have A := Lib.hid (impl_oldDayOf y 8 10 (fixed_valid y 8 10 hy (by omega) (by omega) (by omega) (by omega)))
  clear hy
  rw [show fd 6 y = Cal.num false y 8 10 from rfl]
  generalize Cal.num false y 8 10 = n at A
  go_enter Try.func130, Try.ntmps130
  go_wp2_with fail
  refine (A.out _).mono ?_
  rintro e w1 ⟨rfl, hb⟩
  go_wp2_with fail
  go_ret
  exact ⟨rfl, hb⟩

theorem impl_rule7 (y : Int) (hy : isY y) (w : World) : Calls Try.prog 131 #[.int .i64 y] w (It (fd 7 y) w) := by
  have A := Lib.hid (impl_oldDayOf y 8 15 (fixed_valid y 8 15 hy (by omega) (by omega) (by omega) (by omega)))
  clear hy
  rw [show fd 7 y = Cal.num false y 8 15 from rfl]
  generalize Cal.num false y 8 15 = n at A
  go_enter Try.func131, Try.ntmps131
  go_wp2_with fail
  refine (A.out _).mono ?_
  rintro e w1 ⟨rfl, hb⟩
  go_wp2_with fail
  go_ret
  exact ⟨rfl, hb⟩

theorem impl_rule8 (y : Int) (hy : isY y) (w : World) : Calls Try.prog 132 #[.int .i64 y] w (It (fd 8 y) w) := by
  have A := Lib.hid (impl_oldDayOf y 9 29 (fixed_valid y 9 29 hy (by omega) (by omega) (by omega) (by omega)))
  clear hy
  rw [show fd 8 y = Cal.num false y 9 29 from rfl]
  generalize Cal.num false y 9 29 = n at A
  go_enter Try.func132, Try.ntmps132
  go_wp2_with fail
  refine (A.out _).mono ?_
  rintro e w1 ⟨rfl, hb⟩
  go_wp2_with fail
  go_ret
  exact ⟨rfl, hb⟩

theorem impl_rule9 (y : Int) (hy : isY y) (w : World) : Calls Try.prog 133 #[.int .i64 y] w (It (fd 9 y) w) := by
  have A := Lib.hid (impl_oldDayOf y 11 1 (fixed_valid y 11 1 hy (by omega) (by omega) (by omega) (by omega)))
  clear hy
  rw [show fd 9 y = Cal.num false y 11 1 from rfl]
  generalize Cal.num false y 11 1 = n at A
  go_enter Try.func133, Try.ntmps133
  go_wp2_with fail
  refine (A.out _).mono ?_
  rintro e w1 ⟨rfl, hb⟩
  go_wp2_with fail
  go_ret
  exact ⟨rfl, hb⟩

theorem impl_rule10 (y : Int) (hy : isY y) (w : World) : Calls Try.prog 134 #[.int .i64 y] w (It (fd 10 y) w) := by
  have A := Lib.hid (impl_oldDayOf y 11 11 (fixed_valid y 11 11 hy (by omega) (by omega) (by omega) (by omega)))
  clear hy
  rw [show fd 10 y = Cal.num false y 11 11 from rfl]
  generalize Cal.num false y 11 11 = n at A
  go_enter Try.func134, Try.ntmps134
  go_wp2_with fail
  refine (A.out _).mono ?_
  rintro e w1 ⟨rfl, hb⟩
  go_wp2_with fail
  go_ret
  exact ⟨rfl, hb⟩

theorem impl_rule11 (y : Int) (hy : isY y) (w : World) : Calls Try.prog 135 #[.int .i64 y] w (It (fd 11 y) w) := by
  have A := Lib.hid (impl_oldDayOf y 11 30 (fixed_valid y 11 30 hy (by omega) (by omega) (by omega) (by omega)))
  clear hy
  rw [show fd 11 y = Cal.num false y 11 30 from rfl]
  generalize Cal.num false y 11 30 = n at A
  go_enter Try.func135, Try.ntmps135
  go_wp2_with fail
  refine (A.out _).mono ?_
  rintro e w1 ⟨rfl, hb⟩
  go_wp2_with fail
  go_ret
  exact ⟨rfl, hb⟩

theorem impl_rule12 (y : Int) (hy : isY y) (w : World) : Calls Try.prog 136 #[.int .i64 y] w (It (fd 12 y) w) := by
  have A := Lib.hid (impl_oldDayOf y 12 6 (fixed_valid y 12 6 hy (by omega) (by omega) (by omega) (by omega)))
  clear hy
  rw [show fd 12 y = Cal.num false y 12 6 from rfl]
  generalize Cal.num false y 12 6 = n at A
  go_enter Try.func136, Try.ntmps136
  go_wp2_with fail
  refine (A.out _).mono ?_
  rintro e w1 ⟨rfl, hb⟩
  go_wp2_with fail
  go_ret
  exact ⟨rfl, hb⟩

theorem impl_rule13 (y : Int) (hy : isY y) (w : World) : Calls Try.prog 137 #[.int .i64 y] w (It (fd 13 y) w) := by
  have A := Lib.hid (impl_oldDayOf y 12 25 (fixed_valid y 12 25 hy (by omega) (by omega) (by omega) (by omega)))
  clear hy
  rw [show fd 13 y = Cal.num false y 12 25 from rfl]
  generalize Cal.num false y 12 25 = n at A
  go_enter Try.func137, Try.ntmps137
  go_wp2_with fail
  refine (A.out _).mono ?_
  rintro e w1 ⟨rfl, hb⟩
  go_wp2_with fail
  go_ret
  exact ⟨rfl, hb⟩

theorem impl_rule14 (y : Int) (hy : isY y) (w : World) : Calls Try.prog 138 #[.int .i64 y] w (It (fd 14 y) w) := by
  have A := Lib.hid (impl_keptOld y hy)
  obtain ⟨b1, b2⟩ := oE_bd y hy
  clear hy
  rw [show fd 14 y = oE y - 46 from rfl]
  generalize oE y = n at A b1 b2
  go_enter Try.func138, Try.ntmps138
  go_wp2_with fail
  refine (A.out _).mono ?_
  rintro e w1 ⟨rfl, hb⟩
  go_wp2_with fail
  go_ret
  exact ⟨rfl, hb⟩

theorem impl_rule15 (y : Int) (hy : isY y) (w : World) : Calls Try.prog 139 #[.int .i64 y] w (It (fd 15 y) w) := by
  have A := Lib.hid (impl_keptOld y hy)
  obtain ⟨b1, b2⟩ := oE_bd y hy
  clear hy
  rw [show fd 15 y = oE y - 7 from rfl]
  generalize oE y = n at A b1 b2
  go_enter Try.func139, Try.ntmps139
  go_wp2_with fail
  refine (A.out _).mono ?_
  rintro e w1 ⟨rfl, hb⟩
  go_wp2_with fail
  go_ret
  exact ⟨rfl, hb⟩

theorem impl_rule16 (y : Int) (hy : isY y) (w : World) : Calls Try.prog 140 #[.int .i64 y] w (It (fd 16 y) w) := by
  have A := Lib.hid (impl_keptOld y hy)
  obtain ⟨b1, b2⟩ := oE_bd y hy
  clear hy
  rw [show fd 16 y = oE y from rfl]
  generalize oE y = n at A b1 b2
  go_enter Try.func140, Try.ntmps140
  go_wp2_with fail
  refine (A.out _).mono ?_
  rintro e w1 ⟨rfl, hb⟩
  go_wp2_with fail
  go_ret
  exact ⟨rfl, hb⟩

theorem impl_rule17 (y : Int) (hy : isY y) (w : World) : Calls Try.prog 141 #[.int .i64 y] w (It (fd 17 y) w) := by
  have A := Lib.hid (impl_keptOld y hy)
  obtain ⟨b1, b2⟩ := oE_bd y hy
  clear hy
  rw [show fd 17 y = oE y + 39 from rfl]
  generalize oE y = n at A b1 b2
  go_enter Try.func141, Try.ntmps141
  go_wp2_with fail
  refine (A.out _).mono ?_
  rintro e w1 ⟨rfl, hb⟩
  go_wp2_with fail
  go_ret
  exact ⟨rfl, hb⟩

theorem impl_rule18 (y : Int) (hy : isY y) (w : World) : Calls Try.prog 142 #[.int .i64 y] w (It (fd 18 y) w) := by
  have A := Lib.hid (impl_keptOld y hy)
  obtain ⟨b1, b2⟩ := oE_bd y hy
  clear hy
  rw [show fd 18 y = oE y + 49 from rfl]
  generalize oE y = n at A b1 b2
  go_enter Try.func142, Try.ntmps142
  go_wp2_with fail
  refine (A.out _).mono ?_
  rintro e w1 ⟨rfl, hb⟩
  go_wp2_with fail
  go_ret
  exact ⟨rfl, hb⟩

theorem impl_rule19 (y : Int) (hy : isY y) (w : World) : Calls Try.prog 143 #[.int .i64 y] w (It (fd 19 y) w) := by
  have A := Lib.hid (impl_keptOld y hy)
  obtain ⟨b1, b2⟩ := oE_bd y hy
  clear hy
  rw [show fd 19 y = oE y + 56 from rfl]
  generalize oE y = n at A b1 b2
  go_enter Try.func143, Try.ntmps143
  go_wp2_with fail
  refine (A.out _).mono ?_
  rintro e w1 ⟨rfl, hb⟩
  go_wp2_with fail
  go_ret
  exact ⟨rfl, hb⟩

/-- The function of the rule with a number. -/
def ruF (j : Nat) : Nat := if j = 0 then 124 else if j = 1 then 125 else if j = 2 then 126 else if j = 3 then 127 else if j = 4 then 128 else if j = 5 then 129 else if j = 6 then 130 else if j = 7 then 131 else if j = 8 then 132 else if j = 9 then 133 else if j = 10 then 134 else if j = 11 then 135 else if j = 12 then 136 else if j = 13 then 137 else if j = 14 then 138 else if j = 15 then 139 else if j = 16 then 140 else if j = 17 then 141 else if j = 18 then 142 else 143
theorem impl_rule (j : Nat) (hj : j < 20) (y : Int) (hy : isY y) (w : World) : Calls Try.prog (ruF j) #[.int .i64 y] w (It (fd j y) w) := by
  have h : j = 0 ∨ j = 1 ∨ j = 2 ∨ j = 3 ∨ j = 4 ∨ j = 5 ∨ j = 6 ∨ j = 7 ∨ j = 8 ∨ j = 9 ∨ j = 10 ∨ j = 11 ∨ j = 12 ∨ j = 13 ∨ j = 14 ∨ j = 15 ∨ j = 16 ∨ j = 17 ∨ j = 18 ∨ j = 19 := by omega
  rcases h with rfl | rfl | rfl | rfl | rfl | rfl | rfl | rfl | rfl | rfl | rfl | rfl | rfl | rfl | rfl | rfl | rfl | rfl | rfl | rfl
  · exact impl_rule0 y hy w
  · exact impl_rule1 y hy w
  · exact impl_rule2 y hy w
  · exact impl_rule3 y hy w
  · exact impl_rule4 y hy w
  · exact impl_rule5 y hy w
  · exact impl_rule6 y hy w
  · exact impl_rule7 y hy w
  · exact impl_rule8 y hy w
  · exact impl_rule9 y hy w
  · exact impl_rule10 y hy w
  · exact impl_rule11 y hy w
  · exact impl_rule12 y hy w
  · exact impl_rule13 y hy w
  · exact impl_rule14 y hy w
  · exact impl_rule15 y hy w
  · exact impl_rule16 y hy w
  · exact impl_rule17 y hy w
  · exact impl_rule18 y hy w
  · exact impl_rule19 y hy w

theorem ruF_enters (j : Nat) (hj : j < 20) : ∀ (args : Array Value) (w : World), (callFunc (ruF j) args).run Try.prog w = .ok (.enter (ruF j) args) w := by
  have h : j = 0 ∨ j = 1 ∨ j = 2 ∨ j = 3 ∨ j = 4 ∨ j = 5 ∨ j = 6 ∨ j = 7 ∨ j = 8 ∨ j = 9 ∨ j = 10 ∨ j = 11 ∨ j = 12 ∨ j = 13 ∨ j = 14 ∨ j = 15 ∨ j = 16 ∨ j = 17 ∨ j = 18 ∨ j = 19 := by omega
  rcases h with rfl | rfl | rfl | rfl | rfl | rfl | rfl | rfl | rfl | rfl | rfl | rfl | rfl | rfl | rfl | rfl | rfl | rfl | rfl | rfl
  · exact enters_of Try.func124 (by kernel_rfl) rfl
  · exact enters_of Try.func125 (by kernel_rfl) rfl
  · exact enters_of Try.func126 (by kernel_rfl) rfl
  · exact enters_of Try.func127 (by kernel_rfl) rfl
  · exact enters_of Try.func128 (by kernel_rfl) rfl
  · exact enters_of Try.func129 (by kernel_rfl) rfl
  · exact enters_of Try.func130 (by kernel_rfl) rfl
  · exact enters_of Try.func131 (by kernel_rfl) rfl
  · exact enters_of Try.func132 (by kernel_rfl) rfl
  · exact enters_of Try.func133 (by kernel_rfl) rfl
  · exact enters_of Try.func134 (by kernel_rfl) rfl
  · exact enters_of Try.func135 (by kernel_rfl) rfl
  · exact enters_of Try.func136 (by kernel_rfl) rfl
  · exact enters_of Try.func137 (by kernel_rfl) rfl
  · exact enters_of Try.func138 (by kernel_rfl) rfl
  · exact enters_of Try.func139 (by kernel_rfl) rfl
  · exact enters_of Try.func140 (by kernel_rfl) rfl
  · exact enters_of Try.func141 (by kernel_rfl) rfl
  · exact enters_of Try.func142 (by kernel_rfl) rfl
  · exact enters_of Try.func143 (by kernel_rfl) rfl

/-- The array of the rules: a name and a function each. -/
def ruV : Array Value := #[Value.string { data := #[99, 105, 114, 99, 117, 109, 99, 105, 115, 105, 111, 110] }, .func (.func 124) #[] #[], Value.string { data := #[101, 112, 105, 112, 104, 97, 110, 121] }, .func (.func 125) #[] #[], Value.string { data := #[99, 97, 110, 100, 108, 101, 109, 97, 115] }, .func (.func 126) #[] #[], Value.string { data := #[97, 110, 110, 117, 110, 99, 105, 97, 116, 105, 111, 110] }, .func (.func 127) #[] #[], Value.string { data := #[106, 111, 104, 110] }, .func (.func 128) #[] #[], Value.string { data := #[112, 101, 116, 101, 114] }, .func (.func 129) #[] #[], Value.string { data := #[108, 97, 117, 114, 101, 110, 99, 101] }, .func (.func 130) #[] #[], Value.string { data := #[97, 115, 115, 117, 109, 112, 116, 105, 111, 110] }, .func (.func 131) #[] #[], Value.string { data := #[109, 105, 99, 104, 97, 101, 108] }, .func (.func 132) #[] #[], Value.string { data := #[97, 108, 108, 115, 97, 105, 110, 116, 115] }, .func (.func 133) #[] #[], Value.string { data := #[109, 97, 114, 116, 105, 110] }, .func (.func 134) #[] #[], Value.string { data := #[97, 110, 100, 114, 101, 119] }, .func (.func 135) #[] #[], Value.string { data := #[110, 105, 99, 104, 111, 108, 97, 115] }, .func (.func 136) #[] #[], Value.string { data := #[99, 104, 114, 105, 115, 116, 109, 97, 115] }, .func (.func 137) #[] #[], Value.string { data := #[97, 115, 104, 101, 115] }, .func (.func 138) #[] #[], Value.string { data := #[112, 97, 108, 109, 115] }, .func (.func 139) #[] #[], Value.string { data := #[101, 97, 115, 116, 101, 114] }, .func (.func 140) #[] #[], Value.string { data := #[97, 115, 99, 101, 110, 115, 105, 111, 110] }, .func (.func 141) #[] #[], Value.string { data := #[112, 101, 110, 116, 101, 99, 111, 115, 116] }, .func (.func 142) #[] #[], Value.string { data := #[116, 114, 105, 110, 105, 116, 121] }, .func (.func 143) #[] #[]]
/-- Its zero value. -/
def ruZ : Array Value := #[.string { data := #[] }, .nilFunc, .string { data := #[] }, .nilFunc, .string { data := #[] }, .nilFunc, .string { data := #[] }, .nilFunc, .string { data := #[] }, .nilFunc, .string { data := #[] }, .nilFunc, .string { data := #[] }, .nilFunc, .string { data := #[] }, .nilFunc, .string { data := #[] }, .nilFunc, .string { data := #[] }, .nilFunc, .string { data := #[] }, .nilFunc, .string { data := #[] }, .nilFunc, .string { data := #[] }, .nilFunc, .string { data := #[] }, .nilFunc, .string { data := #[] }, .nilFunc, .string { data := #[] }, .nilFunc, .string { data := #[] }, .nilFunc, .string { data := #[] }, .nilFunc, .string { data := #[] }, .nilFunc, .string { data := #[] }, .nilFunc]
theorem ruV_get (j : Nat) (hj : j < 20) : ruV[2 * j]? = some (.string (bs (nmL j))) ∧ ruV[2 * j + 1]? = some (.func (.func (ruF j)) #[] #[]) := by
  have h : j = 0 ∨ j = 1 ∨ j = 2 ∨ j = 3 ∨ j = 4 ∨ j = 5 ∨ j = 6 ∨ j = 7 ∨ j = 8 ∨ j = 9 ∨ j = 10 ∨ j = 11 ∨ j = 12 ∨ j = 13 ∨ j = 14 ∨ j = 15 ∨ j = 16 ∨ j = 17 ∨ j = 18 ∨ j = 19 := by omega
  rcases h with rfl | rfl | rfl | rfl | rfl | rfl | rfl | rfl | rfl | rfl | rfl | rfl | rfl | rfl | rfl | rfl | rfl | rfl | rfl | rfl
  · exact ⟨rfl, rfl⟩
  · exact ⟨rfl, rfl⟩
  · exact ⟨rfl, rfl⟩
  · exact ⟨rfl, rfl⟩
  · exact ⟨rfl, rfl⟩
  · exact ⟨rfl, rfl⟩
  · exact ⟨rfl, rfl⟩
  · exact ⟨rfl, rfl⟩
  · exact ⟨rfl, rfl⟩
  · exact ⟨rfl, rfl⟩
  · exact ⟨rfl, rfl⟩
  · exact ⟨rfl, rfl⟩
  · exact ⟨rfl, rfl⟩
  · exact ⟨rfl, rfl⟩
  · exact ⟨rfl, rfl⟩
  · exact ⟨rfl, rfl⟩
  · exact ⟨rfl, rfl⟩
  · exact ⟨rfl, rfl⟩
  · exact ⟨rfl, rfl⟩
  · exact ⟨rfl, rfl⟩
theorem ruI0 (w : World) : (Instr.index 80 (.agg ruV) (.int .i64 ((0 : Nat) : Int))).run Try.prog w = .ok (.agg #[.string (bs (nmL ((0 : Nat) : Int))), .func (.func (ruF 0)) #[] #[]]) w := by kernel_rfl
theorem ruI1 (w : World) : (Instr.index 80 (.agg ruV) (.int .i64 ((1 : Nat) : Int))).run Try.prog w = .ok (.agg #[.string (bs (nmL ((1 : Nat) : Int))), .func (.func (ruF 1)) #[] #[]]) w := by kernel_rfl
theorem ruI2 (w : World) : (Instr.index 80 (.agg ruV) (.int .i64 ((2 : Nat) : Int))).run Try.prog w = .ok (.agg #[.string (bs (nmL ((2 : Nat) : Int))), .func (.func (ruF 2)) #[] #[]]) w := by kernel_rfl
theorem ruI3 (w : World) : (Instr.index 80 (.agg ruV) (.int .i64 ((3 : Nat) : Int))).run Try.prog w = .ok (.agg #[.string (bs (nmL ((3 : Nat) : Int))), .func (.func (ruF 3)) #[] #[]]) w := by kernel_rfl
theorem ruI4 (w : World) : (Instr.index 80 (.agg ruV) (.int .i64 ((4 : Nat) : Int))).run Try.prog w = .ok (.agg #[.string (bs (nmL ((4 : Nat) : Int))), .func (.func (ruF 4)) #[] #[]]) w := by kernel_rfl
theorem ruI5 (w : World) : (Instr.index 80 (.agg ruV) (.int .i64 ((5 : Nat) : Int))).run Try.prog w = .ok (.agg #[.string (bs (nmL ((5 : Nat) : Int))), .func (.func (ruF 5)) #[] #[]]) w := by kernel_rfl
theorem ruI6 (w : World) : (Instr.index 80 (.agg ruV) (.int .i64 ((6 : Nat) : Int))).run Try.prog w = .ok (.agg #[.string (bs (nmL ((6 : Nat) : Int))), .func (.func (ruF 6)) #[] #[]]) w := by kernel_rfl
theorem ruI7 (w : World) : (Instr.index 80 (.agg ruV) (.int .i64 ((7 : Nat) : Int))).run Try.prog w = .ok (.agg #[.string (bs (nmL ((7 : Nat) : Int))), .func (.func (ruF 7)) #[] #[]]) w := by kernel_rfl
theorem ruI8 (w : World) : (Instr.index 80 (.agg ruV) (.int .i64 ((8 : Nat) : Int))).run Try.prog w = .ok (.agg #[.string (bs (nmL ((8 : Nat) : Int))), .func (.func (ruF 8)) #[] #[]]) w := by kernel_rfl
theorem ruI9 (w : World) : (Instr.index 80 (.agg ruV) (.int .i64 ((9 : Nat) : Int))).run Try.prog w = .ok (.agg #[.string (bs (nmL ((9 : Nat) : Int))), .func (.func (ruF 9)) #[] #[]]) w := by kernel_rfl
theorem ruI10 (w : World) : (Instr.index 80 (.agg ruV) (.int .i64 ((10 : Nat) : Int))).run Try.prog w = .ok (.agg #[.string (bs (nmL ((10 : Nat) : Int))), .func (.func (ruF 10)) #[] #[]]) w := by kernel_rfl
theorem ruI11 (w : World) : (Instr.index 80 (.agg ruV) (.int .i64 ((11 : Nat) : Int))).run Try.prog w = .ok (.agg #[.string (bs (nmL ((11 : Nat) : Int))), .func (.func (ruF 11)) #[] #[]]) w := by kernel_rfl
theorem ruI12 (w : World) : (Instr.index 80 (.agg ruV) (.int .i64 ((12 : Nat) : Int))).run Try.prog w = .ok (.agg #[.string (bs (nmL ((12 : Nat) : Int))), .func (.func (ruF 12)) #[] #[]]) w := by kernel_rfl
theorem ruI13 (w : World) : (Instr.index 80 (.agg ruV) (.int .i64 ((13 : Nat) : Int))).run Try.prog w = .ok (.agg #[.string (bs (nmL ((13 : Nat) : Int))), .func (.func (ruF 13)) #[] #[]]) w := by kernel_rfl
theorem ruI14 (w : World) : (Instr.index 80 (.agg ruV) (.int .i64 ((14 : Nat) : Int))).run Try.prog w = .ok (.agg #[.string (bs (nmL ((14 : Nat) : Int))), .func (.func (ruF 14)) #[] #[]]) w := by kernel_rfl
theorem ruI15 (w : World) : (Instr.index 80 (.agg ruV) (.int .i64 ((15 : Nat) : Int))).run Try.prog w = .ok (.agg #[.string (bs (nmL ((15 : Nat) : Int))), .func (.func (ruF 15)) #[] #[]]) w := by kernel_rfl
theorem ruI16 (w : World) : (Instr.index 80 (.agg ruV) (.int .i64 ((16 : Nat) : Int))).run Try.prog w = .ok (.agg #[.string (bs (nmL ((16 : Nat) : Int))), .func (.func (ruF 16)) #[] #[]]) w := by kernel_rfl
theorem ruI17 (w : World) : (Instr.index 80 (.agg ruV) (.int .i64 ((17 : Nat) : Int))).run Try.prog w = .ok (.agg #[.string (bs (nmL ((17 : Nat) : Int))), .func (.func (ruF 17)) #[] #[]]) w := by kernel_rfl
theorem ruI18 (w : World) : (Instr.index 80 (.agg ruV) (.int .i64 ((18 : Nat) : Int))).run Try.prog w = .ok (.agg #[.string (bs (nmL ((18 : Nat) : Int))), .func (.func (ruF 18)) #[] #[]]) w := by kernel_rfl
theorem ruI19 (w : World) : (Instr.index 80 (.agg ruV) (.int .i64 ((19 : Nat) : Int))).run Try.prog w = .ok (.agg #[.string (bs (nmL ((19 : Nat) : Int))), .func (.func (ruF 19)) #[] #[]]) w := by kernel_rfl
theorem ruV_index (j : Nat) (hj : j < 20) (w : World) : (Instr.index 80 (.agg ruV) (.int .i64 j)).run Try.prog w = .ok (.agg #[.string (bs (nmL j)), .func (.func (ruF j)) #[] #[]]) w := by
  have h : j = 0 ∨ j = 1 ∨ j = 2 ∨ j = 3 ∨ j = 4 ∨ j = 5 ∨ j = 6 ∨ j = 7 ∨ j = 8 ∨ j = 9 ∨ j = 10 ∨ j = 11 ∨ j = 12 ∨ j = 13 ∨ j = 14 ∨ j = 15 ∨ j = 16 ∨ j = 17 ∨ j = 18 ∨ j = 19 := by omega
  rcases h with rfl | rfl | rfl | rfl | rfl | rfl | rfl | rfl | rfl | rfl | rfl | rfl | rfl | rfl | rfl | rfl | rfl | rfl | rfl | rfl
  · exact ruI0 w
  · exact ruI1 w
  · exact ruI2 w
  · exact ruI3 w
  · exact ruI4 w
  · exact ruI5 w
  · exact ruI6 w
  · exact ruI7 w
  · exact ruI8 w
  · exact ruI9 w
  · exact ruI10 w
  · exact ruI11 w
  · exact ruI12 w
  · exact ruI13 w
  · exact ruI14 w
  · exact ruI15 w
  · exact ruI16 w
  · exact ruI17 w
  · exact ruI18 w
  · exact ruI19 w

end Go.Proofs.Ytegoiiconhgjbaa.Fea
