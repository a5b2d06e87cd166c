/- The walks of stage 9's exact laws (over NumI: impl's contracts). -/
import Derived.Test.YtiimoejjokfkfaaNumI
namespace Go.Proofs.Ytiimoejjokfkfaa.Num
open Go.RowKit

theorem walk_FnExactNumeralText (n : Int) (_f : (Lit.int .i64 n).wf = true) (w : World) : Calls Try.prog 3 #[.int .i64 n] w (Bl true w) := by
  have A := Lib.hid (spec_NumeralText n)
  have B := Lib.hid (impl_NumeralText n)
  generalize ntL n = a at A B
  go_enter Try.func3, Try.ntmps3
  go_wp2_with fail
  refine (A.out _).mono ?_
  rintro e w1 ⟨rfl, hb⟩
  go_wp2_with fail
  refine (B.out _).mono ?_
  rintro e w2 ⟨rfl, hb2⟩
  go_wp2_with fail
  go_ret
  exact ⟨rfl, hb.trans (hb2.mono hb.size)⟩

theorem walk_FnExactOldNumeral (n : Int) (_f : (Lit.int .i64 n).wf = true) (w : World) : Calls Try.prog 4 #[.int .i64 n] w (Bl true w) := by
  have A := Lib.hid (spec_OldNumeral n)
  have B := Lib.hid (impl_OldNumeral n)
  generalize onL n = a at A B
  go_enter Try.func4, Try.ntmps4
  go_wp2_with fail
  refine (A.out _).mono ?_
  rintro e w1 ⟨rfl, hb⟩
  go_wp2_with fail
  refine (B.out _).mono ?_
  rintro e w2 ⟨rfl, hb2⟩
  go_wp2_with fail
  go_ret
  exact ⟨rfl, hb.trans (hb2.mono hb.size)⟩

theorem walk_FnExactOrdinalText (n : Int) (_f : (Lit.int .i64 n).wf = true) (w : World) : Calls Try.prog 5 #[.int .i64 n] w (Bl true w) := by
  have A := Lib.hid (spec_OrdinalText n)
  have B := Lib.hid (impl_OrdinalText n)
  generalize ordL n = a at A B
  go_enter Try.func5, Try.ntmps5
  go_wp2_with fail
  refine (A.out _).mono ?_
  rintro e w1 ⟨rfl, hb⟩
  go_wp2_with fail
  refine (B.out _).mono ?_
  rintro e w2 ⟨rfl, hb2⟩
  go_wp2_with fail
  go_ret
  exact ⟨rfl, hb.trans (hb2.mono hb.size)⟩

theorem walk_FnExactReadOrdinal (s : ByteArray) (_hs : s.size ≤ maxLen) (w : World) : Calls Try.prog 6 #[.string s] w (Bl true w) := by
  have A := Lib.hid (spec_ReadOrdinal s)
  have B := Lib.hid (impl_ReadOrdinal s)
  by_cases hl : (1048576 : Int) < (s.size : Int)
  · go_enter Try.func6, Try.ntmps6
    go_wp2_with fail
    go_ret
    exact ⟨rfl, Below.refl _ _⟩
  · go_enter Try.func6, Try.ntmps6
    go_wp2_with fail
    refine (A.out _).mono ?_
    rintro e w1 ⟨k, b, rfl, h1, hb⟩
    go_wp2_with fail
    refine (B.out _).mono ?_
    rintro e w2 ⟨k', b', rfl, h2, hb2⟩
    obtain ⟨rfl, rfl⟩ := h1.uniq h2
    clear h1 h2
    go_wp2_with fail
    go_ret
    exact ⟨rfl, hb.trans (hb2.mono hb.size)⟩

end Go.Proofs.Ytiimoejjokfkfaa.Num
