/- The walks of stage 9's exact laws (over NumI: impl's contracts). -/
import Derived.Test.YtiimoejjokfkfaaDoorNumI
namespace Go.Proofs.YtiimoejjokfkfaaDoor.Num
open Go.RowKit

theorem walk_FnExactCountForms (n : Int) (_f : (Lit.int .i64 n).wf = true) (w : World) (he : Mx w) : Calls Tryd.prog 6 #[.int .i64 n] w (Bl true w) := by
  have A := Lib.hid (spec_CountForms n)
  have B := Lib.hid (fun w h => impl_CountForms n w h)
  have HE := Lib.hid he
  clear he
  generalize cfN n = a at A B
  generalize cfE n = b at A B
  go_enter Tryd.func6, Tryd.ntmps6
  go_wp2_with fail
  refine (A.out _).mono ?_
  rintro e w1 ⟨rfl, hb⟩
  go_wp2_with fail
  refine (B.out _ (HE.out.below hb)).mono ?_
  rintro e w2 ⟨rfl, hb2⟩
  go_wp2_with fail
  go_ret
  exact ⟨rfl, hb.trans (hb2.mono hb.size)⟩

theorem walk_FnExactReadNumeral (s : ByteArray) (_hs : s.size ≤ maxLen) (w : World) (he : Mx w) : Calls Tryd.prog 4 #[.string s] w (Bl true w) := by
  obtain ⟨l, rfl⟩ : ∃ l, s = str l := ⟨s.data.toList, by simp [str]⟩
  have sz := str_size l
  by_cases hl : (1048576 : Int) < (l.length : Int)
  · go_enter Tryd.func4, Tryd.ntmps4
    go_wp2_with fail
    go_ret
    exact ⟨rfl, Below.refl _ _⟩
  · have A := Lib.hid (spec_ReadNumeral l (by omega))
    have B := Lib.hid (fun w h => impl_ReadNumeral l (by omega) w h)
    have HE := Lib.hid he
    clear he
    generalize rdV l = a at A B
    generalize rdB l = c at A B
    go_enter Tryd.func4, Tryd.ntmps4
    go_wp2_with fail
    refine (A.out _).mono ?_
    rintro e w1 ⟨k, b, rfl, ⟨rfl, rfl⟩, hb⟩
    go_wp2_with fail
    refine (B.out _ (HE.out.below hb)).mono ?_
    rintro e w2 ⟨k', b', rfl, ⟨rfl, rfl⟩, hb2⟩
    go_wp2_with fail
    go_ret
    exact ⟨rfl, hb.trans (hb2.mono hb.size)⟩

theorem walk_FnExactReadNumber (s : ByteArray) (_hs : s.size ≤ maxLen) (w : World) (he : Env w) : Calls Tryd.prog 5 #[.string s] w (Bl true w) := by
  obtain ⟨l, rfl⟩ : ∃ l, s = str l := ⟨s.data.toList, by simp [str]⟩
  have sz := str_size l
  by_cases hl : (1048576 : Int) < (l.length : Int)
  · go_enter Tryd.func5, Tryd.ntmps5
    go_wp2_with fail
    go_ret
    exact ⟨rfl, Below.refl _ _⟩
  · have A := Lib.hid (spec_ReadNumber l (by omega))
    have B := Lib.hid (fun w h => impl_ReadNumber l (by omega) w h)
    have HE := Lib.hid he
    clear he
    generalize rnV l = a at A B
    generalize rnB l = c at A B
    go_enter Tryd.func5, Tryd.ntmps5
    go_wp2_with fail
    refine (A.out _).mono ?_
    rintro e w1 ⟨k, b, rfl, ⟨rfl, rfl⟩, hb⟩
    go_wp2_with fail
    refine (B.out _ (HE.out.below hb)).mono ?_
    rintro e w2 ⟨k', b', rfl, ⟨rfl, rfl⟩, hb2⟩
    go_wp2_with fail
    go_ret
    exact ⟨rfl, hb.trans (hb2.mono hb.size)⟩

end Go.Proofs.YtiimoejjokfkfaaDoor.Num
