/- The walk of the law on the reading of a date's text. -/
import Derived.Test.YtkmkfpglnmpnmaaLawD
namespace Go.Proofs.Ytkmkfpglnmpnmaa
open Go.RowKit

set_option maxHeartbeats 800000 in
theorem walk_FnExactReadDate (s : ByteArray) (hs : s.size ≤ maxLen) (w : World) : Calls Try.prog 13 #[.string s] w (Bl true w) := by
  obtain ⟨l, rfl⟩ : ∃ l, s = str l := ⟨s.data.toList, by simp [str]⟩
  have sz := str_size l
  rw [sz] at hs
  unfold maxLen at hs
  by_cases hbig : 1048576 < l.length
  · have hb : (1048576 : Int) < (l.length : Int) := by omega
    go_enter Try.func13, Try.ntmps13
    go_wp2_with fail
    go_ret
    exact ⟨rfl, Below.refl _ _⟩
  · have hb : ¬ (1048576 : Int) < (l.length : Int) := by omega
    have hl : l.length ≤ 2000000 := by omega
    clear hbig
    go_enter Try.func13, Try.ntmps13
    go_wp2_with fail
    refine (spec_ReadDate l hl _).mono ?_
    rintro e w1 ⟨y, m, d, c, rfl, hd, hb1⟩
    have HD := Lib.hid hd
    clear hd
    go_wp2_with fail
    refine (impl_ReadDate l hl _).mono ?_
    rintro e w2 ⟨y', m', d', c', rfl, hd', hb2⟩
    obtain ⟨rfl, rfl, rfl, rfl⟩ := HD.out.uniq hd'
    clear HD hd'
    have q1 := (Blk.new w1 25 #[.int .i64 y, .int .i64 m, .int .i64 d]).below hb2 (by simp)
    obtain ⟨c0, c1, c2⟩ := (q1.alloc (.cells #[.int .i64 y, .int .i64 m, .int .i64 d] 25)).three
    go_wp2_with fail
    refine (laws_eqDate y m d y m d _ rfl rfl rfl).mono ?_
    rintro e w3 ⟨rfl, hb3⟩
    go_wp2_with fail
    go_ret
    have z1 := hb1.size
    have z2 := hb2.size
    simp at z2
    exact ⟨rfl, ((((hb1.alloc hb1.size _).trans (hb2.mono (by simp; omega))).alloc (by omega) _).trans (hb3.mono (by simp; omega)))⟩

end Go.Proofs.Ytkmkfpglnmpnmaa
