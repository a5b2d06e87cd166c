/- Contracts of spec's draws of numerals' texts, of words for ordinals and of numbers' texts. -/
import Derived.Test.YtiimoejjokfkfaaDoorNumE
namespace Go.Proofs.YtiimoejjokfkfaaDoor.Num
open Go.RowKit

theorem ord_len (n : Int) : (ordL n).length ≤ 20 := by
  unfold ordL
  split
  · unfold ordN
    have h1 := words_len (n.toNat - 1)
    have h2 := words_len (n.toNat - 21)
    repeat' split
    all_goals simp
    all_goals omega
  · simp
theorem str_of (s : ByteArray) : s = str s.data.toList := by simp [str]

set_option maxHeartbeats 1000000 in
theorem spec_DrawReadNumeral (A : Option Addr) (len cap : Nat) (zs : List Int) (W w : World) (hrow : IsRow .u8 W A len cap zs) (hW : Below W.heap.size W w) :
    Calls Tryd.prog 13 #[.slice A len cap] w (DrawnStr 300 w) := by
  go_enter Tryd.func13, Tryd.ntmps13
  go_wp2_with fail
  refine (spec_from A len cap zs W _ hrow hW).mono ?_
  rintro e w1 ⟨g, rfl, hg, hs, hb⟩
  go_wp2_with fail
  refine (spec_drawWord A len cap zs W _ g hs).mono ?_
  rintro e w2 ⟨s, rfl, hsz, s2, k2⟩
  have b2 := hb.trans (only_below k2 hg hb.size)
  go_wp2_with fail
  go_ret
  exact ⟨s.data.toList, by simp [str], Nat.le_trans (by simpa using hsz) (by omega), b2⟩

set_option maxHeartbeats 1000000 in
theorem spec_DrawReadOrdinal (A : Option Addr) (len cap : Nat) (zs : List Int) (W w : World) (hrow : IsRow .u8 W A len cap zs) (hW : Below W.heap.size W w) :
    Calls Tryd.prog 18 #[.slice A len cap] w (DrawnStr 300 w) := by
  go_enter Tryd.func18, Tryd.ntmps18
  go_wp2_with fail
  refine (spec_from A len cap zs W _ hrow hW).mono ?_
  rintro e w1 ⟨g, rfl, hg, hs, hb⟩
  go_wp2_with fail
  refine (spec_next A len cap zs W _ g 31 hs).mono ?_
  rintro e w2 ⟨x, rfl, a2, c2, s2, k2⟩
  have b2 := hb.trans (only_below k2 hg hb.size)
  have c3 : x < 31 := by omega
  have O := Lib.hid (spec_OrdinalText (1 + x))
  have hl := ord_len (1 + x)
  generalize ordL (1 + x) = l at O hl
  clear c2
  go_wp2_with fail
  refine (O.out _).mono ?_
  rintro e w3 ⟨rfl, hb3⟩
  have b3 := below_step b2 hb3
  have s3 := s2.below hb3
  clear O
  go_wp2_with fail
  refine (spec_next A len cap zs W _ g 4 s3).mono ?_
  rintro e w4 ⟨x4, rfl, a4, c4, s4, k4⟩
  have b4 := b3.trans (only_below k4 hg b3.size)
  by_cases h0 : x4 = 0
  · subst h0
    go_wp2_with fail
    refine (spec_damage A len cap zs W _ g l (by omega) s4).mono ?_
    rintro e w5 ⟨s, rfl, hsz, s5, k5⟩
    have b5 := b4.trans (only_below k5 hg b4.size)
    go_wp2_with fail
    go_ret
    exact ⟨s.data.toList, by simp [str], by simpa using hsz, b5⟩
  · have e0 : (x4 == 0) = false := by simpa using h0
    clear h0
    go_wp2_with fail
    go_ret
    exact ⟨l, rfl, by omega, b4⟩

set_option maxHeartbeats 1000000 in
theorem spec_DrawReadNumber (A : Option Addr) (len cap : Nat) (zs : List Int) (W w : World) (hrow : IsRow .u8 W A len cap zs) (hW : Below W.heap.size W w) :
    Calls Tryd.prog 21 #[.slice A len cap] w (DrawnStr 300 w) := by
  go_enter Tryd.func21, Tryd.ntmps21
  go_wp2_with fail
  refine (spec_from A len cap zs W _ hrow hW).mono ?_
  rintro e w1 ⟨g, rfl, hg, hs, hb⟩
  go_wp2_with fail
  refine (spec_next A len cap zs W _ g 2 hs).mono ?_
  rintro e w2 ⟨x, rfl, a2, c2, s2, k2⟩
  have b2 := hb.trans (only_below k2 hg hb.size)
  clear c2
  by_cases h0 : x = 0
  · subst h0
    go_wp2_with fail
    refine (spec_drawNumber A len cap zs W _ g s2).mono ?_
    rintro e w3 ⟨n, rfl, ⟨n1, n2⟩, s3, k3⟩
    have b3 := b2.trans (only_below k3 hg b2.size)
    go_wp2_with fail
    · refine (spec_dec n (by omega) (by omega) _).mono ?_
      have hl := Txt.dec_length n
      rintro e w4 ⟨rfl, hb4⟩
      generalize Txt.dec n = l at *
      have b4 := below_step b3 hb4
      have s4 := s3.below hb4
      go_wp2_with fail
      refine (spec_damage A len cap zs W _ g l (by omega) s4).mono ?_
      rintro e w5 ⟨s, rfl, hsz, s5, k5⟩
      have b5 := b4.trans (only_below k5 hg b4.size)
      go_wp2_with fail
      go_ret
      exact ⟨s.data.toList, by simp [str], by simpa using hsz, b5⟩
    · refine (spec_dec 0 (by omega) (by omega) _).mono ?_
      have hl := Txt.dec_length 0
      rintro e w4 ⟨rfl, hb4⟩
      generalize Txt.dec 0 = l at *
      have b4 := below_step b3 hb4
      have s4 := s3.below hb4
      go_wp2_with fail
      refine (spec_damage A len cap zs W _ g l (by omega) s4).mono ?_
      rintro e w5 ⟨s, rfl, hsz, s5, k5⟩
      have b5 := b4.trans (only_below k5 hg b4.size)
      go_wp2_with fail
      go_ret
      exact ⟨s.data.toList, by simp [str], by simpa using hsz, b5⟩
  · have e0 : (x == 0) = false := by simpa using h0
    clear h0
    go_wp2_with fail
    refine (spec_drawWord A len cap zs W _ g s2).mono ?_
    rintro e w3 ⟨s, rfl, hsz, s3, k3⟩
    have b3 := b2.trans (only_below k3 hg b2.size)
    go_wp2_with fail
    go_ret
    exact ⟨s.data.toList, by simp [str], Nat.le_trans (by simpa using hsz) (by omega), b3⟩

end Go.Proofs.YtiimoejjokfkfaaDoor.Num
