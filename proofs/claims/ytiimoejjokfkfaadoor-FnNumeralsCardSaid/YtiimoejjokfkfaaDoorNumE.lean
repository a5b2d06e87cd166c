/- Contracts of spec's draws of numerals, of words for ordinals and of numbers' texts. -/
import Derived.Test.YtiimoejjokfkfaaDoorNumP
import Derived.Test.YtiimoejjokfkfaaDoorNumC
import Derived.Test.YtiimoejjokfkfaaDoorNumD
import Derived.Test.YtiimoejjokfkfaaDoorDamage
namespace Go.Proofs.YtiimoejjokfkfaaDoor.Num
open Go.RowKit

def bits : Array Value := #[.string ⟨#[105]⟩, .string ⟨#[106]⟩, .string ⟨#[118]⟩, .string ⟨#[117]⟩, .string ⟨#[120]⟩, .string ⟨#[99]⟩, .string ⟨#[113]⟩, .string ⟨#[]⟩]
theorem bits_at (j : Nat) (h : j < 8) : ∃ t : ByteArray, bits[j]? = some (.string t) ∧ t.size ≤ 1 := by
  have : j = 0 ∨ j = 1 ∨ j = 2 ∨ j = 3 ∨ j = 4 ∨ j = 5 ∨ j = 6 ∨ j = 7 := by omega
  rcases this with rfl | rfl | rfl | rfl | rfl | rfl | rfl | rfl
  · exact ⟨_, rfl, Nat.le_refl 1⟩
  · exact ⟨_, rfl, Nat.le_refl 1⟩
  · exact ⟨_, rfl, Nat.le_refl 1⟩
  · exact ⟨_, rfl, Nat.le_refl 1⟩
  · exact ⟨_, rfl, Nat.le_refl 1⟩
  · exact ⟨_, rfl, Nat.le_refl 1⟩
  · exact ⟨_, rfl, Nat.le_refl 1⟩
  · exact ⟨_, rfl, Nat.zero_le 1⟩

theorem bitA {x : Int} (h0 : 0 ≤ x) (h1 : x < 8 ∨ x = 0) : ∃ (j : Nat) (t : ByteArray), x = j ∧ (j : Int) < 8 ∧ t.size ≤ 1 ∧ ∀ wx : World, (wx.alloc (.cells #[.string ⟨#[105]⟩, .string ⟨#[106]⟩, .string ⟨#[118]⟩, .string ⟨#[117]⟩, .string ⟨#[120]⟩, .string ⟨#[99]⟩, .string ⟨#[113]⟩, .string ⟨#[]⟩] 9)).cell? ⟨wx.heap.size, j, none⟩ = some (.string t) := by
  obtain ⟨j, rfl⟩ := Int.eq_ofNat_of_zero_le h0
  obtain ⟨t, hw, ht⟩ := bits_at j (by omega)
  exact ⟨j, t, rfl, by omega, ht, fun wx => (World.cell?_alloc_new wx _ _ _).trans hw⟩

theorem bitB {x : Int} {w2 w3 : World} {g : Nat} (h0 : 0 ≤ x) (h1 : x < 8 ∨ x = 0) (hg : g < w2.heap.size) (k3 : (w2.alloc (.cells #[.string ⟨#[105]⟩, .string ⟨#[106]⟩, .string ⟨#[118]⟩, .string ⟨#[117]⟩, .string ⟨#[120]⟩, .string ⟨#[99]⟩, .string ⟨#[113]⟩, .string ⟨#[]⟩] 9)).drew.grownBy w3 (some g)) :
    ∃ (j : Nat) (t : ByteArray), x = j ∧ (j : Int) < 8 ∧ t.size ≤ 1 ∧ w3.cell? ⟨w2.heap.size, j, none⟩ = some (.string t) := by
  obtain ⟨j, rfl⟩ := Int.eq_ofNat_of_zero_le h0
  obtain ⟨t, hw, ht⟩ := bits_at j (by omega)
  have hB : Blk (w2.alloc (.cells bits 9)).drew w2.heap.size 9 bits := (Blk.new w2 9 bits).drew
  have hne : some w2.heap.size ≠ some g := by intro e; injection e with e; omega
  exact ⟨j, t, rfl, by omega, ht, ((hB.grown k3 hne).cell j).trans hw⟩

theorem nt_len (n : Int) : (ntL n).length ≤ 20 := by
  unfold ntL
  split
  · rename_i h
    have h2 := h.2
    exact form_len n.toNat (by omega) false
  · simp
theorem on_len (n : Int) : (onL n).length ≤ 20 := by
  unfold onL oldL
  split
  · rename_i h
    have h2 := h.2
    rw [last_len, List.length_map]
    exact form_len n.toNat (by omega) true
  · simp

set_option maxHeartbeats 4000000 in
theorem spec_drawWord (A : Option Addr) (len cap : Nat) (zs : List Int) (W w : World) (g : Nat) (hs : Src A len cap zs W w g) :
    Calls Tryd.prog 39 #[.pointer (some ⟨g, 0, none⟩)] w (DrewStr A len cap zs W w g 100) := by
  have hg := hs.lt
  go_enter Tryd.func39, Tryd.ntmps39
  go_wp2_with fail
  refine (spec_drawNumber A len cap zs W _ g hs).mono ?_
  rintro e w1 ⟨n, rfl, hn, s1, k1⟩
  have NT := Lib.hid (spec_NumeralText n)
  have ON := Lib.hid (spec_OldNumeral n)
  have l1 := nt_len n
  have l2 := on_len n
  generalize ntL n = t1 at NT l1
  generalize onL n = t2 at ON l2
  clear hn
  go_wp2_with fail
  refine (NT.out _).mono ?_
  rintro e w2 ⟨rfl, b2⟩
  have s2 := s1.below b2
  have k2 := k1.trans (only_of_below b2 (some g))
  clear b2 s1 k1
  go_wp2_with fail
  refine (spec_next A len cap zs W _ g 2 s2).mono ?_
  rintro e w3 ⟨x3, rfl, a3, b3, s3, k⟩
  have k3 := k2.trans k
  clear k b3 k2 s2
  by_cases h0 : x3 = 0
  · subst h0
    go_wp2_with fail
    refine (ON.out _).mono ?_
    rintro e w4 ⟨rfl, b4⟩
    have s4 := s3.below b4
    have k4 := k3.trans (only_of_below b4 (some g))
    clear b4 s3 k3
    go_wp2_with fail
    refine (spec_next A len cap zs W _ g 3 s4).mono ?_
    rintro e w5 ⟨x5, rfl, a5, b5, s5, k⟩
    have k5 := k4.trans k
    clear k b5
    have sz := str_size t2
    by_cases h5 : 0 < x5
    · go_wp2_with fail
      go_ret
      exact ⟨_, rfl, by omega, s5, k5⟩
    go_wp2_with fail
    refine (spec_next A len cap zs W _ g ((t2.length : Int) + 1) s5).mono ?_
    rintro e w6 ⟨x6, rfl, a6, b6, s6, k⟩
    have k6 := k5.trans k
    obtain ⟨k, rfl⟩ := Int.eq_ofNat_of_zero_le a6
    have hk : k ≤ t2.length := by omega
    have sz1 : ((str t2).extract 0 k).size ≤ 20 := by have := ByteArray.size_extract (a := str t2) (b := 0) (e := k); omega
    have sz2 : ((str t2).extract k t2.length).size ≤ 20 := by have := ByteArray.size_extract (a := str t2) (b := k) (e := t2.length); omega
    clear a6 b6 s5 k5
    go_wp2_with fail
    go_region_with (go_at_call 44; (first | (refine (spec_next A len cap zs W _ g 8 s6.drew).mono ?_; rintro e w3 ⟨x3, rfl, a3, b3, s3, k3⟩; obtain ⟨j, t, rfl, jb, ht, F⟩ := bitA a3 b3; clear a3 b3) | (refine (spec_next A len cap zs W _ g 8 (s6.alloc _).drew).mono ?_; rintro e w3 ⟨x3, rfl, a3, b3, s3, k3⟩; obtain ⟨j, t, rfl, jb, ht, F⟩ := bitB a3 b3 s6.lt k3; clear a3 b3)))
    all_goals
      go_wp2_with fail
      go_ret
      refine ⟨_, rfl, by simp only [ByteArray.size_append, ByteArray.size_extract]; omega, ?_, ?_⟩
      · first | exact s3 | exact s3.alloc _
      · first
          | exact (World.grownBy.trans (only_drewN (only_alloc k6 _) 1) k3)
          | exact only_alloc (World.grownBy.trans (only_drewN k6 1) k3) _

  · have e0 : (x3 == 0) = false := by simpa using h0
    clear h0
    go_wp2_with fail
    refine (spec_next A len cap zs W _ g 3 s3).mono ?_
    rintro e w5 ⟨x5, rfl, a5, b5, s5, k⟩
    have k5 := k3.trans k
    clear k b5
    have sz := str_size t1
    by_cases h5 : 0 < x5
    · go_wp2_with fail
      go_ret
      exact ⟨_, rfl, by omega, s5, k5⟩
    go_wp2_with fail
    refine (spec_next A len cap zs W _ g ((t1.length : Int) + 1) s5).mono ?_
    rintro e w6 ⟨x6, rfl, a6, b6, s6, k⟩
    have k6 := k5.trans k
    obtain ⟨k, rfl⟩ := Int.eq_ofNat_of_zero_le a6
    have hk : k ≤ t1.length := by omega
    have sz1 : ((str t1).extract 0 k).size ≤ 20 := by have := ByteArray.size_extract (a := str t1) (b := 0) (e := k); omega
    have sz2 : ((str t1).extract k t1.length).size ≤ 20 := by have := ByteArray.size_extract (a := str t1) (b := k) (e := t1.length); omega
    clear a6 b6 s5 k5
    go_wp2_with fail
    go_region_with (go_at_call 44; (first | (refine (spec_next A len cap zs W _ g 8 s6.drew).mono ?_; rintro e w3 ⟨x3, rfl, a3, b3, s3, k3⟩; obtain ⟨j, t, rfl, jb, ht, F⟩ := bitA a3 b3; clear a3 b3) | (refine (spec_next A len cap zs W _ g 8 (s6.alloc _).drew).mono ?_; rintro e w3 ⟨x3, rfl, a3, b3, s3, k3⟩; obtain ⟨j, t, rfl, jb, ht, F⟩ := bitB a3 b3 s6.lt k3; clear a3 b3)))
    all_goals
      go_wp2_with fail
      go_ret
      refine ⟨_, rfl, by simp only [ByteArray.size_append, ByteArray.size_extract]; omega, ?_, ?_⟩
      · first | exact s3 | exact s3.alloc _
      · first
          | exact (World.grownBy.trans (only_drewN (only_alloc k6 _) 1) k3)
          | exact only_alloc (World.grownBy.trans (only_drewN k6 1) k3) _

end Go.Proofs.YtiimoejjokfkfaaDoor.Num
