/- Contracts of spec's draws of words and phrases. -/
import Derived.Test.YtdpbikephjnndaaDoorWrdF
import Derived.Test.YtdpbikephjnndaaDoorDamage
import Derived.Test.YtdpbikephjnndaaDoorDraw3
import Derived.Deep.RegionWith
namespace Go.Proofs.YtdpbikephjnndaaDoor.Wrd
open Go.RowKit

def bad5 : Array Value := #[.string ⟨#[]⟩, .string ⟨#[65, 98, 99]⟩, .string ⟨#[97, 32, 98]⟩, .string ⟨#[97, 98, 99, 100, 101, 102, 103, 104, 105, 106, 107, 108, 109, 110, 111, 112, 113, 114, 115, 116, 117]⟩, .string ⟨#[97, 98, 99, 100, 101, 102, 103, 104, 105, 106, 107, 108, 109, 110, 111, 112, 113, 114, 115, 116]⟩]
theorem bad5_at (j : Nat) (h : j < 5) : ∃ t : ByteArray, bad5[j]? = some (.string t) ∧ t.size ≤ 21 := by
  have : j = 0 ∨ j = 1 ∨ j = 2 ∨ j = 3 ∨ j = 4 := by omega
  rcases this with rfl | rfl | rfl | rfl | rfl <;> exact ⟨_, rfl, by decide⟩
def good15 : Array Value := #[.string ⟨#[121, 101, 101, 114, 101]⟩, .string ⟨#[121, 101, 97, 114]⟩, .string ⟨#[105, 118, 100, 103, 101]⟩, .string ⟨#[105, 117, 100, 103, 101]⟩, .string ⟨#[107, 105, 110, 103]⟩, .string ⟨#[107, 121, 110, 103]⟩, .string ⟨#[119, 105, 116, 110, 101, 115, 115, 101]⟩, .string ⟨#[119, 121, 116, 110, 101, 115]⟩, .string ⟨#[108, 111, 114, 100]⟩, .string ⟨#[108, 111, 114, 100, 101]⟩, .string ⟨#[115, 101, 97, 108]⟩, .string ⟨#[115, 101, 97, 108, 101]⟩, .string ⟨#[101, 101]⟩, .string ⟨#[101]⟩, .string ⟨#[119, 119, 101]⟩]
theorem good15_at (j : Nat) (h : j < 15) : ∃ t : ByteArray, good15[j]? = some (.string t) ∧ t.size ≤ 8 := by
  have : j = 0 ∨ j = 1 ∨ j = 2 ∨ j = 3 ∨ j = 4 ∨ j = 5 ∨ j = 6 ∨ j = 7 ∨ j = 8 ∨ j = 9 ∨ j = 10 ∨ j = 11 ∨ j = 12 ∨ j = 13 ∨ j = 14 := by omega
  rcases this with rfl | rfl | rfl | rfl | rfl | rfl | rfl | rfl | rfl | rfl | rfl | rfl | rfl | rfl | rfl <;> exact ⟨_, rfl, by decide⟩
def ins5 : Array Value := #[.string ⟨#[97]⟩, .string ⟨#[101]⟩, .string ⟨#[121]⟩, .string ⟨#[118]⟩, .string ⟨#[115]⟩]
theorem ins5_at (j : Nat) (h : j < 5) : ∃ t : ByteArray, ins5[j]? = some (.string t) ∧ t.size ≤ 1 := by
  have : j = 0 ∨ j = 1 ∨ j = 2 ∨ j = 3 ∨ j = 4 := by omega
  rcases this with rfl | rfl | rfl | rfl | rfl <;> exact ⟨_, rfl, by decide⟩
theorem insA {x : Int} (h0 : 0 ≤ x) (h1 : x < 5 ∨ x = 0) : ∃ (j : Nat) (t : ByteArray), x = j ∧ (j : Int) < 5 ∧ t.size ≤ 1 ∧ ∀ wx : World, (wx.alloc (.cells #[.string ⟨#[97]⟩, .string ⟨#[101]⟩, .string ⟨#[121]⟩, .string ⟨#[118]⟩, .string ⟨#[115]⟩] 9)).cell? ⟨wx.heap.size, j, none⟩ = some (.string t) := by
  obtain ⟨j, rfl⟩ := Int.eq_ofNat_of_zero_le h0
  obtain ⟨t, hw, ht⟩ := ins5_at j (by omega)
  exact ⟨j, t, rfl, by omega, ht, fun wx => (World.cell?_alloc_new wx _ _ _).trans hw⟩
theorem insB {x : Int} {w2 w3 : World} {g : Nat} (h0 : 0 ≤ x) (h1 : x < 5 ∨ x = 0) (hg : g < w2.heap.size) (k3 : (w2.alloc (.cells #[.string ⟨#[97]⟩, .string ⟨#[101]⟩, .string ⟨#[121]⟩, .string ⟨#[118]⟩, .string ⟨#[115]⟩] 9)).drew.grownBy w3 (some g)) :
    ∃ (j : Nat) (t : ByteArray), x = j ∧ (j : Int) < 5 ∧ t.size ≤ 1 ∧ w3.cell? ⟨w2.heap.size, j, none⟩ = some (.string t) := by
  obtain ⟨j, rfl⟩ := Int.eq_ofNat_of_zero_le h0
  obtain ⟨t, hw, ht⟩ := ins5_at j (by omega)
  have hB : Blk (w2.alloc (.cells ins5 9)).drew w2.heap.size 9 ins5 := (Blk.new w2 9 ins5).drew
  have hne : some w2.heap.size ≠ some g := by intro e; injection e with e; omega
  exact ⟨j, t, rfl, by omega, ht, ((hB.grown k3 hne).cell j).trans hw⟩
theorem pickS {x : Int} {w2 w3 : World} {g n : Nat} {cs : Array Value} {most : Nat} (hcs : ∀ j, j < n → ∃ t : ByteArray, cs[j]? = some (.string t) ∧ t.size ≤ most) (h0 : 0 ≤ x) (h1 : x < n ∨ x = 0) (hn : 0 < n) (hg : g < w2.heap.size) (k3 : (w2.alloc (.cells cs 9)).grownBy w3 (some g)) :
    ∃ (j : Nat) (t : ByteArray), x = j ∧ j < n ∧ t.size ≤ most ∧ w3.cell? ⟨w2.heap.size, j, none⟩ = some (.string t) := by
  obtain ⟨j, rfl⟩ := Int.eq_ofNat_of_zero_le h0
  obtain ⟨t, hw, ht⟩ := hcs j (by omega)
  have hne : some w2.heap.size ≠ some g := by intro e; injection e with e; omega
  exact ⟨j, t, rfl, by omega, ht, (((Blk.new w2 9 cs).grown k3 hne).cell j).trans hw⟩

set_option maxHeartbeats 2000000 in
theorem spec_drawWord (A : Option Addr) (len cap : Nat) (zs : List Int) (W w : World) (g : Nat) (hs : Src A len cap zs W w g) :
    Calls Tryd.prog 34 #[.pointer (some ⟨g, 0, none⟩)] w (DrewStr A len cap zs W w g 21) := by
  have hg := hs.lt
  go_enter Tryd.func34, Tryd.ntmps34
  go_wp2_with fail
  refine (spec_next A len cap zs W _ g 40 hs).mono ?_
  rintro e w1 ⟨x1, rfl, a1, b1, s1, k1⟩
  have hg1 := s1.lt
  by_cases h0 : x1 = 0
  · subst h0
    clear a1 b1
    go_wp2_with fail
    refine (spec_next A len cap zs W _ g 5 (s1.alloc _)).mono ?_
    rintro e w2 ⟨x2, rfl, a2, b2, s2, k2⟩
    obtain ⟨j, t, rfl, hj, ht, hc⟩ := pickS (cs := bad5) bad5_at a2 b2 (by omega) hg1 k2
    clear a2 b2
    go_wp2_with fail
    go_ret
    exact ⟨t, rfl, ht, s2, (only_alloc k1 _).trans k2⟩
  · have e0 : (x1 == 0) = false := by simpa using h0
    clear h0 a1 b1
    go_wp2_with fail
    refine (spec_next A len cap zs W _ g 15 (s1.alloc _)).mono ?_
    rintro e w2 ⟨x2, rfl, a2, b2, s2, k2⟩
    obtain ⟨j, t, rfl, hj, ht, hc⟩ := pickS (cs := good15) good15_at a2 b2 (by omega) hg1 k2
    clear a2 b2
    have k12 := (only_alloc k1 (.cells good15 9)).trans k2
    go_wp2_with fail
    refine (spec_next A len cap zs W _ g 4 s2).mono ?_
    rintro e w3 ⟨x3, rfl, a3, b3, s3, k3⟩
    have k13 := k12.trans k3
    clear k1 k2 k3 k12 b3 hc
    by_cases h1 : x3 = 0
    · subst h1
      clear a3
      go_wp2_with fail
      refine (spec_next A len cap zs W _ g ((t.size : Int) + 1) s3).mono ?_
      rintro e w4 ⟨x4, rfl, a4, b4, s4, k4⟩
      obtain ⟨k, rfl⟩ := Int.eq_ofNat_of_zero_le a4
      have hk : k ≤ t.size := by omega
      have k14 := k13.trans k4
      clear a4 b4 k4 k13 s3 s2 s1
      have sz1 : (t.extract 0 k).size ≤ 8 := by have := ByteArray.size_extract (a := t) (b := 0) (e := k); omega
      have sz2 : (t.extract k t.size).size ≤ 8 := by have := ByteArray.size_extract (a := t) (b := k) (e := t.size); omega
      go_wp2_with fail
      go_region_with (go_at_call 26; (first | (refine (spec_next A len cap zs W _ g 5 s4.drew).mono ?_; rintro e w5 ⟨x5, rfl, a5, b5, s5, k5⟩; obtain ⟨j, u, rfl, jb, hu, F⟩ := insA a5 b5; clear a5 b5) | (refine (spec_next A len cap zs W _ g 5 (s4.alloc _).drew).mono ?_; rintro e w5 ⟨x5, rfl, a5, b5, s5, k5⟩; obtain ⟨j, u, rfl, jb, hu, F⟩ := insB a5 b5 s4.lt k5; clear a5 b5)))
      all_goals
        go_wp2_with fail
        go_ret
        refine ⟨_, rfl, by simp only [ByteArray.size_append, ByteArray.size_extract]; omega, ?_, ?_⟩
        · first | exact s5 | exact s5.alloc _
        · first
            | exact (World.grownBy.trans (only_drewN (only_alloc k14 _) 1) k5)
            | exact only_alloc (World.grownBy.trans (only_drewN k14 1) k5) _
    · have e1 : (x3 == 0) = false := by simpa using h1
      clear h1 a3
      go_wp2_with fail
      go_ret
      exact ⟨t, rfl, by omega, s3, k13⟩

end Go.Proofs.YtdpbikephjnndaaDoor.Wrd
