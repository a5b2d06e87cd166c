/- Contracts of spec's damaging of a drawn text, and of the drawing of a date's text. -/
import Derived.Test.YtfhcakpmlppbkaaGreatDoorDraw5
import Derived.Test.YtfhcakpmlppbkaaGreatDoorTextW
import Derived.Deep.RegionWith
namespace Go.Proofs.YtfhcakpmlppbkaaGreatDoor
open Go.RowKit

theorem Src.drew {A : Option Addr} {len cap : Nat} {zs : List Int} {W w : World} {g : Nat} (h : Src A len cap zs W w g) : Src A len cap zs W w.drew g := h.below ((Below.refl _ _).drew)
/-- What a call leaves that draws a text. -/
def DrewStr (A : Option Addr) (len cap : Nat) (zs : List Int) (W w : World) (g : Nat) (n : Nat) (e : Ending) (w' : World) : Prop :=
  ∃ s : ByteArray, e = .returned (.string s) ∧ s.size ≤ n ∧ Src A len cap zs W w' g ∧ w.grownBy w' (some g)

def words : Array Value := #[.string ⟨#[48]⟩, .string ⟨#[49]⟩, .string ⟨#[32]⟩, .string ⟨#[45]⟩, .string ⟨#[44]⟩, .string ⟨#[118]⟩, .string ⟨#[10]⟩, .string ⟨#[97]⟩]
theorem words_at (j : Nat) (h : j < 8) : ∃ t : ByteArray, words[j]? = some (.string t) ∧ t.size ≤ 1 := by
  have : j = 0 ∨ j = 1 ∨ j = 2 ∨ j = 3 ∨ j = 4 ∨ j = 5 ∨ j = 6 ∨ j = 7 := by omega
  rcases this with rfl | rfl | rfl | rfl | rfl | rfl | rfl | rfl <;> exact ⟨_, rfl, Nat.le_refl 1⟩

theorem wordA {x : Int} (h0 : 0 ≤ x) (h1 : x < 8 ∨ x = 0) : ∃ (j : Nat) (t : ByteArray), x = j ∧ (j : Int) < 8 ∧ t.size ≤ 1 ∧ ∀ wx : World, (wx.alloc (.cells #[.string ⟨#[48]⟩, .string ⟨#[49]⟩, .string ⟨#[32]⟩, .string ⟨#[45]⟩, .string ⟨#[44]⟩, .string ⟨#[118]⟩, .string ⟨#[10]⟩, .string ⟨#[97]⟩] 9)).cell? ⟨wx.heap.size, j, none⟩ = some (.string t) := by
  obtain ⟨j, rfl⟩ := Int.eq_ofNat_of_zero_le h0
  obtain ⟨t, hw, ht⟩ := words_at j (by omega)
  exact ⟨j, t, rfl, by omega, ht, fun wx => (World.cell?_alloc_new wx _ _ _).trans hw⟩

theorem wordB {x : Int} {w2 w3 : World} {g : Nat} (h0 : 0 ≤ x) (h1 : x < 8 ∨ x = 0) (hg : g < w2.heap.size) (k3 : (w2.alloc (.cells #[.string ⟨#[48]⟩, .string ⟨#[49]⟩, .string ⟨#[32]⟩, .string ⟨#[45]⟩, .string ⟨#[44]⟩, .string ⟨#[118]⟩, .string ⟨#[10]⟩, .string ⟨#[97]⟩] 9)).drew.grownBy w3 (some g)) :
    ∃ (j : Nat) (t : ByteArray), x = j ∧ (j : Int) < 8 ∧ t.size ≤ 1 ∧ w3.cell? ⟨w2.heap.size, j, none⟩ = some (.string t) := by
  obtain ⟨j, rfl⟩ := Int.eq_ofNat_of_zero_le h0
  obtain ⟨t, hw, ht⟩ := words_at j (by omega)
  have hB : Blk (w2.alloc (.cells words 9)).drew w2.heap.size 9 words := (Blk.new w2 9 words).drew
  have hne : some w2.heap.size ≠ some g := by intro e; injection e with e; omega
  exact ⟨j, t, rfl, by omega, ht, ((hB.grown k3 hne).cell j).trans hw⟩

set_option maxHeartbeats 1000000 in
theorem spec_damage (A : Option Addr) (len cap : Nat) (zs : List Int) (W w : World) (g : Nat) (l : List UInt8) (hl : l.length ≤ 100) (hs : Src A len cap zs W w g) :
    Calls Tryz.prog 41 #[.pointer (some ⟨g, 0, none⟩), .string (str l)] w (DrewStr A len cap zs W w g 300) := by
  have sz := str_size l
  have hg := hs.lt
  go_enter Tryz.func41, Tryz.ntmps41
  go_wp2_with fail
  refine (spec_next A len cap zs W _ g ((l.length : Int) + 1) hs).mono ?_
  rintro e w1 ⟨x1, rfl, a1, b1, s1, k1⟩
  obtain ⟨k, rfl⟩ := Int.eq_ofNat_of_zero_le a1
  have hk : k ≤ l.length := by omega
  clear a1 b1
  go_wp2_with fail
  refine (spec_next A len cap zs W _ g 8 s1).mono ?_
  rintro e w2 ⟨x2, rfl, a2, b2, s2, k2⟩
  have k12 := k1.trans k2
  clear b2 k1 k2 s1
  have sz1 : ((str l).extract 0 k).size ≤ 100 := by have := ByteArray.size_extract (a := str l) (b := 0) (e := k); omega
  by_cases h0 : x2 = 0
  · subst h0
    go_wp2_with fail
    go_ret
    exact ⟨_, rfl, by omega, s2, k12⟩
  by_cases h1 : x2 = 1
  · subst h1
    go_wp2_with fail
    go_region_with (go_at_call 40; (first | (refine (spec_next A len cap zs W _ g 8 s2.drew).mono ?_; rintro e w3 ⟨x3, rfl, a3, b3, s3, k3⟩; obtain ⟨j, t, rfl, jb, ht, F⟩ := wordA a3 b3; clear a3 b3) | (refine (spec_next A len cap zs W _ g 8 (s2.alloc _).drew).mono ?_; rintro e w3 ⟨x3, rfl, a3, b3, s3, k3⟩; obtain ⟨j, t, rfl, jb, ht, F⟩ := wordB a3 b3 s2.lt k3; clear a3 b3)))
    all_goals
      go_wp2_with fail
      go_ret
      refine ⟨_, rfl, by simp only [ByteArray.size_append, ByteArray.size_extract]; omega, ?_, ?_⟩
      · first | exact s3 | exact s3.alloc _
      · first
          | exact (World.grownBy.trans (only_drewN (only_alloc k12 _) 1) k3)
          | exact only_alloc (World.grownBy.trans (only_drewN k12 1) k3) _
  have e0 : (x2 == 0) = false := by simpa using h0
  have e1 : (x2 == 1) = false := by simpa using h1
  clear h0 h1
  by_cases h2 : x2 = 2
  · subst h2
    by_cases hlt : k < l.length
    · have hlt' : (k : Int) < (l.length : Int) := by omega
      go_wp2_with fail
      go_quiet (fail)
      go_wp2_with fail
      go_ret
      exact ⟨_, rfl, by simp only [ByteArray.size_append, ByteArray.size_extract]; omega, s2.below (below_drewN (Below.refl _ _) _), only_drewN k12 _⟩
    · have hlt' : ¬ (k : Int) < (l.length : Int) := by omega
      go_wp2_with fail
      go_ret
      exact ⟨_, rfl, by omega, s2, k12⟩
  · have e2 : (x2 == 2) = false := by simpa using h2
    clear h2
    go_wp2_with fail
    go_ret
    exact ⟨_, rfl, by omega, s2, k12⟩

/-- What a call leaves that draws a text out of some bytes. -/
def DrawnStr (n : Nat) (w : World) (e : Ending) (w' : World) : Prop := ∃ l : List UInt8, e = .returned (.string (str l)) ∧ l.length ≤ n ∧ Below w.heap.size w w'

end Go.Proofs.YtfhcakpmlppbkaaGreatDoor
