/- Contracts of spec's damaging of a drawn text, and of the drawing of a date's text. -/
import Derived.Test.YtdpbikephjnndaaDraw5
import Derived.Test.YtdpbikephjnndaaTextW
import Derived.Deep.RegionWith
namespace Go.Proofs.Ytdpbikephjnndaa
open Go.RowKit

theorem Src.drew {A : Option Addr} {len cap : Nat} {zs : List Int} {W w : World} {g : Nat} (h : Src A len cap zs W w g) : Src A len cap zs W w.drew g := h.below ((Below.refl _ _).drew)
/-- What a call leaves that draws a text. -/
def DrewStr (A : Option Addr) (len cap : Nat) (zs : List Int) (W w : World) (g : Nat) (n : Nat) (e : Ending) (w' : World) : Prop :=
  ∃ s : ByteArray, e = .returned (.string s) ∧ s.size ≤ n ∧ Src A len cap zs W w' g ∧ w.grownBy w' (some g)

def words : Array Value := #[.string ⟨#[48]⟩, .string ⟨#[49]⟩, .string ⟨#[32]⟩, .string ⟨#[45]⟩, .string ⟨#[44]⟩, .string ⟨#[118]⟩, .string ⟨#[10]⟩, .string ⟨#[97]⟩]
theorem words_at (j : Nat) (h : j < 8) : ∃ t : ByteArray, words[j]? = some (.string t) ∧ t.size ≤ 1 := by
  have : j = 0 ∨ j = 1 ∨ j = 2 ∨ j = 3 ∨ j = 4 ∨ j = 5 ∨ j = 6 ∨ j = 7 := by omega
  rcases this with rfl | rfl | rfl | rfl | rfl | rfl | rfl | rfl <;> exact ⟨_, rfl, Nat.le_refl 1⟩

theorem wordA {x : Int} (h0 : 0 ≤ x) (h1 : x < 8 ∨ x = 0) : ∃ (j : Nat) (t : ByteArray), x = j ∧ (j : Int) < 8 ∧ t.size ≤ 1 ∧ ∀ wx : World, (wx.alloc (.cells #[.string ⟨#[48]⟩, .string ⟨#[49]⟩, .string ⟨#[32]⟩, .string ⟨#[45]⟩, .string ⟨#[44]⟩, .string ⟨#[118]⟩, .string ⟨#[10]⟩, .string ⟨#[97]⟩] 9)).cell? ⟨wx.heap.size, j, none⟩ = some (.string t) := by
  obtain ⟨j, rfl⟩ := Int.eq_ofNat_of_zero_le h0
  obtain ⟨t, hw, ht⟩ := words_at j (by omega)
  exact ⟨j, t, rfl, by omega, ht, fun wx => (World.cell?_alloc_new wx _ _ _).trans hw⟩

theorem wordB {x : Int} {w2 w3 : World} {g : Nat} (h0 : 0 ≤ x) (h1 : x < 8 ∨ x = 0) (hg : g < w2.heap.size) (k3 : (w2.alloc (.cells #[.string ⟨#[48]⟩, .string ⟨#[49]⟩, .string ⟨#[32]⟩, .string ⟨#[45]⟩, .string ⟨#[44]⟩, .string ⟨#[118]⟩, .string ⟨#[10]⟩, .string ⟨#[97]⟩] 9)).drew.grownBy w3 (some g)) :
    ∃ (j : Nat) (t : ByteArray), x = j ∧ (j : Int) < 8 ∧ t.size ≤ 1 ∧ w3.cell? ⟨w2.heap.size, j, none⟩ = some (.string t) := by
  obtain ⟨j, rfl⟩ := Int.eq_ofNat_of_zero_le h0
  obtain ⟨t, hw, ht⟩ := words_at j (by omega)
  have hB : Blk (w2.alloc (.cells words 9)).drew w2.heap.size 9 words := (Blk.new w2 9 words).drew
  have hne : some w2.heap.size ≠ some g := by intro e; injection e with e; omega
  exact ⟨j, t, rfl, by omega, ht, ((hB.grown k3 hne).cell j).trans hw⟩

/-- What a call leaves that draws a text out of some bytes. -/
def DrawnStr (n : Nat) (w : World) (e : Ending) (w' : World) : Prop := ∃ l : List UInt8, e = .returned (.string (str l)) ∧ l.length ≤ n ∧ Below w.heap.size w w'

end Go.Proofs.Ytdpbikephjnndaa
