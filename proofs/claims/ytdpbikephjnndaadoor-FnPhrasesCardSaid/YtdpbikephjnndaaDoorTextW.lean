/- Contracts of spec's decimal texts. -/
import Derived.Test.YtdpbikephjnndaaDoorText
import Derived.Test.YtdpbikephjnndaaDoorDaysE
import Derived.Laws.IdiomStrings
import Derived.Laws.BytesArg
import Derived.Deep.RegionWith
import Derived.Deep.RegionHeld3
namespace Go.Proofs.YtdpbikephjnndaaDoor
open Go.RowKit

/-- A list of bytes as a string. -/
def str (l : List UInt8) : ByteArray := ⟨l.toArray⟩
theorem str_size (l : List UInt8) : (str l).size = l.length := by simp [str, ByteArray.size]
theorem str_add (a b : List UInt8) : str a ++ str b = str (a ++ b) := by
  simp [str, ByteArray.ext_iff]

/-- What a call leaves that answers a text. -/
def Tx (l : List UInt8) (w : World) (e : Ending) (w' : World) : Prop := e = .returned (.string (str l)) ∧ Below w.heap.size w w'

theorem conv1 (n : Int) (h0 : 0 ≤ n) (h1 : n < 10) : ∀ (wx : World) (g : Nat), wx.cell? ⟨g, 0, none⟩ = some (.int .u8 (48 + n)) →
    (convert 22 9 (.slice (some ⟨g, 0, none⟩) 1 1)).run Tryd.prog wx = .ok (.string (str [Txt.dg n])) wx := by
  intro wx g hc
  have h := run_convert_bytes_arg wx 22 5 Tryd.underlying22 Tryd.underlying5 g 0 1 1 [48 + n] rfl (by
    intro i hi
    obtain rfl : i = 0 := by omega
    simpa using hc) 9 Tryd.underlying9
  rw [h]
  have e : n % 10 = n := by omega
  simp [strOfNums, str, Txt.dg, e]

theorem valid_bd {f : Bool} {y m d : Int} (h : Cal.valid f y m d) : (1 ≤ y ∧ y ≤ 2000) ∧ (1 ≤ m ∧ m ≤ 12) ∧ (1 ≤ d ∧ d ≤ 31) := by
  have := Cal.mlen_bd f y m
  obtain ⟨a, b, c, d, e, g⟩ := h
  exact ⟨⟨a, b⟩, ⟨c, d⟩, e, by omega⟩

theorem cell_later {w wx : World} {a : Addr} {v : Value} (hb : Below w.heap.size w wx) (h : w.cell? a = some v) : wx.cell? a = some v := (hb.cell (World.block_lt_of_cell? _ _ h)).trans h
theorem below_step {w w1 w2 : World} (h : Below w.heap.size w w1) (hb : Below w1.heap.size w1 w2) : Below w.heap.size w w2 := h.trans (hb.mono h.size)

theorem date_str (y m d : Int) : str (Txt.p4 y) ++ ⟨#[45]⟩ ++ str (Txt.p2 m) ++ ⟨#[45]⟩ ++ str (Txt.p2 d) = str (Txt.date y m d) := by
  rw [show (⟨#[45]⟩ : ByteArray) = str [45] from rfl]
  simp only [str_add]
  rfl

end Go.Proofs.YtdpbikephjnndaaDoor
