/- Contracts of spec's splitting of a text at a byte, and of its reading of digits. -/
import Derived.Test.YtdpbikephjnndaaTextW
import Derived.OwnWalk
import Derived.Laws.AppendOwn
import Derived.Laws.OwnMore
import Derived.WalkSpells
namespace Go.Proofs.Ytdpbikephjnndaa
open Go.RowKit

theorem info_str : (Try.prog.info? 9).map (fun i => (i.zero, i.size, i.bytes)) = some (some (.string ByteArray.empty), 1, 16) := by kernel_rfl

theorem ext_str (l : List UInt8) (f k : Nat) : (str l).extract f k = str ((l.drop f).take (k - f)) := by
  simp [str, ByteArray.ext_iff]
theorem get_str (l : List UInt8) (k : Nat) (h : k < (str l).size) : (str l)[k] = l[k]'(by rw [← str_size]; exact h) := by
  rfl

theorem split_end {c : UInt8} {l cur : List UInt8} {ps T : List (List UInt8)} (h : ps ++ Txt.split c (l.drop l.length) cur = T) : ps ++ [cur] = T := by
  simpa [Txt.split] using h
theorem split_hit {c : UInt8} {l cur : List UInt8} {ps T : List (List UInt8)} {k : Nat} (hk : k < l.length) (hc : l[k] = c) (h : ps ++ Txt.split c (l.drop k) cur = T) :
    (ps ++ [cur]) ++ Txt.split c (l.drop (k + 1)) [] = T := by
  rw [List.drop_eq_getElem_cons hk] at h
  simpa [Txt.split, hc] using h
theorem split_miss {c : UInt8} {l : List UInt8} {ps T : List (List UInt8)} {k f : Nat} (hk : k < l.length) (hf : f ≤ k) (hc : ¬ l[k] = c) (h : ps ++ Txt.split c (l.drop k) ((l.drop f).take (k - f)) = T) :
    ps ++ Txt.split c (l.drop (k + 1)) ((l.drop f).take (k + 1 - f)) = T := by
  rw [List.drop_eq_getElem_cons hk] at h
  have e : (l.drop f).take (k + 1 - f) = (l.drop f).take (k - f) ++ [l[k]] := by
    rw [show k + 1 - f = (k - f) + 1 by omega, List.take_succ_eq_append_getElem (by simp; omega)]
    simp [show f + (k - f) = k by omega]
  rw [e]
  simpa [Txt.split, hc] using h

/-- The loop that cuts: pieces ps so far, the next one begins at f. -/
def SplitLoop (c : UInt8) (l : List UInt8) (w : World) (n : Nat) (v fr i : Value) (wr : World) : Prop :=
  ∃ (k f : Nat) (ps : List (List UInt8)), k ≤ l.length + 1 ∧ f ≤ k ∧ n = l.length + 1 - k ∧ i = .int .i64 k ∧ fr = .int .i64 f ∧ ps.length ≤ k ∧
    wr.ownsRow w.heap.size 9 1 v ps.length (ps.map fun p => Value.string (str p)) ∧ Below w.heap.size w wr ∧
    (if k ≤ l.length then ps ++ Txt.split c (l.drop k) ((l.drop f).take (k - f)) = Txt.split c l [] else ps = Txt.split c l [])

/-- What a call leaves that answers some texts: a row of its own. -/
def Texts (ps : List (List UInt8)) (w : World) (e : Ending) (w' : World) : Prop :=
  ∃ v, e = .returned v ∧ w'.ownsRow w.heap.size 9 1 v ps.length (ps.map fun p => Value.string (str p)) ∧ Below w.heap.size w w'

end Go.Proofs.Ytdpbikephjnndaa
