/- Contracts of impl's and spec's meeting of two lists of spans. -/
import Derived.Test.YtfhcakpmlppbkaaDoorOwn
namespace Go.Proofs.YtfhcakpmlppbkaaDoor.Sets
open Go.RowKit

theorem meet_hit {s t : Int × Int} {ar br acc T : L} {f e : Int} (hF : (if s.1 < t.1 then t.1 else s.1) = f) (hE : (if t.2 < s.2 then t.2 else s.2) = e) (hs : f ≤ e) (h : acc ++ meet (s :: ar) (t :: br) = T) :
    (acc ++ [(f, e)]) ++ (if s.2 < t.2 then meet ar (t :: br) else meet (s :: ar) br) = T := by
  have h1 : max s.1 t.1 = f := by rw [← hF]; split <;> omega
  have h2 : min s.2 t.2 = e := by rw [← hE]; split <;> omega
  rw [meet, both, h1, h2, if_pos hs] at h
  rw [List.append_assoc]; exact h
theorem meet_miss {s t : Int × Int} {ar br acc T : L} {f e : Int} (hF : (if s.1 < t.1 then t.1 else s.1) = f) (hE : (if t.2 < s.2 then t.2 else s.2) = e) (hs : ¬ f ≤ e) (h : acc ++ meet (s :: ar) (t :: br) = T) :
    acc ++ (if s.2 < t.2 then meet ar (t :: br) else meet (s :: ar) br) = T := by
  have h1 : max s.1 t.1 = f := by rw [← hF]; split <;> omega
  have h2 : min s.2 t.2 = e := by rw [← hE]; split <;> omega
  rw [meet, both, h1, h2, if_neg hs] at h
  simpa using h

/-- What a call leaves that answers a list of spans of its own. -/
def Spans (xs : L) (w : World) (e : Ending) (w' : World) : Prop := ∃ A c, e = .returned (.slice A xs.length c) ∧ Row w' w.heap.size w'.heap.size A xs.length c xs ∧ Below w.heap.size w w'

/-- The loop of impl's meeting. -/
def MeetLoop (T : L) (N : Nat) (w : World) (m : Nat) (a b v : Value) (wr : World) : Prop :=
  ∃ (A1 A2 : Option Addr) (n1 n2 c1 c2 : Nat) (xs ys acc : L), a = .slice A1 n1 c1 ∧ b = .slice A2 n2 c2 ∧ m = n1 + n2 ∧ n1 ≤ c1 ∧ n2 ≤ c2 ∧
    Rd w A1 n1 xs ∧ Rd w A2 n2 ys ∧ Own wr w.heap.size v acc ∧ Below w.heap.size w wr ∧ acc.length + n1 + n2 ≤ N ∧ Hid (acc ++ meet xs ys = T)

/-- The loop of spec's meeting. -/
def MeetLoopS (T : L) (xs ys : L) (n1 n2 : Nat) (N : Nat) (w : World) (m : Nat) (v a b : Value) (wr : World) : Prop :=
  ∃ (i k : Nat) (acc : L), a = .int .i64 i ∧ b = .int .i64 k ∧ m = (n1 - i) + (n2 - k) ∧ i ≤ n1 ∧ k ≤ n2 ∧
    Own wr w.heap.size v acc ∧ Below w.heap.size w wr ∧ acc.length + (n1 - i) + (n2 - k) ≤ N ∧ Hid (acc ++ meet (xs.drop i) (ys.drop k) = T)

end Go.Proofs.YtfhcakpmlppbkaaDoor.Sets
