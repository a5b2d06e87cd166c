/- Texts of a claim in one file: Meet SetC. -/
import Derived.Test.YtfhcakpmlppbkaaDoorGrpAj
namespace Go.Proofs.YtfhcakpmlppbkaaDoor.Sets
open Go.RowKit

theorem meet_hit {s t : Int × Int} {ar br acc T : L} {f e : Int} (hF : (if s.1 < t.1 then t.1 else s.1) = f) (hE : (if t.2 < s.2 then t.2 else s.2) = e) (hs : f ≤ e) (h : acc ++ meet (s :: ar) (t :: br) = T) :
    (acc ++ [(f, e)]) ++ (if s.2 < t.2 then meet ar (t :: br) else meet (s :: ar) br) = T := by
  have h1 : max s.1 t.1 = f := by rw [← hF]; split <;> omega
  have h2 : min s.2 t.2 = e := by rw [← hE]; split <;> omega
  rw [meet, both, h1, h2, if_pos hs] at h
  rw [List.append_assoc]; exact h
theorem meet_miss {s t : Int × Int} {ar br acc T : L} {f e : Int} (hF : (if s.1 < t.1 then t.1 else s.1) = f) (hE : (if t.2 < s.2 then t.2 else s.2) = e) (hs : ¬ f ≤ e) (h : acc ++ meet (s :: ar) (t :: br) = T) :
    acc ++ (if s.2 < t.2 then meet ar (t :: br) else meet (s :: ar) br) = T := by
  have h1 : max s.1 t.1 = f := by rw [← hF]; split <;> omega
  have h2 : min s.2 t.2 = e := by rw [← hE]; split <;> omega
  rw [meet, both, h1, h2, if_neg hs] at h
  simpa using h

/-- What a call leaves that answers a list of spans of its own. -/
def Spans (xs : L) (w : World) (e : Ending) (w' : World) : Prop := ∃ A c, e = .returned (.slice A xs.length c) ∧ Row w' w.heap.size w'.heap.size A xs.length c xs ∧ Below w.heap.size w w'

/-- The loop of impl's meeting. -/
def MeetLoop (T : L) (N : Nat) (w : World) (m : Nat) (a b v : Value) (wr : World) : Prop :=
  ∃ (A1 A2 : Option Addr) (n1 n2 c1 c2 : Nat) (xs ys acc : L), a = .slice A1 n1 c1 ∧ b = .slice A2 n2 c2 ∧ m = n1 + n2 ∧ n1 ≤ c1 ∧ n2 ≤ c2 ∧
    Rd w A1 n1 xs ∧ Rd w A2 n2 ys ∧ Own wr w.heap.size v acc ∧ Below w.heap.size w wr ∧ acc.length + n1 + n2 ≤ N ∧ Hid (acc ++ meet xs ys = T)

/-- The loop of spec's meeting. -/
def MeetLoopS (T : L) (xs ys : L) (n1 n2 : Nat) (N : Nat) (w : World) (m : Nat) (v a b : Value) (wr : World) : Prop :=
  ∃ (i k : Nat) (acc : L), a = .int .i64 i ∧ b = .int .i64 k ∧ m = (n1 - i) + (n2 - k) ∧ i ≤ n1 ∧ k ≤ n2 ∧
    Own wr w.heap.size v acc ∧ Below w.heap.size w wr ∧ acc.length + (n1 - i) + (n2 - k) ≤ N ∧ Hid (acc ++ meet (xs.drop i) (ys.drop k) = T)

end Go.Proofs.YtfhcakpmlppbkaaDoor.Sets

namespace Go.Proofs.YtfhcakpmlppbkaaDoor.Sets
open Go.RowKit

theorem impl_IsSetB (A : Option Addr) (n c : Nat) (xs : L) (b : Bool) (hb : setB xs = b) (hn : n ≤ maxLen) (w : World) (h : Rd w A n xs) :
    Calls Tryd.prog 21 #[.slice A n c] w (Bl b w) := by
  subst hb; exact impl_IsSet A n c xs hn w h

theorem spec_IsSetB (A : Option Addr) (n c : Nat) (xs : L) (b : Bool) (hb : setB xs = b) (hn : n ≤ maxLen) (w : World) (h : Rd w A n xs) :
    Calls Tryd.prog 17 #[.slice A n c] w (Bl b w) := by
  subst hb; exact spec_IsSet A n c xs hn w h

/-- Numbers that are near to days. -/
def Sm (xs : L) : Prop := (∀ s ∈ xs, -1000 ≤ s.1 ∧ s.1 ≤ 1000000 ∧ -1000 ≤ s.2 ∧ s.2 ≤ 1000000) ∧ xs.length ≤ 2000
theorem Sm.at_ {xs : L} (h : Sm xs) {k : Nat} (hk : k < xs.length) : -1000 ≤ xs[k].1 ∧ xs[k].1 ≤ 1000000 ∧ -1000 ≤ xs[k].2 ∧ xs[k].2 ≤ 1000000 := h.1 _ (List.getElem_mem hk)
theorem NF.sm {lo : Int} {xs : L} (h : NF lo xs) (hl : xs.length ≤ 2000) : Sm xs :=
  ⟨fun s hs => by have := h.ok_of s hs; unfold ok at this; omega, hl⟩
theorem cnt_bd {xs : L} (h : ∀ s ∈ xs, -1000 ≤ s.1 ∧ s.1 ≤ 1000000 ∧ -1000 ≤ s.2 ∧ s.2 ≤ 1000000) : -1001001 * (xs.length : Int) ≤ cnt xs ∧ cnt xs ≤ 1001001 * (xs.length : Int) := by
  induction xs with
  | nil => simp [cnt]
  | cons s r ih =>
    have h1 := h s (List.mem_cons_self ..)
    have h2 := ih fun t ht => h t (List.mem_cons_of_mem _ ht)
    simp only [cnt, List.length_cons]
    omega
theorem Sm.cnt_drop {xs : L} (h : Sm xs) (k : Nat) : -2002002000 ≤ cnt (xs.drop k) ∧ cnt (xs.drop k) ≤ 2002002000 := by
  have := cnt_bd (xs := xs.drop k) fun s hs => h.1 s (List.mem_of_mem_drop hs)
  have h2 := h.2
  rw [List.length_drop] at this
  omega
theorem cnt_drop_succ {xs : L} {k : Nat} (hk : k < xs.length) : cnt (xs.drop k) = (xs[k].2 - xs[k].1 + 1) + cnt (xs.drop (k + 1)) := by
  rw [List.drop_eq_getElem_cons hk]
  rfl
theorem cnt_drop_end {xs : L} {k : Nat} (hk : xs.length ≤ k) : cnt (xs.drop k) = 0 := by
  rw [List.drop_eq_nil_of_le hk]
  rfl

def Num (x : Int) (w : World) (e : Ending) (w' : World) : Prop := e = .returned (.int .i64 x) ∧ Below w.heap.size w w'
def Two (x y : Int) (w : World) (e : Ending) (w' : World) : Prop := e = .returned (.tuple #[.int .i64 x, .int .i64 y]) ∧ Below w.heap.size w w'
def TwoB (b : Bool) (y : Int) (w : World) (e : Ending) (w' : World) : Prop := e = .returned (.tuple #[.bool b, .int .i64 y]) ∧ Below w.heap.size w w'

theorem i64_num {a b : Int} (h : a = b) : Value.int .i64 a = .int .i64 b := by rw [h]

end Go.Proofs.YtfhcakpmlppbkaaDoor.Sets
