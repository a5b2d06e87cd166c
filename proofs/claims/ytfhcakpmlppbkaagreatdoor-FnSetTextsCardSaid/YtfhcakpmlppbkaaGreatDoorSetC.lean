/- How many days a set has, whether it has a day, its days in order: impl's functions and spec's. -/
import Derived.Test.YtfhcakpmlppbkaaGreatDoorSetI
namespace Go.Proofs.YtfhcakpmlppbkaaGreatDoor.Sets
open Go.RowKit

theorem impl_IsSetB (A : Option Addr) (n c : Nat) (xs : L) (b : Bool) (hb : setB xs = b) (hn : n ≤ maxLen) (w : World) (h : Rd w A n xs) :
    Calls Tryz.prog 35 #[.slice A n c] w (Bl b w) := by
  subst hb; exact impl_IsSet A n c xs hn w h

theorem spec_IsSetB (A : Option Addr) (n c : Nat) (xs : L) (b : Bool) (hb : setB xs = b) (hn : n ≤ maxLen) (w : World) (h : Rd w A n xs) :
    Calls Tryz.prog 38 #[.slice A n c] w (Bl b w) := by
  subst hb; exact spec_IsSet A n c xs hn w h

/-- Numbers that are near to days. -/
def Sm (xs : L) : Prop := (∀ s ∈ xs, -1000 ≤ s.1 ∧ s.1 ≤ 1000000 ∧ -1000 ≤ s.2 ∧ s.2 ≤ 1000000) ∧ xs.length ≤ 2000
theorem Sm.at_ {xs : L} (h : Sm xs) {k : Nat} (hk : k < xs.length) : -1000 ≤ xs[k].1 ∧ xs[k].1 ≤ 1000000 ∧ -1000 ≤ xs[k].2 ∧ xs[k].2 ≤ 1000000 := h.1 _ (List.getElem_mem hk)
theorem NF.sm {lo : Int} {xs : L} (h : NF lo xs) (hl : xs.length ≤ 2000) : Sm xs :=
  ⟨fun s hs => by have := h.ok_of s hs; unfold ok at this; omega, hl⟩
theorem cnt_bd {xs : L} (h : ∀ s ∈ xs, -1000 ≤ s.1 ∧ s.1 ≤ 1000000 ∧ -1000 ≤ s.2 ∧ s.2 ≤ 1000000) : -1001001 * (xs.length : Int) ≤ cnt xs ∧ cnt xs ≤ 1001001 * (xs.length : Int) := by
  induction xs with
  | nil => simp [cnt]
  | cons s r ih =>
    have h1 := h s (List.mem_cons_self ..)
    have h2 := ih fun t ht => h t (List.mem_cons_of_mem _ ht)
    simp only [cnt, List.length_cons]
    omega
theorem Sm.cnt_drop {xs : L} (h : Sm xs) (k : Nat) : -2002002000 ≤ cnt (xs.drop k) ∧ cnt (xs.drop k) ≤ 2002002000 := by
  have := cnt_bd (xs := xs.drop k) fun s hs => h.1 s (List.mem_of_mem_drop hs)
  have h2 := h.2
  rw [List.length_drop] at this
  omega
theorem cnt_drop_succ {xs : L} {k : Nat} (hk : k < xs.length) : cnt (xs.drop k) = (xs[k].2 - xs[k].1 + 1) + cnt (xs.drop (k + 1)) := by
  rw [List.drop_eq_getElem_cons hk]
  rfl
theorem cnt_drop_end {xs : L} {k : Nat} (hk : xs.length ≤ k) : cnt (xs.drop k) = 0 := by
  rw [List.drop_eq_nil_of_le hk]
  rfl

def Num (x : Int) (w : World) (e : Ending) (w' : World) : Prop := e = .returned (.int .i64 x) ∧ Below w.heap.size w w'
def Two (x y : Int) (w : World) (e : Ending) (w' : World) : Prop := e = .returned (.tuple #[.int .i64 x, .int .i64 y]) ∧ Below w.heap.size w w'
def TwoB (b : Bool) (y : Int) (w : World) (e : Ending) (w' : World) : Prop := e = .returned (.tuple #[.bool b, .int .i64 y]) ∧ Below w.heap.size w w'

theorem i64_num {a b : Int} (h : a = b) : Value.int .i64 a = .int .i64 b := by rw [h]

end Go.Proofs.YtfhcakpmlppbkaaGreatDoor.Sets
