/- Arrays of 64-bit numbers that a call keeps in blocks of its own. -/
import Derived.Test.YtdpbikephjnndaaDoorSt
import Derived.Laws.Rows
import Derived.Laws.Tables
namespace Go.Proofs.YtdpbikephjnndaaDoor.Arr
open Go.RowKit

/-- The cells of some numbers. -/
def arr (xs : List Int) : Array Value := (xs.map (Value.int .i64)).toArray
theorem arr_size (xs : List Int) : (arr xs).size = xs.length := by simp [arr]
theorem arr_at (xs : List Int) (k : Nat) : (arr xs)[k]? = xs[k]?.map (Value.int .i64) := by simp [arr]
theorem arr_one (xs : List Int) : (arr xs).all (·.oneCell') = true := by
  rw [Array.all_eq_true]
  intro i hi
  simp [arr, Value.oneCell']
theorem arr_set (xs : List Int) (k : Nat) (x : Int) : (arr xs).setIfInBounds k (.int .i64 x) = arr (xs.set k x) := by
  apply Array.ext_getElem?
  intro i
  rw [arr_at, Array.getElem?_setIfInBounds, List.getElem?_set, arr_size]
  by_cases h : k = i
  · subst h
    by_cases hk : k < xs.length
    · simp [hk]
    · simp [hk]
  · rw [if_neg h, if_neg h, arr_at]

theorem get_len {xs : List Int} {n k : Nat} (h : xs.length = n) (hk : k < n) : ∃ x, xs[k]? = some x := ⟨xs[k]'(by omega), List.getElem?_eq_getElem (by omega)⟩

/-- Block g holds the numbers xs, as an array of type t. -/
def Ar (w : World) (g : Nat) (t : TypeId) (xs : List Int) : Prop := Blk w g t (arr xs)
section
variable {w w' : World} {g : Nat} {t : TypeId} {xs : List Int}
theorem Ar.cell (h : Ar w g t xs) {k : Nat} {x : Int} (hk : xs[k]? = some x) : w.cell? ⟨g, k, none⟩ = some (.int .i64 x) := by
  rw [Blk.cell h k, arr_at, hk]
  rfl
theorem Ar.frozen (h : Ar w g t xs) (k : Nat) : w.frozen? ⟨g, k, none⟩ = false := Blk.frozen h k
theorem Ar.set_ (h : Ar w g t xs) (k : Nat) (x : Int) : Ar (w.setCell ⟨g, k, none⟩ (.int .i64 x)) g t (xs.set k x) := by
  unfold Ar
  rw [← arr_set]
  exact Blk.set_ h k _
theorem Ar.far (h : Ar w g t xs) {p : Addr} (hp : g ≠ p.block) (u : Value) : Ar (w.setCell p u) g t xs := Blk.far h hp u
theorem Ar.below {B : Nat} (h : Ar w g t xs) (hb : Below B w w') (hg : g < B) : Ar w' g t xs := Blk.below h hb hg
theorem Ar.drewN (h : Ar w g t xs) (n : Nat) : Ar (w.drewN n) g t xs := h
theorem Ar.alloc (h : Ar w g t xs) (o : Obj) : Ar (w.alloc o) g t xs := Blk.alloc h o
theorem Ar.lt (h : Ar w g t xs) : g < w.heap.size := Blk.lt h
theorem Ar.row_far (h : Ar w g t xs) {g' : Nat} (hg : g ≠ g') (cs : Array Value) : Ar (w.setRow g' cs) g t xs := (setRow_other w g' g cs (fun e => hg e)).trans h
theorem Ar.row_new {ys : List Int} (h : Ar w g t ys) (xs : List Int) : Ar (w.setRow g (arr xs)) g t xs := setRow_heap w g (arr ys) (arr xs) t (0, 0) h
theorem below_row {B : Nat} {w0 : World} (hb : Below B w0 w) (hg : B ≤ g) (cs : Array Value) : Below B w0 (w.setRow g cs) :=
  hb.trans ⟨rfl, rfl, rfl, by simp, fun k hk => setRow_other _ _ _ _ (by omega)⟩
end

end Go.Proofs.YtdpbikephjnndaaDoor.Arr
