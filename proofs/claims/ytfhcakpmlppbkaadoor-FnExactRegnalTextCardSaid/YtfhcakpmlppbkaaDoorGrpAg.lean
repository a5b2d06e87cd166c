/- Texts of a claim in one file: St EasA. -/
import Derived.Test.YtfhcakpmlppbkaaDoorGrpAd
import Derived.WalkSmall
import Derived.Test.YtfhcakpmlppbkaaDoorGrpAf
import Derived.Test.YtfhcakpmlppbkaaDoorGrpAa
import Derived.OwnWalk
namespace Go.Proofs.YtfhcakpmlppbkaaDoor
open Go.RowKit

/-- Some blocks of memory that the call itself has made, known whole; nothing that was there in w0 has changed. -/
structure St (L : List (Nat × TypeId × Array Value)) (w0 w : World) : Prop where
  blk : ∀ x ∈ L, Blk w x.1 x.2.1 x.2.2
  bel : Below w0.heap.size w0 w
  old : ∀ x ∈ L, w0.heap.size ≤ x.1
section
variable {L : List (Nat × TypeId × Array Value)} {w0 w w' : World}
theorem St.start (w : World) : St [] w w := ⟨(fun _ h => (by cases h)), Below.refl _ _, (fun _ h => (by cases h))⟩
theorem St.call (h : St L w0 w) (hb : Below w.heap.size w w') : St L w0 w' :=
  ⟨fun x hx => (h.blk x hx).below hb (h.blk x hx).lt, h.bel.trans (hb.mono h.bel.size), h.old⟩
theorem St.allocAny (h : St L w0 w) (o : Obj) : St L w0 (w.alloc o) := h.call ((Below.refl _ _).alloc (Nat.le_refl _) _)
theorem St.alloc (h : St L w0 w) (t : TypeId) (cs : Array Value) : St ((w.heap.size, t, cs) :: L) w0 (w.alloc (.cells cs t)) :=
  ⟨fun x hx => by
    rcases List.mem_cons.1 hx with rfl | hx
    · exact Blk.new _ _ _
    · exact (h.allocAny _).blk x hx, (h.allocAny _).bel, fun x hx => by
    rcases List.mem_cons.1 hx with rfl | hx
    · exact h.bel.size
    · exact h.old x hx⟩
theorem St.b0 {g : Nat} {t : TypeId} {cs : Array Value} (h : St ((g, t, cs) :: L) w0 w) : Blk w g t cs := h.blk _ (List.mem_cons_self ..)
theorem St.tail {x : Nat × TypeId × Array Value} (h : St (x :: L) w0 w) : St L w0 w := ⟨fun y hy => h.blk y (List.mem_cons_of_mem _ hy), h.bel, fun y hy => h.old y (List.mem_cons_of_mem _ hy)⟩
theorem St.b1 {x0 : Nat × TypeId × Array Value} {g : Nat} {t : TypeId} {cs : Array Value} (h : St (x0 :: (g, t, cs) :: L) w0 w) : Blk w g t cs := h.tail.b0
theorem St.b2 {x0 x1 : Nat × TypeId × Array Value} {g : Nat} {t : TypeId} {cs : Array Value} (h : St (x0 :: x1 :: (g, t, cs) :: L) w0 w) : Blk w g t cs := h.tail.b1
theorem St.b3 {x0 x1 x2 : Nat × TypeId × Array Value} {g : Nat} {t : TypeId} {cs : Array Value} (h : St (x0 :: x1 :: x2 :: (g, t, cs) :: L) w0 w) : Blk w g t cs := h.tail.b2
theorem St.b4 {x0 x1 x2 x3 : Nat × TypeId × Array Value} {g : Nat} {t : TypeId} {cs : Array Value} (h : St (x0 :: x1 :: x2 :: x3 :: (g, t, cs) :: L) w0 w) : Blk w g t cs := h.tail.b3
theorem St.drewN (h : St L w0 w) (n : Nat) : St L w0 (w.drewN n) := ⟨fun x hx => (h.blk x hx).drewN n, below_drewN h.bel n, h.old⟩
end

end Go.Proofs.YtfhcakpmlppbkaaDoor

namespace Go.Proofs.YtfhcakpmlppbkaaDoor.Eas
open Go.RowKit

def goldN (y : Int) : Int := if isY y then y % 19 + 1 else 0
def yErr (y : Int) : Int := if isY y then 0 else 2
def letA (y : Int) : Int := if isY y then 6 - (Cal.ys false y + 5) % 7 else 0
def letB (y : Int) : Int := if isY y then (if Cal.lp false y then (6 - (Cal.ys false y + 5) % 7 + 6) % 7 else 6 - (Cal.ys false y + 5) % 7) else 0
def termN (y : Int) : Int := if isY y then Cal.num false y 3 21 + delay y else 0
def Three (a b c : Int) (w : World) (e : Ending) (w' : World) : Prop := e = .returned (.tuple #[.int .i64 a, .int .i64 b, .int .i64 c]) ∧ Below w.heap.size w w'
theorem ret_iii {a b c a' b' c' : Int} (h : a = a') (h1 : b = b') (h2 : c = c') : Ending.returned (.tuple #[.int .i64 a, .int .i64 b, .int .i64 c]) = .returned (.tuple #[.int .i64 a', .int .i64 b', .int .i64 c']) := by rw [h, h1, h2]

/-! ### the Sunday letters -/
theorem wk_ys (y : Int) (h : isY y) : wkNum (Cal.ys false y) = (Cal.ys false y + 5) % 7 ∧ 0 ≤ Cal.ys false y ∧ Cal.ys false y ≤ 730499 := by
  have b := Cal.ys_bd false y h.1 (by have := h.2; omega)
  have c := Cal.ys_mono false y 2001 (by have := h.2; omega)
  rw [Cal.ys_2001] at c
  have e : Cal.ys false y ≤ 730499 := by have := h.2; simp at c; omega
  exact ⟨by simp [wkNum, b.1, e], b.1, e⟩

theorem num_11 (y : Int) : Cal.num false y 1 1 = Cal.ys false y := by unfold Cal.num; rw [Cal.cum_one]; omega

set_option maxHeartbeats 400000 in
theorem impl_oldDayOf (y m d : Int) (hv : Cal.valid false y m d) (w : World) : Calls Tryd.prog 88 #[.int .i64 y, .int .i64 m, .int .i64 d] w fun e w' => e = .returned (.int .i64 (Cal.num false y m d)) ∧ Below w.heap.size w w' := by
  have A1 := Lib.hid (show ∀ w, Calls Tryd.prog 100 #[.agg #[.int .i64 y, .int .i64 m, .int .i64 d], .int .i64 0] w (Two (Cal.num false y m d) 0 w) from impl_number false y m d hv)
  clear hv
  generalize Cal.num false y m d = n at *
  go_enter Tryd.func88, Tryd.ntmps88
  go_wp2_with fail
  refine (A1.out _).mono ?_
  rintro e w1 ⟨rfl, hb⟩
  go_wp2_with fail
  go_ret
  exact ⟨rfl, hb⟩

end Go.Proofs.YtfhcakpmlppbkaaDoor.Eas
