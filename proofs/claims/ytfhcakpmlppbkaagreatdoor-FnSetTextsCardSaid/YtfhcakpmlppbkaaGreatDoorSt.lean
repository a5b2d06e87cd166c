/- Some blocks of memory that a call makes and knows whole, kept over what it calls. -/
import Derived.Test.YtfhcakpmlppbkaaGreatDoorBlk
import Derived.WalkSmall
namespace Go.Proofs.YtfhcakpmlppbkaaGreatDoor
open Go.RowKit

/-- Some blocks of memory that the call itself has made, known whole; nothing that was there in w0 has changed. -/
structure St (L : List (Nat × TypeId × Array Value)) (w0 w : World) : Prop where
  blk : ∀ x ∈ L, Blk w x.1 x.2.1 x.2.2
  bel : Below w0.heap.size w0 w
  old : ∀ x ∈ L, w0.heap.size ≤ x.1
section
variable {L : List (Nat × TypeId × Array Value)} {w0 w w' : World}
theorem St.start (w : World) : St [] w w := ⟨(fun _ h => (by cases h)), Below.refl _ _, (fun _ h => (by cases h))⟩
theorem St.call (h : St L w0 w) (hb : Below w.heap.size w w') : St L w0 w' :=
  ⟨fun x hx => (h.blk x hx).below hb (h.blk x hx).lt, h.bel.trans (hb.mono h.bel.size), h.old⟩
theorem St.allocAny (h : St L w0 w) (o : Obj) : St L w0 (w.alloc o) := h.call ((Below.refl _ _).alloc (Nat.le_refl _) _)
theorem St.alloc (h : St L w0 w) (t : TypeId) (cs : Array Value) : St ((w.heap.size, t, cs) :: L) w0 (w.alloc (.cells cs t)) :=
  ⟨fun x hx => by
    rcases List.mem_cons.1 hx with rfl | hx
    · exact Blk.new _ _ _
    · exact (h.allocAny _).blk x hx, (h.allocAny _).bel, fun x hx => by
    rcases List.mem_cons.1 hx with rfl | hx
    · exact h.bel.size
    · exact h.old x hx⟩
theorem St.b0 {g : Nat} {t : TypeId} {cs : Array Value} (h : St ((g, t, cs) :: L) w0 w) : Blk w g t cs := h.blk _ (List.mem_cons_self ..)
theorem St.tail {x : Nat × TypeId × Array Value} (h : St (x :: L) w0 w) : St L w0 w := ⟨fun y hy => h.blk y (List.mem_cons_of_mem _ hy), h.bel, fun y hy => h.old y (List.mem_cons_of_mem _ hy)⟩
theorem St.b1 {x0 : Nat × TypeId × Array Value} {g : Nat} {t : TypeId} {cs : Array Value} (h : St (x0 :: (g, t, cs) :: L) w0 w) : Blk w g t cs := h.tail.b0
theorem St.b2 {x0 x1 : Nat × TypeId × Array Value} {g : Nat} {t : TypeId} {cs : Array Value} (h : St (x0 :: x1 :: (g, t, cs) :: L) w0 w) : Blk w g t cs := h.tail.b1
theorem St.b3 {x0 x1 x2 : Nat × TypeId × Array Value} {g : Nat} {t : TypeId} {cs : Array Value} (h : St (x0 :: x1 :: x2 :: (g, t, cs) :: L) w0 w) : Blk w g t cs := h.tail.b2
theorem St.b4 {x0 x1 x2 x3 : Nat × TypeId × Array Value} {g : Nat} {t : TypeId} {cs : Array Value} (h : St (x0 :: x1 :: x2 :: x3 :: (g, t, cs) :: L) w0 w) : Blk w g t cs := h.tail.b3
theorem St.drewN (h : St L w0 w) (n : Nat) : St L w0 (w.drewN n) := ⟨fun x hx => (h.blk x hx).drewN n, below_drewN h.bel n, h.old⟩
end

end Go.Proofs.YtfhcakpmlppbkaaGreatDoor
