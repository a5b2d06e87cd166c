/- Texts of a claim in one file: DaysE St. -/
import Derived.Test.YtfhcakpmlppbkaaGreatDoorGrpAg
import Derived.Test.YtfhcakpmlppbkaaGreatDoorGrpAh
import Derived.Test.YtfhcakpmlppbkaaGreatDoorGrpAb
import Derived.WalkSmall
namespace Go.Proofs.YtfhcakpmlppbkaaGreatDoor
open Go.RowKit

theorem frame {W w1 : World} (hb : Below W.heap.size W w1) : (∀ b o, b < W.heap.size → w1.cell? ⟨b, o, none⟩ = W.cell? ⟨b, o, none⟩) ∧ (∀ b o, b < W.heap.size → w1.frozen? ⟨b, o, none⟩ = W.frozen? ⟨b, o, none⟩) ∧ W.heap.size ≤ w1.heap.size :=
  ⟨(bcell hb).1, (bcell hb).2, hb.size⟩

/-- The answer of OldDay and NewDay. -/
def dayNum (f : Bool) (y m d : Int) : Int := if Cal.valid f y m d then Cal.num f y m d else 0
def dayErr (f : Bool) (y m d : Int) : Int := if Cal.valid f y m d then 0 else 1
/-- What a call leaves that answers two numbers. -/
def Two (a b : Int) (w : World) (e : Ending) (w' : World) : Prop := e = .returned (.tuple #[.int .i64 a, .int .i64 b]) ∧ Below w.heap.size w w'
def Bl (b : Bool) (w : World) (e : Ending) (w' : World) : Prop := e = .returned (.bool b) ∧ Below w.heap.size w w'

theorem impl_dayOf (f : Bool) (y m d : Int) (w : World) :
    Calls Tryz.prog 159 #[.agg #[.int .i64 y, .int .i64 m, .int .i64 d], .int .i64 (rk f)] w (Two (dayNum f y m d) (dayErr f y m d) w) := by
  by_cases hv : Cal.valid f y m d
  · exact (impl_number f y m d hv w).mono fun e w' ⟨h1, h2⟩ => ⟨by rw [h1]; simp [dayNum, dayErr, hv], h2⟩
  · exact (impl_number_no f y m d (vb_false hv) w).mono fun e w' ⟨h1, h2⟩ => ⟨by rw [h1]; simp [dayNum, dayErr, hv], h2⟩

/-- The date of a day, or the refusal, as an answer of four numbers. -/
def DateIs (f : Bool) (n y m d c : Int) : Prop :=
  (Cal.ys f 1 ≤ n ∧ n < Cal.ys f 2001 ∧ c = 0 ∧ Cal.valid f y m d ∧ Cal.num f y m d = n) ∨ ((n < Cal.ys f 1 ∨ Cal.ys f 2001 ≤ n) ∧ c = 2 ∧ y = 0 ∧ m = 0 ∧ d = 0)
theorem DateIs.uniq {f : Bool} {n y m d c y' m' d' c' : Int} (h : DateIs f n y m d c) (h' : DateIs f n y' m' d' c') : y = y' ∧ m = m' ∧ d = d' ∧ c = c' := by
  rcases h with ⟨a1, a2, rfl, hv, hn⟩ | ⟨a, rfl, rfl, rfl, rfl⟩ <;> rcases h' with ⟨b1, b2, rfl, hv', hn'⟩ | ⟨b, rfl, rfl, rfl, rfl⟩
  · obtain ⟨e1, e2, e3⟩ := Cal.num_inj f hv hv' (hn.trans hn'.symm)
    exact ⟨e1, e2, e3, rfl⟩
  · omega
  · omega
  · exact ⟨rfl, rfl, rfl, rfl⟩
/-- What a call leaves that answers a date and a code. -/
def DateRet (f : Bool) (n : Int) (w : World) (e : Ending) (w' : World) : Prop :=
  ∃ y m d c : Int, e = .returned (.tuple #[.agg #[.int .i64 y, .int .i64 m, .int .i64 d], .int .i64 c]) ∧ DateIs f n y m d c ∧ Below w.heap.size w w'

theorem impl_dateOf (f : Bool) (n : Int) (w : World) : Calls Tryz.prog 92 #[.int .i64 (rk f), .int .i64 n] w (DateRet f n w) := by
  by_cases h1 : Cal.ys f 1 ≤ n
  · by_cases h2 : n < Cal.ys f 2001
    · exact (impl_date f n h1 h2 w).mono fun e w' ⟨y, m, d, he, hv, hn, hb⟩ => ⟨y, m, d, 0, he, .inl ⟨h1, h2, rfl, hv, hn⟩, hb⟩
    · exact (impl_date_no f n (by omega) w).mono fun e w' ⟨he, hb⟩ => ⟨0, 0, 0, 2, he, .inr ⟨by omega, rfl, rfl, rfl, rfl⟩, hb⟩
  · exact (impl_date_no f n (by omega) w).mono fun e w' ⟨he, hb⟩ => ⟨0, 0, 0, 2, he, .inr ⟨by omega, rfl, rfl, rfl, rfl⟩, hb⟩

/-- The weekday and the code of a day. -/
def wkNum (n : Int) : Int := if 0 ≤ n ∧ n ≤ 730499 then (n + 5) % 7 else 0
def wkErr (n : Int) : Int := if 0 ≤ n ∧ n ≤ 730499 then 0 else 2

end Go.Proofs.YtfhcakpmlppbkaaGreatDoor

namespace Go.Proofs.YtfhcakpmlppbkaaGreatDoor
open Go.RowKit

/-- Some blocks of memory that the call itself has made, known whole; nothing that was there in w0 has changed. -/
structure St (L : List (Nat × TypeId × Array Value)) (w0 w : World) : Prop where
  blk : ∀ x ∈ L, Blk w x.1 x.2.1 x.2.2
  bel : Below w0.heap.size w0 w
  old : ∀ x ∈ L, w0.heap.size ≤ x.1
section
variable {L : List (Nat × TypeId × Array Value)} {w0 w w' : World}
theorem St.start (w : World) : St [] w w := ⟨(fun _ h => (by cases h)), Below.refl _ _, (fun _ h => (by cases h))⟩
theorem St.call (h : St L w0 w) (hb : Below w.heap.size w w') : St L w0 w' :=
  ⟨fun x hx => (h.blk x hx).below hb (h.blk x hx).lt, h.bel.trans (hb.mono h.bel.size), h.old⟩
theorem St.allocAny (h : St L w0 w) (o : Obj) : St L w0 (w.alloc o) := h.call ((Below.refl _ _).alloc (Nat.le_refl _) _)
theorem St.alloc (h : St L w0 w) (t : TypeId) (cs : Array Value) : St ((w.heap.size, t, cs) :: L) w0 (w.alloc (.cells cs t)) :=
  ⟨fun x hx => by
    rcases List.mem_cons.1 hx with rfl | hx
    · exact Blk.new _ _ _
    · exact (h.allocAny _).blk x hx, (h.allocAny _).bel, fun x hx => by
    rcases List.mem_cons.1 hx with rfl | hx
    · exact h.bel.size
    · exact h.old x hx⟩
theorem St.b0 {g : Nat} {t : TypeId} {cs : Array Value} (h : St ((g, t, cs) :: L) w0 w) : Blk w g t cs := h.blk _ (List.mem_cons_self ..)
theorem St.tail {x : Nat × TypeId × Array Value} (h : St (x :: L) w0 w) : St L w0 w := ⟨fun y hy => h.blk y (List.mem_cons_of_mem _ hy), h.bel, fun y hy => h.old y (List.mem_cons_of_mem _ hy)⟩
theorem St.b1 {x0 : Nat × TypeId × Array Value} {g : Nat} {t : TypeId} {cs : Array Value} (h : St (x0 :: (g, t, cs) :: L) w0 w) : Blk w g t cs := h.tail.b0
theorem St.b2 {x0 x1 : Nat × TypeId × Array Value} {g : Nat} {t : TypeId} {cs : Array Value} (h : St (x0 :: x1 :: (g, t, cs) :: L) w0 w) : Blk w g t cs := h.tail.b1
theorem St.b3 {x0 x1 x2 : Nat × TypeId × Array Value} {g : Nat} {t : TypeId} {cs : Array Value} (h : St (x0 :: x1 :: x2 :: (g, t, cs) :: L) w0 w) : Blk w g t cs := h.tail.b2
theorem St.b4 {x0 x1 x2 x3 : Nat × TypeId × Array Value} {g : Nat} {t : TypeId} {cs : Array Value} (h : St (x0 :: x1 :: x2 :: x3 :: (g, t, cs) :: L) w0 w) : Blk w g t cs := h.tail.b3
theorem St.drewN (h : St L w0 w) (n : Nat) : St L w0 (w.drewN n) := ⟨fun x hx => (h.blk x hx).drewN n, below_drewN h.bel n, h.old⟩
end

end Go.Proofs.YtfhcakpmlppbkaaGreatDoor
