/- Contracts of spec's draws for the laws over words and phrases. -/
import Derived.Test.YtdpbikephjnndaaWrdJ
import Derived.Test.YtdpbikephjnndaaWrdG
namespace Go.Proofs.Ytdpbikephjnndaa.Wrd
open Go.RowKit

theorem ptL_len (ps : List (List UInt8)) : (ptL ps).length ≤ 20000 := by
  unfold ptL
  split
  · rename_i h
    have h2 := J_len (ps := ps) (fun p hp => by have := (h.1 p hp).2.2; omega) ps.length (Nat.le_refl _)
    rw [J_all] at h2
    have := h.2
    omega
  · simp

/-- What a call leaves that draws two texts. -/
def DrawnW2 (w : World) (e : Ending) (w' : World) : Prop :=
  ∃ a b : List UInt8, e = .returned (.tuple #[.string (str a), .string (str b)]) ∧ a.length ≤ 21 ∧ b.length ≤ 21 ∧ Below w.heap.size w w'
theorem DrawnW2.mk {w w' : World} {s t : ByteArray} (h1 : s.size ≤ 21) (h2 : t.size ≤ 21) (hb : Below w.heap.size w w') : DrawnW2 w (.returned (.tuple #[.string s, .string t])) w' :=
  ⟨s.data.toList, t.data.toList, by simp [str], by simpa using h1, by simpa using h2, hb⟩
/-- What a call leaves that draws a list of texts. -/
def DrawnLs (w : World) (e : Ending) (w' : World) : Prop :=
  ∃ (A : Option Addr) (c : Nat) (ps : List (List UInt8)), e = .returned (.slice A ps.length c) ∧ Sl ps ∧ ps.length ≤ c ∧ RdS w' A ps ∧ Below w.heap.size w w'
/-- And two lists. -/
def DrawnLs2 (w : World) (e : Ending) (w' : World) : Prop :=
  ∃ (A : Option Addr) (c : Nat) (ps : List (List UInt8)) (A2 : Option Addr) (c2 : Nat) (qs : List (List UInt8)),
    e = .returned (.tuple #[.slice A ps.length c, .slice A2 qs.length c2]) ∧ Sl ps ∧ Sl qs ∧ RdS w' A ps ∧ RdS w' A2 qs ∧ Below w.heap.size w w'
/-- And a text, a list and a number. -/
def DrawnNear (w : World) (e : Ending) (w' : World) : Prop :=
  ∃ (s : List UInt8) (A : Option Addr) (c : Nat) (ps : List (List UInt8)) (k : Int),
    e = .returned (.tuple #[.string (str s), .slice A ps.length c, .int .i64 k]) ∧ s.length ≤ 21 ∧ Sl ps ∧ -1 ≤ k ∧ k ≤ 21 ∧ RdS w' A ps ∧ Below w.heap.size w w'

set_option maxHeartbeats 1000000 in
theorem spec_DrawWordDistance (A : Option Addr) (len cap : Nat) (zs : List Int) (W w : World) (hrow : IsRow .u8 W A len cap zs) (hW : Below W.heap.size W w) :
    Calls Try.prog 12 #[.slice A len cap] w (DrawnW2 w) := by
  go_enter Try.func12, Try.ntmps12
  go_wp2_with fail
  refine (spec_from A len cap zs W _ hrow hW).mono ?_
  rintro e w1 ⟨g, rfl, hg, s1, b1⟩
  go_wp2_with fail
  refine (spec_drawWord A len cap zs W _ g s1).mono ?_
  rintro e w2 ⟨s, rfl, hs, s2, k2⟩
  have b2 := b1.trans (only_below k2 hg b1.size)
  go_wp2_with fail
  refine (spec_drawWord A len cap zs W _ g s2).mono ?_
  rintro e w3 ⟨t, rfl, ht, s3, k3⟩
  have b3 := b2.trans (only_below k3 hg b2.size)
  have H := Lib.hid (DrawnW2.mk hs ht b3)
  clear s1 s2 s3 k2 k3 b1 b2 b3 hs ht
  go_wp2_with fail
  go_ret2
  exact H.out

set_option maxHeartbeats 1000000 in
theorem spec_DrawNormalWord (A : Option Addr) (len cap : Nat) (zs : List Int) (W w : World) (hrow : IsRow .u8 W A len cap zs) (hW : Below W.heap.size W w) :
    Calls Try.prog 17 #[.slice A len cap] w (DrawnStr 21 w) := by
  go_enter Try.func17, Try.ntmps17
  go_wp2_with fail
  refine (spec_from A len cap zs W _ hrow hW).mono ?_
  rintro e w1 ⟨g, rfl, hg, s1, b1⟩
  go_wp2_with fail
  refine (spec_drawWord A len cap zs W _ g s1).mono ?_
  rintro e w2 ⟨s, rfl, hs, s2, k2⟩
  have b2 := b1.trans (only_below k2 hg b1.size)
  go_wp2_with fail
  go_ret
  exact ⟨s.data.toList, by simp [str], by simpa using hs, b2⟩

def nearP (p : Int) : Prop := -1 ≤ p ∧ p ≤ 21
set_option maxHeartbeats 1000000 in
theorem spec_DrawNearestWord (A : Option Addr) (len cap : Nat) (zs : List Int) (W w : World) (hrow : IsRow .u8 W A len cap zs) (hW : Below W.heap.size W w) :
    Calls Try.prog 20 #[.slice A len cap] w (DrawnNear w) := by
  go_enter Try.func20, Try.ntmps20
  go_wp2_with fail
  refine (spec_from A len cap zs W _ hrow hW).mono ?_
  rintro e w1 ⟨g, rfl, hg, s1, b1⟩
  have hg1 := s1.lt
  go_wp2_with fail
  refine (spec_drawWord A len cap zs W _ g s1).mono ?_
  rintro e w2 ⟨t, rfl, ht, s2, k2⟩
  have hg2 := s2.lt
  have b2 := b1.trans (only_below k2 hg b1.size)
  clear s1 k2 b1
  go_wp2_with fail
  refine (spec_drawPhrase A len cap zs W _ g s2).mono ?_
  rintro e w3 ⟨v, ps, rfl, hs, own, s3, k3⟩
  have b3 := b2.trans (only_below k3 hg b2.size)
  obtain ⟨A3, c3, hv, -⟩ := own.form
  subst hv
  clear s2 k3 b2
  go_wp2_with fail
  refine (spec_next A len cap zs W _ g 23 s3).mono ?_
  rintro e w4 ⟨x, rfl, x0, x1, s4, k4⟩
  have x2 : x < 23 := by omega
  have b4 := b3.trans (only_below k4 hg b3.size)
  have own4 := own.grown k4 hg2
  clear s3 k4 b3 own x1
  go_wp2_with fail
  have q := Blk.new w4 2 #[.int .i64 0, .int .i64 1, .int .i64 2, .int .i64 3, .int .i64 20, .int .i64 (x - 1)]
  have hne : w4.heap.size ≠ g := by have := s4.lt; omega
  refine (spec_pick A len cap zs W _ g w4.heap.size 6 2 [0, 1, 2, 3, 20, x - 1] nearP (s4.alloc _) q hne rfl (by omega) (by omega) (by intro z hz; unfold nearP; simp at hz; omega)).mono ?_
  rintro e w5 ⟨p, rfl, ⟨p0, p1⟩, s5, k5⟩
  have b5 := (b4.alloc b4.size (.cells #[.int .i64 0, .int .i64 1, .int .i64 2, .int .i64 3, .int .i64 20, .int .i64 (x - 1)] 2)).trans (only_below k5 hg (b4.alloc b4.size _).size)
  have own5 := (own4.alloc (.cells #[.int .i64 0, .int .i64 1, .int .i64 2, .int .i64 3, .int .i64 20, .int .i64 (x - 1)] 2)).grown k5 hg2
  obtain ⟨A5, c5, hv, -, rd⟩ := own5.form
  injection hv with e1 e2 e3
  subst e1 e3
  have H : Hid (DrawnNear w (.returned (.tuple #[.string t, .slice A3 ps.length c3, .int .i64 p])) w5) :=
    Lib.hid ⟨t.data.toList, A3, c3, ps, p, by simp [str], by simpa using ht, hs, p0, p1, rd, b5⟩
  clear own4 own5 s4 s5 k5 b4 b5 q hne rd ht p0 p1 hs
  go_wp2_with fail
  go_ret3
  exact H.out

end Go.Proofs.Ytdpbikephjnndaa.Wrd
