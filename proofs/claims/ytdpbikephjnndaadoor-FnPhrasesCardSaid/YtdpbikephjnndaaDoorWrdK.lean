/- Contracts of spec's draws for the laws over words and phrases. -/
import Derived.Test.YtdpbikephjnndaaDoorWrdJ
import Derived.Test.YtdpbikephjnndaaDoorWrdG
namespace Go.Proofs.YtdpbikephjnndaaDoor.Wrd
open Go.RowKit

set_option maxHeartbeats 1000000 in
theorem spec_damageL (A : Option Addr) (len cap : Nat) (zs : List Int) (W w : World) (g : Nat) (l : List UInt8) (hl : l.length ≤ 20000) (hs : Src A len cap zs W w g) :
    Calls Tryd.prog 27 #[.pointer (some ⟨g, 0, none⟩), .string (str l)] w (DrewStr A len cap zs W w g 60000) := by
  have sz := str_size l
  have hg := hs.lt
  go_enter Tryd.func27, Tryd.ntmps27
  go_wp2_with fail
  refine (spec_next A len cap zs W _ g ((l.length : Int) + 1) hs).mono ?_
  rintro e w1 ⟨x1, rfl, a1, b1, s1, k1⟩
  obtain ⟨k, rfl⟩ := Int.eq_ofNat_of_zero_le a1
  have hk : k ≤ l.length := by omega
  clear a1 b1
  go_wp2_with fail
  refine (spec_next A len cap zs W _ g 8 s1).mono ?_
  rintro e w2 ⟨x2, rfl, a2, b2, s2, k2⟩
  have k12 := k1.trans k2
  clear b2 k1 k2 s1
  have sz1 : ((str l).extract 0 k).size ≤ 20000 := by have := ByteArray.size_extract (a := str l) (b := 0) (e := k); omega
  by_cases h0 : x2 = 0
  · subst h0
    go_wp2_with fail
    go_ret
    exact ⟨_, rfl, by omega, s2, k12⟩
  by_cases h1 : x2 = 1
  · subst h1
    go_wp2_with fail
    go_region_with (go_at_call 26; (first | (refine (spec_next A len cap zs W _ g 8 s2.drew).mono ?_; rintro e w3 ⟨x3, rfl, a3, b3, s3, k3⟩; obtain ⟨j, t, rfl, jb, ht, F⟩ := wordA a3 b3; clear a3 b3) | (refine (spec_next A len cap zs W _ g 8 (s2.alloc _).drew).mono ?_; rintro e w3 ⟨x3, rfl, a3, b3, s3, k3⟩; obtain ⟨j, t, rfl, jb, ht, F⟩ := wordB a3 b3 s2.lt k3; clear a3 b3)))
    all_goals
      go_wp2_with fail
      go_ret
      refine ⟨_, rfl, by simp only [ByteArray.size_append, ByteArray.size_extract]; omega, ?_, ?_⟩
      · first | exact s3 | exact s3.alloc _
      · first
          | exact (World.grownBy.trans (only_drewN (only_alloc k12 _) 1) k3)
          | exact only_alloc (World.grownBy.trans (only_drewN k12 1) k3) _
  have e0 : (x2 == 0) = false := by simpa using h0
  have e1 : (x2 == 1) = false := by simpa using h1
  clear h0 h1
  by_cases h2 : x2 = 2
  · subst h2
    by_cases hlt : k < l.length
    · have hlt' : (k : Int) < (l.length : Int) := by omega
      go_wp2_with fail
      go_quiet (fail)
      go_wp2_with fail
      go_ret
      exact ⟨_, rfl, by simp only [ByteArray.size_append, ByteArray.size_extract]; omega, s2.below (below_drewN (Below.refl _ _) _), only_drewN k12 _⟩
    · have hlt' : ¬ (k : Int) < (l.length : Int) := by omega
      go_wp2_with fail
      go_ret
      exact ⟨_, rfl, by omega, s2, k12⟩
  · have e2 : (x2 == 2) = false := by simpa using h2
    clear h2
    go_wp2_with fail
    go_ret
    exact ⟨_, rfl, by omega, s2, k12⟩

theorem ptL_len (ps : List (List UInt8)) : (ptL ps).length ≤ 20000 := by
  unfold ptL
  split
  · rename_i h
    have h2 := J_len (ps := ps) (fun p hp => by have := (h.1 p hp).2.2; omega) ps.length (Nat.le_refl _)
    rw [J_all] at h2
    have := h.2
    omega
  · simp

/-- What a call leaves that draws two texts. -/
def DrawnW2 (w : World) (e : Ending) (w' : World) : Prop :=
  ∃ a b : List UInt8, e = .returned (.tuple #[.string (str a), .string (str b)]) ∧ a.length ≤ 21 ∧ b.length ≤ 21 ∧ Below w.heap.size w w'
theorem DrawnW2.mk {w w' : World} {s t : ByteArray} (h1 : s.size ≤ 21) (h2 : t.size ≤ 21) (hb : Below w.heap.size w w') : DrawnW2 w (.returned (.tuple #[.string s, .string t])) w' :=
  ⟨s.data.toList, t.data.toList, by simp [str], by simpa using h1, by simpa using h2, hb⟩
/-- What a call leaves that draws a list of texts. -/
def DrawnLs (w : World) (e : Ending) (w' : World) : Prop :=
  ∃ (A : Option Addr) (c : Nat) (ps : List (List UInt8)), e = .returned (.slice A ps.length c) ∧ Sl ps ∧ ps.length ≤ c ∧ RdS w' A ps ∧ Below w.heap.size w w'
/-- And two lists. -/
def DrawnLs2 (w : World) (e : Ending) (w' : World) : Prop :=
  ∃ (A : Option Addr) (c : Nat) (ps : List (List UInt8)) (A2 : Option Addr) (c2 : Nat) (qs : List (List UInt8)),
    e = .returned (.tuple #[.slice A ps.length c, .slice A2 qs.length c2]) ∧ Sl ps ∧ Sl qs ∧ RdS w' A ps ∧ RdS w' A2 qs ∧ Below w.heap.size w w'
/-- And a text, a list and a number. -/
def DrawnNear (w : World) (e : Ending) (w' : World) : Prop :=
  ∃ (s : List UInt8) (A : Option Addr) (c : Nat) (ps : List (List UInt8)) (k : Int),
    e = .returned (.tuple #[.string (str s), .slice A ps.length c, .int .i64 k]) ∧ s.length ≤ 21 ∧ Sl ps ∧ -1 ≤ k ∧ k ≤ 21 ∧ RdS w' A ps ∧ Below w.heap.size w w'

set_option maxHeartbeats 1000000 in
theorem spec_DrawPhraseText (A : Option Addr) (len cap : Nat) (zs : List Int) (W w : World) (hrow : IsRow .u8 W A len cap zs) (hW : Below W.heap.size W w) :
    Calls Tryd.prog 6 #[.slice A len cap] w (DrawnLs w) := by
  go_enter Tryd.func6, Tryd.ntmps6
  go_wp2_with fail
  refine (spec_from A len cap zs W _ hrow hW).mono ?_
  rintro e w1 ⟨g, rfl, hg, s1, b1⟩
  go_wp2_with fail
  refine (spec_drawPhrase A len cap zs W _ g s1).mono ?_
  rintro e w2 ⟨v, ps, rfl, hs, own, s2, k2⟩
  have b2 := b1.trans (only_below k2 hg b1.size)
  obtain ⟨A2, c2, rfl, hc2, rd⟩ := own.form
  clear own s1 s2 k2 b1
  go_wp2_with fail
  go_ret
  exact ⟨_, _, ps, rfl, hs, hc2, rd, b2⟩

set_option maxHeartbeats 1000000 in
theorem spec_DrawSharedWords (A : Option Addr) (len cap : Nat) (zs : List Int) (W w : World) (hrow : IsRow .u8 W A len cap zs) (hW : Below W.heap.size W w) :
    Calls Tryd.prog 12 #[.slice A len cap] w (DrawnLs2 w) := by
  go_enter Tryd.func12, Tryd.ntmps12
  go_wp2_with fail
  refine (spec_from A len cap zs W _ hrow hW).mono ?_
  rintro e w1 ⟨g, rfl, hg, s1, b1⟩
  go_wp2_with fail
  refine (spec_drawPhrase A len cap zs W _ g s1).mono ?_
  rintro e w2 ⟨v, ps, rfl, hs, own, s2, k2⟩
  have b2 := b1.trans (only_below k2 hg b1.size)
  have hg1 := s1.lt
  clear s1 k2 b1
  go_wp2_with fail
  refine (spec_drawPhrase A len cap zs W _ g s2).mono ?_
  rintro e w3 ⟨v3, qs, rfl, ht, own3, s3, k3⟩
  have b3 := b2.trans (only_below k3 hg b2.size)
  have own2 := own.grown k3 hg1
  obtain ⟨A2, c2, rfl, -, rd⟩ := own2.form
  obtain ⟨A3, c3, rfl, -, rd3⟩ := own3.form
  clear own own2 own3 s2 s3 k3 b2
  go_wp2_with fail
  go_ret2
  exact ⟨_, _, ps, _, _, qs, rfl, hs, ht, rd, rd3, b3⟩

set_option maxHeartbeats 1000000 in
theorem spec_DrawSplitPhrase (A : Option Addr) (len cap : Nat) (zs : List Int) (W w : World) (hrow : IsRow .u8 W A len cap zs) (hW : Below W.heap.size W w) :
    Calls Tryd.prog 9 #[.slice A len cap] w (DrawnStr 60000 w) := by
  go_enter Tryd.func9, Tryd.ntmps9
  go_wp2_with fail
  refine (spec_from A len cap zs W _ hrow hW).mono ?_
  rintro e w1 ⟨g, rfl, hg, s1, b1⟩
  go_wp2_with fail
  refine (spec_drawPhrase A len cap zs W _ g s1).mono ?_
  rintro e w2 ⟨v, ps, rfl, hs, own, s2, k2⟩
  have hb2 := b1.trans (only_below k2 hg b1.size)
  obtain ⟨A2, c2, rfl, -, rd⟩ := own.form
  have hl := ptL_len ps
  have HP := Lib.hid (spec_PhraseText A2 c2 ps hs.tame w2 rd)
  clear s1 k2 own rd hs
  generalize ptL ps = l at *
  generalize ptE ps = ce at *
  go_wp2_with fail
  refine HP.out.mono ?_
  rintro e w3 ⟨rfl, b3⟩
  have hb3 := below_step hb2 b3
  have s3 := s2.below b3
  clear HP s2 b3 hb2
  go_wp2_with fail
  refine (spec_next A len cap zs W _ g 3 s3).mono ?_
  rintro e w4 ⟨x4, rfl, a4, c4, s4, k4⟩
  have b4 := hb3.trans (only_below k4 hg hb3.size)
  by_cases h0 : x4 = 0
  · subst h0
    go_wp2_with fail
    refine (spec_damageL A len cap zs W _ g l hl s4).mono ?_
    rintro e w5 ⟨s, rfl, hsz, s5, k5⟩
    have b5 := b4.trans (only_below k5 hg b4.size)
    go_wp2_with fail
    go_ret
    exact ⟨s.data.toList, by simp [str], by simpa using hsz, b5⟩
  · have e0 : (x4 == 0) = false := by simpa using h0
    clear h0
    go_wp2_with fail
    go_ret
    exact ⟨l, rfl, by omega, b4⟩

end Go.Proofs.YtdpbikephjnndaaDoor.Wrd
