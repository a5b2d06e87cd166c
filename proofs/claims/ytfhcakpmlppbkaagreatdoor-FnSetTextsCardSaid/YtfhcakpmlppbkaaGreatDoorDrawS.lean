/- Contracts of spec's drawing of spans and of sets. -/
import Derived.Test.YtfhcakpmlppbkaaGreatDoorDraw3
import Derived.Test.YtfhcakpmlppbkaaGreatDoorMake
import Derived.Test.YtfhcakpmlppbkaaGreatDoorUnite
namespace Go.Proofs.YtfhcakpmlppbkaaGreatDoor.Sets
open Go.RowKit

section
variable {w w' w1 w2 : World} {B g : Nat} {v : Value} {xs : L}
theorem Own.grown (h : Own w B v xs) (hb : w.grownBy w' (some g)) (hg : g < B) : Own w' B v xs :=
  World.ownsRow.kept h hb (by
    cases hv : v.ownBlock with
    | none => exact .inl rfl
    | some k =>
      have := (World.ownsRow.lt h k hv).1
      exact .inr (fun e => by injection e with e; omega))
theorem grown_own {row : Option Nat} (h : w.grownBy w1 (some g)) (h2 : w1.grownBy w2 row) (hr : ∀ k, row = some k → w.heap.size ≤ k) : w.grownBy w2 (some g) :=
  ⟨h2.os.trans h.os, h2.tape.trans h.tape, h2.output.trans h.output, Nat.le_trans h.size h2.size, fun i hi hne => (h2.block i (Nat.lt_of_lt_of_le hi h.size) (fun e => by have := hr i e.symm; omega)).trans (h.block i hi hne)⟩
end
theorem src_own {A : Option Addr} {len cap : Nat} {zs : List Int} {W w w' : World} {g : Nat} {row : Option Nat} (h : Src A len cap zs W w g) (hb : w.grownBy w' row) (hr : ∀ k, row = some k → g < k) : Src A len cap zs W w' g := by
  obtain ⟨h1, h2, h3, p, s, h4, h5, h6, h7⟩ := h
  refine ⟨h1, ?_, h3, p, s, h4, h5, h6, h7.grown hb (fun e => by have := hr g e.symm; omega)⟩
  exact ⟨hb.os.trans h2.os, hb.tape.trans h2.tape, hb.output.trans h2.output, Nat.le_trans h2.size hb.size, fun i hi => (hb.block i (Nat.lt_of_lt_of_le hi h2.size) (fun e => by have := hr i e.symm; omega)).trans (h2.block i hi)⟩

/-- One span appended, a source of drawn numbers beside it. -/
theorem append_src {ops : Array Oper} {rest : List Oper} {o : Oper} {a : Act} {Q : Exit → Act → World → Prop} {A : Option Addr} {len cap : Nat} {zs : List Int} {W w w1 : World} {g : Nat} {v : Value} {acc : L} {f e : Int} {N : Nat} (hg : w1.heap.size = N) (hs : Src A len cap zs W w1 g) (hgw : g < w.heap.size) (hgr : w.grownBy w1 (some g)) (hown : Own w1 w.heap.size v acc)
    (hN : acc.length + 1 ≤ 8000000) (hgd : o.guard = none) (s x : Operand) (ho : o.op = .call { callee := .builtin .append, args := #[s, x], argTypes := #[24, 24] })
    (hs1 : a.eval s = v) (hx : a.eval x = .slice (some ⟨N, 0, none⟩) 1 1)
    (K : ∀ v2 w2, Own w2 w.heap.size v2 (acc ++ [(f, e)]) → Src A len cap zs W w2 g → w.grownBy w2 (some g) → wpList Tryz.prog ops Q rest (a.put o.dst v2) w2) :
    wpList Tryz.prog ops Q (o :: rest) a (w1.alloc (.cells #[.int .i64 f, .int .i64 e] 36)) := by
  subst hg
  obtain ⟨i0, hi, hz0, hz1, hz2⟩ := info_parts info_span
  refine wpList_append_own _ hgd s x 24 ho w.heap.size 36 i0 (.agg #[.int .i64 0, .int .i64 0]) 2 16 Tryz.underlying24 hi hz0 hz1 hz2 rfl (by decide) v _ _ hs1 (hown.alloc _) ⟨w1.heap.size, 0, none⟩ 1 1 [.int .i64 f, .int .i64 e] hx rfl (news_two _ _ _) (one_two _ _) ?_ ?_ ?_ ?_
  · unfold maxLen; omega
  · omega
  · have := hgr.size; simp; omega
  · intro v2 w2 hown2 hgrow2 _
    have hlt : ∀ k, v.ownBlock = some k → w.heap.size ≤ k := fun k hk => (World.ownsRow.lt hown k hk).1
    exact K v2 w2 (by unfold Own; rw [app_len, cells_snoc]; exact hown2) (src_own (hs.alloc _) hgrow2 (fun k hk => by have := hlt k hk; omega)) (grown_own (only_alloc hgr _) hgrow2 hlt)

theorem Own.one {w : World} {B : Nat} (hB : B ≤ w.heap.size) (f e : Int) : Own (w.alloc (.cells #[.int .i64 f, .int .i64 e] 36)) B (.slice (some ⟨w.heap.size, 0, none⟩) 1 1) [(f, e)] :=
  ⟨rfl, .inr ⟨w.heap.size, 1, _, rfl, hB, heap_alloc_new w _, Nat.le_refl _, by unfold maxLen; omega, rfl, rfl⟩⟩
/-- Spans appended, a source of drawn numbers beside them. -/
theorem append_src_rd {ops : Array Oper} {rest : List Oper} {o : Oper} {a : Act} {Q : Exit → Act → World → Prop} {A D : Option Addr} {len cap n c : Nat} {zs : List Int} {W w w1 : World} {g : Nat} {v : Value} {acc ys : L} (hs : Src A len cap zs W w1 g) (hgw : g < w.heap.size) (hgr : w.grownBy w1 (some g)) (hown : Own w1 w.heap.size v acc) (hr : Rd w1 D n ys)
    (hN : acc.length + n ≤ 8000000) (hgd : o.guard = none) (s x : Operand) (ho : o.op = .call { callee := .builtin .append, args := #[s, x], argTypes := #[24, 24] })
    (hs1 : a.eval s = v) (hx : a.eval x = .slice D n c)
    (K : ∀ v2 w2, Own w2 w.heap.size v2 (acc ++ ys) → Src A len cap zs W w2 g → w.grownBy w2 (some g) → wpList Tryz.prog ops Q rest (a.put o.dst v2) w2) :
    wpList Tryz.prog ops Q (o :: rest) a w1 := by
  obtain ⟨i0, hi, hz0, hz1, hz2⟩ := info_parts info_span
  have hl := hr.1
  have hlt : ∀ k, v.ownBlock = some k → w.heap.size ≤ k := fun k hk => (World.ownsRow.lt hown k hk).1
  rcases D with _ | ad
  · have hn : n = 0 := by
      rcases Nat.eq_zero_or_pos n with h | h
      · exact h
      · obtain ⟨_, _, e, _⟩ := hr.2 h
        cases e
    subst hn
    have e : ys = [] := List.eq_nil_of_length_eq_zero hl
    subst e
    refine wpList_plain hgd fun K' hK => ?_
    have hrun := append_nil (o := o) hown c
    unfold Oper.wp
    simp [execOp, ho, resolve, invoke, builtin, hs1, hx, hrun, Result.andThen]
    exact hK _ _ (K v w1 (by simpa using hown) hs hgr)
  have hsrc : ∀ j v, (cells ys)[j]? = some v → w1.cell? (ad.add j) = some v := by
    rcases Nat.eq_zero_or_pos n with hn | hn
    · have e : ys = [] := List.eq_nil_of_length_eq_zero (by omega)
      subst e
      exact fun j v h => by simp [cells] at h
    · obtain ⟨ad', e, h⟩ := hr.cells hn
      injection e with e
      subst e
      exact h
  refine wpList_append_own _ hgd s x 24 ho w.heap.size 36 i0 (.agg #[.int .i64 0, .int .i64 0]) 2 16 Tryz.underlying24 hi hz0 hz1 hz2 rfl (by decide) v _ _ hs1 hown ad n c (cells ys) hx (by rw [cells_length, hl]) hsrc (cells_one ys) (by unfold maxLen; omega) (by omega) hgr.size ?_
  intro v2 w2 hown2 hgrow2 _
  exact K v2 w2 (by unfold Own; rw [List.length_append, cells_append, hl]; exact hown2) (src_own hs hgrow2 (fun k hk => by have := hlt k hk; omega)) (grown_own hgr hgrow2 hlt)

/-- What a call leaves that draws spans with a property. -/
def DrewS (A : Option Addr) (len cap : Nat) (zs : List Int) (W w : World) (g : Nat) (P : L → Prop) (e : Ending) (w' : World) : Prop :=
  ∃ (v : Value) (xs : L), e = .returned v ∧ P xs ∧ Own w' w.heap.size v xs ∧ Src A len cap zs W w' g ∧ w.grownBy w' (some g)

def SpansLoop (A : Option Addr) (len cap : Nat) (zs : List Int) (W w : World) (g : Nat) (m : Nat) (v n : Value) (wr : World) : Prop :=
  ∃ (r : Nat) (acc : L), r = m ∧ n = .int .i64 r ∧ acc.length + r ≤ 6 ∧ (∀ s ∈ acc, ok s) ∧ Own wr w.heap.size v acc ∧ Src A len cap zs W wr g ∧ w.grownBy wr (some g)

set_option maxHeartbeats 2000000 in
set_option maxRecDepth 100000 in
theorem spec_drawSpans (A : Option Addr) (len cap : Nat) (zs : List Int) (W w : World) (g : Nat) (b : Int) (hb0 : 400000 ≤ b) (hb1 : b ≤ 400100) (hs : Src A len cap zs W w g) :
    Calls Tryz.prog 46 #[.pointer (some ⟨g, 0, none⟩), .int .i64 b] w (DrewS A len cap zs W w g fun xs => xs.length ≤ 6 ∧ ∀ s ∈ xs, ok s) := by
  have hgw := hs.lt
  go_enter Tryz.func46, Tryz.ntmps46
  go_wp2_with fail
  refine (spec_next A len cap zs W _ g 6 (hs.alloc _)).mono ?_
  rintro e w1 ⟨x, rfl, x0, x1, s1, k1⟩
  have o1 : Own w1 w.heap.size (.slice (some ⟨w.heap.size, 0, none⟩) 0 0) [] := Own.grown (Own.made0 w) k1 hgw
  have h1 : w.grownBy w1 (some g) := World.grownBy.trans (only_alloc (World.grownBy.refl _ _) _) k1
  obtain ⟨m0, rfl⟩ := Int.eq_ofNat_of_zero_le x0
  go_wp2_with fail
  go_loopg [5, 6] m0 (fun m v n wr => SpansLoop A len cap zs W w g m v n wr)
  case atStart => exact ⟨m0, [], rfl, rfl, by simp; omega, by simp, o1, s1, h1⟩
  case round =>
    obtain ⟨m, acc, hm, rfl, hl, hok, own, sr, gr⟩ := hrel
    subst hm
    have HO := Lib.hid hok
    clear hok s1 k1 o1 h1 x0 x1
    rcases m with _ | m
    · go_wp2_with fail
      go_ret
      exact ⟨_, acc, rfl, ⟨by omega, HO.out⟩, own, sr, gr⟩
    · have hp : (0 : Int) < (m : Int) + 1 := by omega
      go_wp2_with fail
      refine (spec_next A len cap zs W _ g 120 sr).mono ?_
      rintro e w2 ⟨y, rfl, y0, y1, s2, k2⟩
      have y2 : y < 120 := by omega
      have own2 := own.grown k2 hgw
      have gr2 := World.grownBy.trans gr k2
      clear own sr gr k2 y1
      go_wp2_with fail
      have q := Blk.new w2 2 #[.int .i64 1, .int .i64 5, .int .i64 40]
      have hne : w2.heap.size ≠ g := by have := s2.lt; omega
      refine (spec_pick A len cap zs W _ g w2.heap.size 3 2 [1, 5, 40] (fun p => 1 ≤ p ∧ p ≤ 40) (s2.alloc _) q hne rfl (by omega) (by omega) (by simp)).mono ?_
      rintro e w3 ⟨p, rfl, ⟨p0, p1⟩, s3, k3⟩
      have own3 := (own2.below (w' := w2.alloc (.cells #[.int .i64 1, .int .i64 5, .int .i64 40] 2)) ((Below.refl _ _).alloc (Nat.le_refl _) _)).grown k3 hgw
      have gr3 := World.grownBy.trans (only_alloc gr2 _) k3
      clear own2 gr2 s2 k3 q hne
      go_wp2_with fail
      refine (spec_next A len cap zs W _ g p s3).mono ?_
      rintro e w4 ⟨z, rfl, z0, z1, s4, k4⟩
      have own4 := own3.grown k4 hgw
      have gr4 := World.grownBy.trans gr3 k4
      have z2 : z < 40 := by omega
      clear own3 gr3 s3 k4 z1 p0 p1
      have HS := Lib.hid s4
      have HG := Lib.hid gr4
      have HW := Lib.hid own4
      clear s4 gr4 own4
      go_wp2_with (at_builtin; refine append_src rfl HS.out hgw HG.out HW.out (by omega) rfl (.tmp 19) (.tmp 29) rfl rfl rfl ?_)
      intro v5 w5 own5 s5 gr5
      have H2 := Lib.hid (show ∀ s ∈ acc ++ [(b + y, b + y + z)], ok s from fun s hs => by
        rcases List.mem_append.1 hs with h | h
        · exact HO.out s h
        · rcases List.mem_cons.1 h with rfl | h
          · exact ⟨by simp only; omega, by simp only; omega, by simp only; omega⟩
          · cases h)
      clear HS HG HW HO
      go_wp2_with fail
      go_roundg m
      case measure => omega
      case rel => exact ⟨m, _, rfl, by go_num, by simp; omega, H2.out, own5, s5, gr5⟩

/-- What a call leaves that draws a list of spans near to a set. -/
abbrev DrewSet (A : Option Addr) (len cap : Nat) (zs : List Int) (W w : World) (g : Nat) := DrewS A len cap zs W w g Sm
theorem make_sm {xs : L} (hl : xs.length ≤ 6) (ho : ∀ s ∈ xs, ok s) : (make xs).length ≤ 6 ∧ ∀ s ∈ make xs, ok s :=
  ⟨by have := make_length xs; omega, (make_nf ho).ok_of⟩
theorem Sm.of_ok {xs : L} (hl : xs.length ≤ 2000) (ho : ∀ s ∈ xs, ok s) : Sm xs := ⟨fun s hs => by have := ho s hs; unfold ok at this; omega, hl⟩
theorem own_fresh {w w1 w2 : World} {v : Value} {xs : L} {g : Nat} (h : Own w2 w1.heap.size v xs) (hg : w.grownBy w1 (some g)) : Own w2 w.heap.size v xs := h.mono hg.size

def LongLoop (A : Option Addr) (len cap : Nat) (zs : List Int) (W w : World) (g : Nat) (m : Nat) (v i : Value) (wr : World) : Prop :=
  ∃ (k : Nat) (acc : L), i = .int .i64 k ∧ m = 302 - k ∧ k ≤ 301 ∧ acc.length = k ∧ (∀ s ∈ acc, ok s) ∧ Own wr w.heap.size v acc ∧ Src A len cap zs W wr g ∧ w.grownBy wr (some g)

set_option maxHeartbeats 4000000 in
set_option maxRecDepth 100000 in
theorem spec_drawSet (A : Option Addr) (len cap : Nat) (zs : List Int) (W w : World) (g : Nat) (hs : Src A len cap zs W w g) :
    Calls Tryz.prog 33 #[.pointer (some ⟨g, 0, none⟩)] w (DrewSet A len cap zs W w g) := by
  have hgw := hs.lt
  go_enter Tryz.func33, Tryz.ntmps33
  go_wp2_with fail
  refine (spec_next A len cap zs W _ g 60 hs).mono ?_
  rintro e w1 ⟨x, rfl, x0, x1, s1, k1⟩
  have x2 : x < 60 := by omega
  clear x1
  go_wp2_with fail
  refine (spec_drawSpans A len cap zs W _ g (400000 + x) (by omega) (by omega) s1).mono ?_
  rintro e w2 ⟨v2, xs, rfl, ⟨hl, hok⟩, own2, s2, k2⟩
  obtain ⟨A2, c2, rfl, hr2⟩ := own2.form
  have rd2 := hr2.rd
  have gr2 := World.grownBy.trans k1 k2
  have HK := Lib.hid hok
  obtain ⟨ml, mo⟩ := make_sm hl hok
  have MO := Lib.hid mo
  clear own2 hr2 k1 k2 s1 hok mo x0 x2
  go_wp2_with fail
  refine (spec_makeO A2 xs.length c2 xs (by omega) HK w2 rd2).mono ?_
  rintro e w3 ⟨v3, rfl, own3', b3⟩
  have own3 := own_fresh own3' gr2
  have s3 := s2.below b3
  have gr3 := World.grownBy.trans gr2 (only_of_below b3 (some g))
  clear own3' b3 s2 gr2 rd2 HK
  generalize make xs = ys at own3 ml MO
  go_wp2_with fail
  refine (spec_next A len cap zs W _ g 60 s3).mono ?_
  rintro e w4 ⟨y, rfl, y0, y1, s4, k4⟩
  have own4 := own3.grown k4 hgw
  have gr4 := World.grownBy.trans gr3 k4
  clear own3 gr3 s3 k4 y1
  by_cases h0 : y = 0
  · subst h0
    go_wp2_with fail
    have q := Blk.new w4 2 #[.int .i64 (-1), .int .i64 400010, .int .i64 730499, .int .i64 730500]
    have hne : w4.heap.size ≠ g := by have := s4.lt; omega
    refine (spec_pick A len cap zs W _ g w4.heap.size 4 2 [-1, 400010, 730499, 730500] (fun p => -1 ≤ p ∧ p ≤ 730500) (s4.alloc _) q hne rfl (by omega) (by omega) (by simp)).mono ?_
    rintro e w5 ⟨p, rfl, ⟨p0, p1⟩, s5, k5⟩
    have own5 := (own4.below (w' := w4.alloc (.cells #[.int .i64 (-1), .int .i64 400010, .int .i64 730499, .int .i64 730500] 2)) ((Below.refl _ _).alloc (Nat.le_refl _) _)).grown k5 hgw
    have gr5 := World.grownBy.trans (only_alloc gr4 _) k5
    clear own4 gr4 s4 k5 q hne
    have HS := Lib.hid s5
    have HG := Lib.hid gr5
    have HW := Lib.hid own5
    clear s5 gr5 own5
    go_wp2_with (at_builtin; refine append_src rfl HS.out hgw HG.out HW.out (by omega) rfl (.tmp 15) (.tmp 20) rfl rfl rfl ?_)
    intro v6 w6 own6 s6 gr6
    have H2 : Sm (ys ++ [(p, 730499)]) := by
      refine ⟨fun s hs => ?_, by simp; omega⟩
      rcases List.mem_append.1 hs with h | h
      · have := MO.out s h
        unfold ok at this
        omega
      · have e : s = (p, 730499) := by simpa using h
        subst e
        refine ⟨?_, ?_, ?_, ?_⟩ <;> simp only <;> omega
    clear HS HG HW
    obtain ⟨A6, c6, rfl, -⟩ := own6.form
    go_wp2_with fail
    go_ret
    exact ⟨_, _, rfl, H2, own6, s6, gr6⟩
  · have e0 : (y == 0) = false := by simpa using h0
    by_cases h1 : y = 1
    · subst h1
      obtain ⟨A4, c4, rfl, -⟩ := own4.form
      go_wp2_with fail
      refine (spec_next A len cap zs W _ g 9 s4).mono ?_
      rintro e w5 ⟨z, rfl, z0, z1, s5, k5⟩
      have gr5 := World.grownBy.trans gr4 k5
      have bw : Below w5.heap.size w5 (w5.alloc (.cells #[.int .i64 0, .int .i64 z] 36)) := (Below.refl _ _).alloc (Nat.le_refl _) _
      have own5 := (own4.grown k5 hgw).below bw
      have rd5 : Rd (w5.alloc (.cells #[.int .i64 0, .int .i64 z] 36)) A4 ys.length ys := by
        obtain ⟨A', c', e, hr⟩ := own5.form
        injection e with e1
        subst e1
        exact hr.rd
      have ow := Own.one (w := w5) (B := w.heap.size) gr5.size 0 z
      have HS := Lib.hid (s5.alloc (.cells #[.int .i64 0, .int .i64 z] 36))
      have HG := Lib.hid (only_alloc gr5 (.cells #[.int .i64 0, .int .i64 z] 36))
      have HW := Lib.hid ow
      have HR := Lib.hid rd5
      have H2 : Sm ([(0, z)] ++ ys) := by
        refine ⟨fun s hs => ?_, by simp; omega⟩
        rcases List.mem_append.1 hs with h | h
        · have e : s = (0, z) := by simpa using h
          subst e
          refine ⟨?_, ?_, ?_, ?_⟩ <;> simp only <;> omega
        · have := MO.out s h
          unfold ok at this
          omega
      clear own4 own5 rd5 ow bw gr4 s4 s5 k5 gr5
      go_wp2_with (at_builtin; refine append_src_rd HS.out hgw HG.out HW.out HR.out (by simp; omega) rfl (.tmp 27) (.tmp 28) rfl rfl rfl ?_)
      intro v6 w6 own6 s6 gr6
      obtain ⟨A6, c6, rfl, -⟩ := own6.form
      clear HS HG HW HR
      go_wp2_with fail
      go_ret
      exact ⟨_, _, rfl, H2, own6, s6, gr6⟩
    · have e1 : (y == 1) = false := by simpa using h1
      by_cases h2 : y = 2
      · subst h2
        have o0 : Own (w4.alloc (.cells #[] 36)) w.heap.size (.slice (some ⟨w4.heap.size, 0, none⟩) 0 0) [] := (Own.made0 w4).mono gr4.size
        have s0' := s4.alloc (.cells #[] 36)
        have g0 := only_alloc gr4 (.cells #[] 36)
        have H0 : LongLoop A len cap zs W w g 302 (.slice (some ⟨w4.heap.size, 0, none⟩) 0 0) (.int .i64 0) (w4.alloc (.cells #[] 36)) := ⟨0, [], rfl, by omega, by omega, rfl, by simp, o0, s0', g0⟩
        have HH := Lib.hid H0
        clear H0 o0 s0' g0 own4 s4 gr4 MO ml
        go_wp2_with fail
        go_loopg [3, 4] 302 (fun m v i wr => LongLoop A len cap zs W w g m v i wr)
        case atStart => exact HH.out
        case round =>
          clear HH
          obtain ⟨k, acc, rfl, hm, hk, hal, hok, own, sr, gr⟩ := hrel
          subst hm
          have HO := Lib.hid hok
          clear hok
          go_wp2_with fail
          refine (spec_next A len cap zs W _ g 2 sr).mono ?_
          rintro e w5 ⟨z, rfl, z0, z1, s5, k5⟩
          have own5 := own.grown k5 hgw
          have gr5 := World.grownBy.trans gr k5
          clear own gr sr k5
          by_cases hgo : (k : Int) < 300 + z
          · have HS := Lib.hid s5
            have HG := Lib.hid gr5
            have HW := Lib.hid own5
            have hal2 := Lib.hid hal
            have hl8 : acc.length + 1 ≤ 8000000 := by omega
            clear s5 gr5 own5 hal
            go_wp2_with (at_builtin; refine append_src rfl HS.out hgw HG.out HW.out hl8 rfl (.tmp 40) (.tmp 46) rfl rfl rfl ?_)
            intro v6 w6 own6 s6 gr6
            have H2 := Lib.hid (show ∀ s ∈ acc ++ [(3 * (k : Int), 3 * (k : Int))], ok s from fun s hs => by
              rcases List.mem_append.1 hs with h | h
              · exact HO.out s h
              · rcases List.mem_cons.1 h with rfl | h
                · exact ⟨by simp only; omega, by simp only; omega, by simp only; omega⟩
                · cases h)
            clear HS HG HW HO
            go_wp2_with fail
            go_roundg (302 - (k + 1))
            case measure => omega
            case rel => exact ⟨k + 1, _, by go_num, rfl, by omega, by have := hal2.out; simp; omega, H2.out, own6, s6, gr6⟩
          · have hl2 : acc.length ≤ 2000 := by omega
            obtain ⟨A5, c5, rfl, -⟩ := own5.form
            have hal2 := Lib.hid hal
            clear hal
            go_wp2_with fail
            go_ret
            exact ⟨_, acc, rfl, Sm.of_ok hl2 HO.out, own5, s5, gr5⟩
      · have e2 : (y == 2) = false := by simpa using h2
        obtain ⟨A4, c4, rfl, -⟩ := own4.form
        go_wp2_with fail
        go_ret
        exact ⟨_, ys, rfl, Sm.of_ok (by omega) MO.out, own4, s4, gr4⟩

end Go.Proofs.YtfhcakpmlppbkaaGreatDoor.Sets
