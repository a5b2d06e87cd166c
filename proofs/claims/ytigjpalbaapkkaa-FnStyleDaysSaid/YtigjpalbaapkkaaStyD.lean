/- Contracts of spec's draws of chapter 6. -/
import Derived.Test.YtigjpalbaapkkaaDraw5
import Derived.Test.YtigjpalbaapkkaaStyC
namespace Go.Proofs.Ytigjpalbaapkkaa.Sty
open Go.RowKit
open Go.Proofs.Ytigjpalbaapkkaa.Fea (yr yr_isY spec_oldOf isDay spec_day_yes spec_day_no bs)

def sylish (x : Int) : Prop := 1 ≤ x ∧ x ≤ 2000

set_option maxHeartbeats 1000000 in
theorem spec_drawStyle (A : Option Addr) (len cap : Nat) (zs : List Int) (W w : World) (g : Nat) (hs : Src A len cap zs W w g) :
    Calls Try.prog 65 #[.pointer (some ⟨g, 0, none⟩)] w (DrewP A len cap zs W w g (fun _ => True)) := by
  have hl := hs.lt
  go_enter Try.func65, Try.ntmps65
  go_wp2_with fail
  refine (spec_next A len cap zs W _ g 30 hs).mono ?_
  rintro e w1 ⟨x1, rfl, a1, b1, s1, k1⟩
  clear b1
  by_cases h0 : x1 = 0
  · subst h0
    have z1 := k1.size
    go_wp2_with fail
    refine (spec_pick A len cap zs W _ g _ 2 _ [-1, 7] (fun _ => True) (s1.alloc _) (Blk.new _ _ _) (by omega) rfl (by omega) (by omega) (by simp)).mono ?_
    rintro e w2 ⟨x2, rfl, a2, s2, k2⟩
    go_wp2_with fail
    go_ret
    exact ⟨x2, rfl, a2, s2, (only_alloc k1 _).trans k2⟩
  · have e0 : (x1 == 0) = false := by simpa using h0
    clear h0
    go_wp2_with fail
    refine (spec_next A len cap zs W _ g 7 s1).mono ?_
    rintro e w2 ⟨x2, rfl, a2, b2, s2, k2⟩
    clear b2
    go_wp2_with fail
    go_ret
    exact ⟨x2, rfl, trivial, s2, k1.trans k2⟩

set_option maxHeartbeats 1000000 in
theorem spec_drawSYear (A : Option Addr) (len cap : Nat) (zs : List Int) (W w : World) (g : Nat) (hs : Src A len cap zs W w g) :
    Calls Try.prog 76 #[.pointer (some ⟨g, 0, none⟩)] w (DrewP A len cap zs W w g sylish) := by
  have hl := hs.lt
  go_enter Try.func76, Try.ntmps76
  go_wp2_with fail
  refine (spec_next A len cap zs W _ g 24 hs).mono ?_
  rintro e w1 ⟨x1, rfl, a1, b1, s1, k1⟩
  clear b1
  by_cases h0 : x1 = 0
  · subst h0
    have z1 := k1.size
    go_wp2_with fail
    refine (spec_pick A len cap zs W _ g _ 4 _ [1, 2, 1999, 2000] sylish (s1.alloc _) (Blk.new _ _ _) (by omega) rfl (by omega) (by omega) (by simp [sylish])).mono ?_
    rintro e w2 ⟨x2, rfl, a2, s2, k2⟩
    go_wp2_with fail
    go_ret
    exact ⟨x2, rfl, a2, s2, (only_alloc k1 _).trans k2⟩
  · have e0 : (x1 == 0) = false := by simpa using h0
    clear h0
    go_wp2_with fail
    refine (spec_next A len cap zs W _ g 600 s1).mono ?_
    rintro e w2 ⟨x2, rfl, a2, b2, s2, k2⟩
    have b3 : x2 < 600 := by omega
    have HD := Lib.hid (show sylish (1000 + x2) from ⟨by omega, by omega⟩)
    clear b2
    go_wp2_with fail
    go_ret
    exact ⟨1000 + x2, rfl, HD.out, s2, k1.trans k2⟩

/-- What a call leaves that draws two numbers, three, four. -/
def Drawn2S (P : Int → Prop) (w : World) (e : Ending) (w' : World) : Prop := ∃ a b : Int, e = .returned (.tuple #[.int .i64 a, .int .i64 b]) ∧ P b ∧ Below w.heap.size w w'
def Drawn3S (w : World) (e : Ending) (w' : World) : Prop := ∃ a b c : Int, e = .returned (.tuple #[.int .i64 a, .int .i64 b, .int .i64 c]) ∧ Below w.heap.size w w'
def Drawn4S (w : World) (e : Ending) (w' : World) : Prop := ∃ a b c d : Int, e = .returned (.tuple #[.int .i64 a, .int .i64 b, .int .i64 c, .int .i64 d]) ∧ Below w.heap.size w w'

set_option maxHeartbeats 1000000 in
theorem spec_DrawYearSpan (A : Option Addr) (len cap : Nat) (zs : List Int) (W w : World) (hrow : IsRow .u8 W A len cap zs) (hW : Below W.heap.size W w) :
    Calls Try.prog 36 #[.slice A len cap] w (Drawn2S sylish w) := by
  go_enter Try.func36, Try.ntmps36
  go_wp2_with fail
  refine (spec_from A len cap zs W _ hrow hW).mono ?_
  rintro e w1 ⟨g, rfl, hg, hs, hb⟩
  go_wp2_with fail
  refine (spec_drawStyle A len cap zs W _ g hs).mono ?_
  rintro e w2 ⟨a, rfl, -, s2, k2⟩
  go_wp2_with fail
  refine (spec_drawSYear A len cap zs W _ g s2).mono ?_
  rintro e w3 ⟨y, rfl, hy, s3, k3⟩
  have HY := Lib.hid hy
  clear hy
  go_wp2_with fail
  go_ret2
  exact ⟨a, y, rfl, HY.out, hb.trans (only_below (k2.trans k3) hg hb.size)⟩

set_option maxHeartbeats 2000000 in
theorem spec_DrawYearOn (A : Option Addr) (len cap : Nat) (zs : List Int) (W w : World) (hrow : IsRow .u8 W A len cap zs) (hW : Below W.heap.size W w) :
    Calls Try.prog 16 #[.slice A len cap] w (Drawn2S (fun _ => True) w) := by
  go_enter Try.func16, Try.ntmps16
  go_wp2_with fail
  refine (spec_from A len cap zs W _ hrow hW).mono ?_
  rintro e w1 ⟨g, rfl, hg, hs, hb⟩
  go_wp2_with fail
  refine (spec_drawStyle A len cap zs W _ g hs).mono ?_
  rintro e w2 ⟨a, rfl, -, s2, k2⟩
  go_wp2_with fail
  refine (spec_next A len cap zs W _ g 12 s2).mono ?_
  rintro e w3 ⟨x, rfl, x0, x1, s3, k3⟩
  replace k3 := k2.trans k3
  clear x1 s2 k2
  by_cases h0 : x = 0
  · subst h0
    go_wp2_with fail
    refine (spec_next A len cap zs W _ g 800 s3).mono ?_
    rintro e w4 ⟨p, rfl, p0, p1, s4, k4⟩
    replace k4 := k3.trans k4
    clear p1 s3 k3
    go_wp2_with fail
    refine (spec_next A len cap zs W _ g 800 s4).mono ?_
    rintro e w5 ⟨q, rfl, q0, q1, s5, k5⟩
    replace k5 := k4.trans k5
    have q2 : q < 800 := by omega
    clear q1 s4 k4
    go_wp2_with fail
    refine (spec_drawDay A len cap zs W _ g s5).mono ?_
    rintro e w6 ⟨z, rfl, hz, s6, k6⟩
    replace k6 := k5.trans k6
    have hl := s6.lt
    have z6 := k6.size
    clear hz s5 k5
    go_wp2_with fail
    refine (spec_pick A len cap zs W _ g _ 3 _ [p, 730499 - q, z] (fun _ => True) (s6.alloc _) (Blk.new _ _ _) (by omega) rfl (by omega) (by omega) (by simp)).mono ?_
    rintro e w7 ⟨v, rfl, -, s7, k7⟩
    go_wp2_with fail
    go_ret2
    exact ⟨a, v, rfl, trivial, hb.trans (only_below ((only_alloc k6 _).trans k7) hg hb.size)⟩
  · have e0 : (x == 0) = false := by simpa using h0
    clear h0
    go_wp2_with fail
    refine (spec_next A len cap zs W _ g 220000 s3).mono ?_
    rintro e w4 ⟨p, rfl, p0, p1, s4, k4⟩
    have p2 : p < 220000 := by omega
    clear p1
    go_wp2_with fail
    go_ret2
    exact ⟨a, 365000 + p, rfl, trivial, hb.trans (only_below (k3.trans k4) hg hb.size)⟩

set_option maxHeartbeats 2000000 in
theorem spec_DrawStylesFor (A : Option Addr) (len cap : Nat) (zs : List Int) (W w : World) (hrow : IsRow .u8 W A len cap zs) (hW : Below W.heap.size W w) :
    Calls Try.prog 19 #[.slice A len cap] w (Drawn2S (fun _ => True) w) := by
  go_enter Try.func19, Try.ntmps19
  go_wp2_with fail
  refine (spec_from A len cap zs W _ hrow hW).mono ?_
  rintro e w1 ⟨g, rfl, hg, hs, hb⟩
  go_wp2_with fail
  refine (spec_drawDay A len cap zs W _ g hs).mono ?_
  rintro e w2 ⟨n, rfl, hn, s2, k2⟩
  by_cases hd : isDay n
  · have D := Lib.hid (spec_day_yes n hd)
    have O := Lib.hid (fun w => (spec_oldOf n (by rw [Cal.ys_1]; simpa using hd.1) hd.2 w).mono fun e w' k => Fea.SDate.year k hd.2)
    obtain ⟨y0, y1⟩ := yr_isY n hd.1 hd.2
    clear hd hn
    generalize yr n = yn at *
    have hfd : ∀ (m d : Int) (w : World), (Instr.field 47 (.agg #[.int .i64 yn, .int .i64 m, .int .i64 d]) 0).run Try.prog w = .ok (.int .i64 yn) w := fun _ _ _ => by kernel_rfl
    go_wp2_with fail
    refine (D.out _).mono ?_
    rintro e w3 ⟨rfl, rfl⟩
    go_wp2_with fail
    refine (O.out _).mono ?_
    rintro e w3 ⟨m, d, rfl, hb3⟩
    have s3 := s2.below hb3
    have k3 := k2.trans (only_of_below hb3 (some g))
    clear s2 k2 hb3
    go_wp2_with fail
    refine (spec_next A len cap zs W _ g 3 s3).mono ?_
    rintro e w4 ⟨x, rfl, x0, x1, s4, k4⟩
    have x2 : x < 3 := by omega
    clear x1
    go_wp2_with fail
    go_ret2
    exact ⟨n, yn + x - 1, rfl, trivial, hb.trans (only_below (k3.trans k4) hg hb.size)⟩
  · have D := Lib.hid (spec_day_no n hd)
    clear hd hn
    go_wp2_with fail
    refine (D.out _).mono ?_
    rintro e w3 ⟨rfl, rfl⟩
    go_wp2_with fail
    refine (spec_drawSYear A len cap zs W _ g s2).mono ?_
    rintro e w4 ⟨y, rfl, hy, s4, k4⟩
    clear hy
    go_wp2_with fail
    go_ret2
    exact ⟨n, y, rfl, trivial, hb.trans (only_below (k2.trans k4) hg hb.size)⟩

set_option maxHeartbeats 2000000 in
theorem spec_DrawYearDifference (A : Option Addr) (len cap : Nat) (zs : List Int) (W w : World) (hrow : IsRow .u8 W A len cap zs) (hW : Below W.heap.size W w) :
    Calls Try.prog 22 #[.slice A len cap] w (Drawn3S w) := by
  go_enter Try.func22, Try.ntmps22
  go_wp2_with fail
  refine (spec_from A len cap zs W _ hrow hW).mono ?_
  rintro e w1 ⟨g, rfl, hg, hs, hb⟩
  go_wp2_with fail
  refine (spec_DrawYearOn A len cap zs W _ hrow (hW.trans (hb.mono hW.size))).mono ?_
  rintro e w2 ⟨a0, n, rfl, -, hb2⟩
  have s2 := hs.below hb2
  have hb3 := hb.trans (hb2.mono hb.size)
  clear hs hb hb2
  go_wp2_with fail
  refine (spec_drawStyle A len cap zs W _ g s2).mono ?_
  rintro e w3 ⟨a, rfl, -, s3, k3⟩
  go_wp2_with fail
  refine (spec_drawStyle A len cap zs W _ g s3).mono ?_
  rintro e w4 ⟨b, rfl, -, s4, k4⟩
  go_wp2_with fail
  go_ret3
  exact ⟨a, b, n, rfl, hb3.trans (only_below (k3.trans k4) hg hb3.size)⟩

set_option maxHeartbeats 2000000 in
theorem spec_DrawDaysWith (A : Option Addr) (len cap : Nat) (zs : List Int) (W w : World) (hrow : IsRow .u8 W A len cap zs) (hW : Below W.heap.size W w) :
    Calls Try.prog 33 #[.slice A len cap] w (Drawn4S w) := by
  go_enter Try.func33, Try.ntmps33
  go_wp2_with fail
  refine (spec_from A len cap zs W _ hrow hW).mono ?_
  rintro e w1 ⟨g, rfl, hg, hs, hb⟩
  go_wp2_with fail
  refine (spec_next A len cap zs W _ g 3 hs).mono ?_
  rintro e w2 ⟨x, rfl, x0, x1, s2, k2⟩
  clear x1 hs
  by_cases h0 : x = 0
  · subst h0
    go_wp2_with fail
    refine (spec_drawSYear A len cap zs W _ g s2).mono ?_
    rintro e w3 ⟨y, rfl, -, s3, k3⟩
    replace k3 := k2.trans k3
    clear s2 k2
    go_wp2_with fail
    refine (spec_next A len cap zs W _ g 2 s3).mono ?_
    rintro e w4 ⟨p, rfl, p0, p1, s4, k4⟩
    replace k4 := k3.trans k4
    have p2 : p < 2 := by omega
    clear p1 s3 k3
    go_wp2_with fail
    refine (spec_next A len cap zs W _ g 31 s4).mono ?_
    rintro e w5 ⟨q, rfl, q0, q1, s5, k5⟩
    replace k5 := k4.trans k5
    have q2 : q < 31 := by omega
    clear q1 s4 k4
    go_wp2_with fail
    refine bodyPost_ret (v := .tuple #[.int .i64 4, .int .i64 y, .int .i64 (3 + p), .int .i64 (1 + q)]) (by simp [results, Try.results33, go_sem]) rfl ⟨_, _, _, _, rfl, hb.trans (only_below k5 hg hb.size)⟩
  · have e0 : (x == 0) = false := by simpa using h0
    clear h0
    go_wp2_with fail
    refine (spec_drawStyle A len cap zs W _ g s2).mono ?_
    rintro e w3 ⟨a, rfl, -, s3, k3⟩
    replace k3 := k2.trans k3
    clear s2 k2
    go_wp2_with fail
    refine (spec_drawSYear A len cap zs W _ g s3).mono ?_
    rintro e w4 ⟨y, rfl, -, s4, k4⟩
    replace k4 := k3.trans k4
    clear s3 k3
    go_wp2_with fail
    refine (spec_next A len cap zs W _ g 12 s4).mono ?_
    rintro e w5 ⟨p, rfl, p0, p1, s5, k5⟩
    replace k5 := k4.trans k5
    have p2 : p < 12 := by omega
    clear p1 s4 k4
    go_wp2_with fail
    refine (spec_next A len cap zs W _ g 31 s5).mono ?_
    rintro e w6 ⟨q, rfl, q0, q1, s6, k6⟩
    replace k6 := k5.trans k6
    have q2 : q < 31 := by omega
    clear q1 s5 k5
    go_wp2_with fail
    refine bodyPost_ret (v := .tuple #[.int .i64 a, .int .i64 y, .int .i64 (1 + p), .int .i64 (1 + q)]) (by simp [results, Try.results33, go_sem]) rfl ⟨_, _, _, _, rfl, hb.trans (only_below k6 hg hb.size)⟩

set_option maxHeartbeats 1000000 in
theorem spec_DrawStyleName (A : Option Addr) (len cap : Nat) (zs : List Int) (W w : World) (hrow : IsRow .u8 W A len cap zs) (hW : Below W.heap.size W w) :
    Calls Try.prog 25 #[.slice A len cap] w (DrawnP (fun _ => True) w) := by
  go_enter Try.func25, Try.ntmps25
  go_wp2_with fail
  refine (spec_from A len cap zs W _ hrow hW).mono ?_
  rintro e w1 ⟨g, rfl, hg, hs, hb⟩
  go_wp2_with fail
  refine (spec_next A len cap zs W _ g 9 hs).mono ?_
  rintro e w2 ⟨f, rfl, f0, f1, s2, k2⟩
  have f2 : f ≤ 8 := by omega
  clear f1
  go_wp2_with fail
  go_ret
  exact ⟨f - 1, rfl, trivial, hb.trans (only_below k2 hg hb.size)⟩

/-- What a call leaves that draws a text. -/
def DrawnT (w : World) (e : Ending) (w' : World) : Prop := ∃ s : ByteArray, e = .returned (.string s) ∧ Below w.heap.size w w'
def svV : Array Value := #[Value.string { data := #[] }, Value.string { data := #[76, 97, 100, 121] }, Value.string { data := #[97, 117, 103, 117, 115] }, Value.string { data := #[112, 105, 115] }]
theorem svV_get (j : Nat) (h : j < 4) : ∃ t, svV[j]? = some (.string t) := by
  have : j = 0 ∨ j = 1 ∨ j = 2 ∨ j = 3 := by omega
  rcases this with rfl | rfl | rfl | rfl <;> exact ⟨_, rfl⟩
set_option maxHeartbeats 1000000 in
theorem spec_DrawStyleNamed (A : Option Addr) (len cap : Nat) (zs : List Int) (W w : World) (hrow : IsRow .u8 W A len cap zs) (hW : Below W.heap.size W w) :
    Calls Try.prog 28 #[.slice A len cap] w (DrawnT w) := by
  go_enter Try.func28, Try.ntmps28
  go_wp2_with fail
  refine (spec_from A len cap zs W _ hrow hW).mono ?_
  rintro e w1 ⟨g, rfl, hg, hs, hb⟩
  go_wp2_with fail
  refine (spec_next A len cap zs W _ g 4 hs).mono ?_
  rintro e w2 ⟨x, rfl, x0, x1, s2, k2⟩
  clear x1
  by_cases h0 : x = 0
  · subst h0
    have hgl := s2.lt
    go_wp2_with fail
    have B0 := Blk.new w2 9 svV
    have s3 := s2.alloc (.cells svV 9)
    refine (spec_next A len cap zs W _ g 4 s3).mono ?_
    rintro e w3 ⟨y, rfl, y0, y1, s4, k4⟩
    obtain ⟨j, rfl⟩ : ∃ j : Nat, y = j := ⟨y.toNat, by omega⟩
    have hj : j < 4 := by omega
    obtain ⟨t, ht⟩ := svV_get j hj
    have B1 := B0.grown k4 (by intro e; injection e with e; omega)
    have c0 := (B1.cell j).trans ht
    have kk := (only_alloc k2 (.cells svV 9)).trans k4
    clear ht B0 B1 y1 s3 k4
    go_wp2_with fail
    go_ret
    exact ⟨t, rfl, hb.trans (only_below kk hg hb.size)⟩
  · have e0 : (x == 0) = false := by simpa using h0
    clear h0
    go_wp2_with fail
    refine (spec_snames _).mono ?_
    rintro e w3 ⟨b, rfl, B0, ⟨hge, -⟩, hb3⟩
    have s3 := s2.below hb3
    have hbg : some b ≠ some g := by
      have := s2.lt
      intro e
      injection e with e
      omega
    have k3 := k2.trans (only_of_below hb3 (some g))
    have HB := Lib.hid B0
    clear s2 k2 hb3 B0
    go_wp2_with fail
    refine (spec_next A len cap zs W _ g 7 s3).mono ?_
    rintro e w4 ⟨y, rfl, y0, y1, s4, k4⟩
    obtain ⟨j, rfl⟩ : ∃ j : Nat, y = j := ⟨y.toNat, by omega⟩
    have hj : j < 7 := by omega
    have c0 := ((HB.out.grown k4 hbg).cell j).trans (snV_get j hj)
    have kk := k3.trans k4
    clear y1 s3 k4 hbg
    generalize bs (snL (j : Int)) = t at c0
    go_wp2_with fail
    go_ret
    exact ⟨t, rfl, hb.trans (only_below kk hg hb.size)⟩

end Go.Proofs.Ytigjpalbaapkkaa.Sty
