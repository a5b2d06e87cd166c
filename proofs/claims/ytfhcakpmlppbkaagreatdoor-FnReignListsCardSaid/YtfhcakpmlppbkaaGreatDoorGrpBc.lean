/- Texts of a claim in one file: ReiIb ReiIc. -/
import Derived.Test.YtfhcakpmlppbkaaGreatDoorGrpAz
import Derived.Test.YtfhcakpmlppbkaaGreatDoorGrpAj
import Derived.RangeFuncNested
import Derived.RangeFuncBound
import Derived.RangeFuncCalls
import Derived.RangeFuncLeaves
import Derived.Shelf.Abstract
import Derived.WalkKit
import Derived.OwnWalkIn
import Derived.TacticsInMore
import Derived.LoopNIn
import Derived.LoopIn
namespace Go.Proofs.YtfhcakpmlppbkaaGreatDoor.Rei
open Go.RowKit
open Go.Proofs.YtfhcakpmlppbkaaGreatDoor.Eas (It impl_oldDayOf)
open Go.Proofs.YtfhcakpmlppbkaaGreatDoor.Fea (isDay yr yr_isY yr_num)

/-- What impl's years give: the span of a year against MaxDay + 1. -/
theorem rb_far {f k : Int} (h : Fea.yr f + k - 1 > 2000) : 730500 ≤ rb f k := by
  have g := (rb_in f k).1
  have m := Cal.ys_mono false 2001 (Fea.yr f + k - 1) (by omega)
  rw [Cal.ys_2001] at m
  simp at m
  omega

/-- The day on which the year k begins, or the day behind all days. -/
def nb (f k : Int) : Int := if yr f + k - 1 ≤ 2000 then rb f k else 730500
theorem nb_le {f k t : Int} (ht : t ≤ 730499) : nb f k ≤ t ↔ (yr f + k - 1 ≤ 2000 ∧ rb f k ≤ t) := by
  unfold nb
  split
  · rename_i h
    exact ⟨fun q => ⟨h, q⟩, fun q => q.2⟩
  · rename_i h
    exact ⟨fun q => absurd q (by omega), fun q => absurd q.1 h⟩
theorem nb_min {f k t : Int} (ht : t ≤ 730499) : min (nb f k - 1) t = min (rb f k - 1) t := by
  unfold nb
  split
  · rfl
  · rename_i h
    have := rb_far (show yr f + k - 1 > 2000 by omega)
    omega
theorem valid_later {y m d j : Int} (hv : Cal.valid false y m d) (j0 : 0 ≤ j) (j1 : j ≤ 2000 - y) (h : ¬ (m = 2 ∧ d = 29 ∧ Cal.lp false (y + j) = false)) : Cal.valid false (y + j) m d := by
  obtain ⟨y1, y2, m1, m2, d1, d2⟩ := hv
  refine ⟨by omega, by omega, m1, m2, d1, ?_⟩
  by_cases hm : m = 2
  · subst hm
    rw [Fea.mlen2] at d2 ⊢
    by_cases hd : d = 29
    · subst hd
      have hl : Cal.lp false (y + j) = true := by
        cases e : Cal.lp false (y + j)
        · exact absurd ⟨rfl, rfl, e⟩ h
        · rfl
      rw [hl]
      simp
    · split at d2 <;> split <;> omega
  · rw [Fea.mlenN _ _ _ hm] at d2 ⊢
    exact d2
theorem not_later {y j : Int} (h : Cal.lp false (y + j) = false) : ¬ Cal.valid false (y + j) 2 29 := by
  rintro ⟨-, -, -, -, -, d2⟩
  rw [Fea.mlen2, h] at d2
  simp at d2

set_option maxHeartbeats 1000000 in
theorem impl_later {y m d f : Int} (hv : Cal.valid false y m d) (hn : Cal.num false y m d = f) (j : Int) (j0 : 0 ≤ j) (j1 : j ≤ 9223372036854775807) (x : Int) (hx : nb f (j + 1) = x) (w : World) :
    Calls Tryz.prog 118 #[.agg #[.int .i64 y, .int .i64 m, .int .i64 d], .int .i64 j] w (It x w) := by
  have hy := yr_num hv hn
  have hd := rb_date hv hn (j + 1)
  rw [show y + (j + 1) - 1 = y + j by omega] at hd
  unfold nb at hx
  rw [hy, show y + (j + 1) - 1 = y + j by omega] at hx
  have S0 := (St.start w).alloc 113 #[.int .i64 y, .int .i64 m, .int .i64 d]
  have S1 := (St.start w).alloc 113 #[.int .i64 (y + j), .int .i64 m, .int .i64 d]
  have y1 := hv.1
  have y2 := hv.2.1
  by_cases hj : j ≤ 2000 - y
  · have hgo : decide (2000 - y < j) = false := by simp; omega
    rw [if_pos (by omega)] at hx
    rw [hx] at hd
    by_cases hc : m = 2 ∧ d = 29 ∧ Cal.lp false (y + j) = false
    · rw [if_pos hc] at hd
      obtain ⟨rfl, rfl, hl⟩ := hc
      have V := Lib.hid (show ∀ w, Calls Tryz.prog 144 #[.agg #[.int .i64 (y + j), .int .i64 2, .int .i64 29], .int .i64 0] w fun e w' => e = .returned (.bool false) ∧ Below w.heap.size w w' from
        fun w => vb_false (not_later hl) ▸ impl_isIn false (y + j) 2 29 w)
      have O := Lib.hid (impl_oldDayOf (y + j) 3 1 (show Cal.valid false (y + j) 3 1 from ⟨by omega, by omega, by omega, by omega, by omega, by rw [Fea.mlenN _ _ _ (by omega)]; simp⟩))
      rw [hd] at O
      clear hv hn hd hl hx hy
      go_enter Tryz.func118, Tryz.ntmps118
      go_wp2_with fail
      refine (V.out _).mono ?_
      rintro e w1 ⟨rfl, hb1⟩
      have S := S1.call hb1
      have c0 := S.b0.cell 0
      have c1 := S.b0.cell 1
      have c2 := S.b0.cell 2
      have z1 := S.b0.frozen 1
      have z2 := S.b0.frozen 2
      simp at c0 c1 c2
      have hb3 := (S.bel.setCell (p := ⟨w.heap.size, 1, none⟩) (Nat.le_refl _) (.int .i64 3)).setCell (p := ⟨w.heap.size, 2, none⟩) (Nat.le_refl _) (.int .i64 1)
      clear V S0 S1 S
      go_wp2_with fail
      refine (O.out _).mono ?_
      rintro e w2 ⟨rfl, hb2⟩
      go_wp2_with fail
      go_ret
      exact ⟨rfl, hb3.trans (hb2.mono hb3.size)⟩
    · rw [if_neg hc] at hd
      have hv2 := valid_later hv j0 hj hc
      have V := Lib.hid (show ∀ w, Calls Tryz.prog 144 #[.agg #[.int .i64 (y + j), .int .i64 m, .int .i64 d], .int .i64 0] w fun e w' => e = .returned (.bool true) ∧ Below w.heap.size w w' from
        fun w => (show vb false (y + j) m d = true from decide_eq_true hv2) ▸ impl_isIn false (y + j) m d w)
      have O := Lib.hid (impl_oldDayOf (y + j) m d hv2)
      rw [hd] at O
      clear hv hn hd hx hy hc hv2
      go_enter Tryz.func118, Tryz.ntmps118
      go_wp2_with fail
      refine (V.out _).mono ?_
      rintro e w1 ⟨rfl, hb1⟩
      have S := S1.call hb1
      have c0 := S.b0.cell 0
      have c1 := S.b0.cell 1
      have c2 := S.b0.cell 2
      simp at c0 c1 c2
      have hb3 := S.bel
      clear V S0 S1 S
      go_wp2_with fail
      refine (O.out _).mono ?_
      rintro e w2 ⟨rfl, hb2⟩
      go_wp2_with fail
      go_ret
      exact ⟨rfl, hb3.trans (hb2.mono hb3.size)⟩
  · have hgo : decide (2000 - y < j) = true := by simp; omega
    rw [if_neg (by omega)] at hx
    subst hx
    have hb := S0.bel
    clear hv hn hd S0 S1 hy
    go_enter Tryz.func118, Tryz.ntmps118
    go_wp2_with fail
    go_ret
    exact ⟨rfl, hb⟩

end Go.Proofs.YtfhcakpmlppbkaaGreatDoor.Rei

namespace Go.Proofs.YtfhcakpmlppbkaaGreatDoor.Rei
open Go.RowKit Go.Shelf
open Go.Proofs.YtfhcakpmlppbkaaGreatDoor.Eas (It)
open Go.Proofs.YtfhcakpmlppbkaaGreatDoor.Fea (isDay yr yr_isY)
attribute [local go_sem] Oper.semAt_some

/-! ### which years there are -/
theorem yr_ex {f t k : Int} (h : f ≤ t) (ht : t ≤ 730499) : nb f k ≤ t ↔ k ≤ ry f t := by
  rw [nb_le ht]
  obtain ⟨-, a, b⟩ := ry_is h
  constructor
  · rintro ⟨-, h2⟩
    rcases Int.lt_or_le (ry f t) k with q | q
    · exfalso
      by_cases e : ry f t + 1 = k
      · rw [e] at b; omega
      · have := rb_lt f (show ry f t + 1 < k by omega); omega
    · exact q
  · intro q
    have hle : rb f k ≤ t := by
      by_cases e : k = ry f t
      · rw [e]; exact a
      · have := rb_lt f (show k < ry f t by omega); omega
    refine ⟨?_, hle⟩
    rcases Int.lt_or_le 2000 (yr f + k - 1) with q2 | q2
    · have := rb_far (f := f) (k := k) q2; omega
    · exact q2
theorem nb_rb {f t k : Int} (ht : t ≤ 730499) (h : nb f k ≤ t) : nb f k = rb f k := by
  have := ((nb_le ht).1 h).1
  unfold nb
  rw [if_pos this]
theorem nb_to {f t k : Int} (ht : t ≤ 730499) : (if t < nb f k - 1 then t else nb f k - 1) = min t (rb f k - 1) := by
  have := nb_min (f := f) (k := k) ht
  split <;> omega
theorem nb_bd {f k : Int} (f0 : 0 ≤ f) (f1 : f ≤ 730499) (k0 : 1 ≤ k) : 0 ≤ nb f k ∧ nb f k ≤ 730500 := by
  have g1 := rb_in f k
  have g2 := (yr_isY f f0 f1).1
  have g3 := Cal.ys_mono false 1 (yr f + k - 1) (by omega)
  rw [Cal.ys_1] at g3
  simp at g3
  unfold nb
  split
  · rename_i q
    have g4 := Cal.ys_mono false (yr f + k) 2001 (by omega)
    rw [Cal.ys_2001] at g4
    simp at g4
    omega
  · omega

/-- What a round is handed. -/
abbrev yEnc (f t k0 : Int) (j : Nat) : Array Value := #[.int .i64 (k0 + j), .agg #[.int .i64 (rb f (k0 + j)), .int .i64 (min t (rb f (k0 + j + 1) - 1))]]
/-- What a round that goes on keeps: the boxes of the date and of the reign. -/
def yKp (b1 b2 : Nat) (A B : World) : Prop := ∀ i, B.cell? ⟨b1, i, none⟩ = A.cell? ⟨b1, i, none⟩ ∧ B.cell? ⟨b2, i, none⟩ = A.cell? ⟨b2, i, none⟩
theorem yKp_t {b1 b2 : Nat} {A B C : World} (h : yKp b1 b2 A B) (k : yKp b1 b2 B C) : yKp b1 b2 A C := fun i => ⟨(k i).1.trans (h i).1, (k i).2.trans (h i).2⟩
theorem yKp_below {b1 b2 N : Nat} {A B : World} (h : Below N A B) (h1 : b1 < N) (h2 : b2 < N) : yKp b1 b2 A B := fun i => ⟨h.cell (p := ⟨b1, i, none⟩) h1, h.cell (p := ⟨b2, i, none⟩) h2⟩
theorem yKp_b {b1 b2 : Nat} {w : World} (h1 : b1 < w.heap.size) (h2 : b2 < w.heap.size) (W : World) (l : Nat) (o o' : Obj) (hl : w.heap.size ≤ l) (h : W.heap[l]? = some o) (c1 : o.isCells = false) (c2 : o.isWalk = false) : yKp b1 b2 W (W.putObj l o') :=
  yKp_below (belowK_b (w := w) (Nat.le_refl _) W l o o' hl h c1 c2) h1 h2
theorem grown_of_below {A B : World} (h : Below A.heap.size A B) : A.grownBy B none := ⟨h.os, h.tape, h.output, h.size, fun k hk _ => h.block k hk⟩

theorem lt_of_cell {W : World} {b i : Nat} {v : Value} (h : W.cell? ⟨b, i, none⟩ = some v) : b < W.heap.size := by
  obtain ⟨o, ho, -⟩ := cells_of_cell h
  exact (Array.getElem?_eq_some_iff.1 ho).1

set_option maxRecDepth 100000 in
set_option maxHeartbeats 4000000 in
/-- The iterator, at whatever body that keeps the two boxes. -/
theorem years1_in (n : Nat) (hn : 1 ≤ n) (l bd bf br : Nat) {y m d f : Int} (hv : Cal.valid false y m d) (hnum : Cal.num false y m d = f) (s : ByteArray) (t k0 : Int) (f0 : 0 ≤ f) (f1 : f ≤ t) (t1 : t ≤ 730499) (h1 : 1 ≤ k0) (h2 : k0 ≤ 9223372036854775807)
    (M : Nat) (hM : (ry f t + 1 - k0).toNat = M) (J Jx : List Nat → World → Prop) (W : World) (hbd : bd < W.heap.size) (hbr : br < W.heap.size) (hJ : AbidesFrom W.heap.size J)
    (hY : ∀ pre x W1, J pre W1 → pre.length < M → YieldAt Fence.wide (n - 1) Tryz.prog l (yEnc f t k0 x) W1 fun e W' =>
      (e = .returned (.bool true) ∧ J (pre ++ [x]) W' ∧ yKp bd br W1 W') ∨ (e = .returned (.bool false) ∧ Jx (pre ++ [x]) W'))
    (d0 : W.cell? ⟨bd, 0, none⟩ = some (.int .i64 y)) (d1 : W.cell? ⟨bd, 1, none⟩ = some (.int .i64 m)) (d2 : W.cell? ⟨bd, 2, none⟩ = some (.int .i64 d)) (kc : W.cell? ⟨bf, 0, none⟩ = some (.int .i64 k0)) (kb : bf < W.heap.size)
    (r0 : W.cell? ⟨br, 0, none⟩ = some (.string s)) (r1 : W.cell? ⟨br, 1, none⟩ = some (.int .i64 f)) (r2 : W.cell? ⟨br, 2, none⟩ = some (.int .i64 t)) (h0 : J [] W) :
    CallsIn Fence.wide n Tryz.prog 117 #[.func (.yield l) #[] #[], .pointer (some ⟨bd, 0, none⟩), .pointer (some ⟨bf, 0, none⟩), .pointer (some ⟨br, 0, none⟩)] W fun e W' => (∃ v, e = .returned v) ∧
      ((∃ xs, xs = List.range M ∧ J xs W') ∨ (∃ pre, (∃ j, j < M ∧ pre = List.range (j + 1)) ∧ Jx pre W')) := by
  have L1 := Lib.hid (fun W => impl_later hv hnum (k0 - 1) (by omega) (by omega) (nb f k0) (by rw [show k0 - 1 + 1 = k0 by omega]) W)
  have L2 := Lib.hid (fun k q0 q1 W => impl_later hv hnum k q0 q1 _ rfl W)
  have EX := Lib.hid (fun k => yr_ex (k := k) f1 t1)
  have BD := Lib.hid (fun k q => nb_bd (k := k) f0 (by omega) q)
  have RB := Lib.hid (fun k q => nb_rb (f := f) (t := t) (k := k) t1 q)
  have TO := Lib.hid (fun k => nb_to (f := f) (t := t) (k := k) t1)
  have RY := Lib.hid (show ry f t ≤ 2001 by
    have a := (ry_bd f1).2.2
    have b := (yr_isY t (by omega) t1).2
    have c := (yr_isY f f0 (by omega)).1
    omega)
  have HM := Lib.hid hM
  clear hM hv hnum
  refine callsIn_of_wp Tryz.func117 rfl trivial ?_ rfl
  simp only [Tryz.ntmps117, List.size_toArray, List.length_cons, List.length_nil, Nat.reduceAdd, Nat.reduceSub, Array.replicate_succ, Array.replicate_zero, List.push_toArray, List.append_toArray, List.nil_append, List.cons_append]
  have w1 : IntKind.i64.wrap (k0 - 1) = k0 - 1 := IntWalk.i64_in _ ⟨by omega, by omega⟩
  gi_wp2_with (refine ⟨trivial, ?_⟩; gi_at_call 118; refine (callsIn_wide.2 (L1.out _)).mono ?_; rintro e w2 ⟨rfl, hb2⟩; have kc2 := (hb2.cell (p := ⟨bf, 0, none⟩) kb).trans kc)
  have e0 := (hb2.cell (p := ⟨bd, 0, none⟩) hbd).trans d0
  have e1 := (hb2.cell (p := ⟨bd, 1, none⟩) hbd).trans d1
  have e2 := (hb2.cell (p := ⟨bd, 2, none⟩) hbd).trans d2
  have s0 := (hb2.cell (p := ⟨br, 0, none⟩) hbr).trans r0
  have s1 := (hb2.cell (p := ⟨br, 1, none⟩) hbr).trans r1
  have s2 := (hb2.cell (p := ⟨br, 2, none⟩) hbr).trans r2
  have hJ0 : J [] w2 := hJ _ _ _ none h0 (grown_of_below hb2) (fun r e => by cases e)
  clear L1 d0 d1 d2 kc kb r0 r1 r2 h0 hb2 kc2
  gi_loopw [5, 6] (fun b k wr => ∃ j : Nat, j ≤ M ∧ b = .int .i64 (nb f (k0 + j)) ∧ k = .int .i64 (k0 + j) ∧ J (List.range j) wr ∧ yKp bd br w2 wr)
    (fun _ k _ => (ry f t + 1 - intOf k).toNat)
  case atStart => exact ⟨0, Nat.zero_le _, by simp, by simp, by simpa using hJ0, fun i => ⟨rfl, rfl⟩⟩
  case round =>
    obtain ⟨j, hj, rfl, rfl, hJs, hkp⟩ := hrel
    replace e0 := (hkp 0).1.trans e0
    replace e1 := (hkp 1).1.trans e1
    replace e2 := (hkp 2).1.trans e2
    replace s0 := (hkp 0).2.trans s0
    replace s1 := (hkp 1).2.trans s1
    replace s2 := (hkp 2).2.trans s2
    have bd2 := lt_of_cell e0
    have br2 := lt_of_cell s0
    obtain ⟨kk, hkk⟩ : ∃ kk, k0 + (j : Int) = kk := ⟨_, rfl⟩
    have hHM := HM.out
    have hRY := RY.out
    have hk1 : 1 ≤ kk := by omega
    by_cases hlt : kk ≤ ry f t
    · have hjM : j < M := by omega
      have hle := (EX.out kk).2 hlt
      have hrb := RB.out kk hle
      have hbd := BD.out kk hk1
      have hbd2 := BD.out (kk + 1) (by omega)
      have hto := TO.out (kk + 1)
      have hk2 : kk ≤ 2001 := by omega
      have L3 := Lib.hid (fun W => L2.out kk (by omega) (by omega) W)
      have HJY := Lib.hid (fun w3 (hb3 : Below wr.heap.size wr w3) => hY (List.range j) j w3 (hJ _ _ _ none hJs (grown_of_below hb3) (fun r e => by cases e)) (by simpa using hjM))
      have HME := Lib.hid (show (ry f t + 1 - (kk + 1)).toNat < (ry f t + 1 - kk).toNat by omega)
      unfold yEnc at HJY
      rw [hkk, ← hrb, ← hto] at HJY
      rw [hkk]
      have HR : Hid (rb f kk = nb f kk) := Lib.hid hrb.symm
      have HK := Lib.hid hkk
      have HX := Lib.hid (show nb f (k0 + ((j + 1 : Nat) : Int)) = nb f (kk + 1) by rw [← hkk]; congr 1; omega)
      clear EX BD RB TO L2 hrb hto hkk hHM hRY
      generalize nb f kk = b at *
      generalize nb f (kk + 1) = x at *
      obtain ⟨T, hT⟩ : ∃ T, (if t < x - 1 then t else x - 1) = T := ⟨_, rfl⟩
      rw [hT] at HJY
      have hT2 : min (x - 1) t = T := by rw [← hT]; split <;> omega
      gi_wp2_with (refine ⟨trivial, ?_⟩; gi_at_call 118; refine (callsIn_wide.2 (L3.out _)).mono ?_; rintro e w3 ⟨rfl, hb3⟩; have q2 := (hb3.cell (p := ⟨br, 2, none⟩) br2).trans s2; obtain ⟨fn, tmps, assign, body, hy, hR⟩ := HJY.out w3 hb3)
      refine hR.mono ?_
      rintro e W3 (⟨rfl, hJ3, hk3⟩ | ⟨rfl, hJx3⟩)
      · have hkp3 := yKp_t (yKp_t hkp (yKp_below hb3 bd2 br2)) hk3
        clear HJY hR hy L3 q2
        gi_wp2
        go_roundw
        case rel => exact ⟨j + 1, by omega, by rw [HX.out], by have := HK.out; simp; omega, by rw [List.range_succ]; exact hJ3, hkp3⟩
        case measure => exact HME.out
      · clear HJY hR hy L3 q2
        gi_wp2
        refine bodyPost_ret (results_none rfl _ _ _) rfl ?_
        exact ⟨⟨_, rfl⟩, .inr ⟨List.range (j + 1), ⟨j, hjM, rfl⟩, by rw [List.range_succ]; exact hJx3⟩⟩
    · have hge : t < nb f kk := by
        rcases Int.lt_or_le t (nb f kk) with q | q
        · exact q
        · exact absurd ((EX.out kk).1 q) hlt
      have hjM : j = M := by omega
      rw [hkk]
      clear EX BD RB TO L2 hkk
      generalize nb f kk = b at *
      gi_wp2
      go_end0
      exact ⟨⟨_, rfl⟩, .inl (by rw [← hjM]; exact hJs)⟩

end Go.Proofs.YtfhcakpmlppbkaaGreatDoor.Rei
