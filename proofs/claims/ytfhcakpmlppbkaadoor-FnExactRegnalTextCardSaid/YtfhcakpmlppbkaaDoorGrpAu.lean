/- Texts of a claim in one file: ReiIc ReiId. -/
import Derived.Test.YtfhcakpmlppbkaaDoorGrpAt
import Derived.RangeFuncNested
import Derived.RangeFuncBound
import Derived.RangeFuncCalls
import Derived.RangeFuncLeaves
import Derived.Shelf.Abstract
import Derived.WalkKit
import Derived.OwnWalkIn
import Derived.TacticsInMore
import Derived.LoopNIn
import Derived.LoopIn
namespace Go.Proofs.YtfhcakpmlppbkaaDoor.Rei
open Go.RowKit Go.Shelf
open Go.Proofs.YtfhcakpmlppbkaaDoor.Eas (It)
open Go.Proofs.YtfhcakpmlppbkaaDoor.Fea (isDay yr yr_isY)
attribute [local go_sem] Oper.semAt_some

/-! ### which years there are -/
theorem yr_ex {f t k : Int} (h : f ≤ t) (ht : t ≤ 730499) : nb f k ≤ t ↔ k ≤ ry f t := by
  rw [nb_le ht]
  obtain ⟨-, a, b⟩ := ry_is h
  constructor
  · rintro ⟨-, h2⟩
    rcases Int.lt_or_le (ry f t) k with q | q
    · exfalso
      by_cases e : ry f t + 1 = k
      · rw [e] at b; omega
      · have := rb_lt f (show ry f t + 1 < k by omega); omega
    · exact q
  · intro q
    have hle : rb f k ≤ t := by
      by_cases e : k = ry f t
      · rw [e]; exact a
      · have := rb_lt f (show k < ry f t by omega); omega
    refine ⟨?_, hle⟩
    rcases Int.lt_or_le 2000 (yr f + k - 1) with q2 | q2
    · have := rb_far (f := f) (k := k) q2; omega
    · exact q2
theorem nb_rb {f t k : Int} (ht : t ≤ 730499) (h : nb f k ≤ t) : nb f k = rb f k := by
  have := ((nb_le ht).1 h).1
  unfold nb
  rw [if_pos this]
theorem nb_to {f t k : Int} (ht : t ≤ 730499) : (if t < nb f k - 1 then t else nb f k - 1) = min t (rb f k - 1) := by
  have := nb_min (f := f) (k := k) ht
  split <;> omega
theorem nb_bd {f k : Int} (f0 : 0 ≤ f) (f1 : f ≤ 730499) (k0 : 1 ≤ k) : 0 ≤ nb f k ∧ nb f k ≤ 730500 := by
  have g1 := rb_in f k
  have g2 := (yr_isY f f0 f1).1
  have g3 := Cal.ys_mono false 1 (yr f + k - 1) (by omega)
  rw [Cal.ys_1] at g3
  simp at g3
  unfold nb
  split
  · rename_i q
    have g4 := Cal.ys_mono false (yr f + k) 2001 (by omega)
    rw [Cal.ys_2001] at g4
    simp at g4
    omega
  · omega

/-- What a round is handed. -/
abbrev yEnc (f t k0 : Int) (j : Nat) : Array Value := #[.int .i64 (k0 + j), .agg #[.int .i64 (rb f (k0 + j)), .int .i64 (min t (rb f (k0 + j + 1) - 1))]]
/-- What a round that goes on keeps: the boxes of the date and of the reign. -/
def yKp (b1 b2 : Nat) (A B : World) : Prop := ∀ i, B.cell? ⟨b1, i, none⟩ = A.cell? ⟨b1, i, none⟩ ∧ B.cell? ⟨b2, i, none⟩ = A.cell? ⟨b2, i, none⟩
theorem yKp_t {b1 b2 : Nat} {A B C : World} (h : yKp b1 b2 A B) (k : yKp b1 b2 B C) : yKp b1 b2 A C := fun i => ⟨(k i).1.trans (h i).1, (k i).2.trans (h i).2⟩
theorem yKp_below {b1 b2 N : Nat} {A B : World} (h : Below N A B) (h1 : b1 < N) (h2 : b2 < N) : yKp b1 b2 A B := fun i => ⟨h.cell (p := ⟨b1, i, none⟩) h1, h.cell (p := ⟨b2, i, none⟩) h2⟩
theorem yKp_b {b1 b2 : Nat} {w : World} (h1 : b1 < w.heap.size) (h2 : b2 < w.heap.size) (W : World) (l : Nat) (o o' : Obj) (hl : w.heap.size ≤ l) (h : W.heap[l]? = some o) (c1 : o.isCells = false) (c2 : o.isWalk = false) : yKp b1 b2 W (W.putObj l o') :=
  yKp_below (belowK_b (w := w) (Nat.le_refl _) W l o o' hl h c1 c2) h1 h2
theorem grown_of_below {A B : World} (h : Below A.heap.size A B) : A.grownBy B none := ⟨h.os, h.tape, h.output, h.size, fun k hk _ => h.block k hk⟩

theorem lt_of_cell {W : World} {b i : Nat} {v : Value} (h : W.cell? ⟨b, i, none⟩ = some v) : b < W.heap.size := by
  obtain ⟨o, ho, -⟩ := cells_of_cell h
  exact (Array.getElem?_eq_some_iff.1 ho).1

set_option maxRecDepth 100000 in
set_option maxHeartbeats 4000000 in
/-- The iterator, at whatever body that keeps the two boxes. -/
theorem years1_in (n : Nat) (hn : 1 ≤ n) (l bd bf br : Nat) {y m d f : Int} (hv : Cal.valid false y m d) (hnum : Cal.num false y m d = f) (s : ByteArray) (t k0 : Int) (f0 : 0 ≤ f) (f1 : f ≤ t) (t1 : t ≤ 730499) (h1 : 1 ≤ k0) (h2 : k0 ≤ 9223372036854775807)
    (M : Nat) (hM : (ry f t + 1 - k0).toNat = M) (J Jx : List Nat → World → Prop) (W : World) (hbd : bd < W.heap.size) (hbr : br < W.heap.size) (hJ : AbidesFrom W.heap.size J)
    (hY : ∀ pre x W1, J pre W1 → pre.length < M → YieldAt Fence.wide (n - 1) Tryd.prog l (yEnc f t k0 x) W1 fun e W' =>
      (e = .returned (.bool true) ∧ J (pre ++ [x]) W' ∧ yKp bd br W1 W') ∨ (e = .returned (.bool false) ∧ Jx (pre ++ [x]) W'))
    (d0 : W.cell? ⟨bd, 0, none⟩ = some (.int .i64 y)) (d1 : W.cell? ⟨bd, 1, none⟩ = some (.int .i64 m)) (d2 : W.cell? ⟨bd, 2, none⟩ = some (.int .i64 d)) (kc : W.cell? ⟨bf, 0, none⟩ = some (.int .i64 k0)) (kb : bf < W.heap.size)
    (r0 : W.cell? ⟨br, 0, none⟩ = some (.string s)) (r1 : W.cell? ⟨br, 1, none⟩ = some (.int .i64 f)) (r2 : W.cell? ⟨br, 2, none⟩ = some (.int .i64 t)) (h0 : J [] W) :
    CallsIn Fence.wide n Tryd.prog 71 #[.func (.yield l) #[] #[], .pointer (some ⟨bd, 0, none⟩), .pointer (some ⟨bf, 0, none⟩), .pointer (some ⟨br, 0, none⟩)] W fun e W' => (∃ v, e = .returned v) ∧
      ((∃ xs, xs = List.range M ∧ J xs W') ∨ (∃ pre, (∃ j, j < M ∧ pre = List.range (j + 1)) ∧ Jx pre W')) := by
  have L1 := Lib.hid (fun W => impl_later hv hnum (k0 - 1) (by omega) (by omega) (nb f k0) (by rw [show k0 - 1 + 1 = k0 by omega]) W)
  have L2 := Lib.hid (fun k q0 q1 W => impl_later hv hnum k q0 q1 _ rfl W)
  have EX := Lib.hid (fun k => yr_ex (k := k) f1 t1)
  have BD := Lib.hid (fun k q => nb_bd (k := k) f0 (by omega) q)
  have RB := Lib.hid (fun k q => nb_rb (f := f) (t := t) (k := k) t1 q)
  have TO := Lib.hid (fun k => nb_to (f := f) (t := t) (k := k) t1)
  have RY := Lib.hid (show ry f t ≤ 2001 by
    have a := (ry_bd f1).2.2
    have b := (yr_isY t (by omega) t1).2
    have c := (yr_isY f f0 (by omega)).1
    omega)
  have HM := Lib.hid hM
  clear hM hv hnum
  refine callsIn_of_wp Tryd.func71 rfl trivial ?_ rfl
  simp only [Tryd.ntmps71, List.size_toArray, List.length_cons, List.length_nil, Nat.reduceAdd, Nat.reduceSub, Array.replicate_succ, Array.replicate_zero, List.push_toArray, List.append_toArray, List.nil_append, List.cons_append]
  have w1 : IntKind.i64.wrap (k0 - 1) = k0 - 1 := IntWalk.i64_in _ ⟨by omega, by omega⟩
  gi_wp2_with (refine ⟨trivial, ?_⟩; gi_at_call 72; refine (callsIn_wide.2 (L1.out _)).mono ?_; rintro e w2 ⟨rfl, hb2⟩; have kc2 := (hb2.cell (p := ⟨bf, 0, none⟩) kb).trans kc)
  have e0 := (hb2.cell (p := ⟨bd, 0, none⟩) hbd).trans d0
  have e1 := (hb2.cell (p := ⟨bd, 1, none⟩) hbd).trans d1
  have e2 := (hb2.cell (p := ⟨bd, 2, none⟩) hbd).trans d2
  have s0 := (hb2.cell (p := ⟨br, 0, none⟩) hbr).trans r0
  have s1 := (hb2.cell (p := ⟨br, 1, none⟩) hbr).trans r1
  have s2 := (hb2.cell (p := ⟨br, 2, none⟩) hbr).trans r2
  have hJ0 : J [] w2 := hJ _ _ _ none h0 (grown_of_below hb2) (fun r e => by cases e)
  clear L1 d0 d1 d2 kc kb r0 r1 r2 h0 hb2 kc2
  gi_loopw [5, 6] (fun b k wr => ∃ j : Nat, j ≤ M ∧ b = .int .i64 (nb f (k0 + j)) ∧ k = .int .i64 (k0 + j) ∧ J (List.range j) wr ∧ yKp bd br w2 wr)
    (fun _ k _ => (ry f t + 1 - intOf k).toNat)
  case atStart => exact ⟨0, Nat.zero_le _, by simp, by simp, by simpa using hJ0, fun i => ⟨rfl, rfl⟩⟩
  case round =>
    obtain ⟨j, hj, rfl, rfl, hJs, hkp⟩ := hrel
    replace e0 := (hkp 0).1.trans e0
    replace e1 := (hkp 1).1.trans e1
    replace e2 := (hkp 2).1.trans e2
    replace s0 := (hkp 0).2.trans s0
    replace s1 := (hkp 1).2.trans s1
    replace s2 := (hkp 2).2.trans s2
    have bd2 := lt_of_cell e0
    have br2 := lt_of_cell s0
    obtain ⟨kk, hkk⟩ : ∃ kk, k0 + (j : Int) = kk := ⟨_, rfl⟩
    have hHM := HM.out
    have hRY := RY.out
    have hk1 : 1 ≤ kk := by omega
    by_cases hlt : kk ≤ ry f t
    · have hjM : j < M := by omega
      have hle := (EX.out kk).2 hlt
      have hrb := RB.out kk hle
      have hbd := BD.out kk hk1
      have hbd2 := BD.out (kk + 1) (by omega)
      have hto := TO.out (kk + 1)
      have hk2 : kk ≤ 2001 := by omega
      have L3 := Lib.hid (fun W => L2.out kk (by omega) (by omega) W)
      have HJY := Lib.hid (fun w3 (hb3 : Below wr.heap.size wr w3) => hY (List.range j) j w3 (hJ _ _ _ none hJs (grown_of_below hb3) (fun r e => by cases e)) (by simpa using hjM))
      have HME := Lib.hid (show (ry f t + 1 - (kk + 1)).toNat < (ry f t + 1 - kk).toNat by omega)
      unfold yEnc at HJY
      rw [hkk, ← hrb, ← hto] at HJY
      rw [hkk]
      have HR : Hid (rb f kk = nb f kk) := Lib.hid hrb.symm
      have HK := Lib.hid hkk
      have HX := Lib.hid (show nb f (k0 + ((j + 1 : Nat) : Int)) = nb f (kk + 1) by rw [← hkk]; congr 1; omega)
      clear EX BD RB TO L2 hrb hto hkk hHM hRY
      generalize nb f kk = b at *
      generalize nb f (kk + 1) = x at *
      obtain ⟨T, hT⟩ : ∃ T, (if t < x - 1 then t else x - 1) = T := ⟨_, rfl⟩
      rw [hT] at HJY
      have hT2 : min (x - 1) t = T := by rw [← hT]; split <;> omega
      gi_wp2_with (refine ⟨trivial, ?_⟩; gi_at_call 72; refine (callsIn_wide.2 (L3.out _)).mono ?_; rintro e w3 ⟨rfl, hb3⟩; have q2 := (hb3.cell (p := ⟨br, 2, none⟩) br2).trans s2; obtain ⟨fn, tmps, assign, body, hy, hR⟩ := HJY.out w3 hb3)
      refine hR.mono ?_
      rintro e W3 (⟨rfl, hJ3, hk3⟩ | ⟨rfl, hJx3⟩)
      · have hkp3 := yKp_t (yKp_t hkp (yKp_below hb3 bd2 br2)) hk3
        clear HJY hR hy L3 q2
        gi_wp2
        go_roundw
        case rel => exact ⟨j + 1, by omega, by rw [HX.out], by have := HK.out; simp; omega, by rw [List.range_succ]; exact hJ3, hkp3⟩
        case measure => exact HME.out
      · clear HJY hR hy L3 q2
        gi_wp2
        refine bodyPost_ret (results_none rfl _ _ _) rfl ?_
        exact ⟨⟨_, rfl⟩, .inr ⟨List.range (j + 1), ⟨j, hjM, rfl⟩, by rw [List.range_succ]; exact hJx3⟩⟩
    · have hge : t < nb f kk := by
        rcases Int.lt_or_le t (nb f kk) with q | q
        · exact q
        · exact absurd ((EX.out kk).1 q) hlt
      have hjM : j = M := by omega
      rw [hkk]
      clear EX BD RB TO L2 hkk
      generalize nb f kk = b at *
      gi_wp2
      go_end0
      exact ⟨⟨_, rfl⟩, .inl (by rw [← hjM]; exact hJs)⟩

end Go.Proofs.YtfhcakpmlppbkaaDoor.Rei

namespace Go.Proofs.YtfhcakpmlppbkaaDoor.Rei
open Go.RowKit Go.Shelf
open Go.Proofs.YtfhcakpmlppbkaaDoor.Eas (It)
open Go.Proofs.YtfhcakpmlppbkaaDoor.Fea (isDay yr yr_isY)
attribute [local go_sem] Oper.semAt_some

theorem impl_dateV (n : Int) (h : isDay n) (w : World) : Calls Tryd.prog 50 #[.int .i64 0, .int .i64 n] w fun e w' => ∃ y m d : Int, e = .returned (.tuple #[.agg #[.int .i64 y, .int .i64 m, .int .i64 d], .int .i64 0]) ∧ Cal.valid false y m d ∧ Cal.num false y m d = n ∧ Below w.heap.size w w' := by
  refine (impl_dateOf false n w).mono fun e w' q => ?_
  obtain ⟨y, m, d, c, he, hd, hb⟩ := q
  rcases hd with ⟨-, -, rfl, hv, hn⟩ | ⟨h2, -⟩
  · exact ⟨y, m, d, he, hv, hn, hb⟩
  · exfalso
    rw [Cal.ys_1, Cal.ys_2001] at h2
    obtain ⟨h0, h1⟩ := h
    simp at h2
    omega

/-- The iterator value that years answers, and the three boxes that it holds. -/
def YrsOut (s : ByteArray) (f t k0 : Int) (w : World) (e : Ending) (w' : World) : Prop :=
  ∃ (y m d : Int) (g : Nat), Cal.valid false y m d ∧ Cal.num false y m d = f ∧ w.heap.size + 1 < g ∧ e = .returned (.func (.func 71) #[] #[.pointer (some ⟨g, 0, none⟩), .pointer (some ⟨w.heap.size + 1, 0, none⟩), .pointer (some ⟨w.heap.size, 0, none⟩)]) ∧
    St [(g, 75, #[.int .i64 y, .int .i64 m, .int .i64 d]), (w.heap.size + 1, 2, #[.int .i64 k0]), (w.heap.size, 54, #[.string s, .int .i64 f, .int .i64 t])] w w'

theorem impl_years (s : ByteArray) (f t k0 : Int) (hf : isDay f) (w : World) : Calls Tryd.prog 51 #[rV s f t, .int .i64 k0] w (YrsOut s f t k0 w) := by
  have D := Lib.hid (impl_dateV f hf)
  have S0 := ((St.start w).alloc 54 #[.string s, .int .i64 f, .int .i64 t]).alloc 2 #[.int .i64 k0]
  simp only [World.size_alloc] at S0
  clear hf
  go_enter Tryd.func51, Tryd.ntmps51
  go_wp2_with fail
  refine (D.out _).mono ?_
  rintro e w1 ⟨y, m, d, rfl, hv, hn, hb⟩
  have hz := hb.size
  simp at hz
  have S1 := (S0.call hb).alloc 75 #[.int .i64 y, .int .i64 m, .int .i64 d]
  clear S0 hb D
  go_wp2_with fail
  go_ret
  exact ⟨y, m, d, _, hv, hn, by omega, rfl, S1⟩

/-- How many years there are from the year k0 on. -/
def yM (f t k0 : Int) : Nat := (ry f t + 1 - k0).toNat
theorem years_stops (n : Nat) (hn : 1 ≤ n) {y m d f : Int} (hv : Cal.valid false y m d) (hnum : Cal.num false y m d = f) (s : ByteArray) (t k0 : Int) (f0 : 0 ≤ f) (f1 : f ≤ t) (t1 : t ≤ 730499) (h1 : 1 ≤ k0) (h2 : k0 ≤ 9223372036854775807) (g bf br : Nat) {w0 : World} (w : World)
    (S : St [(g, 75, #[.int .i64 y, .int .i64 m, .int .i64 d]), (bf, 2, #[.int .i64 k0]), (br, 54, #[.string s, .int .i64 f, .int .i64 t])] w0 w) :
    SeqStopsK Fence.wide n Tryd.prog 71 #[.pointer (some ⟨g, 0, none⟩), .pointer (some ⟨bf, 0, none⟩), .pointer (some ⟨br, 0, none⟩)] (yEnc f t k0) (yKp g br) (fun xs => xs = List.range (yM f t k0)) (fun pre => ∃ j, j < yM f t k0 ∧ pre = List.range (j + 1)) (yM f t k0) w := fun l J Jx W hW hJ _ hY h0 => by
  have T := S.call hW
  refine years1_in n hn l g bf br hv hnum s t k0 f0 f1 t1 h1 h2 (yM f t k0) rfl J Jx W T.b0.lt T.b2.lt hJ hY (T.b0.cell 0) (T.b0.cell 1) (T.b0.cell 2) (T.b1.cell 0) T.b1.lt (T.b2.cell 0) (T.b2.cell 1) (T.b2.cell 2) h0

theorem st_own {β : Type} (L : β → List (Nat × TypeId × Array Value)) {w0 : World} {B : Nat} (hB : w0.heap.size ≤ B) : OwnFrom B (fun s W => St (L s) w0 W) := fun s W W' row hs hg hr =>
  ⟨fun x hx => (grownBy_keeps_cells hg (fun r e => (hr r e).2) (hs.blk x hx) rfl).trans (hs.blk x hx), ownFrom_below (Nat.le_refl _) hB s W W' row hs.bel hg hr, hs.old⟩
theorem _root_.Go.Proofs.YtfhcakpmlppbkaaDoor.St.put {g t : Nat} {cs : Array Value} {L : List (Nat × TypeId × Array Value)} {w0 w : World} (h : St ((g, t, cs) :: L) w0 w) (hne : ∀ x ∈ L, x.1 ≠ g) (i : Nat) (v : Value) : St ((g, t, cs.setIfInBounds i v) :: L) w0 (w.setCell ⟨g, i, none⟩ v) :=
  ⟨fun x hx => by
    rcases List.mem_cons.1 hx with rfl | hx
    · exact h.b0.set_ i v
    · exact (h.tail.blk x hx).far (hne x hx) v, h.bel.setCell (h.old (g, t, cs) (List.mem_cons_self ..)) _, fun x hx => by
    rcases List.mem_cons.1 hx with rfl | hx
    · exact h.old (g, t, cs) (List.mem_cons_self ..)
    · exact h.tail.old x hx⟩
theorem _root_.Go.Proofs.YtfhcakpmlppbkaaDoor.St.gone {L : List (Nat × TypeId × Array Value)} {w0 w : World} (h : St L w0 w) {D : Nat} (hD : w0.heap.size ≤ D) {o : Obj} (hK : w.heap[D]? = some o) (c1 : o.isCells = false) (o' : Obj) : St L w0 (w.putObj D o') :=
  st_own (fun (_ : Unit) => L) (Nat.le_refl _) () w _ (some D) h (grownBy_putObj' w D o') (fun r e => by cases e; exact ⟨hD, o, hK, c1⟩)

theorem _root_.Go.Proofs.YtfhcakpmlppbkaaDoor.St.one {x : Nat × TypeId × Array Value} {L : List (Nat × TypeId × Array Value)} {w0 w : World} (h : St (x :: L) w0 w) : St [x] w0 w :=
  ⟨fun y hy => by rw [List.mem_singleton] at hy; subst hy; exact h.blk y (List.mem_cons_self ..), h.bel, fun y hy => by rw [List.mem_singleton] at hy; subst hy; exact h.old y (List.mem_cons_self ..)⟩
theorem yKp_set {b1 b2 c i : Nat} (h1 : b1 ≠ c) (h2 : b2 ≠ c) (W : World) (v : Value) : yKp b1 b2 W (W.setCell ⟨c, i, none⟩ v) := fun _ => ⟨World.cell?_setCell_far _ _ _ _ (by simpa using h1.symm), World.cell?_setCell_far _ _ _ _ (by simpa using h2.symm)⟩

/-- What CountYears answers. -/
theorem cy_len {s : ByteArray} {f t : Int} (h : rOk s f t) : (yM f t 1 : Int) = ry f t := by
  have := (ry_bd h.2.2.2).1
  unfold yM
  omega

end Go.Proofs.YtfhcakpmlppbkaaDoor.Rei
