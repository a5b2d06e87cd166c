/- Contracts of impl's years as an iterator value, and of CountYears. -/
import Derived.Test.YtfhcakpmlppbkaaReiIc
namespace Go.Proofs.Ytfhcakpmlppbkaa.Rei
open Go.RowKit Go.Shelf
open Go.Proofs.Ytfhcakpmlppbkaa.Eas (It)
open Go.Proofs.Ytfhcakpmlppbkaa.Fea (isDay yr yr_isY)
attribute [local go_sem] Oper.semAt_some

theorem impl_dateV (n : Int) (h : isDay n) (w : World) : Calls Try.prog 74 #[.int .i64 0, .int .i64 n] w fun e w' => ∃ y m d : Int, e = .returned (.tuple #[.agg #[.int .i64 y, .int .i64 m, .int .i64 d], .int .i64 0]) ∧ Cal.valid false y m d ∧ Cal.num false y m d = n ∧ Below w.heap.size w w' := by
  refine (impl_dateOf false n w).mono fun e w' q => ?_
  obtain ⟨y, m, d, c, he, hd, hb⟩ := q
  rcases hd with ⟨-, -, rfl, hv, hn⟩ | ⟨h2, -⟩
  · exact ⟨y, m, d, he, hv, hn, hb⟩
  · exfalso
    rw [Cal.ys_1, Cal.ys_2001] at h2
    obtain ⟨h0, h1⟩ := h
    simp at h2
    omega

/-- The iterator value that years answers, and the three boxes that it holds. -/
def YrsOut (s : ByteArray) (f t k0 : Int) (w : World) (e : Ending) (w' : World) : Prop :=
  ∃ (y m d : Int) (g : Nat), Cal.valid false y m d ∧ Cal.num false y m d = f ∧ w.heap.size + 1 < g ∧ e = .returned (.func (.func 78) #[] #[.pointer (some ⟨g, 0, none⟩), .pointer (some ⟨w.heap.size + 1, 0, none⟩), .pointer (some ⟨w.heap.size, 0, none⟩)]) ∧
    St [(g, 93, #[.int .i64 y, .int .i64 m, .int .i64 d]), (w.heap.size + 1, 2, #[.int .i64 k0]), (w.heap.size, 25, #[.string s, .int .i64 f, .int .i64 t])] w w'

theorem impl_years (s : ByteArray) (f t k0 : Int) (hf : isDay f) (w : World) : Calls Try.prog 59 #[rV s f t, .int .i64 k0] w (YrsOut s f t k0 w) := by
  have D := Lib.hid (impl_dateV f hf)
  have S0 := ((St.start w).alloc 25 #[.string s, .int .i64 f, .int .i64 t]).alloc 2 #[.int .i64 k0]
  simp only [World.size_alloc] at S0
  clear hf
  go_enter Try.func59, Try.ntmps59
  go_wp2_with fail
  refine (D.out _).mono ?_
  rintro e w1 ⟨y, m, d, rfl, hv, hn, hb⟩
  have hz := hb.size
  simp at hz
  have S1 := (S0.call hb).alloc 93 #[.int .i64 y, .int .i64 m, .int .i64 d]
  clear S0 hb D
  go_wp2_with fail
  go_ret
  exact ⟨y, m, d, _, hv, hn, by omega, rfl, S1⟩

/-- How many years there are from the year k0 on. -/
def yM (f t k0 : Int) : Nat := (ry f t + 1 - k0).toNat
theorem years_stops (n : Nat) (hn : 1 ≤ n) {y m d f : Int} (hv : Cal.valid false y m d) (hnum : Cal.num false y m d = f) (s : ByteArray) (t k0 : Int) (f0 : 0 ≤ f) (f1 : f ≤ t) (t1 : t ≤ 730499) (h1 : 1 ≤ k0) (h2 : k0 ≤ 9223372036854775807) (g bf br : Nat) {w0 : World} (w : World)
    (S : St [(g, 93, #[.int .i64 y, .int .i64 m, .int .i64 d]), (bf, 2, #[.int .i64 k0]), (br, 25, #[.string s, .int .i64 f, .int .i64 t])] w0 w) :
    SeqStopsK Fence.wide n Try.prog 78 #[.pointer (some ⟨g, 0, none⟩), .pointer (some ⟨bf, 0, none⟩), .pointer (some ⟨br, 0, none⟩)] (yEnc f t k0) (yKp g br) (fun xs => xs = List.range (yM f t k0)) (fun pre => ∃ j, j < yM f t k0 ∧ pre = List.range (j + 1)) (yM f t k0) w := fun l J Jx W hW hJ _ hY h0 => by
  have T := S.call hW
  refine years1_in n hn l g bf br hv hnum s t k0 f0 f1 t1 h1 h2 (yM f t k0) rfl J Jx W T.b0.lt T.b2.lt hJ hY (T.b0.cell 0) (T.b0.cell 1) (T.b0.cell 2) (T.b1.cell 0) T.b1.lt (T.b2.cell 0) (T.b2.cell 1) (T.b2.cell 2) h0

theorem st_own {β : Type} (L : β → List (Nat × TypeId × Array Value)) {w0 : World} {B : Nat} (hB : w0.heap.size ≤ B) : OwnFrom B (fun s W => St (L s) w0 W) := fun s W W' row hs hg hr =>
  ⟨fun x hx => (grownBy_keeps_cells hg (fun r e => (hr r e).2) (hs.blk x hx) rfl).trans (hs.blk x hx), ownFrom_below (Nat.le_refl _) hB s W W' row hs.bel hg hr, hs.old⟩
theorem _root_.Go.Proofs.Ytfhcakpmlppbkaa.St.put {g t : Nat} {cs : Array Value} {L : List (Nat × TypeId × Array Value)} {w0 w : World} (h : St ((g, t, cs) :: L) w0 w) (hne : ∀ x ∈ L, x.1 ≠ g) (i : Nat) (v : Value) : St ((g, t, cs.setIfInBounds i v) :: L) w0 (w.setCell ⟨g, i, none⟩ v) :=
  ⟨fun x hx => by
    rcases List.mem_cons.1 hx with rfl | hx
    · exact h.b0.set_ i v
    · exact (h.tail.blk x hx).far (hne x hx) v, h.bel.setCell (h.old (g, t, cs) (List.mem_cons_self ..)) _, fun x hx => by
    rcases List.mem_cons.1 hx with rfl | hx
    · exact h.old (g, t, cs) (List.mem_cons_self ..)
    · exact h.tail.old x hx⟩
theorem _root_.Go.Proofs.Ytfhcakpmlppbkaa.St.gone {L : List (Nat × TypeId × Array Value)} {w0 w : World} (h : St L w0 w) {D : Nat} (hD : w0.heap.size ≤ D) {o : Obj} (hK : w.heap[D]? = some o) (c1 : o.isCells = false) (o' : Obj) : St L w0 (w.putObj D o') :=
  st_own (fun (_ : Unit) => L) (Nat.le_refl _) () w _ (some D) h (grownBy_putObj' w D o') (fun r e => by cases e; exact ⟨hD, o, hK, c1⟩)

theorem _root_.Go.Proofs.Ytfhcakpmlppbkaa.St.one {x : Nat × TypeId × Array Value} {L : List (Nat × TypeId × Array Value)} {w0 w : World} (h : St (x :: L) w0 w) : St [x] w0 w :=
  ⟨fun y hy => by rw [List.mem_singleton] at hy; subst hy; exact h.blk y (List.mem_cons_self ..), h.bel, fun y hy => by rw [List.mem_singleton] at hy; subst hy; exact h.old y (List.mem_cons_self ..)⟩
theorem yKp_set {b1 b2 c i : Nat} (h1 : b1 ≠ c) (h2 : b2 ≠ c) (W : World) (v : Value) : yKp b1 b2 W (W.setCell ⟨c, i, none⟩ v) := fun _ => ⟨World.cell?_setCell_far _ _ _ _ (by simpa using h1.symm), World.cell?_setCell_far _ _ _ _ (by simpa using h2.symm)⟩

/-- What CountYears answers. -/
theorem cy_len {s : ByteArray} {f t : Int} (h : rOk s f t) : (yM f t 1 : Int) = ry f t := by
  have := (ry_bd h.2.2.2).1
  unfold yM
  omega

set_option maxRecDepth 100000 in
set_option maxHeartbeats 4000000 in
theorem impl_CountYears_yes (s : ByteArray) (hs : s.size ≤ maxLen) (f t : Int) (h : rOk s f t) (w : World) : Calls Try.prog 19 #[rV s f t] w (Two (ry f t) 0 w) := by
  have R := Lib.hid (impl_reign s hs f t true (decide_eq_true h))
  have Y := Lib.hid (fun w => impl_years s f t 1 h.2.1 w)
  have HM := Lib.hid (cy_len h)
  have HB := Lib.hid (show ry f t ≤ 2001 by
    have a := (ry_bd h.2.2.2).2.2
    have b := (yr_isY t (by have := h.2.1; have := h.2.2; omega) h.2.2.1.2).2
    have c := (yr_isY f h.2.1.1 h.2.1.2).1
    omega)
  have S0 := (St.start w).alloc 25 #[.string s, .int .i64 f, .int .i64 t]
  refine (callsIn_wide (n := 3)).1 ?_
  refine callsIn_of_wp_marks Try.func19 rfl trivial ?_ rfl
  simp only [Try.ntmps19, List.size_toArray, List.length_cons, List.length_nil, Nat.reduceAdd, Nat.reduceSub, Array.replicate_succ, Array.replicate_zero, List.push_toArray, List.append_toArray, List.nil_append, List.cons_append]
  gi_wp2_with first
    | (refine ⟨trivial, ?_⟩; gi_at_call 48; refine (callsIn_wide.2 (R.out _)).mono ?_; rintro e w1 ⟨rfl, hb1⟩; have S1 := (S0.call hb1).alloc 2 #[.int .i64 0]; obtain ⟨c0, c1, c2, -⟩ := S1.rei1)
    | (refine ⟨trivial, ?_⟩; gi_at_call 59; refine (callsIn_wide.2 (Y.out _)).mono ?_; rintro e w2 ⟨y, m, d, g, hv, hnum, hg, rfl, S2⟩)
  have S3 := S1.one.call S2.bel
  simp only [World.size_alloc] at hg S2
  have hc := S1.b0.lt
  have hc2 := S1.b1.lt
  simp only [World.size_alloc] at hc hc2
  have lg := S2.b0.lt
  have lb := S2.b2.lt
  clear c0 c1 c2 S1 S0 R Y
  generalize w1.heap.size = c at *
  have hst := years_stops (3 - 1) (by omega) hv hnum s t 1 h.2.1.1 h.2.2.2 h.2.2.1.2 (by omega) (by omega) g (c + 1 + 1) (c + 1) w2 S2
  clear hv hnum S2 h
  refine wpIn_rangeFunc_ownG rfl (by omega) (gf := 78) (lb := #[.pointer (some ⟨g, 0, none⟩), .pointer (some ⟨c + 1 + 1, 0, none⟩), .pointer (some ⟨c + 1, 0, none⟩)]) rfl trivial (enters_of Try.func78 (by kernel_rfl) rfl)
    hst yKp_t (yKp_b lg lb) (Below.refl _ _) (fun _ => rfl)
    (fun pre W => St [(c, 2, #[.int .i64 (pre.length : Int)])] w W)
    (fun _ _ _ => False)
    (st_own _ S3.bel.size)
    (fun _ _ _ _ _ hs _ _ => hs)
    S3
    (fun x => { tmps := #[rV s f t, .pointer (some ⟨w.heap.size, 0, none⟩), .int .i64 0, .int .i64 0, .pointer (some ⟨c, 0, none⟩), .agg #[.string s, .int .i64 f, .int .i64 t], .bool true, .bool false, .agg #[.string s, .int .i64 f, .int .i64 t],
      .func (.func 78) #[] #[.pointer (some ⟨g, 0, none⟩), .pointer (some ⟨c + 1 + 1, 0, none⟩), .pointer (some ⟨c + 1, 0, none⟩)], .int .i64 (1 + x), .agg #[.int .i64 (rb f (1 + x)), .int .i64 (min t (rb f (1 + x + 1) - 1))], undef, undef, undef], defers := [] }) ?assign ?body ?done ?stop
  case assign =>
    intro l x W K hK
    dsimp only [yEnc]
    gi_wp2
    simpa [List.zip_toArray] using hK
  case body =>
    rintro l pre x W hS hlt
    have cc := hS.b0.cell 0
    have fc := hS.b0.frozen 0
    simp at cc
    have := HM.out
    have := HB.out
    have hN := hS.put (by simp) 0 (.int .i64 ((pre.length : Int) + 1))
    clear hst S3
    gi_wp2
    exact ⟨(KeepsOthers.setCell _ _ _).from _, yKp_set (by omega) (by omega) _ _, by simpa using hN⟩
  case done =>
    rintro D xs W hD rfl hS hK
    have cc := hS.b0.cell 0
    simp at cc
    have e := HM.out
    have hN := hS.gone (by have := S3.bel.size; omega) hK rfl (.deferred none)
    clear hst
    gi_wp2
    refine ⟨by simp, .inl ⟨_, _, rfl, run_takeDeferred hK, ?_⟩⟩
    refine ⟨_, results_tmp2 rfl _ _ _, ⟨?_, hN.bel⟩⟩
    simp
  case stop =>
    rintro D c pre W _ _ h _
    exact h.elim

end Go.Proofs.Ytfhcakpmlppbkaa.Rei
