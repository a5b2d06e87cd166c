/- Texts of a claim in one file: ReiId ReiIe. -/
import Derived.Test.YtfhcakpmlppbkaaGreatDoorGrpBc
namespace Go.Proofs.YtfhcakpmlppbkaaGreatDoor.Rei
open Go.RowKit Go.Shelf
open Go.Proofs.YtfhcakpmlppbkaaGreatDoor.Eas (It)
open Go.Proofs.YtfhcakpmlppbkaaGreatDoor.Fea (isDay yr yr_isY)
attribute [local go_sem] Oper.semAt_some

theorem impl_dateV (n : Int) (h : isDay n) (w : World) : Calls Tryz.prog 92 #[.int .i64 0, .int .i64 n] w fun e w' => ∃ y m d : Int, e = .returned (.tuple #[.agg #[.int .i64 y, .int .i64 m, .int .i64 d], .int .i64 0]) ∧ Cal.valid false y m d ∧ Cal.num false y m d = n ∧ Below w.heap.size w w' := by
  refine (impl_dateOf false n w).mono fun e w' q => ?_
  obtain ⟨y, m, d, c, he, hd, hb⟩ := q
  rcases hd with ⟨-, -, rfl, hv, hn⟩ | ⟨h2, -⟩
  · exact ⟨y, m, d, he, hv, hn, hb⟩
  · exfalso
    rw [Cal.ys_1, Cal.ys_2001] at h2
    obtain ⟨h0, h1⟩ := h
    simp at h2
    omega

/-- The iterator value that years answers, and the three boxes that it holds. -/
def YrsOut (s : ByteArray) (f t k0 : Int) (w : World) (e : Ending) (w' : World) : Prop :=
  ∃ (y m d : Int) (g : Nat), Cal.valid false y m d ∧ Cal.num false y m d = f ∧ w.heap.size + 1 < g ∧ e = .returned (.func (.func 117) #[] #[.pointer (some ⟨g, 0, none⟩), .pointer (some ⟨w.heap.size + 1, 0, none⟩), .pointer (some ⟨w.heap.size, 0, none⟩)]) ∧
    St [(g, 113, #[.int .i64 y, .int .i64 m, .int .i64 d]), (w.heap.size + 1, 2, #[.int .i64 k0]), (w.heap.size, 79, #[.string s, .int .i64 f, .int .i64 t])] w w'

theorem impl_years (s : ByteArray) (f t k0 : Int) (hf : isDay f) (w : World) : Calls Tryz.prog 93 #[rV s f t, .int .i64 k0] w (YrsOut s f t k0 w) := by
  have D := Lib.hid (impl_dateV f hf)
  have S0 := ((St.start w).alloc 79 #[.string s, .int .i64 f, .int .i64 t]).alloc 2 #[.int .i64 k0]
  simp only [World.size_alloc] at S0
  clear hf
  go_enter Tryz.func93, Tryz.ntmps93
  go_wp2_with fail
  refine (D.out _).mono ?_
  rintro e w1 ⟨y, m, d, rfl, hv, hn, hb⟩
  have hz := hb.size
  simp at hz
  have S1 := (S0.call hb).alloc 113 #[.int .i64 y, .int .i64 m, .int .i64 d]
  clear S0 hb D
  go_wp2_with fail
  go_ret
  exact ⟨y, m, d, _, hv, hn, by omega, rfl, S1⟩

/-- How many years there are from the year k0 on. -/
def yM (f t k0 : Int) : Nat := (ry f t + 1 - k0).toNat
theorem years_stops (n : Nat) (hn : 1 ≤ n) {y m d f : Int} (hv : Cal.valid false y m d) (hnum : Cal.num false y m d = f) (s : ByteArray) (t k0 : Int) (f0 : 0 ≤ f) (f1 : f ≤ t) (t1 : t ≤ 730499) (h1 : 1 ≤ k0) (h2 : k0 ≤ 9223372036854775807) (g bf br : Nat) {w0 : World} (w : World)
    (S : St [(g, 113, #[.int .i64 y, .int .i64 m, .int .i64 d]), (bf, 2, #[.int .i64 k0]), (br, 79, #[.string s, .int .i64 f, .int .i64 t])] w0 w) :
    SeqStopsK Fence.wide n Tryz.prog 117 #[.pointer (some ⟨g, 0, none⟩), .pointer (some ⟨bf, 0, none⟩), .pointer (some ⟨br, 0, none⟩)] (yEnc f t k0) (yKp g br) (fun xs => xs = List.range (yM f t k0)) (fun pre => ∃ j, j < yM f t k0 ∧ pre = List.range (j + 1)) (yM f t k0) w := fun l J Jx W hW hJ _ hY h0 => by
  have T := S.call hW
  refine years1_in n hn l g bf br hv hnum s t k0 f0 f1 t1 h1 h2 (yM f t k0) rfl J Jx W T.b0.lt T.b2.lt hJ hY (T.b0.cell 0) (T.b0.cell 1) (T.b0.cell 2) (T.b1.cell 0) T.b1.lt (T.b2.cell 0) (T.b2.cell 1) (T.b2.cell 2) h0

theorem st_own {β : Type} (L : β → List (Nat × TypeId × Array Value)) {w0 : World} {B : Nat} (hB : w0.heap.size ≤ B) : OwnFrom B (fun s W => St (L s) w0 W) := fun s W W' row hs hg hr =>
  ⟨fun x hx => (grownBy_keeps_cells hg (fun r e => (hr r e).2) (hs.blk x hx) rfl).trans (hs.blk x hx), ownFrom_below (Nat.le_refl _) hB s W W' row hs.bel hg hr, hs.old⟩
theorem _root_.Go.Proofs.YtfhcakpmlppbkaaGreatDoor.St.put {g t : Nat} {cs : Array Value} {L : List (Nat × TypeId × Array Value)} {w0 w : World} (h : St ((g, t, cs) :: L) w0 w) (hne : ∀ x ∈ L, x.1 ≠ g) (i : Nat) (v : Value) : St ((g, t, cs.setIfInBounds i v) :: L) w0 (w.setCell ⟨g, i, none⟩ v) :=
  ⟨fun x hx => by
    rcases List.mem_cons.1 hx with rfl | hx
    · exact h.b0.set_ i v
    · exact (h.tail.blk x hx).far (hne x hx) v, h.bel.setCell (h.old (g, t, cs) (List.mem_cons_self ..)) _, fun x hx => by
    rcases List.mem_cons.1 hx with rfl | hx
    · exact h.old (g, t, cs) (List.mem_cons_self ..)
    · exact h.tail.old x hx⟩
theorem _root_.Go.Proofs.YtfhcakpmlppbkaaGreatDoor.St.gone {L : List (Nat × TypeId × Array Value)} {w0 w : World} (h : St L w0 w) {D : Nat} (hD : w0.heap.size ≤ D) {o : Obj} (hK : w.heap[D]? = some o) (c1 : o.isCells = false) (o' : Obj) : St L w0 (w.putObj D o') :=
  st_own (fun (_ : Unit) => L) (Nat.le_refl _) () w _ (some D) h (grownBy_putObj' w D o') (fun r e => by cases e; exact ⟨hD, o, hK, c1⟩)

theorem _root_.Go.Proofs.YtfhcakpmlppbkaaGreatDoor.St.one {x : Nat × TypeId × Array Value} {L : List (Nat × TypeId × Array Value)} {w0 w : World} (h : St (x :: L) w0 w) : St [x] w0 w :=
  ⟨fun y hy => by rw [List.mem_singleton] at hy; subst hy; exact h.blk y (List.mem_cons_self ..), h.bel, fun y hy => by rw [List.mem_singleton] at hy; subst hy; exact h.old y (List.mem_cons_self ..)⟩
theorem yKp_set {b1 b2 c i : Nat} (h1 : b1 ≠ c) (h2 : b2 ≠ c) (W : World) (v : Value) : yKp b1 b2 W (W.setCell ⟨c, i, none⟩ v) := fun _ => ⟨World.cell?_setCell_far _ _ _ _ (by simpa using h1.symm), World.cell?_setCell_far _ _ _ _ (by simpa using h2.symm)⟩

/-- What CountYears answers. -/
theorem cy_len {s : ByteArray} {f t : Int} (h : rOk s f t) : (yM f t 1 : Int) = ry f t := by
  have := (ry_bd h.2.2.2).1
  unfold yM
  omega

end Go.Proofs.YtfhcakpmlppbkaaGreatDoor.Rei

namespace Go.Proofs.YtfhcakpmlppbkaaGreatDoor.Rei
open Go.RowKit Go.Shelf
open Go.Proofs.YtfhcakpmlppbkaaGreatDoor.Eas (It)
open Go.Proofs.YtfhcakpmlppbkaaGreatDoor.Fea (isDay yr yr_isY)
attribute [local go_sem] Oper.semAt_some

theorem sp_iff {f t k : Int} (f0 : 0 ≤ f) (f1 : f ≤ t) (t1 : t ≤ 730499) : (k ≤ 2000 ∧ rb f k ≤ t) ↔ k ≤ ry f t := by
  rw [← yr_ex f1 t1, nb_le t1]
  have g := (yr_isY f f0 (by omega)).1
  constructor
  · rintro ⟨-, h⟩
    refine ⟨?_, h⟩
    rcases Int.lt_or_le 2000 (yr f + k - 1) with q | q
    · have := rb_far (f := f) (k := k) q; omega
    · exact q
  · rintro ⟨h1, h2⟩
    exact ⟨by omega, h2⟩
theorem _root_.Go.Proofs.YtfhcakpmlppbkaaGreatDoor.St.join {L1 L2 : List (Nat × TypeId × Array Value)} {w0 w1 w2 : World} (h1 : St L1 w0 w1) (h2 : St L2 w1 w2) : St (L2 ++ L1) w0 w2 :=
  ⟨fun x hx => (List.mem_append.1 hx).elim (h2.blk x) ((h1.call h2.bel).blk x), (h1.call h2.bel).bel, fun x hx => (List.mem_append.1 hx).elim (fun q => Nat.le_trans h1.bel.size (h2.old x q)) (h1.old x)⟩
theorem _root_.Go.Proofs.YtfhcakpmlppbkaaGreatDoor.St.sub {L L' : List (Nat × TypeId × Array Value)} {w0 w : World} (h : St L w0 w) (hs : ∀ x ∈ L', x ∈ L) : St L' w0 w := ⟨fun x hx => h.blk x (hs x hx), h.bel, fun x hx => h.old x (hs x hx)⟩

/-- What a walk of yearSpan leaves in its two results. -/
def SpRes (b : Nat) (F T : Int) (ok : Bool) (w0 w : World) : Prop := St [(b, 36, #[.int .i64 F, .int .i64 T]), (b + 1, 4, #[.bool ok])] w0 w
theorem SpRes.start (w0 w : World) (b : Nat) {L : List (Nat × TypeId × Array Value)} {F T F' T' : Int} {ok ok' : Bool} (h : St L w0 w) (h1 : (b, 36, #[.int .i64 F', .int .i64 T']) ∈ L) (h2 : (b + 1, 4, #[.bool ok']) ∈ L) :
    SpRes b F T ok w0 (((w.setCell ⟨b, 0, none⟩ (.int .i64 F)).setCell ⟨b, 1, none⟩ (.int .i64 T)).setCell ⟨b + 1, 0, none⟩ (.bool ok)) := by
  have s0 : St [(b, 36, #[.int .i64 F', .int .i64 T']), (b + 1, 4, #[.bool ok'])] w0 w := h.sub (by
    intro x hx
    simp only [List.mem_cons, List.not_mem_nil, or_false] at hx
    rcases hx with rfl | rfl
    · exact h1
    · exact h2)
  have s1 := s0.put (by simp) 0 (.int .i64 F)
  have s2 := s1.put (by simp) 1 (.int .i64 T)
  have s3 : St [(b + 1, 4, #[.bool ok']), (b, 36, #[.int .i64 F, .int .i64 T])] w0 _ := s2.sub (by
    intro x hx
    simp only [List.mem_cons, List.not_mem_nil, or_false] at hx ⊢
    rcases hx with rfl | rfl
    · exact .inr rfl
    · exact .inl rfl)
  have s4 := s3.put (by simp) 0 (.bool ok)
  exact s4.sub (by
    intro x hx
    simp only [List.mem_cons, List.not_mem_nil, or_false] at hx ⊢
    rcases hx with rfl | rfl
    · exact .inr rfl
    · exact .inl rfl)

set_option maxRecDepth 100000 in
set_option maxHeartbeats 4000000 in
theorem impl_yearSpan (s : ByteArray) (f t k : Int) (f0 : 0 ≤ f) (f1 : f ≤ t) (t1 : t ≤ 730499) (k0 : 1 ≤ k) (k1 : k ≤ 9223372036854775807) (F T : Int) (b : Bool) (hb : decide (k ≤ ry f t) = b)
    (hF : (if k ≤ ry f t then rb f k else 0) = F) (hT : (if k ≤ ry f t then min t (rb f (k + 1) - 1) else 0) = T) (w : World) : Calls Tryz.prog 73 #[rV s f t, .int .i64 k] w (SpB F T b w) := by
  have Y := Lib.hid (fun w => impl_years s f t k ⟨f0, by omega⟩ w)
  have S0 := (((St.start w).alloc 79 #[.string s, .int .i64 f, .int .i64 t]).alloc 36 #[.int .i64 0, .int .i64 0]).alloc 4 #[.bool false]
  simp only [World.size_alloc] at S0
  obtain ⟨c0, c1, c2⟩ : _ ∧ _ ∧ _ := ⟨S0.b2.cell 0, S0.b2.cell 1, S0.b2.cell 2⟩
  simp only [List.getElem?_toArray, List.getElem?_cons_zero, List.getElem?_cons_succ] at c0 c1 c2
  refine (callsIn_wide (n := 3)).1 ?_
  refine callsIn_of_wp_marks Tryz.func73 rfl trivial ?_ rfl
  simp only [Tryz.ntmps73, List.size_toArray, List.length_cons, List.length_nil, Nat.reduceAdd, Nat.reduceSub, Array.replicate_succ, Array.replicate_zero, List.push_toArray, List.append_toArray, List.nil_append, List.cons_append]
  gi_wp2_with (refine ⟨trivial, ?_⟩; gi_at_call 93; refine (callsIn_wide.2 (Y.out _)).mono ?_; rintro e w2 ⟨y, m, d, g, hv, hnum, hg, rfl, S2⟩)
  have S3 := S0.join S2
  simp only [World.size_alloc] at hg S2 S3
  have lg := S2.b0.lt
  have lb := S2.b2.lt
  simp only [List.cons_append, List.nil_append] at S3
  have hst := years_stops (3 - 1) (by omega) hv hnum s t k f0 f1 t1 k0 k1 g _ _ w2 S2
  clear c0 c1 c2 S0 S2 Y hv hnum
  have hw2 := S3.bel.size
  have hbs := S3.tail.tail.tail.b0.lt
  refine wpIn_rangeFunc_ownH rfl (by omega) (gf := 117) (lb := #[.pointer (some ⟨g, 0, none⟩), .pointer (some ⟨w.heap.size + 1 + 1 + 1 + 1, 0, none⟩), .pointer (some ⟨w.heap.size + 1 + 1 + 1, 0, none⟩)]) rfl trivial (enters_of Tryz.func117 (by kernel_rfl) rfl)
    hst yKp_t (yKp_b lg lb) (Below.refl _ _) (fun _ => rfl)
    (fun pre W => pre = [] ∧ St [(g, 113, #[.int .i64 y, .int .i64 m, .int .i64 d]), (w.heap.size + 1 + 1 + 1 + 1, 2, #[.int .i64 k]), (w.heap.size + 1 + 1 + 1, 79, #[.string s, .int .i64 f, .int .i64 t]),
        (w.heap.size + 1 + 1, 4, #[.bool false]), (w.heap.size + 1, 36, #[.int .i64 0, .int .i64 0]), (w.heap.size, 79, #[.string s, .int .i64 f, .int .i64 t])] w W)
    (fun c pre W => c = .ret ∧ ∃ x : Nat, pre = [x] ∧ SpRes (w.heap.size + 1) (rb f (k + x)) (min t (rb f (k + x + 1) - 1)) true w W)
    (OwnFrom.and (ownFrom_pure _ _) (st_own _ hw2))
    (fun c q A B row hs hg hr => by obtain ⟨hc, x, e, h⟩ := hs; exact ⟨hc, x, e, st_own (fun (_ : Unit) => _) hw2 () A B row h hg hr⟩)
    ⟨rfl, S3⟩
    (fun x a' W => ∃ Bx, Blk W Bx 36 #[.int .i64 (rb f (k + x)), .int .i64 (min t (rb f (k + x + 1) - 1))] ∧ w.heap.size + 1 + 1 < Bx ∧ a' = { tmps := #[rV s f t, .int .i64 k, .pointer (some ⟨w.heap.size, 0, none⟩), undef, .pointer (some ⟨w.heap.size + 1, 0, none⟩), .pointer (some ⟨w.heap.size + 1 + 1, 0, none⟩), undef, .pointer (some ⟨Bx, 0, none⟩), .agg #[.string s, .int .i64 f, .int .i64 t], .int .i64 k,
      .func (.func 117) #[] #[.pointer (some ⟨g, 0, none⟩), .pointer (some ⟨w.heap.size + 1 + 1 + 1 + 1, 0, none⟩), .pointer (some ⟨w.heap.size + 1 + 1 + 1, 0, none⟩)], .int .i64 (k + x), .agg #[.int .i64 (rb f (k + x)), .int .i64 (min t (rb f (k + x + 1) - 1))], undef, undef], defers := [] })
    (fun x a' _ X Y row hs hg hr => by obtain ⟨Bx, h1, h2, h3⟩ := hs; exact ⟨Bx, (grownBy_keeps_cells hg (fun r e => (hr r e).2) h1 rfl).trans h1, h2, h3⟩)
    ?assign ?body ?done ?stop
  case assign =>
    rintro l pre x W K ⟨hp, hS⟩ hK
    have l1 := hS.b0.lt
    have l2 := hS.b2.lt
    have l3 := hS.b3.lt
    dsimp only [yEnc]
    gi_wp2
    exact hK _ _ ((KeepsOthers.alloc _ _).from _) (yKp_below ((Below.refl W.heap.size W).alloc (Nat.le_refl _) _) l1 l2) ⟨hp, hS.call ((Below.refl W.heap.size W).alloc (Nat.le_refl _) _)⟩ ⟨W.heap.size, Blk.new W _ _, l3, rfl⟩
  case body =>
    rintro l pre x a' W hl ⟨r, hr⟩ ⟨rfl, hS⟩ ⟨Bx, hX, hlt, rfl⟩ hN
    have x0 := hX.cell 0
    have x1 := hX.cell 1
    simp only [List.getElem?_toArray, List.getElem?_cons_zero, List.getElem?_cons_succ] at x0 x1
    have z0 := hS.tail.b3.cell 0
    have z1 := hS.tail.b3.cell 1
    have y0 := hS.b3.cell 0
    have fz0 := hS.tail.b3.frozen 0
    have fz1 := hS.tail.b3.frozen 1
    have fy0 := hS.b3.frozen 0
    simp only [List.getElem?_toArray, List.getElem?_cons_zero, List.getElem?_cons_succ] at z0 z1 y0
    have hres := SpRes.start w W (w.heap.size + 1) (F := rb f (k + x)) (T := min t (rb f (k + x + 1) - 1)) (ok := true) (F' := 0) (T' := 0) (ok' := false) hS (by simp) (by simp)
    clear hst
    gi_wp2
    exact ⟨(((KeepsOthers.setCell _ _ _).trans (KeepsOthers.setCell _ _ _)).trans (KeepsOthers.setCell _ _ _)).from _, rfl, x, rfl, hres⟩
  case done =>
    rintro D xs W hD rfl ⟨hp, hS⟩ hK
    have hM : ¬ k ≤ ry f t := fun q => by
      have e : (List.range (yM f t k)).length = 0 := by rw [hp]; rfl
      rw [List.length_range] at e
      unfold yM at e
      omega
    rw [if_neg hM] at hF hT
    rw [decide_eq_false hM] at hb
    subst hF hT hb
    have z0 := hS.tail.b3.cell 0
    have z1 := hS.tail.b3.cell 1
    have y0 := hS.b3.cell 0
    have fz0 := hS.tail.b3.frozen 0
    have fz1 := hS.tail.b3.frozen 1
    have fy0 := hS.b3.frozen 0
    simp only [List.getElem?_toArray, List.getElem?_cons_zero, List.getElem?_cons_succ] at z0 z1 y0
    have hres := SpRes.start w W (w.heap.size + 1) (F := 0) (T := 0) (ok := false) (F' := 0) (T' := 0) (ok' := false) hS (by simp) (by simp)
    clear hst
    gi_wp2
    have hK' := (((KeepsOthers.setCell W ⟨w.heap.size + 1, 0, none⟩ (.int .i64 0)).trans (KeepsOthers.setCell _ ⟨w.heap.size + 1, 1, none⟩ (.int .i64 0))).trans (KeepsOthers.setCell _ ⟨w.heap.size + 1 + 1, 0, none⟩ (.bool false))).same D _ hK rfl
    have hG := hres.gone (by omega) hK' rfl (.deferred none)
    refine ⟨by simp, .inl ⟨_, _, rfl, run_takeDeferred hK', ?_⟩⟩
    have q0 := hG.b0.cell 0
    have q1 := hG.b0.cell 1
    have q2 := hG.b1.cell 0
    simp only [List.getElem?_toArray, List.getElem?_cons_zero, List.getElem?_cons_succ] at q0 q1 q2
    refine ⟨.tuple #[.agg #[.int .i64 0, .int .i64 0], .bool false], ?_, rfl, hG.bel⟩
    simp [results, Tryz.results73, go_sem, q0, q1, q2]
  case stop =>
    rintro D c pre W hD ⟨j, hj, rfl⟩ ⟨rfl, x, hx, hres⟩ hK
    obtain ⟨rfl, rfl⟩ : j = 0 ∧ x = 0 := by
      have e : (List.range (j + 1)).length = 1 := by rw [hx]; rfl
      rw [List.length_range] at e
      obtain rfl : j = 0 := by omega
      refine ⟨rfl, ?_⟩
      simpa using hx.symm
    have hM : k ≤ ry f t := by unfold yM at hj; omega
    rw [if_pos hM] at hF hT
    rw [decide_eq_true hM] at hb
    simp only [Int.natCast_zero, Int.add_zero] at hres
    rw [hF, hT] at hres
    subst hb
    clear hst
    gi_wp2
    have hG := hres.gone (by omega) hK rfl (.deferred none)
    refine ⟨by simp, .inl ⟨_, _, rfl, run_takeDeferred hK, ?_⟩⟩
    have q0 := hG.b0.cell 0
    have q1 := hG.b0.cell 1
    have q2 := hG.b1.cell 0
    simp only [List.getElem?_toArray, List.getElem?_cons_zero, List.getElem?_cons_succ] at q0 q1 q2
    refine ⟨.tuple #[.agg #[.int .i64 F, .int .i64 T], .bool true], ?_, rfl, hG.bel⟩
    simp [results, Tryz.results73, go_sem, q0, q1, q2]

end Go.Proofs.YtfhcakpmlppbkaaGreatDoor.Rei
