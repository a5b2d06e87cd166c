/- Texts of a claim in one file: ReiIe ReiIf. -/
import Derived.Test.YtfhcakpmlppbkaaDoorGrpAu
namespace Go.Proofs.YtfhcakpmlppbkaaDoor.Rei
open Go.RowKit Go.Shelf
open Go.Proofs.YtfhcakpmlppbkaaDoor.Eas (It)
open Go.Proofs.YtfhcakpmlppbkaaDoor.Fea (isDay yr yr_isY)
attribute [local go_sem] Oper.semAt_some

theorem sp_iff {f t k : Int} (f0 : 0 ≤ f) (f1 : f ≤ t) (t1 : t ≤ 730499) : (k ≤ 2000 ∧ rb f k ≤ t) ↔ k ≤ ry f t := by
  rw [← yr_ex f1 t1, nb_le t1]
  have g := (yr_isY f f0 (by omega)).1
  constructor
  · rintro ⟨-, h⟩
    refine ⟨?_, h⟩
    rcases Int.lt_or_le 2000 (yr f + k - 1) with q | q
    · have := rb_far (f := f) (k := k) q; omega
    · exact q
  · rintro ⟨h1, h2⟩
    exact ⟨by omega, h2⟩
theorem _root_.Go.Proofs.YtfhcakpmlppbkaaDoor.St.join {L1 L2 : List (Nat × TypeId × Array Value)} {w0 w1 w2 : World} (h1 : St L1 w0 w1) (h2 : St L2 w1 w2) : St (L2 ++ L1) w0 w2 :=
  ⟨fun x hx => (List.mem_append.1 hx).elim (h2.blk x) ((h1.call h2.bel).blk x), (h1.call h2.bel).bel, fun x hx => (List.mem_append.1 hx).elim (fun q => Nat.le_trans h1.bel.size (h2.old x q)) (h1.old x)⟩
theorem _root_.Go.Proofs.YtfhcakpmlppbkaaDoor.St.sub {L L' : List (Nat × TypeId × Array Value)} {w0 w : World} (h : St L w0 w) (hs : ∀ x ∈ L', x ∈ L) : St L' w0 w := ⟨fun x hx => h.blk x (hs x hx), h.bel, fun x hx => h.old x (hs x hx)⟩

/-- What a walk of yearSpan leaves in its two results. -/
def SpRes (b : Nat) (F T : Int) (ok : Bool) (w0 w : World) : Prop := St [(b, 40, #[.int .i64 F, .int .i64 T]), (b + 1, 4, #[.bool ok])] w0 w
theorem SpRes.start (w0 w : World) (b : Nat) {L : List (Nat × TypeId × Array Value)} {F T F' T' : Int} {ok ok' : Bool} (h : St L w0 w) (h1 : (b, 40, #[.int .i64 F', .int .i64 T']) ∈ L) (h2 : (b + 1, 4, #[.bool ok']) ∈ L) :
    SpRes b F T ok w0 (((w.setCell ⟨b, 0, none⟩ (.int .i64 F)).setCell ⟨b, 1, none⟩ (.int .i64 T)).setCell ⟨b + 1, 0, none⟩ (.bool ok)) := by
  have s0 : St [(b, 40, #[.int .i64 F', .int .i64 T']), (b + 1, 4, #[.bool ok'])] w0 w := h.sub (by
    intro x hx
    simp only [List.mem_cons, List.not_mem_nil, or_false] at hx
    rcases hx with rfl | rfl
    · exact h1
    · exact h2)
  have s1 := s0.put (by simp) 0 (.int .i64 F)
  have s2 := s1.put (by simp) 1 (.int .i64 T)
  have s3 : St [(b + 1, 4, #[.bool ok']), (b, 40, #[.int .i64 F, .int .i64 T])] w0 _ := s2.sub (by
    intro x hx
    simp only [List.mem_cons, List.not_mem_nil, or_false] at hx ⊢
    rcases hx with rfl | rfl
    · exact .inr rfl
    · exact .inl rfl)
  have s4 := s3.put (by simp) 0 (.bool ok)
  exact s4.sub (by
    intro x hx
    simp only [List.mem_cons, List.not_mem_nil, or_false] at hx ⊢
    rcases hx with rfl | rfl
    · exact .inr rfl
    · exact .inl rfl)

end Go.Proofs.YtfhcakpmlppbkaaDoor.Rei

namespace Go.Proofs.YtfhcakpmlppbkaaDoor.Rei
open Go.RowKit Go.Shelf
open Go.Proofs.YtfhcakpmlppbkaaDoor.Eas (It)
open Go.Proofs.YtfhcakpmlppbkaaDoor.Sets (impl_spanHas)
open Go.Proofs.YtfhcakpmlppbkaaDoor.Fea (isDay yr yr_isY yr_num)
attribute [local go_sem] Oper.semAt_some

theorem ry_mono {f a b : Int} (h : f ≤ a) (hab : a ≤ b) : ry f a ≤ ry f b := by
  obtain ⟨-, a1, a2⟩ := ry_is h
  obtain ⟨-, b1, b2⟩ := ry_is (show f ≤ b by omega)
  rcases Int.lt_or_le (ry f b) (ry f a) with q | q
  · exfalso
    by_cases e : ry f b + 1 = ry f a
    · rw [e] at b2; omega
    · have := rb_lt f (show ry f b + 1 < ry f a by omega); omega
  · exact q
theorem has_iff {f n t k : Int} (h : f ≤ n) (ht : n ≤ t) (hk : 1 ≤ k) : (rb f k ≤ n ∧ n ≤ min t (rb f (k + 1) - 1)) ↔ k = ry f n := by
  constructor
  · rintro ⟨a, b⟩
    exact RyIs.uniq (show RyIs f n k from ⟨hk, a, by omega⟩) (ry_is h)
  · rintro rfl
    obtain ⟨-, a, b⟩ := ry_is h
    exact ⟨a, by omega⟩

set_option maxRecDepth 100000 in
set_option maxHeartbeats 4000000 in
theorem impl_yearOn (s : ByteArray) (f t n : Int) (f0 : 0 ≤ f) (f1 : f ≤ n) (n1 : n ≤ t) (t1 : t ≤ 730499) (w : World) : Calls Tryd.prog 33 #[rV s f t, .int .i64 n] w (It (ry f n) w) := by
  obtain ⟨k0, hk⟩ : ∃ k0, max (yr n - yr f) 1 = k0 := ⟨_, rfl⟩
  have DF := Lib.hid (impl_dateV f ⟨f0, by omega⟩)
  have DN := Lib.hid (impl_dateV n ⟨by omega, by omega⟩)
  have Y := Lib.hid (fun w => impl_years s f t k0 ⟨f0, by omega⟩ w)
  obtain ⟨yf0, yf1⟩ := yr_isY f f0 (by omega)
  obtain ⟨yn0, yn1⟩ := yr_isY n (by omega) (by omega)
  have rbd := ry_bd f1
  have rmo := ry_mono f1 n1
  have HH := Lib.hid (fun k => has_iff (k := k) f1 n1)
  have hmx : (if yr n - yr f < 1 then 1 else yr n - yr f) = k0 := by split <;> omega
  have hmx2 : max (yr n - yr f) 1 = k0 := hk
  have hk1 : 1 ≤ k0 := by omega
  have hk2 : k0 ≤ ry f n := by omega
  have hk3 : k0 ≤ 2000 := by omega
  have hle : yr f ≤ yr n := yr_le f1
  have S0 := (((St.start w).alloc 54 #[.string s, .int .i64 f, .int .i64 t]).alloc 2 #[.int .i64 n]).alloc 2 #[.int .i64 0]
  simp only [World.size_alloc] at S0
  have yF : ∀ {y m d : Int}, Cal.valid false y m d → Cal.num false y m d = f → yr f = y := fun hv hn => yr_num hv hn
  have yN : ∀ {y m d : Int}, Cal.valid false y m d → Cal.num false y m d = n → yr n = y := fun hv hn => yr_num hv hn
  clear hk rbd
  generalize yr f = yf at *
  generalize yr n = yn at *
  obtain ⟨c0, c1, c2⟩ : _ ∧ _ ∧ _ := ⟨S0.b2.cell 0, S0.b2.cell 1, S0.b2.cell 2⟩
  have e0 := S0.b1.cell 0
  simp only [List.getElem?_toArray, List.getElem?_cons_zero, List.getElem?_cons_succ] at c0 c1 c2 e0
  refine (callsIn_wide (n := 3)).1 ?_
  refine callsIn_of_wp_marks Tryd.func33 rfl trivial ?_ rfl
  simp only [Tryd.ntmps33, List.size_toArray, List.length_cons, List.length_nil, Nat.reduceAdd, Nat.reduceSub, Array.replicate_succ, Array.replicate_zero, List.push_toArray, List.append_toArray, List.nil_append, List.cons_append]
  gi_wp2_with first
    | (refine ⟨trivial, ?_⟩; gi_at_call 50; refine (callsIn_wide.2 (DF.out _)).mono ?_; rintro e w1 ⟨y1, m1, d1, rfl, hv1, hn1, hb1⟩; clear DF; obtain rfl := yF hv1 hn1; have S1 := (S0.call hb1).alloc 75 #[.int .i64 yf, .int .i64 m1, .int .i64 d1]; have a0 := S1.b2.cell 0; simp only [List.getElem?_toArray, List.getElem?_cons_zero] at a0)
    | (refine ⟨trivial, ?_⟩; gi_at_call 50; refine (callsIn_wide.2 (DN.out _)).mono ?_; rintro e w2 ⟨y2, m2, d2, rfl, hv2, hn2, hb2⟩; clear DN; obtain rfl := yN hv2 hn2; have S2 := (S1.call hb2).alloc 75 #[.int .i64 yn, .int .i64 m2, .int .i64 d2]; have b0 := S2.b4.cell 0; have b1 := S2.b4.cell 1; have b2 := S2.b4.cell 2; have b3 := S2.b0.cell 0; have b4 := S2.b1.cell 0; simp only [List.getElem?_toArray, List.getElem?_cons_zero, List.getElem?_cons_succ] at b0 b1 b2 b3 b4)
    | (refine ⟨trivial, ?_⟩; gi_at_call 51; refine (callsIn_wide.2 (Y.out _)).mono ?_; rintro e w3 ⟨y, m, d, g, hv, hnum, hg, rfl, S3⟩)
  have S4 := S2.join S3
  simp only [World.size_alloc, List.cons_append, List.nil_append] at hg S3 S4
  have lg := S3.b0.lt
  have lb := S3.b2.lt
  have hst := years_stops (3 - 1) (by omega) hv hnum s t k0 f0 (by omega) t1 hk1 (by omega) g _ _ w3 S3
  clear c0 c1 c2 e0 a0 b0 b1 b2 b3 b4 S0 S1 S2 S3 Y hv hnum hv1 hn1 hv2 hn2 yF yN hb1 hb2
  generalize w1.heap.size = B1 at *
  generalize w2.heap.size = B2 at *
  have S5 : St [(g, 75, #[.int .i64 y, .int .i64 m, .int .i64 d]), (B2 + 1, 54, #[.string s, .int .i64 f, .int .i64 t]), (w.heap.size + 1 + 1, 2, #[.int .i64 0]), (w.heap.size + 1, 2, #[.int .i64 n])] w w3 := S4.sub (by
    intro x hx
    simp only [List.mem_cons, List.not_mem_nil, or_false] at hx ⊢
    rcases hx with rfl | rfl | rfl | rfl <;> simp)
  clear S4
  have hw3 := S5.bel.size
  refine wpIn_rangeFunc_ownH rfl (by omega) (gf := 71) (lb := #[.pointer (some ⟨g, 0, none⟩), .pointer (some ⟨B2 + 1 + 1, 0, none⟩), .pointer (some ⟨B2 + 1, 0, none⟩)]) rfl trivial (enters_of Tryd.func71 (by kernel_rfl) rfl)
    hst yKp_t (yKp_b lg lb) (Below.refl _ _) (fun _ => rfl)
    (fun pre W => (∀ x ∈ pre, k0 + ((x : Nat) : Int) ≠ ry f n) ∧ St [(g, 75, #[.int .i64 y, .int .i64 m, .int .i64 d]), (B2 + 1, 54, #[.string s, .int .i64 f, .int .i64 t]), (w.heap.size + 1 + 1, 2, #[.int .i64 0]), (w.heap.size + 1, 2, #[.int .i64 n])] w W)
    (fun c _ W => c = .ret ∧ St [(w.heap.size + 1 + 1, 2, #[.int .i64 (ry f n)])] w W)
    (OwnFrom.and (ownFrom_pure _ _) (st_own _ hw3))
    (fun c => OwnFrom.and (ownFrom_pure _ _) (st_own _ hw3))
    ⟨(fun x hx => by cases hx), S5⟩
    (fun x a' W => ∃ Bx, Blk W Bx 40 #[.int .i64 (rb f (k0 + x)), .int .i64 (min t (rb f (k0 + x + 1) - 1))] ∧ w.heap.size + 1 + 1 < Bx ∧ a' = (show Act from ⟨#[rV s f t, .int .i64 n, .pointer (some ⟨w.heap.size, 0, none⟩), .pointer (some ⟨w.heap.size + 1, 0, none⟩), .pointer (some ⟨w.heap.size + 1 + 1, 0, none⟩), .pointer (some ⟨B1, 0, none⟩), .int .i64 0, .pointer (some ⟨B2, 0, none⟩), .int .i64 0, .int .i64 (k0 + x), .pointer (some ⟨Bx, 0, none⟩),
      .tuple #[.agg #[.int .i64 yf, .int .i64 m1, .int .i64 d1], .int .i64 0], .pointer (some ⟨w.heap.size, 1, none⟩), .int .i64 f, .tuple #[.agg #[.int .i64 yf, .int .i64 m1, .int .i64 d1], .int .i64 0], .agg #[.int .i64 yf, .int .i64 m1, .int .i64 d1], .int .i64 0,
      .tuple #[.agg #[.int .i64 yn, .int .i64 m2, .int .i64 d2], .int .i64 0], .int .i64 n, .tuple #[.agg #[.int .i64 yn, .int .i64 m2, .int .i64 d2], .int .i64 0], .agg #[.int .i64 yn, .int .i64 m2, .int .i64 d2], .int .i64 0, .agg #[.string s, .int .i64 f, .int .i64 t],
      .pointer (some ⟨B2, 0, none⟩), .int .i64 yn, .pointer (some ⟨B1, 0, none⟩), .int .i64 yf, .int .i64 (yn - yf), .int .i64 k0, .func (.func 71) #[] #[.pointer (some ⟨g, 0, none⟩), .pointer (some ⟨B2 + 1 + 1, 0, none⟩), .pointer (some ⟨B2 + 1, 0, none⟩)],
      .int .i64 (k0 + x), .agg #[.int .i64 (rb f (k0 + x)), .int .i64 (min t (rb f (k0 + x + 1) - 1))], undef, undef, undef, undef], []⟩))
    (fun x a' _ X Y row hs hg hr => by obtain ⟨Bx, h1, h2, h3⟩ := hs; exact ⟨Bx, (grownBy_keeps_cells hg (fun r e => (hr r e).2) h1 rfl).trans h1, h2, h3⟩)
    ?assign ?body ?done ?stop
  case assign =>
    rintro l pre x W K ⟨hp, hS⟩ hK
    have l1 := hS.b0.lt
    have l2 := hS.b1.lt
    have l3 := hS.b2.lt
    dsimp only [yEnc]
    gi_wp2
    exact hK _ _ ((KeepsOthers.alloc _ _).from _) (yKp_below ((Below.refl W.heap.size W).alloc (Nat.le_refl _) _) l1 l2) ⟨hp, hS.call ((Below.refl W.heap.size W).alloc (Nat.le_refl _) _)⟩ ⟨W.heap.size, Blk.new W _ _, l3, rfl⟩
  case body =>
    rintro l pre x a' W hl ⟨r, hr⟩ ⟨hp, hS⟩ ⟨Bx, hX, hlt, rfl⟩ hN
    have x0 := hX.cell 0
    have x1 := hX.cell 1
    have y0 := hS.b3.cell 0
    simp only [List.getElem?_toArray, List.getElem?_cons_zero, List.getElem?_cons_succ] at x0 x1 y0
    have hh := HH.out (k0 + x) (by omega)
    have l1 := hS.b0.lt
    have l2 := hS.b1.lt
    clear hst S5
    by_cases hx : k0 + (x : Int) = ry f n
    · have I := Lib.hid (impl_spanHas (rb f (k0 + x)) (min t (rb f (k0 + x + 1) - 1)) n true (decide_eq_true (hh.2 hx)))
      clear hh HH hX rmo hmx hmx2
      generalize rb f (k0 + x) = a at *
      generalize min t (rb f (k0 + x + 1) - 1) = b at *
      gi_wp2_with (refine ⟨trivial, ?_⟩; gi_at_call 48; refine (CallsIn.inRound l (callsIn_wide.2 (I.out _))).mono ?_; rintro e w5 ⟨rfl, hb5⟩; have S6 := hS.call hb5; have z0 := S6.b2.cell 0; have fz := S6.b2.frozen 0; simp only [List.getElem?_toArray, List.getElem?_cons_zero] at z0)
      have hN := S6.tail.tail.one.put (by simp) 0 (.int .i64 (ry f n))
      exact ⟨((KeepsOthers.of_grownBy (grown_of_below hb5) (fun j o e => by cases e)).trans (KeepsOthers.setCell _ _ _)).from _, rfl, hN⟩
    · have I := Lib.hid (impl_spanHas (rb f (k0 + x)) (min t (rb f (k0 + x + 1) - 1)) n false (decide_eq_false (fun q => hx (hh.1 q))))
      clear hh HH hX rmo hmx hmx2
      generalize rb f (k0 + x) = a at *
      generalize min t (rb f (k0 + x + 1) - 1) = b at *
      gi_wp2_with (refine ⟨trivial, ?_⟩; gi_at_call 48; refine (CallsIn.inRound l (callsIn_wide.2 (I.out _))).mono ?_; rintro e w5 ⟨rfl, hb5⟩; have S6 := hS.call hb5)
      refine ⟨(KeepsOthers.of_grownBy (grown_of_below hb5) (fun j o e => by cases e)).from _, yKp_below hb5 l1 l2, ?_, S6⟩
      intro x' hx'
      rcases List.mem_append.1 hx' with q | q
      · exact hp x' q
      · rw [List.mem_singleton] at q; subst q; exact hx
  case done =>
    rintro D xs W hD rfl ⟨hp, hS⟩ hK
    exfalso
    refine hp (ry f n - k0).toNat (List.mem_range.2 (by unfold yM; omega)) (by omega)
  case stop =>
    rintro D c pre W hD - ⟨rfl, hres⟩ hK
    clear hst
    gi_wp2
    have hG := hres.gone (by omega) hK rfl (.deferred none)
    refine ⟨by simp, .inl ⟨_, _, rfl, run_takeDeferred hK, ?_⟩⟩
    have q0 := hG.b0.cell 0
    simp only [List.getElem?_toArray, List.getElem?_cons_zero] at q0
    refine ⟨.int .i64 (ry f n), ?_, rfl, hG.bel⟩
    simp [results, Tryd.results33, go_sem, q0]

end Go.Proofs.YtfhcakpmlppbkaaDoor.Rei
