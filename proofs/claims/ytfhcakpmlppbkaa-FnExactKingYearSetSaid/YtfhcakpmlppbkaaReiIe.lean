/- Contracts of impl's CountYears, yearSpan, RegnalSpan. -/
import Derived.Test.YtfhcakpmlppbkaaReiId
namespace Go.Proofs.Ytfhcakpmlppbkaa.Rei
open Go.RowKit Go.Shelf
open Go.Proofs.Ytfhcakpmlppbkaa.Eas (It)
open Go.Proofs.Ytfhcakpmlppbkaa.Fea (isDay yr yr_isY)
attribute [local go_sem] Oper.semAt_some

theorem impl_CountYears (s : ByteArray) (hs : s.size ≤ maxLen) (f t : Int) (w : World) : Calls Try.prog 19 #[rV s f t] w (Two (cyN s f t) (cyE s f t) w) := by
  by_cases h : rOk s f t
  · rw [show cyN s f t = ry f t from if_pos h, show cyE s f t = 0 from if_pos h]
    exact impl_CountYears_yes s hs f t h w
  · have R := Lib.hid (impl_reign s hs f t false (decide_eq_false h))
    have S0 := (St.start w).alloc 25 #[.string s, .int .i64 f, .int .i64 t]
    rw [show cyN s f t = 0 from if_neg h, show cyE s f t = 1 from if_neg h]
    clear h
    refine (callsIn_wide (n := 3)).1 ?_
    refine callsIn_of_wp Try.func19 rfl trivial ?_ rfl
    simp only [Try.ntmps19, List.size_toArray, List.length_cons, List.length_nil, Nat.reduceAdd, Nat.reduceSub, Array.replicate_succ, Array.replicate_zero, List.push_toArray, List.append_toArray, List.nil_append, List.cons_append]
    gi_wp2_with (refine ⟨trivial, ?_⟩; gi_at_call 48; refine (callsIn_wide.2 (R.out _)).mono ?_; rintro e w1 ⟨rfl, hb1⟩; have S1 := S0.call hb1)
    go_ret2
    exact ⟨rfl, S1.bel⟩

theorem sp_iff {f t k : Int} (f0 : 0 ≤ f) (f1 : f ≤ t) (t1 : t ≤ 730499) : (k ≤ 2000 ∧ rb f k ≤ t) ↔ k ≤ ry f t := by
  rw [← yr_ex f1 t1, nb_le t1]
  have g := (yr_isY f f0 (by omega)).1
  constructor
  · rintro ⟨-, h⟩
    refine ⟨?_, h⟩
    rcases Int.lt_or_le 2000 (yr f + k - 1) with q | q
    · have := rb_far (f := f) (k := k) q; omega
    · exact q
  · rintro ⟨h1, h2⟩
    exact ⟨by omega, h2⟩
theorem _root_.Go.Proofs.Ytfhcakpmlppbkaa.St.join {L1 L2 : List (Nat × TypeId × Array Value)} {w0 w1 w2 : World} (h1 : St L1 w0 w1) (h2 : St L2 w1 w2) : St (L2 ++ L1) w0 w2 :=
  ⟨fun x hx => (List.mem_append.1 hx).elim (h2.blk x) ((h1.call h2.bel).blk x), (h1.call h2.bel).bel, fun x hx => (List.mem_append.1 hx).elim (fun q => Nat.le_trans h1.bel.size (h2.old x q)) (h1.old x)⟩
theorem _root_.Go.Proofs.Ytfhcakpmlppbkaa.St.sub {L L' : List (Nat × TypeId × Array Value)} {w0 w : World} (h : St L w0 w) (hs : ∀ x ∈ L', x ∈ L) : St L' w0 w := ⟨fun x hx => h.blk x (hs x hx), h.bel, fun x hx => h.old x (hs x hx)⟩

/-- What a walk of yearSpan leaves in its two results. -/
def SpRes (b : Nat) (F T : Int) (ok : Bool) (w0 w : World) : Prop := St [(b, 31, #[.int .i64 F, .int .i64 T]), (b + 1, 4, #[.bool ok])] w0 w
theorem SpRes.start (w0 w : World) (b : Nat) {L : List (Nat × TypeId × Array Value)} {F T F' T' : Int} {ok ok' : Bool} (h : St L w0 w) (h1 : (b, 31, #[.int .i64 F', .int .i64 T']) ∈ L) (h2 : (b + 1, 4, #[.bool ok']) ∈ L) :
    SpRes b F T ok w0 (((w.setCell ⟨b, 0, none⟩ (.int .i64 F)).setCell ⟨b, 1, none⟩ (.int .i64 T)).setCell ⟨b + 1, 0, none⟩ (.bool ok)) := by
  have s0 : St [(b, 31, #[.int .i64 F', .int .i64 T']), (b + 1, 4, #[.bool ok'])] w0 w := h.sub (by
    intro x hx
    simp only [List.mem_cons, List.not_mem_nil, or_false] at hx
    rcases hx with rfl | rfl
    · exact h1
    · exact h2)
  have s1 := s0.put (by simp) 0 (.int .i64 F)
  have s2 := s1.put (by simp) 1 (.int .i64 T)
  have s3 : St [(b + 1, 4, #[.bool ok']), (b, 31, #[.int .i64 F, .int .i64 T])] w0 _ := s2.sub (by
    intro x hx
    simp only [List.mem_cons, List.not_mem_nil, or_false] at hx ⊢
    rcases hx with rfl | rfl
    · exact .inr rfl
    · exact .inl rfl)
  have s4 := s3.put (by simp) 0 (.bool ok)
  exact s4.sub (by
    intro x hx
    simp only [List.mem_cons, List.not_mem_nil, or_false] at hx ⊢
    rcases hx with rfl | rfl
    · exact .inr rfl
    · exact .inl rfl)

set_option maxRecDepth 100000 in
set_option maxHeartbeats 4000000 in
theorem impl_yearSpan (s : ByteArray) (f t k : Int) (f0 : 0 ≤ f) (f1 : f ≤ t) (t1 : t ≤ 730499) (k0 : 1 ≤ k) (k1 : k ≤ 9223372036854775807) (F T : Int) (b : Bool) (hb : decide (k ≤ ry f t) = b)
    (hF : (if k ≤ ry f t then rb f k else 0) = F) (hT : (if k ≤ ry f t then min t (rb f (k + 1) - 1) else 0) = T) (w : World) : Calls Try.prog 57 #[rV s f t, .int .i64 k] w (SpB F T b w) := by
  have Y := Lib.hid (fun w => impl_years s f t k ⟨f0, by omega⟩ w)
  have S0 := (((St.start w).alloc 25 #[.string s, .int .i64 f, .int .i64 t]).alloc 31 #[.int .i64 0, .int .i64 0]).alloc 4 #[.bool false]
  simp only [World.size_alloc] at S0
  obtain ⟨c0, c1, c2⟩ : _ ∧ _ ∧ _ := ⟨S0.b2.cell 0, S0.b2.cell 1, S0.b2.cell 2⟩
  simp only [List.getElem?_toArray, List.getElem?_cons_zero, List.getElem?_cons_succ] at c0 c1 c2
  refine (callsIn_wide (n := 3)).1 ?_
  refine callsIn_of_wp_marks Try.func57 rfl trivial ?_ rfl
  simp only [Try.ntmps57, List.size_toArray, List.length_cons, List.length_nil, Nat.reduceAdd, Nat.reduceSub, Array.replicate_succ, Array.replicate_zero, List.push_toArray, List.append_toArray, List.nil_append, List.cons_append]
  gi_wp2_with (refine ⟨trivial, ?_⟩; gi_at_call 59; refine (callsIn_wide.2 (Y.out _)).mono ?_; rintro e w2 ⟨y, m, d, g, hv, hnum, hg, rfl, S2⟩)
  have S3 := S0.join S2
  simp only [World.size_alloc] at hg S2 S3
  have lg := S2.b0.lt
  have lb := S2.b2.lt
  simp only [List.cons_append, List.nil_append] at S3
  have hst := years_stops (3 - 1) (by omega) hv hnum s t k f0 f1 t1 k0 k1 g _ _ w2 S2
  clear c0 c1 c2 S0 S2 Y hv hnum
  have hw2 := S3.bel.size
  have hbs := S3.tail.tail.tail.b0.lt
  refine wpIn_rangeFunc_ownH rfl (by omega) (gf := 78) (lb := #[.pointer (some ⟨g, 0, none⟩), .pointer (some ⟨w.heap.size + 1 + 1 + 1 + 1, 0, none⟩), .pointer (some ⟨w.heap.size + 1 + 1 + 1, 0, none⟩)]) rfl trivial (enters_of Try.func78 (by kernel_rfl) rfl)
    hst yKp_t (yKp_b lg lb) (Below.refl _ _) (fun _ => rfl)
    (fun pre W => pre = [] ∧ St [(g, 93, #[.int .i64 y, .int .i64 m, .int .i64 d]), (w.heap.size + 1 + 1 + 1 + 1, 2, #[.int .i64 k]), (w.heap.size + 1 + 1 + 1, 25, #[.string s, .int .i64 f, .int .i64 t]),
        (w.heap.size + 1 + 1, 4, #[.bool false]), (w.heap.size + 1, 31, #[.int .i64 0, .int .i64 0]), (w.heap.size, 25, #[.string s, .int .i64 f, .int .i64 t])] w W)
    (fun c pre W => c = .ret ∧ ∃ x : Nat, pre = [x] ∧ SpRes (w.heap.size + 1) (rb f (k + x)) (min t (rb f (k + x + 1) - 1)) true w W)
    (OwnFrom.and (ownFrom_pure _ _) (st_own _ hw2))
    (fun c q A B row hs hg hr => by obtain ⟨hc, x, e, h⟩ := hs; exact ⟨hc, x, e, st_own (fun (_ : Unit) => _) hw2 () A B row h hg hr⟩)
    ⟨rfl, S3⟩
    (fun x a' W => ∃ Bx, Blk W Bx 31 #[.int .i64 (rb f (k + x)), .int .i64 (min t (rb f (k + x + 1) - 1))] ∧ w.heap.size + 1 + 1 < Bx ∧ a' = { tmps := #[rV s f t, .int .i64 k, .pointer (some ⟨w.heap.size, 0, none⟩), undef, .pointer (some ⟨w.heap.size + 1, 0, none⟩), .pointer (some ⟨w.heap.size + 1 + 1, 0, none⟩), undef, .pointer (some ⟨Bx, 0, none⟩), .agg #[.string s, .int .i64 f, .int .i64 t], .int .i64 k,
      .func (.func 78) #[] #[.pointer (some ⟨g, 0, none⟩), .pointer (some ⟨w.heap.size + 1 + 1 + 1 + 1, 0, none⟩), .pointer (some ⟨w.heap.size + 1 + 1 + 1, 0, none⟩)], .int .i64 (k + x), .agg #[.int .i64 (rb f (k + x)), .int .i64 (min t (rb f (k + x + 1) - 1))], undef, undef], defers := [] })
    (fun x a' _ X Y row hs hg hr => by obtain ⟨Bx, h1, h2, h3⟩ := hs; exact ⟨Bx, (grownBy_keeps_cells hg (fun r e => (hr r e).2) h1 rfl).trans h1, h2, h3⟩)
    ?assign ?body ?done ?stop
  case assign =>
    rintro l pre x W K ⟨hp, hS⟩ hK
    have l1 := hS.b0.lt
    have l2 := hS.b2.lt
    have l3 := hS.b3.lt
    dsimp only [yEnc]
    gi_wp2
    exact hK _ _ ((KeepsOthers.alloc _ _).from _) (yKp_below ((Below.refl W.heap.size W).alloc (Nat.le_refl _) _) l1 l2) ⟨hp, hS.call ((Below.refl W.heap.size W).alloc (Nat.le_refl _) _)⟩ ⟨W.heap.size, Blk.new W _ _, l3, rfl⟩
  case body =>
    rintro l pre x a' W hl ⟨r, hr⟩ ⟨rfl, hS⟩ ⟨Bx, hX, hlt, rfl⟩ hN
    have x0 := hX.cell 0
    have x1 := hX.cell 1
    simp only [List.getElem?_toArray, List.getElem?_cons_zero, List.getElem?_cons_succ] at x0 x1
    have z0 := hS.tail.b3.cell 0
    have z1 := hS.tail.b3.cell 1
    have y0 := hS.b3.cell 0
    have fz0 := hS.tail.b3.frozen 0
    have fz1 := hS.tail.b3.frozen 1
    have fy0 := hS.b3.frozen 0
    simp only [List.getElem?_toArray, List.getElem?_cons_zero, List.getElem?_cons_succ] at z0 z1 y0
    have hres := SpRes.start w W (w.heap.size + 1) (F := rb f (k + x)) (T := min t (rb f (k + x + 1) - 1)) (ok := true) (F' := 0) (T' := 0) (ok' := false) hS (by simp) (by simp)
    clear hst
    gi_wp2
    exact ⟨(((KeepsOthers.setCell _ _ _).trans (KeepsOthers.setCell _ _ _)).trans (KeepsOthers.setCell _ _ _)).from _, rfl, x, rfl, hres⟩
  case done =>
    rintro D xs W hD rfl ⟨hp, hS⟩ hK
    have hM : ¬ k ≤ ry f t := fun q => by
      have e : (List.range (yM f t k)).length = 0 := by rw [hp]; rfl
      rw [List.length_range] at e
      unfold yM at e
      omega
    rw [if_neg hM] at hF hT
    rw [decide_eq_false hM] at hb
    subst hF hT hb
    have z0 := hS.tail.b3.cell 0
    have z1 := hS.tail.b3.cell 1
    have y0 := hS.b3.cell 0
    have fz0 := hS.tail.b3.frozen 0
    have fz1 := hS.tail.b3.frozen 1
    have fy0 := hS.b3.frozen 0
    simp only [List.getElem?_toArray, List.getElem?_cons_zero, List.getElem?_cons_succ] at z0 z1 y0
    have hres := SpRes.start w W (w.heap.size + 1) (F := 0) (T := 0) (ok := false) (F' := 0) (T' := 0) (ok' := false) hS (by simp) (by simp)
    clear hst
    gi_wp2
    have hK' := (((KeepsOthers.setCell W ⟨w.heap.size + 1, 0, none⟩ (.int .i64 0)).trans (KeepsOthers.setCell _ ⟨w.heap.size + 1, 1, none⟩ (.int .i64 0))).trans (KeepsOthers.setCell _ ⟨w.heap.size + 1 + 1, 0, none⟩ (.bool false))).same D _ hK rfl
    have hG := hres.gone (by omega) hK' rfl (.deferred none)
    refine ⟨by simp, .inl ⟨_, _, rfl, run_takeDeferred hK', ?_⟩⟩
    have q0 := hG.b0.cell 0
    have q1 := hG.b0.cell 1
    have q2 := hG.b1.cell 0
    simp only [List.getElem?_toArray, List.getElem?_cons_zero, List.getElem?_cons_succ] at q0 q1 q2
    refine ⟨.tuple #[.agg #[.int .i64 0, .int .i64 0], .bool false], ?_, rfl, hG.bel⟩
    simp [results, Try.results57, go_sem, q0, q1, q2]
  case stop =>
    rintro D c pre W hD ⟨j, hj, rfl⟩ ⟨rfl, x, hx, hres⟩ hK
    obtain ⟨rfl, rfl⟩ : j = 0 ∧ x = 0 := by
      have e : (List.range (j + 1)).length = 1 := by rw [hx]; rfl
      rw [List.length_range] at e
      obtain rfl : j = 0 := by omega
      refine ⟨rfl, ?_⟩
      simpa using hx.symm
    have hM : k ≤ ry f t := by unfold yM at hj; omega
    rw [if_pos hM] at hF hT
    rw [decide_eq_true hM] at hb
    simp only [Int.natCast_zero, Int.add_zero] at hres
    rw [hF, hT] at hres
    subst hb
    clear hst
    gi_wp2
    have hG := hres.gone (by omega) hK rfl (.deferred none)
    refine ⟨by simp, .inl ⟨_, _, rfl, run_takeDeferred hK, ?_⟩⟩
    have q0 := hG.b0.cell 0
    have q1 := hG.b0.cell 1
    have q2 := hG.b1.cell 0
    simp only [List.getElem?_toArray, List.getElem?_cons_zero, List.getElem?_cons_succ] at q0 q1 q2
    refine ⟨.tuple #[.agg #[.int .i64 F, .int .i64 T], .bool true], ?_, rfl, hG.bel⟩
    simp [results, Try.results57, go_sem, q0, q1, q2]

set_option maxHeartbeats 1000000 in
theorem impl_RegnalSpan (s : ByteArray) (hs : s.size ≤ maxLen) (f t k : Int) (k9 : k ≤ 9223372036854775807) (w : World) : Calls Try.prog 17 #[rV s f t, .int .i64 k] w (SpO (rsF s f t k) (rsT s f t k) (rsE s f t k) w) := by
  have S0 := ((St.start w).alloc 25 #[.string s, .int .i64 f, .int .i64 t]).alloc 31 #[.int .i64 0, .int .i64 0]
  simp only [World.size_alloc] at S0
  by_cases h : rOk s f t
  · have R := Lib.hid (impl_reign s hs f t true (decide_eq_true h))
    by_cases hk : 1 ≤ k
    · by_cases hin : k ≤ 2000 ∧ rb f k ≤ t
      · have P := Lib.hid (impl_yearSpan s f t k h.2.1.1 h.2.2.2 h.2.2.1.2 hk k9 _ _ true (decide_eq_true ((sp_iff h.2.1.1 h.2.2.2 h.2.2.1.2).1 hin)) (if_pos ((sp_iff h.2.1.1 h.2.2.2 h.2.2.1.2).1 hin)) (if_pos ((sp_iff h.2.1.1 h.2.2.2 h.2.2.1.2).1 hin)))
        have H := Lib.hid (show rb f k = rsF s f t k ∧ min t (rb f (k + 1) - 1) = rsT s f t k ∧ 0 = rsE s f t k from ⟨(if_pos ⟨h, hk, hin⟩).symm, (if_pos ⟨h, hk, hin⟩).symm, ((if_neg (fun j => j h)).trans ((if_neg (by omega)).trans (if_pos hin))).symm⟩)
        have hk' : ¬ k < 1 := by omega
        clear h hk hin k9
        generalize rb f k = a at P H
        generalize min t (rb f (k + 1) - 1) = b at P H
        go_enter Try.func17, Try.ntmps17
        go_wp2_with fail
        refine (R.out _).mono ?_
        rintro e w1 ⟨rfl, hb⟩
        have S1 := S0.call hb
        obtain ⟨d0, d1, d2, -⟩ := S1.rei1
        go_wp2_with fail
        refine (P.out _).mono ?_
        rintro e w2 ⟨rfl, hb2⟩
        have S2 := S1.call hb2
        have S3 := S2.alloc 31 #[.int .i64 a, .int .i64 b]
        obtain ⟨c0, c1, z0, z1⟩ := S3.tail.sp0
        have hbb := (S3.bel.setCell (p := ⟨w.heap.size + 1, 0, none⟩) (by simp) (.int .i64 a)).setCell (p := ⟨w.heap.size + 1, 1, none⟩) (by simp) (.int .i64 b)
        clear S0 S1 S2 hb hb2 R P d0 d1 d2
        go_wp2_with fail
        refine bodyPost_ret (v := .tuple #[.agg #[.int .i64 a, .int .i64 b], .int .i64 0]) (by simp [results, Try.results17, go_sem, c0, c1]) rfl ⟨ret_sp H.out, hbb⟩
      · have P := Lib.hid (impl_yearSpan s f t k h.2.1.1 h.2.2.2 h.2.2.1.2 hk k9 _ _ false (decide_eq_false (fun q => hin ((sp_iff h.2.1.1 h.2.2.2 h.2.2.1.2).2 q))) (if_neg (fun q => hin ((sp_iff h.2.1.1 h.2.2.2 h.2.2.1.2).2 q))) (if_neg (fun q => hin ((sp_iff h.2.1.1 h.2.2.2 h.2.2.1.2).2 q))))
        have H := Lib.hid (rs_no (s := s) (f := f) (t := t) (k := k) (fun j => hin j.2.2) ((if_neg (fun j => j h)).trans ((if_neg (by omega)).trans (if_neg hin))))
        have hk' : ¬ k < 1 := by omega
        clear h hk hin k9
        go_enter Try.func17, Try.ntmps17
        go_wp2_with fail
        refine (R.out _).mono ?_
        rintro e w1 ⟨rfl, hb⟩
        have S1 := S0.call hb
        obtain ⟨d0, d1, d2, -⟩ := S1.rei1
        go_wp2_with fail
        refine (P.out _).mono ?_
        rintro e w2 ⟨rfl, hb2⟩
        have S2 := S1.call hb2
        have S3 := S2.alloc 31 #[.int .i64 0, .int .i64 0]
        obtain ⟨c0, c1, z0, z1⟩ := S3.tail.sp0
        have hbb := (S3.bel.setCell (p := ⟨w.heap.size + 1, 0, none⟩) (by simp) (.int .i64 0)).setCell (p := ⟨w.heap.size + 1, 1, none⟩) (by simp) (.int .i64 0)
        clear S0 S1 S2 hb hb2 R P d0 d1 d2
        go_wp2_with fail
        refine bodyPost_ret (v := .tuple #[.agg #[.int .i64 0, .int .i64 0], .int .i64 4]) (by simp [results, Try.results17, go_sem, c0, c1]) rfl ⟨ret_sp H.out, hbb⟩
    · have H := Lib.hid (rs_no (s := s) (f := f) (t := t) (k := k) (fun j => hk j.2.1) ((if_neg (fun j => j h)).trans (if_pos (by omega))))
      have hk' : k < 1 := by omega
      clear h hk
      go_enter Try.func17, Try.ntmps17
      go_wp2_with fail
      refine (R.out _).mono ?_
      rintro e w1 ⟨rfl, hb⟩
      have S1 := S0.call hb
      obtain ⟨c0, c1, z0, z1⟩ := S1.sp0
      have hbb := (S1.bel.setCell (p := ⟨w.heap.size + 1, 0, none⟩) (by simp) (.int .i64 0)).setCell (p := ⟨w.heap.size + 1, 1, none⟩) (by simp) (.int .i64 0)
      clear R hb
      go_wp2_with fail
      refine bodyPost_ret (v := .tuple #[.agg #[.int .i64 0, .int .i64 0], .int .i64 2]) (by simp [results, Try.results17, go_sem, c0, c1]) rfl ⟨ret_sp H.out, hbb⟩
  · have R := Lib.hid (impl_reign s hs f t false (decide_eq_false h))
    have H := Lib.hid (rs_no (s := s) (f := f) (t := t) (k := k) (fun j => h j.1) (if_pos h))
    clear h
    go_enter Try.func17, Try.ntmps17
    go_wp2_with fail
    refine (R.out _).mono ?_
    rintro e w1 ⟨rfl, hb⟩
    have S1 := S0.call hb
    obtain ⟨c0, c1, z0, z1⟩ := S1.sp0
    have hbb := (S1.bel.setCell (p := ⟨w.heap.size + 1, 0, none⟩) (by simp) (.int .i64 0)).setCell (p := ⟨w.heap.size + 1, 1, none⟩) (by simp) (.int .i64 0)
    clear R hb
    go_wp2_with fail
    refine bodyPost_ret (v := .tuple #[.agg #[.int .i64 0, .int .i64 0], .int .i64 1]) (by simp [results, Try.results17, go_sem, c0, c1]) rfl ⟨ret_sp H.out, hbb⟩

end Go.Proofs.Ytfhcakpmlppbkaa.Rei
