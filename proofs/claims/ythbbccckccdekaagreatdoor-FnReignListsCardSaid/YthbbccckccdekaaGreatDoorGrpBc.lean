/- Texts of a claim in one file: ReiIe ReiIk. -/
import Derived.Test.YthbbccckccdekaaGreatDoorGrpBb
import Derived.Test.YthbbccckccdekaaGreatDoorGrpAz
import Derived.Test.YthbbccckccdekaaGreatDoorGrpAs
namespace Go.Proofs.YthbbccckccdekaaGreatDoor.Rei
open Go.RowKit Go.Shelf
open Go.Proofs.YthbbccckccdekaaGreatDoor.Eas (It)
open Go.Proofs.YthbbccckccdekaaGreatDoor.Fea (isDay yr yr_isY)
attribute [local go_sem] Oper.semAt_some

theorem sp_iff {f t k : Int} (f0 : 0 ≤ f) (f1 : f ≤ t) (t1 : t ≤ 730499) : (k ≤ 2000 ∧ rb f k ≤ t) ↔ k ≤ ry f t := by
  rw [← yr_ex f1 t1, nb_le t1]
  have g := (yr_isY f f0 (by omega)).1
  constructor
  · rintro ⟨-, h⟩
    refine ⟨?_, h⟩
    rcases Int.lt_or_le 2000 (yr f + k - 1) with q | q
    · have := rb_far (f := f) (k := k) q; omega
    · exact q
  · rintro ⟨h1, h2⟩
    exact ⟨by omega, h2⟩
theorem _root_.Go.Proofs.YthbbccckccdekaaGreatDoor.St.join {L1 L2 : List (Nat × TypeId × Array Value)} {w0 w1 w2 : World} (h1 : St L1 w0 w1) (h2 : St L2 w1 w2) : St (L2 ++ L1) w0 w2 :=
  ⟨fun x hx => (List.mem_append.1 hx).elim (h2.blk x) ((h1.call h2.bel).blk x), (h1.call h2.bel).bel, fun x hx => (List.mem_append.1 hx).elim (fun q => Nat.le_trans h1.bel.size (h2.old x q)) (h1.old x)⟩
theorem _root_.Go.Proofs.YthbbccckccdekaaGreatDoor.St.sub {L L' : List (Nat × TypeId × Array Value)} {w0 w : World} (h : St L w0 w) (hs : ∀ x ∈ L', x ∈ L) : St L' w0 w := ⟨fun x hx => h.blk x (hs x hx), h.bel, fun x hx => h.old x (hs x hx)⟩

/-- What a walk of yearSpan leaves in its two results. -/
def SpRes (b : Nat) (F T : Int) (ok : Bool) (w0 w : World) : Prop := St [(b, 47, #[.int .i64 F, .int .i64 T]), (b + 1, 4, #[.bool ok])] w0 w
theorem SpRes.start (w0 w : World) (b : Nat) {L : List (Nat × TypeId × Array Value)} {F T F' T' : Int} {ok ok' : Bool} (h : St L w0 w) (h1 : (b, 47, #[.int .i64 F', .int .i64 T']) ∈ L) (h2 : (b + 1, 4, #[.bool ok']) ∈ L) :
    SpRes b F T ok w0 (((w.setCell ⟨b, 0, none⟩ (.int .i64 F)).setCell ⟨b, 1, none⟩ (.int .i64 T)).setCell ⟨b + 1, 0, none⟩ (.bool ok)) := by
  have s0 : St [(b, 47, #[.int .i64 F', .int .i64 T']), (b + 1, 4, #[.bool ok'])] w0 w := h.sub (by
    intro x hx
    simp only [List.mem_cons, List.not_mem_nil, or_false] at hx
    rcases hx with rfl | rfl
    · exact h1
    · exact h2)
  have s1 := s0.put (by simp) 0 (.int .i64 F)
  have s2 := s1.put (by simp) 1 (.int .i64 T)
  have s3 : St [(b + 1, 4, #[.bool ok']), (b, 47, #[.int .i64 F, .int .i64 T])] w0 _ := s2.sub (by
    intro x hx
    simp only [List.mem_cons, List.not_mem_nil, or_false] at hx ⊢
    rcases hx with rfl | rfl
    · exact .inr rfl
    · exact .inl rfl)
  have s4 := s3.put (by simp) 0 (.bool ok)
  exact s4.sub (by
    intro x hx
    simp only [List.mem_cons, List.not_mem_nil, or_false] at hx ⊢
    rcases hx with rfl | rfl
    · exact .inr rfl
    · exact .inl rfl)

set_option maxRecDepth 100000 in
set_option maxHeartbeats 4000000 in
theorem impl_yearSpan (s : ByteArray) (f t k : Int) (f0 : 0 ≤ f) (f1 : f ≤ t) (t1 : t ≤ 730499) (k0 : 1 ≤ k) (k1 : k ≤ 9223372036854775807) (F T : Int) (b : Bool) (hb : decide (k ≤ ry f t) = b)
    (hF : (if k ≤ ry f t then rb f k else 0) = F) (hT : (if k ≤ ry f t then min t (rb f (k + 1) - 1) else 0) = T) (w : World) : Calls Tryz.prog 47 #[rV s f t, .int .i64 k] w (SpB F T b w) := by
  have Y := Lib.hid (fun w => impl_years s f t k ⟨f0, by omega⟩ w)
  have S0 := (((St.start w).alloc 55 #[.string s, .int .i64 f, .int .i64 t]).alloc 47 #[.int .i64 0, .int .i64 0]).alloc 4 #[.bool false]
  simp only [World.size_alloc] at S0
  obtain ⟨c0, c1, c2⟩ : _ ∧ _ ∧ _ := ⟨S0.b2.cell 0, S0.b2.cell 1, S0.b2.cell 2⟩
  simp only [List.getElem?_toArray, List.getElem?_cons_zero, List.getElem?_cons_succ] at c0 c1 c2
  refine (callsIn_wide (n := 3)).1 ?_
  refine callsIn_of_wp_marks Tryz.func47 rfl trivial ?_ rfl
  simp only [Tryz.ntmps47, List.size_toArray, List.length_cons, List.length_nil, Nat.reduceAdd, Nat.reduceSub, Array.replicate_succ, Array.replicate_zero, List.push_toArray, List.append_toArray, List.nil_append, List.cons_append]
  gi_wp2_with (refine ⟨trivial, ?_⟩; gi_at_call 62; refine (callsIn_wide.2 (Y.out _)).mono ?_; rintro e w2 ⟨y, m, d, g, hv, hnum, hg, rfl, S2⟩)
  have S3 := S0.join S2
  simp only [World.size_alloc] at hg S2 S3
  have lg := S2.b0.lt
  have lb := S2.b2.lt
  simp only [List.cons_append, List.nil_append] at S3
  have hst := years_stops (3 - 1) (by omega) hv hnum s t k f0 f1 t1 k0 k1 g _ _ w2 S2
  clear c0 c1 c2 S0 S2 Y hv hnum
  have hw2 := S3.bel.size
  have hbs := S3.tail.tail.tail.b0.lt
  refine wpIn_rangeFunc_ownH rfl (by omega) (gf := 83) (lb := #[.pointer (some ⟨g, 0, none⟩), .pointer (some ⟨w.heap.size + 1 + 1 + 1 + 1, 0, none⟩), .pointer (some ⟨w.heap.size + 1 + 1 + 1, 0, none⟩)]) rfl trivial (enters_of Tryz.func83 (by kernel_rfl) rfl)
    hst yKp_t (yKp_b lg lb) (Below.refl _ _) (fun _ => rfl)
    (fun pre W => pre = [] ∧ St [(g, 84, #[.int .i64 y, .int .i64 m, .int .i64 d]), (w.heap.size + 1 + 1 + 1 + 1, 2, #[.int .i64 k]), (w.heap.size + 1 + 1 + 1, 55, #[.string s, .int .i64 f, .int .i64 t]),
        (w.heap.size + 1 + 1, 4, #[.bool false]), (w.heap.size + 1, 47, #[.int .i64 0, .int .i64 0]), (w.heap.size, 55, #[.string s, .int .i64 f, .int .i64 t])] w W)
    (fun c pre W => c = .ret ∧ ∃ x : Nat, pre = [x] ∧ SpRes (w.heap.size + 1) (rb f (k + x)) (min t (rb f (k + x + 1) - 1)) true w W)
    (OwnFrom.and (ownFrom_pure _ _) (st_own _ hw2))
    (fun c q A B row hs hg hr => by obtain ⟨hc, x, e, h⟩ := hs; exact ⟨hc, x, e, st_own (fun (_ : Unit) => _) hw2 () A B row h hg hr⟩)
    ⟨rfl, S3⟩
    (fun x a' W => ∃ Bx, Blk W Bx 47 #[.int .i64 (rb f (k + x)), .int .i64 (min t (rb f (k + x + 1) - 1))] ∧ w.heap.size + 1 + 1 < Bx ∧ a' = { tmps := #[rV s f t, .int .i64 k, .pointer (some ⟨w.heap.size, 0, none⟩), undef, .pointer (some ⟨w.heap.size + 1, 0, none⟩), .pointer (some ⟨w.heap.size + 1 + 1, 0, none⟩), undef, .pointer (some ⟨Bx, 0, none⟩), .agg #[.string s, .int .i64 f, .int .i64 t], .int .i64 k,
      .func (.func 83) #[] #[.pointer (some ⟨g, 0, none⟩), .pointer (some ⟨w.heap.size + 1 + 1 + 1 + 1, 0, none⟩), .pointer (some ⟨w.heap.size + 1 + 1 + 1, 0, none⟩)], .int .i64 (k + x), .agg #[.int .i64 (rb f (k + x)), .int .i64 (min t (rb f (k + x + 1) - 1))], undef, undef], defers := [] })
    (fun x a' _ X Y row hs hg hr => by obtain ⟨Bx, h1, h2, h3⟩ := hs; exact ⟨Bx, (grownBy_keeps_cells hg (fun r e => (hr r e).2) h1 rfl).trans h1, h2, h3⟩)
    ?assign ?body ?done ?stop
  case assign =>
    rintro l pre x W K ⟨hp, hS⟩ hK
    have l1 := hS.b0.lt
    have l2 := hS.b2.lt
    have l3 := hS.b3.lt
    dsimp only [yEnc]
    gi_wp2
    exact hK _ _ ((KeepsOthers.alloc _ _).from _) (yKp_below ((Below.refl W.heap.size W).alloc (Nat.le_refl _) _) l1 l2) ⟨hp, hS.call ((Below.refl W.heap.size W).alloc (Nat.le_refl _) _)⟩ ⟨W.heap.size, Blk.new W _ _, l3, rfl⟩
  case body =>
    rintro l pre x a' W hl ⟨r, hr⟩ ⟨rfl, hS⟩ ⟨Bx, hX, hlt, rfl⟩ hN
    have x0 := hX.cell 0
    have x1 := hX.cell 1
    simp only [List.getElem?_toArray, List.getElem?_cons_zero, List.getElem?_cons_succ] at x0 x1
    have z0 := hS.tail.b3.cell 0
    have z1 := hS.tail.b3.cell 1
    have y0 := hS.b3.cell 0
    have fz0 := hS.tail.b3.frozen 0
    have fz1 := hS.tail.b3.frozen 1
    have fy0 := hS.b3.frozen 0
    simp only [List.getElem?_toArray, List.getElem?_cons_zero, List.getElem?_cons_succ] at z0 z1 y0
    have hres := SpRes.start w W (w.heap.size + 1) (F := rb f (k + x)) (T := min t (rb f (k + x + 1) - 1)) (ok := true) (F' := 0) (T' := 0) (ok' := false) hS (by simp) (by simp)
    clear hst
    gi_wp2
    exact ⟨(((KeepsOthers.setCell _ _ _).trans (KeepsOthers.setCell _ _ _)).trans (KeepsOthers.setCell _ _ _)).from _, rfl, x, rfl, hres⟩
  case done =>
    rintro D xs W hD rfl ⟨hp, hS⟩ hK
    have hM : ¬ k ≤ ry f t := fun q => by
      have e : (List.range (yM f t k)).length = 0 := by rw [hp]; rfl
      rw [List.length_range] at e
      unfold yM at e
      omega
    rw [if_neg hM] at hF hT
    rw [decide_eq_false hM] at hb
    subst hF hT hb
    have z0 := hS.tail.b3.cell 0
    have z1 := hS.tail.b3.cell 1
    have y0 := hS.b3.cell 0
    have fz0 := hS.tail.b3.frozen 0
    have fz1 := hS.tail.b3.frozen 1
    have fy0 := hS.b3.frozen 0
    simp only [List.getElem?_toArray, List.getElem?_cons_zero, List.getElem?_cons_succ] at z0 z1 y0
    have hres := SpRes.start w W (w.heap.size + 1) (F := 0) (T := 0) (ok := false) (F' := 0) (T' := 0) (ok' := false) hS (by simp) (by simp)
    clear hst
    gi_wp2
    have hK' := (((KeepsOthers.setCell W ⟨w.heap.size + 1, 0, none⟩ (.int .i64 0)).trans (KeepsOthers.setCell _ ⟨w.heap.size + 1, 1, none⟩ (.int .i64 0))).trans (KeepsOthers.setCell _ ⟨w.heap.size + 1 + 1, 0, none⟩ (.bool false))).same D _ hK rfl
    have hG := hres.gone (by omega) hK' rfl (.deferred none)
    refine ⟨by simp, .inl ⟨_, _, rfl, run_takeDeferred hK', ?_⟩⟩
    have q0 := hG.b0.cell 0
    have q1 := hG.b0.cell 1
    have q2 := hG.b1.cell 0
    simp only [List.getElem?_toArray, List.getElem?_cons_zero, List.getElem?_cons_succ] at q0 q1 q2
    refine ⟨.tuple #[.agg #[.int .i64 0, .int .i64 0], .bool false], ?_, rfl, hG.bel⟩
    simp [results, Tryz.results47, go_sem, q0, q1, q2]
  case stop =>
    rintro D c pre W hD ⟨j, hj, rfl⟩ ⟨rfl, x, hx, hres⟩ hK
    obtain ⟨rfl, rfl⟩ : j = 0 ∧ x = 0 := by
      have e : (List.range (j + 1)).length = 1 := by rw [hx]; rfl
      rw [List.length_range] at e
      obtain rfl : j = 0 := by omega
      refine ⟨rfl, ?_⟩
      simpa using hx.symm
    have hM : k ≤ ry f t := by unfold yM at hj; omega
    rw [if_pos hM] at hF hT
    rw [decide_eq_true hM] at hb
    simp only [Int.natCast_zero, Int.add_zero] at hres
    rw [hF, hT] at hres
    subst hb
    clear hst
    gi_wp2
    have hG := hres.gone (by omega) hK rfl (.deferred none)
    refine ⟨by simp, .inl ⟨_, _, rfl, run_takeDeferred hK, ?_⟩⟩
    have q0 := hG.b0.cell 0
    have q1 := hG.b0.cell 1
    have q2 := hG.b1.cell 0
    simp only [List.getElem?_toArray, List.getElem?_cons_zero, List.getElem?_cons_succ] at q0 q1 q2
    refine ⟨.tuple #[.agg #[.int .i64 F, .int .i64 T], .bool true], ?_, rfl, hG.bel⟩
    simp [results, Tryz.results47, go_sem, q0, q1, q2]

end Go.Proofs.YthbbccckccdekaaGreatDoor.Rei

namespace Go.Proofs.YthbbccckccdekaaGreatDoor.Rei
open Go.RowKit
open Go.Proofs.YthbbccckccdekaaGreatDoor.Sets (ok make SetOut impl_join below_on)
open Go.Proofs.YthbbccckccdekaaGreatDoor.Fea (isDay)

theorem make_none {xs : Sets.L} (h : ∀ s ∈ xs, ok s) : make xs = [] ↔ xs = [] := by
  constructor
  · intro e
    cases xs with
    | nil => rfl
    | cons s r =>
      exfalso
      obtain ⟨a, b, c⟩ := h s (List.mem_cons_self ..)
      obtain ⟨q, hq, -⟩ := (Sets.make_has h s.1).2 ⟨s, List.mem_cons_self .., Int.le_refl _, b⟩
      rw [e] at hq
      cases hq
  · rintro rfl
    rfl

set_option maxRecDepth 100000 in
set_option maxHeartbeats 4000000 in
theorem impl_KingYearSet_yes (A : Option Addr) (N c : Nat) (xs : LR) (ha : arOk xs) (king : ByteArray) (k : Int) (k1 : 1 ≤ k) (k9 : k ≤ 9223372036854775807) (w : World) (h : RdR w A N xs) :
    Calls Tryz.prog 16 #[.slice A N c, .string king, .int .i64 k] w (SetOut (make (kgs xs king k N)) (if make (kgs xs king k N) = [] then 4 else 0) w) := by
  obtain ⟨E, hE⟩ : ∃ E : Int, (if make (kgs xs king k N) = [] then 4 else 0) = E := ⟨_, rfl⟩
  rw [hE]
  have HE := Lib.hid hE
  clear hE
  have hlen := h.1
  have hN : N ≤ 30 := by have := ha.2.2; omega
  have C := Lib.hid (impl_AreReigns A N c xs (by unfold maxLen; omega) w h)
  rw [decide_eq_true ha] at C
  have H := Lib.hid h
  have HX := Lib.hid ha.1
  have HOK := Lib.hid (kgs_ok k1 ha.1 N (king := king))
  have hk' : decide (k < 1) = false := by simp; omega
  clear ha h hlen
  go_enter Tryz.func16, Tryz.ntmps16
  go_wp2_with fail
  refine C.out.mono ?_
  rintro e w1 ⟨rfl, hb1⟩
  have H1 := Lib.hid (H.out.below hb1)
  clear C
  go_wp2_with fail
  go_loopg [8, 20] N (fun m v i wr => KgL xs king k N w1 m v i wr)
  case atStart => exact ⟨0, [], rfl, by omega, by omega, Lib.hid rfl, by simp, Sets.Own.nil w1 w1.heap.size, Below.refl _ _⟩
  case round =>
    obtain ⟨j, acc, rfl, hm, hj, HA, hl, hown, hb⟩ := hrel
    subst hm
    by_cases hlt : j < N
    · obtain ⟨g, off, hy, rfl, -, hg, c0, c1, c2⟩ := (H1.out.below hb).at_ hlt
      obtain ⟨-, ⟨f0, f1⟩, ⟨t0, t1⟩, ft⟩ := HX.out j hy
      have ho3 := hown.below ((Below.refl _ _).alloc (Nat.le_refl _) (.cells #[.string xs[j].1, .int .i64 xs[j].2.1, .int .i64 xs[j].2.2] 55))
      have hb3 := hb.alloc hb.size (.cells #[.string xs[j].1, .int .i64 xs[j].2.1, .int .i64 xs[j].2.2] 55)
      by_cases he : xs[j].1 = king
      · have he' : (xs[j].1.toList == king.toList) = true := by rw [he]; simp
        have he2 : (xs[j].1.toList != king.toList) = false := by rw [he]; simp
        by_cases hin : k ≤ ry xs[j].2.1 xs[j].2.2
        · have P := Lib.hid (impl_yearSpan xs[j].1 xs[j].2.1 xs[j].2.2 k f0 ft t1 k1 k9 _ _ true (decide_eq_true hin) (if_pos hin) (if_pos hin))
          have HN := Lib.hid (HA.out ▸ kgs_yes hy he ((sp_iff f0 ft t1).2 hin))
          clear HA hin f0 f1 t0 t1 he ft
          generalize rb xs[j].2.1 k = a at P HN
          generalize min xs[j].2.2 (rb xs[j].2.1 (k + 1) - 1) = b at P HN
          go_wp2_with fail
          refine (P.out _).mono ?_
          rintro e w2 ⟨rfl, hb2⟩
          have hb4 := below_on hb3 hb2
          have own4 := ho3.below hb2
          have own5 := own4.below ((Below.refl _ _).alloc (Nat.le_refl _) (.cells #[.int .i64 a, .int .i64 b] 47))
          have hb5 := hb4.alloc hb4.size (.cells #[.int .i64 a, .int .i64 b] 47)
          clear c0 c1 c2 hown hb hb2 P hg ho3 hb3 own4 hb4
          go_wp2_with (at_builtin; refine Sets.append_spanG (g := w2.heap.size + 1) (by simp) hb5 own5 (by omega) rfl (.tmp 35) (.tmp 37) rfl rfl rfl ?_)
          intro v6 w6 own6 hb7 _
          clear own5 hb5
          go_wp2_with fail
          go_roundg (N - (j + 1))
          case measure => omega
          case rel => exact ⟨j + 1, _, by go_num, by omega, by omega, HN, by simp; omega, own6, hb7⟩
        · have P := Lib.hid (impl_yearSpan xs[j].1 xs[j].2.1 xs[j].2.2 k f0 ft t1 k1 k9 _ _ false (decide_eq_false hin) (if_neg hin) (if_neg hin))
          have HN := Lib.hid (HA.out ▸ kgs_no hy (king := king) (fun q => hin ((sp_iff f0 ft t1).1 q.2)))
          clear HA hin f0 f1 t0 t1 he ft
          go_wp2_with fail
          refine (P.out _).mono ?_
          rintro e w2 ⟨rfl, hb2⟩
          have hb4 := below_on hb3 hb2
          have own4 := ho3.below hb2
          have own5 := own4.below ((Below.refl _ _).alloc (Nat.le_refl _) (.cells #[.int .i64 0, .int .i64 0] 47))
          have hb5 := hb4.alloc hb4.size (.cells #[.int .i64 0, .int .i64 0] 47)
          clear c0 c1 c2 hown hb hb2 P hg ho3 hb3 own4 hb4
          go_wp2_with fail
          go_roundg (N - (j + 1))
          case measure => omega
          case rel => exact ⟨j + 1, _, by go_num, by omega, by omega, HN, by omega, own5, hb5⟩
      · have he' : (xs[j].1.toList == king.toList) = false := (Go.Lib.bytes_beq_false_iff _ _).2 he
        have he2 : (xs[j].1.toList != king.toList) = true := by rw [bne, he']; rfl
        have HN := Lib.hid (HA.out ▸ kgs_no hy (fun q => he q.1) (k := k))
        clear HA f0 f1 t0 t1 he ft
        go_wp2_with fail
        go_roundg (N - (j + 1))
        case measure => omega
        case rel => exact ⟨j + 1, _, by go_num, by omega, by omega, HN, by omega, ho3, hb3⟩
    · have HV : acc = kgs xs king k N := by
        have e : j = N := by omega
        have h := HA.out
        rwa [e] at h
      subst HV
      have hge : (N : Int) ≤ j := by omega
      have hlN : (kgs xs king k N).length + 0 ≤ 2000 := by omega
      have HM := Lib.hid (make_none HOK.out)
      have HOK2 : Hid (∀ s ∈ kgs xs king k N ++ [], ok s) := Lib.hid (by rw [List.append_nil]; exact HOK.out)
      clear HA HOK
      obtain ⟨A2, c2, rfl, row2⟩ := hown.form
      by_cases hz : (kgs xs king k N) = []
      · have ez : make (kgs xs king k N) = [] := HM.out.2 hz
        have hd : (((kgs xs king k N).length : Int) == 0) = true := by rw [hz]; rfl
        have e4 : E = 4 := by rw [← HE.out, if_pos ez]
        subst e4
        have EZ := Lib.hid ez
        clear hz ez HM HOK2 HE
        go_wp2_with fail
        go_ret2
        rw [EZ.out]
        exact ⟨none, 0, rfl, Sets.Row.nil (Nat.le_refl _), hb1.trans (hb.mono hb1.size)⟩
      · have ez : ¬ make (kgs xs king k N) = [] := fun q => hz (HM.out.1 q)
        have hd : (((kgs xs king k N).length : Int) == 0) = false := by simpa using hz
        have e0 : E = 0 := by rw [← HE.out, if_neg ez]
        subst e0
        have J := Lib.hid (fun wr (q : Sets.Rd wr A2 (kgs xs king k N).length (kgs xs king k N)) => impl_join A2 none (kgs xs king k N).length 0 c2 0 _ [] hlN HOK2 wr q ⟨rfl, fun q => absurd q (Nat.lt_irrefl 0)⟩)
        simp only [List.append_nil] at J
        clear hz ez HM HOK2 HE
        generalize make (kgs xs king k N) = V at *
        go_wp2_with fail
        refine (J.out _ row2.rd).mono ?_
        rintro e w3 ⟨A3, c3, rfl, row3, hb3⟩
        have hb4 := hb1.trans ((hb.trans (hb3.mono hb.size)).mono hb1.size)
        have row4 := row3.mono (Nat.le_trans hb1.size hb.size) (Nat.le_refl _) (Nat.le_refl _)
        go_wp2_with fail
        go_ret2
        exact ⟨A3, c3, rfl, row4, hb4⟩

set_option maxHeartbeats 1000000 in
theorem impl_KingYearSet (A : Option Addr) (N c : Nat) (xs : LR) (hn : N ≤ maxLen) (king : ByteArray) (k : Int) (k9 : k ≤ 9223372036854775807) (w : World) (h : RdR w A N xs) :
    Calls Tryz.prog 16 #[.slice A N c, .string king, .int .i64 k] w (SetOut (kyL xs king k) (kyE xs king k) w) := by
  have C := Lib.hid (impl_AreReigns A N c xs hn w h)
  have hlen := h.1
  by_cases ha : arOk xs
  · by_cases hk : 1 ≤ k
    · rw [show kyL xs king k = make (kgs xs king k N) from (if_pos ⟨ha, hk⟩).trans (by rw [hlen]),
        show kyE xs king k = if make (kgs xs king k N) = [] then 4 else 0 from (if_neg (fun j => j ha)).trans ((if_neg (by omega)).trans (by rw [hlen]))]
      exact impl_KingYearSet_yes A N c xs ha king k hk k9 w h
    · rw [decide_eq_true ha] at C
      have hk' : k < 1 := by omega
      rw [show kyL xs king k = [] from if_neg (fun j => hk j.2), show kyE xs king k = 2 from (if_neg (fun j => j ha)).trans (if_pos hk')]
      clear ha hk h hlen
      go_enter Tryz.func16, Tryz.ntmps16
      go_wp2_with fail
      refine C.out.mono ?_
      rintro e w1 ⟨rfl, hb⟩
      go_wp2_with fail
      go_ret2
      exact ⟨none, 0, rfl, Sets.Row.nil (Nat.le_refl _), hb⟩
  · rw [decide_eq_false ha] at C
    rw [show kyL xs king k = [] from if_neg (fun j => ha j.1), show kyE xs king k = 1 from if_pos ha]
    clear ha h hlen
    go_enter Tryz.func16, Tryz.ntmps16
    go_wp2_with fail
    refine C.out.mono ?_
    rintro e w1 ⟨rfl, hb⟩
    go_wp2_with fail
    go_ret2
    exact ⟨none, 0, rfl, Sets.Row.nil (Nat.le_refl _), hb⟩

end Go.Proofs.YthbbccckccdekaaGreatDoor.Rei
