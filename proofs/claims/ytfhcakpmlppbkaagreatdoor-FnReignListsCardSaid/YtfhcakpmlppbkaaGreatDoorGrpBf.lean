/- Texts of a claim in one file: ReiIf Text. -/
import Derived.Test.YtfhcakpmlppbkaaGreatDoorGrpBd
import Derived.Test.YtfhcakpmlppbkaaGreatDoorGrpAa
namespace Go.Proofs.YtfhcakpmlppbkaaGreatDoor.Rei
open Go.RowKit Go.Shelf
open Go.Proofs.YtfhcakpmlppbkaaGreatDoor.Eas (It)
open Go.Proofs.YtfhcakpmlppbkaaGreatDoor.Sets (impl_spanHas)
open Go.Proofs.YtfhcakpmlppbkaaGreatDoor.Fea (isDay yr yr_isY yr_num)
attribute [local go_sem] Oper.semAt_some

theorem ry_mono {f a b : Int} (h : f ≤ a) (hab : a ≤ b) : ry f a ≤ ry f b := by
  obtain ⟨-, a1, a2⟩ := ry_is h
  obtain ⟨-, b1, b2⟩ := ry_is (show f ≤ b by omega)
  rcases Int.lt_or_le (ry f b) (ry f a) with q | q
  · exfalso
    by_cases e : ry f b + 1 = ry f a
    · rw [e] at b2; omega
    · have := rb_lt f (show ry f b + 1 < ry f a by omega); omega
  · exact q
theorem has_iff {f n t k : Int} (h : f ≤ n) (ht : n ≤ t) (hk : 1 ≤ k) : (rb f k ≤ n ∧ n ≤ min t (rb f (k + 1) - 1)) ↔ k = ry f n := by
  constructor
  · rintro ⟨a, b⟩
    exact RyIs.uniq (show RyIs f n k from ⟨hk, a, by omega⟩) (ry_is h)
  · rintro rfl
    obtain ⟨-, a, b⟩ := ry_is h
    exact ⟨a, by omega⟩

set_option maxRecDepth 100000 in
set_option maxHeartbeats 4000000 in
theorem impl_yearOn (s : ByteArray) (f t n : Int) (f0 : 0 ≤ f) (f1 : f ≤ n) (n1 : n ≤ t) (t1 : t ≤ 730499) (w : World) : Calls Tryz.prog 68 #[rV s f t, .int .i64 n] w (It (ry f n) w) := by
  obtain ⟨k0, hk⟩ : ∃ k0, max (yr n - yr f) 1 = k0 := ⟨_, rfl⟩
  have DF := Lib.hid (impl_dateV f ⟨f0, by omega⟩)
  have DN := Lib.hid (impl_dateV n ⟨by omega, by omega⟩)
  have Y := Lib.hid (fun w => impl_years s f t k0 ⟨f0, by omega⟩ w)
  obtain ⟨yf0, yf1⟩ := yr_isY f f0 (by omega)
  obtain ⟨yn0, yn1⟩ := yr_isY n (by omega) (by omega)
  have rbd := ry_bd f1
  have rmo := ry_mono f1 n1
  have HH := Lib.hid (fun k => has_iff (k := k) f1 n1)
  have hmx : (if yr n - yr f < 1 then 1 else yr n - yr f) = k0 := by split <;> omega
  have hmx2 : max (yr n - yr f) 1 = k0 := hk
  have hk1 : 1 ≤ k0 := by omega
  have hk2 : k0 ≤ ry f n := by omega
  have hk3 : k0 ≤ 2000 := by omega
  have hle : yr f ≤ yr n := yr_le f1
  have S0 := (((St.start w).alloc 79 #[.string s, .int .i64 f, .int .i64 t]).alloc 2 #[.int .i64 n]).alloc 2 #[.int .i64 0]
  simp only [World.size_alloc] at S0
  have yF : ∀ {y m d : Int}, Cal.valid false y m d → Cal.num false y m d = f → yr f = y := fun hv hn => yr_num hv hn
  have yN : ∀ {y m d : Int}, Cal.valid false y m d → Cal.num false y m d = n → yr n = y := fun hv hn => yr_num hv hn
  clear hk rbd
  generalize yr f = yf at *
  generalize yr n = yn at *
  obtain ⟨c0, c1, c2⟩ : _ ∧ _ ∧ _ := ⟨S0.b2.cell 0, S0.b2.cell 1, S0.b2.cell 2⟩
  have e0 := S0.b1.cell 0
  simp only [List.getElem?_toArray, List.getElem?_cons_zero, List.getElem?_cons_succ] at c0 c1 c2 e0
  refine (callsIn_wide (n := 3)).1 ?_
  refine callsIn_of_wp_marks Tryz.func68 rfl trivial ?_ rfl
  simp only [Tryz.ntmps68, List.size_toArray, List.length_cons, List.length_nil, Nat.reduceAdd, Nat.reduceSub, Array.replicate_succ, Array.replicate_zero, List.push_toArray, List.append_toArray, List.nil_append, List.cons_append]
  gi_wp2_with first
    | (refine ⟨trivial, ?_⟩; gi_at_call 92; refine (callsIn_wide.2 (DF.out _)).mono ?_; rintro e w1 ⟨y1, m1, d1, rfl, hv1, hn1, hb1⟩; clear DF; obtain rfl := yF hv1 hn1; have S1 := (S0.call hb1).alloc 113 #[.int .i64 yf, .int .i64 m1, .int .i64 d1]; have a0 := S1.b2.cell 0; simp only [List.getElem?_toArray, List.getElem?_cons_zero] at a0)
    | (refine ⟨trivial, ?_⟩; gi_at_call 92; refine (callsIn_wide.2 (DN.out _)).mono ?_; rintro e w2 ⟨y2, m2, d2, rfl, hv2, hn2, hb2⟩; clear DN; obtain rfl := yN hv2 hn2; have S2 := (S1.call hb2).alloc 113 #[.int .i64 yn, .int .i64 m2, .int .i64 d2]; have b0 := S2.b4.cell 0; have b1 := S2.b4.cell 1; have b2 := S2.b4.cell 2; have b3 := S2.b0.cell 0; have b4 := S2.b1.cell 0; simp only [List.getElem?_toArray, List.getElem?_cons_zero, List.getElem?_cons_succ] at b0 b1 b2 b3 b4)
    | (refine ⟨trivial, ?_⟩; gi_at_call 93; refine (callsIn_wide.2 (Y.out _)).mono ?_; rintro e w3 ⟨y, m, d, g, hv, hnum, hg, rfl, S3⟩)
  have S4 := S2.join S3
  simp only [World.size_alloc, List.cons_append, List.nil_append] at hg S3 S4
  have lg := S3.b0.lt
  have lb := S3.b2.lt
  have hst := years_stops (3 - 1) (by omega) hv hnum s t k0 f0 (by omega) t1 hk1 (by omega) g _ _ w3 S3
  clear c0 c1 c2 e0 a0 b0 b1 b2 b3 b4 S0 S1 S2 S3 Y hv hnum hv1 hn1 hv2 hn2 yF yN hb1 hb2
  generalize w1.heap.size = B1 at *
  generalize w2.heap.size = B2 at *
  have S5 : St [(g, 113, #[.int .i64 y, .int .i64 m, .int .i64 d]), (B2 + 1, 79, #[.string s, .int .i64 f, .int .i64 t]), (w.heap.size + 1 + 1, 2, #[.int .i64 0]), (w.heap.size + 1, 2, #[.int .i64 n])] w w3 := S4.sub (by
    intro x hx
    simp only [List.mem_cons, List.not_mem_nil, or_false] at hx ⊢
    rcases hx with rfl | rfl | rfl | rfl <;> simp)
  clear S4
  have hw3 := S5.bel.size
  refine wpIn_rangeFunc_ownH rfl (by omega) (gf := 117) (lb := #[.pointer (some ⟨g, 0, none⟩), .pointer (some ⟨B2 + 1 + 1, 0, none⟩), .pointer (some ⟨B2 + 1, 0, none⟩)]) rfl trivial (enters_of Tryz.func117 (by kernel_rfl) rfl)
    hst yKp_t (yKp_b lg lb) (Below.refl _ _) (fun _ => rfl)
    (fun pre W => (∀ x ∈ pre, k0 + ((x : Nat) : Int) ≠ ry f n) ∧ St [(g, 113, #[.int .i64 y, .int .i64 m, .int .i64 d]), (B2 + 1, 79, #[.string s, .int .i64 f, .int .i64 t]), (w.heap.size + 1 + 1, 2, #[.int .i64 0]), (w.heap.size + 1, 2, #[.int .i64 n])] w W)
    (fun c _ W => c = .ret ∧ St [(w.heap.size + 1 + 1, 2, #[.int .i64 (ry f n)])] w W)
    (OwnFrom.and (ownFrom_pure _ _) (st_own _ hw3))
    (fun c => OwnFrom.and (ownFrom_pure _ _) (st_own _ hw3))
    ⟨(fun x hx => by cases hx), S5⟩
    (fun x a' W => ∃ Bx, Blk W Bx 36 #[.int .i64 (rb f (k0 + x)), .int .i64 (min t (rb f (k0 + x + 1) - 1))] ∧ w.heap.size + 1 + 1 < Bx ∧ a' = (show Act from ⟨#[rV s f t, .int .i64 n, .pointer (some ⟨w.heap.size, 0, none⟩), .pointer (some ⟨w.heap.size + 1, 0, none⟩), .pointer (some ⟨w.heap.size + 1 + 1, 0, none⟩), .pointer (some ⟨B1, 0, none⟩), .int .i64 0, .pointer (some ⟨B2, 0, none⟩), .int .i64 0, .int .i64 (k0 + x), .pointer (some ⟨Bx, 0, none⟩),
      .tuple #[.agg #[.int .i64 yf, .int .i64 m1, .int .i64 d1], .int .i64 0], .pointer (some ⟨w.heap.size, 1, none⟩), .int .i64 f, .tuple #[.agg #[.int .i64 yf, .int .i64 m1, .int .i64 d1], .int .i64 0], .agg #[.int .i64 yf, .int .i64 m1, .int .i64 d1], .int .i64 0,
      .tuple #[.agg #[.int .i64 yn, .int .i64 m2, .int .i64 d2], .int .i64 0], .int .i64 n, .tuple #[.agg #[.int .i64 yn, .int .i64 m2, .int .i64 d2], .int .i64 0], .agg #[.int .i64 yn, .int .i64 m2, .int .i64 d2], .int .i64 0, .agg #[.string s, .int .i64 f, .int .i64 t],
      .pointer (some ⟨B2, 0, none⟩), .int .i64 yn, .pointer (some ⟨B1, 0, none⟩), .int .i64 yf, .int .i64 (yn - yf), .int .i64 k0, .func (.func 117) #[] #[.pointer (some ⟨g, 0, none⟩), .pointer (some ⟨B2 + 1 + 1, 0, none⟩), .pointer (some ⟨B2 + 1, 0, none⟩)],
      .int .i64 (k0 + x), .agg #[.int .i64 (rb f (k0 + x)), .int .i64 (min t (rb f (k0 + x + 1) - 1))], undef, undef, undef, undef], []⟩))
    (fun x a' _ X Y row hs hg hr => by obtain ⟨Bx, h1, h2, h3⟩ := hs; exact ⟨Bx, (grownBy_keeps_cells hg (fun r e => (hr r e).2) h1 rfl).trans h1, h2, h3⟩)
    ?assign ?body ?done ?stop
  case assign =>
    rintro l pre x W K ⟨hp, hS⟩ hK
    have l1 := hS.b0.lt
    have l2 := hS.b1.lt
    have l3 := hS.b2.lt
    dsimp only [yEnc]
    gi_wp2
    exact hK _ _ ((KeepsOthers.alloc _ _).from _) (yKp_below ((Below.refl W.heap.size W).alloc (Nat.le_refl _) _) l1 l2) ⟨hp, hS.call ((Below.refl W.heap.size W).alloc (Nat.le_refl _) _)⟩ ⟨W.heap.size, Blk.new W _ _, l3, rfl⟩
  case body =>
    rintro l pre x a' W hl ⟨r, hr⟩ ⟨hp, hS⟩ ⟨Bx, hX, hlt, rfl⟩ hN
    have x0 := hX.cell 0
    have x1 := hX.cell 1
    have y0 := hS.b3.cell 0
    simp only [List.getElem?_toArray, List.getElem?_cons_zero, List.getElem?_cons_succ] at x0 x1 y0
    have hh := HH.out (k0 + x) (by omega)
    have l1 := hS.b0.lt
    have l2 := hS.b1.lt
    clear hst S5
    by_cases hx : k0 + (x : Int) = ry f n
    · have I := Lib.hid (impl_spanHas (rb f (k0 + x)) (min t (rb f (k0 + x + 1) - 1)) n true (decide_eq_true (hh.2 hx)))
      clear hh HH hX rmo hmx hmx2
      generalize rb f (k0 + x) = a at *
      generalize min t (rb f (k0 + x + 1) - 1) = b at *
      gi_wp2_with (refine ⟨trivial, ?_⟩; gi_at_call 65; refine (CallsIn.inRound l (callsIn_wide.2 (I.out _))).mono ?_; rintro e w5 ⟨rfl, hb5⟩; have S6 := hS.call hb5; have z0 := S6.b2.cell 0; have fz := S6.b2.frozen 0; simp only [List.getElem?_toArray, List.getElem?_cons_zero] at z0)
      have hN := S6.tail.tail.one.put (by simp) 0 (.int .i64 (ry f n))
      exact ⟨((KeepsOthers.of_grownBy (grown_of_below hb5) (fun j o e => by cases e)).trans (KeepsOthers.setCell _ _ _)).from _, rfl, hN⟩
    · have I := Lib.hid (impl_spanHas (rb f (k0 + x)) (min t (rb f (k0 + x + 1) - 1)) n false (decide_eq_false (fun q => hx (hh.1 q))))
      clear hh HH hX rmo hmx hmx2
      generalize rb f (k0 + x) = a at *
      generalize min t (rb f (k0 + x + 1) - 1) = b at *
      gi_wp2_with (refine ⟨trivial, ?_⟩; gi_at_call 65; refine (CallsIn.inRound l (callsIn_wide.2 (I.out _))).mono ?_; rintro e w5 ⟨rfl, hb5⟩; have S6 := hS.call hb5)
      refine ⟨(KeepsOthers.of_grownBy (grown_of_below hb5) (fun j o e => by cases e)).from _, yKp_below hb5 l1 l2, ?_, S6⟩
      intro x' hx'
      rcases List.mem_append.1 hx' with q | q
      · exact hp x' q
      · rw [List.mem_singleton] at q; subst q; exact hx
  case done =>
    rintro D xs W hD rfl ⟨hp, hS⟩ hK
    exfalso
    refine hp (ry f n - k0).toNat (List.mem_range.2 (by unfold yM; omega)) (by omega)
  case stop =>
    rintro D c pre W hD - ⟨rfl, hres⟩ hK
    clear hst
    gi_wp2
    have hG := hres.gone (by omega) hK rfl (.deferred none)
    refine ⟨by simp, .inl ⟨_, _, rfl, run_takeDeferred hK, ?_⟩⟩
    have q0 := hG.b0.cell 0
    simp only [List.getElem?_toArray, List.getElem?_cons_zero] at q0
    refine ⟨.int .i64 (ry f n), ?_, rfl, hG.bel⟩
    simp [results, Tryz.results68, go_sem, q0]

end Go.Proofs.YtfhcakpmlppbkaaGreatDoor.Rei

namespace Go.Proofs.YtfhcakpmlppbkaaGreatDoor.Txt

def dg (n : Int) : UInt8 := UInt8.ofNat (48 + n % 10).toNat
/-- The decimal text of a number, by a number of digits that suffices. -/
def decF : Nat → Int → List UInt8
  | 0, _ => []
  | k + 1, n => if n < 10 then [dg n] else decF k (n / 10) ++ [dg n]
def dec (n : Int) : List UInt8 := decF 19 n
def pad (k : Nat) (l : List UInt8) : List UInt8 := List.replicate (k - l.length) 48 ++ l
def p2 (n : Int) : List UInt8 := [dg (n / 10), dg n]
def p4 (n : Int) : List UInt8 := [dg (n / 1000), dg (n / 100), dg (n / 10), dg n]
def date (y m d : Int) : List UInt8 := p4 y ++ [45] ++ p2 m ++ [45] ++ p2 d

theorem decF_length (k : Nat) : ∀ n, (decF k n).length ≤ k := by
  induction k with
  | zero => intro n; simp [decF]
  | succ k ih =>
    intro n
    simp only [decF]
    split
    · simp
    · have := ih (n / 10); simp; omega
theorem dec_length (n : Int) : (dec n).length ≤ 19 := decF_length 19 n
theorem decF_pos (k : Nat) (n : Int) : 1 ≤ (decF (k + 1) n).length := by
  simp only [decF]; split <;> simp

theorem dg_0 : dg 0 = 48 := rfl
theorem dg_lt {n : Int} : (dg n).toNat = 48 + (n % 10).toNat := by
  unfold dg
  have h1 := Int.emod_nonneg n (show (10 : Int) ≠ 0 by decide)
  have h2 := Int.emod_lt_of_pos n (show (0 : Int) < 10 by decide)
  simp
  omega

theorem pad2 (n : Int) (h0 : 0 ≤ n) (h1 : n < 100) : pad 2 (dec n) = p2 n := by
  by_cases h : n < 10
  · have e : dec n = [dg n] := by simp [dec, decF, h]
    have e2 : n / 10 = 0 := by omega
    rw [e]; simp [pad, p2, e2, dg_0]
  · have e : dec n = [dg (n / 10), dg n] := by simp [dec, decF, h, show n / 10 < 10 by omega]
    rw [e]; simp [pad, p2]
theorem pad4 (n : Int) (h0 : 0 ≤ n) (h1 : n < 10000) : pad 4 (dec n) = p4 n := by
  have q1 : n / 10 / 10 = n / 100 := by omega
  have q2 : n / 100 / 10 = n / 1000 := by omega
  by_cases h : n < 10
  · have e : dec n = [dg n] := by simp [dec, decF, h]
    have e1 : n / 10 = 0 := by omega
    have e2 : n / 100 = 0 := by omega
    have e3 : n / 1000 = 0 := by omega
    rw [e]; simp [pad, p4, e1, e2, e3, dg_0]
  · by_cases h' : n < 100
    · have e : dec n = [dg (n / 10), dg n] := by simp [dec, decF, h, show n / 10 < 10 by omega]
      have e2 : n / 100 = 0 := by omega
      have e3 : n / 1000 = 0 := by omega
      rw [e]; simp [pad, p4, e2, e3, dg_0]
    · by_cases h'' : n < 1000
      · have e : dec n = [dg (n / 100), dg (n / 10), dg n] := by simp [dec, decF, h, show ¬ n / 10 < 10 by omega, show n / 100 < 10 by omega, q1]
        have e3 : n / 1000 = 0 := by omega
        rw [e]; simp [pad, p4, e3, dg_0]
      · have e : dec n = [dg (n / 1000), dg (n / 100), dg (n / 10), dg n] := by simp [dec, decF, h, show ¬ n / 10 < 10 by omega, show ¬ n / 100 < 10 by omega, show n / 1000 < 10 by omega, q1, q2]
        rw [e]; simp [pad, p4]

/-- The digits of a text, read as spec reads them: other bytes are passed over, at most nine bytes. -/
def isDg (c : UInt8) : Bool := 48 ≤ c.toNat && c.toNat ≤ 57
def plain (l : List UInt8) : Int := l.foldl (fun n c => if isDg c then 10 * n + (c.toNat - 48 : Int) else n) 0
def split (by_ : UInt8) : List UInt8 → List UInt8 → List (List UInt8)
  | [], cur => [cur]
  | c :: r, cur => if c = by_ then cur :: split by_ r [] else split by_ r (cur ++ [c])

theorem isDg_dg (n : Int) : isDg (dg n) = true := by
  unfold isDg
  rw [dg_lt]
  have h1 := Int.emod_nonneg n (show (10 : Int) ≠ 0 by decide)
  have h2 := Int.emod_lt_of_pos n (show (0 : Int) < 10 by decide)
  simp; omega
theorem dg_val (n : Int) : ((dg n).toNat : Int) - 48 = n % 10 := by
  rw [dg_lt]
  have h1 := Int.emod_nonneg n (show (10 : Int) ≠ 0 by decide)
  omega
theorem dg_ne (n : Int) : dg n ≠ 45 := by
  intro h
  have := congrArg UInt8.toNat h
  rw [dg_lt] at this
  simp at this
  omega
theorem plain_p2 (n : Int) (h0 : 0 ≤ n) (h1 : n < 100) : plain (p2 n) = n := by
  simp only [plain, p2, List.foldl, isDg_dg, if_true, dg_val]
  omega
theorem plain_p4 (n : Int) (h0 : 0 ≤ n) (h1 : n < 10000) : plain (p4 n) = n := by
  simp only [plain, p4, List.foldl, isDg_dg, if_true, dg_val]
  omega
theorem plain_snoc (l : List UInt8) (c : UInt8) : plain (l ++ [c]) = if isDg c then 10 * plain l + (c.toNat - 48 : Int) else plain l := by
  simp [plain, List.foldl_append]
theorem plain_bd (l : List UInt8) : 0 ≤ plain l ∧ plain l < 10 ^ l.length := by
  have h : ∀ (r : List UInt8), 0 ≤ plain r.reverse ∧ plain r.reverse < 10 ^ r.length := by
    intro r
    induction r with
    | nil => simp [plain]
    | cons c r ih =>
      rw [List.reverse_cons, plain_snoc, List.length_cons, Int.pow_succ]
      split
      · rename_i hd
        unfold isDg at hd
        simp at hd
        omega
      · omega
  have := h l.reverse
  simpa using this
theorem plain_bd9 (l : List UInt8) (h : l.length ≤ 9) : 0 ≤ plain l ∧ plain l ≤ 999999999 := by
  have := plain_bd l
  have h2 : (10 : Int) ^ l.length ≤ 10 ^ 9 := by
    have h3 : (10 : Nat) ^ l.length ≤ 10 ^ 9 := Nat.pow_le_pow_right (by decide) h
    exact_mod_cast h3
  omega
theorem split_date (y m d : Int) : split 45 (date y m d) [] = [p4 y, p2 m, p2 d] := by
  simp [date, p4, p2, split, dg_ne]

end Go.Proofs.YtfhcakpmlppbkaaGreatDoor.Txt
