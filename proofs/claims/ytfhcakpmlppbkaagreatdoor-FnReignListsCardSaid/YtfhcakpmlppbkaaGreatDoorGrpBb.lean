/- Texts of a claim in one file: ReiJ ReiIh. -/
import Derived.Test.YtfhcakpmlppbkaaGreatDoorGrpAv
import Derived.Test.YtfhcakpmlppbkaaGreatDoorGrpAz
import Derived.Test.YtfhcakpmlppbkaaGreatDoorGrpBa
namespace Go.Proofs.YtfhcakpmlppbkaaGreatDoor.Rei
open Go.Proofs.YtfhcakpmlppbkaaGreatDoor.Sets (ok make has nf_unique make_nf make_has has_append)

/-- The last day of the reigns below k. -/
def mx (xs : LR) : Nat → Int
  | 0 => -1
  | k + 1 => if h : k < xs.length then (if mx xs k < xs[k].2.2 then xs[k].2.2 else mx xs k) else mx xs k
/-- The disputed spans of the reigns below k. -/
def dp (xs : LR) : Nat → Sets.L
  | 0 => []
  | k + 1 => dp xs k ++ (if h : k < xs.length then (if xs[k].2.1 ≤ mx xs k then [(xs[k].2.1, if mx xs k < xs[k].2.2 then mx xs k else xs[k].2.2)] else []) else [])
theorem mx_succ {xs : LR} {k : Nat} (h : k < xs.length) : mx xs (k + 1) = if mx xs k < xs[k].2.2 then xs[k].2.2 else mx xs k := by rw [mx, dif_pos h]
theorem dp_yes {xs : LR} {k : Nat} (h : k < xs.length) (hl : xs[k].2.1 ≤ mx xs k) : dp xs k ++ [(xs[k].2.1, if mx xs k < xs[k].2.2 then mx xs k else xs[k].2.2)] = dp xs (k + 1) := by rw [dp, dif_pos h, if_pos hl]
theorem dp_no {xs : LR} {k : Nat} (h : k < xs.length) (hl : ¬ xs[k].2.1 ≤ mx xs k) : dp xs k = dp xs (k + 1) := by rw [dp, dif_pos h, if_neg hl, List.append_nil]
theorem mx_ge {xs : LR} {j k : Nat} (hj : j < xs.length) (h : j < k) : xs[j].2.2 ≤ mx xs k := by
  induction k with
  | zero => omega
  | succ k ih =>
    rw [mx]
    by_cases e : j = k
    · subst e
      rw [dif_pos hj]
      split <;> omega
    · have := ih (by omega)
      split
      · split <;> omega
      · exact this
theorem mx_is {xs : LR} (k : Nat) : mx xs k = -1 ∨ ∃ j, j < k ∧ ∃ hj : j < xs.length, xs[j].2.2 = mx xs k := by
  induction k with
  | zero => exact .inl rfl
  | succ k ih =>
    rw [mx]
    by_cases hk : k < xs.length
    · rw [dif_pos hk]
      by_cases h : mx xs k < xs[k].2.2
      · rw [if_pos h]
        exact .inr ⟨k, by omega, hk, rfl⟩
      · rw [if_neg h]
        rcases ih with e | ⟨j, hj, hl, e⟩
        · exact .inl e
        · exact .inr ⟨j, by omega, hl, e⟩
    · rw [dif_neg hk]
      rcases ih with e | ⟨j, hj, hl, e⟩
      · exact .inl e
      · exact .inr ⟨j, by omega, hl, e⟩
theorem mx_bd {xs : LR} (hx : ∀ j (h : j < xs.length), rOk xs[j].1 xs[j].2.1 xs[j].2.2) (k : Nat) : -1 ≤ mx xs k ∧ mx xs k ≤ 730499 := by
  rcases mx_is (xs := xs) k with e | ⟨j, -, hl, e⟩
  · omega
  · have := (hx j hl).2.2.1
    omega
theorem ar_sorted {xs : LR} (hs : ∀ k (h : k + 1 < xs.length), xs[k].2.1 ≤ xs[k + 1].2.1) {i j : Nat} (hi : i < xs.length) (h : j ≤ i) : xs[j].2.1 ≤ xs[i].2.1 := by
  induction i with
  | zero => obtain rfl : j = 0 := by omega
            exact Int.le_refl _
  | succ i ih =>
    by_cases e : j = i + 1
    · subst e; exact Int.le_refl _
    · have h1 := ih (by omega) (by omega)
      have h2 := hs i hi
      omega
/-- The day is in two of the reigns, the later one below k. -/
def In2 (xs : LR) (k : Nat) (d : Int) : Prop := ∃ i j, j < i ∧ i < k ∧ ∃ (hi : i < xs.length) (hj : j < xs.length), (xs[i].2.1 ≤ d ∧ d ≤ xs[i].2.2) ∧ (xs[j].2.1 ≤ d ∧ d ≤ xs[j].2.2)
theorem dp_has {xs : LR} (hx : ∀ j (h : j < xs.length), rOk xs[j].1 xs[j].2.1 xs[j].2.2) (hs : ∀ k (h : k + 1 < xs.length), xs[k].2.1 ≤ xs[k + 1].2.1) (k : Nat) (d : Int) : has (dp xs k) d ↔ In2 xs k d := by
  induction k with
  | zero =>
    constructor
    · rintro ⟨s, hs, -⟩; simp [dp] at hs
    · rintro ⟨i, j, -, h, -⟩; omega
  | succ k ih =>
    rw [dp, has_append, ih]
    constructor
    · rintro (⟨i, j, h1, h2, h3⟩ | ⟨s, h, h1, h2⟩)
      · exact ⟨i, j, h1, by omega, h3⟩
      · split at h
        case isTrue hk =>
          split at h
          case isTrue hl =>
            simp only [List.mem_singleton] at h
            subst h
            simp only at h1 h2
            rcases mx_is (xs := xs) k with e | ⟨j, hj, hjl, e⟩
            · have := (hx k hk).2.1.1; omega
            · have hsrt := ar_sorted hs hk (show j ≤ k by omega)
              refine ⟨k, j, hj, by omega, hk, hjl, ⟨h1, ?_⟩, ⟨by omega, ?_⟩⟩
              · split at h2 <;> omega
              · split at h2 <;> omega
          case isFalse hl => cases h
        case isFalse hk => cases h
    · rintro ⟨i, j, h1, h2, hi, hj, h3, h4⟩
      by_cases e : i = k
      · subst e
        right
        have hm := mx_ge hj h1
        have hl : xs[i].2.1 ≤ mx xs i := by omega
        rw [dif_pos hi, if_pos hl]
        refine ⟨_, List.mem_singleton.2 rfl, h3.1, ?_⟩
        simp only
        split <;> omega
      · exact .inl ⟨i, j, h1, by omega, hi, hj, h3, h4⟩
theorem dp_ok {xs : LR} (hx : ∀ j (h : j < xs.length), rOk xs[j].1 xs[j].2.1 xs[j].2.2) (k : Nat) : ∀ s ∈ dp xs k, ok s := by
  induction k with
  | zero => intro s hs; simp [dp] at hs
  | succ k ih =>
    intro s hs
    rw [dp] at hs
    rcases List.mem_append.1 hs with h | h
    · exact ih s h
    · split at h
      case isTrue hk =>
        split at h
        case isTrue hl =>
          obtain ⟨-, ⟨f0, f1⟩, ⟨t0, t1⟩, hle⟩ := hx k hk
          simp only [List.mem_singleton] at h
          subst h
          unfold ok
          simp only
          refine ⟨f0, ?_, ?_⟩ <;> split <;> omega
        case isFalse hl => cases h
      case isFalse hk => cases h
theorem dp_len (xs : LR) (k : Nat) : (dp xs k).length ≤ k := by
  induction k with
  | zero => simp [dp]
  | succ k ih =>
    rw [dp, List.length_append]
    split
    · split <;> simp <;> omega
    · simp; omega
theorem tj_has {xs : LR} {i N : Nat} (hi : i < xs.length) (d : Int) : has (tj xs false i N) d ↔ ∃ j, j < N ∧ i ≠ j ∧ ∃ hj : j < xs.length, (xs[i].2.1 ≤ d ∧ d ≤ xs[i].2.2) ∧ (xs[j].2.1 ≤ d ∧ d ≤ xs[j].2.2) := by
  induction N with
  | zero =>
    constructor
    · rintro ⟨s, hs, -⟩; simp [tj] at hs
    · rintro ⟨j, h, -⟩; omega
  | succ n ih =>
    rw [tj, has_append, ih]
    constructor
    · rintro (⟨j, h1, h2⟩ | ⟨s, h, h1, h2⟩)
      · exact ⟨j, by omega, h2⟩
      · split at h
        case isTrue hl =>
          unfold pr at h
          split at h
          case isTrue hc =>
            simp only [List.mem_singleton] at h
            subst h
            have hne : i ≠ n := by have := hc.2; simpa using this
            unfold prF prT at h1 h2
            simp only at h1 h2
            refine ⟨n, by omega, hne, hl.2, ⟨?_, ?_⟩, ⟨?_, ?_⟩⟩
            · split at h1 <;> omega
            · split at h2 <;> omega
            · split at h1 <;> omega
            · split at h2 <;> omega
          case isFalse hc => cases h
        case isFalse hl => cases h
    · rintro ⟨j, h1, hne, hj, h3, h4⟩
      by_cases e : j = n
      · subst e
        right
        rw [dif_pos ⟨hi, hj⟩]
        have hc : prF xs[i] xs[j] ≤ prT xs[i] xs[j] ∧ (false || decide (i ≠ j)) = true := by
          refine ⟨?_, by simpa using hne⟩
          unfold prF prT
          split <;> split <;> omega
        unfold pr
        rw [if_pos hc]
        refine ⟨_, List.mem_singleton.2 rfl, ?_, ?_⟩
        · unfold prF; simp only; split <;> omega
        · unfold prT; simp only; split <;> omega
      · exact .inl ⟨j, by omega, hne, hj, h3, h4⟩
theorem tm_has {xs : LR} (N : Nat) (hN : N ≤ xs.length) (d : Int) : has (tm xs false N) d ↔ In2 xs N d := by
  induction N with
  | zero =>
    constructor
    · rintro ⟨s, hs, -⟩; simp [tm] at hs
    · rintro ⟨i, j, -, h, -⟩; omega
  | succ n ih =>
    rw [tm, has_append, ih (by omega), tj_has (show n < xs.length by omega)]
    constructor
    · rintro (⟨i, j, h1, h2, h3⟩ | ⟨j, h1, hne, hj, h3⟩)
      · exact ⟨i, j, h1, by omega, h3⟩
      · exact ⟨n, j, by omega, by omega, by omega, hj, h3⟩
    · rintro ⟨i, j, h1, h2, hi, hj, h3⟩
      by_cases e : i = n
      · subst e
        exact .inr ⟨j, by omega, by omega, hj, h3⟩
      · exact .inl ⟨i, j, h1, by omega, hi, hj, h3⟩
theorem dp_make {xs : LR} (h : arOk xs) : make (dp xs xs.length) = make (tm xs false xs.length) := by
  have o1 := dp_ok h.1 xs.length
  have o2 := tm_ok h.1 false xs.length
  refine nf_unique (make_nf o1) (make_nf o2) fun d => ?_
  rw [make_has o1, make_has o2, dp_has h.1 h.2.1, tm_has _ (Nat.le_refl _)]

end Go.Proofs.YtfhcakpmlppbkaaGreatDoor.Rei

namespace Go.Proofs.YtfhcakpmlppbkaaGreatDoor.Rei
open Go.RowKit
open Go.Proofs.YtfhcakpmlppbkaaGreatDoor.Sets (append_spanG ok okB okB_t okB_f impl_valid make make_nf make_length SetOut impl_join impl_restT impl_meetT below_on Fill run_make_spans has)
open Go.Proofs.YtfhcakpmlppbkaaGreatDoor.Fea (isDay)

def DdL (xs : LR) (N : Nat) (w0 : World) (m : Nat) (v l i : Value) (wr : World) : Prop :=
  ∃ (k : Nat) (acc : Sets.L), i = .int .i64 k ∧ l = .int .i64 (mx xs k) ∧ m = N - k ∧ k ≤ N ∧ Hid (acc = dp xs k) ∧ acc.length ≤ k ∧ Sets.Own wr w0.heap.size v acc ∧ Below w0.heap.size w0 wr

set_option maxRecDepth 100000 in
set_option maxHeartbeats 4000000 in
theorem impl_DisputedDays_yes (A : Option Addr) (N c : Nat) (xs : LR) (ha : arOk xs) (w : World) (h : RdR w A N xs) :
    Calls Tryz.prog 20 #[.slice A N c] w (SetOut (make (tm xs false N)) 0 w) := by
  have hlen := h.1
  have hN : N ≤ 30 := by have := ha.2.2; omega
  have C := Lib.hid (impl_AreReigns A N c xs (by unfold maxLen; omega) w h)
  rw [decide_eq_true ha] at C
  have H := Lib.hid h
  have MB := Lib.hid (fun k => mx_bd ha.1 k)
  have HX := Lib.hid (fun j (q : j < xs.length) => (ha.1 j q).2)
  have HOK : Hid (∀ s ∈ dp xs N ++ [], ok s) := Lib.hid (by rw [List.append_nil]; exact dp_ok ha.1 N)
  have HM := Lib.hid (show make (dp xs N) = make (tm xs false N) by rw [← hlen]; exact dp_make ha)
  generalize make (tm xs false N) = V at HM ⊢
  clear ha h hlen
  go_enter Tryz.func20, Tryz.ntmps20
  go_wp2_with fail
  refine C.out.mono ?_
  rintro e w1 ⟨rfl, hb1⟩
  have H1 := Lib.hid (H.out.below hb1)
  clear C
  go_wp2_with fail
  go_loopg [4, 5, 13] N (fun m v l i wr => DdL xs N w1 m v l i wr)
  case atStart => exact ⟨0, [], rfl, rfl, by omega, by omega, Lib.hid rfl, by simp, Sets.Own.nil w1 w1.heap.size, Below.refl _ _⟩
  case round =>
    obtain ⟨k, acc, rfl, rfl, hm, hk, HA, hl, hown, hb⟩ := hrel
    subst hm
    by_cases hlt : k < N
    · obtain ⟨g, off, hy, rfl, -, hg, c0, c1, c2⟩ := (H1.out.below hb).at_ hlt
      obtain ⟨⟨f0, f1⟩, ⟨t0, t1⟩, ft⟩ := HX.out k hy
      have own1 := hown.below ((Below.refl _ _).alloc (Nat.le_refl _) (.cells #[.string xs[k].1, .int .i64 xs[k].2.1, .int .i64 xs[k].2.2] 79))
      have hb1' := hb.alloc hb.size (.cells #[.string xs[k].1, .int .i64 xs[k].2.1, .int .i64 xs[k].2.2] 79)
      have mb := MB.out k
      have HMM := Lib.hid (show mx xs (k + 1) = max (mx xs k) xs[k].2.2 by rw [mx_succ hy]; split <;> omega)
      have HME := Lib.hid (show (if mx xs k < xs[k].2.2 then mx xs k else xs[k].2.2) = min xs[k].2.2 (mx xs k) by split <;> omega)
      by_cases hle : xs[k].2.1 ≤ mx xs k
      · have HN := Lib.hid (show acc ++ [(xs[k].2.1, min xs[k].2.2 (mx xs k))] = dp xs (k + 1) by rw [HA.out, ← HME.out]; exact dp_yes hy hle)
        clear HA HME
        generalize mx xs k = m1 at *
        go_wp2_with (at_builtin; refine append_spanG (by simp) hb1' own1 (by omega) rfl (.tmp 21) (.tmp 29) rfl rfl rfl ?_)
        intro v2 w2 own2 hb2 hkeep
        have q := hkeep _ _ _ (Blk.new wr 79 #[.string xs[k].1, .int .i64 xs[k].2.1, .int .i64 xs[k].2.2]) hown.below_own
        have q0 := q.cell 0
        have q1 := q.cell 1
        have q2 := q.cell 2
        simp only [List.getElem?_toArray, List.getElem?_cons_zero, List.getElem?_cons_succ] at q0 q1 q2
        clear hown hkeep q own1 hb1' hb c0 c1 c2
        go_wp2_with fail
        go_roundg (N - (k + 1))
        case measure => omega
        case rel => exact ⟨k + 1, _, by go_num, by rw [HMM.out], by omega, by omega, HN, by simp; omega, own2, hb2⟩
      · have HN := Lib.hid (HA.out ▸ dp_no hy hle : acc = dp xs (k + 1))
        have hd : decide (xs[k].2.1 ≤ mx xs k) = false := by simpa using hle
        clear HA HME
        generalize mx xs k = m1 at *
        go_wp2_with fail
        go_roundg (N - (k + 1))
        case measure => omega
        case rel => exact ⟨k + 1, _, by go_num, by rw [HMM.out], by omega, by omega, HN, by omega, own1, hb1'⟩
    · have HV : acc = dp xs N := by
        have e : k = N := by omega
        have h := HA.out
        rwa [e] at h
      subst HV
      have hge : (N : Int) ≤ k := by omega
      have hlN : (dp xs N).length + 0 ≤ 2000 := by omega
      clear HA MB HX
      obtain ⟨A2, c2, rfl, row2⟩ := hown.form
      have J := Lib.hid (fun wr (q : Sets.Rd wr A2 (dp xs N).length (dp xs N)) => impl_join A2 none (dp xs N).length 0 c2 0 _ [] hlN HOK wr q ⟨rfl, fun q => absurd q (Nat.lt_irrefl 0)⟩)
      simp only [List.append_nil] at J
      rw [HM.out] at J
      clear HM HOK
      go_wp2_with fail
      refine (J.out _ row2.rd).mono ?_
      rintro e w3 ⟨A3, c3, rfl, row3, hb3⟩
      have hb4 := hb1.trans ((hb.trans (hb3.mono hb.size)).mono hb1.size)
      have row4 := row3.mono (Nat.le_trans hb1.size hb.size) (Nat.le_refl _) (Nat.le_refl _)
      go_wp2_with fail
      go_ret2
      exact ⟨A3, c3, rfl, row4, hb4⟩

set_option maxHeartbeats 1000000 in
theorem impl_DisputedDays (A : Option Addr) (N c : Nat) (xs : LR) (hn : N ≤ maxLen) (w : World) (h : RdR w A N xs) :
    Calls Tryz.prog 20 #[.slice A N c] w (SetOut (ddL xs) (ddE xs) w) := by
  have C := Lib.hid (impl_AreReigns A N c xs hn w h)
  have hlen := h.1
  by_cases ha : arOk xs
  · rw [show ddL xs = make (tm xs false N) from (if_pos ha).trans (by rw [hlen]), show ddE xs = 0 from if_pos ha]
    exact impl_DisputedDays_yes A N c xs ha w h
  · rw [decide_eq_false ha] at C
    rw [show ddL xs = [] from if_neg ha, show ddE xs = 1 from if_neg ha]
    clear ha h hlen
    go_enter Tryz.func20, Tryz.ntmps20
    go_wp2_with fail
    refine C.out.mono ?_
    rintro e w1 ⟨rfl, hb⟩
    go_wp2_with fail
    go_ret2
    exact ⟨none, 0, rfl, Sets.Row.nil (Nat.le_refl _), hb⟩

theorem vd_ok {f t : Int} : vdOk f t ↔ ok (f, t) := by
  unfold vdOk ok Fea.isDay
  simp only
  constructor
  · rintro ⟨h1, h2, h3⟩; omega
  · intro h; exact ⟨by omega, by omega, by omega⟩
theorem rsp_at {xs : LR} {k : Nat} (h : k < xs.length) : ∃ q : k < (rsp xs).length, (rsp xs)[k] = (xs[k].2.1, xs[k].2.2) := ⟨by unfold rsp; simpa using h, by simp [rsp]⟩

set_option maxRecDepth 100000 in
set_option maxHeartbeats 4000000 in
theorem impl_VoidDays_yes (A : Option Addr) (N c : Nat) (xs : LR) (ha : arOk xs) (f t : Int) (hv : vdOk f t) (w : World) (h : RdR w A N xs) :
    Calls Tryz.prog 18 #[.slice A N c, .int .i64 f, .int .i64 t] w (SetOut (Sets.meet [(f, t)] (Sets.rest 0 (make (rsp xs)))) 0 w) := by
  have hlen := h.1
  have hN : N ≤ 30 := by have := ha.2.2; omega
  have C := Lib.hid (impl_AreReigns A N c xs (by unfold maxLen; omega) w h)
  rw [decide_eq_true ha] at C
  have H := Lib.hid h
  have VA := Lib.hid (fun w => impl_valid f t true w (okB_t (vd_ok.1 hv)))
  have HOK : Hid (∀ s ∈ rsp xs ++ [], ok s) := Lib.hid (by rw [List.append_nil]; exact rsp_ok ha.1)
  have NV := Lib.hid (make_nf (rsp_ok ha.1))
  have LV : (make (rsp xs)).length ≤ 300 := by have := make_length (rsp xs); unfold rsp at this ⊢; simp at this; omega
  have HLN := Lib.hid hlen
  have HRL := Lib.hid (show (rsp xs).length = N by unfold rsp; simpa using hlen)
  have J := Lib.hid (fun D wr (q : Sets.Rd wr (some ⟨D, 0, none⟩) N (rsp xs)) => impl_join (some ⟨D, 0, none⟩) none N 0 N 0 (rsp xs) [] (by omega) HOK wr q ⟨rfl, fun q => absurd q (Nat.lt_irrefl 0)⟩)
  simp only [List.append_nil] at J
  have hmk := run_make_spans N (by omega)
  clear ha hv h hlen HOK
  generalize make (rsp xs) = V at *
  have hr := rest_len V 0
  obtain ⟨R, hR⟩ : ∃ R, Sets.rest 0 V = R := ⟨_, rfl⟩
  rw [hR] at hr ⊢
  obtain ⟨M, hM⟩ : ∃ M, Sets.meet [(f, t)] R = M := ⟨_, rfl⟩
  rw [hM]
  have HR := Lib.hid hR
  have HM := Lib.hid hM
  clear hR hM
  go_enter Tryz.func18, Tryz.ntmps18
  go_wp2_with fail
  refine C.out.mono ?_
  rintro e w1 ⟨rfl, hb1⟩
  have S1 := (St.start w).call hb1
  have S2 := S1.alloc 36 #[.int .i64 f, .int .i64 t]
  clear C
  go_wp2_with fail
  refine (VA.out _).mono ?_
  rintro e w2 ⟨rfl, hb2⟩
  have S3 := S2.call hb2
  have hz3 := S3.bel.size
  have hlt8 := S3.b0.lt
  have S4 := S3.call ((Below.refl _ _).alloc (Nat.le_refl _) (.cells (madeCells #[.int .i64 0, .int .i64 0] (N * 2)) 36))
  have HF : Fill (w2.alloc (.cells (madeCells #[.int .i64 0, .int .i64 0] (N * 2)) 36)) w2.heap.size 0 N (rsp xs) := ⟨_, size_madeCells _ _, Blk.new _ _ _, fun j _ h => absurd h (by omega)⟩
  have H2 := Lib.hid (H.out.below S3.bel)
  clear H S1 S2 hb1 hb2 VA
  go_wp2_with fail
  have HH2 : Hid (∀ wr, Below w2.heap.size w2 wr → RdR wr A N xs) := Lib.hid fun wr q => H2.out.below q
  have hb4 : Below w2.heap.size w2 (w2.alloc (.cells (madeCells #[.int .i64 0, .int .i64 0] (N * 2)) 36)) := (Below.refl _ _).alloc (Nat.le_refl _) _
  clear hmk H2 S3
  go_loopg [26] N (fun m i wr => ∃ k : Nat, k ≤ N ∧ m = N - k ∧ i = .int .i64 k ∧ Below w2.heap.size w2 wr ∧ St [(w1.heap.size, 36, #[.int .i64 f, .int .i64 t])] w wr ∧ Fill wr w2.heap.size k N (rsp xs))
  case atStart => exact ⟨0, by omega, by omega, rfl, hb4, S4, HF⟩
  case round =>
    clear hb4 S4 HF
    obtain ⟨k, hk, hm, rfl, hb, S, hf⟩ := hrel
    subst hm
    by_cases hlt : k < N
    · obtain ⟨g, off, hl, rfl, -, hg, c0, c1, c2⟩ := (HH2.out _ hb).at_ hlt
      obtain ⟨hl2, e2⟩ := rsp_at hl
      have hb5 := hb.alloc hb.size (.cells #[.string xs[k].1, .int .i64 xs[k].2.1, .int .i64 xs[k].2.2] 79)
      have S5 := S.call ((Below.refl _ _).alloc (Nat.le_refl _) (.cells #[.string xs[k].1, .int .i64 xs[k].2.1, .int .i64 xs[k].2.2] 79))
      have hf5 := hf.below ((Below.refl _ _).alloc (Nat.le_refl _) (.cells #[.string xs[k].1, .int .i64 xs[k].2.1, .int .i64 xs[k].2.2] 79))
      clear hb S hf
      go_wp2_with fail
      refine (impl_rspan xs[k].1 xs[k].2.1 xs[k].2.2 _).mono ?_
      rintro e w4 ⟨rfl, hb6⟩
      have hf6 := hf5.below hb6
      obtain ⟨⟨u, d0⟩, ⟨u', d1⟩, z0, z1⟩ := hf6.cells hlt
      have HF := hf6.step hl2 hlt
      rw [e2] at HF
      have HFF := Lib.hid HF
      have hb7 := (below_on hb5 hb6).setCell (p := ⟨w2.heap.size, k * 2, none⟩) (Nat.le_refl _) (.int .i64 xs[k].2.1)
      have hb8 := hb7.setCell (p := ⟨w2.heap.size, k * 2 + 1, none⟩) (Nat.le_refl _) (.int .i64 xs[k].2.2)
      have S6 := Lib.hid (S5.call hb6)
      have hne : w1.heap.size ≠ w2.heap.size := by have := hlt8; omega
      have S8 : Hid (St [(w1.heap.size, 36, #[.int .i64 f, .int .i64 t])] w ((w4.setCell ⟨w2.heap.size, k * 2, none⟩ (.int .i64 xs[k].2.1)).setCell ⟨w2.heap.size, k * 2 + 1, none⟩ (.int .i64 xs[k].2.2))) := Lib.hid (by
        refine ⟨fun x hx => ?_, (S6.out.bel.setCell hz3 _).setCell hz3 _, S6.out.old⟩
        rw [List.mem_singleton] at hx
        subst hx
        exact (S6.out.b0.far hne _).far hne _)
      clear hf5 hf6 HF hb5 hb6 S5 hb7 c0 c1 c2
      go_wp2_with fail
      go_roundg (N - (k + 1))
      case measure => omega
      case rel => exact ⟨k + 1, by omega, by omega, by go_num, hb8, S8.out, HFF.out⟩
    · have e : k = N := by omega
      subst e
      have hge : ((k : Nat) : Int) ≤ k := by omega
      have rdS : Sets.Rd wr (some ⟨w2.heap.size, 0, none⟩) k (rsp xs) := by
        have := (show Fill wr w2.heap.size (rsp xs).length k (rsp xs) by rw [HRL.out]; exact hf).row (B := 0) (c := (rsp xs).length) (Nat.le_refl _) (Nat.zero_le _)
        have q := this.rd
        rw [HRL.out] at q
        exact q
      have bel := S.bel
      have c0 := S.b0.cell 0
      have c1 := S.b0.cell 1
      simp only [List.getElem?_toArray, List.getElem?_cons_zero, List.getElem?_cons_succ] at c0 c1
      clear hf HRL HLN HH2 S hb hlt
      go_wp2_with fail
      have hHeld0 : True := trivial
      replace bel := bel.drew
      replace rdS : Sets.Rd wr.drew (some ⟨w2.heap.size, 0, none⟩) k (rsp xs) := rdS
      refine wp_region_held_drew (S := (fun w' => w'.cell? ⟨w1.heap.size, 0, none⟩ = some (.int .i64 f) ∧ w'.cell? ⟨w1.heap.size, 1, none⟩ = some (.int .i64 t))) (by kernel_rfl) ?_ (fun hHeld => ?_)
      · (exact ⟨c0, c1⟩)
      refine wpAnyH_take (i := 0) (oi := ⟨some 37, _, _, _, _, _⟩) (v := _) rfl (by kernel_rfl) (by kernel_rfl) (by kernel_rfl) (fun _ _ _ h => h) (Or.inl ⟨by kernel_rfl, by (intro wS hSw; (try dsimp only at hSw); go_split_ands; go_simp; (try with_reducible rfl))⟩) (by assumption) ?_
      try simp only [Act.put, List.setIfInBounds_toArray, List.set_cons_zero, List.set_cons_succ]
      refine wpAnyH_take (i := 2) (oi := ⟨some 39, _, _, _, _, _⟩) (v := _) rfl (by kernel_rfl) (by kernel_rfl) (by kernel_rfl) (fun _ _ _ h => h) (Or.inl ⟨by kernel_rfl, by (intro wS hSw; (try dsimp only at hSw); go_split_ands; go_simp; (try with_reducible rfl))⟩) (by assumption) ?_
      try simp only [Act.put, List.setIfInBounds_toArray, List.set_cons_zero, List.set_cons_succ]
      refine wpAnyH_ready (rs := [1, 3]) (by kernel_rfl) (by simp) ?_
      refine AllReadyH.cons (o := ⟨some 38, _, _, _, _, _⟩) rfl (fun K hK => ?_) (AllReadyH.cons (o := ⟨some 40, _, _, _, _, _⟩) rfl (fun K hK => ?_) AllReadyH.nil)
      · go_simp
        go_wp2_with fail
        refine hK.out _ _ ?_ (fun hHeld => ?_)
        · (have a := hHeld.1; have b := hHeld.2; exact ⟨Sets.cell_keep ((Below.refl _ _).alloc (Nat.le_refl _) (.cells #[.int .i64 f, .int .i64 t] 36)) a, Sets.cell_keep ((Below.refl _ _).alloc (Nat.le_refl _) (.cells #[.int .i64 f, .int .i64 t] 36)) b⟩)
        clear hK K hHeld0
        try simp only [Act.put, List.setIfInBounds_toArray, List.set_cons_zero, List.set_cons_succ]
        have hHeld0 := hHeld
        have rdA := rd_one wr.drew f t
        replace rdS := rdS.below ((Below.refl _ _).alloc (Nat.le_refl _) (.cells #[.int .i64 f, .int .i64 t] 36))
        replace bel := bel.alloc bel.size (.cells #[.int .i64 f, .int .i64 t] 36)
        refine wpAnyH_ready (rs := [3]) (by kernel_rfl) (by simp) ?_
        refine AllReadyH.cons (o := ⟨some 40, _, _, _, _, _⟩) rfl (fun K hK => ?_) AllReadyH.nil
        go_simp
        refine (J.out w2.heap.size _ rdS).mono ?_
        rintro e wJ ⟨A3, c3, rfl, row3, hbJ⟩
        go_wp2_with fail
        refine hK.out _ _ ?_ (fun hHeld => ?_)
        · (have a := hHeld.1; have b := hHeld.2; exact ⟨Sets.cell_keep hbJ a, Sets.cell_keep hbJ b⟩)
        clear hK K hHeld0
        try simp only [Act.put, List.setIfInBounds_toArray, List.set_cons_zero, List.set_cons_succ]
        have hHeld0 := hHeld
        have rdV := row3.rd
        replace bel := below_on bel hbJ
        replace rdA := rdA.below hbJ
        refine wpAnyH_ready (rs := [4]) (by kernel_rfl) (by simp) ?_
        refine AllReadyH.cons (o := ⟨some 41, _, _, _, _, _⟩) rfl (fun K hK => ?_) AllReadyH.nil
        go_simp
        refine (impl_restT R A3 V.length c3 V HR LV NV _ rdV).mono ?_
        rintro e wG ⟨A4, c4, rfl, row4, hbG⟩
        go_wp2_with fail
        refine hK.out _ _ ?_ (fun hHeld => ?_)
        · (have a := hHeld.1; have b := hHeld.2; exact ⟨Sets.cell_keep hbG a, Sets.cell_keep hbG b⟩)
        clear hK K hHeld0
        try simp only [Act.put, List.setIfInBounds_toArray, List.set_cons_zero, List.set_cons_succ]
        have hHeld0 := hHeld
        have rdR := row4.rd
        have hc4 := row4.2.1
        replace bel := below_on bel hbG
        replace rdA := rdA.below hbG
        refine wpAnyH_ready (rs := [5]) (by kernel_rfl) (by simp) ?_
        refine AllReadyH.cons (o := ⟨some 42, _, _, _, _, _⟩) rfl (fun K hK => ?_) AllReadyH.nil
        go_simp
        refine (impl_meetT M (1 + R.length) _ A4 1 R.length 1 c4 [(f, t)] R HM (Nat.le_refl _) (by omega) (Nat.le_refl _) hc4 _ rdA rdR).mono ?_
        rintro e wM ⟨A5, c5, rfl, row5, hbM⟩
        go_wp2_with fail
        refine hK.out _ _ ?_ (fun hHeld => ?_)
        · (have a := hHeld.1; have b := hHeld.2; exact ⟨Sets.cell_keep hbM a, Sets.cell_keep hbM b⟩)
        clear hK K hHeld0
        try simp only [Act.put, List.setIfInBounds_toArray, List.set_cons_zero, List.set_cons_succ]
        have hHeld0 := hHeld
        have row6 := row5.mono bel.size (Nat.le_refl _) (Nat.le_refl _)
        replace bel := below_on bel hbM
        refine wpAnyH_take (i := 6) (oi := ⟨some 6, _, _, _, _, _⟩) (v := _) rfl (by kernel_rfl) (by kernel_rfl) (by kernel_rfl) (fun _ _ _ h => h) (Or.inl ⟨by kernel_rfl, by (intro wS hSw; (try dsimp only at hSw); go_split_ands; go_simp; (try with_reducible rfl))⟩) (by assumption) ?_
        try simp only [Act.put, List.setIfInBounds_toArray, List.set_cons_zero, List.set_cons_succ]
        refine wpAnyH_take (i := 7) (oi := ⟨some 7, _, _, _, _, _⟩) (v := _) rfl (by kernel_rfl) (by kernel_rfl) (by kernel_rfl) (fun _ _ _ h => h) (Or.inl ⟨by kernel_rfl, by (intro wS hSw; (try dsimp only at hSw); go_split_ands; go_simp; (try with_reducible rfl))⟩) (by assumption) ?_
        try simp only [Act.put, List.setIfInBounds_toArray, List.set_cons_zero, List.set_cons_succ]
        refine wpAnyH_done (by kernel_rfl) ?_ _
        go_wp2_with fail
        go_ret2
        exact ⟨A5, c5, rfl, row6, bel⟩
      · go_simp
        refine (J.out w2.heap.size _ rdS).mono ?_
        rintro e wJ ⟨A3, c3, rfl, row3, hbJ⟩
        go_wp2_with fail
        refine hK.out _ _ ?_ (fun hHeld => ?_)
        · (have a := hHeld.1; have b := hHeld.2; exact ⟨Sets.cell_keep hbJ a, Sets.cell_keep hbJ b⟩)
        clear hK K hHeld0
        try simp only [Act.put, List.setIfInBounds_toArray, List.set_cons_zero, List.set_cons_succ]
        have hHeld0 := hHeld
        have rdV := row3.rd
        replace bel := below_on bel hbJ
        refine wpAnyH_ready (rs := [1, 4]) (by kernel_rfl) (by simp) ?_
        refine AllReadyH.cons (o := ⟨some 38, _, _, _, _, _⟩) rfl (fun K hK => ?_) (AllReadyH.cons (o := ⟨some 41, _, _, _, _, _⟩) rfl (fun K hK => ?_) AllReadyH.nil)
        · go_simp
          go_wp2_with fail
          refine hK.out _ _ ?_ (fun hHeld => ?_)
          · (have a := hHeld.1; have b := hHeld.2; exact ⟨Sets.cell_keep ((Below.refl _ _).alloc (Nat.le_refl _) (.cells #[.int .i64 f, .int .i64 t] 36)) a, Sets.cell_keep ((Below.refl _ _).alloc (Nat.le_refl _) (.cells #[.int .i64 f, .int .i64 t] 36)) b⟩)
          clear hK K hHeld0
          try simp only [Act.put, List.setIfInBounds_toArray, List.set_cons_zero, List.set_cons_succ]
          have hHeld0 := hHeld
          have rdA := rd_one wJ f t
          replace rdV := rdV.below ((Below.refl _ _).alloc (Nat.le_refl _) (.cells #[.int .i64 f, .int .i64 t] 36))
          replace bel := bel.alloc bel.size (.cells #[.int .i64 f, .int .i64 t] 36)
          refine wpAnyH_ready (rs := [4]) (by kernel_rfl) (by simp) ?_
          refine AllReadyH.cons (o := ⟨some 41, _, _, _, _, _⟩) rfl (fun K hK => ?_) AllReadyH.nil
          go_simp
          refine (impl_restT R A3 V.length c3 V HR LV NV _ rdV).mono ?_
          rintro e wG ⟨A4, c4, rfl, row4, hbG⟩
          go_wp2_with fail
          refine hK.out _ _ ?_ (fun hHeld => ?_)
          · (have a := hHeld.1; have b := hHeld.2; exact ⟨Sets.cell_keep hbG a, Sets.cell_keep hbG b⟩)
          clear hK K hHeld0
          try simp only [Act.put, List.setIfInBounds_toArray, List.set_cons_zero, List.set_cons_succ]
          have hHeld0 := hHeld
          have rdR := row4.rd
          have hc4 := row4.2.1
          replace bel := below_on bel hbG
          replace rdA := rdA.below hbG
          refine wpAnyH_ready (rs := [5]) (by kernel_rfl) (by simp) ?_
          refine AllReadyH.cons (o := ⟨some 42, _, _, _, _, _⟩) rfl (fun K hK => ?_) AllReadyH.nil
          go_simp
          refine (impl_meetT M (1 + R.length) _ A4 1 R.length 1 c4 [(f, t)] R HM (Nat.le_refl _) (by omega) (Nat.le_refl _) hc4 _ rdA rdR).mono ?_
          rintro e wM ⟨A5, c5, rfl, row5, hbM⟩
          go_wp2_with fail
          refine hK.out _ _ ?_ (fun hHeld => ?_)
          · (have a := hHeld.1; have b := hHeld.2; exact ⟨Sets.cell_keep hbM a, Sets.cell_keep hbM b⟩)
          clear hK K hHeld0
          try simp only [Act.put, List.setIfInBounds_toArray, List.set_cons_zero, List.set_cons_succ]
          have hHeld0 := hHeld
          have row6 := row5.mono bel.size (Nat.le_refl _) (Nat.le_refl _)
          replace bel := below_on bel hbM
          refine wpAnyH_take (i := 6) (oi := ⟨some 6, _, _, _, _, _⟩) (v := _) rfl (by kernel_rfl) (by kernel_rfl) (by kernel_rfl) (fun _ _ _ h => h) (Or.inl ⟨by kernel_rfl, by (intro wS hSw; (try dsimp only at hSw); go_split_ands; go_simp; (try with_reducible rfl))⟩) (by assumption) ?_
          try simp only [Act.put, List.setIfInBounds_toArray, List.set_cons_zero, List.set_cons_succ]
          refine wpAnyH_take (i := 7) (oi := ⟨some 7, _, _, _, _, _⟩) (v := _) rfl (by kernel_rfl) (by kernel_rfl) (by kernel_rfl) (fun _ _ _ h => h) (Or.inl ⟨by kernel_rfl, by (intro wS hSw; (try dsimp only at hSw); go_split_ands; go_simp; (try with_reducible rfl))⟩) (by assumption) ?_
          try simp only [Act.put, List.setIfInBounds_toArray, List.set_cons_zero, List.set_cons_succ]
          refine wpAnyH_done (by kernel_rfl) ?_ _
          go_wp2_with fail
          go_ret2
          exact ⟨A5, c5, rfl, row6, bel⟩
        · go_simp
          refine (impl_restT R A3 V.length c3 V HR LV NV _ rdV).mono ?_
          rintro e wG ⟨A4, c4, rfl, row4, hbG⟩
          go_wp2_with fail
          refine hK.out _ _ ?_ (fun hHeld => ?_)
          · (have a := hHeld.1; have b := hHeld.2; exact ⟨Sets.cell_keep hbG a, Sets.cell_keep hbG b⟩)
          clear hK K hHeld0
          try simp only [Act.put, List.setIfInBounds_toArray, List.set_cons_zero, List.set_cons_succ]
          have hHeld0 := hHeld
          have rdR := row4.rd
          have hc4 := row4.2.1
          replace bel := below_on bel hbG
          refine wpAnyH_ready (rs := [1]) (by kernel_rfl) (by simp) ?_
          refine AllReadyH.cons (o := ⟨some 38, _, _, _, _, _⟩) rfl (fun K hK => ?_) AllReadyH.nil
          go_simp
          go_wp2_with fail
          refine hK.out _ _ ?_ (fun hHeld => ?_)
          · (have a := hHeld.1; have b := hHeld.2; exact ⟨Sets.cell_keep ((Below.refl _ _).alloc (Nat.le_refl _) (.cells #[.int .i64 f, .int .i64 t] 36)) a, Sets.cell_keep ((Below.refl _ _).alloc (Nat.le_refl _) (.cells #[.int .i64 f, .int .i64 t] 36)) b⟩)
          clear hK K hHeld0
          try simp only [Act.put, List.setIfInBounds_toArray, List.set_cons_zero, List.set_cons_succ]
          have hHeld0 := hHeld
          have rdA := rd_one wG f t
          replace rdR := rdR.below ((Below.refl _ _).alloc (Nat.le_refl _) (.cells #[.int .i64 f, .int .i64 t] 36))
          replace bel := bel.alloc bel.size (.cells #[.int .i64 f, .int .i64 t] 36)
          refine wpAnyH_ready (rs := [5]) (by kernel_rfl) (by simp) ?_
          refine AllReadyH.cons (o := ⟨some 42, _, _, _, _, _⟩) rfl (fun K hK => ?_) AllReadyH.nil
          go_simp
          refine (impl_meetT M (1 + R.length) _ A4 1 R.length 1 c4 [(f, t)] R HM (Nat.le_refl _) (by omega) (Nat.le_refl _) hc4 _ rdA rdR).mono ?_
          rintro e wM ⟨A5, c5, rfl, row5, hbM⟩
          go_wp2_with fail
          refine hK.out _ _ ?_ (fun hHeld => ?_)
          · (have a := hHeld.1; have b := hHeld.2; exact ⟨Sets.cell_keep hbM a, Sets.cell_keep hbM b⟩)
          clear hK K hHeld0
          try simp only [Act.put, List.setIfInBounds_toArray, List.set_cons_zero, List.set_cons_succ]
          have hHeld0 := hHeld
          have row6 := row5.mono bel.size (Nat.le_refl _) (Nat.le_refl _)
          replace bel := below_on bel hbM
          refine wpAnyH_take (i := 6) (oi := ⟨some 6, _, _, _, _, _⟩) (v := _) rfl (by kernel_rfl) (by kernel_rfl) (by kernel_rfl) (fun _ _ _ h => h) (Or.inl ⟨by kernel_rfl, by (intro wS hSw; (try dsimp only at hSw); go_split_ands; go_simp; (try with_reducible rfl))⟩) (by assumption) ?_
          try simp only [Act.put, List.setIfInBounds_toArray, List.set_cons_zero, List.set_cons_succ]
          refine wpAnyH_take (i := 7) (oi := ⟨some 7, _, _, _, _, _⟩) (v := _) rfl (by kernel_rfl) (by kernel_rfl) (by kernel_rfl) (fun _ _ _ h => h) (Or.inl ⟨by kernel_rfl, by (intro wS hSw; (try dsimp only at hSw); go_split_ands; go_simp; (try with_reducible rfl))⟩) (by assumption) ?_
          try simp only [Act.put, List.setIfInBounds_toArray, List.set_cons_zero, List.set_cons_succ]
          refine wpAnyH_done (by kernel_rfl) ?_ _
          go_wp2_with fail
          go_ret2
          exact ⟨A5, c5, rfl, row6, bel⟩

set_option maxHeartbeats 1000000 in
theorem impl_VoidDays (A : Option Addr) (N c : Nat) (xs : LR) (hn : N ≤ maxLen) (f t : Int) (w : World) (h : RdR w A N xs) :
    Calls Tryz.prog 18 #[.slice A N c, .int .i64 f, .int .i64 t] w (SetOut (vdL xs f t) (vdE xs f t) w) := by
  have C := Lib.hid (impl_AreReigns A N c xs hn w h)
  by_cases ha : arOk xs
  · by_cases hv : vdOk f t
    · rw [show vdL xs f t = Sets.meet [(f, t)] (Sets.rest 0 (make (rsp xs))) from if_pos ⟨ha, hv⟩, show vdE xs f t = 0 from (if_neg (fun k => k ha)).trans (if_pos hv)]
      exact impl_VoidDays_yes A N c xs ha f t hv w h
    · rw [decide_eq_true ha] at C
      have VA := Lib.hid (fun w => impl_valid f t false w (okB_f (fun k => hv (vd_ok.2 k))))
      rw [show vdL xs f t = [] from if_neg (fun k => hv k.2), show vdE xs f t = 2 from (if_neg (fun k => k ha)).trans (if_neg hv)]
      clear ha hv h
      go_enter Tryz.func18, Tryz.ntmps18
      go_wp2_with fail
      refine C.out.mono ?_
      rintro e w1 ⟨rfl, hb⟩
      have hb2 := hb.alloc hb.size (.cells #[.int .i64 f, .int .i64 t] 36)
      go_wp2_with fail
      refine (VA.out _).mono ?_
      rintro e w2 ⟨rfl, hb3⟩
      go_wp2_with fail
      go_ret2
      exact ⟨none, 0, rfl, Sets.Row.nil (Nat.le_refl _), below_on hb2 hb3⟩
  · rw [decide_eq_false ha] at C
    rw [show vdL xs f t = [] from if_neg (fun k => ha k.1), show vdE xs f t = 1 from if_pos ha]
    clear ha h
    go_enter Tryz.func18, Tryz.ntmps18
    go_wp2_with fail
    refine C.out.mono ?_
    rintro e w1 ⟨rfl, hb⟩
    go_wp2_with fail
    go_ret2
    exact ⟨none, 0, rfl, Sets.Row.nil (Nat.le_refl _), hb⟩

end Go.Proofs.YtfhcakpmlppbkaaGreatDoor.Rei
