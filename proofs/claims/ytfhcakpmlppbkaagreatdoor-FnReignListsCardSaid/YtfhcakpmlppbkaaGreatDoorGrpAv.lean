/- Texts of a claim in one file: ReiG ReiK. -/
import Derived.Test.YtfhcakpmlppbkaaGreatDoorGrpAu
import Derived.Test.YtfhcakpmlppbkaaGreatDoorGrpAq
namespace Go.Proofs.YtfhcakpmlppbkaaGreatDoor.Rei
open Go.RowKit
open Go.Proofs.YtfhcakpmlppbkaaGreatDoor.Sets (Own SpansO Spans ok make SetOut has NF nf_unique make_nf make_has make_length spec_restT spec_meetT)
open Go.Proofs.YtfhcakpmlppbkaaGreatDoor.Fea (isDay spec_day_yes spec_day_no)

/-- The spans of reigns. -/
def rsp (xs : LR) : Sets.L := xs.map fun r => (r.2.1, r.2.2)
theorem rsp_ok {xs : LR} (hx : ∀ j (h : j < xs.length), rOk xs[j].1 xs[j].2.1 xs[j].2.2) : ∀ s ∈ rsp xs, ok s := by
  intro s hs
  obtain ⟨r, hr, rfl⟩ := List.mem_map.1 hs
  obtain ⟨i, hi, rfl⟩ := List.getElem_of_mem hr
  obtain ⟨-, ⟨f0, f1⟩, ⟨t0, t1⟩, hle⟩ := hx i hi
  exact ⟨f0, hle, t1⟩
theorem tj_in {xs : LR} {q : Bool} {i N : Nat} {d : Int} (h : has (tj xs q i N) d) : has (rsp xs) d := by
  induction N with
  | zero => obtain ⟨s, hs, -⟩ := h; simp [tj] at hs
  | succ j ih =>
    rw [tj, Sets.has_append] at h
    rcases h with h | ⟨s, hs, h1, h2⟩
    · exact ih h
    · split at hs
      case isTrue hl =>
        unfold pr at hs
        split at hs
        case isTrue hc =>
          simp only [List.mem_singleton] at hs
          subst hs
          refine ⟨(xs[i].2.1, xs[i].2.2), List.mem_map.2 ⟨xs[i], List.getElem_mem hl.1, rfl⟩, ?_, ?_⟩
          · simp only at h1 ⊢
            unfold prF at h1
            split at h1 <;> omega
          · simp only at h2 ⊢
            unfold prT at h2
            split at h2 <;> omega
        case isFalse hc => cases hs
      case isFalse hl => cases hs
theorem tm_in {xs : LR} {q : Bool} {N : Nat} {d : Int} (h : has (tm xs q N) d) : has (rsp xs) d := by
  induction N with
  | zero => obtain ⟨s, hs, -⟩ := h; simp [tm] at hs
  | succ i ih =>
    rw [tm, Sets.has_append] at h
    exact h.elim ih tj_in
theorem tm_self {xs : LR} (hx : ∀ j (h : j < xs.length), rOk xs[j].1 xs[j].2.1 xs[j].2.2) {i N : Nat} (hi : i < xs.length) (hN : i < N) {d : Int} (h1 : xs[i].2.1 ≤ d) (h2 : d ≤ xs[i].2.2) : has (tm xs true N) d := by
  induction N with
  | zero => omega
  | succ n ih =>
    rw [tm, Sets.has_append]
    by_cases e : i = n
    · subst e
      right
      rw [tj, Sets.has_append]
      right
      refine ⟨(xs[i].2.1, xs[i].2.2), ?_, h1, h2⟩
      rw [dif_pos ⟨hi, hi⟩]
      have e1 : prF xs[i] xs[i] = xs[i].2.1 := if_neg (by omega)
      have e2 : prT xs[i] xs[i] = xs[i].2.2 := if_neg (by omega)
      unfold pr
      rw [e1, e2, if_pos ⟨(hx i hi).2.2.2, rfl⟩]
      exact List.mem_singleton.2 rfl
    · exact .inl (ih (by omega))
theorem tm_rsp {xs : LR} (hx : ∀ j (h : j < xs.length), rOk xs[j].1 xs[j].2.1 xs[j].2.2) : make (tm xs true xs.length) = make (rsp xs) := by
  have o1 := tm_ok hx true xs.length
  have o2 := rsp_ok hx
  refine nf_unique (make_nf o1) (make_nf o2) fun d => ?_
  rw [make_has o1, make_has o2]
  constructor
  · exact tm_in
  · rintro ⟨s, hs, h1, h2⟩
    obtain ⟨r, hr, rfl⟩ := List.mem_map.1 hs
    obtain ⟨i, hi, rfl⟩ := List.getElem_of_mem hr
    exact tm_self hx hi hi h1 h2

theorem rd_one (w : World) (f t : Int) : Sets.Rd (w.alloc (.cells #[.int .i64 f, .int .i64 t] 36)) (some ⟨w.heap.size, 0, none⟩) 1 [(f, t)] := by
  refine ⟨rfl, fun _ => ⟨w.heap.size, 0, rfl, by simp, fun k hk => ?_⟩⟩
  have e : k = 0 := by simp at hk; exact hk
  subst e
  exact ⟨by simp, by simp⟩
theorem rest_len (V : Sets.L) (f : Int) : (Sets.rest f V).length ≤ V.length + 1 := by
  induction V generalizing f with
  | nil => unfold Sets.rest; split <;> simp
  | cons s r ih =>
    unfold Sets.rest
    have := ih (s.2 + 1)
    split <;> simp <;> omega
/-- What DisputedDays and VoidDays answer. -/
noncomputable def ddL (xs : LR) : Sets.L := if arOk xs then make (tm xs false xs.length) else []
noncomputable def ddE (xs : LR) : Int := if arOk xs then 0 else 1
def vdOk (f t : Int) : Prop := isDay f ∧ isDay t ∧ f ≤ t
instance (f t : Int) : Decidable (vdOk f t) := by unfold vdOk isDay; exact inferInstance
noncomputable def vdL (xs : LR) (f t : Int) : Sets.L := if arOk xs ∧ vdOk f t then Sets.meet [(f, t)] (Sets.rest 0 (make (rsp xs))) else []
noncomputable def vdE (xs : LR) (f t : Int) : Int := if ¬ arOk xs then 1 else if vdOk f t then 0 else 2

set_option maxHeartbeats 1000000 in
theorem spec_DisputedDays (A : Option Addr) (N c : Nat) (xs : LR) (hn : N ≤ maxLen) (w : World) (h : RdR w A N xs) :
    Calls Tryz.prog 21 #[.slice A N c] w (SetOut (ddL xs) (ddE xs) w) := by
  have C := Lib.hid (spec_AreReigns A N c xs hn w h)
  have hlen := h.1
  by_cases ha : arOk xs
  · rw [decide_eq_true ha] at C
    have hN : N ≤ 30 := by have := ha.2.2; omega
    have T := Lib.hid (fun w' q => spec_times7 A N c xs hN 2 false rfl (Lib.hid ha.1) w' q)
    rw [show ddL xs = make (tm xs false N) from (if_pos ha).trans (by rw [hlen]), show ddE xs = 0 from if_pos ha]
    have H := Lib.hid h
    clear ha h hlen hN
    generalize make (tm xs false N) = V at T ⊢
    go_enter Tryz.func21, Tryz.ntmps21
    go_wp2_with fail
    refine C.out.mono ?_
    rintro e w1 ⟨rfl, hb⟩
    go_wp2_with fail
    refine (T.out _ (H.out.below hb)).mono ?_
    rintro e w3 ⟨v, rfl, own, hb3⟩
    have hb4 := hb.trans (hb3.mono hb.size)
    obtain ⟨A2, c2, rfl, row⟩ := (own.mono hb.size).form
    clear T C H own hb3 hb
    go_wp2_with fail
    go_ret2
    exact ⟨A2, c2, rfl, row, hb4⟩
  · rw [decide_eq_false ha] at C
    rw [show ddL xs = [] from if_neg ha, show ddE xs = 1 from if_neg ha]
    clear ha h hlen
    go_enter Tryz.func21, Tryz.ntmps21
    go_wp2_with fail
    refine C.out.mono ?_
    rintro e w1 ⟨rfl, hb⟩
    go_wp2_with fail
    go_ret2
    exact ⟨none, 0, rfl, Sets.Row.nil (Nat.le_refl _), hb⟩

set_option maxHeartbeats 1000000 in
theorem spec_VoidDays (A : Option Addr) (N c : Nat) (xs : LR) (hn : N ≤ maxLen) (f t : Int) (w : World) (h : RdR w A N xs) :
    Calls Tryz.prog 19 #[.slice A N c, .int .i64 f, .int .i64 t] w (SetOut (vdL xs f t) (vdE xs f t) w) := by
  have C := Lib.hid (spec_AreReigns A N c xs hn w h)
  have hlen := h.1
  by_cases ha : arOk xs
  · rw [decide_eq_true ha] at C
    by_cases hv : vdOk f t
    · have hN : N ≤ 30 := by have := ha.2.2; omega
      have D1 := Lib.hid (spec_day_yes f hv.1)
      have D2 := Lib.hid (spec_day_yes t hv.2.1)
      have hft : decide (t < f) = false := by simp; exact hv.2.2
      have T := Lib.hid (fun w' q => spec_times7 A N c xs hN 1 true rfl (Lib.hid ha.1) w' q)
      have eT : make (tm xs true N) = make (rsp xs) := by rw [← hlen]; exact tm_rsp ha.1
      rw [eT] at T
      have NV := Lib.hid (make_nf (rsp_ok ha.1))
      have LV : (make (rsp xs)).length ≤ 300 := by have := make_length (rsp xs); unfold rsp at this ⊢; simp at this; omega
      rw [show vdL xs f t = Sets.meet [(f, t)] (Sets.rest 0 (make (rsp xs))) from if_pos ⟨ha, hv⟩, show vdE xs f t = 0 from (if_neg (fun k => k ha)).trans (if_pos hv)]
      have H := Lib.hid h
      clear ha h hlen hN hv eT
      generalize make (rsp xs) = V at T NV LV ⊢
      have hr := rest_len V 0
      obtain ⟨R, hR⟩ : ∃ R, Sets.rest 0 V = R := ⟨_, rfl⟩
      rw [hR] at hr ⊢
      obtain ⟨M, hM⟩ : ∃ M, Sets.meet [(f, t)] R = M := ⟨_, rfl⟩
      rw [hM]
      have HR := Lib.hid hR
      have HM := Lib.hid hM
      clear hR hM
      go_enter Tryz.func19, Tryz.ntmps19
      go_wp2_with fail
      refine C.out.mono ?_
      rintro e w1 ⟨rfl, hb⟩
      go_wp2_with fail
      refine (D1.out _).mono ?_
      rintro e w2 ⟨rfl, rfl⟩
      go_wp2_with fail
      refine (D2.out _).mono ?_
      rintro e w2 ⟨rfl, rfl⟩
      go_wp2_with fail
      have hx1 := rd_one w1 f t
      have hb1 := hb.alloc hb.size (.cells #[.int .i64 f, .int .i64 t] 36)
      generalize w1.alloc (.cells #[.int .i64 f, .int .i64 t] 36) = wa at hx1 hb1 ⊢
      refine (T.out _ (H.out.below hb1)).mono ?_
      rintro e w2 ⟨v, rfl, own, hb2⟩
      obtain ⟨A2, c2, rfl, row⟩ := (own.mono hb1.size).form
      have hx2 := hx1.below hb2
      have hb3 := hb1.trans (hb2.mono hb1.size)
      have RS := Lib.hid (spec_restT R A2 V.length c2 V HR LV NV w2 row.rd)
      clear T C D1 D2 H own hb2 hb hx1 hb1 row
      go_wp2_with fail
      refine RS.out.mono ?_
      rintro e w3 ⟨A3, c3, rfl, row3, hb4⟩
      have hx3 := hx2.below hb4
      have hb5 := hb3.trans (hb4.mono hb3.size)
      have MT := Lib.hid (spec_meetT M (1 + R.length) (some ⟨w1.heap.size, 0, none⟩) A3 1 R.length 1 c3 [(f, t)] R HM (Nat.le_refl _) (by omega) w3 hx3 row3.rd)
      clear RS hx2 hx3 hb4 hb3 row3
      go_wp2_with fail
      refine MT.out.mono ?_
      rintro e w4 ⟨A4, c4, rfl, row4, hb6⟩
      have hb7 := hb5.trans (hb6.mono hb5.size)
      have row5 := row4.mono hb5.size (Nat.le_refl _) (Nat.le_refl _)
      clear MT hb5 hb6 row4
      go_wp2_with fail
      go_ret2
      exact ⟨A4, c4, rfl, row5, hb7⟩
    · rw [show vdL xs f t = [] from if_neg (fun k => hv k.2), show vdE xs f t = 2 from (if_neg (fun k => k ha)).trans (if_neg hv)]
      by_cases h1 : isDay f
      · have D1 := Lib.hid (spec_day_yes f h1)
        by_cases h2 : isDay t
        · have D2 := Lib.hid (spec_day_yes t h2)
          have hft : decide (t < f) = true := by
            apply decide_eq_true
            have : ¬ f ≤ t := fun k => hv ⟨h1, h2, k⟩
            omega
          clear ha hv h1 h2 h hlen
          go_enter Tryz.func19, Tryz.ntmps19
          go_wp2_with fail
          refine C.out.mono ?_
          rintro e w1 ⟨rfl, hb⟩
          go_wp2_with fail
          refine (D1.out _).mono ?_
          rintro e w2 ⟨rfl, rfl⟩
          go_wp2_with fail
          refine (D2.out _).mono ?_
          rintro e w2 ⟨rfl, rfl⟩
          go_wp2_with fail
          go_ret2
          exact ⟨none, 0, rfl, Sets.Row.nil (Nat.le_refl _), hb⟩
        · have D2 := Lib.hid (spec_day_no t h2)
          clear ha hv h1 h2 h hlen
          go_enter Tryz.func19, Tryz.ntmps19
          go_wp2_with fail
          refine C.out.mono ?_
          rintro e w1 ⟨rfl, hb⟩
          go_wp2_with fail
          refine (D1.out _).mono ?_
          rintro e w2 ⟨rfl, rfl⟩
          go_wp2_with fail
          refine (D2.out _).mono ?_
          rintro e w2 ⟨rfl, rfl⟩
          go_wp2_with fail
          go_ret2
          exact ⟨none, 0, rfl, Sets.Row.nil (Nat.le_refl _), hb⟩
      · have D1 := Lib.hid (spec_day_no f h1)
        clear ha hv h1 h hlen
        go_enter Tryz.func19, Tryz.ntmps19
        go_wp2_with fail
        refine C.out.mono ?_
        rintro e w1 ⟨rfl, hb⟩
        go_wp2_with fail
        refine (D1.out _).mono ?_
        rintro e w2 ⟨rfl, rfl⟩
        go_wp2_with fail
        go_ret2
        exact ⟨none, 0, rfl, Sets.Row.nil (Nat.le_refl _), hb⟩
  · rw [decide_eq_false ha] at C
    rw [show vdL xs f t = [] from if_neg (fun k => ha k.1), show vdE xs f t = 1 from if_pos ha]
    clear ha h hlen
    go_enter Tryz.func19, Tryz.ntmps19
    go_wp2_with fail
    refine C.out.mono ?_
    rintro e w1 ⟨rfl, hb⟩
    go_wp2_with fail
    go_ret2
    exact ⟨none, 0, rfl, Sets.Row.nil (Nat.le_refl _), hb⟩

end Go.Proofs.YtfhcakpmlppbkaaGreatDoor.Rei

namespace Go.Proofs.YtfhcakpmlppbkaaGreatDoor.Rei
open Go.RowKit
open Go.Proofs.YtfhcakpmlppbkaaGreatDoor.Eas (It)

/-- The slice is a row of reigns of the call's own, in a block from B on and below U. -/
def RowR (w : World) (B U : Nat) (A : Option Addr) (n c : Nat) (xs : LR) : Prop :=
  xs.length = n ∧ n ≤ c ∧ U ≤ w.heap.size ∧ (∀ k (h : k < xs.length), xs[k].1.size ≤ maxLen) ∧ (0 < n → ∃ g off cs, A = some ⟨g, off, none⟩ ∧ B ≤ g ∧ g < U ∧ Blk w g 79 cs ∧
    ∀ k (h : k < xs.length), cs[off + k * 3]? = some (.string xs[k].1) ∧ cs[off + k * 3 + 1]? = some (.int .i64 xs[k].2.1) ∧ cs[off + k * 3 + 2]? = some (.int .i64 xs[k].2.2))
theorem RowR.rd {w : World} {B U : Nat} {A : Option Addr} {n c : Nat} {xs : LR} (h : RowR w B U A n c xs) : RdR w A n xs :=
  ⟨h.1, h.2.2.2.1, fun hn => by
    obtain ⟨g, off, cs, e, _, hg, hb, hcell⟩ := h.2.2.2.2 hn
    refine ⟨g, off, e, Nat.lt_of_lt_of_le hg h.2.2.1, fun k hk => ?_⟩
    rw [hb.cell, hb.cell, hb.cell]
    exact hcell k hk⟩
theorem RowR.below {w w' : World} {B U : Nat} {A : Option Addr} {n c : Nat} {xs : LR} (h : RowR w B U A n c xs) (hb : Below w.heap.size w w') : RowR w' B U A n c xs :=
  ⟨h.1, h.2.1, Nat.le_trans h.2.2.1 hb.size, h.2.2.2.1, fun hn => by
    obtain ⟨g, off, cs, e, h1, hg, hk, hcell⟩ := h.2.2.2.2 hn
    exact ⟨g, off, cs, e, h1, hg, hk.below hb hk.lt, hcell⟩⟩
theorem RowR.chg {w w' : World} {B U B' U' : Nat} {A : Option Addr} {n c : Nat} {xs : LR} (h : RowR w B U A n c xs) (hc : Sets.Chg B' U' w w') (hd : U ≤ B' ∨ U' ≤ B) : RowR w' B U A n c xs :=
  ⟨h.1, h.2.1, Nat.le_trans h.2.2.1 hc.size, h.2.2.2.1, fun hn => by
    obtain ⟨g, off, cs, e, h1, hg, hk, hcell⟩ := h.2.2.2.2 hn
    exact ⟨g, off, cs, e, h1, hg, (hc.block g hk.lt (by omega)).trans hk, hcell⟩⟩

theorem info_reign : (Tryz.prog.info? 79).map (fun i => (i.zero, i.size, i.bytes)) = some (some (.agg #[.string ⟨#[]⟩, .int .i64 0, .int .i64 0]), 3, 32) := by kernel_rfl
theorem run_make_reigns (n : Nat) (hn : n ≤ 2000000) (w : World) :
    (Instr.makeSlice 37 (.int .i64 (n : Int)) (.int .i64 (n : Int))).run Tryz.prog w = .ok (.slice (some ⟨w.heap.size, 0, none⟩) n n) (w.alloc (.cells (madeCells #[.string ⟨#[]⟩, .int .i64 0, .int .i64 0] (n * 3)) 79)) := by
  obtain ⟨i, hi, hz, h1, h2⟩ := info_parts info_reign
  have h := run_make (P := Tryz.prog) w 37 79 i _ Tryz.underlying37 hi hz .i64 .i64 n n (by omega) (by omega) (by rw [h2]; omega) (by omega)
  rw [h1] at h
  simpa [Value.cells] using h
/-- A row that the call fills: its first k reigns are those of xs. -/
def FillR (w : World) (g k n : Nat) (xs : LR) : Prop :=
  ∃ cs : Array Value, cs.size = n * 3 ∧ Blk w g 79 cs ∧ ∀ j (h : j < xs.length), j < k → cs[j * 3]? = some (.string xs[j].1) ∧ cs[j * 3 + 1]? = some (.int .i64 xs[j].2.1) ∧ cs[j * 3 + 2]? = some (.int .i64 xs[j].2.2)
theorem FillR.row {w : World} {B g n c : Nat} {xs : LR} (h : FillR w g xs.length n xs) (hs : ∀ k (h : k < xs.length), xs[k].1.size ≤ maxLen) (hn : xs.length ≤ c) (hB : B ≤ g) : RowR w B w.heap.size (some ⟨g, 0, none⟩) xs.length c xs :=
  ⟨rfl, hn, Nat.le_refl _, hs, fun _ => by
    obtain ⟨cs, hs, hb, hc⟩ := h
    refine ⟨g, 0, cs, rfl, hB, hb.lt, hb, fun k hk => ?_⟩
    simpa using hc k hk hk⟩
theorem FillR.step {w : World} {g k n : Nat} {xs : LR} (h : FillR w g k n xs) (hk : k < xs.length) (hn : k < n) :
    FillR (((w.setCell ⟨g, k * 3, none⟩ (.string xs[k].1)).setCell ⟨g, k * 3 + 1, none⟩ (.int .i64 xs[k].2.1)).setCell ⟨g, k * 3 + 2, none⟩ (.int .i64 xs[k].2.2)) g (k + 1) n xs := by
  obtain ⟨cs, hs, hb, hc⟩ := h
  refine ⟨_, ?_, ((hb.set_ (k * 3) _).set_ (k * 3 + 1) _).set_ (k * 3 + 2) _, fun j hj hjk => ?_⟩
  · simpa using hs
  · by_cases e : j = k
    · subst e
      refine ⟨?_, ?_, ?_⟩
      · rw [Array.getElem?_setIfInBounds_ne (by omega), Array.getElem?_setIfInBounds_ne (by omega), Array.getElem?_setIfInBounds_self_of_lt (by omega)]
      · rw [Array.getElem?_setIfInBounds_ne (by omega), Array.getElem?_setIfInBounds_self_of_lt (by simp; omega)]
      · rw [Array.getElem?_setIfInBounds_self_of_lt (by simp; omega)]
    · have z := hc j hj (by omega)
      refine ⟨?_, ?_, ?_⟩
      · rw [Array.getElem?_setIfInBounds_ne (by omega), Array.getElem?_setIfInBounds_ne (by omega), Array.getElem?_setIfInBounds_ne (by omega)]; exact z.1
      · rw [Array.getElem?_setIfInBounds_ne (by omega), Array.getElem?_setIfInBounds_ne (by omega), Array.getElem?_setIfInBounds_ne (by omega)]; exact z.2.1
      · rw [Array.getElem?_setIfInBounds_ne (by omega), Array.getElem?_setIfInBounds_ne (by omega), Array.getElem?_setIfInBounds_ne (by omega)]; exact z.2.2
theorem FillR.cells {w : World} {g k n : Nat} {xs : LR} (h : FillR w g k n xs) {j : Nat} (hj : j < n) :
    (∃ u, w.cell? ⟨g, j * 3, none⟩ = some u) ∧ (∃ u, w.cell? ⟨g, j * 3 + 1, none⟩ = some u) ∧ (∃ u, w.cell? ⟨g, j * 3 + 2, none⟩ = some u) ∧ w.frozen? ⟨g, j * 3, none⟩ = false ∧ w.frozen? ⟨g, j * 3 + 1, none⟩ = false ∧ w.frozen? ⟨g, j * 3 + 2, none⟩ = false := by
  obtain ⟨cs, hs, hb, hc⟩ := h
  exact ⟨⟨_, (hb.cell _).trans (Array.getElem?_eq_getElem (by omega))⟩, ⟨_, (hb.cell _).trans (Array.getElem?_eq_getElem (by omega))⟩, ⟨_, (hb.cell _).trans (Array.getElem?_eq_getElem (by omega))⟩, hb.frozen _, hb.frozen _, hb.frozen _⟩
theorem FillR.below {w w' : World} {g k n : Nat} {xs : LR} (h : FillR w g k n xs) (hb : Below w.heap.size w w') : FillR w' g k n xs := by
  obtain ⟨cs, hs, hk, hc⟩ := h
  exact ⟨cs, hs, hk.below hb hk.lt, hc⟩

end Go.Proofs.YtfhcakpmlppbkaaGreatDoor.Rei
