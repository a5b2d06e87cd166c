/- Texts of a claim in one file: ReiD ReiE. -/
import Derived.Test.YtfhcakpmlppbkaaGreatDoorGrpAs
import Derived.Test.YtfhcakpmlppbkaaGreatDoorGrpAp
import Derived.Test.YtfhcakpmlppbkaaGreatDoorGrpAo
import Derived.Test.YtfhcakpmlppbkaaGreatDoorGrpAn
import Derived.Lib.SlicesS
namespace Go.Proofs.YtfhcakpmlppbkaaGreatDoor.Rei
open Go.RowKit
open Go.Proofs.YtfhcakpmlppbkaaGreatDoor.Ints (Own append_int)
open Go.Proofs.YtfhcakpmlppbkaaGreatDoor.Fea (isDay spec_day_yes spec_day_no)

/-- The indices below k of the reigns that a day is in. -/
def ons (xs : LR) (n : Int) : Nat → List Int
  | 0 => []
  | k + 1 => ons xs n k ++ (if h : k < xs.length then (if xs[k].2.1 ≤ n ∧ n ≤ xs[k].2.2 then [(k : Int)] else []) else [])
theorem ons_yes {xs : LR} {n : Int} {k : Nat} (h : k < xs.length) (hin : xs[k].2.1 ≤ n ∧ n ≤ xs[k].2.2) : ons xs n k ++ [(k : Int)] = ons xs n (k + 1) := by rw [ons, dif_pos h, if_pos hin]
theorem ons_no {xs : LR} {n : Int} {k : Nat} (h : k < xs.length) (hin : ¬ (xs[k].2.1 ≤ n ∧ n ≤ xs[k].2.2)) : ons xs n k = ons xs n (k + 1) := by rw [ons, dif_pos h, if_neg hin, List.append_nil]
theorem ons_len (xs : LR) (n : Int) (k : Nat) : (ons xs n k).length ≤ k := by
  induction k with
  | zero => simp [ons]
  | succ k ih =>
    rw [ons]
    split
    · split <;> simp <;> omega
    · simp; omega

def OnL (xs : LR) (n : Int) (N : Nat) (w0 : World) (m : Nat) (v i : Value) (wr : World) : Prop :=
  ∃ (k : Nat) (acc : List Int), i = .int .i64 k ∧ m = N - k ∧ k ≤ N ∧ Hid (acc = ons xs n k) ∧ acc.length ≤ k ∧ Own wr w0.heap.size v acc ∧ Below w0.heap.size w0 wr

set_option maxRecDepth 100000 in
set_option maxHeartbeats 4000000 in
theorem spec_on7 (A : Option Addr) (N c : Nat) (xs : LR) (hn : N ≤ 1000) (n : Int) (w : World) (h : RdR w A N xs) :
    Calls Tryz.prog 66 #[.slice A N c, .int .i64 n] w fun e w' => ∃ v, e = .returned v ∧ Own w' w.heap.size v (ons xs n N) ∧ Below w.heap.size w w' := by
  have own0 := Own.made0 w
  have hb0 : Below w.heap.size w (w.alloc (.cells #[] 2)) := (Below.refl _ _).alloc (Nat.le_refl _) _
  go_enter Tryz.func66, Tryz.ntmps66
  go_wp2_with fail
  go_loopg [5, 6] N (fun m v i wr => OnL xs n N w m v i wr)
  case atStart => exact ⟨0, [], rfl, by omega, by omega, Lib.hid rfl, by simp, own0, hb0⟩
  case round =>
    clear own0 hb0
    obtain ⟨k, acc, rfl, hm, hk, HA, hl, hown, hb⟩ := hrel
    subst hm
    by_cases hlt : k < N
    · obtain ⟨g, off, hx, rfl, -, hg, c0, c1, c2⟩ := (h.below hb).at_ hlt
      by_cases hin : xs[k].2.1 ≤ n ∧ n ≤ xs[k].2.2
      · have I := Lib.hid (Eas.spec_in_yes n xs[k].2.1 xs[k].2.2 hin)
        have HN := Lib.hid (HA.out ▸ ons_yes hx hin : acc ++ [(k : Int)] = ons xs n (k + 1))
        clear HA hin
        go_wp2_with fail
        go_quiet ((go_at_call 90; exact Calls.quiet_of_same ((I.out _).mono fun _ _ ⟨a, b⟩ => ⟨a, b.symm⟩)))
        go_wp2_with (at_builtin; refine append_int (below_drewN hb _) (hown.below (below_drewN (Below.refl _ _) _)) (by omega) rfl (.tmp 26) (.tmp 28) rfl rfl rfl ?_)
        intro v6 w6 own6 hb7
        clear hown hb
        go_wp2_with fail
        go_roundg (N - (k + 1))
        case measure => omega
        case rel => exact ⟨k + 1, _, by go_num, by omega, by omega, HN, by simp; omega, own6, hb7⟩
      · have I := Lib.hid (Eas.spec_in_no n xs[k].2.1 xs[k].2.2 hin)
        have HN := Lib.hid (HA.out.trans (ons_no hx hin))
        clear HA hin
        go_wp2_with fail
        go_quiet ((go_at_call 90; exact Calls.quiet_of_same ((I.out _).mono fun _ _ ⟨a, b⟩ => ⟨a, b.symm⟩)))
        go_wp2_with fail
        go_roundg (N - (k + 1))
        case measure => omega
        case rel => exact ⟨k + 1, _, by go_num, by omega, by omega, HN, by omega, hown.below (below_drewN (Below.refl _ _) _), below_drewN hb _⟩
    · have HV : acc = ons xs n N := by
        have e : k = N := by omega
        have h := HA.out
        rwa [e] at h
      subst HV
      have hge : (N : Int) ≤ k := by omega
      clear HA
      go_wp2_with fail
      go_ret
      exact ⟨_, rfl, hown, hb⟩

/-- What ReignsOn answers. -/
noncomputable def roL (xs : LR) (n : Int) : List Int := if arOk xs ∧ isDay n then ons xs n xs.length else []
noncomputable def roE (xs : LR) (n : Int) : Int := if ¬ arOk xs then 1 else if isDay n then 0 else 2

set_option maxHeartbeats 1000000 in
theorem spec_ReignsOn (A : Option Addr) (N c : Nat) (xs : LR) (hn : N ≤ maxLen) (n : Int) (w : World) (h : RdR w A N xs) :
    Calls Tryz.prog 24 #[.slice A N c, .int .i64 n] w (Fea.IntsOut (roL xs n) (roE xs n) w) := by
  have C := Lib.hid (spec_AreReigns A N c xs hn w h)
  have hlen := h.1
  by_cases ha : arOk xs
  · rw [decide_eq_true ha] at C
    by_cases hd : isDay n
    · have D := Lib.hid (spec_day_yes n hd)
      have O := Lib.hid (fun w' k => spec_on7 A N c xs (by have := ha.2.2; omega) n w' k)
      rw [show roL xs n = ons xs n N from (if_pos ⟨ha, hd⟩).trans (by rw [hlen]), show roE xs n = 0 from (if_neg (fun k => k ha)).trans (if_pos hd)]
      have H := Lib.hid h
      clear ha hd h hlen
      go_enter Tryz.func24, Tryz.ntmps24
      go_wp2_with fail
      refine C.out.mono ?_
      rintro e w1 ⟨rfl, hb⟩
      go_wp2_with fail
      refine (D.out _).mono ?_
      rintro e w2 ⟨rfl, rfl⟩
      go_wp2_with fail
      refine (O.out _ (H.out.below hb)).mono ?_
      rintro e w3 ⟨v, rfl, own, hb3⟩
      go_wp2_with fail
      go_ret2
      exact Fea.IntsOut.of (own.mono hb.size) (hb.trans (hb3.mono hb.size))
    · have D := Lib.hid (spec_day_no n hd)
      rw [show roL xs n = [] from if_neg (fun k => hd k.2), show roE xs n = 2 from (if_neg (fun k => k ha)).trans (if_neg hd)]
      clear ha hd h hlen
      go_enter Tryz.func24, Tryz.ntmps24
      go_wp2_with fail
      refine C.out.mono ?_
      rintro e w1 ⟨rfl, hb⟩
      go_wp2_with fail
      refine (D.out _).mono ?_
      rintro e w2 ⟨rfl, rfl⟩
      go_wp2_with fail
      go_ret2
      exact Fea.IntsOut.empty hb
  · rw [decide_eq_false ha] at C
    rw [show roL xs n = [] from if_neg (fun k => ha k.1), show roE xs n = 1 from if_pos ha]
    clear ha h hlen
    go_enter Tryz.func24, Tryz.ntmps24
    go_wp2_with fail
    refine C.out.mono ?_
    rintro e w1 ⟨rfl, hb⟩
    go_wp2_with fail
    go_ret2
    exact Fea.IntsOut.empty hb

end Go.Proofs.YtfhcakpmlppbkaaGreatDoor.Rei

namespace Go.Proofs.YtfhcakpmlppbkaaGreatDoor.Rei
open Go.RowKit
open Go.Proofs.YtfhcakpmlppbkaaGreatDoor.Sets (Own append_spanG spec_makeO SpansO ok make SetOut)
open Go.Proofs.YtfhcakpmlppbkaaGreatDoor.Fea (isDay yr yr_isY)

/-- The span of a year of a king, if the reign has it. -/
def kg (r : ByteArray × Int × Int) (king : ByteArray) (k : Int) : Sets.L := if r.1 = king ∧ k ≤ 2000 ∧ rb r.2.1 k ≤ r.2.2 then [(rb r.2.1 k, min r.2.2 (rb r.2.1 (k + 1) - 1))] else []
/-- The spans of a year of a king in the reigns below j. -/
def kgs (xs : LR) (king : ByteArray) (k : Int) : Nat → Sets.L
  | 0 => []
  | j + 1 => kgs xs king k j ++ (if h : j < xs.length then kg xs[j] king k else [])
theorem kgs_yes {xs : LR} {king : ByteArray} {k : Int} {j : Nat} (h : j < xs.length) (hk : xs[j].1 = king) (hin : k ≤ 2000 ∧ rb xs[j].2.1 k ≤ xs[j].2.2) :
    kgs xs king k j ++ [(rb xs[j].2.1 k, min xs[j].2.2 (rb xs[j].2.1 (k + 1) - 1))] = kgs xs king k (j + 1) := by rw [kgs, dif_pos h, kg, if_pos ⟨hk, hin⟩]
theorem kgs_no {xs : LR} {king : ByteArray} {k : Int} {j : Nat} (h : j < xs.length) (hin : ¬ (xs[j].1 = king ∧ k ≤ 2000 ∧ rb xs[j].2.1 k ≤ xs[j].2.2)) :
    kgs xs king k j = kgs xs king k (j + 1) := by rw [kgs, dif_pos h, kg, if_neg hin, List.append_nil]
theorem kgs_ok {xs : LR} {king : ByteArray} {k : Int} (hk : 1 ≤ k) (hx : ∀ j (h : j < xs.length), rOk xs[j].1 xs[j].2.1 xs[j].2.2) (N : Nat) : ∀ s ∈ kgs xs king k N, ok s := by
  induction N with
  | zero => intro s hs; simp [kgs] at hs
  | succ j ih =>
    intro s hs
    rw [kgs] at hs
    rcases List.mem_append.1 hs with h | h
    · exact ih s h
    · split at h
      case isTrue hl =>
        unfold kg at h
        split at h
        case isTrue hc =>
          obtain ⟨-, ⟨f0, f1⟩, ⟨t0, t1⟩, -⟩ := hx j hl
          have g := rb_gap xs[j].2.1 k
          have g1 := (rb_in xs[j].2.1 k).1
          have g2 := (yr_isY xs[j].2.1 f0 f1).1
          have g3 := Cal.ys_mono false 1 (yr xs[j].2.1 + k - 1) (by omega)
          rw [Cal.ys_1] at g3
          simp only [List.mem_singleton] at h
          subst h
          unfold ok
          simp only
          omega
        case isFalse hc => cases h
      case isFalse hl => cases h

def KgL (xs : LR) (king : ByteArray) (k : Int) (N : Nat) (w0 : World) (m : Nat) (v i : Value) (wr : World) : Prop :=
  ∃ (j : Nat) (acc : Sets.L), i = .int .i64 j ∧ m = N - j ∧ j ≤ N ∧ Hid (acc = kgs xs king k j) ∧ acc.length ≤ j ∧ Own wr w0.heap.size v acc ∧ Below w0.heap.size w0 wr

set_option maxRecDepth 100000 in
set_option maxHeartbeats 4000000 in
theorem spec_king7 (A : Option Addr) (N c : Nat) (xs : LR) (hn : N ≤ 30) (king : ByteArray) (k : Int) (hk : 1 ≤ k) (hx : Hid (∀ j (h : j < xs.length), rOk xs[j].1 xs[j].2.1 xs[j].2.2)) (w : World) (h : RdR w A N xs) :
    Calls Tryz.prog 74 #[.slice A N c, .string king, .int .i64 k] w (SpansO (make (kgs xs king k N)) w) := by
  have own0 := Own.made0 w
  have hb0 : Below w.heap.size w (w.alloc (.cells #[] 36)) := (Below.refl _ _).alloc (Nat.le_refl _) _
  go_enter Tryz.func74, Tryz.ntmps74
  go_wp2_with fail
  go_loopg [7, 8] N (fun m v i wr => KgL xs king k N w m v i wr)
  case atStart => exact ⟨0, [], rfl, by omega, by omega, Lib.hid rfl, by simp, own0, hb0⟩
  case round =>
    clear own0 hb0
    obtain ⟨j, acc, rfl, hm, hj, HA, hl, hown, hb⟩ := hrel
    subst hm
    by_cases hlt : j < N
    · obtain ⟨g, off, hy, rfl, -, hg, c0, c1, c2⟩ := (h.below hb).at_ hlt
      obtain ⟨-, ⟨f0, f1⟩, ⟨t0, t1⟩, -⟩ := hx.out j hy
      by_cases hin : k ≤ 2000 ∧ rb xs[j].2.1 k ≤ xs[j].2.2
      · have P := Lib.hid (spec_span_yes xs[j].1 xs[j].2.1 xs[j].2.2 k f0 f1 t1 hk hin)
        by_cases he : xs[j].1 = king
        · have HN := Lib.hid (HA.out ▸ kgs_yes hy he hin)
          rw [he] at P c0
          clear HA hin f0 f1 t0 t1 he
          generalize rb xs[j].2.1 k = a at P HN
          generalize min xs[j].2.2 (rb xs[j].2.1 (k + 1) - 1) = b at P HN
          go_wp2_with fail
          refine (P.out _).mono ?_
          rintro e w2 ⟨rfl, hb2⟩
          have hg2 := Nat.lt_of_lt_of_le hg hb2.size
          have hb2' := hb2.alloc hb2.size (.cells #[.int .i64 a, .int .i64 b] 36)
          have own2 := hown.below hb2'
          have hb3 := hb.trans (hb2'.mono hb.size)
          have d0 := (hb2'.cell (p := ⟨g, off + j * 3, none⟩) hg).trans c0
          clear c0 c1 c2 hown hb hb2 hb2' P hg
          go_wp2_with (at_builtin; refine append_spanG (g := w2.heap.size + 1) (by simp) hb3 own2 (by omega) rfl (.tmp 37) (.tmp 39) rfl rfl rfl ?_)
          intro v6 w6 own6 hb7 _
          clear own2 hb3 d0
          go_wp2_with fail
          go_roundg (N - (j + 1))
          case measure => omega
          case rel => exact ⟨j + 1, _, by go_num, by omega, by omega, HN, by simp; omega, own6, hb7⟩
        · have he' : (xs[j].1.toList == king.toList) = false := (Go.Lib.bytes_beq_false_iff _ _).2 he
          have HN := Lib.hid (HA.out ▸ kgs_no hy (fun q => he q.1))
          clear HA hin f0 f1 t0 t1 he
          generalize rb xs[j].2.1 k = a at P
          generalize min xs[j].2.2 (rb xs[j].2.1 (k + 1) - 1) = b at P
          go_wp2_with fail
          refine (P.out _).mono ?_
          rintro e w2 ⟨rfl, hb2⟩
          have hg2 := Nat.lt_of_lt_of_le hg hb2.size
          have hb2' := hb2.alloc hb2.size (.cells #[.int .i64 a, .int .i64 b] 36)
          have own2 := hown.below hb2'
          have hb3 := hb.trans (hb2'.mono hb.size)
          have d0 := (hb2'.cell (p := ⟨g, off + j * 3, none⟩) hg).trans c0
          clear c0 c1 c2 hown hb hb2 hb2' P hg
          go_wp2_with fail
          go_roundg (N - (j + 1))
          case measure => omega
          case rel => exact ⟨j + 1, _, by go_num, by omega, by omega, HN, by omega, own2, hb3⟩
      · have P := Lib.hid (spec_span_no xs[j].1 xs[j].2.1 xs[j].2.2 k f0 f1 hk hin)
        have HN := Lib.hid (HA.out ▸ kgs_no hy (king := king) (fun q => hin q.2))
        rcases Bool.eq_false_or_eq_true (xs[j].1.toList == king.toList) with he | he
        all_goals
          clear HA hin f0 f1 t0 t1
          go_wp2_with fail
          refine (P.out _).mono ?_
          rintro e w2 ⟨rfl, hb2⟩
          have hg2 := Nat.lt_of_lt_of_le hg hb2.size
          have hb2' := hb2.alloc hb2.size (.cells #[.int .i64 0, .int .i64 0] 36)
          have own2 := hown.below hb2'
          have hb3 := hb.trans (hb2'.mono hb.size)
          have d0 := (hb2'.cell (p := ⟨g, off + j * 3, none⟩) hg).trans c0
          clear c0 c1 c2 hown hb hb2 hb2' P hg
          go_wp2_with fail
          go_roundg (N - (j + 1))
          case measure => omega
          case rel => exact ⟨j + 1, _, by go_num, by omega, by omega, HN, by omega, own2, hb3⟩
    · have HV : acc = kgs xs king k N := by
        have e : j = N := by omega
        have h := HA.out
        rwa [e] at h
      subst HV
      have hge : (N : Int) ≤ j := by omega
      have hok := Lib.hid (kgs_ok hk hx.out N (king := king))
      have hlN : (kgs xs king k N).length ≤ 2000 := by omega
      clear HA
      obtain ⟨A2, c2, rfl, row2⟩ := hown.form
      have MK := Lib.hid (fun wr (q : Sets.Rd wr A2 (kgs xs king k N).length (kgs xs king k N)) => spec_makeO A2 _ c2 _ hlN hok wr q)
      go_wp2_with fail
      refine (MK.out _ row2.rd).mono ?_
      rintro e w2 ⟨v, rfl, own3, hb3⟩
      have hb4 := hb.trans (hb3.mono hb.size)
      have own4 := own3.mono hb.size
      go_wp2_with fail
      go_ret
      exact ⟨_, rfl, own4, hb4⟩

/-- What KingYearSet answers. -/
noncomputable def kyL (xs : LR) (king : ByteArray) (k : Int) : Sets.L := if arOk xs ∧ 1 ≤ k then make (kgs xs king k xs.length) else []
noncomputable def kyE (xs : LR) (king : ByteArray) (k : Int) : Int := if ¬ arOk xs then 1 else if k < 1 then 2 else if make (kgs xs king k xs.length) = [] then 4 else 0

set_option maxHeartbeats 1000000 in
theorem spec_KingYearSet (A : Option Addr) (N c : Nat) (xs : LR) (hn : N ≤ maxLen) (king : ByteArray) (k : Int) (w : World) (h : RdR w A N xs) :
    Calls Tryz.prog 29 #[.slice A N c, .string king, .int .i64 k] w (SetOut (kyL xs king k) (kyE xs king k) w) := by
  have C := Lib.hid (spec_AreReigns A N c xs hn w h)
  have hlen := h.1
  by_cases ha : arOk xs
  · rw [decide_eq_true ha] at C
    by_cases hk : 1 ≤ k
    · have hN : N ≤ 30 := by have := ha.2.2; omega
      have O := Lib.hid (fun w' q => spec_king7 A N c xs hN king k hk (Lib.hid ha.1) w' q)
      have e1 : kyL xs king k = make (kgs xs king k N) := (if_pos ⟨ha, hk⟩).trans (by rw [hlen])
      have e2 : kyE xs king k = if make (kgs xs king k N) = [] then 4 else 0 := (if_neg (fun j => j ha)).trans ((if_neg (by omega)).trans (by rw [hlen]))
      have H := Lib.hid h
      have hk' : ¬ k < 1 := by omega
      clear ha h hlen hN hk
      generalize make (kgs xs king k N) = V at O e1 e2
      rw [e1, e2]
      clear e1 e2
      by_cases hV : V = []
      · rw [if_pos hV]
        subst hV
        go_enter Tryz.func29, Tryz.ntmps29
        go_wp2_with fail
        refine C.out.mono ?_
        rintro e w1 ⟨rfl, hb⟩
        go_wp2_with fail
        refine (O.out _ (H.out.below hb)).mono ?_
        rintro e w3 ⟨v, rfl, own, hb3⟩
        have hb4 := hb.trans (hb3.mono hb.size)
        obtain ⟨A2, c2, rfl, row⟩ := (own.mono hb.size).form
        clear O C H own hb3 hb
        go_wp2_with fail
        go_ret2
        exact ⟨none, 0, rfl, Sets.Row.nil (Nat.le_refl _), hb4⟩
      · rw [if_neg hV]
        have hl : ¬ V.length = 0 := fun e => hV (List.eq_nil_of_length_eq_zero e)
        have hl2 : ((V.length : Int) == 0) = false := by simpa using hV
        clear hV
        go_enter Tryz.func29, Tryz.ntmps29
        go_wp2_with fail
        refine C.out.mono ?_
        rintro e w1 ⟨rfl, hb⟩
        go_wp2_with fail
        refine (O.out _ (H.out.below hb)).mono ?_
        rintro e w3 ⟨v, rfl, own, hb3⟩
        have hb4 := hb.trans (hb3.mono hb.size)
        obtain ⟨A2, c2, rfl, row⟩ := (own.mono hb.size).form
        clear O C H own hb3 hb
        go_wp2_with fail
        go_ret2
        exact ⟨A2, c2, rfl, row, hb4⟩
    · have hk' : k < 1 := by omega
      rw [show kyL xs king k = [] from if_neg (fun j => hk j.2), show kyE xs king k = 2 from (if_neg (fun j => j ha)).trans (if_pos hk')]
      clear ha hk h hlen
      go_enter Tryz.func29, Tryz.ntmps29
      go_wp2_with fail
      refine C.out.mono ?_
      rintro e w1 ⟨rfl, hb⟩
      go_wp2_with fail
      go_ret2
      exact ⟨none, 0, rfl, Sets.Row.nil (Nat.le_refl _), hb⟩
  · rw [decide_eq_false ha] at C
    rw [show kyL xs king k = [] from if_neg (fun j => ha j.1), show kyE xs king k = 1 from if_pos ha]
    clear ha h hlen
    go_enter Tryz.func29, Tryz.ntmps29
    go_wp2_with fail
    refine C.out.mono ?_
    rintro e w1 ⟨rfl, hb⟩
    go_wp2_with fail
    go_ret2
    exact ⟨none, 0, rfl, Sets.Row.nil (Nat.le_refl _), hb⟩

end Go.Proofs.YtfhcakpmlppbkaaGreatDoor.Rei
