/- Texts of a claim in one file: ReiIk ReiIg. -/
import Derived.Test.YtfhcakpmlppbkaaGreatDoorGrpBd
import Derived.Test.YtfhcakpmlppbkaaGreatDoorGrpBa
import Derived.Test.YtfhcakpmlppbkaaGreatDoorGrpAt
import Derived.Test.YtfhcakpmlppbkaaGreatDoorGrpAz
namespace Go.Proofs.YtfhcakpmlppbkaaGreatDoor.Rei
open Go.RowKit
open Go.Proofs.YtfhcakpmlppbkaaGreatDoor.Sets (ok make SetOut impl_join below_on)
open Go.Proofs.YtfhcakpmlppbkaaGreatDoor.Fea (isDay)

theorem make_none {xs : Sets.L} (h : ∀ s ∈ xs, ok s) : make xs = [] ↔ xs = [] := by
  constructor
  · intro e
    cases xs with
    | nil => rfl
    | cons s r =>
      exfalso
      obtain ⟨a, b, c⟩ := h s (List.mem_cons_self ..)
      obtain ⟨q, hq, -⟩ := (Sets.make_has h s.1).2 ⟨s, List.mem_cons_self .., Int.le_refl _, b⟩
      rw [e] at hq
      cases hq
  · rintro rfl
    rfl

set_option maxRecDepth 100000 in
set_option maxHeartbeats 4000000 in
theorem impl_KingYearSet_yes (A : Option Addr) (N c : Nat) (xs : LR) (ha : arOk xs) (king : ByteArray) (k : Int) (k1 : 1 ≤ k) (k9 : k ≤ 9223372036854775807) (w : World) (h : RdR w A N xs) :
    Calls Tryz.prog 28 #[.slice A N c, .string king, .int .i64 k] w (SetOut (make (kgs xs king k N)) (if make (kgs xs king k N) = [] then 4 else 0) w) := by
  obtain ⟨E, hE⟩ : ∃ E : Int, (if make (kgs xs king k N) = [] then 4 else 0) = E := ⟨_, rfl⟩
  rw [hE]
  have HE := Lib.hid hE
  clear hE
  have hlen := h.1
  have hN : N ≤ 30 := by have := ha.2.2; omega
  have C := Lib.hid (impl_AreReigns A N c xs (by unfold maxLen; omega) w h)
  rw [decide_eq_true ha] at C
  have H := Lib.hid h
  have HX := Lib.hid ha.1
  have HOK := Lib.hid (kgs_ok k1 ha.1 N (king := king))
  have hk' : decide (k < 1) = false := by simp; omega
  clear ha h hlen
  go_enter Tryz.func28, Tryz.ntmps28
  go_wp2_with fail
  refine C.out.mono ?_
  rintro e w1 ⟨rfl, hb1⟩
  have H1 := Lib.hid (H.out.below hb1)
  clear C
  go_wp2_with fail
  go_loopg [8, 20] N (fun m v i wr => KgL xs king k N w1 m v i wr)
  case atStart => exact ⟨0, [], rfl, by omega, by omega, Lib.hid rfl, by simp, Sets.Own.nil w1 w1.heap.size, Below.refl _ _⟩
  case round =>
    obtain ⟨j, acc, rfl, hm, hj, HA, hl, hown, hb⟩ := hrel
    subst hm
    by_cases hlt : j < N
    · obtain ⟨g, off, hy, rfl, -, hg, c0, c1, c2⟩ := (H1.out.below hb).at_ hlt
      obtain ⟨-, ⟨f0, f1⟩, ⟨t0, t1⟩, ft⟩ := HX.out j hy
      have ho3 := hown.below ((Below.refl _ _).alloc (Nat.le_refl _) (.cells #[.string xs[j].1, .int .i64 xs[j].2.1, .int .i64 xs[j].2.2] 79))
      have hb3 := hb.alloc hb.size (.cells #[.string xs[j].1, .int .i64 xs[j].2.1, .int .i64 xs[j].2.2] 79)
      by_cases he : xs[j].1 = king
      · have he' : (xs[j].1.toList == king.toList) = true := by rw [he]; simp
        have he2 : (xs[j].1.toList != king.toList) = false := by rw [he]; simp
        by_cases hin : k ≤ ry xs[j].2.1 xs[j].2.2
        · have P := Lib.hid (impl_yearSpan xs[j].1 xs[j].2.1 xs[j].2.2 k f0 ft t1 k1 k9 _ _ true (decide_eq_true hin) (if_pos hin) (if_pos hin))
          have HN := Lib.hid (HA.out ▸ kgs_yes hy he ((sp_iff f0 ft t1).2 hin))
          clear HA hin f0 f1 t0 t1 he ft
          generalize rb xs[j].2.1 k = a at P HN
          generalize min xs[j].2.2 (rb xs[j].2.1 (k + 1) - 1) = b at P HN
          go_wp2_with fail
          refine (P.out _).mono ?_
          rintro e w2 ⟨rfl, hb2⟩
          have hb4 := below_on hb3 hb2
          have own4 := ho3.below hb2
          have own5 := own4.below ((Below.refl _ _).alloc (Nat.le_refl _) (.cells #[.int .i64 a, .int .i64 b] 36))
          have hb5 := hb4.alloc hb4.size (.cells #[.int .i64 a, .int .i64 b] 36)
          clear c0 c1 c2 hown hb hb2 P hg ho3 hb3 own4 hb4
          go_wp2_with (at_builtin; refine Sets.append_spanG (g := w2.heap.size + 1) (by simp) hb5 own5 (by omega) rfl (.tmp 35) (.tmp 37) rfl rfl rfl ?_)
          intro v6 w6 own6 hb7 _
          clear own5 hb5
          go_wp2_with fail
          go_roundg (N - (j + 1))
          case measure => omega
          case rel => exact ⟨j + 1, _, by go_num, by omega, by omega, HN, by simp; omega, own6, hb7⟩
        · have P := Lib.hid (impl_yearSpan xs[j].1 xs[j].2.1 xs[j].2.2 k f0 ft t1 k1 k9 _ _ false (decide_eq_false hin) (if_neg hin) (if_neg hin))
          have HN := Lib.hid (HA.out ▸ kgs_no hy (king := king) (fun q => hin ((sp_iff f0 ft t1).1 q.2)))
          clear HA hin f0 f1 t0 t1 he ft
          go_wp2_with fail
          refine (P.out _).mono ?_
          rintro e w2 ⟨rfl, hb2⟩
          have hb4 := below_on hb3 hb2
          have own4 := ho3.below hb2
          have own5 := own4.below ((Below.refl _ _).alloc (Nat.le_refl _) (.cells #[.int .i64 0, .int .i64 0] 36))
          have hb5 := hb4.alloc hb4.size (.cells #[.int .i64 0, .int .i64 0] 36)
          clear c0 c1 c2 hown hb hb2 P hg ho3 hb3 own4 hb4
          go_wp2_with fail
          go_roundg (N - (j + 1))
          case measure => omega
          case rel => exact ⟨j + 1, _, by go_num, by omega, by omega, HN, by omega, own5, hb5⟩
      · have he' : (xs[j].1.toList == king.toList) = false := (Go.Lib.bytes_beq_false_iff _ _).2 he
        have he2 : (xs[j].1.toList != king.toList) = true := by rw [bne, he']; rfl
        have HN := Lib.hid (HA.out ▸ kgs_no hy (fun q => he q.1) (k := k))
        clear HA f0 f1 t0 t1 he ft
        go_wp2_with fail
        go_roundg (N - (j + 1))
        case measure => omega
        case rel => exact ⟨j + 1, _, by go_num, by omega, by omega, HN, by omega, ho3, hb3⟩
    · have HV : acc = kgs xs king k N := by
        have e : j = N := by omega
        have h := HA.out
        rwa [e] at h
      subst HV
      have hge : (N : Int) ≤ j := by omega
      have hlN : (kgs xs king k N).length + 0 ≤ 2000 := by omega
      have HM := Lib.hid (make_none HOK.out)
      have HOK2 : Hid (∀ s ∈ kgs xs king k N ++ [], ok s) := Lib.hid (by rw [List.append_nil]; exact HOK.out)
      clear HA HOK
      obtain ⟨A2, c2, rfl, row2⟩ := hown.form
      by_cases hz : (kgs xs king k N) = []
      · have ez : make (kgs xs king k N) = [] := HM.out.2 hz
        have hd : (((kgs xs king k N).length : Int) == 0) = true := by rw [hz]; rfl
        have e4 : E = 4 := by rw [← HE.out, if_pos ez]
        subst e4
        have EZ := Lib.hid ez
        clear hz ez HM HOK2 HE
        go_wp2_with fail
        go_ret2
        rw [EZ.out]
        exact ⟨none, 0, rfl, Sets.Row.nil (Nat.le_refl _), hb1.trans (hb.mono hb1.size)⟩
      · have ez : ¬ make (kgs xs king k N) = [] := fun q => hz (HM.out.1 q)
        have hd : (((kgs xs king k N).length : Int) == 0) = false := by simpa using hz
        have e0 : E = 0 := by rw [← HE.out, if_neg ez]
        subst e0
        have J := Lib.hid (fun wr (q : Sets.Rd wr A2 (kgs xs king k N).length (kgs xs king k N)) => impl_join A2 none (kgs xs king k N).length 0 c2 0 _ [] hlN HOK2 wr q ⟨rfl, fun q => absurd q (Nat.lt_irrefl 0)⟩)
        simp only [List.append_nil] at J
        clear hz ez HM HOK2 HE
        generalize make (kgs xs king k N) = V at *
        go_wp2_with fail
        refine (J.out _ row2.rd).mono ?_
        rintro e w3 ⟨A3, c3, rfl, row3, hb3⟩
        have hb4 := hb1.trans ((hb.trans (hb3.mono hb.size)).mono hb1.size)
        have row4 := row3.mono (Nat.le_trans hb1.size hb.size) (Nat.le_refl _) (Nat.le_refl _)
        go_wp2_with fail
        go_ret2
        exact ⟨A3, c3, rfl, row4, hb4⟩

set_option maxHeartbeats 1000000 in
theorem impl_KingYearSet (A : Option Addr) (N c : Nat) (xs : LR) (hn : N ≤ maxLen) (king : ByteArray) (k : Int) (k9 : k ≤ 9223372036854775807) (w : World) (h : RdR w A N xs) :
    Calls Tryz.prog 28 #[.slice A N c, .string king, .int .i64 k] w (SetOut (kyL xs king k) (kyE xs king k) w) := by
  have C := Lib.hid (impl_AreReigns A N c xs hn w h)
  have hlen := h.1
  by_cases ha : arOk xs
  · by_cases hk : 1 ≤ k
    · rw [show kyL xs king k = make (kgs xs king k N) from (if_pos ⟨ha, hk⟩).trans (by rw [hlen]),
        show kyE xs king k = if make (kgs xs king k N) = [] then 4 else 0 from (if_neg (fun j => j ha)).trans ((if_neg (by omega)).trans (by rw [hlen]))]
      exact impl_KingYearSet_yes A N c xs ha king k hk k9 w h
    · rw [decide_eq_true ha] at C
      have hk' : k < 1 := by omega
      rw [show kyL xs king k = [] from if_neg (fun j => hk j.2), show kyE xs king k = 2 from (if_neg (fun j => j ha)).trans (if_pos hk')]
      clear ha hk h hlen
      go_enter Tryz.func28, Tryz.ntmps28
      go_wp2_with fail
      refine C.out.mono ?_
      rintro e w1 ⟨rfl, hb⟩
      go_wp2_with fail
      go_ret2
      exact ⟨none, 0, rfl, Sets.Row.nil (Nat.le_refl _), hb⟩
  · rw [decide_eq_false ha] at C
    rw [show kyL xs king k = [] from if_neg (fun j => ha j.1), show kyE xs king k = 1 from if_pos ha]
    clear ha h hlen
    go_enter Tryz.func28, Tryz.ntmps28
    go_wp2_with fail
    refine C.out.mono ?_
    rintro e w1 ⟨rfl, hb⟩
    go_wp2_with fail
    go_ret2
    exact ⟨none, 0, rfl, Sets.Row.nil (Nat.le_refl _), hb⟩

end Go.Proofs.YtfhcakpmlppbkaaGreatDoor.Rei

namespace Go.Proofs.YtfhcakpmlppbkaaGreatDoor.Rei
open Go.RowKit
open Go.Proofs.YtfhcakpmlppbkaaGreatDoor.Ints (append_int)
open Go.Proofs.YtfhcakpmlppbkaaGreatDoor.Sets (impl_spanHas below_on)
open Go.Proofs.YtfhcakpmlppbkaaGreatDoor.Fea (isDay)

def OnLi (xs : LR) (n : Int) (N : Nat) (w0 : World) (m : Nat) (v i : Value) (wr : World) : Prop :=
  ∃ (k : Nat) (acc : List Int), i = .int .i64 k ∧ m = N - k ∧ k ≤ N ∧ Hid (acc = ons xs n k) ∧ acc.length ≤ k ∧ Ints.Own wr w0.heap.size v acc ∧ Below w0.heap.size w0 wr

set_option maxRecDepth 100000 in
set_option maxHeartbeats 4000000 in
theorem impl_ReignsOn_yes (A : Option Addr) (N c : Nat) (xs : LR) (n : Int) (ha : arOk xs) (hd : isDay n) (w : World) (h : RdR w A N xs) :
    Calls Tryz.prog 23 #[.slice A N c, .int .i64 n] w (Fea.IntsOut (ons xs n N) 0 w) := by
  have hlen := h.1
  have hN : N ≤ 30 := by have := ha.2.2; omega
  have C := Lib.hid (impl_AreReigns A N c xs (by unfold maxLen; omega) w h)
  rw [decide_eq_true ha] at C
  have D := Lib.hid (impl_day_yes n hd)
  have H := Lib.hid h
  clear ha hd h hlen
  go_enter Tryz.func23, Tryz.ntmps23
  go_wp2_with fail
  refine C.out.mono ?_
  rintro e w1 ⟨rfl, hb1⟩
  go_wp2_with fail
  refine (D.out _).mono ?_
  rintro e w2 ⟨rfl, rfl⟩
  have H1 := Lib.hid (H.out.below hb1)
  clear C D
  go_wp2_with fail
  go_loopg [6, 17] N (fun m v i wr => OnLi xs n N w1 m v i wr)
  case atStart => exact ⟨0, [], rfl, by omega, by omega, Lib.hid rfl, by simp, Ints.Own.nil w1 w1.heap.size, Below.refl _ _⟩
  case round =>
    obtain ⟨k, acc, rfl, hm, hk, HA, hl, hown, hb⟩ := hrel
    subst hm
    by_cases hlt : k < N
    · obtain ⟨g, off, hx, rfl, -, hg, c0, c1, c2⟩ := (H1.out.below hb).at_ hlt
      have ho3 := hown.below ((Below.refl _ _).alloc (Nat.le_refl _) (.cells #[.string xs[k].1, .int .i64 xs[k].2.1, .int .i64 xs[k].2.2] 79))
      have hb3 := hb.alloc hb.size (.cells #[.string xs[k].1, .int .i64 xs[k].2.1, .int .i64 xs[k].2.2] 79)
      by_cases hin : xs[k].2.1 ≤ n ∧ n ≤ xs[k].2.2
      · have I := Lib.hid (impl_spanHas xs[k].2.1 xs[k].2.2 n true (decide_eq_true hin))
        have HN := Lib.hid (HA.out ▸ ons_yes hx hin : acc ++ [(k : Int)] = ons xs n (k + 1))
        clear HA hin
        go_wp2_with fail
        refine (impl_rspan xs[k].1 xs[k].2.1 xs[k].2.2 _).mono ?_
        rintro e w4 ⟨rfl, hb4⟩
        go_wp2_with fail
        refine (I.out _).mono ?_
        rintro e w5 ⟨rfl, hb5⟩
        have own5 := (ho3.below hb4).below hb5
        have hb6 := below_on (below_on hb3 hb4) hb5
        clear ho3 hb3 hb4 hb5 hown hb c0 c1 c2 I
        go_wp2_with (at_builtin; refine append_int hb6 own5 (by omega) rfl (.tmp 26) (.tmp 28) rfl rfl rfl ?_)
        intro v6 w6 own6 hb7
        clear own5 hb6
        go_wp2_with fail
        go_roundg (N - (k + 1))
        case measure => omega
        case rel => exact ⟨k + 1, _, by go_num, by omega, by omega, HN, by simp; omega, own6, hb7⟩
      · have I := Lib.hid (impl_spanHas xs[k].2.1 xs[k].2.2 n false (decide_eq_false hin))
        have HN := Lib.hid (HA.out.trans (ons_no hx hin))
        clear HA hin
        go_wp2_with fail
        refine (impl_rspan xs[k].1 xs[k].2.1 xs[k].2.2 _).mono ?_
        rintro e w4 ⟨rfl, hb4⟩
        go_wp2_with fail
        refine (I.out _).mono ?_
        rintro e w5 ⟨rfl, hb5⟩
        have own5 := (ho3.below hb4).below hb5
        have hb6 := below_on (below_on hb3 hb4) hb5
        clear ho3 hb3 hb4 hb5 hown hb c0 c1 c2 I
        go_wp2_with fail
        go_roundg (N - (k + 1))
        case measure => omega
        case rel => exact ⟨k + 1, _, by go_num, by omega, by omega, HN, by omega, own5, hb6⟩
    · have HV : acc = ons xs n N := by
        have e : k = N := by omega
        have h := HA.out
        rwa [e] at h
      subst HV
      have hge : (N : Int) ≤ k := by omega
      clear HA
      go_wp2_with fail
      go_ret2
      exact Fea.IntsOut.of (hown.mono hb1.size) (hb1.trans (hb.mono hb1.size))

set_option maxHeartbeats 1000000 in
theorem impl_ReignsOn (A : Option Addr) (N c : Nat) (xs : LR) (hn : N ≤ maxLen) (n : Int) (w : World) (h : RdR w A N xs) :
    Calls Tryz.prog 23 #[.slice A N c, .int .i64 n] w (Fea.IntsOut (roL xs n) (roE xs n) w) := by
  have C := Lib.hid (impl_AreReigns A N c xs hn w h)
  have hlen := h.1
  by_cases ha : arOk xs
  · by_cases hd : isDay n
    · rw [show roL xs n = ons xs n N from (if_pos ⟨ha, hd⟩).trans (by rw [hlen]), show roE xs n = 0 from (if_neg (fun k => k ha)).trans (if_pos hd)]
      exact impl_ReignsOn_yes A N c xs n ha hd w h
    · rw [decide_eq_true ha] at C
      have D := Lib.hid (impl_day_no n hd)
      rw [show roL xs n = [] from if_neg (fun k => hd k.2), show roE xs n = 2 from (if_neg (fun k => k ha)).trans (if_neg hd)]
      clear ha hd h hlen
      go_enter Tryz.func23, Tryz.ntmps23
      go_wp2_with fail
      refine C.out.mono ?_
      rintro e w1 ⟨rfl, hb⟩
      go_wp2_with fail
      refine (D.out _).mono ?_
      rintro e w2 ⟨rfl, rfl⟩
      go_wp2_with fail
      go_ret2
      exact Fea.IntsOut.empty hb
  · rw [decide_eq_false ha] at C
    rw [show roL xs n = [] from if_neg (fun k => ha k.1), show roE xs n = 1 from if_pos ha]
    clear ha h hlen
    go_enter Tryz.func23, Tryz.ntmps23
    go_wp2_with fail
    refine C.out.mono ?_
    rintro e w1 ⟨rfl, hb⟩
    go_wp2_with fail
    go_ret2
    exact Fea.IntsOut.empty hb

end Go.Proofs.YtfhcakpmlppbkaaGreatDoor.Rei
