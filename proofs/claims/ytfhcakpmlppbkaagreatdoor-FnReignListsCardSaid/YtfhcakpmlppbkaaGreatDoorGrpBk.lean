/- Texts of a claim in one file: ReiW Like. -/
import Derived.Test.YtfhcakpmlppbkaaGreatDoorGrpAx
import Derived.Test.YtfhcakpmlppbkaaGreatDoorGrpBb
import Derived.Test.YtfhcakpmlppbkaaGreatDoorGrpBe
import Derived.Test.YtfhcakpmlppbkaaGreatDoorGrpBj
import Derived.Test.YtfhcakpmlppbkaaGreatDoorGrpAc
import Derived.Test.YtfhcakpmlppbkaaGreatDoorGrpAn
namespace Go.Proofs.YtfhcakpmlppbkaaGreatDoor.Rei
open Go.RowKit
open Go.Proofs.YtfhcakpmlppbkaaGreatDoor.Sets (ok make make_nf make_has make_length has has_cons has_nil has_append meet_nf meet_has rest_nf rest_has NF SetOut TwoB hasV hasE hasB setB set_mk impl_HasDay)
open Go.Proofs.YtfhcakpmlppbkaaGreatDoor.Fea (isDay)

theorem rsp_has {xs : LR} {k : Nat} (hk : k < xs.length) {d : Int} (h : xs[k].2.1 ≤ d ∧ d ≤ xs[k].2.2) : has (rsp xs) d :=
  ⟨(xs[k].2.1, xs[k].2.2), List.mem_map.2 ⟨xs[k], List.getElem_mem hk, rfl⟩, h.1, h.2⟩
theorem ons_none {xs : LR} {n : Int} (h : ¬ has (rsp xs) n) (N : Nat) : ons xs n N = [] := by
  cases e : ons xs n N with
  | nil => rfl
  | cons x r =>
    obtain ⟨k, hk, -, h1, h2⟩ := ons_mem (xs := xs) (n := n) (N := N) (x := x) (by rw [e]; exact List.mem_cons_self ..)
    exact absurd (rsp_has hk ⟨h1, h2⟩) h
/-- What is true of the spans of void days. -/
theorem vd_span {xs : LR} {f t : Int} (ha : arOk xs) (hv : vdOk f t) {s : Int × Int} (hs : s ∈ vdL xs f t) : f ≤ s.1 ∧ s.2 ≤ t ∧ isDay s.1 ∧ ons xs s.1 xs.length = [] := by
  unfold vdL at hs
  rw [if_pos ⟨ha, hv⟩] at hs
  obtain ⟨⟨f0, f1⟩, ⟨t0, t1⟩, ft⟩ := hv
  have ho := rsp_ok ha.1
  have nV := make_nf ho
  have nR := rest_nf (Int.le_refl 0) (Int.le_refl 0) nV
  have n1 : NF 0 [(f, t)] := ⟨f0, ⟨f0, ft, t1⟩, trivial⟩
  obtain ⟨s0, s1, s2⟩ := (meet_nf n1 nR).ok_of s hs
  have h1 := (meet_has n1 nR s.1).1 ⟨s, hs, Int.le_refl _, s1⟩
  have h2 := (meet_has n1 nR s.2).1 ⟨s, hs, s1, Int.le_refl _⟩
  rw [has_cons] at h1 h2
  have a1 := h1.1.resolve_right (has_nil _)
  have a2 := h2.1.resolve_right (has_nil _)
  have a3 := ((rest_has (Int.le_refl 0) (Int.le_refl 0) nV s.1).1 h1.2).2.2
  rw [make_has ho] at a3
  simp only at a1 a2
  exact ⟨a1.1, a2.2, ⟨by omega, by omega⟩, ons_none a3 _⟩
theorem ons_some {xs : LR} {n : Int} {N : Nat} : 0 < (ons xs n N).length ↔ ∃ j, j < N ∧ ∃ hj : j < xs.length, xs[j].2.1 ≤ n ∧ n ≤ xs[j].2.2 := by
  induction N with
  | zero =>
    constructor
    · intro h; simp [ons] at h
    · rintro ⟨j, h, -⟩; omega
  | succ k ih =>
    rw [ons, List.length_append]
    constructor
    · intro h
      by_cases h0 : 0 < (ons xs n k).length
      · obtain ⟨j, hj, q⟩ := ih.1 h0
        exact ⟨j, by omega, q⟩
      · split at h
        case isTrue hk =>
          split at h
          case isTrue hin => exact ⟨k, by omega, hk, hin⟩
          case isFalse hin => simp at h; exact absurd h h0
        case isFalse hk => simp at h; exact absurd h h0
    · rintro ⟨j, hj, hl, q⟩
      by_cases e : j = k
      · subst e
        rw [dif_pos hl, if_pos q]
        simp
      · have := ih.2 ⟨j, by omega, hl, q⟩
        omega
theorem ons_two {xs : LR} {n : Int} {N : Nat} : 1 < (ons xs n N).length ↔ In2 xs N n := by
  induction N with
  | zero =>
    constructor
    · intro h; simp [ons] at h
    · rintro ⟨i, j, -, h, -⟩; omega
  | succ k ih =>
    rw [ons, List.length_append]
    constructor
    · intro h
      by_cases h0 : 1 < (ons xs n k).length
      · obtain ⟨i, j, h1, h2, q⟩ := ih.1 h0
        exact ⟨i, j, h1, by omega, q⟩
      · by_cases hk : k < xs.length
        · rw [dif_pos hk] at h
          by_cases hin : xs[k].2.1 ≤ n ∧ n ≤ xs[k].2.2
          · rw [if_pos hin] at h
            simp only [List.length_cons, List.length_nil] at h
            obtain ⟨j, hj, hl, q⟩ := ons_some.1 (show 0 < (ons xs n k).length by omega)
            exact ⟨k, j, hj, by omega, hk, hl, hin, q⟩
          · rw [if_neg hin] at h
            simp only [List.length_nil] at h
            omega
        · rw [dif_neg hk] at h
          simp only [List.length_nil] at h
          omega
    · rintro ⟨i, j, h1, h2, hi, hj, q1, q2⟩
      by_cases e : i = k
      · subst e
        have := ons_some.2 ⟨j, h1, hj, q2⟩
        rw [dif_pos hi, if_pos q1]
        simp only [List.length_cons, List.length_nil]
        omega
      · have := ih.2 ⟨i, j, h1, by omega, hi, hj, q1, q2⟩
        omega
theorem rgT_long {xs : LR} {n : Int} (ha : arOk xs) (h : ¬ ons xs n xs.length = []) : 2 ≤ (rgT xs n).length := by
  unfold rgT
  rw [if_neg h]
  cases e : ons xs n xs.length with
  | nil => exact absurd e h
  | cons x r =>
    obtain ⟨k, hk, rfl, -, -⟩ := ons_mem (xs := xs) (n := n) (N := xs.length) (x := x) (by rw [e]; exact List.mem_cons_self ..)
    rw [List.map_cons, Lib.join_cons, List.length_append, rgi_at hk]
    have a := (ha.1 k hk).1.2.1
    have b : xs[k].1.data.toList.length = xs[k].1.size := by rw [Array.length_toList]; rfl
    unfold rgw
    simp only [List.length_append, List.length_cons, List.length_nil, b]
    omega

/-! ### packs -/
/-- Void days. -/
theorem vd_pack (xs : LR) (N : Nat) (hN : xs.length = N) (hn : N ≤ 31) (f t : Int) : ∃ (V : Sets.L) (E : Int), Hid (V.length ≤ 2000000) ∧
    Hid (∀ (A : Option Addr) (c : Nat) (wx : World), RdR wx A N xs → Calls Tryz.prog 18 #[.slice A N c, .int .i64 f, .int .i64 t] wx (SetOut V E wx)) ∧
    Hid (∀ (A : Option Addr) (c : Nat) (wx : World), RdR wx A N xs → Calls Tryz.prog 19 #[.slice A N c, .int .i64 f, .int .i64 t] wx (SetOut V E wx)) ∧
    Hid (¬ E = 0 ∨ (E = 0 ∧ ∀ (i : Nat) (hi : i < V.length), f ≤ V[i].1 ∧ V[i].2 ≤ t ∧ isDay V[i].1 ∧ Hid (∀ (A : Option Addr) (c : Nat) (wx : World), RdR wx A N xs → Calls Tryz.prog 23 #[.slice A N c, .int .i64 V[i].1] wx (Fea.IntsOut [] 0 wx)))) := by
  have hm : N ≤ maxLen := by unfold maxLen; omega
  refine ⟨_, _, Lib.hid ?_, Lib.hid fun A c wx q => impl_VoidDays A N c xs hm f t wx q, Lib.hid fun A c wx q => spec_VoidDays A N c xs hm f t wx q, Lib.hid ?_⟩
  · unfold vdL
    split
    · have a := Sets.meet_length [(f, t)] (Sets.rest 0 (make (rsp xs)))
      have b := rest_len (make (rsp xs)) 0
      have c := make_length (rsp xs)
      have e : (rsp xs).length = xs.length := by simp [rsp]
      simp only [List.length_cons, List.length_nil] at a
      omega
    · simp
  · by_cases ha : arOk xs
    · by_cases hv : vdOk f t
      · refine .inr ⟨(if_neg (fun k => k ha)).trans (if_pos hv), fun i hi => ?_⟩
        obtain ⟨h1, h2, h3, h4⟩ := vd_span ha hv (List.getElem_mem hi)
        refine ⟨h1, h2, h3, Lib.hid fun A c wx q => ?_⟩
        have e : ons xs ((vdL xs f t)[i]).1 N = [] := by rw [← hN]; exact h4
        have := impl_ReignsOn_yes A N c xs _ ha h3 wx q
        rw [e] at this
        exact this
      · refine .inl ?_
        rw [show vdE xs f t = 2 from (if_neg (fun k => k ha)).trans (if_neg hv)]
        decide
    · refine .inl ?_
      rw [show vdE xs f t = 1 from if_pos ha]
      decide
/-- Disputed days. -/
theorem dd_pack (xs : LR) (N : Nat) (hn : N ≤ 31) (hN : xs.length = N) : ∃ (V : Sets.L) (E : Int), Hid (V.length ≤ 2000000) ∧
    Hid (∀ (A : Option Addr) (c : Nat) (wx : World), RdR wx A N xs → Calls Tryz.prog 20 #[.slice A N c] wx (SetOut V E wx)) ∧
    Hid (∀ (A : Option Addr) (c : Nat) (wx : World), RdR wx A N xs → Calls Tryz.prog 21 #[.slice A N c] wx (SetOut V E wx)) ∧ Hid (E = 0 ∨ ¬ E = 0) := by
  have hm : N ≤ maxLen := by unfold maxLen; omega
  refine ⟨_, _, Lib.hid ?_, Lib.hid fun A c wx q => impl_DisputedDays A N c xs hm wx q, Lib.hid fun A c wx q => spec_DisputedDays A N c xs hm wx q, Lib.hid ?_⟩
  · unfold ddL
    split
    case isTrue h =>
      rw [← dp_make h]
      have a := make_length (dp xs xs.length)
      have b := dp_len xs xs.length
      omega
    case isFalse h => simp
  · unfold ddE
    split
    · exact .inl rfl
    · exact .inr (by decide)
/-- The years of a king. -/
theorem ky_pack (xs : LR) (N : Nat) (hn : N ≤ 31) (hN : xs.length = N) (king : ByteArray) (k : Int) (k9 : k ≤ 20) : ∃ (V : Sets.L) (E : Int), Hid (V.length ≤ 2000000) ∧
    Hid (∀ (A : Option Addr) (c : Nat) (wx : World), RdR wx A N xs → Calls Tryz.prog 28 #[.slice A N c, .string king, .int .i64 k] wx (SetOut V E wx)) ∧
    Hid (∀ (A : Option Addr) (c : Nat) (wx : World), RdR wx A N xs → Calls Tryz.prog 29 #[.slice A N c, .string king, .int .i64 k] wx (SetOut V E wx)) := by
  have hm : N ≤ maxLen := by unfold maxLen; omega
  refine ⟨_, _, Lib.hid ?_, Lib.hid fun A c wx q => impl_KingYearSet A N c xs hm king k (by omega) wx q, Lib.hid fun A c wx q => spec_KingYearSet A N c xs hm king k wx q⟩
  have key : ∀ j, (kgs xs king k j).length ≤ j := by
    intro j
    induction j with
    | zero => simp [kgs]
    | succ j ih =>
      rw [kgs, List.length_append]
      split
      · have : (kg xs[j] king k).length ≤ 1 := by unfold kg; split <;> simp
        omega
      · simp; omega
  unfold kyL
  split
  · have a := make_length (kgs xs king k xs.length)
    have b := key xs.length
    omega
  · simp
/-- The reigns on a day, their text, and the disputed days of the list. -/
theorem on_pack (xs : LR) (N : Nat) (hn : N ≤ 31) (hN : xs.length = N) (n : Int) : ∃ (L : List Int) (T : List UInt8) (E : Int) (b : Bool), Hid (L.length ≤ 2000000) ∧
    Hid (∀ (A : Option Addr) (c : Nat) (wx : World), RdR wx A N xs → Calls Tryz.prog 23 #[.slice A N c, .int .i64 n] wx (Fea.IntsOut L E wx)) ∧
    Hid (∀ (A : Option Addr) (c : Nat) (wx : World), RdR wx A N xs → Calls Tryz.prog 24 #[.slice A N c, .int .i64 n] wx (Fea.IntsOut L E wx)) ∧
    Hid (∀ (A : Option Addr) (c : Nat) (wx : World), RdR wx A N xs → Sets.Tabs wx → Calls Tryz.prog 25 #[.slice A N c, .int .i64 n] wx (TxE T E wx)) ∧
    Hid (∀ (A : Option Addr) (c : Nat) (wx : World), RdR wx A N xs → Calls Tryz.prog 26 #[.slice A N c, .int .i64 n] wx (TxE T E wx)) ∧
    Hid (∀ (A : Option Addr) (c : Nat) (wx : World), RdR wx A N xs → Calls Tryz.prog 31 #[.slice A N c] wx fun e w' => e = .returned (.bool b) ∧ Below wx.heap.size wx w') ∧
    Hid (∀ (A : Option Addr) (c : Nat) (wx : World), RdR wx A N xs → Calls Tryz.prog 32 #[.slice A N c] wx fun e w' => e = .returned (.bool b) ∧ Below wx.heap.size wx w') ∧
    Hid (¬ E = 0 ∨ (E = 0 ∧ Hid (((L.length : Int) == 0) = decide (T = [45])) ∧ ∃ V : Sets.L,
      Hid (∀ (A : Option Addr) (c : Nat) (wx : World), RdR wx A N xs → Calls Tryz.prog 20 #[.slice A N c] wx (SetOut V 0 wx)) ∧
      Hid (∀ (A : Option Addr) (c : Nat) (wx : World), Sets.Rd wx A V.length V → Calls Tryz.prog 16 #[.slice A V.length c, .int .i64 n] wx (TwoB (decide (1 < (L.length : Int))) 0 wx)))) := by
  have hm : N ≤ maxLen := by unfold maxLen; omega
  refine ⟨_, _, _, _, Lib.hid ?_, Lib.hid fun A c wx q => impl_ReignsOn A N c xs hm n wx q, Lib.hid fun A c wx q => spec_ReignsOn A N c xs hm n wx q, Lib.hid fun A c wx q tb => impl_RegnalText A N c xs hm n wx q tb,
    Lib.hid fun A c wx q => spec_RegnalText A N c xs hm n wx q, Lib.hid fun A c wx q => impl_AreReigns A N c xs hm wx q, Lib.hid fun A c wx q => spec_AreReigns A N c xs hm wx q, Lib.hid ?_⟩
  · unfold roL
    split
    · have := ons_len xs n xs.length; omega
    · simp
  · by_cases hk : arOk xs ∧ isDay n
    · obtain ⟨ha, hd⟩ := hk
      rw [show roL xs n = ons xs n xs.length from if_pos ⟨ha, hd⟩, show rtL xs n = rgT xs n from if_pos ⟨ha, hd⟩]
      refine .inr ⟨(if_neg (fun k => k ha)).trans (if_pos hd), Lib.hid ?_, make (tm xs false N), Lib.hid fun A c wx q => impl_DisputedDays_yes A N c xs ha wx q, Lib.hid fun A c wx q => ?_⟩
      · by_cases h0 : ons xs n xs.length = []
        · have : rgT xs n = [45] := if_pos h0
          rw [h0, this]
          rfl
        · have h1 := rgT_long ha h0
          have h2 : ¬ rgT xs n = [45] := fun e => by rw [e] at h1; simp at h1
          rw [decide_eq_false h2]
          simpa using h0
      · have o2 := tm_ok ha.1 false N
        have hl : (make (tm xs false N)).length ≤ 300 := by
          have hx := ha.2.2
          rw [← hN, ← dp_make ha]
          have a := make_length (dp xs xs.length)
          have b := dp_len xs xs.length
          omega
        have hs : setB (make (tm xs false N)) = true := set_mk hl (make_nf o2)
        have hh : hasV (make (tm xs false N)) n = decide (1 < ((ons xs n xs.length).length : Int)) := by
          unfold hasV hasB
          rw [hs, decide_eq_true (show 0 ≤ n ∧ n ≤ 730499 from hd), Bool.true_and, Bool.true_and]
          apply decide_eq_decide.2
          rw [make_has o2, tm_has N (by omega), ← hN, ← ons_two]
          omega
        have he : hasE (make (tm xs false N)) n = 0 := by
          unfold hasE
          rw [if_pos hs, if_pos (show 0 ≤ n ∧ n ≤ 730499 from hd)]
        have := impl_HasDay A (make (tm xs false N)).length c (make (tm xs false N)) n (by unfold maxLen; omega) wx q
        rwa [hh, he] at this
    · refine .inl ?_
      unfold roE
      by_cases ha : arOk xs
      · rw [if_neg (fun k => k ha), if_neg (fun k => hk ⟨ha, k⟩)]
        decide
      · rw [if_pos ha]
        decide

end Go.Proofs.YtfhcakpmlppbkaaGreatDoor.Rei

namespace Go.Proofs.YtfhcakpmlppbkaaGreatDoor.Sets
open Go.RowKit

set_option maxHeartbeats 400000 in
set_option maxRecDepth 10000 in
theorem laws_big (A : Option Addr) (len cap : Nat) (hm : len ≤ maxLen) (w : World) :
    Calls Tryz.prog 5 #[.slice A len cap] w fun e w' => e = .returned (.bool (decide (4096 < len))) ∧ w = w' := by
  unfold maxLen at hm
  go_enter Tryz.func5, Tryz.ntmps5
  go_wp2_with fail
  go_ret
  exact ⟨ret_bool (by simp; try omega), rfl⟩

set_option maxHeartbeats 400000 in
set_option maxRecDepth 10000 in
theorem laws_like (A A' : Option Addr) (n c c' : Nat) (xs : L) (hn : n ≤ 2000000) (w : World) (h : Rd w A n xs) (h' : Rd w A' n xs) :
    Calls Tryz.prog 15 #[.slice A n c, .slice A' n c'] w fun e w' => e = .returned (.bool true) ∧ Below w.heap.size w w' := by
  go_enter Tryz.func15, Tryz.ntmps15
  go_wp2_with fail
  go_loopg [5] n (fun m i wr => ∃ k : Nat, k ≤ n ∧ m = n - k ∧ i = .int .i64 k ∧ Below w.heap.size w wr)
  case atStart => exact ⟨0, by omega, by omega, rfl, Below.refl _ _⟩
  case round =>
    obtain ⟨k, hk, hm, rfl, hb⟩ := hrel
    subst hm
    by_cases hlt : k < n
    · obtain ⟨g, off, hl, rfl, hg, c0, c1⟩ := (h.below hb).at_ hlt
      obtain ⟨g', off', hl', rfl, hg', c0', c1'⟩ := (h'.below hb).at_ hlt
      go_wp2_with fail
      go_quiet (fail)
      go_wp2_with fail
      go_roundg (n - (k + 1))
      case measure => omega
      case rel => exact ⟨k + 1, by omega, by omega, by go_num, below_drewN hb _⟩
    · go_wp2_with fail
      go_ret
      exact ⟨rfl, hb⟩

end Go.Proofs.YtfhcakpmlppbkaaGreatDoor.Sets
