/- Contracts of impl's and spec's meeting of two lists of spans. -/
import Derived.Test.YtfhcakpmlppbkaaGreatDoorOwn
namespace Go.Proofs.YtfhcakpmlppbkaaGreatDoor.Sets
open Go.RowKit

theorem meet_hit {s t : Int × Int} {ar br acc T : L} {f e : Int} (hF : (if s.1 < t.1 then t.1 else s.1) = f) (hE : (if t.2 < s.2 then t.2 else s.2) = e) (hs : f ≤ e) (h : acc ++ meet (s :: ar) (t :: br) = T) :
    (acc ++ [(f, e)]) ++ (if s.2 < t.2 then meet ar (t :: br) else meet (s :: ar) br) = T := by
  have h1 : max s.1 t.1 = f := by rw [← hF]; split <;> omega
  have h2 : min s.2 t.2 = e := by rw [← hE]; split <;> omega
  rw [meet, both, h1, h2, if_pos hs] at h
  rw [List.append_assoc]; exact h
theorem meet_miss {s t : Int × Int} {ar br acc T : L} {f e : Int} (hF : (if s.1 < t.1 then t.1 else s.1) = f) (hE : (if t.2 < s.2 then t.2 else s.2) = e) (hs : ¬ f ≤ e) (h : acc ++ meet (s :: ar) (t :: br) = T) :
    acc ++ (if s.2 < t.2 then meet ar (t :: br) else meet (s :: ar) br) = T := by
  have h1 : max s.1 t.1 = f := by rw [← hF]; split <;> omega
  have h2 : min s.2 t.2 = e := by rw [← hE]; split <;> omega
  rw [meet, both, h1, h2, if_neg hs] at h
  simpa using h

/-- What a call leaves that answers a list of spans of its own. -/
def Spans (xs : L) (w : World) (e : Ending) (w' : World) : Prop := ∃ A c, e = .returned (.slice A xs.length c) ∧ Row w' w.heap.size w'.heap.size A xs.length c xs ∧ Below w.heap.size w w'

/-- The loop of impl's meeting. -/
def MeetLoop (T : L) (N : Nat) (w : World) (m : Nat) (a b v : Value) (wr : World) : Prop :=
  ∃ (A1 A2 : Option Addr) (n1 n2 c1 c2 : Nat) (xs ys acc : L), a = .slice A1 n1 c1 ∧ b = .slice A2 n2 c2 ∧ m = n1 + n2 ∧ n1 ≤ c1 ∧ n2 ≤ c2 ∧
    Rd w A1 n1 xs ∧ Rd w A2 n2 ys ∧ Own wr w.heap.size v acc ∧ Below w.heap.size w wr ∧ acc.length + n1 + n2 ≤ N ∧ Hid (acc ++ meet xs ys = T)

set_option maxHeartbeats 4000000 in
set_option maxRecDepth 100000 in
theorem impl_meetT (T : L) (N : Nat) (A1 A2 : Option Addr) (n1 n2 c1 c2 : Nat) (xs ys : L) (hT : Hid (meet xs ys = T)) (hN : n1 + n2 ≤ N) (hN2 : N ≤ 4000000) (h1 : n1 ≤ c1) (h2 : n2 ≤ c2) (w : World) (hx : Rd w A1 n1 xs) (hy : Rd w A2 n2 ys) :
    Calls Tryz.prog 59 #[.slice A1 n1 c1, .slice A2 n2 c2] w (Spans T w) := by
  have hI : MeetLoop T N w (n1 + n2) (.slice A1 n1 c1) (.slice A2 n2 c2) (.slice none 0 0) w :=
    ⟨A1, A2, n1, n2, c1, c2, xs, ys, [], rfl, rfl, rfl, h1, h2, hx, hy, Own.nil _ _, Below.refl _ _, by simpa using hN, Lib.hid (by simpa using hT.out)⟩
  have HI := Lib.hid hI
  clear hI hx hy h1 h2 hT hN
  go_enter Tryz.func59, Tryz.ntmps59
  go_wp2_with fail
  go_loopg [0, 1, 5] (n1 + n2) (fun m a b v wr => MeetLoop T N w m a b v wr)
  case atStart => exact HI.out
  case round =>
    clear HI
    obtain ⟨A1, A2, n1, n2, c1, c2, xs, ys, acc, rfl, rfl, hm, h1, h2, hx, hy, hown, hb, hlen, HT⟩ := hrel
    subst hm
    rcases n1 with _ | k1
    · have E : acc = T := by have := HT.out; simpa [meet, hx.none0] using this
      have EL : T.length ≤ N := by subst E; omega
      rcases hown.parts with ⟨rfl, E2⟩ | ⟨g, cap, rfl, hc1, hc2, hrow⟩
      · have R := Lib.hid (show Row wr w.heap.size wr.heap.size none T.length 0 T by subst E2; subst E; exact Row.nil (Nat.le_refl _))
        have EZ : T.length = 0 := by subst E2; subst E; rfl
        clear E E2 HT hlen hx hy EL
        go_wp2_with fail
        go_ret
        exact ⟨_, _, by rw [EZ]; rfl, R.out, hb⟩
      · unfold maxLen at hc2
        have R := Lib.hid (hrow.cap (Nat.le_refl _))
        subst E
        clear HT hlen hx hy EL hrow
        go_wp2_with fail
        go_ret
        exact ⟨_, _, rfl, R.out, hb⟩
    · rcases n2 with _ | k2
      · have E : acc = T := by have := HT.out; simpa [meet_nil_right, hy.none0] using this
        have EL : T.length ≤ N := by subst E; omega
        rcases hown.parts with ⟨rfl, E2⟩ | ⟨g, cap, rfl, hc1, hc2, hrow⟩
        · have R := Lib.hid (show Row wr w.heap.size wr.heap.size none T.length 0 T by subst E2; subst E; exact Row.nil (Nat.le_refl _))
          have EZ : T.length = 0 := by subst E2; subst E; rfl
          clear E E2 HT hlen hx hy EL
          go_wp2_with fail
          go_ret
          exact ⟨_, _, by rw [EZ]; rfl, R.out, hb⟩
        · unfold maxLen at hc2
          have R := Lib.hid (hrow.cap (Nat.le_refl _))
          subst E
          clear HT hlen hx hy EL hrow
          go_wp2_with fail
          go_ret
          exact ⟨_, _, rfl, R.out, hb⟩
      · obtain ⟨s, ar, g1, o1, rfl, rfl, PX, KX⟩ := hx.split
        obtain ⟨t, br, g2, o2, rfl, rfl, PY, KY⟩ := hy.split
        obtain ⟨hg1, p0, p1⟩ := KX.out _ hb
        obtain ⟨hg2, q0, q1⟩ := KY.out _ hb
        obtain ⟨f, hF⟩ : ∃ f, (if s.1 < t.1 then t.1 else s.1) = f := ⟨_, rfl⟩
        obtain ⟨e, hE⟩ : ∃ e, (if t.2 < s.2 then t.2 else s.2) = e := ⟨_, rfl⟩
        go_wp2_with fail
        refine' via ?proof ?rest
        case rest => (intro hK; go_region; exact hK)
        have hb1 : Below w.heap.size w ((wr.alloc (.cells #[.int .i64 f, .int .i64 e] 36)).drew) := (hb.alloc hb.size _).drew
        have own1 : Own ((wr.alloc (.cells #[.int .i64 f, .int .i64 e] 36)).drew) w.heap.size _ acc := hown.below ((Below.refl _ _).alloc (Nat.le_refl _) _).drew
        have q := (Blk.new wr 36 #[.int .i64 f, .int .i64 e]).drew
        generalize (wr.alloc (.cells #[.int .i64 f, .int .i64 e] 36)).drew = w1 at q hb1 own1 ⊢
        have z0 : w1.cell? ⟨wr.heap.size, 0, none⟩ = some (.int .i64 f) := by simpa using q.cell 0
        have z1 : w1.cell? ⟨wr.heap.size, 1, none⟩ = some (.int .i64 e) := by simpa using q.cell 1
        clear q
        by_cases hle : f ≤ e
        · have HT2 := Lib.hid (meet_hit hF hE hle HT.out)
          clear HT hF hE
          go_wp2_with (at_builtin; refine append_span hb1 own1 (by omega) rfl (.tmp 39) (.tmp 41) rfl rfl rfl ?_)
          intro v2 w2 own2 hb2
          have hl2 : (acc ++ [(f, e)]).length + k1 + k2 + 1 ≤ N := by simp; omega
          clear own1 hb1 hlen hb p0 p1 q0 q1 hg1 hg2 z0 z1
          go_wp2_with fail
          obtain ⟨hg1, p0, p1⟩ := KX.out _ hb2
          obtain ⟨hg2, q0, q1⟩ := KY.out _ hb2
          by_cases hlt : s.2 < t.2
          · have hd2 : decide (s.2 < t.2) = true := by simpa using hlt
            rw [if_pos hlt] at HT2
            clear hlt hle
            go_quiet (fail)
            go_wp2_with fail
            all_goals
              go_roundg (k1 + (k2 + 1))
              case measure => omega
              case rel => exact ⟨_, _, k1, k2 + 1, _, _, ar, t :: br, _, rfl, rfl, rfl, by omega, h2, (by first | exact PX.out | exact Rd.zero PX h1 (by assumption) | exact Rd.zero PX h1 rfl), hy, own2, below_drewN hb2 _, by omega, HT2⟩
          · have hd2 : decide (s.2 < t.2) = false := by simpa using hlt
            rw [if_neg hlt] at HT2
            clear hlt hle
            go_quiet (fail)
            go_wp2_with fail
            all_goals
              go_roundg (k1 + 1 + k2)
              case measure => omega
              case rel => exact ⟨_, _, k1 + 1, k2, _, _, s :: ar, br, _, rfl, rfl, rfl, h1, by omega, hx, (by first | exact PY.out | exact Rd.zero PY h2 (by assumption) | exact Rd.zero PY h2 rfl), own2, below_drewN hb2 _, by omega, HT2⟩
        · have HT2 := Lib.hid (meet_miss hF hE hle HT.out)
          have hd : decide (f ≤ e) = false := by simpa using hle
          have hl2 : acc.length + k1 + k2 + 1 ≤ N := by omega
          have own2 := own1
          have hb2 := hb1
          clear HT hF hE hlen hb own1 hb1 p0 p1 q0 q1 hg1 hg2
          go_wp2_with fail
          clear z0 z1
          obtain ⟨hg1, p0, p1⟩ := KX.out _ hb2
          obtain ⟨hg2, q0, q1⟩ := KY.out _ hb2
          by_cases hlt : s.2 < t.2
          · have hd2 : decide (s.2 < t.2) = true := by simpa using hlt
            rw [if_pos hlt] at HT2
            clear hlt hle
            go_quiet (fail)
            go_wp2_with fail
            all_goals
              go_roundg (k1 + (k2 + 1))
              case measure => omega
              case rel => exact ⟨_, _, k1, k2 + 1, _, _, ar, t :: br, _, rfl, rfl, rfl, by omega, h2, (by first | exact PX.out | exact Rd.zero PX h1 (by assumption) | exact Rd.zero PX h1 rfl), hy, own2, below_drewN hb2 _, by omega, HT2⟩
          · have hd2 : decide (s.2 < t.2) = false := by simpa using hlt
            rw [if_neg hlt] at HT2
            clear hlt hle
            go_quiet (fail)
            go_wp2_with fail
            all_goals
              go_roundg (k1 + 1 + k2)
              case measure => omega
              case rel => exact ⟨_, _, k1 + 1, k2, _, _, s :: ar, br, _, rfl, rfl, rfl, h1, by omega, hx, (by first | exact PY.out | exact Rd.zero PY h2 (by assumption) | exact Rd.zero PY h2 rfl), own2, below_drewN hb2 _, by omega, HT2⟩

/-- The loop of spec's meeting. -/
def MeetLoopS (T : L) (xs ys : L) (n1 n2 : Nat) (N : Nat) (w : World) (m : Nat) (v a b : Value) (wr : World) : Prop :=
  ∃ (i k : Nat) (acc : L), a = .int .i64 i ∧ b = .int .i64 k ∧ m = (n1 - i) + (n2 - k) ∧ i ≤ n1 ∧ k ≤ n2 ∧
    Own wr w.heap.size v acc ∧ Below w.heap.size w wr ∧ acc.length + (n1 - i) + (n2 - k) ≤ N ∧ Hid (acc ++ meet (xs.drop i) (ys.drop k) = T)

set_option maxHeartbeats 4000000 in
set_option maxRecDepth 100000 in
theorem spec_meetT (T : L) (N : Nat) (A1 A2 : Option Addr) (n1 n2 c1 c2 : Nat) (xs ys : L) (hT : Hid (meet xs ys = T)) (hN : n1 + n2 ≤ N) (hN2 : N ≤ 4000000) (w : World) (hx : Rd w A1 n1 xs) (hy : Rd w A2 n2 ys) :
    Calls Tryz.prog 62 #[.slice A1 n1 c1, .slice A2 n2 c2] w (Spans T w) := by
  have hl1 := hx.1
  have hl2' := hy.1
  go_enter Tryz.func62, Tryz.ntmps62
  go_wp2_with fail
  go_loopg [5, 6, 7] (n1 + n2) (fun m v a b wr => MeetLoopS T xs ys n1 n2 N w m v a b wr)
  case atStart => exact ⟨0, 0, [], rfl, rfl, by omega, by omega, by omega, Own.made0 w, (Below.refl _ _).alloc (Nat.le_refl _) _, by simpa using hN, Lib.hid (by simpa using hT.out)⟩
  case round =>
    obtain ⟨i, k, acc, rfl, rfl, hm, hi0, hk0, hown, hb, hlen, HT⟩ := hrel
    subst hm
    by_cases hi : i < n1
    · by_cases hk : k < n2
      · obtain ⟨g1, o1, hil, rfl, hg1, p0, p1⟩ := (hx.below hb).at_ hi
        obtain ⟨g2, o2, hkl, rfl, hg2, q0, q1⟩ := (hy.below hb).at_ hk
        have HT1 := Lib.hid (show acc ++ meet (xs[i] :: xs.drop (i + 1)) (ys[k] :: ys.drop (k + 1)) = T by rw [← List.drop_eq_getElem_cons hil, ← List.drop_eq_getElem_cons hkl]; exact HT.out)
        clear HT
        obtain ⟨f, hF⟩ : ∃ f, (if xs[i].1 < ys[k].1 then ys[k].1 else xs[i].1) = f := ⟨_, rfl⟩
        obtain ⟨e, hE⟩ : ∃ e, (if ys[k].2 < xs[i].2 then ys[k].2 else xs[i].2) = e := ⟨_, rfl⟩
        go_wp2_with fail
        refine' via ?proof ?rest
        case rest => (intro hK; go_region; exact hK)
        have hb1 : Below w.heap.size w ((wr.alloc (.cells #[.int .i64 f, .int .i64 e] 36)).drew) := (hb.alloc hb.size _).drew
        have own1 : Own ((wr.alloc (.cells #[.int .i64 f, .int .i64 e] 36)).drew) w.heap.size _ acc := hown.below ((Below.refl _ _).alloc (Nat.le_refl _) _).drew
        have q := (Blk.new wr 36 #[.int .i64 f, .int .i64 e]).drew
        generalize (wr.alloc (.cells #[.int .i64 f, .int .i64 e] 36)).drew = w1 at q hb1 own1 ⊢
        have z0 : w1.cell? ⟨wr.heap.size, 0, none⟩ = some (.int .i64 f) := by simpa using q.cell 0
        have z1 : w1.cell? ⟨wr.heap.size, 1, none⟩ = some (.int .i64 e) := by simpa using q.cell 1
        clear q
        by_cases hle : f ≤ e
        · have HT2 := Lib.hid (meet_hit hF hE hle HT1.out)
          clear HT1 hF hE
          go_wp2_with (at_builtin; refine append_span hb1 own1 (by omega) rfl (.tmp 48) (.tmp 50) rfl rfl rfl ?_)
          intro v2 w2 own2 hb2
          have hl2 : (acc ++ [(f, e)]).length + (n1 - i) + (n2 - k) ≤ N + 1 := by simp; omega
          clear own1 hb1 hlen hb p0 p1 q0 q1 hg1 hg2 z0 z1
          go_wp2_with fail
          obtain ⟨g1', o1', _, e1, hg1, p0, p1⟩ := (hx.below hb2).at_ hi
          obtain ⟨g2', o2', _, e2, hg2, q0, q1⟩ := (hy.below hb2).at_ hk
          injection e1 with e1; injection e1 with e1 e1'; subst e1 e1'
          injection e2 with e2; injection e2 with e2 e2'; subst e2 e2'
          by_cases hlt : xs[i].2 < ys[k].2
          · have hd2 : decide (xs[i].2 < ys[k].2) = true := by simpa using hlt
            rw [if_pos hlt, ← List.drop_eq_getElem_cons hkl] at HT2
            clear hlt hle
            go_quiet (fail)
            go_wp2_with fail
            go_roundg ((n1 - (i + 1)) + (n2 - k))
            case measure => omega
            case rel => exact ⟨i + 1, k, _, by go_num, rfl, rfl, by omega, by omega, own2, below_drewN hb2 _, by omega, HT2⟩
          · have hd2 : decide (xs[i].2 < ys[k].2) = false := by simpa using hlt
            rw [if_neg hlt, ← List.drop_eq_getElem_cons hil] at HT2
            clear hlt hle
            go_quiet (fail)
            go_wp2_with fail
            go_roundg ((n1 - i) + (n2 - (k + 1)))
            case measure => omega
            case rel => exact ⟨i, k + 1, _, rfl, by go_num, rfl, by omega, by omega, own2, below_drewN hb2 _, by omega, HT2⟩
        · have HT2 := Lib.hid (meet_miss hF hE hle HT1.out)
          have hd : decide (f ≤ e) = false := by simpa using hle
          have hl2 : acc.length + (n1 - i) + (n2 - k) ≤ N + 1 := by omega
          have own2 := own1
          have hb2 := hb1
          clear HT1 hF hE hlen hb own1 hb1 p0 p1 q0 q1 hg1 hg2
          go_wp2_with fail
          clear z0 z1
          obtain ⟨g1', o1', _, e1, hg1, p0, p1⟩ := (hx.below hb2).at_ hi
          obtain ⟨g2', o2', _, e2, hg2, q0, q1⟩ := (hy.below hb2).at_ hk
          injection e1 with e1; injection e1 with e1 e1'; subst e1 e1'
          injection e2 with e2; injection e2 with e2 e2'; subst e2 e2'
          by_cases hlt : xs[i].2 < ys[k].2
          · have hd2 : decide (xs[i].2 < ys[k].2) = true := by simpa using hlt
            rw [if_pos hlt, ← List.drop_eq_getElem_cons hkl] at HT2
            clear hlt hle
            go_quiet (fail)
            go_wp2_with fail
            go_roundg ((n1 - (i + 1)) + (n2 - k))
            case measure => omega
            case rel => exact ⟨i + 1, k, _, by go_num, rfl, rfl, by omega, by omega, own2, below_drewN hb2 _, by omega, HT2⟩
          · have hd2 : decide (xs[i].2 < ys[k].2) = false := by simpa using hlt
            rw [if_neg hlt, ← List.drop_eq_getElem_cons hil] at HT2
            clear hlt hle
            go_quiet (fail)
            go_wp2_with fail
            go_roundg ((n1 - i) + (n2 - (k + 1)))
            case measure => omega
            case rel => exact ⟨i, k + 1, _, rfl, by go_num, rfl, by omega, by omega, own2, below_drewN hb2 _, by omega, HT2⟩
      · have E : acc = T := by have := HT.out; rw [show ys.drop k = [] from List.drop_eq_nil_of_le (by omega)] at this; simpa [meet, meet_nil_right] using this
        subst E
        obtain ⟨A, c, rfl, hrow⟩ := hown.form
        have R := Lib.hid hrow
        clear HT hrow
        go_wp2_with fail
        go_ret
        exact ⟨_, _, rfl, R.out, hb⟩
    · have E : acc = T := by have := HT.out; rw [show xs.drop i = [] from List.drop_eq_nil_of_le (by omega)] at this; simpa [meet, meet_nil_right] using this
      subst E
      obtain ⟨A, c, rfl, hrow⟩ := hown.form
      have R := Lib.hid hrow
      clear HT hrow
      go_wp2_with fail
      go_ret
      exact ⟨_, _, rfl, R.out, hb⟩

end Go.Proofs.YtfhcakpmlppbkaaGreatDoor.Sets
