/- What a set leaves of all days: impl's gapsBetween and spec's l02Rest; WithoutSet of both. -/
import Derived.Test.YtfhcakpmlppbkaaMeetS
namespace Go.Proofs.Ytfhcakpmlppbkaa.Sets
open Go.RowKit

theorem rest_hit {ys acc T : L} {f : Int} {k : Nat} (hk : k < ys.length) (hf : f < ys[k].1) (h : acc ++ rest f (ys.drop k) = T) : (acc ++ [(f, ys[k].1 - 1)]) ++ rest (ys[k].2 + 1) (ys.drop (k + 1)) = T := by
  rw [List.drop_eq_getElem_cons hk, rest, if_pos hf] at h
  rw [List.append_assoc]; exact h
theorem rest_miss {ys acc T : L} {f : Int} {k : Nat} (hk : k < ys.length) (hf : ¬ f < ys[k].1) (h : acc ++ rest f (ys.drop k) = T) : acc ++ rest (ys[k].2 + 1) (ys.drop (k + 1)) = T := by
  rw [List.drop_eq_getElem_cons hk, rest, if_neg hf] at h
  simpa using h
theorem rest_end {ys acc T : L} {f : Int} {k : Nat} (hk : ys.length ≤ k) (h : acc ++ rest f (ys.drop k) = T) : acc ++ (if f ≤ 730499 then [(f, 730499)] else []) = T := by
  rw [List.drop_eq_nil_of_le hk, rest] at h
  exact h
def RestLoop (T ys : L) (n : Nat) (w : World) (m : Nat) (v fv i : Value) (wr : World) : Prop :=
  ∃ (k : Nat) (f : Int) (acc : L), i = .int .i64 k ∧ fv = .int .i64 f ∧ m = n - k ∧ k ≤ n ∧ 0 ≤ f ∧ f ≤ 730500 ∧ Own wr w.heap.size v acc ∧ Below w.heap.size w wr ∧ acc.length ≤ k ∧ Hid (acc ++ rest f (ys.drop k) = T)

set_option maxHeartbeats 4000000 in
set_option maxRecDepth 100000 in
theorem impl_restT (T : L) (A : Option Addr) (n c : Nat) (ys : L) (hT : Hid (rest 0 ys = T)) (hn : n ≤ 300) (hnf : Hid (NF 0 ys)) (w : World) (hy : Rd w A n ys) :
    Calls Try.prog 70 #[.slice A n c] w (Spans T w) := by
  go_enter Try.func70, Try.ntmps70
  go_wp2_with fail
  go_loopg [3, 4, 9] n (fun m v f i wr => RestLoop T ys n w m v f i wr)
  case atStart => exact ⟨0, 0, [], rfl, rfl, by omega, by omega, by omega, by omega, Own.nil _ _, Below.refl _ _, by simp, Lib.hid (by simpa using hT.out)⟩
  case round =>
    obtain ⟨k, f, acc, rfl, rfl, hm, hk, f0, f1, hown, hb, hlen, HT⟩ := hrel
    subst hm
    by_cases hlt : k < n
    · obtain ⟨g, off, hl, rfl, hg, c0, c1⟩ := (hy.below hb).at_ hlt
      have ok1 : ok ys[k] := hnf.out.ok_of _ (List.getElem_mem hl)
      obtain ⟨s0, s1, s2⟩ := ok1
      by_cases hf : f < ys[k].1
      · have HT2 := Lib.hid (rest_hit hl hf HT.out)
        have hd : decide (f < ys[k].1) = true := by simpa using hf
        clear HT
        have hb1 : Below w.heap.size w (wr.alloc (.cells #[.int .i64 ys[k].1, .int .i64 ys[k].2] 31)) := hb.alloc hb.size _
        have own1 := Own.below hown (w' := (wr.alloc (.cells #[.int .i64 ys[k].1, .int .i64 ys[k].2] 31))) ((Below.refl _ _).alloc (Nat.le_refl _) _)
        go_wp2_with (at_builtin; refine append_spanG (by simp) hb1 own1 (by omega) rfl (.tmp 17) (.tmp 23) rfl rfl rfl ?_)
        intro v2 w2 own2 hb2 hkeep
        have hl2 : (acc ++ [(f, ys[k].1 - 1)]).length ≤ k + 1 := by simp; omega
        have q := hkeep _ _ _ (Blk.new wr 31 #[.int .i64 ys[k].1, .int .i64 ys[k].2]) hown.below_own
        have q0 := q.cell 0
        have q1 := q.cell 1
        simp only [List.getElem?_toArray, List.getElem?_cons_zero, List.getElem?_cons_succ] at q0 q1
        clear hown hlen hkeep q
        go_wp2_with fail
        go_roundg (n - (k + 1))
        case measure => omega
        case rel => exact ⟨k + 1, ys[k].2 + 1, _, by go_num, rfl, rfl, by omega, by omega, by omega, own2, hb2, hl2, HT2⟩
      · have HT2 := Lib.hid (rest_miss hl hf HT.out)
        have hd : decide (f < ys[k].1) = false := by simpa using hf
        have hl2 : acc.length ≤ k + 1 := by omega
        have hb1 : Below w.heap.size w (wr.alloc (.cells #[.int .i64 ys[k].1, .int .i64 ys[k].2] 31)) := hb.alloc hb.size _
        have own1 := Own.below hown (w' := (wr.alloc (.cells #[.int .i64 ys[k].1, .int .i64 ys[k].2] 31))) ((Below.refl _ _).alloc (Nat.le_refl _) _)
        clear HT hlen
        go_wp2_with fail
        go_roundg (n - (k + 1))
        case measure => omega
        case rel => exact ⟨k + 1, ys[k].2 + 1, _, by go_num, rfl, rfl, by omega, by omega, by omega, own1, hb1, hl2, HT2⟩
    · have HT1 := Lib.hid (rest_end (by have := hy.1; omega) HT.out)
      clear HT
      by_cases hf : f ≤ 730499
      · have HT2 := Lib.hid (show acc ++ [(f, 730499)] = T by have := HT1.out; rwa [if_pos hf] at this)
        go_wp2_with (at_builtin; refine append_span hb hown (by omega) rfl (.tmp 31) (.tmp 34) rfl rfl rfl ?_)
        intro v2 w2 own2 hb2
        rw [HT2.out] at own2
        obtain ⟨A, c, rfl, hrow⟩ := own2.form
        have R := Lib.hid hrow
        clear hrow
        go_wp2_with fail
        go_ret
        exact ⟨_, _, rfl, R.out, hb2⟩
      · have E : acc = T := by have := HT1.out; rw [if_neg hf] at this; simpa using this
        have hd : decide (f ≤ 730499) = false := by simpa using hf
        subst E
        obtain ⟨A, c, rfl, hrow⟩ := hown.form
        have R := Lib.hid hrow
        clear hrow
        go_wp2_with fail
        go_ret
        exact ⟨_, _, rfl, R.out, hb⟩

set_option maxHeartbeats 4000000 in
set_option maxRecDepth 100000 in
theorem spec_restT (T : L) (A : Option Addr) (n c : Nat) (ys : L) (hT : Hid (rest 0 ys = T)) (hn : n ≤ 300) (hnf : Hid (NF 0 ys)) (w : World) (hy : Rd w A n ys) :
    Calls Try.prog 66 #[.slice A n c] w (Spans T w) := by
  go_enter Try.func66, Try.ntmps66
  go_wp2_with fail
  go_loopg [3, 4, 5] n (fun m v f i wr => RestLoop T ys n w m v f i wr)
  case atStart => exact ⟨0, 0, [], rfl, rfl, by omega, by omega, by omega, by omega, Own.made0 w, (Below.refl _ _).alloc (Nat.le_refl _) _, by simp, Lib.hid (by simpa using hT.out)⟩
  case round =>
    obtain ⟨k, f, acc, rfl, rfl, hm, hk, f0, f1, hown, hb, hlen, HT⟩ := hrel
    subst hm
    by_cases hlt : k < n
    · obtain ⟨g, off, hl, rfl, hg, c0, c1⟩ := (hy.below hb).at_ hlt
      have ok1 : ok ys[k] := hnf.out.ok_of _ (List.getElem_mem hl)
      obtain ⟨s0, s1, s2⟩ := ok1
      by_cases hf : f < ys[k].1
      · have HT2 := Lib.hid (rest_hit hl hf HT.out)
        have hd : decide (f < ys[k].1) = true := by simpa using hf
        clear HT
        go_wp2_with (at_builtin; refine append_span hb hown (by omega) rfl (.tmp 20) (.tmp 29) rfl rfl rfl ?_)
        intro v2 w2 own2 hb2
        have hl2 : (acc ++ [(f, ys[k].1 - 1)]).length ≤ k + 1 := by simp; omega
        clear hown hlen
        obtain ⟨g', off', _, e1, hg', d0, d1⟩ := (hy.below hb2).at_ hlt
        injection e1 with e1; injection e1 with e1 e1'; subst e1 e1'
        clear c0 c1
        go_wp2_with fail
        go_roundg (n - (k + 1))
        case measure => omega
        case rel => exact ⟨k + 1, ys[k].2 + 1, _, by go_num, rfl, rfl, by omega, by omega, by omega, own2, hb2, hl2, HT2⟩
      · have HT2 := Lib.hid (rest_miss hl hf HT.out)
        have hd : decide (f < ys[k].1) = false := by simpa using hf
        have hl2 : acc.length ≤ k + 1 := by omega
        clear HT hlen
        go_wp2_with fail
        go_roundg (n - (k + 1))
        case measure => omega
        case rel => exact ⟨k + 1, ys[k].2 + 1, _, by go_num, rfl, rfl, by omega, by omega, by omega, hown, hb, hl2, HT2⟩
    · have HT1 := Lib.hid (rest_end (by have := hy.1; omega) HT.out)
      clear HT
      by_cases hf : f ≤ 730499
      · have HT2 := Lib.hid (show acc ++ [(f, 730499)] = T by have := HT1.out; rwa [if_pos hf] at this)
        go_wp2_with (at_builtin; refine append_span hb hown (by omega) rfl (.tmp 39) (.tmp 42) rfl rfl rfl ?_)
        intro v2 w2 own2 hb2
        rw [HT2.out] at own2
        obtain ⟨A, c, rfl, hrow⟩ := own2.form
        have R := Lib.hid hrow
        clear hrow
        go_wp2_with fail
        go_ret
        exact ⟨_, _, rfl, R.out, hb2⟩
      · have E : acc = T := by have := HT1.out; rw [if_neg hf] at this; simpa using this
        have hd : decide (f ≤ 730499) = false := by simpa using hf
        subst E
        obtain ⟨A, c, rfl, hrow⟩ := hown.form
        have R := Lib.hid hrow
        clear hrow
        go_wp2_with fail
        go_ret
        exact ⟨_, _, rfl, R.out, hb⟩

end Go.Proofs.Ytfhcakpmlppbkaa.Sets
