/- Texts of a claim in one file: ReiF Rest. -/
import Derived.Test.YtfhcakpmlppbkaaGreatDoorGrpAt
import Derived.Test.YtfhcakpmlppbkaaGreatDoorGrpAn
namespace Go.Proofs.YtfhcakpmlppbkaaGreatDoor.Rei
open Go.RowKit
open Go.Proofs.YtfhcakpmlppbkaaGreatDoor.Sets (Own append_span spec_makeO SpansO ok make SetOut via)
open Go.Proofs.YtfhcakpmlppbkaaGreatDoor.Fea (isDay yr yr_isY)

/-- The days that two reigns share. -/
def prF (a b : ByteArray × Int × Int) : Int := if a.2.1 < b.2.1 then b.2.1 else a.2.1
def prT (a b : ByteArray × Int × Int) : Int := if b.2.2 < a.2.2 then b.2.2 else a.2.2
def pr (a b : ByteArray × Int × Int) (c : Bool) : Sets.L := if prF a b ≤ prT a b ∧ c = true then [(prF a b, prT a b)] else []
/-- The spans of reign i with those below j; of all reigns below i. q: a reign with itself, too. -/
def tj (xs : LR) (q : Bool) (i : Nat) : Nat → Sets.L
  | 0 => []
  | j + 1 => tj xs q i j ++ (if h : i < xs.length ∧ j < xs.length then pr xs[i] xs[j] (q || decide (i ≠ j)) else [])
def tm (xs : LR) (q : Bool) : Nat → Sets.L
  | 0 => []
  | i + 1 => tm xs q i ++ tj xs q i (i + 1)
theorem tj_yes {xs : LR} {q : Bool} {i j : Nat} {P acc : Sets.L} {f e : Int} (hi : i < xs.length) (hj : j < xs.length) (hF : (if xs[i].2.1 < xs[j].2.1 then xs[j].2.1 else xs[i].2.1) = f) (hE : (if xs[j].2.2 < xs[i].2.2 then xs[j].2.2 else xs[i].2.2) = e)
    (hle : f ≤ e) (hc : (q || decide (i ≠ j)) = true) (h : acc = P ++ tj xs q i j) : acc ++ [(f, e)] = P ++ tj xs q i (j + 1) := by
  rw [tj, dif_pos ⟨hi, hj⟩, pr, hc, show prF xs[i] xs[j] = f from hF, show prT xs[i] xs[j] = e from hE, if_pos ⟨hle, rfl⟩, h, List.append_assoc]
theorem tj_no {xs : LR} {q : Bool} {i j : Nat} {P acc : Sets.L} {f e : Int} (hi : i < xs.length) (hj : j < xs.length) (hF : (if xs[i].2.1 < xs[j].2.1 then xs[j].2.1 else xs[i].2.1) = f) (hE : (if xs[j].2.2 < xs[i].2.2 then xs[j].2.2 else xs[i].2.2) = e)
    (hn : ¬ (f ≤ e ∧ (q || decide (i ≠ j)) = true)) (h : acc = P ++ tj xs q i j) : acc = P ++ tj xs q i (j + 1) := by
  rw [tj, dif_pos ⟨hi, hj⟩, pr, show prF xs[i] xs[j] = f from hF, show prT xs[i] xs[j] = e from hE, if_neg hn, List.append_nil, h]
theorem tj_ok {xs : LR} (hx : ∀ j (h : j < xs.length), rOk xs[j].1 xs[j].2.1 xs[j].2.2) (q : Bool) (i N : Nat) : ∀ s ∈ tj xs q i N, ok s := by
  induction N with
  | zero => intro s hs; simp [tj] at hs
  | succ j ih =>
    intro s hs
    rw [tj] at hs
    rcases List.mem_append.1 hs with h | h
    · exact ih s h
    · split at h
      case isTrue hl =>
        obtain ⟨-, ⟨f0, f1⟩, ⟨t0, t1⟩, -⟩ := hx i hl.1
        obtain ⟨-, ⟨f2, f3⟩, ⟨t2, t3⟩, -⟩ := hx j hl.2
        unfold pr at h
        split at h
        case isTrue hc =>
          simp only [List.mem_singleton] at h
          subst h
          have hc := hc.1
          unfold prF prT at hc ⊢
          unfold ok
          simp only at hc ⊢
          refine ⟨?_, hc, ?_⟩ <;> split <;> omega
        case isFalse hc => cases h
      case isFalse hl => cases h
theorem tm_ok {xs : LR} (hx : ∀ j (h : j < xs.length), rOk xs[j].1 xs[j].2.1 xs[j].2.2) (q : Bool) (N : Nat) : ∀ s ∈ tm xs q N, ok s := by
  induction N with
  | zero => intro s hs; simp [tm] at hs
  | succ i ih =>
    intro s hs
    rw [tm] at hs
    exact (List.mem_append.1 hs).elim (ih s) (tj_ok hx q i (i + 1) s)

def TmL (xs : LR) (q : Bool) (N : Nat) (w0 : World) (m : Nat) (v i : Value) (wr : World) : Prop :=
  ∃ (j : Nat) (acc : Sets.L), i = .int .i64 j ∧ m = N - j ∧ j ≤ N ∧ Hid (acc = tm xs q j) ∧ acc.length ≤ j * 31 ∧ Own wr w0.heap.size v acc ∧ Below w0.heap.size w0 wr
def TjL (xs : LR) (q : Bool) (i : Nat) (w0 : World) (m : Nat) (v k : Value) (wr : World) : Prop :=
  ∃ (j : Nat) (acc : Sets.L), k = .int .i64 j ∧ m = i + 1 - j ∧ j ≤ i + 1 ∧ Hid (acc = tm xs q i ++ tj xs q i j) ∧ acc.length ≤ i * 31 + j ∧ Own wr w0.heap.size v acc ∧ Below w0.heap.size w0 wr

set_option maxRecDepth 100000 in
set_option maxHeartbeats 4000000 in
theorem spec_times7 (A : Option Addr) (N c : Nat) (xs : LR) (hn : N ≤ 30) (l : Int) (qq : Bool) (hq : (l == 1) = qq) (hx : Hid (∀ j (h : j < xs.length), rOk xs[j].1 xs[j].2.1 xs[j].2.2)) (w : World) (h : RdR w A N xs) :
    Calls Tryz.prog 64 #[.slice A N c, .int .i64 l] w (SpansO (make (tm xs qq N)) w) := by
  have own0 := Own.made0 w
  have hb0 : Below w.heap.size w (w.alloc (.cells #[] 36)) := (Below.refl _ _).alloc (Nat.le_refl _) _
  go_enter Tryz.func64, Tryz.ntmps64
  go_wp2_with fail
  go_loopg [5, 6] N (fun m v i wr => TmL xs qq N w m v i wr)
  case atStart => exact ⟨0, [], rfl, by omega, by omega, Lib.hid rfl, by simp, own0, hb0⟩
  case round =>
    clear own0 hb0
    obtain ⟨i, acc0, rfl, hm, hi, HA, hl, hown, hb⟩ := hrel
    subst hm
    by_cases hlt : i < N
    · have HT := Lib.hid (show acc0 = tm xs qq i ++ tj xs qq i 0 by rw [HA.out, tj, List.append_nil])
      clear HA
      go_wp2_with fail
      go_loopg [5, 7] (i + 1) (fun m v k wr => TjL xs qq i w m v k wr)
      case atStart => exact ⟨0, acc0, rfl, by omega, by omega, HT, by omega, hown, hb⟩
      case round =>
        clear HT hown hb hl
        obtain ⟨j, acc, rfl, hm, hj, HA, hl, hown, hb⟩ := hrel
        subst hm
        by_cases hji : j ≤ i
        · obtain ⟨g, off, hil, rfl, -, hg, -, p1, p2⟩ := (h.below hb).at_ hlt
          obtain ⟨g', off', hjl, e', -, -, -, q1, q2⟩ := (h.below hb).at_ (k := j) (by omega)
          obtain ⟨rfl, rfl⟩ : g = g' ∧ off = off' := by injection e' with e'; injection e' with e1 e2; exact ⟨e1, e2⟩
          clear e'
          obtain ⟨f, hF⟩ : ∃ f, (if xs[i].2.1 < xs[j].2.1 then xs[j].2.1 else xs[i].2.1) = f := ⟨_, rfl⟩
          obtain ⟨e, hE⟩ : ∃ e, (if xs[j].2.2 < xs[i].2.2 then xs[j].2.2 else xs[i].2.2) = e := ⟨_, rfl⟩
          have hjn : (j : Int) < (N : Int) := by omega
          go_wp2_with fail
          refine' via ?proof ?rest
          case rest => (intro hK; go_region; exact hK)
          have hb1 : Below w.heap.size w ((wr.alloc (.cells #[.int .i64 f, .int .i64 e] 36)).drew) := (hb.alloc hb.size _).drew
          have own1 : Own ((wr.alloc (.cells #[.int .i64 f, .int .i64 e] 36)).drew) w.heap.size _ acc := hown.below ((Below.refl _ _).alloc (Nat.le_refl _) _).drew
          have q := (Blk.new wr 36 #[.int .i64 f, .int .i64 e]).drew
          generalize (wr.alloc (.cells #[.int .i64 f, .int .i64 e] 36)).drew = w1 at q hb1 own1 ⊢
          have z0 : w1.cell? ⟨wr.heap.size, 0, none⟩ = some (.int .i64 f) := by simpa using q.cell 0
          have z1 : w1.cell? ⟨wr.heap.size, 1, none⟩ = some (.int .i64 e) := by simpa using q.cell 1
          clear q
          by_cases hle : f ≤ e
          · rcases Bool.eq_false_or_eq_true qq with hqq | hqq
            · have HN := Lib.hid (tj_yes hil hjl hF hE hle (by rw [hqq]; rfl) HA.out)
              rw [hqq] at hq
              clear HA
              go_wp2_with (at_builtin; refine append_span hb1 own1 (by omega) rfl (.tmp 58) (.tmp 60) rfl rfl rfl ?_)
              intro v2 w2 own2 hb2
              clear own1 hb1 hb p1 p2 q1 q2 z0 z1 hF hE
              go_wp2_with fail
              go_roundg (i + 1 - (j + 1))
              case measure => omega
              case rel => exact ⟨j + 1, _, by go_num, rfl, by omega, HN, by simp; omega, own2, hb2⟩
            · rw [hqq] at hq
              by_cases hne : i = j
              · have HN := Lib.hid (tj_no hil hjl hF hE (fun k => by rw [hqq] at k; simp [hne] at k) HA.out)
                have hd3 : ((i : Int) != (j : Int)) = false := by simp [hne]
                clear hne
                clear hb p1 p2 q1 q2 hF hE HA
                go_wp2_with fail
                go_roundg (i + 1 - (j + 1))
                case measure => omega
                case rel => exact ⟨j + 1, _, by go_num, rfl, by omega, HN, by omega, own1, hb1⟩
              · have HN := Lib.hid (tj_yes hil hjl hF hE hle (by simp [hne]) HA.out)
                have hd3 : ((i : Int) != (j : Int)) = true := by simp; omega
                clear hne HA
                go_wp2_with (at_builtin; refine append_span hb1 own1 (by omega) rfl (.tmp 58) (.tmp 60) rfl rfl rfl ?_)
                intro v2 w2 own2 hb2
                clear own1 hb1 hb p1 p2 q1 q2 z0 z1 hF hE
                go_wp2_with fail
                go_roundg (i + 1 - (j + 1))
                case measure => omega
                case rel => exact ⟨j + 1, _, by go_num, rfl, by omega, HN, by simp; omega, own2, hb2⟩
          · have HN := Lib.hid (tj_no hil hjl hF hE (fun k => hle k.1) HA.out)
            have hd : decide (f ≤ e) = false := by simpa using hle
            clear hb p1 p2 q1 q2 hF hE HA
            go_wp2_with fail
            go_roundg (i + 1 - (j + 1))
            case measure => omega
            case rel => exact ⟨j + 1, _, by go_num, rfl, by omega, HN, by omega, own1, hb1⟩
        · have e : j = i + 1 := by omega
          have HN := Lib.hid (show acc = tm xs qq (i + 1) by rw [tm, HA.out, e])
          have hd : decide ((j : Int) ≤ (i : Int)) = false := by simp; omega
          clear HA
          go_wp2_with fail
          go_roundg (N - (i + 1))
          case measure => omega
          case rel => exact ⟨i + 1, _, by go_num, rfl, by omega, HN, by omega, hown, hb⟩
    · have e : i = N := by omega
      have HV : acc0 = tm xs qq N := by rw [HA.out, e]
      subst HV
      have hge : (N : Int) ≤ i := by omega
      have hok := Lib.hid (tm_ok hx.out qq N)
      have hlN : (tm xs qq N).length ≤ 2000 := by omega
      clear HA e
      obtain ⟨A2, c2, rfl, row2⟩ := hown.form
      have MK := Lib.hid (fun wr (k : Sets.Rd wr A2 (tm xs qq N).length (tm xs qq N)) => spec_makeO A2 _ c2 _ hlN hok wr k)
      go_wp2_with fail
      refine (MK.out _ row2.rd).mono ?_
      rintro e w2 ⟨v, rfl, own3, hb3⟩
      have hb4 := hb.trans (hb3.mono hb.size)
      have own4 := own3.mono hb.size
      go_wp2_with fail
      go_ret
      exact ⟨_, rfl, own4, hb4⟩

end Go.Proofs.YtfhcakpmlppbkaaGreatDoor.Rei

namespace Go.Proofs.YtfhcakpmlppbkaaGreatDoor.Sets
open Go.RowKit

theorem rest_hit {ys acc T : L} {f : Int} {k : Nat} (hk : k < ys.length) (hf : f < ys[k].1) (h : acc ++ rest f (ys.drop k) = T) : (acc ++ [(f, ys[k].1 - 1)]) ++ rest (ys[k].2 + 1) (ys.drop (k + 1)) = T := by
  rw [List.drop_eq_getElem_cons hk, rest, if_pos hf] at h
  rw [List.append_assoc]; exact h
theorem rest_miss {ys acc T : L} {f : Int} {k : Nat} (hk : k < ys.length) (hf : ¬ f < ys[k].1) (h : acc ++ rest f (ys.drop k) = T) : acc ++ rest (ys[k].2 + 1) (ys.drop (k + 1)) = T := by
  rw [List.drop_eq_getElem_cons hk, rest, if_neg hf] at h
  simpa using h
theorem rest_end {ys acc T : L} {f : Int} {k : Nat} (hk : ys.length ≤ k) (h : acc ++ rest f (ys.drop k) = T) : acc ++ (if f ≤ 730499 then [(f, 730499)] else []) = T := by
  rw [List.drop_eq_nil_of_le hk, rest] at h
  exact h
def RestLoop (T ys : L) (n : Nat) (w : World) (m : Nat) (v fv i : Value) (wr : World) : Prop :=
  ∃ (k : Nat) (f : Int) (acc : L), i = .int .i64 k ∧ fv = .int .i64 f ∧ m = n - k ∧ k ≤ n ∧ 0 ≤ f ∧ f ≤ 730500 ∧ Own wr w.heap.size v acc ∧ Below w.heap.size w wr ∧ acc.length ≤ k ∧ Hid (acc ++ rest f (ys.drop k) = T)

set_option maxHeartbeats 4000000 in
set_option maxRecDepth 100000 in
theorem impl_restT (T : L) (A : Option Addr) (n c : Nat) (ys : L) (hT : Hid (rest 0 ys = T)) (hn : n ≤ 300) (hnf : Hid (NF 0 ys)) (w : World) (hy : Rd w A n ys) :
    Calls Tryz.prog 60 #[.slice A n c] w (Spans T w) := by
  go_enter Tryz.func60, Tryz.ntmps60
  go_wp2_with fail
  go_loopg [3, 4, 9] n (fun m v f i wr => RestLoop T ys n w m v f i wr)
  case atStart => exact ⟨0, 0, [], rfl, rfl, by omega, by omega, by omega, by omega, Own.nil _ _, Below.refl _ _, by simp, Lib.hid (by simpa using hT.out)⟩
  case round =>
    obtain ⟨k, f, acc, rfl, rfl, hm, hk, f0, f1, hown, hb, hlen, HT⟩ := hrel
    subst hm
    by_cases hlt : k < n
    · obtain ⟨g, off, hl, rfl, hg, c0, c1⟩ := (hy.below hb).at_ hlt
      have ok1 : ok ys[k] := hnf.out.ok_of _ (List.getElem_mem hl)
      obtain ⟨s0, s1, s2⟩ := ok1
      by_cases hf : f < ys[k].1
      · have HT2 := Lib.hid (rest_hit hl hf HT.out)
        have hd : decide (f < ys[k].1) = true := by simpa using hf
        clear HT
        have hb1 : Below w.heap.size w (wr.alloc (.cells #[.int .i64 ys[k].1, .int .i64 ys[k].2] 36)) := hb.alloc hb.size _
        have own1 := Own.below hown (w' := (wr.alloc (.cells #[.int .i64 ys[k].1, .int .i64 ys[k].2] 36))) ((Below.refl _ _).alloc (Nat.le_refl _) _)
        go_wp2_with (at_builtin; refine append_spanG (by simp) hb1 own1 (by omega) rfl (.tmp 17) (.tmp 23) rfl rfl rfl ?_)
        intro v2 w2 own2 hb2 hkeep
        have hl2 : (acc ++ [(f, ys[k].1 - 1)]).length ≤ k + 1 := by simp; omega
        have q := hkeep _ _ _ (Blk.new wr 36 #[.int .i64 ys[k].1, .int .i64 ys[k].2]) hown.below_own
        have q0 := q.cell 0
        have q1 := q.cell 1
        simp only [List.getElem?_toArray, List.getElem?_cons_zero, List.getElem?_cons_succ] at q0 q1
        clear hown hlen hkeep q
        go_wp2_with fail
        go_roundg (n - (k + 1))
        case measure => omega
        case rel => exact ⟨k + 1, ys[k].2 + 1, _, by go_num, rfl, rfl, by omega, by omega, by omega, own2, hb2, hl2, HT2⟩
      · have HT2 := Lib.hid (rest_miss hl hf HT.out)
        have hd : decide (f < ys[k].1) = false := by simpa using hf
        have hl2 : acc.length ≤ k + 1 := by omega
        have hb1 : Below w.heap.size w (wr.alloc (.cells #[.int .i64 ys[k].1, .int .i64 ys[k].2] 36)) := hb.alloc hb.size _
        have own1 := Own.below hown (w' := (wr.alloc (.cells #[.int .i64 ys[k].1, .int .i64 ys[k].2] 36))) ((Below.refl _ _).alloc (Nat.le_refl _) _)
        clear HT hlen
        go_wp2_with fail
        go_roundg (n - (k + 1))
        case measure => omega
        case rel => exact ⟨k + 1, ys[k].2 + 1, _, by go_num, rfl, rfl, by omega, by omega, by omega, own1, hb1, hl2, HT2⟩
    · have HT1 := Lib.hid (rest_end (by have := hy.1; omega) HT.out)
      clear HT
      by_cases hf : f ≤ 730499
      · have HT2 := Lib.hid (show acc ++ [(f, 730499)] = T by have := HT1.out; rwa [if_pos hf] at this)
        go_wp2_with (at_builtin; refine append_span hb hown (by omega) rfl (.tmp 31) (.tmp 34) rfl rfl rfl ?_)
        intro v2 w2 own2 hb2
        rw [HT2.out] at own2
        obtain ⟨A, c, rfl, hrow⟩ := own2.form
        have R := Lib.hid hrow
        clear hrow
        go_wp2_with fail
        go_ret
        exact ⟨_, _, rfl, R.out, hb2⟩
      · have E : acc = T := by have := HT1.out; rw [if_neg hf] at this; simpa using this
        have hd : decide (f ≤ 730499) = false := by simpa using hf
        subst E
        obtain ⟨A, c, rfl, hrow⟩ := hown.form
        have R := Lib.hid hrow
        clear hrow
        go_wp2_with fail
        go_ret
        exact ⟨_, _, rfl, R.out, hb⟩

set_option maxHeartbeats 4000000 in
set_option maxRecDepth 100000 in
theorem spec_restT (T : L) (A : Option Addr) (n c : Nat) (ys : L) (hT : Hid (rest 0 ys = T)) (hn : n ≤ 300) (hnf : Hid (NF 0 ys)) (w : World) (hy : Rd w A n ys) :
    Calls Tryz.prog 63 #[.slice A n c] w (Spans T w) := by
  go_enter Tryz.func63, Tryz.ntmps63
  go_wp2_with fail
  go_loopg [3, 4, 5] n (fun m v f i wr => RestLoop T ys n w m v f i wr)
  case atStart => exact ⟨0, 0, [], rfl, rfl, by omega, by omega, by omega, by omega, Own.made0 w, (Below.refl _ _).alloc (Nat.le_refl _) _, by simp, Lib.hid (by simpa using hT.out)⟩
  case round =>
    obtain ⟨k, f, acc, rfl, rfl, hm, hk, f0, f1, hown, hb, hlen, HT⟩ := hrel
    subst hm
    by_cases hlt : k < n
    · obtain ⟨g, off, hl, rfl, hg, c0, c1⟩ := (hy.below hb).at_ hlt
      have ok1 : ok ys[k] := hnf.out.ok_of _ (List.getElem_mem hl)
      obtain ⟨s0, s1, s2⟩ := ok1
      by_cases hf : f < ys[k].1
      · have HT2 := Lib.hid (rest_hit hl hf HT.out)
        have hd : decide (f < ys[k].1) = true := by simpa using hf
        clear HT
        go_wp2_with (at_builtin; refine append_span hb hown (by omega) rfl (.tmp 20) (.tmp 29) rfl rfl rfl ?_)
        intro v2 w2 own2 hb2
        have hl2 : (acc ++ [(f, ys[k].1 - 1)]).length ≤ k + 1 := by simp; omega
        clear hown hlen
        obtain ⟨g', off', _, e1, hg', d0, d1⟩ := (hy.below hb2).at_ hlt
        injection e1 with e1; injection e1 with e1 e1'; subst e1 e1'
        clear c0 c1
        go_wp2_with fail
        go_roundg (n - (k + 1))
        case measure => omega
        case rel => exact ⟨k + 1, ys[k].2 + 1, _, by go_num, rfl, rfl, by omega, by omega, by omega, own2, hb2, hl2, HT2⟩
      · have HT2 := Lib.hid (rest_miss hl hf HT.out)
        have hd : decide (f < ys[k].1) = false := by simpa using hf
        have hl2 : acc.length ≤ k + 1 := by omega
        clear HT hlen
        go_wp2_with fail
        go_roundg (n - (k + 1))
        case measure => omega
        case rel => exact ⟨k + 1, ys[k].2 + 1, _, by go_num, rfl, rfl, by omega, by omega, by omega, hown, hb, hl2, HT2⟩
    · have HT1 := Lib.hid (rest_end (by have := hy.1; omega) HT.out)
      clear HT
      by_cases hf : f ≤ 730499
      · have HT2 := Lib.hid (show acc ++ [(f, 730499)] = T by have := HT1.out; rwa [if_pos hf] at this)
        go_wp2_with (at_builtin; refine append_span hb hown (by omega) rfl (.tmp 39) (.tmp 42) rfl rfl rfl ?_)
        intro v2 w2 own2 hb2
        rw [HT2.out] at own2
        obtain ⟨A, c, rfl, hrow⟩ := own2.form
        have R := Lib.hid hrow
        clear hrow
        go_wp2_with fail
        go_ret
        exact ⟨_, _, rfl, R.out, hb2⟩
      · have E : acc = T := by have := HT1.out; rw [if_neg hf] at this; simpa using this
        have hd : decide (f ≤ 730499) = false := by simpa using hf
        subst E
        obtain ⟨A, c, rfl, hrow⟩ := hown.form
        have R := Lib.hid hrow
        clear hrow
        go_wp2_with fail
        go_ret
        exact ⟨_, _, rfl, R.out, hb⟩

end Go.Proofs.YtfhcakpmlppbkaaGreatDoor.Sets
