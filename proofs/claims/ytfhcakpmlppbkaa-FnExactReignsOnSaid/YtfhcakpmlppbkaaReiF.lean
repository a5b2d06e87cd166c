/- Contracts of spec's l07Times and DisputedDays. -/
import Derived.Test.YtfhcakpmlppbkaaReiE
namespace Go.Proofs.Ytfhcakpmlppbkaa.Rei
open Go.RowKit
open Go.Proofs.Ytfhcakpmlppbkaa.Sets (Own append_span spec_makeO SpansO ok make SetOut via)
open Go.Proofs.Ytfhcakpmlppbkaa.Fea (isDay yr yr_isY)

/-- The days that two reigns share. -/
def prF (a b : ByteArray × Int × Int) : Int := if a.2.1 < b.2.1 then b.2.1 else a.2.1
def prT (a b : ByteArray × Int × Int) : Int := if b.2.2 < a.2.2 then b.2.2 else a.2.2
def pr (a b : ByteArray × Int × Int) (c : Bool) : Sets.L := if prF a b ≤ prT a b ∧ c = true then [(prF a b, prT a b)] else []
/-- The spans of reign i with those below j; of all reigns below i. q: a reign with itself, too. -/
def tj (xs : LR) (q : Bool) (i : Nat) : Nat → Sets.L
  | 0 => []
  | j + 1 => tj xs q i j ++ (if h : i < xs.length ∧ j < xs.length then pr xs[i] xs[j] (q || decide (i ≠ j)) else [])
def tm (xs : LR) (q : Bool) : Nat → Sets.L
  | 0 => []
  | i + 1 => tm xs q i ++ tj xs q i (i + 1)
theorem tj_yes {xs : LR} {q : Bool} {i j : Nat} {P acc : Sets.L} {f e : Int} (hi : i < xs.length) (hj : j < xs.length) (hF : (if xs[i].2.1 < xs[j].2.1 then xs[j].2.1 else xs[i].2.1) = f) (hE : (if xs[j].2.2 < xs[i].2.2 then xs[j].2.2 else xs[i].2.2) = e)
    (hle : f ≤ e) (hc : (q || decide (i ≠ j)) = true) (h : acc = P ++ tj xs q i j) : acc ++ [(f, e)] = P ++ tj xs q i (j + 1) := by
  rw [tj, dif_pos ⟨hi, hj⟩, pr, hc, show prF xs[i] xs[j] = f from hF, show prT xs[i] xs[j] = e from hE, if_pos ⟨hle, rfl⟩, h, List.append_assoc]
theorem tj_no {xs : LR} {q : Bool} {i j : Nat} {P acc : Sets.L} {f e : Int} (hi : i < xs.length) (hj : j < xs.length) (hF : (if xs[i].2.1 < xs[j].2.1 then xs[j].2.1 else xs[i].2.1) = f) (hE : (if xs[j].2.2 < xs[i].2.2 then xs[j].2.2 else xs[i].2.2) = e)
    (hn : ¬ (f ≤ e ∧ (q || decide (i ≠ j)) = true)) (h : acc = P ++ tj xs q i j) : acc = P ++ tj xs q i (j + 1) := by
  rw [tj, dif_pos ⟨hi, hj⟩, pr, show prF xs[i] xs[j] = f from hF, show prT xs[i] xs[j] = e from hE, if_neg hn, List.append_nil, h]
theorem tj_ok {xs : LR} (hx : ∀ j (h : j < xs.length), rOk xs[j].1 xs[j].2.1 xs[j].2.2) (q : Bool) (i N : Nat) : ∀ s ∈ tj xs q i N, ok s := by
  induction N with
  | zero => intro s hs; simp [tj] at hs
  | succ j ih =>
    intro s hs
    rw [tj] at hs
    rcases List.mem_append.1 hs with h | h
    · exact ih s h
    · split at h
      case isTrue hl =>
        obtain ⟨-, ⟨f0, f1⟩, ⟨t0, t1⟩, -⟩ := hx i hl.1
        obtain ⟨-, ⟨f2, f3⟩, ⟨t2, t3⟩, -⟩ := hx j hl.2
        unfold pr at h
        split at h
        case isTrue hc =>
          simp only [List.mem_singleton] at h
          subst h
          have hc := hc.1
          unfold prF prT at hc ⊢
          unfold ok
          simp only at hc ⊢
          refine ⟨?_, hc, ?_⟩ <;> split <;> omega
        case isFalse hc => cases h
      case isFalse hl => cases h
theorem tm_ok {xs : LR} (hx : ∀ j (h : j < xs.length), rOk xs[j].1 xs[j].2.1 xs[j].2.2) (q : Bool) (N : Nat) : ∀ s ∈ tm xs q N, ok s := by
  induction N with
  | zero => intro s hs; simp [tm] at hs
  | succ i ih =>
    intro s hs
    rw [tm] at hs
    exact (List.mem_append.1 hs).elim (ih s) (tj_ok hx q i (i + 1) s)

def TmL (xs : LR) (q : Bool) (N : Nat) (w0 : World) (m : Nat) (v i : Value) (wr : World) : Prop :=
  ∃ (j : Nat) (acc : Sets.L), i = .int .i64 j ∧ m = N - j ∧ j ≤ N ∧ Hid (acc = tm xs q j) ∧ acc.length ≤ j * 31 ∧ Own wr w0.heap.size v acc ∧ Below w0.heap.size w0 wr
def TjL (xs : LR) (q : Bool) (i : Nat) (w0 : World) (m : Nat) (v k : Value) (wr : World) : Prop :=
  ∃ (j : Nat) (acc : Sets.L), k = .int .i64 j ∧ m = i + 1 - j ∧ j ≤ i + 1 ∧ Hid (acc = tm xs q i ++ tj xs q i j) ∧ acc.length ≤ i * 31 + j ∧ Own wr w0.heap.size v acc ∧ Below w0.heap.size w0 wr

set_option maxRecDepth 100000 in
set_option maxHeartbeats 4000000 in
theorem spec_times7 (A : Option Addr) (N c : Nat) (xs : LR) (hn : N ≤ 30) (l : Int) (qq : Bool) (hq : (l == 1) = qq) (hx : Hid (∀ j (h : j < xs.length), rOk xs[j].1 xs[j].2.1 xs[j].2.2)) (w : World) (h : RdR w A N xs) :
    Calls Try.prog 67 #[.slice A N c, .int .i64 l] w (SpansO (make (tm xs qq N)) w) := by
  have own0 := Own.made0 w
  have hb0 : Below w.heap.size w (w.alloc (.cells #[] 31)) := (Below.refl _ _).alloc (Nat.le_refl _) _
  go_enter Try.func67, Try.ntmps67
  go_wp2_with fail
  go_loopg [5, 6] N (fun m v i wr => TmL xs qq N w m v i wr)
  case atStart => exact ⟨0, [], rfl, by omega, by omega, Lib.hid rfl, by simp, own0, hb0⟩
  case round =>
    clear own0 hb0
    obtain ⟨i, acc0, rfl, hm, hi, HA, hl, hown, hb⟩ := hrel
    subst hm
    by_cases hlt : i < N
    · have HT := Lib.hid (show acc0 = tm xs qq i ++ tj xs qq i 0 by rw [HA.out, tj, List.append_nil])
      clear HA
      go_wp2_with fail
      go_loopg [5, 7] (i + 1) (fun m v k wr => TjL xs qq i w m v k wr)
      case atStart => exact ⟨0, acc0, rfl, by omega, by omega, HT, by omega, hown, hb⟩
      case round =>
        clear HT hown hb hl
        obtain ⟨j, acc, rfl, hm, hj, HA, hl, hown, hb⟩ := hrel
        subst hm
        by_cases hji : j ≤ i
        · obtain ⟨g, off, hil, rfl, -, hg, -, p1, p2⟩ := (h.below hb).at_ hlt
          obtain ⟨g', off', hjl, e', -, -, -, q1, q2⟩ := (h.below hb).at_ (k := j) (by omega)
          obtain ⟨rfl, rfl⟩ : g = g' ∧ off = off' := by injection e' with e'; injection e' with e1 e2; exact ⟨e1, e2⟩
          clear e'
          obtain ⟨f, hF⟩ : ∃ f, (if xs[i].2.1 < xs[j].2.1 then xs[j].2.1 else xs[i].2.1) = f := ⟨_, rfl⟩
          obtain ⟨e, hE⟩ : ∃ e, (if xs[j].2.2 < xs[i].2.2 then xs[j].2.2 else xs[i].2.2) = e := ⟨_, rfl⟩
          have hjn : (j : Int) < (N : Int) := by omega
          go_wp2_with fail
          refine' via ?proof ?rest
          case rest => (intro hK; go_region; exact hK)
          have hb1 : Below w.heap.size w ((wr.alloc (.cells #[.int .i64 f, .int .i64 e] 31)).drew) := (hb.alloc hb.size _).drew
          have own1 : Own ((wr.alloc (.cells #[.int .i64 f, .int .i64 e] 31)).drew) w.heap.size _ acc := hown.below ((Below.refl _ _).alloc (Nat.le_refl _) _).drew
          have q := (Blk.new wr 31 #[.int .i64 f, .int .i64 e]).drew
          generalize (wr.alloc (.cells #[.int .i64 f, .int .i64 e] 31)).drew = w1 at q hb1 own1 ⊢
          have z0 : w1.cell? ⟨wr.heap.size, 0, none⟩ = some (.int .i64 f) := by simpa using q.cell 0
          have z1 : w1.cell? ⟨wr.heap.size, 1, none⟩ = some (.int .i64 e) := by simpa using q.cell 1
          clear q
          by_cases hle : f ≤ e
          · rcases Bool.eq_false_or_eq_true qq with hqq | hqq
            · have HN := Lib.hid (tj_yes hil hjl hF hE hle (by rw [hqq]; rfl) HA.out)
              rw [hqq] at hq
              clear HA
              go_wp2_with (at_builtin; refine append_span hb1 own1 (by omega) rfl (.tmp 58) (.tmp 60) rfl rfl rfl ?_)
              intro v2 w2 own2 hb2
              clear own1 hb1 hb p1 p2 q1 q2 z0 z1 hF hE
              go_wp2_with fail
              go_roundg (i + 1 - (j + 1))
              case measure => omega
              case rel => exact ⟨j + 1, _, by go_num, rfl, by omega, HN, by simp; omega, own2, hb2⟩
            · rw [hqq] at hq
              by_cases hne : i = j
              · have HN := Lib.hid (tj_no hil hjl hF hE (fun k => by rw [hqq] at k; simp [hne] at k) HA.out)
                have hd3 : ((i : Int) != (j : Int)) = false := by simp [hne]
                clear hne
                clear hb p1 p2 q1 q2 hF hE HA
                go_wp2_with fail
                go_roundg (i + 1 - (j + 1))
                case measure => omega
                case rel => exact ⟨j + 1, _, by go_num, rfl, by omega, HN, by omega, own1, hb1⟩
              · have HN := Lib.hid (tj_yes hil hjl hF hE hle (by simp [hne]) HA.out)
                have hd3 : ((i : Int) != (j : Int)) = true := by simp; omega
                clear hne HA
                go_wp2_with (at_builtin; refine append_span hb1 own1 (by omega) rfl (.tmp 58) (.tmp 60) rfl rfl rfl ?_)
                intro v2 w2 own2 hb2
                clear own1 hb1 hb p1 p2 q1 q2 z0 z1 hF hE
                go_wp2_with fail
                go_roundg (i + 1 - (j + 1))
                case measure => omega
                case rel => exact ⟨j + 1, _, by go_num, rfl, by omega, HN, by simp; omega, own2, hb2⟩
          · have HN := Lib.hid (tj_no hil hjl hF hE (fun k => hle k.1) HA.out)
            have hd : decide (f ≤ e) = false := by simpa using hle
            clear hb p1 p2 q1 q2 hF hE HA
            go_wp2_with fail
            go_roundg (i + 1 - (j + 1))
            case measure => omega
            case rel => exact ⟨j + 1, _, by go_num, rfl, by omega, HN, by omega, own1, hb1⟩
        · have e : j = i + 1 := by omega
          have HN := Lib.hid (show acc = tm xs qq (i + 1) by rw [tm, HA.out, e])
          have hd : decide ((j : Int) ≤ (i : Int)) = false := by simp; omega
          clear HA
          go_wp2_with fail
          go_roundg (N - (i + 1))
          case measure => omega
          case rel => exact ⟨i + 1, _, by go_num, rfl, by omega, HN, by omega, hown, hb⟩
    · have e : i = N := by omega
      have HV : acc0 = tm xs qq N := by rw [HA.out, e]
      subst HV
      have hge : (N : Int) ≤ i := by omega
      have hok := Lib.hid (tm_ok hx.out qq N)
      have hlN : (tm xs qq N).length ≤ 2000 := by omega
      clear HA e
      obtain ⟨A2, c2, rfl, row2⟩ := hown.form
      have MK := Lib.hid (fun wr (k : Sets.Rd wr A2 (tm xs qq N).length (tm xs qq N)) => spec_makeO A2 _ c2 _ hlN hok wr k)
      go_wp2_with fail
      refine (MK.out _ row2.rd).mono ?_
      rintro e w2 ⟨v, rfl, own3, hb3⟩
      have hb4 := hb.trans (hb3.mono hb.size)
      have own4 := own3.mono hb.size
      go_wp2_with fail
      go_ret
      exact ⟨_, rfl, own4, hb4⟩

end Go.Proofs.Ytfhcakpmlppbkaa.Rei
