/- Shifted sets: impl's and spec's. -/
import Derived.Test.YtigjpalbaapkkaaMeetS
namespace Go.Proofs.Ytigjpalbaapkkaa.Sets
open Go.RowKit

theorem moved_get (xs : L) (d : Int) (k : Nat) (h : k < (moved xs d).length) : (moved xs d)[k] = ((xs[k]'(by simpa [moved] using h)).1 + d, (xs[k]'(by simpa [moved] using h)).2 + d) := by
  simp [moved]
theorem moved_len (xs : L) (d : Int) : (moved xs d).length = xs.length := by simp [moved]

set_option maxHeartbeats 4000000 in
set_option maxRecDepth 100000 in
theorem impl_shiftT (T : L) (A : Option Addr) (n c : Nat) (xs : L) (d : Int) (hT : Hid (shift xs d = T)) (hn : n ≤ 300) (hnf : Hid (NF 0 xs)) (d0 : -730499 ≤ d) (d1 : d ≤ 730499) (w : World) (hx : Rd w A n xs) :
    Calls Try.prog 93 #[.slice A n c, .int .i64 d] w (Spans T w) := by
  have hmk := run_make_spans n (by omega)
  have hlx := hx.1
  go_enter Try.func93, Try.ntmps93
  go_wp2_with fail
  clear hmk
  go_loopg [13] n (fun m i wr => ∃ k : Nat, k ≤ n ∧ m = n - k ∧ i = .int .i64 k ∧ Below w.heap.size w wr ∧ Fill wr w.heap.size k n (moved xs d))
  case atStart => exact ⟨0, by omega, by omega, rfl, (Below.refl _ _).alloc (Nat.le_refl _) _, _, size_madeCells _ _, Blk.new _ _ _, fun j _ h => absurd h (by omega)⟩
  case round =>
    obtain ⟨k, hk, hm, rfl, hb, hf⟩ := hrel
    subst hm
    by_cases hlt : k < n
    · obtain ⟨g, off, hl, rfl, hg, c0, c1⟩ := (hx.below hb).at_ hlt
      have ok1 : ok xs[k] := hnf.out.ok_of _ (List.getElem_mem hl)
      obtain ⟨s0, s1, s2⟩ := ok1
      have bw : Below wr.heap.size wr (wr.alloc (.cells #[.int .i64 xs[k].1, .int .i64 xs[k].2] 40)) := (Below.refl _ _).alloc (Nat.le_refl _) _
      have hf2 := hf.below bw
      obtain ⟨⟨u, e0⟩, ⟨u', e1⟩, f0, f1⟩ := hf2.cells hlt
      have st := hf2.step (by rw [moved_len]; exact hl) hlt
      rw [moved_get] at st
      have HF := Lib.hid st
      have hb1 := below_on hb bw
      clear hf hf2 st bw
      go_wp2_with fail
      go_roundg (n - (k + 1))
      case measure => omega
      case rel => exact ⟨k + 1, by omega, by omega, by go_num, (hb1.setCell (Nat.le_refl _) _).setCell (Nat.le_refl _) _, HF.out⟩
    · have e : k = n := by omega
      subst e
      have E := Lib.hid (show meet (moved xs d) [(0, 730499)] = T by rw [meet_shift hnf.out]; exact hT.out)
      have hf3 : Fill wr w.heap.size (moved xs d).length k (moved xs d) := by rw [moved_len, hlx]; exact hf
      have hrow := hf3.row (B := w.heap.size) (c := k) (by rw [moved_len, hlx]; omega) (Nat.le_refl _)
      rw [moved_len, hlx] at hrow
      have bw : Below wr.heap.size wr (wr.alloc (.cells #[.int .i64 0, .int .i64 730499] 40)) := (Below.refl _ _).alloc (Nat.le_refl _) _
      have r1 : Rd (wr.alloc (.cells #[.int .i64 0, .int .i64 730499] 40)) (some ⟨w.heap.size, 0, none⟩) k (moved xs d) := hrow.rd.below bw
      have q := Blk.new wr 40 #[.int .i64 0, .int .i64 730499]
      have r2 : Rd (wr.alloc (.cells #[.int .i64 0, .int .i64 730499] 40)) (some ⟨wr.heap.size, 0, none⟩) 1 [((0 : Int), (730499 : Int))] := ⟨rfl, fun _ => ⟨_, 0, rfl, by simp, fun j hj => by
        have : j = 0 := by simpa using hj
        subst this
        have q0 := q.cell 0
        have q1 := q.cell 1
        simp only [List.getElem?_toArray, List.getElem?_cons_zero, List.getElem?_cons_succ] at q0 q1
        exact ⟨q0, q1⟩⟩⟩
      have hb1 := below_on hb bw
      have R1 := Lib.hid r1
      have R2 := Lib.hid r2
      clear hf hf3 hrow q r1 r2 bw
      go_wp2_with fail
      refine (impl_meetT T (k + 1) _ _ k 1 k 1 (moved xs d) [(0, 730499)] E (Nat.le_refl _) (by omega) (Nat.le_refl _) (Nat.le_refl _) _ R1.out R2.out).mono ?_
      rintro e w3 ⟨A3, c3, rfl, r3, b3⟩
      have HR := Lib.hid (r3.mono hb1.size (Nat.le_refl _) (Nat.le_refl _))
      have hfin := below_on hb1 b3
      clear r3
      go_wp2_with fail
      go_ret
      exact ⟨_, _, rfl, HR.out, hfin⟩

theorem shift_hit {xs acc T : L} {d f e : Int} {k : Nat} (hk : k < xs.length) (hF : (if 0 < xs[k].1 + d then xs[k].1 + d else 0) = f) (hE : (if xs[k].2 + d < 730499 then xs[k].2 + d else 730499) = e) (hle : f ≤ e) (h : acc ++ shift (xs.drop k) d = T) :
    (acc ++ [(f, e)]) ++ shift (xs.drop (k + 1)) d = T := by
  have h1 : max 0 (xs[k].1 + d) = f := by rw [← hF]; split <;> omega
  have h2 : min 730499 (xs[k].2 + d) = e := by rw [← hE]; split <;> omega
  rw [List.drop_eq_getElem_cons hk, shift, h1, h2, if_pos hle] at h
  rw [List.append_assoc]; exact h
theorem shift_miss {xs acc T : L} {d f e : Int} {k : Nat} (hk : k < xs.length) (hF : (if 0 < xs[k].1 + d then xs[k].1 + d else 0) = f) (hE : (if xs[k].2 + d < 730499 then xs[k].2 + d else 730499) = e) (hle : ¬ f ≤ e) (h : acc ++ shift (xs.drop k) d = T) :
    acc ++ shift (xs.drop (k + 1)) d = T := by
  have h1 : max 0 (xs[k].1 + d) = f := by rw [← hF]; split <;> omega
  have h2 : min 730499 (xs[k].2 + d) = e := by rw [← hE]; split <;> omega
  rw [List.drop_eq_getElem_cons hk, shift, h1, h2, if_neg hle] at h
  simpa using h
def ShiftLoop (T xs : L) (d : Int) (n : Nat) (w : World) (m : Nat) (v i : Value) (wr : World) : Prop :=
  ∃ (k : Nat) (acc : L), i = .int .i64 k ∧ m = n - k ∧ k ≤ n ∧ Own wr w.heap.size v acc ∧ Below w.heap.size w wr ∧ acc.length ≤ k ∧ Hid (acc ++ shift (xs.drop k) d = T)

set_option maxHeartbeats 4000000 in
set_option maxRecDepth 100000 in
theorem spec_shiftT (T : L) (A : Option Addr) (n c : Nat) (xs : L) (d : Int) (hT : Hid (shift xs d = T)) (hn : n ≤ 300) (hnf : Hid (NF 0 xs)) (d0 : -730499 ≤ d) (d1 : d ≤ 730499) (w : World) (hx : Rd w A n xs) :
    Calls Try.prog 96 #[.slice A n c, .int .i64 d] w (Spans T w) := by
  have hlx := hx.1
  go_enter Try.func96, Try.ntmps96
  go_wp2_with fail
  go_loopg [5, 6] n (fun m v i wr => ShiftLoop T xs d n w m v i wr)
  case atStart => exact ⟨0, [], rfl, by omega, by omega, Own.made0 w, (Below.refl _ _).alloc (Nat.le_refl _) _, by simp, Lib.hid (by simpa using hT.out)⟩
  case round =>
    obtain ⟨k, acc, rfl, hm, hk, hown, hb, hlen, HT⟩ := hrel
    subst hm
    by_cases hlt : k < n
    · obtain ⟨g, off, hl, rfl, hg, c0, c1⟩ := (hx.below hb).at_ hlt
      have ok1 : ok xs[k] := hnf.out.ok_of _ (List.getElem_mem hl)
      obtain ⟨s0, s1, s2⟩ := ok1
      obtain ⟨f, hF⟩ : ∃ f, (if 0 < xs[k].1 + d then xs[k].1 + d else 0) = f := ⟨_, rfl⟩
      obtain ⟨e, hE⟩ : ∃ e, (if xs[k].2 + d < 730499 then xs[k].2 + d else 730499) = e := ⟨_, rfl⟩
      have w1' : IntKind.i64.wrap (xs[k].1 + d) = xs[k].1 + d := IntWalk.i64_in _ ⟨by omega, by omega⟩
      have w2' : IntKind.i64.wrap (xs[k].2 + d) = xs[k].2 + d := IntWalk.i64_in _ ⟨by omega, by omega⟩
      go_wp2_with fail
      refine' via ?proof ?rest
      case rest => (intro hK; go_region; exact hK)
      have hb1 : Below w.heap.size w ((wr.alloc (.cells #[.int .i64 f, .int .i64 e] 40)).drew) := (hb.alloc hb.size _).drew
      have own1 : Own ((wr.alloc (.cells #[.int .i64 f, .int .i64 e] 40)).drew) w.heap.size _ acc := hown.below ((Below.refl _ _).alloc (Nat.le_refl _) _).drew
      have q := (Blk.new wr 40 #[.int .i64 f, .int .i64 e]).drew
      generalize (wr.alloc (.cells #[.int .i64 f, .int .i64 e] 40)).drew = w1 at q hb1 own1 ⊢
      have z0 : w1.cell? ⟨wr.heap.size, 0, none⟩ = some (.int .i64 f) := by simpa using q.cell 0
      have z1 : w1.cell? ⟨wr.heap.size, 1, none⟩ = some (.int .i64 e) := by simpa using q.cell 1
      clear q w1' w2'
      by_cases hle : f ≤ e
      · have HT2 := Lib.hid (shift_hit hl hF hE hle HT.out)
        clear HT hF hE
        go_wp2_with (at_builtin; refine append_span hb1 own1 (by omega) rfl (.tmp 37) (.tmp 39) rfl rfl rfl ?_)
        intro v2 w2 own2 hb2
        have hl2 : (acc ++ [(f, e)]).length ≤ k + 1 := by simp; omega
        clear own1 hb1 hlen hb c0 c1 z0 z1
        go_wp2_with fail
        go_roundg (n - (k + 1))
        case measure => omega
        case rel => exact ⟨k + 1, _, by go_num, rfl, by omega, own2, hb2, hl2, HT2⟩
      · have HT2 := Lib.hid (shift_miss hl hF hE hle HT.out)
        have hd : decide (f ≤ e) = false := by simpa using hle
        have hl2 : acc.length ≤ k + 1 := by omega
        clear HT hF hE hlen hb c0 c1
        go_wp2_with fail
        go_roundg (n - (k + 1))
        case measure => omega
        case rel => exact ⟨k + 1, _, by go_num, rfl, by omega, own1, hb1, hl2, HT2⟩
    · have E : acc = T := by
        have := HT.out
        rw [show xs.drop k = [] from List.drop_eq_nil_of_le (by omega)] at this
        simpa [shift] using this
      subst E
      obtain ⟨A, c, rfl, hrow⟩ := hown.form
      have R := Lib.hid hrow
      clear hrow
      go_wp2_with fail
      go_ret
      exact ⟨_, _, rfl, R.out, hb⟩

def shiftV (xs : L) (d : Int) : L := if setB xs then (if -730499 ≤ d ∧ d ≤ 730499 then shift xs d else []) else []
def shiftE (xs : L) (d : Int) : Int := if setB xs then (if -730499 ≤ d ∧ d ≤ 730499 then 0 else 2) else 1
theorem shiftV_len (xs : L) (d : Int) : (shiftV xs d).length ≤ 2000000 := by
  unfold shiftV
  split
  · rename_i h
    have := set_len h
    split
    · have := shift_length xs d; omega
    · simp
  · simp

theorem impl_ShiftSet (A : Option Addr) (n c : Nat) (xs : L) (d : Int) (hn : n ≤ maxLen) (_hd : (Lit.int .i64 d).wf = true) (_h1 : n ≤ c) (w : World) (hx : Rd w A n xs) :
    Calls Try.prog 46 #[.slice A n c, .int .i64 d] w (SetOut (shiftV xs d) (shiftE xs d) w) := by
  have N1 := Lib.hid hn
  clear hn _hd _h1
  by_cases hs : setB xs = true
  · have S1 := Lib.hid hs
    by_cases hd : -730499 ≤ d ∧ d ≤ 730499
    · have EV : shiftV xs d = shift xs d := by simp [shiftV, hs, hd]
      have EE : shiftE xs d = 0 := by simp [shiftE, hs, hd]
      have L1 : n ≤ 300 := by have := set_len hs; have := hx.1; omega
      have L2 : (shift xs d).length ≤ 300 := by have := shift_length xs d; have := set_len hs; omega
      have HL := Lib.hid L2
      rw [EV, EE]
      obtain ⟨d0, d1⟩ := hd
      clear EV EE hs L2
      go_enter Try.func46, Try.ntmps46
      go_wp2_with fail
      refine (impl_IsSetB A n c xs true S1.out N1.out _ hx).mono ?_
      rintro e w1 ⟨rfl, b1⟩
      go_wp2_with fail
      refine (impl_shiftT (shift xs d) A n c xs d (Lib.hid rfl) L1 (Lib.hid (set_nf S1.out)) d0 d1 _ (hx.below b1)).mono ?_
      rintro e w3 ⟨A3, c3, rfl, r3, b3⟩
      have k3 := below_on b1 b3
      go_wp2_with fail
      refine (impl_res_short A3 _ c3 HL.out _).mono ?_
      rintro e w4 ⟨rfl, rfl⟩
      go_wp2_with fail
      go_ret2
      exact ⟨_, _, rfl, (r3.mono b1.size (Nat.le_refl _) (Nat.le_refl _)), k3⟩
    · have EV : shiftV xs d = [] := by simp [shiftV, hd]
      have EE : shiftE xs d = 2 := by simp [shiftE, hs, hd]
      rw [EV, EE]
      clear EV EE hs
      by_cases d0 : d < -730499
      · clear hd
        go_enter Try.func46, Try.ntmps46
        go_wp2_with fail
        refine (impl_IsSetB A n c xs true S1.out N1.out _ hx).mono ?_
        rintro e w1 ⟨rfl, b1⟩
        go_wp2_with fail
        go_ret2
        exact ⟨none, 0, rfl, Row.nil (Nat.le_refl _), b1⟩
      · have d1 : 730499 < d := by omega
        clear hd
        go_enter Try.func46, Try.ntmps46
        go_wp2_with fail
        refine (impl_IsSetB A n c xs true S1.out N1.out _ hx).mono ?_
        rintro e w1 ⟨rfl, b1⟩
        go_wp2_with fail
        go_ret2
        exact ⟨none, 0, rfl, Row.nil (Nat.le_refl _), b1⟩
  · have hs' : setB xs = false := by simpa using hs
    have S1 := Lib.hid hs'
    have EV : shiftV xs d = [] := by simp [shiftV, hs']
    have EE : shiftE xs d = 1 := by simp [shiftE, hs']
    rw [EV, EE]
    clear hs hs' EV EE
    go_enter Try.func46, Try.ntmps46
    go_wp2_with fail
    refine (impl_IsSetB A n c xs false S1.out N1.out _ hx).mono ?_
    rintro e w1 ⟨rfl, b1⟩
    go_wp2_with fail
    go_ret2
    exact ⟨none, 0, rfl, Row.nil (Nat.le_refl _), b1⟩

theorem spec_ShiftSet (A : Option Addr) (n c : Nat) (xs : L) (d : Int) (hn : n ≤ maxLen) (_hd : (Lit.int .i64 d).wf = true) (w : World) (hx : Rd w A n xs) :
    Calls Try.prog 47 #[.slice A n c, .int .i64 d] w (SetOut (shiftV xs d) (shiftE xs d) w) := by
  have N1 := Lib.hid hn
  clear hn _hd
  by_cases hs : setB xs = true
  · have S1 := Lib.hid hs
    by_cases hd : -730499 ≤ d ∧ d ≤ 730499
    · have EV : shiftV xs d = shift xs d := by simp [shiftV, hs, hd]
      have EE : shiftE xs d = 0 := by simp [shiftE, hs, hd]
      have L1 : n ≤ 300 := by have := set_len hs; have := hx.1; omega
      have HI := Lib.hid (show decide (-730499 ≤ d ∧ d ≤ 730499) = true from decide_eq_true hd)
      rw [EV, EE]
      obtain ⟨d0, d1⟩ := hd
      clear EV EE hs
      go_enter Try.func47, Try.ntmps47
      go_wp2_with fail
      refine (spec_IsSetB A n c xs true S1.out N1.out _ hx).mono ?_
      rintro e w1 ⟨rfl, b1⟩
      go_wp2_with fail
      refine (spec_in d (-730499) 730499 true HI.out _).mono ?_
      rintro e w2 ⟨rfl, rfl⟩
      go_wp2_with fail
      refine (spec_shiftT (shift xs d) A n c xs d (Lib.hid rfl) L1 (Lib.hid (set_nf S1.out)) d0 d1 _ (hx.below b1)).mono ?_
      rintro e w3 ⟨A3, c3, rfl, r3, b3⟩
      have k3 := below_on b1 b3
      go_wp2_with fail
      go_ret2
      exact ⟨_, _, rfl, (r3.mono b1.size (Nat.le_refl _) (Nat.le_refl _)), k3⟩
    · have EV : shiftV xs d = [] := by simp [shiftV, hd]
      have EE : shiftE xs d = 2 := by simp [shiftE, hs, hd]
      have HI := Lib.hid (show decide (-730499 ≤ d ∧ d ≤ 730499) = false from decide_eq_false hd)
      rw [EV, EE]
      clear EV EE hs hd
      go_enter Try.func47, Try.ntmps47
      go_wp2_with fail
      refine (spec_IsSetB A n c xs true S1.out N1.out _ hx).mono ?_
      rintro e w1 ⟨rfl, b1⟩
      go_wp2_with fail
      refine (spec_in d (-730499) 730499 false HI.out _).mono ?_
      rintro e w2 ⟨rfl, rfl⟩
      go_wp2_with fail
      go_ret2
      exact ⟨none, 0, rfl, Row.nil (Nat.le_refl _), b1⟩
  · have hs' : setB xs = false := by simpa using hs
    have S1 := Lib.hid hs'
    have EV : shiftV xs d = [] := by simp [shiftV, hs']
    have EE : shiftE xs d = 1 := by simp [shiftE, hs']
    rw [EV, EE]
    clear hs hs' EV EE
    go_enter Try.func47, Try.ntmps47
    go_wp2_with fail
    refine (spec_IsSetB A n c xs false S1.out N1.out _ hx).mono ?_
    rintro e w1 ⟨rfl, b1⟩
    go_wp2_with fail
    go_ret2
    exact ⟨none, 0, rfl, Row.nil (Nat.le_refl _), b1⟩

end Go.Proofs.Ytigjpalbaapkkaa.Sets
