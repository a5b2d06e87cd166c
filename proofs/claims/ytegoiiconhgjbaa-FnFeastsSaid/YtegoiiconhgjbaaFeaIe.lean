/- Contracts of impl's dates of feasts in some years, and of FeastsOn. -/
import Derived.Test.YtegoiiconhgjbaaFeaId
import Derived.Test.YtegoiiconhgjbaaFeaE
import Derived.Test.YtegoiiconhgjbaaFdR
import Derived.Test.YtegoiiconhgjbaaIntR
namespace Go.Proofs.Ytegoiiconhgjbaa.Fea
open Go.RowKit
open Go.Proofs.Ytegoiiconhgjbaa.Eas (isY It)
attribute [local go_sem high] run_max_m run_min_m

/-- What a call leaves that answers a row of dates of feasts. -/
def FdO (xs : List (Int × Int)) (w : World) (e : Ending) (w' : World) : Prop := ∃ v, e = .returned v ∧ Fdt.Own w' w.heap.size v xs ∧ Below w.heap.size w w'
def YL (A : Int) (N : Nat) (w0 : World) (k : Nat) (v i : Value) (wr : World) : Prop :=
  ∃ (n : Nat) (acc : List (Int × Int)), i = .int .i64 (A + n) ∧ k = N - n ∧ n ≤ N ∧ Hid (acc = fdy A n) ∧ Fdt.Own wr w0.heap.size v acc ∧ Below w0.heap.size w0 wr
def DL (A : Int) (n : Nat) (w0 : World) (k : Nat) (v i : Value) (wr : World) : Prop :=
  ∃ (f : Nat) (acc : List (Int × Int)), i = .int .i64 f ∧ k = 20 - f ∧ f ≤ 20 ∧ Hid (acc = fdy A n ++ fds (A + n) f) ∧ Fdt.Own wr w0.heap.size v acc ∧ Below w0.heap.size w0 wr

set_option maxRecDepth 100000 in
set_option maxHeartbeats 4000000 in
theorem impl_dates (a b A B : Int) (hA : max a 1 = A) (hB : min b 2000 = B) (N : Nat) (hN : (N : Int) = B + 1 - A) (hN4 : N ≤ 4) (w : World) : Calls Try.prog 99 #[.int .i64 a, .int .i64 b] w (FdO (fdy A N) w) := by
  have R := Lib.hid impl_rules
  have HX := Lib.hid ruV_index
  have hA1 : 1 ≤ A := by omega
  have hB2 : B ≤ 2000 := by omega
  go_enter Try.func99, Try.ntmps99
  go_wp2_with fail
  refine (R.out _).mono ?_
  rintro e w1 ⟨rfl, hb⟩
  clear R
  go_wp2_with (refine wpList_store_row rfl 80 _ _ rfl w1.heap.size ruV rfl rfl 80 ruZ (heap_alloc_last w1 _) (by kernel_rfl) rfl (by kernel_rfl) ?_; rw [World.setRow_alloc_new]; have hK := Blk.new w1 80 ruV; have hb0 := hb.alloc hb.size (.cells ruV 80); have hlt : w1.heap.size < (w1.alloc (.cells ruV 80)).heap.size := (by simp); generalize w1.alloc (.cells ruV 80) = w0 at hK hb0 hlt ⊢; generalize w1.heap.size = g at hK hlt ⊢)
  clear hb
  go_loopg [6, 7] N (fun k v i wr => YL A N w0 k v i wr)
  case atStart => exact ⟨0, [], by simp, by omega, by omega, Lib.hid rfl, Fdt.Own.nil w0 w0.heap.size, Below.refl _ _⟩
  case round =>
    obtain ⟨n, acc, rfl, hk, hn, HA, hown, hb2⟩ := hrel
    subst hk
    by_cases hlt2 : n < N
    · have hq : A + (n : Int) ≤ B := by omega
      have hy : isY (A + (n : Int)) := ⟨by omega, by omega⟩
      have HR := Lib.hid (fun (j : Nat) (hj : j < 20) => (⟨impl_rule j hj _ hy, ruF_enters j hj⟩ : (∀ w, Calls Try.prog (ruF j) #[.int .i64 (A + (n : Int))] w (It (fd j (A + (n : Int))) w)) ∧ _))
      have HN := Lib.hid (And.intro hN4 hy)
      clear hy
      go_wp2_with (refine wpList_load_row rfl 80 _ rfl g rfl 80 ruV (0, 0) _ (hK.below hb2 hlt) Try.underlying80 rfl (by kernel_rfl) ?_)
      go_loopg [6, 20] 20 (fun k v i wr => DL A n w0 k v i wr)
      case atStart => exact ⟨0, acc, rfl, by omega, by omega, Lib.hid (by rw [HA.out]; simp [fds]), hown, hb2⟩
      case round =>
        clear HA hown hb2 acc
        obtain ⟨f, acc, rfl, hk, hf, HA, hown, hb2⟩ := hrel
        subst hk
        by_cases hlt3 : f < 20
        · have hix := HX.out f hlt3
          obtain ⟨HD, eg⟩ := HR.out f hlt3
          have D := Lib.hid HD
          have hl : acc.length + 1 ≤ 8000000 := by
            rw [HA.out, List.length_append, fdy_len, fds_len]
            omega
          have HN2 : Hid (acc ++ [((f : Int), fd f (A + n))] = fdy A n ++ fds (A + n) (f + 1)) := Lib.hid (by rw [HA.out, List.append_assoc]; rfl)
          have hf3 : (f : Int) < 20 := by omega
          clear HD HA HX HR HN
          generalize ruF f = r at hix eg D
          generalize bs (nmL (f : Int)) = s at hix
          generalize fd (f : Int) (A + (n : Int)) = x at D HN2
          go_wp2_with fail
          have ho3 := (hown.below ((Below.refl _ _).alloc (Nat.le_refl _) (.cells #[.string s, .func (.func r) #[] #[]] 79)))
          have hb3 := hb2.alloc hb2.size (.cells #[.string s, .func (.func r) #[] #[]] 79)
          refine (D.out _).mono ?_
          rintro e w2 ⟨rfl, hb4⟩
          have ho4 := ho3.below hb4
          have hb5 := hb3.trans (hb4.mono hb3.size)
          clear hown ho3 hb3 hb4 hb2
          go_wp2_with (at_builtin; refine Fdt.append_fd hb5 ho4 hl rfl (.tmp 24) (.tmp 31) rfl rfl rfl ?_)
          intro v4 w4 own4 hb6
          clear ho4 hb5
          go_wp2_with fail
          go_roundg (20 - (f + 1))
          case measure => omega
          case rel => exact ⟨f + 1, _, by go_num, by omega, by omega, HN2, own4, hb6⟩
        · have e : f = 20 := by omega
          have hf3 : (20 : Int) ≤ f := by omega
          have HN2 : Hid (acc = fdy A (n + 1)) := Lib.hid (by rw [HA.out, e]; rfl)
          clear HA HX HR e
          go_wp2_with fail
          go_roundg (N - (n + 1))
          case measure => omega
          case rel => exact ⟨n + 1, acc, by push_cast; go_num, by omega, by omega, HN2, hown, hb2⟩
    · have e : n = N := by omega
      have hq : B + 1 ≤ A + (n : Int) := by omega
      have HV : acc = fdy A N := e ▸ HA.out
      subst HV
      clear HA HX e
      go_wp2_with fail
      go_ret
      exact ⟨_, rfl, hown.mono hb0.size, hb0.trans (hb2.mono hb0.size)⟩

theorem onD_snoc (n : Int) (xs : List (Int × Int)) (k : Nat) (h : k < xs.length) : onD n (xs.take (k + 1)) = onD n (xs.take k) ++ (if xs[k].2 = n then [xs[k].1] else []) := by
  rw [List.take_succ_eq_append_getElem h, onD_append]
  simp [onD]
theorem onD_len (n : Int) (xs : List (Int × Int)) : (onD n xs).length ≤ xs.length := by
  induction xs with
  | nil => exact Nat.le_refl _
  | cons p r ih => rw [onD, List.length_append, List.length_cons]; split <;> simp <;> omega
def OL (n : Int) (xs : List (Int × Int)) (w0 : World) (k : Nat) (v i : Value) (wr : World) : Prop :=
  ∃ (f : Nat) (acc : List Int), i = .int .i64 f ∧ k = xs.length - f ∧ f ≤ xs.length ∧ Hid (acc = onD n (xs.take f)) ∧ Ints.Own wr w0.heap.size v acc ∧ Below w0.heap.size w0 wr

set_option maxRecDepth 100000 in
set_option maxHeartbeats 4000000 in
theorem impl_FeastsOn_yes (n : Int) (h : isDay n) (w : World) : Calls Try.prog 36 #[.int .i64 n] w (IntsOut (fon n) 0 w) := by
  have O := Lib.hid (impl_dateYr n h)
  obtain ⟨y1, y2⟩ := yr_isY n h.1 h.2
  have F := Lib.hid (impl_dates (yr n) (yr n) (yr n) (yr n) (by omega) (by omega) 1 (by omega) (by omega))
  obtain ⟨xs, hxs⟩ : ∃ xs, fdy (yr n) 1 = xs := ⟨_, rfl⟩
  have HL := Lib.hid (show xs.length ≤ 20 by rw [← hxs, fdy_len]; omega)
  have HT : Hid (onD n xs = fon n) := Lib.hid (by rw [← hxs]; simp only [fdy, List.nil_append]; rw [onD_fds]; unfold fon; simp)
  rw [hxs] at F
  clear hxs h
  generalize fon n = T at HT ⊢
  generalize yr n = y at *
  go_enter Try.func36, Try.ntmps36
  go_wp2_with fail
  refine (O.out _).mono ?_
  rintro e w1 ⟨m, d, rfl, hb⟩
  have hb1 := hb.alloc hb.size (.cells #[.int .i64 y, .int .i64 m, .int .i64 d] 36)
  go_wp2_with fail
  refine (F.out _).mono ?_
  rintro e w0 ⟨v, rfl, ho, hb2⟩
  have hb0 := hb1.trans (hb2.mono hb1.size)
  obtain ⟨A, c, rfl, hr⟩ := ho.form
  have hrd := hr.rd
  clear ho hr hb hb1 hb2 O F
  go_wp2_with fail
  go_loopg [6, 22] xs.length (fun k v i wr => OL n xs w0 k v i wr)
  case atStart => exact ⟨0, [], rfl, by omega, by omega, Lib.hid rfl, Ints.Own.nil w0 w0.heap.size, Below.refl _ _⟩
  case round =>
    obtain ⟨f, acc, rfl, hk, hf, HA, hown, hb2⟩ := hrel
    subst hk
    by_cases hlt : f < xs.length
    · have hl : acc.length + 1 ≤ 8000000 := by
        have := onD_len n (xs.take f)
        have := HL.out
        rw [HA.out]
        simp only [List.length_take] at *
        omega
      obtain ⟨g, off, hl2, rfl, hg, c0, c1⟩ := (hrd.below hb2).at_ hlt
      have hlt2 : (f : Int) < xs.length := by omega
      have hf20 : (f : Int) < 20 := by have := HL.out; omega
      have HS := Lib.hid (onD_snoc n xs f hl2)
      by_cases hc : xs[f].2 = n
      · have HN : Hid (acc ++ [xs[f].1] = onD n (xs.take (f + 1))) := Lib.hid (by rw [HS.out, if_pos hc, HA.out])
        rw [hc] at c1
        clear hc HS HA HL
        generalize xs[f].1 = a at c0 HN
        have ho3 := hown.below ((Below.refl _ _).alloc (Nat.le_refl _) (.cells #[.int .i64 a, .int .i64 n] 87))
        have hb3 := hb2.alloc hb2.size (.cells #[.int .i64 a, .int .i64 n] 87)
        go_wp2_with (at_builtin; refine Ints.append_intG (by simp) hb3 ho3 hl rfl (.tmp 30) (.tmp 33) rfl rfl rfl ?_)
        intro v4 w4 own4 hb6
        clear ho3 hb3 hown hb2
        go_wp2_with fail
        go_roundg (xs.length - (f + 1))
        case measure => omega
        case rel => exact ⟨f + 1, _, by go_num, by omega, by omega, HN, own4, hb6⟩
      · have HN : Hid (acc = onD n (xs.take (f + 1))) := Lib.hid (by rw [HS.out, if_neg hc, List.append_nil, HA.out])
        have hc2 : (xs[f].2 == n) = false := by simpa using hc
        clear hc HS HA HL
        generalize xs[f].1 = a at c0
        generalize xs[f].2 = b at c1 hc2
        have ho3 := hown.below ((Below.refl _ _).alloc (Nat.le_refl _) (.cells #[.int .i64 a, .int .i64 b] 87))
        have hb3 := hb2.alloc hb2.size (.cells #[.int .i64 a, .int .i64 b] 87)
        go_wp2_with fail
        go_roundg (xs.length - (f + 1))
        case measure => omega
        case rel => exact ⟨f + 1, _, by go_num, by omega, by omega, HN, ho3, hb3⟩
    · have e : f = xs.length := by omega
      have HV : acc = T := by rw [HA.out, e, List.take_length, HT.out]
      have hlt2 : (xs.length : Int) ≤ f := by omega
      subst HV
      clear HA HT HL e
      go_wp2_with fail
      go_ret2
      exact IntsOut.of (hown.mono hb0.size) (hb0.trans (hb2.mono hb0.size))

theorem impl_FeastsOn_no (n : Int) (h : ¬ isDay n) (w : World) : Calls Try.prog 36 #[.int .i64 n] w (IntsOut [] 2 w) := by
  have O := Lib.hid (impl_dateNo n h)
  clear h
  go_enter Try.func36, Try.ntmps36
  go_wp2_with fail
  refine (O.out _).mono ?_
  rintro e w1 ⟨y, m, d, rfl, hb⟩
  have hb1 := hb.alloc hb.size (.cells #[.int .i64 y, .int .i64 m, .int .i64 d] 36)
  go_wp2_with fail
  go_ret2
  exact IntsOut.empty hb1
theorem impl_FeastsOn (n : Int) (w : World) : Calls Try.prog 36 #[.int .i64 n] w (IntsOut (onL n) (onE n) w) := by
  by_cases h : isDay n
  · rw [show onL n = fon n from if_pos h, show onE n = 0 from if_pos h]
    exact impl_FeastsOn_yes n h w
  · rw [show onL n = [] from if_neg h, show onE n = 2 from if_neg h]
    exact impl_FeastsOn_no n h w

end Go.Proofs.Ytegoiiconhgjbaa.Fea
