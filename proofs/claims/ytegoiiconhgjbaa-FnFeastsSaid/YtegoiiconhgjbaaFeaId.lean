/- Contracts of impl's FeastName, FeastNamed, RelatedDay and FeastDay. -/
import Derived.Test.YtegoiiconhgjbaaFeaIc
import Derived.Test.YtegoiiconhgjbaaSetI
import Derived.Laws.EntriesVeiled
namespace Go.Proofs.Ytegoiiconhgjbaa.Fea
open Go.RowKit
open Go.Proofs.Ytegoiiconhgjbaa.Eas (isY It)

theorem impl_FeastName (f : Int) (w : World) : Calls Try.prog 39 #[.int .i64 f] w (StrOut (nmL f) w) := by
  by_cases hf : isF f
  · have F := Lib.hid (impl_feast_yes f hf)
    have R := Lib.hid impl_rules
    obtain ⟨h0, h1⟩ := hf
    obtain ⟨j, rfl⟩ : ∃ j : Nat, f = j := ⟨f.toNat, by omega⟩
    have hj : j < 20 := by omega
    have hix := ruV_index j hj
    have hfl : ∀ (s : ByteArray) (x : Value) (w : World), (Instr.field 79 (.agg #[.string s, x]) 0).run Try.prog w = .ok (.string s) w := fun _ _ _ => by kernel_rfl
    unfold StrOut
    generalize ruV = V at R hix
    generalize bs (nmL (j : Int)) = s at hix ⊢
    clear hj h0 h1
    go_enter Try.func39, Try.ntmps39
    go_wp2_with fail
    refine (F.out _).mono ?_
    rintro e w1 ⟨rfl, rfl⟩
    go_wp2_with fail
    refine (R.out _).mono ?_
    rintro e w1 ⟨rfl, hb⟩
    go_wp2_with fail
    go_ret
    exact ⟨rfl, hb⟩
  · have F := Lib.hid (impl_feast_no f hf)
    have HL := Lib.hid (nmL_no f hf)
    clear hf
    go_enter Try.func39, Try.ntmps39
    go_wp2_with fail
    refine (F.out _).mono ?_
    rintro e w1 ⟨rfl, rfl⟩
    go_wp2_with fail
    go_ret
    exact ⟨ret_bs HL.out.symm, Below.refl _ _⟩

set_option maxHeartbeats 1000000 in
theorem impl_FeastNamed (s : ByteArray) (w : World) : Calls Try.prog 40 #[.string s] w (NamedOut s.toList w) := by
  have R := Lib.hid impl_rules
  have HI := Lib.hid ruV_index
  generalize ruV = V at R HI
  go_enter Try.func40, Try.ntmps40
  go_wp2_with fail
  refine (R.out _).mono ?_
  rintro e w1 ⟨rfl, hb0⟩
  clear R
  go_wp2_with fail
  go_loopg [7] 20 (fun m i wr => ∃ k : Nat, k ≤ 20 ∧ m = 20 - k ∧ i = .int .i64 k ∧ Hid (∀ i : Nat, i < k → nms[i]? ≠ some s.toList) ∧ Below w.heap.size w wr)
  case atStart => exact ⟨0, by omega, by omega, rfl, Lib.hid (fun i h => by omega), hb0⟩
  case round =>
    obtain ⟨k, hk, hm, rfl, HK, hb⟩ := hrel
    subst hm
    by_cases hlt : k < 20
    · have ht := nmL_get k hlt
      have hix := HI.out k hlt
      clear HI
      have et := bs_toList (nmL (k : Int))
      generalize nmL (k : Int) = t at ht hix et
      have hlt2 : (k : Int) < 20 := by omega
      by_cases hs : t = s.toList
      · have e : ((bs t).toList == s.toList) = true := by rw [et, hs]; simp
        have HN := Lib.hid (show NamedAns s.toList k true from ⟨k, .inl ⟨k, rfl, hs ▸ ht, HK.out⟩, .inl ⟨by omega, rfl, rfl⟩⟩)
        clear ht hs et HK
        generalize bs t = t at *
        go_wp2_with fail
        go_ret2
        exact ⟨k, true, HN, rfl, hb.alloc hb.size _⟩
      · have e : ((bs t).toList == s.toList) = false := by rw [et]; simpa using hs
        have HN : Hid (∀ i : Nat, i < k + 1 → nms[i]? ≠ some s.toList) := fun i hi ei => by
          by_cases h : i = k
          · subst h; rw [ht] at ei; injection ei with ei; exact hs ei
          · exact HK.out i (by omega) ei
        clear ht hs et HK
        generalize bs t = t at *
        go_wp2_with fail
        go_roundg (20 - (k + 1))
        case measure => omega
        case rel => exact ⟨k + 1, by omega, by omega, by go_num, HN, hb.alloc hb.size _⟩
    · have HN := Lib.hid (show NamedAns s.toList 0 false from ⟨-1, .inr ⟨rfl, fun i e => by
        by_cases h : i < k
        · exact HK.out i h e
        · rw [List.getElem?_eq_none (by rw [nms_len]; omega)] at e; cases e⟩, .inr ⟨rfl, rfl, rfl⟩⟩)
      have hge : (20 : Int) ≤ k := by omega
      clear HK HI
      go_wp2_with fail
      go_ret2
      exact ⟨0, false, HN, rfl, hb⟩

set_option maxRecDepth 100000 in
set_option maxHeartbeats 2000000 in
theorem impl_RelatedDay_yes (f r k y n V E : Int) (hf : isF f) (hy : isY y) (hr : isR r k) (hn : rd r k (fd f y) = n) (b : Bool) (hd : decide (0 ≤ n ∧ n ≤ 730499) = b) (hV : (b = true ∧ n = V ∧ 0 = E) ∨ (b = false ∧ 0 = V ∧ 4 = E)) (w : World) :
    Calls Try.prog 33 #[.int .i64 f, .int .i64 r, .int .i64 k, .int .i64 y] w (Two V E w) := by
  have F := Lib.hid (impl_feast_yes f hf)
  have R := Lib.hid (impl_relation_yes r k hr)
  have Y := Lib.hid (impl_year_yes y hy.1 hy.2)
  have A := Lib.hid impl_rules
  obtain ⟨n0, n1⟩ := fd_bd f y hy
  have N := Lib.hid (impl_relNum (fd f y) r k n n0 n1 hr hn)
  obtain ⟨h0, h1⟩ := hf
  obtain ⟨j, rfl⟩ : ∃ j : Nat, f = j := ⟨f.toNat, by omega⟩
  have hj : j < 20 := by omega
  have hix := ruV_index j hj
  have eg := ruF_enters j hj
  have D := Lib.hid (impl_rule j hj y hy)
  have hfl : ∀ (s : ByteArray) (x : Nat) (w : World), (Instr.field 79 (.agg #[.string s, .func (.func x) #[] #[]]) 1).run Try.prog w = .ok (.func (.func x) #[] #[]) w := fun _ _ _ => by kernel_rfl
  have L := Lib.hid (Sets.impl_isDay n b hd)
  generalize fd (j : Int) y = m at *
  generalize ruV = V at A hix
  generalize bs (nmL (j : Int)) = s at hix
  generalize ruF j = g at hix D eg
  clear hj h0 h1 hr hy hn hd n0 n1
  rcases hV with ⟨rfl, hV, hE⟩ | ⟨rfl, hV, hE⟩
  · have HV := Lib.hid (And.intro hV hE)
    clear hV hE
    go_enter Try.func33, Try.ntmps33
    go_wp2_with fail
    refine (F.out _).mono ?_
    rintro e w1 ⟨rfl, rfl⟩
    go_wp2_with fail
    refine (R.out _).mono ?_
    rintro e w1 ⟨rfl, rfl⟩
    go_wp2_with fail
    refine (Y.out _).mono ?_
    rintro e w1 ⟨rfl, rfl⟩
    go_wp2_with fail
    refine (A.out _).mono ?_
    rintro e w1 ⟨rfl, hb⟩
    go_wp2_with fail
    refine (D.out _).mono ?_
    rintro e w2 ⟨rfl, hb2⟩
    go_wp2_with fail
    refine (N.out _).mono ?_
    rintro e w3 ⟨rfl, hb3⟩
    go_wp2_with fail
    refine (L.out _).mono ?_
    rintro e w4 ⟨rfl, rfl⟩
    go_wp2_with fail
    go_ret2
    exact ⟨ret_ii HV.out.1 HV.out.2, on_below (on_below hb hb2) hb3⟩
  · have HV := Lib.hid (And.intro hV hE)
    clear hV hE
    go_enter Try.func33, Try.ntmps33
    go_wp2_with fail
    refine (F.out _).mono ?_
    rintro e w1 ⟨rfl, rfl⟩
    go_wp2_with fail
    refine (R.out _).mono ?_
    rintro e w1 ⟨rfl, rfl⟩
    go_wp2_with fail
    refine (Y.out _).mono ?_
    rintro e w1 ⟨rfl, rfl⟩
    go_wp2_with fail
    refine (A.out _).mono ?_
    rintro e w1 ⟨rfl, hb⟩
    go_wp2_with fail
    refine (D.out _).mono ?_
    rintro e w2 ⟨rfl, hb2⟩
    go_wp2_with fail
    refine (N.out _).mono ?_
    rintro e w3 ⟨rfl, hb3⟩
    go_wp2_with fail
    refine (L.out _).mono ?_
    rintro e w4 ⟨rfl, rfl⟩
    go_wp2_with fail
    go_ret2
    exact ⟨ret_ii HV.out.1 HV.out.2, on_below (on_below hb hb2) hb3⟩

set_option maxRecDepth 100000 in
theorem impl_RelatedDay (f r k y : Int) (w : World) : Calls Try.prog 33 #[.int .i64 f, .int .i64 r, .int .i64 k, .int .i64 y] w (Two (relN f r k y) (relE f r k y) w) := by
  by_cases hf : isF f
  · by_cases hr : isR r k
    · by_cases hy : isY y
      · have ok : relOk f r k y := ⟨hf, hy, hr⟩
        by_cases hd : isDay (rd r k (fd f y))
        · exact impl_RelatedDay_yes f r k y _ _ _ hf hy hr rfl true (decide_eq_true hd) (.inl ⟨rfl, (if_pos ⟨ok, hd⟩).symm, ((if_pos ok).trans (if_pos hd)).symm⟩) w
        · exact impl_RelatedDay_yes f r k y _ _ _ hf hy hr rfl false (decide_eq_false hd) (.inr ⟨rfl, (if_neg (fun h => hd h.2)).symm, ((if_pos ok).trans (if_neg hd)).symm⟩) w
      · have F := Lib.hid (impl_feast_yes f hf)
        have R := Lib.hid (impl_relation_yes r k hr)
        have Y := Lib.hid (impl_year_no y hy)
        have H := Lib.hid (rel_out (f := f) (r := r) (k := k) (y := y) (if_neg (fun h => hy h.1.2.1)) (if_neg (fun h => hy h.2.1)))
        generalize relN f r k y = V at *
        generalize relE f r k y = E at *
        clear hf hy hr
        go_enter Try.func33, Try.ntmps33
        go_wp2_with fail
        refine (F.out _).mono ?_
        rintro e w1 ⟨rfl, rfl⟩
        go_wp2_with fail
        refine (R.out _).mono ?_
        rintro e w1 ⟨rfl, rfl⟩
        go_wp2_with fail
        refine (Y.out _).mono ?_
        rintro e w1 ⟨rfl, rfl⟩
        go_wp2_with fail
        go_ret2
        exact ⟨ret_ii H.out.1 H.out.2, Below.refl _ _⟩
    · have F := Lib.hid (impl_feast_yes f hf)
      have R := Lib.hid (impl_relation_no r k hr)
      have H := Lib.hid (rel_out (f := f) (r := r) (k := k) (y := y) (if_neg (fun h => hr h.1.2.2)) (if_neg (fun h => hr h.2.2)))
      generalize relN f r k y = V at *
      generalize relE f r k y = E at *
      clear hf hr
      go_enter Try.func33, Try.ntmps33
      go_wp2_with fail
      refine (F.out _).mono ?_
      rintro e w1 ⟨rfl, rfl⟩
      go_wp2_with fail
      refine (R.out _).mono ?_
      rintro e w1 ⟨rfl, rfl⟩
      go_wp2_with fail
      go_ret2
      exact ⟨ret_ii H.out.1 H.out.2, Below.refl _ _⟩
  · have F := Lib.hid (impl_feast_no f hf)
    have H := Lib.hid (rel_out (f := f) (r := r) (k := k) (y := y) (if_neg (fun h => hf h.1.1)) (if_neg (fun h => hf h.1)))
    generalize relN f r k y = V at *
    generalize relE f r k y = E at *
    clear hf
    go_enter Try.func33, Try.ntmps33
    go_wp2_with fail
    refine (F.out _).mono ?_
    rintro e w1 ⟨rfl, rfl⟩
    go_wp2_with fail
    go_ret2
    exact ⟨ret_ii H.out.1 H.out.2, Below.refl _ _⟩

theorem impl_FeastDay (f y : Int) (w : World) : Calls Try.prog 44 #[.int .i64 f, .int .i64 y] w (Two (fdN f y) (fdE f y) w) := by
  have R := Lib.hid (impl_RelatedDay f 0 0 y)
  have e : relN f 0 0 y = fdN f y ∧ relE f 0 0 y = fdE f y := by
    have h0 : isR 0 0 := by decide
    by_cases h : isF f ∧ isY y
    · have ok : relOk f 0 0 y := ⟨h.1, h.2, h0⟩
      have hd : isDay (rd 0 0 (fd f y)) := fd_bd f y h.2
      exact ⟨(if_pos ⟨ok, hd⟩).trans (if_pos h).symm, ((if_pos ok).trans (if_pos hd)).trans (if_pos h).symm⟩
    · have ok : ¬ relOk f 0 0 y := fun k => h ⟨k.1, k.2.1⟩
      exact ⟨(if_neg (fun k => ok k.1)).trans (if_neg h).symm, (if_neg ok).trans (if_neg h).symm⟩
  rw [e.1, e.2] at R
  clear e
  generalize fdN f y = V at *
  generalize fdE f y = E at *
  go_enter Try.func44, Try.ntmps44
  go_wp2_with fail
  refine (R.out _).mono ?_
  rintro e w1 ⟨rfl, hb⟩
  go_wp2_with fail
  go_ret2
  exact ⟨rfl, hb⟩

end Go.Proofs.Ytegoiiconhgjbaa.Fea
