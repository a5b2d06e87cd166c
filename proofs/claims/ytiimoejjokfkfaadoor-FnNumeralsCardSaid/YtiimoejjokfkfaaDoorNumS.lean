/- Facts and packs for the walk of FnNumerals (over NumI: impl's contracts). -/
import Derived.Test.YtiimoejjokfkfaaDoorNumI
import Derived.Test.YtiimoejjokfkfaaDoorNumG
namespace Go.Proofs.YtiimoejjokfkfaaDoor.Num
open Go.RowKit

theorem read_all (k : Nat) (h1 : 1 ≤ k) (h2 : k ≤ 3999) : (rdB (formN k false) = true ∧ sumL (plainL (formN k false)) = k) ∧ (rdB (oldL (formN k true)) = true ∧ sumL (plainL (oldL (formN k true))) = k) := by
  have h := List.all_eq_true.1 all_read k (List.mem_range.2 (by omega))
  simp only [Bool.or_eq_true, Bool.and_eq_true, decide_eq_true_eq] at h
  rcases h with h | ⟨⟨⟨a, b⟩, c⟩, d⟩
  · omega
  · exact ⟨⟨a, b⟩, c, d⟩

theorem ord_inj : ((List.range 32).all fun i => (List.range 32).all fun j => decide (i = 0) || decide (j = 0) || decide (i = j) || !decide (ordN i = ordN j)) = true := by
  decide +kernel
theorem ord_some : ((List.range 32).all fun i => decide (i = 0) || !decide (ordN i = [])) = true := by
  decide +kernel
theorem ordL_nat (i : Nat) (h1 : 1 ≤ i) (h2 : i ≤ 31) : ordL i = ordN i := by
  unfold ordL
  rw [if_pos (by omega), Int.toNat_natCast]
theorem ord_ne (i : Nat) (h1 : 1 ≤ i) (h2 : i ≤ 31) : ordL i ≠ [] := by
  have h := List.all_eq_true.1 ord_some i (List.mem_range.2 (by omega))
  simp only [Bool.or_eq_true, decide_eq_true_eq, Bool.not_eq_true', decide_eq_false_iff_not] at h
  rw [ordL_nat i h1 h2]
  rcases h with h | h
  · omega
  · exact h
theorem ord_own (j : Nat) (h1 : 1 ≤ j) (h2 : j ≤ 31) : OrdAns (ordL j) j true := by
  refine .inl ⟨j, h1, h2, rfl, rfl, rfl, fun i i1 i2 e => ?_⟩
  rw [ordL_nat i i1 (by omega), ordL_nat j h1 h2] at e
  have h := List.all_eq_true.1 (List.all_eq_true.1 ord_inj i (List.mem_range.2 (by omega))) j (List.mem_range.2 (by omega))
  simp only [Bool.or_eq_true, decide_eq_true_eq, Bool.not_eq_true', decide_eq_false_iff_not] at h
  rcases h with ((h | h) | h) | h
  · omega
  · omega
  · omega
  · exact h e

theorem sum_zero : ∀ (l : List UInt8), (∀ c ∈ l, val c = 0) → sumL l = 0
  | [], _ => rfl
  | [a], h => h a (by simp)
  | a :: b :: r, h => by
    have e1 := h a (by simp)
    have e2 := h b (by simp)
    rw [sumL, sum_zero (b :: r) (fun c hc => h c (by simp [hc])), e1, e2]
    rfl
theorem dg_val0 (c : UInt8) (h : Txt.isDg c = true) : val c = 0 ∧ uv c = c ∧ c ≠ 106 := by
  unfold Txt.isDg at h
  simp at h
  have ne : ∀ d : UInt8, 57 < d.toNat → c ≠ d := by rintro d hd rfl; omega
  refine ⟨?_, if_neg (ne 117 (by decide)), ne 106 (by decide)⟩
  unfold val
  rw [if_neg (ne 105 (by decide)), if_neg (ne 118 (by decide)), if_neg (ne 120 (by decide)), if_neg (ne 108 (by decide)), if_neg (ne 99 (by decide)), if_neg (ne 100 (by decide)), if_neg (ne 109 (by decide))]
/-- What is read as digits is no numeral. -/
theorem dg_not {l : List UInt8} (h : dgB l = true) : rdB l = false := by
  unfold dgB at h
  have h1 := (of_decide_eq_true h).1.2.2
  have hz : sumL (plainL l) = 0 := sum_zero _ fun c hc => by
    obtain ⟨k, hk, rfl⟩ := List.getElem_of_mem hc
    have hk' : k < l.length := by rw [plain_len] at hk; exact hk
    have g := at_of hk (plain_get l k hk')
    obtain ⟨v0, v1, v2⟩ := dg_val0 l[k] (List.all_eq_true.1 h1 _ (List.getElem_mem hk'))
    rw [g, v1, if_neg (fun q => v2 q.2)]
    exact v0
  unfold rdB
  refine decide_eq_false fun q => ?_
  have := q.2.1.1
  rw [hz] at this
  omega

/-- What a call leaves that answers this number and this yes or no. -/
def RB (k : Int) (b : Bool) (w : World) (e : Ending) (w' : World) : Prop := e = .returned (.tuple #[.int .i64 k, .bool b]) ∧ Below w.heap.size w w'
theorem NB.rb {P : Int → Bool → Prop} {k : Int} {b : Bool} {w : World} (hP : ∀ k' b', P k' b' → k' = k ∧ b' = b) {e : Ending} {w' : World} (h : NB P w e w') : RB k b w e w' := by
  obtain ⟨k', b', rfl, hp, hb⟩ := h
  obtain ⟨rfl, rfl⟩ := hP k' b' hp
  exact ⟨rfl, hb⟩

theorem impl_rn (l : List UInt8) (h : l.length ≤ 2000000) (k : Int) (b : Bool) (h1 : rdV l = k) (h2 : rdB l = b) : Hid (∀ w, Env w → Calls Tryd.prog 14 #[.string (str l)] w (RB k b w)) :=
  Lib.hid fun w he => (impl_ReadNumeral l h w he.2).mono fun _ _ q => q.rb fun _ _ p => ⟨p.1.trans h1, p.2.trans h2⟩

theorem n_pack (n : Int) : ∃ (a b : List UInt8) (c E : Int), Hid (∀ w, Calls Tryd.prog 9 #[.int .i64 n] w (Tx a w)) ∧ Hid (∀ w, Calls Tryd.prog 10 #[.int .i64 n] w (Tx b w)) ∧
    Hid (∀ w, Env w → Calls Tryd.prog 11 #[.int .i64 n] w (Two c E w)) ∧ Hid (∀ w, Calls Tryd.prog 12 #[.int .i64 n] w (Two c E w)) ∧
    Hid (∀ w, Calls Tryd.prog 24 #[.int .i64 n] w (Tx a w)) ∧ Hid (∀ w, Calls Tryd.prog 25 #[.int .i64 n] w (Tx b w)) ∧
    Hid ((E = 2 ∧ a = [] ∧ b = []) ∨ (E = 0 ∧ 1 ≤ c ∧ Hid (∀ w, Env w → Calls Tryd.prog 14 #[.string (str a)] w (RB n true w)) ∧ Hid (∀ w, Env w → Calls Tryd.prog 14 #[.string (str b)] w (RB n true w)))) := by
  refine ⟨ntL n, onL n, cfN n, cfE n, Lib.hid (impl_NumeralText n), Lib.hid (impl_OldNumeral n), Lib.hid (fun w he => impl_CountForms n w he.2), Lib.hid (spec_CountForms n), Lib.hid (spec_NumeralText n), Lib.hid (spec_OldNumeral n), Lib.hid ?_⟩
  by_cases h : isN n
  · refine .inr ⟨if_pos h, ?_, ?_, ?_⟩
    · unfold cfN
      rw [if_pos h]
      have p1 := ways_pos (form n false)
      have p2 := ways_pos (form n true)
      split <;> omega
    · obtain ⟨m, rfl⟩ := Int.eq_ofNat_of_zero_le (show 0 ≤ n by have := h.1; omega)
      obtain ⟨⟨r1, r2⟩, _, _⟩ := read_all m (by have := h.1; omega) (by have := h.2; omega)
      have e : ntL (m : Int) = formN m false := (if_pos h).trans (by unfold form; rw [Int.toNat_natCast])
      have hl := nt_len (m : Int)
      refine impl_rn _ (by omega) _ _ ?_ (by rw [e]; exact r1)
      rw [e]
      unfold rdV
      rw [if_pos r1, r2]
    · obtain ⟨m, rfl⟩ := Int.eq_ofNat_of_zero_le (show 0 ≤ n by have := h.1; omega)
      obtain ⟨_, r1, r2⟩ := read_all m (by have := h.1; omega) (by have := h.2; omega)
      have e : onL (m : Int) = oldL (formN m true) := (if_pos h).trans (by unfold form; rw [Int.toNat_natCast])
      have hl := on_len (m : Int)
      refine impl_rn _ (by omega) _ _ ?_ (by rw [e]; exact r1)
      rw [e]
      unfold rdV
      rw [if_pos r1, r2]
  · exact .inl ⟨if_neg h, if_neg h, if_neg h⟩

theorem s_pack (l : List UInt8) (h : l.length ≤ 300) : ∃ (x : Int) (o : Bool), Hid (∀ w, Env w → Calls Tryd.prog 14 #[.string (str l)] w (RB x o w)) ∧ Hid (∀ w, Calls Tryd.prog 15 #[.string (str l)] w (RB x o w)) ∧
    Hid (o = false ∨ (o = true ∧ Hid (∀ w, Env w → Calls Tryd.prog 22 #[.string (str l)] w (RB x true w)))) := by
  refine ⟨rdV l, rdB l, impl_rn l (by omega) _ _ rfl rfl, Lib.hid fun w => (spec_ReadNumeral l (by omega) w).mono fun _ _ q => q.rb fun _ _ p => p, Lib.hid ?_⟩
  by_cases hb : rdB l = true
  · refine .inr ⟨hb, Lib.hid fun w he => (impl_ReadNumber l (by omega) w he).mono fun _ _ q => q.rb fun k' b' p => ?_⟩
    have hd : ¬ (dgB l = true ∧ isN (dgV l)) := fun q => by rw [dg_not q.1] at hb; cases hb
    unfold rnV rnB at p
    rw [if_neg hd, if_neg hd] at p
    exact ⟨p.1, p.2.trans hb⟩
  · exact .inl (by simpa using hb)

theorem k_pack (k : Int) : ∃ t : List UInt8, Hid (∀ w, Calls Tryd.prog 17 #[.int .i64 k] w (Tx t w)) ∧ Hid (∀ w, Calls Tryd.prog 26 #[.int .i64 k] w (Tx t w)) ∧
    Hid (t = [] ∨ (t ≠ [] ∧ Hid (∀ w, Calls Tryd.prog 19 #[.string (str t)] w (RB k true w)))) := by
  refine ⟨ordL k, Lib.hid (impl_OrdinalText k), Lib.hid (spec_OrdinalText k), Lib.hid ?_⟩
  by_cases h : 1 ≤ k ∧ k ≤ 31
  · obtain ⟨m, rfl⟩ := Int.eq_ofNat_of_zero_le (show 0 ≤ k by omega)
    refine .inr ⟨ord_ne m (by omega) (by omega), Lib.hid fun w => (impl_ReadOrdinal _ w).mono fun _ _ q => q.rb fun k' b' p => ?_⟩
    rw [str_toList] at p
    exact p.uniq (ord_own m (by omega) (by omega))
  · exact .inl (if_neg h)

theorem r_pack (l : List UInt8) (h : l.length ≤ 300) : ∃ (x : Int) (o : Bool), Hid (∀ w, Env w → Calls Tryd.prog 22 #[.string (str l)] w (RB x o w)) ∧ Hid (∀ w, Calls Tryd.prog 23 #[.string (str l)] w (RB x o w)) :=
  ⟨rnV l, rnB l, Lib.hid fun w he => (impl_ReadNumber l (by omega) w he).mono fun _ _ q => q.rb fun _ _ p => p, Lib.hid fun w => (spec_ReadNumber l (by omega) w).mono fun _ _ q => q.rb fun _ _ p => p⟩

end Go.Proofs.YtiimoejjokfkfaaDoor.Num
