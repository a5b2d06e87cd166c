/- Facts and packs for the walks of FnWords and FnPhrases (over WrdI: impl's contracts). -/
import Derived.Test.YtdpbikephjnndaaWrdI
import Derived.Test.YtdpbikephjnndaaWrdK
import Derived.Test.YtdpbikephjnndaaStrR
namespace Go.Proofs.Ytdpbikephjnndaa.Wrd
open Go.RowKit

theorem isW_len {l : List UInt8} (h : isW l) : l.length ≤ 20 := h.2.2
theorem wd_bd (a b : List UInt8) (ha : a.length ≤ 21) (hb : b.length ≤ 21) : 0 ≤ wdN a b ∧ wdN a b ≤ 42 := by
  unfold wdN
  split
  · have := dist_le a b; omega
  · omega
theorem ab_pack (a b : List UInt8) (ha : a.length ≤ 21) (hb : b.length ≤ 21) : ∃ (d ce : Int) (o : Bool), (0 ≤ d ∧ d ≤ 42) ∧ Hid (∀ w, Calls Try.prog 13 #[.string (str a), .string (str b)] w (TwoW d ce w)) ∧
    Hid (∀ w, Calls Try.prog 14 #[.string (str a), .string (str b)] w (TwoW d ce w)) ∧ Hid (∀ w, Calls Try.prog 15 #[.string (str a), .string (str b)] w (BoolE o ce w)) ∧
    Hid (∀ w, Calls Try.prog 16 #[.string (str a), .string (str b)] w (BoolE o ce w)) ∧
    Hid (ce = 1 ∨ (ce = 0 ∧ isW a ∧ isW b ∧ d = (dist a b : Int) ∧ o = decide (norm a = norm b))) := by
  refine ⟨wdN a b, wwE a b, alB a b, wd_bd a b ha hb, Lib.hid fun w => impl_WordDistance a b (by omega) (by omega) w, Lib.hid fun w => spec_WordDistance a b (by omega) (by omega) w,
    Lib.hid fun w => impl_AreAlike a b (by omega) (by omega) w, Lib.hid fun w => spec_AreAlike a b (by omega) (by omega) w, Lib.hid ?_⟩
  by_cases h : isW a ∧ isW b
  · refine .inr ⟨if_pos h, h.1, h.2, if_pos h, ?_⟩
    unfold alB
    simp [h]
  · exact .inl (if_neg h)
/-- The distance from one word to another, as impl tells it. -/
theorem d_pack (a b : List UInt8) (ha : isW a) (hb : isW b) : Hid (∀ w, Calls Try.prog 13 #[.string (str a), .string (str b)] w (TwoW (dist a b : Int) 0 w)) := Lib.hid fun w => by
  have h := impl_WordDistance a b (by have := ha.2.2; omega) (by have := hb.2.2; omega) w
  unfold wdN wwE at h
  rw [if_pos ⟨ha, hb⟩, if_pos ⟨ha, hb⟩] at h
  exact h
theorem x_pack (a : List UInt8) (ha : isW a) : Hid (∀ w, Calls Try.prog 18 #[.string (str a)] w (TxE (norm a) 0 w)) := Lib.hid fun w => by
  have h := impl_NormalWord a (by have := ha.2.2; omega) w
  unfold nwL wE at h
  rw [if_pos ha, if_pos ha] at h
  exact h
/-- What is asked about a third word. -/
theorem tri_pack (a b c : List UInt8) (ha : isW a) (hb : isW b) (hc : isW c) (d : Int) (hd : d = (dist a b : Int)) : ∃ e f : Int, (0 ≤ e ∧ e ≤ 42 ∧ f ≤ d + e) ∧
    Hid (∀ w, Calls Try.prog 13 #[.string (str b), .string (str c)] w (TwoW e 0 w)) ∧ Hid (∀ w, Calls Try.prog 13 #[.string (str a), .string (str c)] w (TwoW f 0 w)) := by
  subst hd
  refine ⟨_, _, ⟨by omega, ?_, ?_⟩, d_pack b c hb hc, d_pack a c ha hc⟩
  · have := dist_le b c
    have := hb.2.2
    have := hc.2.2
    omega
  · have := dist_tri a b c
    omega
/-- What is asked about two words. -/
theorem two_pack (a b : List UInt8) (ha : isW a) (hb : isW b) (d : Int) (hd : d = (dist a b : Int)) (o : Bool) (ho : o = decide (norm a = norm b)) : ∃ x y : List UInt8,
    Hid (∀ w, Calls Try.prog 13 #[.string (str b), .string (str a)] w (TwoW d 0 w)) ∧ Hid (∀ w, Calls Try.prog 18 #[.string (str a)] w (TxE x 0 w)) ∧ Hid (∀ w, Calls Try.prog 18 #[.string (str b)] w (TxE y 0 w)) ∧
    Hid (((d == 0) = (a == b)) ∧ o = (x == y)) := by
  subst hd ho
  refine ⟨norm a, norm b, by rw [dist_symm]; exact d_pack b a hb ha, x_pack a ha, x_pack b hb, Lib.hid ⟨?_, ?_⟩⟩
  · rw [Bool.eq_iff_iff, beq_iff_eq, beq_iff_eq, ← dist_iff]
    omega
  · rw [Bool.eq_iff_iff, decide_eq_true_eq, beq_iff_eq]
theorem c_pack (c : List UInt8) (hc : c.length ≤ 21) : ∃ (n : List UInt8) (ce : Int) (o : Bool), Hid (∀ w, Calls Try.prog 18 #[.string (str c)] w (TxE n ce w)) ∧
    Hid (∀ w, Calls Try.prog 19 #[.string (str c)] w (TxE n ce w)) ∧ Hid (∀ w, Calls Try.prog 23 #[.string (str c)] w (Bl o w)) ∧ Hid ((ce = 1 ∧ o = false) ∨ (ce = 0 ∧ o = true ∧ isW c)) := by
  refine ⟨nwL c, wE c, decide (isW c), Lib.hid fun w => impl_NormalWord c (by omega) w, Lib.hid fun w => spec_NormalWord c (by omega) w, Lib.hid fun w => impl_IsWord c (by omega) _ rfl w, Lib.hid ?_⟩
  by_cases h : isW c
  · exact .inr ⟨if_pos h, decide_eq_true h, h⟩
  · exact .inl ⟨if_neg h, decide_eq_false h⟩
theorem near_pack (s : List UInt8) (hs : s.length ≤ 21) (A : Option Addr) (c : Nat) (ps : List (List UInt8)) (hp : Sl ps) (m : Int) : ∃ i k ce : Int,
    Hid (∀ w, RdS w A ps → Calls Try.prog 21 #[.string (str s), .slice A ps.length c, .int .i64 m] w (Thr i k ce w)) ∧
    Hid (∀ w, RdS w A ps → Calls Try.prog 22 #[.string (str s), .slice A ps.length c, .int .i64 m] w (Thr i k ce w)) ∧ Hid (¬ ce = 0 ∨ (ce = 0 ∧ ¬ m < k)) := by
  refine ⟨_, _, _, Lib.hid fun w hr => impl_NearestWord s (by omega) A c ps hp.tame m w hr, Lib.hid fun w hr => spec_NearestWord s (by omega) A c ps hp.tame m w hr, Lib.hid ?_⟩
  by_cases h : nFd s ps m
  · have hok := h
    unfold nFd nOk at hok
    have e : nE s ps m = 0 := by
      unfold nE
      rw [if_neg (fun q => q hok.1.1), if_neg (fun q => q hok.1.2), if_pos h]
    refine .inr ⟨e, ?_⟩
    unfold nD
    rw [if_pos h]
    have key : ∀ k, (nr s ps m k).2 ≤ m ∨ (nr s ps m k).1 < 0 := fun k => by
      induction k with
      | zero => right; simp [nr]
      | succ k ih =>
        unfold nr
        have hb := (nr_bd s ps hok.1.2.1 k).2.2.2
        split
        · rename_i hlt
          left
          show (dist _ _ : Int) ≤ m
          omega
        · exact ih
    rcases key ps.length with h1 | h1
    · omega
    · exact absurd hok.2 (by omega)
  · refine .inl ?_
    unfold nE
    split
    · omega
    · split
      · omega
      · omega

set_option maxHeartbeats 400000 in
theorem laws_big (A : Option Addr) (len cap : Nat) (hm : len ≤ maxLen) (w : World) :
    Calls Try.prog 11 #[.slice A len cap] w fun e w' => e = .returned (.bool (decide (4096 < len))) ∧ w = w' := by
  unfold maxLen at hm
  go_enter Try.func11, Try.ntmps11
  go_wp2_with fail
  go_ret
  exact ⟨ret_bool (by simp; try omega), rfl⟩

end Go.Proofs.Ytdpbikephjnndaa.Wrd
