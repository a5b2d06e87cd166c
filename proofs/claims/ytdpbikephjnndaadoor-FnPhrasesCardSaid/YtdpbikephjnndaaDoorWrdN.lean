/- Facts and packs for the walk of FnPhrases. -/
import Derived.Test.YtdpbikephjnndaaDoorWrdL
namespace Go.Proofs.YtdpbikephjnndaaDoor.Wrd
open Go.RowKit

theorem run_self : ∀ a : List (List UInt8), run a a = a.length
  | [] => rfl
  | x :: a => by rw [run, if_pos rfl, run_self a, List.length_cons]
theorem Common.some (a b : List (List UInt8)) : ∃ M, Common a b M := by
  have key : ∀ B : Nat, (∀ i k, i < a.length → k < b.length → run (a.drop i) (b.drop k) ≤ B) → ∃ M, Common a b M := by
    intro B
    induction B with
    | zero => exact fun h => ⟨0, .inl rfl, h⟩
    | succ B ih =>
      intro h
      by_cases q : ∃ i k, i < a.length ∧ k < b.length ∧ run (a.drop i) (b.drop k) = B + 1
      · exact ⟨B + 1, .inr q, h⟩
      · refine ih fun i k hi hk => ?_
        have h1 := h i k hi hk
        have h2 : run (a.drop i) (b.drop k) ≠ B + 1 := fun e => q ⟨i, k, hi, hk, e⟩
        omega
  refine key a.length fun i k _ _ => ?_
  have := (run_le (a.drop i) (b.drop k)).1
  rw [List.length_drop] at this
  omega
theorem com_is (a b : List (List UInt8)) : Common a b (com a b) := by
  obtain ⟨M, h⟩ := Common.some a b
  rw [com_eq h]
  exact h
theorem com_symm (a b : List (List UInt8)) : com b a = com a b := com_eq (com_is a b).symm
theorem com_self (a : List (List UInt8)) : com a a = a.length := com_eq ⟨by
  rcases a with _ | ⟨x, r⟩
  · exact .inl rfl
  · exact .inr ⟨0, 0, by simp, by simp, by rw [List.drop_zero, run_self]⟩, fun i k _ _ => by
    have := (run_le (a.drop i) (a.drop k)).1
    rw [List.length_drop] at this
    omega⟩
theorem com_le (a b : List (List UInt8)) : com a b ≤ a.length ∧ com a b ≤ b.length := by
  rcases (com_is a b).1 with e | ⟨i, k, _, _, e⟩
  · omega
  · have h := run_le (a.drop i) (b.drop k)
    rw [List.length_drop, List.length_drop] at h
    omega

theorem sh_pack (A1 A2 : Option Addr) (c1 c2 : Nat) (a b : List (List UInt8)) (ha : Sl a) (hb : Sl b) : ∃ n ce : Int,
    Hid (∀ w, RdS w A1 a → RdS w A2 b → Calls Tryd.prog 13 #[.slice A1 a.length c1, .slice A2 b.length c2] w (TwoW n ce w)) ∧
    Hid (∀ w, RdS w A1 a → RdS w A2 b → Calls Tryd.prog 14 #[.slice A1 a.length c1, .slice A2 b.length c2] w (TwoW n ce w)) ∧
    Hid (ce = 1 ∨ (ce = 0 ∧ (∀ w, RdS w A1 a → RdS w A2 b → Calls Tryd.prog 13 #[.slice A2 b.length c2, .slice A1 a.length c1] w (TwoW n 0 w)) ∧
      (∀ w, RdS w A1 a → Calls Tryd.prog 13 #[.slice A1 a.length c1, .slice A1 a.length c1] w (TwoW a.length 0 w)) ∧ 0 ≤ n ∧ n ≤ a.length ∧ n ≤ b.length)) := by
  refine ⟨_, _, Lib.hid fun w r1 r2 => impl_SharedWords A1 A2 c1 c2 a b ha.tame hb.tame w r1 r2, Lib.hid fun w r1 r2 => spec_SharedWords A1 A2 c1 c2 a b ha.tame hb.tame w r1 r2, Lib.hid ?_⟩
  by_cases h : phOk a ∧ phOk b
  · refine .inr ⟨if_pos h, fun w r1 r2 => ?_, fun w r1 => ?_, ?_⟩
    · have q := impl_SharedWords A2 A1 c2 c1 b a hb.tame ha.tame w r2 r1
      unfold shN shE at q
      rw [if_pos ⟨h.2, h.1⟩, if_pos ⟨h.2, h.1⟩, com_symm] at q
      unfold shN
      rw [if_pos h]
      exact q
    · have q := impl_SharedWords A1 A1 c1 c1 a a ha.tame ha.tame w r1 r1
      unfold shN shE at q
      rw [if_pos ⟨h.1, h.1⟩, if_pos ⟨h.1, h.1⟩, com_self, List.length_map] at q
      exact q
    · unfold shN
      rw [if_pos h]
      have := com_le (a.map norm) (b.map norm)
      rw [List.length_map, List.length_map] at this
      omega
  · exact .inl (if_neg h)

theorem word_no_space {p : List UInt8} (h : isW p) : ∀ b ∈ p, b ≠ 32 := fun b hb e => by
  subst e
  have := (h.1 _ hb).1
  exact absurd this (by decide)
/-- A phrase is found from its text. -/
theorem sp_back {ps : List (List UInt8)} (h : phOk ps) : spL (Lib.join ps [32]) = ps ∧ spE (Lib.join ps [32]) = 0 := by
  rcases ps with _ | ⟨p, r⟩
  · exact ⟨if_pos rfl, if_pos rfl⟩
  · have hne : Lib.join (p :: r) [32] ≠ [] := by
      rw [Lib.join_cons]
      intro e
      have h1 := (h.1 p (by simp)).2.1
      have h2 := congrArg List.length e
      rw [List.length_append, List.length_nil] at h2
      omega
    have hs := split_join 32 (p :: r) (by simp) (fun w hw => word_no_space (h.1 w hw))
    unfold spL spE
    rw [if_neg hne, if_neg hne, hs, if_pos h, if_pos h]
    exact ⟨rfl, rfl⟩
theorem ph_pack (A : Option Addr) (c : Nat) (ps : List (List UInt8)) (hp : Sl ps) (hc : ps.length ≤ c) : ∃ (t : List UInt8) (ce : Int), t.length ≤ 20000 ∧
    Hid (∀ w, RdS w A ps → Calls Tryd.prog 7 #[.slice A ps.length c] w (TxE t ce w)) ∧ Hid (∀ w, RdS w A ps → Calls Tryd.prog 8 #[.slice A ps.length c] w (TxE t ce w)) ∧
    Hid (ce = 1 ∨ (ce = 0 ∧ ∀ w, Mx w → Calls Tryd.prog 10 #[.string (str t)] w (TextsE ps 0 w))) := by
  refine ⟨ptL ps, ptE ps, ptL_len ps, Lib.hid fun w hr => impl_PhraseText A c ps hp.tame hc w hr, Lib.hid fun w hr => spec_PhraseText A c ps hp.tame w hr, Lib.hid ?_⟩
  by_cases h : phOk ps
  · refine .inr ⟨if_pos h, fun w hM => ?_⟩
    have hl := ptL_len ps
    have e : ptL ps = Lib.join ps [32] := if_pos h
    obtain ⟨e1, e2⟩ := sp_back h
    have q := impl_SplitPhrase (ptL ps) (by omega) w hM
    rw [e, e1, e2] at q
    rw [e]
    exact q
  · exact .inl (if_neg h)
theorem sp_pack (s : List UInt8) (hs : s.length ≤ 60000) : ∃ (xs : List (List UInt8)) (ce : Int), xs.length ≤ 2000000 ∧
    Hid (∀ w, Mx w → Calls Tryd.prog 10 #[.string (str s)] w (TextsE xs ce w)) ∧ Hid (∀ w, Calls Tryd.prog 11 #[.string (str s)] w (TextsE xs ce w)) ∧
    Hid (¬ ce = 0 ∨ (ce = 0 ∧ ∀ A c w, xs.length ≤ c → RdS w A xs → Calls Tryd.prog 7 #[.slice A xs.length c] w (TxE s 0 w))) := by
  have key : ¬ spE s = 0 ∨ (spE s = 0 ∧ phOk (spL s) ∧ Lib.join (spL s) [32] = s) := by
    by_cases h0 : s = []
    · subst h0
      exact .inr ⟨if_pos rfl, by rw [show spL [] = [] from if_pos rfl]; exact ⟨⟨fun p hp => (by cases hp), by simp⟩, rfl⟩⟩
    · by_cases h : phOk (Txt.split 32 s [])
      · have e : spL s = Txt.split 32 s [] := by unfold spL; rw [if_neg h0, if_pos h]
        exact .inr ⟨by unfold spE; rw [if_neg h0, if_pos h], by rw [e]; exact h, by rw [e, join_split]; rfl⟩
      · exact .inl (by unfold spE; rw [if_neg h0, if_neg h]; omega)
  have hl : (spL s).length ≤ 2000000 := by
    unfold spL
    split
    · simp
    · split
      · have := split_count 32 s []; omega
      · simp
  refine ⟨spL s, spE s, hl, Lib.hid fun w hM => impl_SplitPhrase s (by omega) w hM, Lib.hid fun w => spec_SplitPhrase s (by omega) w, Lib.hid ?_⟩
  rcases key with h | ⟨h0, h, e⟩
  · exact .inl h
  · refine .inr ⟨h0, fun A c w hc hr => ?_⟩
    have q := impl_PhraseText A c (spL s) h.tame hc w hr
    unfold ptL ptE at q
    rw [if_pos h, if_pos h, e] at q
    exact q

end Go.Proofs.YtdpbikephjnndaaDoor.Wrd
