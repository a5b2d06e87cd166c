/- Contracts of spec's texts of phrases and phrases of texts. -/
import Derived.Test.YtdpbikephjnndaaDoorWrdE
import Derived.Lib.Join
namespace Go.Proofs.YtdpbikephjnndaaDoor.Wrd
open Go.RowKit

def J (ps : List (List UInt8)) (k : Nat) : List UInt8 := Lib.join (ps.take k) [32]
theorem J_first {ps : List (List UInt8)} (h : 0 < ps.length) : J ps 1 = ps[0] := by
  cases ps with
  | nil => simp at h
  | cons x r => simp [J, Lib.join_one]
theorem J_next {ps : List (List UInt8)} {k : Nat} (h0 : 0 < k) (h : k < ps.length) : J ps (k + 1) = J ps k ++ [32] ++ ps[k] := by
  cases ps with
  | nil => simp at h
  | cons x r =>
    obtain ⟨j, rfl⟩ : ∃ j, k = j + 1 := ⟨k - 1, by omega⟩
    have hj : j < r.length := by simpa using h
    unfold J
    rw [List.take_succ_cons, List.take_succ_cons, Lib.join_cons, Lib.join_cons, Lib.joinTail_take_succ [32] r j r[j] (List.getElem?_eq_getElem hj)]
    simp [List.append_assoc]
theorem J_len {ps : List (List UInt8)} (h : ∀ p ∈ ps, p.length ≤ 40) : ∀ k, k ≤ ps.length → (J ps k).length ≤ 41 * k := by
  intro k
  induction k with
  | zero => intro _; simp [J, Lib.join_nil]
  | succ k ih =>
    intro hk
    have i := ih (by omega)
    have p := h ps[k] (List.getElem_mem (by omega))
    by_cases h0 : k = 0
    · subst h0
      rw [J_first (by omega)]
      omega
    · rw [J_next (by omega) (by omega)]
      simp
      omega
theorem J_all (ps : List (List UInt8)) : J ps ps.length = Lib.join ps [32] := by simp [J]
theorem split_run (c : UInt8) : ∀ (a cur : List UInt8), (∀ b ∈ a, b ≠ c) → Txt.split c a cur = [cur ++ a]
  | [], cur, _ => by simp [Txt.split]
  | x :: r, cur, h => by
    rw [Txt.split, if_neg (h x (by simp)), split_run c r _ (fun b hb => h b (by simp [hb]))]
    simp
theorem split_app (c : UInt8) : ∀ (a cur r : List UInt8), (∀ b ∈ a, b ≠ c) → Txt.split c (a ++ c :: r) cur = (cur ++ a) :: Txt.split c r []
  | [], cur, r, _ => by simp [Txt.split]
  | x :: a, cur, r, h => by
    rw [List.cons_append, Txt.split, if_neg (h x (by simp)), split_app c a _ r (fun b hb => h b (by simp [hb]))]
    simp
theorem split_join (c : UInt8) : ∀ (ws : List (List UInt8)), ws ≠ [] → (∀ w ∈ ws, ∀ b ∈ w, b ≠ c) → Txt.split c (Lib.join ws [c]) [] = ws
  | [], h, _ => absurd rfl h
  | [w], _, h => by
    rw [Lib.join_one, split_run c w [] (h w (by simp))]
    simp
  | w :: v :: r, _, h => by
    have e : Lib.join (w :: v :: r) [c] = w ++ c :: Lib.join (v :: r) [c] := by
      rw [Lib.join_cons, Lib.join_cons]
      simp [Lib.joinTail]
    rw [e, split_app c w [] _ (h w (by simp)), split_join c (v :: r) (by simp) (fun u hu => h u (by simp at hu ⊢; exact .inr hu))]
    simp
theorem split_count (c : UInt8) : ∀ (l cur : List UInt8), (Txt.split c l cur).length ≤ l.length + 1
  | [], cur => by simp [Txt.split]
  | x :: r, cur => by
    unfold Txt.split
    split
    · have := split_count c r []; simp; omega
    · have := split_count c r (cur ++ [x]); simp; omega
theorem join_two (x y : List UInt8) (r : List (List UInt8)) (c : UInt8) : Lib.join (x :: y :: r) [c] = x ++ c :: Lib.join (y :: r) [c] := by
  rw [Lib.join_cons, Lib.join_cons]
  simp [Lib.joinTail]
/-- A text is its pieces, joined. -/
theorem join_split (c : UInt8) : ∀ (l cur : List UInt8), Lib.join (Txt.split c l cur) [c] = cur ++ l
  | [], cur => by simp [Txt.split, Lib.join_one]
  | b :: r, cur => by
    unfold Txt.split
    split
    · rename_i e
      subst e
      have ih := join_split b r []
      have hp := split_pos b r []
      cases hs : Txt.split b r [] with
      | nil => rw [hs] at hp; simp at hp
      | cons y q =>
        rw [join_two, ← hs, ih]
        simp
    · rw [join_split c r (cur ++ [b])]
      simp
theorem split_tame {l : List UInt8} (h : l.length ≤ 1500000) : Tame (Txt.split 32 l []) :=
  ⟨by have := split_count 32 l []; omega, fun p hp => by have := split_len 32 l [] p hp; simp at this; omega⟩

def spL (l : List UInt8) : List (List UInt8) := if l = [] then [] else if phOk (Txt.split 32 l []) then Txt.split 32 l [] else []
def spE (l : List UInt8) : Int := if l = [] then 0 else if phOk (Txt.split 32 l []) then 0 else 6
/-- The cells of some texts. -/
def tcells (ps : List (List UInt8)) : List Value := ps.map fun p => Value.string (str p)
/-- What a call leaves that answers some texts of its own and a code. -/
def TextsE (ps : List (List UInt8)) (E : Int) (w : World) (e : Ending) (w' : World) : Prop :=
  ∃ v, e = .returned (.tuple #[v, .int .i64 E]) ∧ w'.ownsRow w.heap.size 9 1 v ps.length (tcells ps) ∧ Below w.heap.size w w'
theorem own_rdS {w : World} {B : Nat} {v : Value} {ps : List (List UInt8)} (h : w.ownsRow B 9 1 v ps.length (tcells ps)) : ∃ A c, v = .slice A ps.length c ∧ ps.length ≤ c ∧ RdS w A ps := by
  obtain ⟨h1, h2⟩ := h
  rcases h2 with ⟨rfl, h0⟩ | ⟨g, cap, cur, rfl, hB, hg, hn, hm, hs, ht⟩
  · have e : ps = [] := List.eq_nil_of_length_eq_zero h0
    subst e
    exact ⟨none, 0, rfl, Nat.le_refl _, fun k hk => absurd hk (Nat.not_lt_zero k)⟩
  · refine ⟨_, cap, rfl, hn, fun k hk => ⟨g, 0, rfl, (Array.getElem?_eq_some_iff.1 hg).1, ?_⟩⟩
    have h3 : (tcells ps)[k]? = some (.string (str ps[k])) := by simp [tcells, hk]
    rw [← ht, List.getElem?_take, if_pos (by omega)] at h3
    rw [Blk.cell hg (0 + k), Nat.zero_add]
    simpa using h3
theorem owns_below {w w' : World} {B n : Nat} {v : Value} {xs : List Value} (h : w.ownsRow B 9 1 v n xs) (hb : Below w.heap.size w w') : w'.ownsRow B 9 1 v n xs := by
  refine ⟨h.1, ?_⟩
  rcases h.2 with h0 | ⟨g, cap, cur, hv, hB, hg, rest⟩
  · exact .inl h0
  · exact .inr ⟨g, cap, cur, hv, hB, (hb.block g (Array.getElem?_eq_some_iff.1 hg).1).trans hg, rest⟩
theorem owns_mono {w : World} {B B' n : Nat} {v : Value} {xs : List Value} (h : w.ownsRow B 9 1 v n xs) (hB' : B' ≤ B) : w.ownsRow B' 9 1 v n xs := by
  refine ⟨h.1, ?_⟩
  rcases h.2 with h0 | ⟨g, cap, cur, hv, hB, hg, rest⟩
  · exact .inl h0
  · exact .inr ⟨g, cap, cur, hv, by omega, hg, rest⟩

theorem spec_SplitPhrase (l : List UInt8) (hl : l.length ≤ 1500000) (w : World) : Calls Tryd.prog 11 #[.string (str l)] w (TextsE (spL l) (spE l) w) := by
  have sl := str_toList l
  by_cases h0 : l = []
  · have H := Lib.hid (show spL l = [] ∧ spE l = 0 from ⟨if_pos h0, if_pos h0⟩)
    have own0 : (w.alloc (.cells #[] 9)).ownsRow w.heap.size 9 1 (.slice (some ⟨w.heap.size, 0, none⟩) 0 0) 0 (tcells []) :=
      ⟨rfl, .inr ⟨w.heap.size, 0, #[], rfl, Nat.le_refl _, heap_alloc_new w _, Nat.le_refl _, Nat.zero_le _, rfl, rfl⟩⟩
    have bel0 : Below w.heap.size w (w.alloc (.cells #[] 9)) := (Below.refl _ _).alloc (Nat.le_refl _) _
    rw [H.out.1, H.out.2]
    clear H
    subst h0
    go_enter Tryd.func11, Tryd.ntmps11
    go_wp2_with fail
    go_ret2
    exact ⟨_, rfl, own0, bel0⟩
  · have hd : (l == []) = false := by simpa using h0
    have SP := Lib.hid (spec_split 32 l (by omega))
    have HT := Lib.hid (split_tame hl)
    by_cases hp : phOk (Txt.split 32 l [])
    · have H := Lib.hid (show spL l = Txt.split 32 l [] ∧ spE l = 0 from ⟨by unfold spL; rw [if_neg h0, if_pos hp], by unfold spE; rw [if_neg h0, if_pos hp]⟩)
      rw [H.out.1, H.out.2]
      clear H h0
      generalize Txt.split 32 l [] = ps at *
      have PH := Lib.hid (fun A c w => spec_phrase A c ps HT.out true (decide_eq_true hp) w)
      clear hp HT
      go_enter Tryd.func11, Tryd.ntmps11
      go_wp2_with fail
      refine (SP.out _).mono ?_
      rintro e w1 ⟨v, rfl, own1, hb1⟩
      have own2 : w1.ownsRow w.heap.size 9 1 v ps.length (tcells ps) := own1
      obtain ⟨A, c, rfl, hc, rd⟩ := own_rdS own2
      clear own1
      go_wp2_with fail
      refine (PH.out _ _ _ rd).mono ?_
      rintro e w2 ⟨rfl, rfl⟩
      go_wp2_with fail
      go_ret2
      exact ⟨_, rfl, own2, hb1⟩
    · have H := Lib.hid (show spL l = [] ∧ spE l = 6 from ⟨by unfold spL; rw [if_neg h0, if_neg hp], by unfold spE; rw [if_neg h0, if_neg hp]⟩)
      rw [H.out.1, H.out.2]
      clear H h0
      generalize Txt.split 32 l [] = ps at *
      have PH := Lib.hid (fun A c w => spec_phrase A c ps HT.out false (decide_eq_false hp) w)
      clear hp HT
      go_enter Tryd.func11, Tryd.ntmps11
      go_wp2_with fail
      refine (SP.out _).mono ?_
      rintro e w1 ⟨v, rfl, own1, hb1⟩
      have own2 : w1.ownsRow w.heap.size 9 1 v ps.length (tcells ps) := own1
      obtain ⟨A, c, rfl, hc, rd⟩ := own_rdS own2
      clear own1
      go_wp2_with fail
      refine (PH.out _ _ _ rd).mono ?_
      rintro e w2 ⟨rfl, rfl⟩
      go_wp2_with fail
      go_ret2
      exact ⟨_, rfl, World.ownsRow_nil _ _ _ _, hb1⟩

set_option maxHeartbeats 1000000 in
theorem spec_join (A : Option Addr) (cap : Nat) (ps : List (List UInt8)) (hp : ps.length ≤ 300) (h40 : ∀ p ∈ ps, p.length ≤ 40) (w : World) (hc : RdS w A ps) :
    Calls Tryd.prog 25 #[.slice A ps.length cap, .string ⟨#[32]⟩] w (Tx (Lib.join ps [32]) w) := by
  have HC := Lib.hid hc
  have H4 := Lib.hid h40
  clear hc h40
  go_enter Tryd.func25, Tryd.ntmps25
  go_wp2_with fail
  go_loopg [5, 6] ps.length (fun m o i wr => ∃ k : Nat, k ≤ ps.length ∧ m = ps.length - k ∧ i = .int .i64 k ∧ o = .string (str (J ps k)) ∧ Below w.heap.size w wr)
  case atStart => exact ⟨0, by omega, by omega, rfl, rfl, Below.refl _ _⟩
  case round =>
    obtain ⟨k, hk, hm, rfl, rfl, hb⟩ := hrel
    subst hm
    by_cases hlt : k < ps.length
    · have hgo : (k : Int) < (ps.length : Int) := by omega
      obtain ⟨g, off, rfl, hg, cc⟩ := (HC.out.below hb) k hlt
      have s1 : (str (J ps k)).size ≤ 12400 := by rw [str_size]; have := J_len H4.out k hk; omega
      have s2 : (str ps[k]).size ≤ 40 := by rw [str_size]; exact H4.out _ (List.getElem_mem hlt)
      by_cases h0 : k = 0
      · have hd : decide (0 < k) = false := by simp [h0]
        have E := Lib.hid (show str (J ps k) ++ str ps[k] = str (J ps (k + 1)) by
          subst h0
          rw [str_add, J_first hlt]
          simp [J, Lib.join_nil])
        clear h0
        go_wp2_with fail
        go_roundg (ps.length - (k + 1))
        case measure => omega
        case rel => exact ⟨k + 1, by omega, by omega, by go_num, congrArg Value.string E.out, hb⟩
      · have h0' : 0 < k := by omega
        have E := Lib.hid (show str (J ps k) ++ (⟨#[32]⟩ : ByteArray) ++ str ps[k] = str (J ps (k + 1)) by
          rw [show (⟨#[32]⟩ : ByteArray) = str [32] from rfl, str_add, str_add, J_next h0' hlt])
        have s3 : (str (J ps k) ++ (⟨#[32]⟩ : ByteArray)).size ≤ 12401 := by
          rw [show (⟨#[32]⟩ : ByteArray) = str [32] from rfl, str_add, str_size]
          have := J_len H4.out k hk
          simp
          omega
        clear h0
        go_wp2_with fail
        go_roundg (ps.length - (k + 1))
        case measure => omega
        case rel => exact ⟨k + 1, by omega, by omega, by go_num, congrArg Value.string E.out, hb⟩
    · have e : k = ps.length := by omega
      subst e
      have hge : ¬ (ps.length : Int) < (ps.length : Int) := by omega
      have E := Lib.hid (J_all ps)
      go_wp2_with fail
      go_ret
      exact ⟨congrArg (fun l => Ending.returned (.string (str l))) E.out, hb⟩

def ptL (ps : List (List UInt8)) : List UInt8 := if phOk ps then Lib.join ps [32] else []
def ptE (ps : List (List UInt8)) : Int := if phOk ps then 0 else 1
theorem spec_PhraseText (A : Option Addr) (c : Nat) (ps : List (List UInt8)) (ht : Tame ps) (w : World) (hr : RdS w A ps) : Calls Tryd.prog 8 #[.slice A ps.length c] w (TxE (ptL ps) (ptE ps) w) := by
  by_cases hp : phOk ps
  · have PH := Lib.hid (spec_phrase A c ps ht true (decide_eq_true hp))
    have JO := Lib.hid (spec_join A c ps (by have := hp.2; omega) (fun p h => by have := (hp.1 p h).2.2; omega))
    have H := Lib.hid (show Lib.join ps [32] = ptL ps ∧ 0 = ptE ps from ⟨(if_pos hp).symm, (if_pos hp).symm⟩)
    clear hp ht
    generalize Lib.join ps [32] = t at *
    go_enter Tryd.func8, Tryd.ntmps8
    go_wp2_with fail
    refine (PH.out _ hr).mono ?_
    rintro e w1 ⟨rfl, rfl⟩
    go_wp2_with fail
    refine (JO.out _ hr).mono ?_
    rintro e w1 ⟨rfl, hb⟩
    go_wp2_with fail
    go_ret2
    exact ⟨ret_tx H.out.1 H.out.2, hb⟩
  · have PH := Lib.hid (spec_phrase A c ps ht false (decide_eq_false hp))
    have H := Lib.hid (show [] = ptL ps ∧ 1 = ptE ps from ⟨(if_neg hp).symm, (if_neg hp).symm⟩)
    clear hp ht
    go_enter Tryd.func8, Tryd.ntmps8
    go_wp2_with fail
    refine (PH.out _ hr).mono ?_
    rintro e w1 ⟨rfl, rfl⟩
    go_wp2_with fail
    go_ret2
    exact ⟨ret_tx H.out.1 H.out.2, Below.refl _ _⟩

end Go.Proofs.YtdpbikephjnndaaDoor.Wrd
