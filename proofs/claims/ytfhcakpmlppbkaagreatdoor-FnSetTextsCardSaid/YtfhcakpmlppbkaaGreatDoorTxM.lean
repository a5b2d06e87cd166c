/- Reading the text of a set: the mathematics. -/
import Derived.Test.YtfhcakpmlppbkaaGreatDoorTxT
import Derived.Test.YtfhcakpmlppbkaaGreatDoorShelf
import Derived.Lib.Split
import Derived.Lib.AppendIntMem
namespace Go.Proofs.YtfhcakpmlppbkaaGreatDoor.Sets
open Go.RowKit

/-! ### decimal texts -/
theorem dec_digits (n : Int) : ∀ b ∈ Txt.dec n, Txt.isDg b = true := by
  have h : ∀ k n, ∀ b ∈ Txt.decF k n, Txt.isDg b = true := by
    intro k
    induction k with
    | zero => intro n b hb; simp [Txt.decF] at hb
    | succ k ih =>
      intro n b hb
      rw [Txt.decF] at hb
      split at hb
      · simp at hb; subst hb; exact Txt.isDg_dg n
      · rcases List.mem_append.1 hb with h | h
        · exact ih _ b h
        · simp at h; subst h; exact Txt.isDg_dg n
  exact h 19 n
theorem dg_bd {b : UInt8} (h : Txt.isDg b = true) : 48 ≤ b.toNat ∧ b.toNat ≤ 57 := by
  unfold Txt.isDg at h
  simpa using h
theorem plain_decF : ∀ (k : Nat) (n : Int), 0 ≤ n → n < 10 ^ (k + 1) → Txt.plain (Txt.decF (k + 1) n) = n := by
  intro k
  induction k with
  | zero =>
    intro n h0 h1
    have h2 : n < 10 := by simpa using h1
    have e := Txt.plain_snoc [] (Txt.dg n)
    rw [Txt.decF, if_pos h2]
    simp only [List.nil_append, Txt.isDg_dg, if_true, Txt.dg_val] at e
    rw [e]
    simp [Txt.plain]
    omega
  | succ k ih =>
    intro n h0 h1
    rw [Txt.decF]
    by_cases h2 : n < 10
    · rw [if_pos h2]
      have e := Txt.plain_snoc [] (Txt.dg n)
      simp only [List.nil_append, Txt.isDg_dg, if_true, Txt.dg_val] at e
      rw [e]
      simp [Txt.plain]
      omega
    · rw [if_neg h2, Txt.plain_snoc, Txt.isDg_dg, if_pos rfl, Txt.dg_val, ih (n / 10) (by omega) (by rw [Int.pow_succ] at h1; omega)]
      omega
theorem decF_len : ∀ (j k : Nat) (n : Int), 0 ≤ n → n < 10 ^ (j + 1) → (Txt.decF k n).length ≤ j + 1 := by
  intro j
  induction j with
  | zero =>
    intro k n h0 h1
    cases k with
    | zero => simp [Txt.decF]
    | succ k => rw [Txt.decF, if_pos (by simpa using h1)]; simp
  | succ j ih =>
    intro k n h0 h1
    cases k with
    | zero => simp [Txt.decF]
    | succ k =>
      rw [Txt.decF]
      split
      · simp
      · have := ih k (n / 10) (by omega) (by rw [Int.pow_succ] at h1; omega)
        simp
        omega
theorem dec_len9 (n : Int) (h0 : 0 ≤ n) (h1 : n < 1000000000) : (Txt.dec n).length ≤ 9 := decF_len 8 19 n h0 (by simpa using h1)
theorem plain_dec (n : Int) (h0 : 0 ≤ n) (h1 : n < 1000000000) : Txt.plain (Txt.dec n) = n := by
  refine plain_decF 18 n h0 ?_
  have h : (1000000000 : Int) ≤ 10 ^ (18 + 1) := by decide
  omega
theorem plain9_dec (n : Int) (h0 : 0 ≤ n) (h1 : n < 1000000000) : Txt.plain ((Txt.dec n).take 9) = n := by
  rw [List.take_of_length_le (dec_len9 n h0 h1), plain_dec n h0 h1]

/-! ### splitting -/
theorem split_run (c : UInt8) : ∀ (a cur : List UInt8), (∀ b ∈ a, b ≠ c) → Txt.split c a cur = [cur ++ a]
  | [], cur, _ => by simp [Txt.split]
  | x :: r, cur, h => by
    rw [Txt.split, if_neg (h x (by simp)), split_run c r _ (fun b hb => h b (by simp [hb]))]
    simp
theorem split_app (c : UInt8) : ∀ (a cur r : List UInt8), (∀ b ∈ a, b ≠ c) → Txt.split c (a ++ c :: r) cur = (cur ++ a) :: Txt.split c r []
  | [], cur, r, _ => by simp [Txt.split]
  | x :: a, cur, r, h => by
    rw [List.cons_append, Txt.split, if_neg (h x (by simp)), split_app c a _ r (fun b hb => h b (by simp [hb]))]
    simp
theorem split_join (c : UInt8) : ∀ (ws : List (List UInt8)), ws ≠ [] → (∀ w ∈ ws, ∀ b ∈ w, b ≠ c) → Txt.split c (Lib.join ws [c]) [] = ws
  | [], h, _ => absurd rfl h
  | [w], _, h => by
    rw [Lib.join_one, split_run c w [] (h w (by simp))]
    simp
  | w :: v :: r, _, h => by
    have e : Lib.join (w :: v :: r) [c] = w ++ c :: Lib.join (v :: r) [c] := by
      rw [Lib.join_cons, Lib.join_cons]
      simp [Lib.joinTail]
    rw [e, split_app c w [] _ (h w (by simp)), split_join c (v :: r) (by simp) (fun u hu => h u (by simp at hu ⊢; exact .inr hu))]
    simp

theorem wd_bytes (s : Int × Int) : ∀ b ∈ wd s, b ≠ 44 := by
  intro b hb e
  subst e
  unfold wd at hb
  split at hb
  · simp only [List.mem_append, List.mem_cons, List.not_mem_nil, or_false] at hb
    rcases hb with (h | h | h) | h
    · have := dg_bd (dec_digits _ _ h); simp at this
    · simp at h
    · simp at h
    · have := dg_bd (dec_digits _ _ h); simp at this
  · have := dg_bd (dec_digits _ _ hb); simp at this
theorem dec_no46 (n : Int) : ∀ b ∈ Txt.dec n, b ≠ 46 := by
  rintro b hb rfl
  have := dg_bd (dec_digits _ _ hb)
  simp at this
theorem split46 (s : Int × Int) : Txt.split 46 (wd s) [] = if s.1 < s.2 then [Txt.dec s.1, [], Txt.dec s.2] else [Txt.dec s.1] := by
  unfold wd
  split
  · have e : Txt.dec s.1 ++ [46, 46] ++ Txt.dec s.2 = Txt.dec s.1 ++ 46 :: ([] ++ 46 :: Txt.dec s.2) := by simp
    rw [e, split_app 46 _ _ _ (dec_no46 _), split_app 46 [] [] _ (by simp), split_run 46 _ _ (dec_no46 _)]
    simp
  · rw [split_run 46 _ _ (dec_no46 _)]
    simp

/-! ### what spec reads -/
def ends (p : List UInt8) : Int × Int := (Txt.plain (((Txt.split 46 p []).headD []).take 9), Txt.plain (((Txt.split 46 p []).getLastD []).take 9))
def parse (l : List UInt8) : L := (Txt.split 44 l []).map ends
theorem ends_wd {s : Int × Int} (h : ok s) : ends (wd s) = s := by
  obtain ⟨h0, h1, h2⟩ := h
  unfold ends
  rw [split46]
  by_cases hlt : s.1 < s.2
  · rw [if_pos hlt]
    simp only [List.headD_cons, List.getLastD_cons]
    rw [plain9_dec s.1 (by omega) (by omega)]
    simp only [List.getLastD]
    have := plain9_dec s.2 (by omega) (by omega)
    simp [this]
  · rw [if_neg hlt]
    simp only [List.headD_cons, List.getLastD_cons]
    rw [plain9_dec s.1 (by omega) (by omega)]
    obtain ⟨a, b⟩ := s
    simp only at h0 h1 h2 hlt
    have e : b = a := by omega
    subst e
    simp [List.getLastD, plain9_dec b (by omega) (by omega)]
theorem txt_ne {xs : L} (h : xs ≠ []) : txt xs = Lib.join (xs.map wd) [44] := if_neg h
theorem parse_txt {xs : L} (h : xs ≠ []) (hok : ∀ s ∈ xs, ok s) : parse (txt xs) = xs := by
  unfold parse
  rw [txt_ne h, split_join 44 _ (by simpa using h) (by
    intro w hw
    obtain ⟨s, _, rfl⟩ := List.mem_map.1 hw
    exact wd_bytes s), List.map_map]
  conv => rhs; rw [← List.map_id xs]
  exact List.map_congr_left fun s hs => ends_wd (hok s hs)
theorem txt_len1 {xs : L} (h : xs ≠ []) : 1 ≤ (txt xs).length ∧ (txt xs).head? ≠ some 45 := by
  cases xs with
  | nil => exact absurd rfl h
  | cons s r =>
    have e : txt (s :: r) = wd s ++ Lib.joinTail [44] (r.map wd) := by rw [txt_ne h, List.map_cons, Lib.join_cons]
    have hd : ∃ b t, wd s = b :: t ∧ Txt.isDg b = true := by
      have hp : 1 ≤ (Txt.dec s.1).length := Txt.decF_pos 18 s.1
      cases hw : Txt.dec s.1 with
      | nil => rw [hw] at hp; simp at hp
      | cons b t =>
        have hb := dec_digits s.1 b (by rw [hw]; simp)
        unfold wd
        rw [hw]
        split
        · exact ⟨b, _, rfl, hb⟩
        · exact ⟨b, t, rfl, hb⟩
    obtain ⟨b, t, hw, hb⟩ := hd
    rw [e, hw]
    refine ⟨by simp, ?_⟩
    simp only [List.cons_append, List.head?_cons]
    intro e
    injection e with e
    subst e
    have := dg_bd hb
    simp at this
theorem txt_dash {xs : L} (h : txt xs = [45]) : xs = [] := by
  apply Classical.byContradiction
  intro hne
  have := (txt_len1 hne).2
  rw [h] at this
  simp at this

/-- The set that a text stands for, and the code. -/
def isTxt (l : List UInt8) (xs : L) : Prop := setB xs = true ∧ txt xs = l
theorem isTxt_uniq {l : List UInt8} {xs ys : L} (h : isTxt l xs) (h' : isTxt l ys) : xs = ys := by
  by_cases hx : xs = []
  · subst hx
    have e : l = [45] := by rw [← h.2]; rfl
    exact (txt_dash (h'.2.trans e)).symm
  · by_cases hy : ys = []
    · subst hy
      have e : l = [45] := by rw [← h'.2]; rfl
      exact absurd (txt_dash (h.2.trans e)) hx
    · rw [← parse_txt hx (setB_t h.1).2, ← parse_txt hy (setB_t h'.1).2, h.2, h'.2]
noncomputable def rdV (l : List UInt8) : L := by
  classical
  exact if h : ∃ xs, isTxt l xs then Classical.choose h else []
noncomputable def rdE (l : List UInt8) : Int := by
  classical
  exact if ∃ xs, isTxt l xs then 0 else 6
theorem rd_yes {l : List UInt8} {xs : L} (h : isTxt l xs) : rdV l = xs ∧ rdE l = 0 := by
  have hx : ∃ xs, isTxt l xs := ⟨xs, h⟩
  refine ⟨?_, ?_⟩
  · unfold rdV
    rw [dif_pos hx]
    exact isTxt_uniq (Classical.choose_spec hx) h
  · unfold rdE
    rw [if_pos hx]
theorem rd_no {l : List UInt8} (h : ¬ ∃ xs, isTxt l xs) : rdV l = [] ∧ rdE l = 6 := by
  refine ⟨?_, ?_⟩
  · unfold rdV; rw [dif_neg h]
  · unfold rdE; rw [if_neg h]
/-- Spec's answer. -/
theorem rd_parse {l : List UInt8} (hd : l ≠ [45]) : (isTxt l (parse l) ∧ rdV l = parse l ∧ rdE l = 0) ∨ (¬ isTxt l (parse l) ∧ rdV l = [] ∧ rdE l = 6) := by
  by_cases h : isTxt l (parse l)
  · exact .inl ⟨h, rd_yes h⟩
  · refine .inr ⟨h, rd_no ?_⟩
    rintro ⟨xs, hx⟩
    apply h
    have hne : xs ≠ [] := by
      rintro rfl
      exact hd (by rw [← hx.2]; rfl)
    rw [← hx.2, parse_txt hne (setB_t hx.1).2]
    exact ⟨hx.1, rfl⟩

/-! ### what impl reads -/
theorem index_hit (c : UInt8) (t : List UInt8) : ∀ (a r : List UInt8), (∀ b ∈ a, b ≠ c) → Lib.index (a ++ ((c :: t) ++ r)) (c :: t) = a.length
  | [], r, _ => by
    have hp : (c :: t).isPrefixOf ((c :: t) ++ r) = true := by rw [List.isPrefixOf_iff_prefix]; exact List.prefix_append _ _
    rw [List.nil_append, List.cons_append] at *
    unfold Lib.index
    rw [if_pos hp]
    rfl
  | x :: a, r, h => by
    have hx : (c == x) = false := by rw [beq_eq_false_iff_ne]; exact fun e => h x (by simp) e.symm
    have ih := index_hit c t a r (fun b hb => h b (by simp [hb]))
    rw [List.cons_append]
    unfold Lib.index
    rw [ih]
    have h1 : (c :: t).isPrefixOf (x :: (a ++ ((c :: t) ++ r))) = false := by simp [List.isPrefixOf, hx]
    have h2 : ((a.length : Int) == -1) = false := by rw [beq_eq_false_iff_ne]; omega
    rw [h1, h2]
    simp
theorem index_miss (c : UInt8) (t : List UInt8) : ∀ (a : List UInt8), (∀ b ∈ a, b ≠ c) → Lib.index a (c :: t) = -1
  | [], _ => rfl
  | x :: a, h => by
    have hx : (c == x) = false := by rw [beq_eq_false_iff_ne]; exact fun e => h x (by simp) e.symm
    have ih := index_miss c t a (fun b hb => h b (by simp [hb]))
    unfold Lib.index
    rw [ih]
    have h1 : (c :: t).isPrefixOf (x :: a) = false := by simp [List.isPrefixOf, hx]
    rw [h1]
    simp
theorem index_cut (l sub : List UInt8) (i : Nat) (h : Lib.index l sub = i) : l = l.take i ++ (sub ++ l.drop (i + sub.length)) := by
  rcases Lib.index_spec l sub with ⟨h1, _⟩ | ⟨j, h1, h2, h3, _⟩
  · omega
  · have e : j = i := by omega
    subst e
    unfold Lib.occAt at h3
    rw [List.isPrefixOf_iff_prefix] at h3
    obtain ⟨r, hr⟩ := h3
    have : l.drop (j + sub.length) = r := by
      rw [← List.drop_drop, ← hr]
      simp
    rw [this, hr, List.take_append_drop]
theorem splitK_join (sep : UInt8) : ∀ (k : Nat) (l : List UInt8), Lib.join (Lib.splitK [sep] 0 k l) [sep] = l
  | 0, l => Lib.join_one _ _
  | k + 1, l => by
    unfold Lib.splitK
    by_cases h : (Lib.index l [sep] == -1) = true
    · rw [if_pos h, Lib.join_one]
    · rw [if_neg h]
      have hn : Lib.index l [sep] ≠ -1 := fun e => h (by rw [e]; rfl)
      have hge := Lib.index_ge l [sep]
      have hi : Lib.index l [sep] = ((Lib.index l [sep]).toNat : Nat) := by omega
      have hc := index_cut l [sep] _ hi
      have ih := splitK_join sep k (l.drop ((Lib.index l [sep]).toNat + [sep].length))
      have hne : Lib.splitK [sep] 0 k (l.drop ((Lib.index l [sep]).toNat + [sep].length)) ≠ [] := by
        cases k with
        | zero => simp [Lib.splitK]
        | succ k => unfold Lib.splitK; split <;> simp
      generalize Lib.splitK [sep] 0 k (l.drop ((Lib.index l [sep]).toNat + [sep].length)) = T at ih hne
      cases T with
      | nil => exact absurd rfl hne
      | cons y r =>
        have e : Lib.join (l.take ((Lib.index l [sep]).toNat + 0) :: y :: r) [sep] = l.take (Lib.index l [sep]).toNat ++ ([sep] ++ Lib.join (y :: r) [sep]) := by
          rw [Lib.join_cons, Lib.join_cons]
          simp [Lib.joinTail]
        rw [e, ih]
        exact hc.symm
theorem splitK_words (sep : UInt8) : ∀ (k : Nat) (ws : List (List UInt8)), ws ≠ [] → (∀ w ∈ ws, ∀ b ∈ w, b ≠ sep) → ws.length ≤ k + 1 → Lib.splitK [sep] 0 k (Lib.join ws [sep]) = ws
  | _, [], h, _, _ => absurd rfl h
  | 0, [w], _, _, _ => by rw [Lib.join_one]; rfl
  | k + 1, [w], _, h, _ => by
    rw [Lib.join_one]
    unfold Lib.splitK
    rw [index_miss sep [] w (h w (by simp))]
    rfl
  | 0, w :: v :: r, _, _, hl => by simp at hl
  | k + 1, w :: v :: r, _, h, hl => by
    have e : Lib.join (w :: v :: r) [sep] = w ++ ([sep] ++ Lib.join (v :: r) [sep]) := by
      rw [Lib.join_cons, Lib.join_cons]
      simp [Lib.joinTail]
    have hi := index_hit sep [] w (Lib.join (v :: r) [sep]) (h w (by simp))
    have ih := splitK_words sep k (v :: r) (by simp) (fun u hu => h u (by simp at hu ⊢; exact .inr hu)) (by simp at hl ⊢; omega)
    rw [e]
    unfold Lib.splitK
    rw [hi]
    have h2 : ((w.length : Int) == -1) = false := by rw [beq_eq_false_iff_ne]; omega
    rw [h2]
    simp
    exact ih

end Go.Proofs.YtfhcakpmlppbkaaGreatDoor.Sets
