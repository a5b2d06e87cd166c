/- The mathematics of what the code does with the texts of numerals: copies of a letter, a letter in another one's place, a last letter, and which letters a word may have. -/
import Derived.Test.YtiimoejjokfkfaaDoorNumP
import Derived.Lib.Replace
import Derived.Lib.Repeat
import Derived.Lib.Strings
namespace Go.Proofs.YtiimoejjokfkfaaDoor.Num
open Go.RowKit

theorem rep1 (c : UInt8) : ∀ n : Nat, Lib.repeatL [c] n = List.replicate n c
  | 0 => rfl
  | n + 1 => by
    rw [Lib.repeatL, rep1 c n]
    rfl

theorem repK_hit (a b : UInt8) (k : Nat) (l : List UInt8) : Lib.replaceK [a] [b] (k + 1) (a :: l) = b :: Lib.replaceK [a] [b] k l := by
  have hix : Lib.index (a :: l) [a] = ((0 : Nat) : Int) := by rw [Lib.index]; simp [List.isPrefixOf]
  rw [Lib.replaceK_hit _ _ _ _ 0 hix]
  simp

theorem repK_skip (a b d : UInt8) (h : d ≠ a) (l : List UInt8) : ∀ k, k ≤ Lib.count l [a] → Lib.replaceK [a] [b] k (d :: l) = d :: Lib.replaceK [a] [b] k l
  | 0, _ => rfl
  | k + 1, hk => by
    obtain ⟨i, hi⟩ := Lib.index_of_count (show 0 < Lib.count l [a] by omega)
    have hp : ([a] : List UInt8).isPrefixOf (d :: l) = false := by simp [List.isPrefixOf, Ne.symm h]
    have hix : Lib.index (d :: l) [a] = ((i + 1 : Nat) : Int) := by
      rw [Lib.index, hp, hi, if_neg (by decide), if_neg (by simp)]
      omega
    rw [Lib.replaceK_hit _ _ _ _ (i + 1) hix, Lib.replaceK_hit _ _ _ _ i hi]
    simp

theorem repK_all (a b : UInt8) : ∀ l : List UInt8, Lib.replaceK [a] [b] (Lib.count l [a]) l = l.map fun c => if c = a then b else c
  | [] => by rw [Lib.count_miss (by simp [Lib.index])]; rfl
  | d :: l => by
    by_cases h : d = a
    · subst h
      rw [Lib.count_cons_eq, Nat.add_comm, repK_hit, repK_all d b l]
      simp
    · rw [Lib.count_cons_ne _ _ _ h, repK_skip a b d h l _ (Nat.le_refl _), repK_all a b l]
      simp [h]

theorem repl_uv (l : List UInt8) : Lib.replaceAll l [117] [118] = l.map uv := by
  unfold Lib.replaceAll Lib.replace
  rw [if_neg (by decide)]
  unfold Lib.replaceNum
  rw [if_pos (.inl (by omega)), repK_all]
  rfl

theorem snoc_cases (l : List UInt8) : l = [] ∨ ∃ i c, l = i ++ [c] := by
  rcases List.eq_nil_or_concat l with h | ⟨i, c, h⟩
  · exact .inl h
  · exact .inr ⟨i, c, by rw [h, List.concat_eq_append]⟩
theorem last_snoc (a b c : UInt8) : ∀ i : List UInt8, last a b (i ++ [c]) = i ++ [if c = a then b else c]
  | [] => rfl
  | [d] => by simp [last]
  | d :: e :: r => by
    show d :: last a b ((e :: r) ++ [c]) = _
    rw [last_snoc a b c (e :: r)]
    rfl
theorem suf_snoc (a c : UInt8) (i : List UInt8) : Lib.hasSuffix (i ++ [c]) [a] = (a == c) := by
  simp [Lib.hasSuffix, List.isSuffixOf, List.isPrefixOf]
theorem suf_yes {l : List UInt8} {a : UInt8} (h : Lib.hasSuffix l [a] = true) (b : UInt8) : last a b l = Lib.trimSuffix l [a] ++ [b] := by
  unfold Lib.trimSuffix
  rw [if_pos h]
  rcases snoc_cases l with rfl | ⟨i, c, rfl⟩
  · simp [Lib.hasSuffix, List.isSuffixOf] at h
  · rw [suf_snoc] at h
    have e : a = c := by simpa using h
    subst e
    rw [last_snoc]
    simp
theorem suf_no {l : List UInt8} {a : UInt8} (h : Lib.hasSuffix l [a] = false) (b : UInt8) : last a b l = l := by
  rcases snoc_cases l with rfl | ⟨i, c, rfl⟩
  · rfl
  · rw [suf_snoc] at h
    have e : ¬ a = c := by simpa using h
    rw [last_snoc, if_neg (fun q => e q.symm)]

/-- The letters of a form count. -/
theorem dgo_mem {a b c : UInt8} {n : Nat} (h : c ∈ dgo a b n) : c = a ∨ c = b := by
  unfold dgo at h
  split at h
  · rcases List.mem_cons.1 h with h | h
    · exact .inr h
    · exact .inl (List.mem_replicate.1 h).2
  · exact .inl (List.mem_replicate.1 h).2
theorem dgL_mem {a b c d : UInt8} {n : Nat} {o : Bool} (h : d ∈ dgL a b c n o) : d = a ∨ d = b ∨ d = c := by
  unfold dgL at h
  split at h
  · simp at h
    rcases h with h | h
    · exact .inl h
    · exact .inr (.inl h)
  · split at h
    · simp at h
      rcases h with h | h
      · exact .inl h
      · exact .inr (.inr h)
    · rcases dgo_mem h with h | h
      · exact .inl h
      · exact .inr (.inl h)
theorem form_good (n : Nat) (o : Bool) : ∀ c ∈ formN n o, 0 < val c ∧ c ≠ 117 ∧ c ≠ 106 := by
  intro c h
  have key : c = 109 ∨ c = 99 ∨ c = 100 ∨ c = 120 ∨ c = 108 ∨ c = 105 ∨ c = 118 := by
    unfold formN at h
    simp only [List.mem_append] at h
    rcases h with ((h | h) | h) | h
    · exact .inl (List.mem_replicate.1 h).2
    · have := dgL_mem h; grind
    · have := dgL_mem h; grind
    · have := dgL_mem h; grind
  rcases key with rfl | rfl | rfl | rfl | rfl | rfl | rfl <;> decide

theorem map_uvvu : ∀ l : List UInt8, (∀ c ∈ l, c ≠ 117) → (l.map vu).map uv = l
  | [], _ => rfl
  | c :: r, h => by
    rw [List.map_cons, List.map_cons, map_uvvu r (fun d hd => h d (List.mem_cons_of_mem _ hd))]
    have hc := h c List.mem_cons_self
    congr 1
    unfold vu uv
    by_cases e : c = 118
    · subst e; rfl
    · rw [if_neg e, if_neg hc]
theorem last_map (l : List UInt8) : (last 105 106 l).map uv = last 105 106 (l.map uv) := by
  rcases snoc_cases l with rfl | ⟨i, c, rfl⟩
  · rfl
  · rw [last_snoc, List.map_append, List.map_append]
    show _ = last 105 106 (i.map uv ++ [uv c])
    rw [last_snoc]
    congr 1
    show [uv _] = _
    unfold uv
    by_cases e : c = 105
    · subst e; rfl
    · rw [if_neg e]
      by_cases f : c = 117
      · subst f; rfl
      · rw [if_neg f, if_neg e]
theorem last_back (l : List UInt8) (h : ∀ c ∈ l, c ≠ 106) : last 106 105 (last 105 106 l) = l := by
  rcases snoc_cases l with rfl | ⟨i, c, rfl⟩
  · rfl
  · have hc := h c (by simp)
    rw [last_snoc, last_snoc]
    by_cases e : c = 105
    · subst e; rfl
    · rw [if_neg e, if_neg hc]
/-- The old form, made plain. -/
theorem plain_old (n : Nat) (o : Bool) : plainL (oldL (formN n o)) = formN n o := by
  have g := form_good n o
  unfold plainL oldL
  rw [last_map, map_uvvu _ (fun c h => (g c h).2.1), last_back _ (fun c h => (g c h).2.2)]
/-- The old form out of the letters of its digits. -/
theorem old_digits (n : Nat) : (formN n true).map vu = List.replicate (n / 1000) 109 ++ dgo 99 100 (n / 100 % 10) ++ dgo 120 108 (n / 10 % 10) ++ dgo 105 117 (n % 10) := by
  have key : ∀ (a b : UInt8) (k : Nat), (dgo a b k).map vu = dgo (vu a) (vu b) k := by
    intro a b k
    unfold dgo
    split <;> simp
  have key2 : ∀ (a b c : UInt8) (k : Nat), dgL a b c k true = dgo a b k := by
    intro a b c k
    unfold dgL
    simp
  unfold formN
  rw [key2, key2, key2, List.map_append, List.map_append, List.map_append, key, key, key, List.map_replicate]
  rfl

theorem val_bd' (c : UInt8) : 0 ≤ val c ∧ val c ≤ 1000 := by
  unfold val
  repeat' split
  all_goals omega

/-- The letter that counts: as one of the plain form, if it is the last one or not. -/
def cl (c : UInt8) (z : Bool) : UInt8 := if z = true ∧ uv c = 106 then 105 else uv c
theorem plain_cl (l : List UInt8) (k : Nat) (h : k < l.length) : (plainL l)[k]'(by rw [plain_len]; exact h) = cl l[k] (decide (k + 1 = l.length)) := by
  have q := plain_get l k h
  rw [List.getElem?_eq_getElem (by rw [plain_len]; exact h)] at q
  injection q with q
  rw [q]
  unfold cl
  simp
/-- All letters of a word count. -/
def allL (l : List UInt8) : Prop := ∀ c ∈ plainL l, 0 < val c
theorem rd_all {l : List UInt8} (h : rdOk (plainL l)) : allL l := by
  intro c hc
  obtain ⟨h0, h | h⟩ := h
  all_goals
    rw [h] at hc
    exact (form_good _ _ c hc).1

end Go.Proofs.YtiimoejjokfkfaaDoor.Num
