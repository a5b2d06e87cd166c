/- The mathematics of a text that is cut at a byte: what the library's pieces are. No Go in it. -/
import Derived.Test.YtdpbikephjnndaaDoorText
import Derived.Lib.Join
import Derived.Lib.SplitLaws
namespace Go.Proofs.YtdpbikephjnndaaDoor.Spl
open Go.RowKit

theorem index_hit (c : UInt8) (t : List UInt8) : ∀ (a r : List UInt8), (∀ b ∈ a, b ≠ c) → Lib.index (a ++ ((c :: t) ++ r)) (c :: t) = a.length
  | [], r, _ => by
    have hp : (c :: t).isPrefixOf ((c :: t) ++ r) = true := by rw [List.isPrefixOf_iff_prefix]; exact List.prefix_append _ _
    rw [List.nil_append, List.cons_append] at *
    unfold Lib.index
    rw [if_pos hp]
    rfl
  | x :: a, r, h => by
    have hx : (c == x) = false := by rw [beq_eq_false_iff_ne]; exact fun e => h x (by simp) e.symm
    have ih := index_hit c t a r (fun b hb => h b (by simp [hb]))
    rw [List.cons_append]
    unfold Lib.index
    rw [ih]
    have h1 : (c :: t).isPrefixOf (x :: (a ++ ((c :: t) ++ r))) = false := by simp [List.isPrefixOf, hx]
    have h2 : ((a.length : Int) == -1) = false := by rw [beq_eq_false_iff_ne]; omega
    rw [h1, h2]
    simp
theorem index_miss (c : UInt8) (t : List UInt8) : ∀ (a : List UInt8), (∀ b ∈ a, b ≠ c) → Lib.index a (c :: t) = -1
  | [], _ => rfl
  | x :: a, h => by
    have hx : (c == x) = false := by rw [beq_eq_false_iff_ne]; exact fun e => h x (by simp) e.symm
    have ih := index_miss c t a (fun b hb => h b (by simp [hb]))
    unfold Lib.index
    rw [ih]
    have h1 : (c :: t).isPrefixOf (x :: a) = false := by simp [List.isPrefixOf, hx]
    rw [h1]
    simp
theorem index_cut (l sub : List UInt8) (i : Nat) (h : Lib.index l sub = i) : l = l.take i ++ (sub ++ l.drop (i + sub.length)) := by
  rcases Lib.index_spec l sub with ⟨h1, _⟩ | ⟨j, h1, h2, h3, _⟩
  · omega
  · have e : j = i := by omega
    subst e
    unfold Lib.occAt at h3
    rw [List.isPrefixOf_iff_prefix] at h3
    obtain ⟨r, hr⟩ := h3
    have : l.drop (j + sub.length) = r := by
      rw [← List.drop_drop, ← hr]
      simp
    rw [this, hr, List.take_append_drop]
theorem splitK_join (sep : UInt8) : ∀ (k : Nat) (l : List UInt8), Lib.join (Lib.splitK [sep] 0 k l) [sep] = l
  | 0, l => Lib.join_one _ _
  | k + 1, l => by
    unfold Lib.splitK
    by_cases h : (Lib.index l [sep] == -1) = true
    · rw [if_pos h, Lib.join_one]
    · rw [if_neg h]
      have hn : Lib.index l [sep] ≠ -1 := fun e => h (by rw [e]; rfl)
      have hge := Lib.index_ge l [sep]
      have hi : Lib.index l [sep] = ((Lib.index l [sep]).toNat : Nat) := by omega
      have hc := index_cut l [sep] _ hi
      have ih := splitK_join sep k (l.drop ((Lib.index l [sep]).toNat + [sep].length))
      have hne : Lib.splitK [sep] 0 k (l.drop ((Lib.index l [sep]).toNat + [sep].length)) ≠ [] := by
        cases k with
        | zero => simp [Lib.splitK]
        | succ k => unfold Lib.splitK; split <;> simp
      generalize Lib.splitK [sep] 0 k (l.drop ((Lib.index l [sep]).toNat + [sep].length)) = T at ih hne
      cases T with
      | nil => exact absurd rfl hne
      | cons y r =>
        have e : Lib.join (l.take ((Lib.index l [sep]).toNat + 0) :: y :: r) [sep] = l.take (Lib.index l [sep]).toNat ++ ([sep] ++ Lib.join (y :: r) [sep]) := by
          rw [Lib.join_cons, Lib.join_cons]
          simp [Lib.joinTail]
        rw [e, ih]
        exact hc.symm
theorem splitK_words (sep : UInt8) : ∀ (k : Nat) (ws : List (List UInt8)), ws ≠ [] → (∀ w ∈ ws, ∀ b ∈ w, b ≠ sep) → ws.length ≤ k + 1 → Lib.splitK [sep] 0 k (Lib.join ws [sep]) = ws
  | _, [], h, _, _ => absurd rfl h
  | 0, [w], _, _, _ => by rw [Lib.join_one]; rfl
  | k + 1, [w], _, h, _ => by
    rw [Lib.join_one]
    unfold Lib.splitK
    rw [index_miss sep [] w (h w (by simp))]
    rfl
  | 0, w :: v :: r, _, _, hl => by simp at hl
  | k + 1, w :: v :: r, _, h, hl => by
    have e : Lib.join (w :: v :: r) [sep] = w ++ ([sep] ++ Lib.join (v :: r) [sep]) := by
      rw [Lib.join_cons, Lib.join_cons]
      simp [Lib.joinTail]
    have hi := index_hit sep [] w (Lib.join (v :: r) [sep]) (h w (by simp))
    have ih := splitK_words sep k (v :: r) (by simp) (fun u hu => h u (by simp at hu ⊢; exact .inr hu)) (by simp at hl ⊢; omega)
    rw [e]
    unfold Lib.splitK
    rw [hi]
    have h2 : ((w.length : Int) == -1) = false := by rw [beq_eq_false_iff_ne]; omega
    rw [h2]
    simp
    exact ih
theorem splitK_len (sep : List UInt8) : ∀ (k : Nat) (l : List UInt8), (Lib.splitK sep 0 k l).length ≤ k + 1
  | 0, _ => by simp [Lib.splitK]
  | k + 1, l => by
    unfold Lib.splitK
    split
    · simp
    · have := splitK_len sep k (l.drop ((Lib.index l sep).toNat + sep.length))
      simp
      omega
theorem splitK_pos (sep : List UInt8) (k : Nat) (l : List UInt8) : 1 ≤ (Lib.splitK sep 0 k l).length := by
  cases k with
  | zero => simp [Lib.splitK]
  | succ k => unfold Lib.splitK; split <;> simp
theorem splitK_short (sep : List UInt8) : ∀ (k : Nat) (l : List UInt8), ∀ p ∈ Lib.splitK sep 0 k l, p.length ≤ l.length
  | 0, l, p, h => by simp [Lib.splitK] at h; subst h; exact Nat.le_refl _
  | k + 1, l, p, h => by
    unfold Lib.splitK at h
    split at h
    · simp at h; subst h; exact Nat.le_refl _
    · rcases List.mem_cons.1 h with rfl | h
      · simp; omega
      · have := splitK_short sep k _ p h
        simp at this
        omega

end Go.Proofs.YtdpbikephjnndaaDoor.Spl
