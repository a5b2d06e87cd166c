/- Contracts of spec's names of feasts. -/
import Derived.Test.YtigjpalbaapkkaaFeaB
namespace Go.Proofs.Ytigjpalbaapkkaa.Fea
open Go.RowKit

/-- A string of bytes. -/
def bs (l : List UInt8) : ByteArray := ⟨l.toArray⟩
theorem bs_toList (l : List UInt8) : (bs l).toList = l := by rw [ByteArray.toList_eq]; rfl
/-- The names of all feasts. -/
def nms : List (List UInt8) := [
  [99, 105, 114, 99, 117, 109, 99, 105, 115, 105, 111, 110],
  [101, 112, 105, 112, 104, 97, 110, 121],
  [99, 97, 110, 100, 108, 101, 109, 97, 115],
  [97, 110, 110, 117, 110, 99, 105, 97, 116, 105, 111, 110],
  [106, 111, 104, 110],
  [112, 101, 116, 101, 114],
  [108, 97, 117, 114, 101, 110, 99, 101],
  [97, 115, 115, 117, 109, 112, 116, 105, 111, 110],
  [109, 105, 99, 104, 97, 101, 108],
  [97, 108, 108, 115, 97, 105, 110, 116, 115],
  [109, 97, 114, 116, 105, 110],
  [97, 110, 100, 114, 101, 119],
  [110, 105, 99, 104, 111, 108, 97, 115],
  [99, 104, 114, 105, 115, 116, 109, 97, 115],
  [97, 115, 104, 101, 115],
  [112, 97, 108, 109, 115],
  [101, 97, 115, 116, 101, 114],
  [97, 115, 99, 101, 110, 115, 105, 111, 110],
  [112, 101, 110, 116, 101, 99, 111, 115, 116],
  [116, 114, 105, 110, 105, 116, 121]]
/-- k is the first place of l in the list, or -1. -/
def IdxIs (xs : List (List UInt8)) (l : List UInt8) (k : Int) : Prop := (∃ j : Nat, k = j ∧ xs[j]? = some l ∧ ∀ i : Nat, i < j → xs[i]? ≠ some l) ∨ (k = -1 ∧ ∀ i : Nat, xs[i]? ≠ some l)
theorem IdxIs.uniq {xs : List (List UInt8)} {l : List UInt8} {k k' : Int} (h : IdxIs xs l k) (h' : IdxIs xs l k') : k = k' := by
  rcases h with ⟨j, rfl, h1, h2⟩ | ⟨rfl, h⟩ <;> rcases h' with ⟨j', rfl, k1, k2⟩ | ⟨rfl, k⟩
  · have a : ¬ j < j' := fun a => k2 j a h1
    have b : ¬ j' < j := fun b => h2 j' b k1
    omega
  · exact (k j h1).elim
  · exact (h j' k1).elim
  · rfl
/-- What FeastNamed answers. -/
def NamedAns (l : List UInt8) (k : Int) (b : Bool) : Prop := ∃ i, IdxIs nms l i ∧ ((0 ≤ i ∧ k = i ∧ b = true) ∨ (i = -1 ∧ k = 0 ∧ b = false))
theorem NamedAns.uniq {l : List UInt8} {k k' : Int} {b b' : Bool} (h : NamedAns l k b) (h' : NamedAns l k' b') : k = k' ∧ b = b' := by
  obtain ⟨i, h1, h2⟩ := h
  obtain ⟨i', k1, k2⟩ := h'
  have := h1.uniq k1
  subst this
  rcases h2 with ⟨a, rfl, rfl⟩ | ⟨a, rfl, rfl⟩ <;> rcases k2 with ⟨b, rfl, rfl⟩ | ⟨b, rfl, rfl⟩
  · exact ⟨rfl, rfl⟩
  · omega
  · omega
  · exact ⟨rfl, rfl⟩
theorem nms_len : nms.length = 20 := rfl
/-- The name with a number. -/
def nmL (f : Int) : List UInt8 := if isF f then nms.getD f.toNat [] else []
theorem nmL_get (j : Nat) (h : j < 20) : nms[j]? = some (nmL j) := by
  have hf : isF (j : Int) := ⟨by omega, by omega⟩
  unfold nmL
  rw [if_pos hf, Int.toNat_natCast, List.getD_eq_getElem?_getD, List.getElem?_eq_getElem (by rw [nms_len]; exact h)]
  rfl
theorem nmL_no (f : Int) (h : ¬ isF f) : nmL f = [] := if_neg h
theorem nms_ne : ∀ i : Fin 20, nms[i.val]? ≠ some [] := by decide
theorem nms_inj : ∀ i j : Fin 20, nms[i.val]? = nms[j.val]? → i = j := by decide
theorem idx_nm (j : Nat) (h : j < 20) : IdxIs nms (nmL j) j :=
  .inl ⟨j, rfl, nmL_get j h, fun i hi e => by
    have := nms_inj ⟨i, by omega⟩ ⟨j, h⟩ (e.trans (nmL_get j h).symm)
    have := congrArg Fin.val this
    simp at this
    omega⟩
theorem idx_none : IdxIs nms [] (-1) := .inr ⟨rfl, fun i e => by
  by_cases h : i < 20
  · exact nms_ne ⟨i, h⟩ e
  · rw [List.getElem?_eq_none (by rw [nms_len]; omega)] at e; cases e⟩
/-- The name of a feast has the feast's number. -/
theorem named_nm (f : Int) : NamedAns (nmL f) (if isF f then f else 0) (decide (isF f)) := by
  by_cases h : isF f
  · obtain ⟨h0, h1⟩ := h
    obtain ⟨j, rfl⟩ : ∃ j : Nat, f = j := ⟨f.toNat, by omega⟩
    rw [if_pos ⟨h0, h1⟩, decide_eq_true ⟨h0, h1⟩]
    exact ⟨j, idx_nm j (by omega), .inl ⟨by omega, rfl, rfl⟩⟩
  · rw [nmL_no f h, if_neg h, decide_eq_false h]
    exact ⟨-1, idx_none, .inr ⟨rfl, rfl, rfl⟩⟩
theorem nmL_empty (f : Int) : nmL f = [] ↔ ¬ isF f := by
  constructor
  · intro e h
    obtain ⟨h0, h1⟩ := h
    obtain ⟨j, rfl⟩ : ∃ j : Nat, f = j := ⟨f.toNat, by omega⟩
    exact nms_ne ⟨j, by omega⟩ ((nmL_get j (by omega)).trans (congrArg some e))
  · exact nmL_no f

/-- The cells of the names. -/
def nmV : Array Value := #[Value.string { data := #[99, 105, 114, 99, 117, 109, 99, 105, 115, 105, 111, 110] }, Value.string { data := #[101, 112, 105, 112, 104, 97, 110, 121] }, Value.string { data := #[99, 97, 110, 100, 108, 101, 109, 97, 115] }, Value.string { data := #[97, 110, 110, 117, 110, 99, 105, 97, 116, 105, 111, 110] }, Value.string { data := #[106, 111, 104, 110] }, Value.string { data := #[112, 101, 116, 101, 114] }, Value.string { data := #[108, 97, 117, 114, 101, 110, 99, 101] }, Value.string { data := #[97, 115, 115, 117, 109, 112, 116, 105, 111, 110] }, Value.string { data := #[109, 105, 99, 104, 97, 101, 108] }, Value.string { data := #[97, 108, 108, 115, 97, 105, 110, 116, 115] }, Value.string { data := #[109, 97, 114, 116, 105, 110] }, Value.string { data := #[97, 110, 100, 114, 101, 119] }, Value.string { data := #[110, 105, 99, 104, 111, 108, 97, 115] }, Value.string { data := #[99, 104, 114, 105, 115, 116, 109, 97, 115] }, Value.string { data := #[97, 115, 104, 101, 115] }, Value.string { data := #[112, 97, 108, 109, 115] }, Value.string { data := #[101, 97, 115, 116, 101, 114] }, Value.string { data := #[97, 115, 99, 101, 110, 115, 105, 111, 110] }, Value.string { data := #[112, 101, 110, 116, 101, 99, 111, 115, 116] }, Value.string { data := #[116, 114, 105, 110, 105, 116, 121] }]
theorem nmV_eq : nmV = (nms.map fun l => Value.string (bs l)).toArray := rfl
theorem nmV_get (j : Nat) (h : j < 20) : nmV[j]? = some (.string (bs (nmL j))) := by
  rw [nmV_eq, List.getElem?_toArray, List.getElem?_map, nmL_get j h]
  rfl

theorem spec_text (g n : Nat) (xs : List (List UInt8)) (hl : xs.length = n) (hn : n ≤ 2000000) (s : ByteArray) (w : World) (hb : Blk w g 9 (xs.map fun l => Value.string (bs l)).toArray) :
    Calls Try.prog 83 #[.slice (some ⟨g, 0, none⟩) n n, .string s] w fun e w' => ∃ k : Int, IdxIs xs s.toList k ∧ e = .returned (.int .i64 k) ∧ w = w' := by
  go_enter Try.func83, Try.ntmps83
  go_wp2_with fail
  go_loopg [5] n (fun m i wr => ∃ k : Nat, k ≤ n ∧ m = n - k ∧ i = .int .i64 k ∧ Hid (∀ i : Nat, i < k → xs[i]? ≠ some s.toList) ∧ w = wr)
  case atStart => exact ⟨0, by omega, by omega, rfl, Lib.hid (fun i h => by omega), rfl⟩
  case round =>
    obtain ⟨k, hk, hm, rfl, HK, rfl⟩ := hrel
    subst hm
    by_cases hlt : k < n
    · obtain ⟨t, ht⟩ : ∃ t, xs[k]? = some t := ⟨xs[k]'(by omega), List.getElem?_eq_getElem (by omega)⟩
      have c0 : w.cell? ⟨g, k, none⟩ = some (.string (bs t)) := (hb.cell k).trans (by simp [ht])
      have et := bs_toList t
      by_cases hs : t = s.toList
      · have e : ((bs t).toList == s.toList) = true := by rw [et, hs]; simp
        have HN := Lib.hid (show IdxIs xs s.toList k from .inl ⟨k, rfl, hs ▸ ht, HK.out⟩)
        clear ht hs et HK
        generalize bs t = t at *
        go_wp2_with fail
        go_ret
        exact ⟨k, HN, rfl, rfl⟩
      · have e : ((bs t).toList == s.toList) = false := by rw [et]; simpa using hs
        have HN : Hid (∀ i : Nat, i < k + 1 → xs[i]? ≠ some s.toList) := fun i hi ei => by
          by_cases h : i = k
          · subst h; rw [ht] at ei; injection ei with ei; exact hs ei
          · exact HK.out i (by omega) ei
        clear ht hs et HK
        generalize bs t = t at *
        go_wp2_with fail
        go_roundg (n - (k + 1))
        case measure => omega
        case rel => exact ⟨k + 1, by omega, by omega, by go_num, HN, rfl⟩
    · have HN := Lib.hid (show IdxIs xs s.toList (-1) from .inr ⟨rfl, fun i e => by
        by_cases h : i < k
        · exact HK.out i h e
        · rw [List.getElem?_eq_none (by omega)] at e; cases e⟩)
      clear HK
      go_wp2_with fail
      go_ret
      exact ⟨-1, HN, rfl, rfl⟩

end Go.Proofs.Ytigjpalbaapkkaa.Fea
