/- Reading numbers and spans as impl does: the mathematics, and the contracts of readDigits, readNumber and readSpan. -/
import Derived.Test.YtfhcakpmlppbkaaGreatDoorTxI
import Derived.Test.YtfhcakpmlppbkaaGreatDoorTxM
import Derived.Test.YtfhcakpmlppbkaaGreatDoorPlain
namespace Go.Proofs.YtfhcakpmlppbkaaGreatDoor.Sets
open Go.RowKit

def w64 (n : Int) : Int := IntKind.i64.wrap n
theorem w64_bd (n : Int) : -9223372036854775808 ≤ w64 n ∧ w64 n ≤ 9223372036854775807 := by unfold w64; rw [IntKind.wrap_i64]; omega
theorem w64_in {n : Int} (h0 : -9223372036854775808 ≤ n) (h1 : n ≤ 9223372036854775807) : w64 n = n := by unfold w64; rw [IntKind.wrap_i64]; omega
/-- The number that impl reads out of digits: it may wrap round. -/
def wnum (l : List UInt8) : Int := l.foldl (fun n c => w64 (w64 (n * 10) + (c.toNat - 48 : Int))) 0
theorem wnum_snoc (l : List UInt8) (c : UInt8) : wnum (l ++ [c]) = w64 (w64 (wnum l * 10) + (c.toNat - 48 : Int)) := by simp [wnum, List.foldl_append]
theorem wnum_bd (l : List UInt8) : -9223372036854775808 ≤ wnum l ∧ wnum l ≤ 9223372036854775807 := by
  rcases List.eq_nil_or_concat l with rfl | ⟨r, c, rfl⟩
  · simp [wnum]
  · rw [List.concat_eq_append, wnum_snoc]; exact w64_bd _
def allDg (l : List UInt8) : Bool := l.all Txt.isDg
theorem allDg_snoc (l : List UInt8) (c : UInt8) : allDg (l ++ [c]) = (allDg l && Txt.isDg c) := by simp [allDg]
theorem allDg_no {l : List UInt8} {k : Nat} (h : k < l.length) (hd : Txt.isDg l[k] = false) : allDg l = false := by
  simp only [allDg, List.all_eq_false]
  exact ⟨l[k], List.getElem_mem h, by simp [hd]⟩
theorem wnum_plain : ∀ (r : List UInt8), allDg r.reverse = true → r.length ≤ 18 → wnum r.reverse = Txt.plain r.reverse := by
  intro r
  induction r with
  | nil => intro _ _; rfl
  | cons c r ih =>
    intro hd hl
    rw [List.reverse_cons] at hd ⊢
    rw [allDg_snoc, Bool.and_eq_true] at hd
    have hl' : r.length ≤ 17 := by simpa using hl
    have h := ih hd.1 (by omega)
    have hb := Txt.plain_bd r.reverse
    have hp : (10 : Int) ^ r.reverse.length ≤ 10 ^ 17 := by
      have h3 : (10 : Nat) ^ r.reverse.length ≤ 10 ^ 17 := Nat.pow_le_pow_right (by decide) (by simpa using hl')
      exact_mod_cast h3
    have hc := dg_bd hd.2
    have e17 : (10 : Int) ^ 17 = 100000000000000000 := by decide
    rw [wnum_snoc, h, Txt.plain_snoc, hd.2, if_pos rfl, w64_in (n := Txt.plain r.reverse * 10) (by omega) (by omega), w64_in (by omega) (by omega)]
    omega
theorem wnum_dec (n : Int) (h0 : 0 ≤ n) (h1 : n < 1000000000) : allDg (Txt.dec n) = true ∧ wnum (Txt.dec n) = n := by
  have hd : allDg (Txt.dec n) = true := by
    unfold allDg
    rw [List.all_eq_true]
    exact dec_digits n
  refine ⟨hd, ?_⟩
  have h := wnum_plain (Txt.dec n).reverse (by rw [List.reverse_reverse]; exact hd) (by have := dec_len9 n h0 h1; simp; omega)
  rw [List.reverse_reverse, plain_dec n h0 h1] at h
  exact h
def rn (l : List UInt8) : Option Int := if allDg l = true ∧ Lib.itoa (wnum l) = l then some (wnum l) else none
theorem rn_dec (n : Int) (h0 : 0 ≤ n) (h1 : n < 1000000000) : rn (Txt.dec n) = some n := by
  obtain ⟨a, b⟩ := wnum_dec n h0 h1
  unfold rn
  rw [b, if_pos ⟨a, itoa_dec n h0 h1⟩]
theorem rn_sound {l : List UInt8} {n : Int} (h : rn l = some n) (h0 : 0 ≤ n) (h1 : n < 1000000000) : l = Txt.dec n := by
  unfold rn at h
  split at h
  · rename_i hh
    injection h with h
    rw [← itoa_dec n h0 h1, ← h, hh.2]
  · cases h
def rs (p : List UInt8) : Option (Int × Int) :=
  match rn (Lib.cut p [46, 46]).1 with
  | none => none
  | some f => if (Lib.cut p [46, 46]).2.2 = false then some (f, f) else
    match rn (Lib.cut p [46, 46]).2.1 with
    | none => none
    | some t => if t ≤ f then none else some (f, t)
theorem cut_wd (s : Int × Int) : Lib.cut (wd s) [46, 46] = if s.1 < s.2 then (Txt.dec s.1, Txt.dec s.2, true) else (Txt.dec s.1, [], false) := by
  unfold wd
  by_cases h : s.1 < s.2
  · rw [if_pos h, if_pos h]
    have e := index_hit 46 [46] (Txt.dec s.1) (Txt.dec s.2) (dec_no46 s.1)
    have e2 : Txt.dec s.1 ++ [46, 46] ++ Txt.dec s.2 = Txt.dec s.1 ++ ((46 :: [46]) ++ Txt.dec s.2) := by simp
    rw [e2]
    unfold Lib.cut
    rw [e, if_pos (by omega)]
    simp
  · rw [if_neg h, if_neg h]
    unfold Lib.cut
    rw [index_miss 46 [46] _ (dec_no46 s.1), if_neg (by omega)]
theorem rs_wd {s : Int × Int} (h : ok s) : rs (wd s) = some s := by
  obtain ⟨h0, h1, h2⟩ := h
  unfold rs
  rw [cut_wd]
  by_cases hlt : s.1 < s.2
  · rw [if_pos hlt]
    simp only [rn_dec s.1 (by omega) (by omega), rn_dec s.2 (by omega) (by omega)]
    rw [if_neg (by simp), if_neg (by omega)]
  · rw [if_neg hlt]
    simp only [rn_dec s.1 (by omega) (by omega)]
    have : s.2 = s.1 := by omega
    rw [if_pos trivial, ← this]
    obtain ⟨a, b⟩ := s
    simp at this
    simp [this]
theorem rs_sound {p : List UInt8} {s : Int × Int} (h : rs p = some s) (hok : ok s) : p = wd s := by
  obtain ⟨h0, h1, h2⟩ := hok
  unfold rs at h
  cases hf : rn (Lib.cut p [46, 46]).1 with
  | none => rw [hf] at h; cases h
  | some f =>
    rw [hf] at h
    by_cases hc : (Lib.cut p [46, 46]).2.2 = false
    · simp only [hc, if_true] at h
      injection h with h
      subst h
      have e := rn_sound hf h0 (by simp only at h1 h2; omega)
      have e1 : (Lib.cut p [46, 46]).1 = p := by
        unfold Lib.cut at hc ⊢
        split
        · rename_i hi; rw [if_pos hi] at hc; cases hc
        · rfl
      unfold wd
      rw [if_neg (by simp), ← e, e1]
    · have hc' : (Lib.cut p [46, 46]).2.2 = true := by simpa using hc
      simp only [hc', Bool.true_eq_false, if_false] at h
      cases ht : rn (Lib.cut p [46, 46]).2.1 with
      | none => rw [ht] at h; cases h
      | some t =>
        rw [ht] at h
        simp only at h
        split at h
        · cases h
        · rename_i hlt
          injection h with h
          subst h
          have ef := rn_sound hf h0 (by simp only at h1 h2; omega)
          have et := rn_sound ht (by simp only at h0 h1; omega) (by simp only at h2; omega)
          have hi : 0 ≤ Lib.index p [46, 46] := by
            apply Classical.byContradiction
            intro hi
            unfold Lib.cut at hc'
            rw [if_neg hi] at hc'
            cases hc'
          have e := index_cut p [46, 46] (Lib.index p [46, 46]).toNat (by omega)
          have ec : Lib.cut p [46, 46] = (p.take (Lib.index p [46, 46]).toNat, p.drop ((Lib.index p [46, 46]).toNat + [46, 46].length), true) := by unfold Lib.cut; rw [if_pos hi]; rfl
          rw [ec] at ef et
          simp only at ef et
          unfold wd
          simp only at h1 hlt
          rw [if_pos (by omega), ← ef, ← et]
          rw [List.append_assoc]
          exact e
end Go.Proofs.YtfhcakpmlppbkaaGreatDoor.Sets
