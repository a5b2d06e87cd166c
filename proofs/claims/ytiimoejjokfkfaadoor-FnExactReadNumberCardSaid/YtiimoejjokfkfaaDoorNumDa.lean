/- Decimal digits as impl reads them; contracts of impl's readDigits and readDecimal. -/
import Derived.Test.YtiimoejjokfkfaaDoorNumT
import Derived.Test.YtiimoejjokfkfaaDoorShelf
import Derived.Lib.AppendIntMem
import Derived.Lib.LaidTab
namespace Go.Proofs.YtiimoejjokfkfaaDoor.Num
open Go.RowKit

/-- The library's table of powers of ten reads as the program's text lays it. -/
def Tabs (w : World) : Prop := Lib.TabIs Tryd.prog w "internal/strconv.uint64pow10" .u64 Lib.pow10Tab
theorem Tabs.below {W w : World} (h : Tabs W) (hb : Below W.heap.size W w) : Tabs w := by
  unfold Tabs Lib.TabIs at h ⊢
  obtain ⟨g, hg⟩ : ∃ g, Tryd.prog.globalNamed "internal/strconv.uint64pow10" = some g := by
    cases hg : Tryd.prog.globalNamed "internal/strconv.uint64pow10" with
    | none => unfold World.var? at h; rw [hg] at h; cases h
    | some g => exact ⟨g, rfl⟩
  refine var?_below hb hg ?_ h
  rcases Nat.lt_or_ge g W.heap.size with hl | hl
  · exact hl
  · exfalso
    unfold World.var? at h
    rw [hg] at h
    simp [Array.getElem?_eq_none hl] at h

theorem itoa_dec (n : Int) (h0 : 0 ≤ n) (h1 : n < 1000000000) : Lib.itoa n = Txt.dec n := by
  obtain ⟨u, rfl⟩ := Int.eq_ofNat_of_zero_le h0
  rw [Lib.itoa_nonneg]
  have key : ∀ (k u : Nat), u < 10 ^ k → Txt.decF (k + 1) (u : Int) = Lib.decDigits u := by
    intro k
    induction k with
    | zero =>
      intro u hu
      obtain rfl : u = 0 := by simpa using hu
      rw [Lib.decDigits]
      rfl
    | succ k ih =>
      intro u hu
      have e : Txt.dg (u : Int) = UInt8.ofNat (48 + u % 10) := by
        unfold Txt.dg
        congr 1
      rw [Lib.decDigits]
      by_cases h : u < 10
      · rw [dif_pos h]
        have hi : (u : Int) < 10 := by omega
        rw [Txt.decF, if_pos hi, e, Nat.mod_eq_of_lt h]
      · rw [dif_neg h]
        have hi : ¬ (u : Int) < 10 := by omega
        rw [Txt.decF, if_neg hi, e]
        have hq : (u : Int) / 10 = ((u / 10 : Nat) : Int) := by omega
        rw [hq, ih (u / 10) (by rw [Nat.pow_succ] at hu; omega)]
  exact (key 18 u (by omega)).symm

theorem dec_digits (n : Int) : ∀ b ∈ Txt.dec n, Txt.isDg b = true := by
  have h : ∀ k n, ∀ b ∈ Txt.decF k n, Txt.isDg b = true := by
    intro k
    induction k with
    | zero => intro n b hb; simp [Txt.decF] at hb
    | succ k ih =>
      intro n b hb
      rw [Txt.decF] at hb
      split at hb
      · simp at hb; subst hb; exact Txt.isDg_dg n
      · rcases List.mem_append.1 hb with h | h
        · exact ih _ b h
        · simp at h; subst h; exact Txt.isDg_dg n
  exact h 19 n
theorem dg_bd {b : UInt8} (h : Txt.isDg b = true) : 48 ≤ b.toNat ∧ b.toNat ≤ 57 := by
  unfold Txt.isDg at h
  simpa using h
theorem plain_decF : ∀ (k : Nat) (n : Int), 0 ≤ n → n < 10 ^ (k + 1) → Txt.plain (Txt.decF (k + 1) n) = n := by
  intro k
  induction k with
  | zero =>
    intro n h0 h1
    have h2 : n < 10 := by simpa using h1
    have e := Txt.plain_snoc [] (Txt.dg n)
    rw [Txt.decF, if_pos h2]
    simp only [List.nil_append, Txt.isDg_dg, if_true, Txt.dg_val] at e
    rw [e]
    simp [Txt.plain]
    omega
  | succ k ih =>
    intro n h0 h1
    rw [Txt.decF]
    by_cases h2 : n < 10
    · rw [if_pos h2]
      have e := Txt.plain_snoc [] (Txt.dg n)
      simp only [List.nil_append, Txt.isDg_dg, if_true, Txt.dg_val] at e
      rw [e]
      simp [Txt.plain]
      omega
    · rw [if_neg h2, Txt.plain_snoc, Txt.isDg_dg, if_pos rfl, Txt.dg_val, ih (n / 10) (by omega) (by rw [Int.pow_succ] at h1; omega)]
      omega
theorem decF_len : ∀ (j k : Nat) (n : Int), 0 ≤ n → n < 10 ^ (j + 1) → (Txt.decF k n).length ≤ j + 1 := by
  intro j
  induction j with
  | zero =>
    intro k n h0 h1
    cases k with
    | zero => simp [Txt.decF]
    | succ k => rw [Txt.decF, if_pos (by simpa using h1)]; simp
  | succ j ih =>
    intro k n h0 h1
    cases k with
    | zero => simp [Txt.decF]
    | succ k =>
      rw [Txt.decF]
      split
      · simp
      · have := ih k (n / 10) (by omega) (by rw [Int.pow_succ] at h1; omega)
        simp
        omega
theorem dec_len9 (n : Int) (h0 : 0 ≤ n) (h1 : n < 1000000000) : (Txt.dec n).length ≤ 9 := decF_len 8 19 n h0 (by simpa using h1)
theorem plain_dec (n : Int) (h0 : 0 ≤ n) (h1 : n < 1000000000) : Txt.plain (Txt.dec n) = n := by
  refine plain_decF 18 n h0 ?_
  have h : (1000000000 : Int) ≤ 10 ^ (18 + 1) := by decide
  omega

def w64 (n : Int) : Int := IntKind.i64.wrap n
theorem w64_bd (n : Int) : -9223372036854775808 ≤ w64 n ∧ w64 n ≤ 9223372036854775807 := by unfold w64; rw [IntKind.wrap_i64]; omega
theorem w64_in {n : Int} (h0 : -9223372036854775808 ≤ n) (h1 : n ≤ 9223372036854775807) : w64 n = n := by unfold w64; rw [IntKind.wrap_i64]; omega
/-- The number that impl reads out of digits: it may wrap round. -/
def wnum (l : List UInt8) : Int := l.foldl (fun n c => w64 (w64 (n * 10) + (c.toNat - 48 : Int))) 0
theorem wnum_snoc (l : List UInt8) (c : UInt8) : wnum (l ++ [c]) = w64 (w64 (wnum l * 10) + (c.toNat - 48 : Int)) := by simp [wnum, List.foldl_append]
theorem wnum_bd (l : List UInt8) : -9223372036854775808 ≤ wnum l ∧ wnum l ≤ 9223372036854775807 := by
  rcases List.eq_nil_or_concat l with rfl | ⟨r, c, rfl⟩
  · simp [wnum]
  · rw [List.concat_eq_append, wnum_snoc]; exact w64_bd _
def allDg (l : List UInt8) : Bool := l.all Txt.isDg
theorem allDg_snoc (l : List UInt8) (c : UInt8) : allDg (l ++ [c]) = (allDg l && Txt.isDg c) := by simp [allDg]
theorem allDg_no {l : List UInt8} {k : Nat} (h : k < l.length) (hd : Txt.isDg l[k] = false) : allDg l = false := by
  simp only [allDg, List.all_eq_false]
  exact ⟨l[k], List.getElem_mem h, by simp [hd]⟩
theorem wnum_plain : ∀ (r : List UInt8), allDg r.reverse = true → r.length ≤ 18 → wnum r.reverse = Txt.plain r.reverse := by
  intro r
  induction r with
  | nil => intro _ _; rfl
  | cons c r ih =>
    intro hd hl
    rw [List.reverse_cons] at hd ⊢
    rw [allDg_snoc, Bool.and_eq_true] at hd
    have hl' : r.length ≤ 17 := by simpa using hl
    have h := ih hd.1 (by omega)
    have hb := Txt.plain_bd r.reverse
    have hp : (10 : Int) ^ r.reverse.length ≤ 10 ^ 17 := by
      have h3 : (10 : Nat) ^ r.reverse.length ≤ 10 ^ 17 := Nat.pow_le_pow_right (by decide) (by simpa using hl')
      exact_mod_cast h3
    have hc := dg_bd hd.2
    have e17 : (10 : Int) ^ 17 = 100000000000000000 := by decide
    rw [wnum_snoc, h, Txt.plain_snoc, hd.2, if_pos rfl, w64_in (n := Txt.plain r.reverse * 10) (by omega) (by omega), w64_in (by omega) (by omega)]
    omega
theorem wnum_dec (n : Int) (h0 : 0 ≤ n) (h1 : n < 1000000000) : allDg (Txt.dec n) = true ∧ wnum (Txt.dec n) = n := by
  have hd : allDg (Txt.dec n) = true := by
    unfold allDg
    rw [List.all_eq_true]
    exact dec_digits n
  refine ⟨hd, ?_⟩
  have h := wnum_plain (Txt.dec n).reverse (by rw [List.reverse_reverse]; exact hd) (by have := dec_len9 n h0 h1; simp; omega)
  rw [List.reverse_reverse, plain_dec n h0 h1] at h
  exact h
def rn (l : List UInt8) : Option Int := if allDg l = true ∧ Lib.itoa (wnum l) = l then some (wnum l) else none
theorem rn_dec (n : Int) (h0 : 0 ≤ n) (h1 : n < 1000000000) : rn (Txt.dec n) = some n := by
  obtain ⟨a, b⟩ := wnum_dec n h0 h1
  unfold rn
  rw [b, if_pos ⟨a, itoa_dec n h0 h1⟩]
theorem rn_sound {l : List UInt8} {n : Int} (h : rn l = some n) (h0 : 0 ≤ n) (h1 : n < 1000000000) : l = Txt.dec n := by
  unfold rn at h
  split at h
  · rename_i hh
    injection h with h
    rw [← itoa_dec n h0 h1, ← h, hh.2]
  · cases h

/-- What a call leaves that answers a number and a yes or no. -/
def NumO (o : Option Int) (w : World) (e : Ending) (w' : World) : Prop := e = .returned (.tuple #[.int .i64 (o.getD 0), .bool o.isSome]) ∧ Below w.heap.size w w'
def dgO (l : List UInt8) : Option Int := if allDg l = true then some (wnum l) else none
theorem ret_ib2 {a b : Int} {c d : Bool} (h : a = b) (h' : c = d) : Ending.returned (.tuple #[.int .i64 a, .bool c]) = .returned (.tuple #[.int .i64 b, .bool d]) := by rw [h, h']

set_option maxHeartbeats 1000000 in
theorem impl_readDigits (l : List UInt8) (hl : l.length ≤ 2000000) (w : World) :
    Calls Tryd.prog 60 #[.string (str l)] w (NumO (dgO l) w) := by
  have sz := str_size l
  go_enter Tryd.func60, Tryd.ntmps60
  go_wp2_with fail
  go_loopg [4, 8] l.length (fun g n i wr => ∃ k : Nat, k ≤ l.length ∧ g = l.length - k ∧ i = .int .i64 k ∧ n = .int .i64 (wnum (l.take k)) ∧ allDg (l.take k) = true ∧ w = wr)
  case atStart => exact ⟨0, by omega, rfl, rfl, by simp [wnum], by simp [allDg], rfl⟩
  case round =>
    obtain ⟨k, hk, hg, rfl, rfl, hall, rfl⟩ := hrel
    subst hg
    have HA := Lib.hid hall
    clear hall
    by_cases hlt : k < l.length
    · have hgo : ((k : Int) < (l.length : Int)) := by omega
      have hgs : (str l)[k]'(by rw [str_size]; exact hlt) = l[k] := get_str l k _
      have nb := wnum_bd (l.take k)
      have hsn := wnum_snoc (l.take k) l[k]
      have han := allDg_snoc (l.take k) l[k]
      rw [← take_snoc' l k hlt] at hsn han
      by_cases hd : Txt.isDg l[k] = true
      · have HS := Lib.hid hsn
        have HN := Lib.hid (show allDg (l.take (k + 1)) = true by rw [han, HA.out, hd]; rfl)
        unfold Txt.isDg at hd
        simp at hd
        obtain ⟨hd1, hd2⟩ := hd
        have d1 : (48 : Int) ≤ (l[k].toNat : Int) := by omega
        have d2 : (l[k].toNat : Int) ≤ 57 := by omega
        clear hsn hd1 hd2 han HA
        generalize l[k] = c at *
        generalize wnum (l.take k) = N at *
        go_wp2_with fail
        go_roundg (l.length - (k + 1))
        case measure => omega
        case rel => exact ⟨k + 1, by omega, rfl, by go_num, by rw [HS.out]; exact congrArg (Value.int .i64) (by unfold w64; rw [IntKind.wrap_i64, IntKind.wrap_i64]; (try simp only [wrap64]); try omega), HN.out, rfl⟩
      · have hf : Txt.isDg l[k] = false := by simpa using hd
        have HF := Lib.hid (show 0 = (dgO l).getD 0 ∧ false = (dgO l).isSome by have := allDg_no hlt hf; simp [dgO, this])
        have hd' : (l[k].toNat : Int) < 48 ∨ 57 < (l[k].toNat : Int) := by
          unfold Txt.isDg at hd
          simp at hd
          omega
        clear hsn hd han HA hf
        generalize l[k] = c at *
        rcases hd' with d1 | d1
        all_goals
          go_wp2_with fail
          go_ret2
          exact ⟨ret_ib2 HF.out.1 HF.out.2, Below.refl _ _⟩
    · have hgo : ¬ ((k : Int) < (l.length : Int)) := by omega
      have HF := Lib.hid (show wnum (l.take k) = (dgO l).getD 0 ∧ true = (dgO l).isSome by
        have e : l.take k = l := List.take_of_length_le (by omega)
        have h := HA.out
        rw [e] at h ⊢
        simp [dgO, h])
      go_wp2_with fail
      go_ret2
      exact ⟨ret_ib2 HF.out.1 HF.out.2, Below.refl _ _⟩

theorem go_FormatAny (n : Int) (h0 : -9223372036854775808 ≤ n) (h1 : n ≤ 9223372036854775807) (w : World) (ht : Tabs w) : Calls Tryd.prog 61 #[.int .i64 n, .int .i64 10] w (Tx (Lib.itoa n) w) := by
  refine (Tryd.strconv_FormatInt_10 n h0 h1 w ht).mono ?_
  rintro e w1 ⟨rfl, k, os, rfl⟩
  exact ⟨rfl, Lib.below_grow _ _ (Nat.le_refl _) _ _⟩

set_option maxHeartbeats 1000000 in
theorem impl_readDecimal (l : List UInt8) (hl : l.length ≤ 2000000) (w : World) (ht : Tabs w) :
    Calls Tryd.prog 47 #[.string (str l)] w (NumO (rn l) w) := by
  have C1 := Lib.hid (impl_readDigits l hl)
  have nb := wnum_bd l
  have HT := Lib.hid ht
  clear ht
  by_cases hd : allDg l = true
  · have eD : dgO l = some (wnum l) := if_pos hd
    rw [eD] at C1
    have C1 := Lib.hid (show ∀ wx, Calls Tryd.prog 60 #[.string (str l)] wx (fun e w' => e = .returned (.tuple #[.int .i64 (wnum l), .bool true]) ∧ Below wx.heap.size wx w') from C1.out)
    have C2 := Lib.hid (fun wx (k : Tabs wx) => go_FormatAny (wnum l) nb.1 nb.2 wx k)
    by_cases he : Lib.itoa (wnum l) = l
    · have E := Lib.hid (show wnum l = (rn l).getD 0 ∧ true = (rn l).isSome by
        have : rn l = some (wnum l) := if_pos ⟨hd, he⟩
        rw [this]
        exact ⟨rfl, rfl⟩)
      rw [he] at C2
      clear hd eD he
      generalize wnum l = N at *
      go_enter Tryd.func47, Tryd.ntmps47
      go_wp2_with fail
      refine (C1.out _).mono ?_
      rintro e w1 ⟨rfl, hb1⟩
      go_wp2_with fail
      refine (C2.out _ (HT.out.below hb1)).mono ?_
      rintro e w2 ⟨rfl, hb2⟩
      have hfin := below_step hb1 hb2
      go_wp2_with fail
      go_ret2
      exact ⟨ret_ib2 E.out.1 E.out.2, hfin⟩
    · have E := Lib.hid (show 0 = (rn l).getD 0 ∧ false = (rn l).isSome by
        have : rn l = none := if_neg (fun h => he h.2)
        rw [this]
        exact ⟨rfl, rfl⟩)
      have sE : ((str (Lib.itoa (wnum l))).toList == (str l).toList) = false := by rw [str_toList, str_toList, beq_eq_false_iff_ne]; exact he
      clear hd eD he
      generalize Lib.itoa (wnum l) = I at C2 sE
      generalize wnum l = N at *
      go_enter Tryd.func47, Tryd.ntmps47
      go_wp2_with fail
      refine (C1.out _).mono ?_
      rintro e w1 ⟨rfl, hb1⟩
      go_wp2_with fail
      refine (C2.out _ (HT.out.below hb1)).mono ?_
      rintro e w2 ⟨rfl, hb2⟩
      have hfin := below_step hb1 hb2
      go_wp2_with fail
      go_ret2
      exact ⟨ret_ib2 E.out.1 E.out.2, hfin⟩
  · have eD : dgO l = none := if_neg hd
    rw [eD] at C1
    have C1 := Lib.hid (show ∀ wx, Calls Tryd.prog 60 #[.string (str l)] wx (fun e w' => e = .returned (.tuple #[.int .i64 0, .bool false]) ∧ Below wx.heap.size wx w') from C1.out)
    have E := Lib.hid (show 0 = (rn l).getD 0 ∧ false = (rn l).isSome by
      have : rn l = none := if_neg (fun h => hd h.1)
      rw [this]
      exact ⟨rfl, rfl⟩)
    clear hd eD
    go_enter Tryd.func47, Tryd.ntmps47
    go_wp2_with fail
    refine (C1.out _).mono ?_
    rintro e w1 ⟨rfl, hb1⟩
    go_wp2_with fail
    go_ret2
    exact ⟨ret_ib2 E.out.1 E.out.2, hb1⟩

/-- The world's part of what impl's reading of numerals asks: a cell of the library, whatever it holds. -/
def Mx (w : World) : Prop := ∃ m, w.cell? ⟨0, 0, none⟩ = some (.int .i64 m)
theorem Mx.below {W w : World} (h : Mx W) (hb : Below W.heap.size W w) : Mx w := by
  obtain ⟨m, h2⟩ := h
  exact ⟨m, cell_later hb h2⟩
/-- .. and of numbers. -/
def Env (w : World) : Prop := Tabs w ∧ Mx w
theorem Env.below {W w : World} (h : Env W) (hb : Below W.heap.size W w) : Env w := ⟨h.1.below hb, h.2.below hb⟩

/-- A number of 1 to 3999 that is read in decimal: the same that the model's digits give. -/
theorem rn_yes {l : List UInt8} {n : Int} (h : rn l = some n) (hn : isN n) : dgB l = true ∧ dgV l = n := by
  have e := rn_sound h (by have := hn.1; omega) (by have := hn.2; omega)
  have h9 := dec_len9 n (by have := hn.1; omega) (by have := hn.2; omega)
  have hp := plain_dec n (by have := hn.1; omega) (by have := hn.2; omega)
  have hd : l.all Txt.isDg = true := by
    rw [e, List.all_eq_true]
    exact dec_digits n
  have h1 : 1 ≤ l.length := by
    rcases l with _ | ⟨a, r⟩
    · rw [← e] at hp
      have := hn.1
      simp [Txt.plain] at hp
      omega
    · simp
  have c : 1 ≤ l.length ∧ l.length ≤ 9 ∧ l.all Txt.isDg = true := ⟨h1, by rw [e]; exact h9, hd⟩
  have ep : Txt.plain l = n := by rw [e]; exact hp
  refine ⟨decide_eq_true ⟨c, by rw [ep]; exact e.symm⟩, (if_pos c).trans ep⟩
theorem rn_of {l : List UInt8} (h : dgB l = true) (hn : isN (dgV l)) : rn l = some (dgV l) := by
  obtain ⟨c, e⟩ := of_decide_eq_true h
  have ev : dgV l = Txt.plain l := if_pos c
  rw [ev] at hn ⊢
  have := rn_dec (Txt.plain l) (by have := hn.1; omega) (by have := hn.2; omega)
  rw [e] at this
  exact this

end Go.Proofs.YtiimoejjokfkfaaDoor.Num
