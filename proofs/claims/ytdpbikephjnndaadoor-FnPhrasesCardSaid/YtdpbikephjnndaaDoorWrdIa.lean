/- Contracts of impl's words: IsWord, phrases, letters that are added, normal forms. -/
import Derived.Test.YtdpbikephjnndaaDoorWrdD
import Derived.Test.YtdpbikephjnndaaDoorSml
namespace Go.Proofs.YtdpbikephjnndaaDoor.Wrd
open Go.RowKit

theorem impl_word (l : List UInt8) (hl : l.length ≤ 2000000) (b : Bool) (h : decide (isW l) = b) (w : World) : Calls Tryd.prog 36 #[.string (str l)] w fun e w' => e = .returned (.bool b) ∧ w = w' := by
  have N := Lib.hid (Sml.impl_small (str l) 20 (by rw [str_size]; unfold maxLen; omega) b (by rw [← h]; exact decide_eq_decide.2 (nm_isW l)))
  clear h
  go_enter Tryd.func36, Tryd.ntmps36
  go_wp2_with fail
  refine (N.out _).mono ?_
  rintro e w1 ⟨rfl, rfl⟩
  go_wp2_with fail
  go_ret
  exact ⟨rfl, rfl⟩
theorem impl_IsWord (l : List UInt8) (hl : l.length ≤ 2000000) (b : Bool) (h : decide (isW l) = b) (w : World) : Calls Tryd.prog 36 #[.string (str l)] w fun e w' => e = .returned (.bool b) ∧ Below w.heap.size w w' :=
  (impl_word l hl b h w).mono fun _ _ ⟨h1, h2⟩ => ⟨h1, h2 ▸ Below.refl _ _⟩

theorem impl_phrase (A : Option Addr) (c : Nat) (ps : List (List UInt8)) (ht : Tame ps) (b : Bool) (h : decide (phOk ps) = b) (w : World) (hr : RdS w A ps) :
    Calls Tryd.prog 21 #[.slice A ps.length c] w fun e w' => e = .returned (.bool b) ∧ w = w' := by
  have HB := Lib.hid h
  have HT := Lib.hid ht.2
  have hl := ht.1
  clear h ht
  by_cases h60 : (60 : Int) < (ps.length : Int)
  · have hb : b = false := by rw [← HB.out]; exact decide_eq_false fun h => by have := h.2; omega
    subst hb
    clear HB HT
    go_enter Tryd.func21, Tryd.ntmps21
    go_wp2_with fail
    go_ret
    exact ⟨rfl, rfl⟩
  · have h60' : decide ((60 : Int) < (ps.length : Int)) = false := by simpa using h60
    go_enter Tryd.func21, Tryd.ntmps21
    go_wp2_with fail
    go_loopg [10] ps.length (fun m i wr => ∃ k : Nat, k ≤ ps.length ∧ m = ps.length - k ∧ i = .int .i64 k ∧ Hid (∀ j (hj : j < ps.length), j < k → isW ps[j]) ∧ w = wr)
    case atStart => exact ⟨0, by omega, by omega, rfl, Lib.hid (fun j hj h => by omega), rfl⟩
    case round =>
      obtain ⟨k, hk, hm, rfl, HK, rfl⟩ := hrel
      subst hm
      by_cases hlt : k < ps.length
      · have hgo : (k : Int) < (ps.length : Int) := by omega
        obtain ⟨g, off, rfl, hg, c0⟩ := hr k hlt
        by_cases hw : isW ps[k]
        · have HN : Hid (∀ j (hj : j < ps.length), j < k + 1 → isW ps[j]) := Lib.hid fun j hj h => by
            by_cases e : j = k
            · subst e; exact hw
            · exact HK.out j hj (by omega)
          have W := Lib.hid (impl_word ps[k] (HT.out _ (List.getElem_mem hlt)) true (decide_eq_true hw))
          clear HK hw
          generalize ps[k] = p at *
          go_wp2_with fail
          refine (W.out _).mono ?_
          rintro e w1 ⟨rfl, rfl⟩
          go_wp2_with fail
          go_roundg (ps.length - (k + 1))
          case measure => omega
          case rel => exact ⟨k + 1, by omega, by omega, by go_num, HN, rfl⟩
        · have hb : b = false := by rw [← HB.out]; exact decide_eq_false fun h => hw (h.1 _ (List.getElem_mem hlt))
          subst hb
          have W := Lib.hid (impl_word ps[k] (HT.out _ (List.getElem_mem hlt)) false (decide_eq_false hw))
          clear HK HB hw
          generalize ps[k] = p at *
          go_wp2_with fail
          refine (W.out _).mono ?_
          rintro e w1 ⟨rfl, rfl⟩
          go_wp2_with fail
          go_ret
          exact ⟨rfl, rfl⟩
      · have hge : ¬ (k : Int) < (ps.length : Int) := by omega
        have hb : b = true := by
          rw [← HB.out]
          refine decide_eq_true ⟨fun p hp => ?_, by omega⟩
          obtain ⟨i, hi, rfl⟩ := List.getElem_of_mem hp
          exact HK.out i hi (by omega)
        subst hb
        clear HK HB
        go_wp2_with fail
        go_ret
        exact ⟨rfl, rfl⟩

/-! ### letters added -/
/-- A list with one more letter, unless it ends with this letter. -/
def sqA (xs : List UInt8) (c : UInt8) : List UInt8 := if xs.getLast? = some c then xs else xs ++ [c]
theorem sqA_len (xs : List UInt8) (c : UInt8) : (sqA xs c).length ≤ xs.length + 1 := by
  unfold sqA
  split <;> simp
theorem sqA_last (xs : List UInt8) (c : UInt8) : (sqA xs c).getLast? = some c := by
  unfold sqA
  split
  · assumption
  · simp
theorem sqA_of_last {xs : List UInt8} {c : UInt8} (h : xs.getLast? = some c) : sqA xs c = xs := if_pos h
theorem sqA_twice (xs : List UInt8) (c : UInt8) : sqA (sqA xs c) c = sqA xs c := sqA_of_last (sqA_last xs c)
theorem sq_last : ∀ (n : Nat) (W : List UInt8), W.length ≤ n → (sq none W).getLast? = W.getLast?
  | n, W, hn => by
    rcases List.eq_nil_or_concat W with rfl | ⟨V, c, rfl⟩
    · rfl
    · cases n with
      | zero => simp at hn
      | succ n =>
        rw [List.concat_eq_append, sq_snoc]
        by_cases h : V.getLast? = some c
        · rw [if_pos (.inl h), sq_last n V (by simpa using hn), h]
          simp
        · rw [if_neg (fun q => q.elim h (fun q => by cases q.2))]
          simp
theorem sq_add (W : List UInt8) (c : UInt8) : sq none (W ++ [c]) = sqA (sq none W) c := by
  rw [sq_snoc]
  unfold sqA
  rw [sq_last _ W (Nat.le_refl _)]
  by_cases h : W.getLast? = some c
  · rw [if_pos (.inl h), if_pos h]
  · rw [if_neg (fun q => q.elim h (fun q => by cases q.2)), if_neg h]
theorem sq_wide (W : List UInt8) (c : UInt8) : ∃ d, sq none (W ++ widen c) = sqA (sq none W) d := by
  unfold widen
  repeat' split
  · exact ⟨_, sq_add _ _⟩
  · exact ⟨_, sq_add _ _⟩
  · exact ⟨117, by rw [show ([117, 117] : List UInt8) = [117] ++ [117] from rfl, ← List.append_assoc, sq_add, sq_add, sqA_twice]⟩
  · exact ⟨_, sq_add _ _⟩
theorem sq_wide_len (l : List UInt8) : ∀ k, k ≤ l.length → (sq none ((l.take k).flatMap widen)).length ≤ k
  | 0, _ => by simp [sq]
  | k + 1, h => by
    have ih := sq_wide_len l k (by omega)
    rw [← wide_next (show k < l.length by omega)]
    obtain ⟨d, e⟩ := sq_wide ((l.take k).flatMap widen) (l[k]'(by omega))
    rw [e]
    have := sqA_len (sq none ((l.take k).flatMap widen)) d
    omega
/-- A normal form is no longer than its word. -/
theorem norm_len1 (l : List UInt8) : (norm l).length ≤ l.length := by
  have h := sq_wide_len l l.length (Nat.le_refl _)
  rw [List.take_length] at h
  unfold norm cutE
  split
  · simp; omega
  · exact h

/-- Some bytes appended to a row of the call's own: what stays beside it. -/
theorem append_c {ops : Array Oper} {rest : List Oper} {o : Oper} {a : Act} {Q : Exit → Act → World → Prop} {w0 w1 : World} {v : Value} {acc : List UInt8} (news : List UInt8) {vs : Array Value} (hvs : vs.toList = Byr.cells news) {g : Nat} (hg : w1.heap.size = g)
    (hb : Below w0.heap.size w0 w1) (hown : Byr.Own w1 w0.heap.size v acc)
    (hN : acc.length + news.length ≤ 8000000) (hgd : o.guard = none) (s x : Operand) (ho : o.op = .call { callee := .builtin .append, args := #[s, x], argTypes := #[22, 22] })
    (hs : a.eval s = v) (hx : a.eval x = .slice (some ⟨g, 0, none⟩) news.length news.length)
    (K : ∀ v2 w2, Byr.Own w2 w0.heap.size v2 (acc ++ news) → Below w0.heap.size w0 w2 → (∀ k j u, some k ≠ v.ownBlock → w1.cell? ⟨k, j, none⟩ = some u → w2.cell? ⟨k, j, none⟩ = some u) → wpList Tryd.prog ops Q rest (a.put o.dst v2) w2) :
    wpList Tryd.prog ops Q (o :: rest) a (w1.alloc (.cells vs 5)) := by
  subst hg
  obtain ⟨i0, hi, hz0, hz1, hz2⟩ := info_parts Byr.info_byte
  refine wpList_append_own _ hgd s x 22 ho w0.heap.size 5 i0 (.int .u8 0) 1 1 Tryd.underlying22 hi hz0 hz1 hz2 rfl (by decide) v _ _ hs (hown.alloc _) ⟨w1.heap.size, 0, none⟩ news.length news.length (Byr.cells news) hx (by rw [Byr.cells_len, Nat.mul_one]) ?_ (Byr.cells_one _) ?_ ?_ ?_ ?_
  · intro j u hu
    rw [Byr.add_flat, (Blk.new w1 5 vs).cell j, ← hu, ← hvs]
    simp
  · unfold maxLen; omega
  · omega
  · have := hb.size; simp; omega
  · intro v2 w2 hown2 hgrow2 _
    refine K v2 w2 ?_ (Below.grown (hb.alloc hb.size _) hgrow2 (by have := hb.size; simp; omega) (fun g hg => (World.ownsRow.lt hown g hg).1)) ?_
    · unfold Byr.Own
      rw [List.length_append, Byr.cells_append]
      exact hown2
    · intro k j u hk hc
      exact hgrow2.cell (cell_al hc) hk

def AdL (n : Nat) (c : UInt8) (xs : List UInt8) (gL : Nat) (w0 : World) (m : Nat) (v i : Value) (wr : World) : Prop :=
  ∃ (k : Nat) (S : List UInt8), i = .int .i64 k ∧ m = n - k ∧ k ≤ n ∧ S.length ≤ xs.length + k ∧ Byr.Own wr w0.heap.size v S ∧ Below w0.heap.size w0 wr ∧
    Hid (∀ j, j < n → wr.cell? ⟨gL, j, none⟩ = some (.int .u8 (c.toNat : Int))) ∧ Hid (sqA S c = sqA xs c ∧ ((k = 0 ∧ v.ownBlock ≠ some gL) ∨ S.getLast? = some c))

set_option maxHeartbeats 2000000 in
theorem impl_add (n : Nat) (hn : 1 ≤ n ∧ n ≤ 2) (c : UInt8) (v : Value) (xs : List UInt8) (hx : xs.length ≤ 100) (gL : Nat) (w0 w : World) (hb : Below w0.heap.size w0 w) (hown : Byr.Own w w0.heap.size v xs)
    (_hL : gL < w.heap.size) (hne : v.ownBlock ≠ some gL) (hc : ∀ j, j < n → w.cell? ⟨gL, j, none⟩ = some (.int .u8 (c.toNat : Int))) :
    Calls Tryd.prog 51 #[v, .slice (some ⟨gL, 0, none⟩) n n] w fun e w' => ∃ v', e = .returned v' ∧ Byr.Own w' w0.heap.size v' (sqA xs c) ∧ Below w0.heap.size w0 w' := by
  obtain ⟨hn1, hn2⟩ := hn
  have HC := Lib.hid hc
  clear hc
  go_enter Tryd.func51, Tryd.ntmps51
  go_wp2_with fail
  go_loopg [0, 9] n (fun m v i wr => AdL n c xs gL w0 m v i wr)
  case atStart => exact ⟨0, xs, rfl, by omega, by omega, by omega, hown, hb, HC, Lib.hid ⟨rfl, .inl ⟨rfl, hne⟩⟩⟩
  case round =>
    clear hown HC hb hne
    obtain ⟨k, S, rfl, hm, hk, hS, hown, bel, HC, HS⟩ := hrel
    subst hm
    by_cases hlt : k < n
    · have hgo : (k : Int) < (n : Int) := by omega
      have c0 := HC.out k hlt
      obtain ⟨A, cap, rfl, hcap, hrd⟩ := hown.form
      by_cases hl : S.getLast? = some c
      · obtain ⟨m, hm⟩ : ∃ m, S.length = m + 1 := ⟨S.length - 1, by cases S with | nil => simp at hl | cons a r => simp⟩
        obtain ⟨g, rfl, hg, q0⟩ := hrd m (by omega)
        have el : S[m]'(by omega) = c := by
          rw [List.getLast?_eq_getElem?, List.getElem?_eq_getElem (by omega)] at hl
          injection hl with hl
          rw [← hl]
          congr 1
          omega
        rw [el] at q0
        have HS2 := Lib.hid (⟨HS.out.1, .inr hl⟩ : sqA S c = sqA xs c ∧ (((k + 1 : Nat) = 0 ∧ (Value.slice (some ⟨g, 0, none⟩) (m + 1) cap).ownBlock ≠ some gL) ∨ S.getLast? = some c))
        have hz : (((m : Int) + 1) == 0) = false := by simp; omega
        rw [hm] at hown hcap ⊢
        clear hl el hrd HS
        go_wp2_with fail
        go_roundg (n - (k + 1))
        case measure => omega
        case rel => exact ⟨k + 1, S, by go_num, by omega, by omega, by omega, hown, bel, HC, HS2⟩
      · have hk0 : k = 0 ∧ (Value.slice A S.length cap).ownBlock ≠ some gL := HS.out.2.resolve_right hl
        have eS : sqA S c = S ++ [c] := if_neg hl
        have HS2 : Hid (∀ v2 : Value, sqA (S ++ [c]) c = sqA xs c ∧ (((k + 1 : Nat) = 0 ∧ v2.ownBlock ≠ some gL) ∨ (S ++ [c]).getLast? = some c)) := Lib.hid fun v2 => ⟨by rw [← eS, sqA_twice]; exact HS.out.1, .inr (by simp)⟩
        have HO := Lib.hid hk0.2
        clear eS HS
        obtain ⟨rfl, -⟩ := hk0
        cases hSl : S.length with
        | zero =>
          rw [hSl] at hown hcap HO
          obtain rfl : S = [] := List.eq_nil_of_length_eq_zero hSl
          clear hl hrd hSl
          go_wp2_with (at_builtin; refine append_c [c] (by rfl) rfl bel hown (by simp) rfl (.tmp 26) (.tmp 28) rfl rfl rfl ?_)
          intro v2 w2 own2 bel2 keep2
          have HC2 := Lib.hid fun j hj => keep2 gL j _ (fun e => HO.out e.symm) (HC.out j hj)
          clear hown bel HC keep2
          go_wp2_with fail
          go_roundg (n - (0 + 1))
          case measure => omega
          case rel => exact ⟨0 + 1, [] ++ [c], by go_num, by omega, by omega, by simp, own2, bel2, HC2, Lib.hid (HS2.out v2)⟩
        | succ m =>
          obtain ⟨g, rfl, hg, q0⟩ := hrd m (by omega)
          have hne : S[m]'(by omega) ≠ c := fun e => hl (by
            rw [List.getLast?_eq_getElem?, List.getElem?_eq_getElem (by omega)]
            congr 1
            rw [← e]
            congr 1
            omega)
          obtain ⟨d, hd⟩ : ∃ d, S[m]'(by omega) = d := ⟨_, rfl⟩
          rw [hd] at q0 hne
          have n1 : ((d.toNat : Int) != (c.toNat : Int)) = true := byte_bne hne
          have n2 : ((d.toNat : Int) == (c.toNat : Int)) = false := byte_ne hne
          have hz : (((m : Int) + 1) == 0) = false := by simp; omega
          rw [hSl] at hown hcap HO
          have hS3 : S.length ≤ 200 := by omega
          clear hl hrd hd hne
          go_wp2_with (at_builtin; refine append_c [c] (by rfl) rfl bel hown (by simp only [List.length_cons, List.length_nil]; omega) rfl (.tmp 26) (.tmp 28) rfl rfl rfl ?_)
          intro v2 w2 own2 bel2 keep2
          have HC2 := Lib.hid fun j hj => keep2 gL j _ (fun e => HO.out e.symm) (HC.out j hj)
          clear hown bel HC keep2
          go_wp2_with fail
          go_roundg (n - (0 + 1))
          case measure => omega
          case rel => exact ⟨0 + 1, S ++ [c], by go_num, by omega, by omega, by simp; omega, own2, bel2, HC2, Lib.hid (HS2.out v2)⟩
    · have ek : k = n := by omega
      subst ek
      have hge : ¬ (k : Int) < (k : Int) := by omega
      have HE : Hid (S = sqA xs c) := Lib.hid (by
        rcases HS.out.2 with ⟨h0, -⟩ | hl
        · omega
        · rw [← HS.out.1, sqA_of_last hl])
      have own2 := hown
      rw [HE.out] at own2
      clear HS hown HE HC
      go_wp2_with fail
      go_ret
      exact ⟨_, rfl, own2, bel⟩

/-- The form that belongs to the first k letters. -/
def NmI (l : List UInt8) (w0 : World) (m : Nat) (v i : Value) (wr : World) : Prop :=
  ∃ k : Nat, i = .int .i64 k ∧ m = l.length - k ∧ k ≤ l.length ∧ Byr.Own wr w0.heap.size v (sq none ((l.take k).flatMap widen)) ∧ Below w0.heap.size w0 wr
theorem own_ne {w : World} {B : Nat} {v : Value} {l : List UInt8} (h : Byr.Own w B v l) : v.ownBlock ≠ some w.heap.size := fun e => by
  have := (World.ownsRow.lt h _ e).2
  omega
theorem new_cells (w : World) (vs : Array Value) (t : TypeId) (n : Nat) (u : Value) (h : ∀ j, j < n → vs[j]? = some u) : ∀ j, j < n → (w.alloc (.cells vs t)).cell? ⟨w.heap.size, j, none⟩ = some u := fun j hj => by
  rw [(Blk.new w t vs).cell j]
  exact h j hj
theorem sq_len20 {l : List UInt8} (hl : l.length ≤ 20) (k : Nat) (hk : k ≤ l.length) : (sq none ((l.take k).flatMap widen)).length ≤ 100 := by
  have := sq_wide_len l k hk
  omega

set_option maxRecDepth 100000 in
set_option maxHeartbeats 8000000 in
theorem impl_norm (l : List UInt8) (hl : l.length ≤ 20) (hl1 : 1 ≤ l.length) (w : World) : Calls Tryd.prog 42 #[.string (str l)] w (Tx (norm l) w) := by
  have sz := str_size l
  have own0 : Byr.Own w w.heap.size (.slice none 0 0) [] := World.ownsRow_nil _ _ _ _
  go_enter Tryd.func42, Tryd.ntmps42
  go_wp2_with fail
  go_loopg [3, 9] (l.length) (fun m v i wr => NmI l w m v i wr)
  case atStart => exact ⟨0, rfl, by omega, by omega, own0, Below.refl _ _⟩
  case round =>
    clear own0
    obtain ⟨k, rfl, hm, hk, hown, bel⟩ := hrel
    subst hm
    by_cases hlt : k < l.length
    · have hgo : (k : Int) < (l.length : Int) := by omega
      have hgs : (str l)[k]'(by rw [str_size]; exact hlt) = l[k] := get_str l k _
      have HW := Lib.hid (wide_next hlt)
      have hS := sq_len20 hl k hk
      have hne := own_ne hown
      obtain ⟨c, hc⟩ : ∃ c, l[k] = c := ⟨_, rfl⟩
      rw [hc] at HW hgs
      clear hc
      by_cases c118 : c = 118
      · subst c118
        have HE := Lib.hid (show sqA (sq none ((l.take k).flatMap widen)) 117 = sq none ((l.take (k + 1)).flatMap widen) by rw [← HW.out]; exact (sq_add _ 117).symm)
        clear HW
        have bel1 : Below w.heap.size w (wr.alloc (.cells #[.int .u8 117] 5)) := bel.alloc bel.size _
        have own1 := hown.alloc (.cells #[.int .u8 117] 5)
        have HQ := Lib.hid (impl_add 1 (by omega) 117 _ _ hS wr.heap.size w _ bel1 own1 (by simp) hne (new_cells wr _ _ 1 _ (by intro j hj; obtain rfl : j = 0 := (by omega); rfl)))
        clear hown bel bel1 own1 hne
        go_wp2_with fail
        refine HQ.out.mono ?_
        rintro e w2 ⟨v2, rfl, own2, bel2⟩
        have own3 := own2
        rw [HE.out] at own3
        clear own2 HQ
        go_wp2_with fail
        go_roundg (l.length - (k + 1))
        case measure => omega
        case rel => exact ⟨k + 1, by go_num, by omega, by omega, own3, bel2⟩
      have n118 : ((c.toNat : Int) == 118) = false := byte_ne c118
      by_cases c106 : c = 106
      · subst c106
        have HE := Lib.hid (show sqA (sq none ((l.take k).flatMap widen)) 105 = sq none ((l.take (k + 1)).flatMap widen) by rw [← HW.out]; exact (sq_add _ 105).symm)
        clear HW
        have bel1 : Below w.heap.size w (wr.alloc (.cells #[.int .u8 105] 5)) := bel.alloc bel.size _
        have own1 := hown.alloc (.cells #[.int .u8 105] 5)
        have HQ := Lib.hid (impl_add 1 (by omega) 105 _ _ hS wr.heap.size w _ bel1 own1 (by simp) hne (new_cells wr _ _ 1 _ (by intro j hj; obtain rfl : j = 0 := (by omega); rfl)))
        clear hown bel bel1 own1 hne
        go_wp2_with fail
        refine HQ.out.mono ?_
        rintro e w2 ⟨v2, rfl, own2, bel2⟩
        have own3 := own2
        rw [HE.out] at own3
        clear own2 HQ
        go_wp2_with fail
        go_roundg (l.length - (k + 1))
        case measure => omega
        case rel => exact ⟨k + 1, by go_num, by omega, by omega, own3, bel2⟩
      have n106 : ((c.toNat : Int) == 106) = false := byte_ne c106
      by_cases c121 : c = 121
      · subst c121
        have HE := Lib.hid (show sqA (sq none ((l.take k).flatMap widen)) 105 = sq none ((l.take (k + 1)).flatMap widen) by rw [← HW.out]; exact (sq_add _ 105).symm)
        clear HW
        have bel1 : Below w.heap.size w (wr.alloc (.cells #[.int .u8 105] 5)) := bel.alloc bel.size _
        have own1 := hown.alloc (.cells #[.int .u8 105] 5)
        have HQ := Lib.hid (impl_add 1 (by omega) 105 _ _ hS wr.heap.size w _ bel1 own1 (by simp) hne (new_cells wr _ _ 1 _ (by intro j hj; obtain rfl : j = 0 := (by omega); rfl)))
        clear hown bel bel1 own1 hne
        go_wp2_with fail
        refine HQ.out.mono ?_
        rintro e w2 ⟨v2, rfl, own2, bel2⟩
        have own3 := own2
        rw [HE.out] at own3
        clear own2 HQ
        go_wp2_with fail
        go_roundg (l.length - (k + 1))
        case measure => omega
        case rel => exact ⟨k + 1, by go_num, by omega, by omega, own3, bel2⟩
      have n121 : ((c.toNat : Int) == 121) = false := byte_ne c121
      by_cases c119 : c = 119
      · subst c119
        have HE := Lib.hid (show sqA (sq none ((l.take k).flatMap widen)) 117 = sq none ((l.take (k + 1)).flatMap widen) by rw [← HW.out]; show _ = sq none (_ ++ ([117] ++ [117])); rw [← List.append_assoc, sq_add, sq_add, sqA_twice])
        clear HW
        have bel1 : Below w.heap.size w (wr.alloc (.cells #[.int .u8 117, .int .u8 117] 5)) := bel.alloc bel.size _
        have own1 := hown.alloc (.cells #[.int .u8 117, .int .u8 117] 5)
        have HQ := Lib.hid (impl_add 2 (by omega) 117 _ _ hS wr.heap.size w _ bel1 own1 (by simp) hne (new_cells wr _ _ 2 _ (by intro j hj; rcases (show j = 0 ∨ j = 1 by omega) with rfl | rfl <;> rfl)))
        clear hown bel bel1 own1 hne
        go_wp2_with fail
        refine HQ.out.mono ?_
        rintro e w2 ⟨v2, rfl, own2, bel2⟩
        have own3 := own2
        rw [HE.out] at own3
        clear own2 HQ
        go_wp2_with fail
        go_roundg (l.length - (k + 1))
        case measure => omega
        case rel => exact ⟨k + 1, by go_num, by omega, by omega, own3, bel2⟩
      have n119 : ((c.toNat : Int) == 119) = false := byte_ne c119
      have ew : widen c = [c] := by unfold widen; rw [if_neg c118, if_neg (fun h => h.elim c106 c121), if_neg c119]
      have HE := Lib.hid (show sqA (sq none ((l.take k).flatMap widen)) c = sq none ((l.take (k + 1)).flatMap widen) by rw [← HW.out, ew]; exact (sq_add _ c).symm)
      clear HW ew c118 c106 c121 c119
      have bel1 : Below w.heap.size w (wr.alloc (.cells #[.int .u8 (c.toNat : Int)] 5)) := bel.alloc bel.size _
      have own1 := hown.alloc (.cells #[.int .u8 (c.toNat : Int)] 5)
      have HQ := Lib.hid (impl_add 1 (by omega) c _ _ hS wr.heap.size w _ bel1 own1 (by simp) hne (new_cells wr _ _ 1 _ (by intro j hj; obtain rfl : j = 0 := (by omega); rfl)))
      clear hown bel bel1 own1 hne
      go_wp2_with fail
      refine HQ.out.mono ?_
      rintro e w2 ⟨v2, rfl, own2, bel2⟩
      have own3 := own2
      rw [HE.out] at own3
      clear own2 HQ
      go_wp2_with fail
      go_roundg (l.length - (k + 1))
      case measure => omega
      case rel => exact ⟨k + 1, by go_num, by omega, by omega, own3, bel2⟩
    · have ek : k = l.length := by omega
      subst ek
      have hge : ¬ (l.length : Int) < (l.length : Int) := by omega
      rw [List.take_length] at hown
      have sl := sq_wide_len l l.length (Nat.le_refl _)
      rw [List.take_length] at sl
      obtain ⟨S, hS⟩ : ∃ S, sq none (l.flatMap widen) = S := ⟨_, rfl⟩
      have sp := sq_pos (wide_pos hl1)
      rw [hS] at hown sl sp
      have HS := Lib.hid hS
      clear hS
      obtain ⟨A2, cap2, rfl, hcap2, hrd2⟩ := hown.form
      have fin := bel
      have sb : S.length ≤ 80 := by omega
      clear hown sl
      obtain ⟨n, hn⟩ : ∃ n, S.length = n + 1 := ⟨S.length - 1, by omega⟩
      obtain ⟨g2, rfl, hg2, q0⟩ := hrd2 n (by omega)
      have cells : ∀ i, i < S.length → ∀ h, wr.cell? ⟨g2, i, none⟩ = some (.int .u8 ((S[i]'h).toNat : Int)) := fun i hi _ => by
        obtain ⟨g3, e3, -, h⟩ := hrd2 i hi
        injection e3 with e3
        injection e3 with e3
        subst e3
        exact h
      have hcv := run_convert_bytes_back (P := Tryd.prog) wr 22 9 5 ⟨g2, 0, none⟩ cap2 (S.take n) Tryd.underlying22 Tryd.underlying5 Tryd.underlying9 (fun i hi => by
        have hi2 : i < S.length := by simp at hi; omega
        rw [Addr.add_lit, Nat.zero_add, List.getElem_take]
        exact cells i hi2 hi2)
      rw [show (S.take n).length = n by simp; omega] at hcv
      have hcw := run_convert_bytes_back (P := Tryd.prog) wr 22 9 5 ⟨g2, 0, none⟩ cap2 S Tryd.underlying22 Tryd.underlying5 Tryd.underlying9 (fun i hi => by
        rw [Addr.add_lit, Nat.zero_add]
        exact cells i hi hi)
      by_cases he : 2 ≤ n ∧ S[n] = 101
      · have HN := Lib.hid (norm_yes HS.out (by omega) (by simpa [hn] using he.2))
        have h3 : (2 : Int) ≤ (n : Int) := by omega
        rw [he.2] at q0
        have q1 : wr.cell? ⟨g2, n, none⟩ = some (.int .u8 101) := q0
        rw [hn] at HN hcap2 sb ⊢
        clear q0 he hrd2 HS hn cells hcw sp
        go_wp2
        go_ret
        exact ⟨by rw [HN.out]; rfl, fin⟩
      · have HN := Lib.hid (norm_no HS.out (fun h => he ⟨by omega, by have := h.2.2; simpa [hn] using this⟩))
        obtain ⟨c, hc⟩ : ∃ c, S[n] = c := ⟨_, rfl⟩
        rw [hc] at q0 he
        by_cases h3 : (2 : Int) ≤ (n : Int)
        · have n1 : ((c.toNat : Int) == 101) = false := byte_ne (fun e => he ⟨by omega, e⟩)
          rw [hn] at hcap2 sb hcw ⊢
          clear he hc hrd2 HS hn cells hcv sp
          go_wp2
          go_ret
          exact ⟨by rw [HN.out]; rfl, fin⟩
        · have h3' : decide ((2 : Int) ≤ (n : Int)) = false := by simpa using h3
          rw [hn] at hcap2 sb hcw ⊢
          clear he hc hrd2 HS hn cells hcv q0 sp
          go_wp2
          go_ret
          exact ⟨by rw [HN.out]; rfl, fin⟩

end Go.Proofs.YtdpbikephjnndaaDoor.Wrd
