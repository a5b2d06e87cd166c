/- Texts of a claim in one file: Kinds IntR. -/
import Derived.Test.YtfhcakpmlppbkaaGreatDoorGrpAk
import Derived.Test.YtfhcakpmlppbkaaGreatDoorGrpAf
import Derived.Test.YtfhcakpmlppbkaaGreatDoorGrpAo
import Derived.Test.YtfhcakpmlppbkaaGreatDoorGrpAi
import Derived.Test.YtfhcakpmlppbkaaGreatDoorGrpAj
import Derived.WalkKit
import Derived.WalkSpells
import Derived.WalkLawsBesides
import Derived.Deep.QuietTactic
import Derived.BigQuiet
import Derived.Deep.LoopGhost
import Derived.Deep.RegionHeld3
import Derived.Deep.RegionWith
import Derived.Lib.Hide
import Derived.StillTactics
import Derived.StillTailTactics
import Derived.IntWalk
import Derived.Laws.MakeOwn
import Derived.OwnWalk
import Derived.Laws.AppendOwn
import Derived.Laws.OwnMore
namespace Go.Proofs.YtfhcakpmlppbkaaGreatDoor

namespace Fea
open Go.RowKit
open Go.Proofs.YtfhcakpmlppbkaaGreatDoor.Eas (isY It)

end Fea

namespace Ind
open Go.RowKit

end Ind

namespace Rei
open Go.RowKit


/-- A name: 1 to most small letters. -/
def nmOk (s : ByteArray) (most : Int) : Prop := (∀ i (h : i < s.size), 97 ≤ s[i].toNat ∧ s[i].toNat ≤ 122) ∧ 1 ≤ s.size ∧ (s.size : Int) ≤ most
instance (s : ByteArray) (most : Int) : Decidable (nmOk s most) := by unfold nmOk; exact inferInstance
theorem spec_name (s : ByteArray) (most : Int) (hs : s.size ≤ maxLen) (b : Bool) (h : decide (nmOk s most) = b) (w : World) : Calls Tryz.prog 98 #[.string s, .int .i64 most] w fun e w' => e = .returned (.bool b) ∧ w = w' := by
  have HB := Lib.hid h
  clear h
  unfold maxLen at hs
  go_enter Tryz.func98, Tryz.ntmps98
  go_wp2_with fail
  go_loopg [5] s.size (fun m i wr => ∃ k : Nat, k ≤ s.size ∧ m = s.size - k ∧ i = .int .i64 k ∧ Hid (∀ j (h : j < s.size), j < k → 97 ≤ s[j].toNat ∧ s[j].toNat ≤ 122) ∧ w = wr)
  case atStart => exact ⟨0, by omega, by omega, rfl, Lib.hid (fun j h hj => by omega), rfl⟩
  case round =>
    obtain ⟨k, hk, hm, rfl, HK, rfl⟩ := hrel
    subst hm
    by_cases hlt : k < s.size
    · have hgo : (k : Int) < (s.size : Int) := by omega
      by_cases h1 : 97 ≤ s[k].toNat
      · by_cases h2 : s[k].toNat ≤ 122
        · have HN : Hid (∀ j (h : j < s.size), j < k + 1 → 97 ≤ s[j].toNat ∧ s[j].toNat ≤ 122) := Lib.hid fun j h hj => by
            by_cases e : j = k
            · subst e; exact ⟨h1, h2⟩
            · exact HK.out j h (by omega)
          have d1 : (97 : Int) ≤ (s[k].toNat : Int) := by omega
          have d2 : (s[k].toNat : Int) ≤ 122 := by omega
          clear HK HB h1 h2
          obtain ⟨c, hgs⟩ : ∃ c, s[k]'hlt = c := ⟨_, rfl⟩
          rw [hgs] at d1 d2
          go_wp2_with fail
          go_roundg (s.size - (k + 1))
          case measure => omega
          case rel => exact ⟨k + 1, by omega, by omega, by go_num, HN, rfl⟩
        · have hb : b = false := by rw [← HB.out]; exact decide_eq_false fun h => h2 (h.1 k hlt).2
          have d1 : (97 : Int) ≤ (s[k].toNat : Int) := by omega
          have d2 : (122 : Int) < (s[k].toNat : Int) := by omega
          subst hb
          clear HK HB h1 h2
          obtain ⟨c, hgs⟩ : ∃ c, s[k]'hlt = c := ⟨_, rfl⟩
          rw [hgs] at d1 d2
          go_wp2_with fail
          go_ret
          exact ⟨rfl, rfl⟩
      · have hb : b = false := by rw [← HB.out]; exact decide_eq_false fun h => h1 (h.1 k hlt).1
        have d1 : (s[k].toNat : Int) < 97 := by omega
        subst hb
        clear HK HB h1
        obtain ⟨c, hgs⟩ : ∃ c, s[k]'hlt = c := ⟨_, rfl⟩
        rw [hgs] at d1
        go_wp2_with fail
        go_ret
        exact ⟨rfl, rfl⟩
    · have hge : (s.size : Int) ≤ k := by omega
      have HE : Hid (b = decide (1 ≤ (s.size : Int) ∧ (s.size : Int) ≤ most)) := Lib.hid (by
        rw [← HB.out]
        apply decide_eq_decide.2
        constructor
        · intro h; exact ⟨by have := h.2.1; omega, h.2.2⟩
        · intro h; exact ⟨fun i hi => HK.out i hi (by omega), by omega, h.2⟩)
      clear HK HB
      by_cases h1 : 1 ≤ (s.size : Int)
      · by_cases h2 : (s.size : Int) ≤ most
        · have hb : b = true := by rw [HE.out]; exact decide_eq_true ⟨h1, h2⟩
          subst hb
          go_wp2_with fail
          go_ret
          exact ⟨rfl, rfl⟩
        · have hb : b = false := by rw [HE.out]; exact decide_eq_false fun h => h2 h.2
          have h2' : decide ((s.size : Int) ≤ most) = false := by simpa using h2
          subst hb
          go_wp2_with fail
          go_ret
          exact ⟨rfl, rfl⟩
      · have hb : b = false := by rw [HE.out]; exact decide_eq_false fun h => h1 h.1
        have h1' : decide (1 ≤ (s.size : Int)) = false := by simpa using h1
        subst hb
        go_wp2_with fail
        go_ret
        exact ⟨rfl, rfl⟩

end Rei

end Go.Proofs.YtfhcakpmlppbkaaGreatDoor

namespace Go.Proofs.YtfhcakpmlppbkaaGreatDoor.Ints
open Go.RowKit

abbrev L := List Int
theorem ret_bool {a b : Bool} (h : a = b) : Ending.returned (.bool a) = .returned (.bool b) := by rw [h]

/-- The slice with address A and length n reads as the numbers xs. -/
def Rd (w : World) (A : Option Addr) (n : Nat) (xs : L) : Prop :=
  xs.length = n ∧ (0 < n → ∃ g off, A = some ⟨g, off, none⟩ ∧ g < w.heap.size ∧
    ∀ k (h : k < xs.length), w.cell? ⟨g, off + k, none⟩ = some (.int .i64 xs[k]))

/-- The slice is a row of the call's own, in a block from B on and below U. -/
def Row (w : World) (B U : Nat) (A : Option Addr) (n c : Nat) (xs : L) : Prop :=
  xs.length = n ∧ n ≤ c ∧ U ≤ w.heap.size ∧ (0 < n → ∃ g off cs, A = some ⟨g, off, none⟩ ∧ B ≤ g ∧ g < U ∧ Blk w g 2 cs ∧
    ∀ k (h : k < xs.length), cs[off + k]? = some (.int .i64 xs[k]))

/-- Only blocks from B on and below U have changed. -/
structure Chg (B U : Nat) (w w' : World) : Prop where
  os : w'.os = w.os
  tape : w'.tape = w.tape
  output : w'.output = w.output
  size : w.heap.size ≤ w'.heap.size
  block : ∀ i, i < w.heap.size → (i < B ∨ U ≤ i) → w'.heap[i]? = w.heap[i]?

section
variable {w w' : World} {A : Option Addr} {n c B U : Nat} {xs : L}
theorem Rd.at_ (h : Rd w A n xs) {k : Nat} (hk : k < n) : ∃ g off, ∃ hl : k < xs.length, A = some ⟨g, off, none⟩ ∧ g < w.heap.size ∧
    w.cell? ⟨g, off + k, none⟩ = some (.int .i64 xs[k]) := by
  obtain ⟨hl, hc⟩ := h
  obtain ⟨g, off, rfl, hg, hcell⟩ := hc (by omega)
  exact ⟨g, off, by omega, rfl, hg, hcell k (by omega)⟩
theorem Rd.below (h : Rd w A n xs) (hb : Below w.heap.size w w') : Rd w' A n xs :=
  ⟨h.1, fun hn => by
    obtain ⟨g, off, e, hg, hcell⟩ := h.2 hn
    exact ⟨g, off, e, Nat.lt_of_lt_of_le hg hb.size, fun k hk => (hb.cell (p := ⟨g, _, none⟩) hg).trans (hcell k hk)⟩⟩
theorem Rd.nil : Rd w A 0 [] := ⟨rfl, fun h => absurd h (Nat.lt_irrefl _)⟩
theorem Row.rd (h : Row w B U A n c xs) : Rd w A n xs :=
  ⟨h.1, fun hn => by
    obtain ⟨g, off, cs, e, _, hg, hb, hcell⟩ := h.2.2.2 hn
    refine ⟨g, off, e, Nat.lt_of_lt_of_le hg h.2.2.1, fun k hk => ?_⟩
    rw [hb.cell]
    exact hcell k hk⟩
theorem Row.below (h : Row w B U A n c xs) (hb : Below w.heap.size w w') : Row w' B U A n c xs :=
  ⟨h.1, h.2.1, Nat.le_trans h.2.2.1 hb.size, fun hn => by
    obtain ⟨g, off, cs, e, h1, hg, hk, hcell⟩ := h.2.2.2 hn
    exact ⟨g, off, cs, e, h1, hg, hk.below hb hk.lt, hcell⟩⟩
theorem Row.chg {B' U' : Nat} (h : Row w B U A n c xs) (hc : Chg B' U' w w') (hd : U ≤ B' ∨ U' ≤ B) : Row w' B U A n c xs :=
  ⟨h.1, h.2.1, Nat.le_trans h.2.2.1 hc.size, fun hn => by
    obtain ⟨g, off, cs, e, h1, hg, hk, hcell⟩ := h.2.2.2 hn
    exact ⟨g, off, cs, e, h1, hg, (hc.block g hk.lt (by omega)).trans hk, hcell⟩⟩
theorem Row.mono {B' U' : Nat} (h : Row w B U A n c xs) (hB : B' ≤ B) (hU : U ≤ U') (hs : U' ≤ w.heap.size) : Row w B' U' A n c xs :=
  ⟨h.1, h.2.1, hs, fun hn => by
    obtain ⟨g, off, cs, e, h1, hg, hk, hcell⟩ := h.2.2.2 hn
    exact ⟨g, off, cs, e, by omega, by omega, hk, hcell⟩⟩
theorem Row.nil {c : Nat} (h : U ≤ w.heap.size) : Row w B U A 0 c [] := ⟨rfl, Nat.zero_le _, h, fun h => absurd h (Nat.lt_irrefl _)⟩
theorem Chg.refl (w : World) : Chg B U w w := ⟨rfl, rfl, rfl, Nat.le_refl _, fun _ _ _ => rfl⟩
theorem Chg.setCell (h : Chg B U w w') {p : Addr} (h1 : B ≤ p.block) (h2 : p.block < U) (u : Value) : Chg B U w (w'.setCell p u) :=
  ⟨h.os, h.tape, h.output, by simpa [World.setCell] using h.size, fun i hi hr => (Below.heap_setCell w' p u i (by omega)).trans (h.block i hi hr)⟩
theorem Chg.below {B0 : Nat} (h : Chg B U w w') (hB : B0 ≤ B) (hs : B0 ≤ w.heap.size) : Below B0 w w' :=
  ⟨h.os, h.tape, h.output, h.size, fun k hk => h.block k (by omega) (.inl (by omega))⟩
end

/-- A row of n numbers, of which those before k are marked. -/
def MarkRow (w : World) (B U : Nat) (A : Option Addr) (n k : Nat) (k0 : Int) : Prop :=
  0 < n → ∃ g off cs, A = some ⟨g, off, none⟩ ∧ B ≤ g ∧ g < U ∧ Blk w g 2 cs ∧
    ∀ j, j < n → ∃ u, cs[off + j]? = some u ∧ (j < k → u = .int .i64 (k0 + j))

/-- The numbers that marking from k on leaves. -/
def marks (k : Int) : Nat → L
  | 0 => []
  | n + 1 => marks k n ++ [k + n]
theorem marks_length (k : Int) (n : Nat) : (marks k n).length = n := by
  induction n with
  | zero => rfl
  | succ n ih => simp [marks, ih]
theorem marks_get (k : Int) (n j : Nat) (h : j < (marks k n).length) : (marks k n)[j] = k + j := by
  induction n with
  | zero => simp [marks] at h
  | succ n ih =>
    rw [marks_length] at h
    simp only [marks, List.getElem_append, marks_length]
    split
    · exact ih _
    · have : j = n := by omega
      subst this
      simp

set_option maxHeartbeats 400000 in
theorem laws_likeInts (A A' : Option Addr) (n c c' : Nat) (xs : L) (hn : n ≤ 2000000) (w : World) (h : Rd w A n xs) (h' : Rd w A' n xs) :
    Calls Tryz.prog 30 #[.slice A n c, .slice A' n c'] w fun e w' => e = .returned (.bool true) ∧ Below w.heap.size w w' := by
  go_enter Tryz.func30, Tryz.ntmps30
  go_wp2_with fail
  go_loopg [5] n (fun m i wr => ∃ k : Nat, k ≤ n ∧ m = n - k ∧ i = .int .i64 k ∧ Below w.heap.size w wr)
  case atStart => exact ⟨0, by omega, by omega, rfl, Below.refl _ _⟩
  case round =>
    obtain ⟨k, hk, hm, rfl, hb⟩ := hrel
    subst hm
    by_cases hlt : k < n
    · obtain ⟨g, off, hl, rfl, hg, c0⟩ := (h.below hb).at_ hlt
      obtain ⟨g', off', hl', rfl, hg', c0'⟩ := (h'.below hb).at_ hlt
      go_wp2_with fail
      go_quiet (fail)
      go_wp2_with fail
      go_roundg (n - (k + 1))
      case measure => omega
      case rel => exact ⟨k + 1, by omega, by omega, by go_num, below_drewN hb _⟩
    · go_wp2_with fail
      go_ret
      exact ⟨rfl, hb⟩

/-! ### rows of the call's own that grow -/
/-- The cells of some numbers. -/
def cells (xs : L) : List Value := xs.map (.int .i64)
theorem cells_length (a : L) : (cells a).length = a.length := by simp [cells]
theorem cells_at (a : L) (k : Nat) (h : k < a.length) : (cells a)[k]? = some (.int .i64 a[k]) := by simp [cells, h]
theorem cells_snoc (a : L) (x : Int) : cells (a ++ [x]) = cells a ++ [.int .i64 x] := by simp [cells]
/-- v is a row of the call's own that holds the numbers xs. -/
def Own (w : World) (B : Nat) (v : Value) (xs : L) : Prop := w.ownsRow B 2 1 v xs.length (cells xs)
section
variable {w w' : World} {B : Nat} {v : Value} {xs : L}
theorem Own.form (h : Own w B v xs) : ∃ A c, v = .slice A xs.length c ∧ Row w B w.heap.size A xs.length c xs := by
  obtain ⟨h1, h2⟩ := h
  rcases h2 with ⟨rfl, h0⟩ | ⟨g, cap, cur, rfl, hB, hg, hn, hm, hs, ht⟩
  · have e : xs = [] := List.eq_nil_of_length_eq_zero h0
    subst e
    exact ⟨none, 0, rfl, Row.nil (Nat.le_refl _)⟩
  · refine ⟨_, cap, rfl, rfl, hn, Nat.le_refl _, fun _ => ⟨g, 0, cur, rfl, hB, (Array.getElem?_eq_some_iff.1 hg).1, hg, fun k hk => ?_⟩⟩
    have h3 := cells_at xs k hk
    rw [← ht, List.getElem?_take, if_pos (by omega)] at h3
    simpa using h3
theorem Own.alloc (h : Own w B v xs) (o : Obj) : (w.alloc o).ownsRow B 2 1 v xs.length (cells xs) := World.ownsRow.alloc h o
theorem Own.made0 (w : World) : Own (w.alloc (.cells #[] 2)) w.heap.size (.slice (some ⟨w.heap.size, 0, none⟩) 0 0) [] :=
  ⟨rfl, .inr ⟨w.heap.size, 0, #[], rfl, Nat.le_refl _, heap_alloc_new w _, Nat.le_refl _, Nat.zero_le _, rfl, rfl⟩⟩
theorem Own.nil (w : World) (B : Nat) : Own w B (.slice none 0 0) [] := World.ownsRow_nil w B _ 1
theorem Own.below (h : Own w B v xs) (hb : Below w.heap.size w w') : Own w' B v xs := by
  refine ⟨h.1, ?_⟩
  rcases h.2 with h0 | ⟨g, cap, cur, hv, hB, hg, rest⟩
  · exact .inl h0
  · exact .inr ⟨g, cap, cur, hv, hB, (hb.block g (Array.getElem?_eq_some_iff.1 hg).1).trans hg, rest⟩
theorem Own.mono {B' : Nat} (h : Own w B v xs) (hB : B' ≤ B) : Own w B' v xs := by
  refine ⟨h.1, ?_⟩
  rcases h.2 with h0 | ⟨g, cap, cur, hv, hB', hg, rest⟩
  · exact .inl h0
  · exact .inr ⟨g, cap, cur, hv, by omega, hg, rest⟩
end
theorem app_len (a : L) (s : Int) : (a ++ [s]).length = a.length + 1 := by simp
theorem add_flat (g k : Nat) : (⟨g, 0, none⟩ : Addr).add k = ⟨g, k, none⟩ := by unfold Addr.add; split <;> simp_all
theorem news_one (w : World) (a : Value) : ∀ j u, [a][j]? = some u → (w.alloc (.cells #[a] 2)).cell? ((⟨w.heap.size, 0, none⟩ : Addr).add j) = some u := by
  intro j u hu
  rw [add_flat, (Blk.new w 2 #[a]).cell j]
  simpa using hu
theorem one_one (a : Int) : ∀ u ∈ [Value.int .i64 a], u.oneCell' = true := by
  intro u hu
  simp at hu
  rcases hu with rfl
  rfl
theorem info_int : (Tryz.prog.info? 2).map (fun i => (i.zero, i.size, i.bytes)) = some (some (.int .i64 0), 1, 8) := by kernel_rfl
theorem Own.snoc {w0 w w' : World} {v v' : Value} {acc : L} {s : Int} {o : Obj} (hb : Below w0.heap.size w0 w) (h0 : Own w w0.heap.size v acc)
    (h : w'.ownsRow w0.heap.size 2 1 v' (acc.length + 1) (cells acc ++ [.int .i64 s])) (hg : (w.alloc o).grownBy w' v.ownBlock) :
    Own w' w0.heap.size v' (acc ++ [s]) ∧ Below w0.heap.size w0 w' :=
  ⟨by unfold Own; rw [app_len, cells_snoc]; exact h, Below.grown (hb.alloc hb.size o) hg (by have := hb.size; simp; omega) (fun g hg => (h0.lt g hg).1)⟩
/-- One number appended to a row of the call's own. -/
theorem append_int {ops : Array Oper} {rest : List Oper} {o : Oper} {a : Act} {Q : Exit → Act → World → Prop} {w0 w1 : World} {v : Value} {acc : L} {f : Int} (hb : Below w0.heap.size w0 w1) (hown : Own w1 w0.heap.size v acc)
    (hN : acc.length + 1 ≤ 8000000) (hgd : o.guard = none) (s x : Operand) (ho : o.op = .call { callee := .builtin .append, args := #[s, x], argTypes := #[44, 44] })
    (hs : a.eval s = v) (hx : a.eval x = .slice (some ⟨w1.heap.size, 0, none⟩) 1 1)
    (K : ∀ v2 w2, Own w2 w0.heap.size v2 (acc ++ [f]) → Below w0.heap.size w0 w2 → wpList Tryz.prog ops Q rest (a.put o.dst v2) w2) :
    wpList Tryz.prog ops Q (o :: rest) a (w1.alloc (.cells #[.int .i64 f] 2)) := by
  obtain ⟨i0, hi, hz0, hz1, hz2⟩ := info_parts info_int
  refine wpList_append_own _ hgd s x 44 ho w0.heap.size 2 i0 (.int .i64 0) 1 8 Tryz.underlying44 hi hz0 hz1 hz2 rfl (by decide) v _ _ hs (hown.alloc _) ⟨w1.heap.size, 0, none⟩ 1 1 [.int .i64 f] hx rfl (news_one _ _) (one_one _) ?_ ?_ ?_ ?_
  · unfold maxLen; omega
  · omega
  · have := hb.size; simp; omega
  · intro v2 w2 hown2 hgrow2 _
    obtain ⟨own2, hb2⟩ := Own.snoc (s := f) hb hown hown2 hgrow2
    exact K v2 w2 own2 hb2

/-- The same where the walk has reckoned the new block's number. -/
theorem append_intG {ops : Array Oper} {rest : List Oper} {o : Oper} {a : Act} {Q : Exit → Act → World → Prop} {w0 w1 : World} {v : Value} {acc : L} {f : Int} {g : Nat} (hg : w1.heap.size = g) (hb : Below w0.heap.size w0 w1) (hown : Own w1 w0.heap.size v acc)
    (hN : acc.length + 1 ≤ 8000000) (hgd : o.guard = none) (s x : Operand) (ho : o.op = .call { callee := .builtin .append, args := #[s, x], argTypes := #[44, 44] })
    (hs : a.eval s = v) (hx : a.eval x = .slice (some ⟨g, 0, none⟩) 1 1)
    (K : ∀ v2 w2, Own w2 w0.heap.size v2 (acc ++ [f]) → Below w0.heap.size w0 w2 → wpList Tryz.prog ops Q rest (a.put o.dst v2) w2) :
    wpList Tryz.prog ops Q (o :: rest) a (w1.alloc (.cells #[.int .i64 f] 2)) := by
  subst hg
  obtain ⟨i0, hi, hz0, hz1, hz2⟩ := info_parts info_int
  refine wpList_append_own _ hgd s x 44 ho w0.heap.size 2 i0 (.int .i64 0) 1 8 Tryz.underlying44 hi hz0 hz1 hz2 rfl (by decide) v _ _ hs (hown.alloc _) ⟨w1.heap.size, 0, none⟩ 1 1 [.int .i64 f] hx rfl (news_one _ _) (one_one _) ?_ ?_ ?_ ?_
  · unfold maxLen; omega
  · omega
  · have := hb.size; simp; omega
  · intro v2 w2 hown2 hgrow2 _
    obtain ⟨own2, hb2⟩ := Own.snoc (s := f) hb hown hown2 hgrow2
    exact K v2 w2 own2 hb2

end Go.Proofs.YtfhcakpmlppbkaaGreatDoor.Ints
