/- Contracts of spec's source of drawn numbers: it hands out numbers in the range that it is asked for, and writes into its own state alone. -/
import Derived.Test.YtfhcakpmlppbkaaGreatDoorDays
import Derived.Test.YtfhcakpmlppbkaaGreatDoorBlk
import Derived.Deep.LoopGhost
import Derived.Deep.OwnRows
import Derived.OwnWalk
import Derived.OpenShut
import Derived.Laws.AppendOwn
import Derived.Maps.AppendAt
namespace Go.Proofs.YtfhcakpmlppbkaaGreatDoor
open Go.RowKit

/-- What a walk is told of a slice of bytes that came in: it is nil; or it leads to a row of cap cells. -/
def IsRow (k : IntKind) (w : World) (a : Option Addr) (len cap : Nat) (zs : List Int) : Prop :=
  (a = none ∧ len = 0 ∧ cap = 0 ∧ zs = []) ∨
  ∃ x, a = some x ∧ len ≤ cap ∧ cap ≤ maxLen ∧ zs.length = cap ∧ (∀ i, i < zs.length → w.cell? (x.add i) = some (.int k (zs.getD i 0))) ∧ ∀ n ∈ zs, (Lit.int k n).wf = true

/-- Element k of a row that came in. -/
theorem IsRow.at_ {w : World} {a : Option Addr} {len cap : Nat} {zs : List Int} (h : IsRow .u8 w a len cap zs) {i : Nat} (hi : i < len) :
    ∃ b off v, a = some ⟨b, off, none⟩ ∧ b < w.heap.size ∧ w.cell? ⟨b, off + i, none⟩ = some (.int .u8 v) ∧ 0 ≤ v ∧ v ≤ 255 := by
  rcases h with ⟨rfl, rfl, rfl, rfl⟩ | ⟨x, rfl, hl, hm, hz, hcell, hwz⟩
  · omega
  · obtain ⟨b, off, spot⟩ := x
    have hc := hcell i (by omega)
    have hc0 := hcell 0 (by omega)
    have hspot : spot = none := by simpa [Addr.add] using World.cell?_spot hc0
    subst hspot
    have hc' : w.cell? ⟨b, off + i, none⟩ = some (.int .u8 (zs.getD i 0)) := by
      by_cases h0 : i = 0
      · subst h0; simpa [Addr.add] using hc
      · simpa [Addr.add, h0] using hc
    have hw := hwz (zs.getD i 0) (by
      have hlt : i < zs.length := by omega
      rw [List.getD_eq_getElem?_getD, List.getElem?_eq_getElem hlt]; exact List.getElem_mem hlt)
    refine ⟨b, off, _, rfl, ?_, hc', ?_⟩
    · rcases Nat.lt_or_ge b w.heap.size with h | h
      · exact h
      · exfalso
        simp [World.cell?, Array.getElem?_eq_none h] at hc'
    · have := bounds_u8 hw
      exact this

/-! ### Only one block of the old ones changes -/
theorem only_drewN {a w : World} {row : Option Nat} (h : a.grownBy w row) (n : Nat) : a.grownBy (w.drewN n) row := ⟨h.os, h.tape, h.output, h.size, h.block⟩
theorem only_alloc {a w : World} {row : Option Nat} (h : a.grownBy w row) (o : Obj) : a.grownBy (w.alloc o) row :=
  ⟨h.os, h.tape, h.output, Nat.le_trans h.size (by simp), fun i hi hne => (Below.heap_alloc w o i (Nat.lt_of_lt_of_le hi h.size)).trans (h.block i hi hne)⟩
theorem only_setCell {a w : World} {g : Nat} (h : a.grownBy w (some g)) {p : Addr} (hp : p.block = g ∨ a.heap.size ≤ p.block) (u : Value) : a.grownBy (w.setCell p u) (some g) :=
  ⟨h.os, h.tape, h.output, by simpa [World.setCell] using h.size, fun i hi hne => (Below.heap_setCell w p u i (by
    rintro rfl
    rcases hp with hp | hp
    · exact hne (by rw [hp])
    · omega)).trans (h.block i hi hne)⟩
theorem only_of_below {a w : World} (h : Below a.heap.size a w) (row : Option Nat) : a.grownBy w row := ⟨h.os, h.tape, h.output, h.size, fun i hi _ => h.block i hi⟩
theorem only_below {a w : World} {g B : Nat} (h : a.grownBy w (some g)) (hg : B ≤ g) (hB : B ≤ a.heap.size) : Below B a w :=
  (Below.refl B a).grown h hB (fun _ e => by injection e with e; omega)
theorem Blk.grown {w w' : World} {g : Nat} {t : TypeId} {cs : Array Value} {row : Option Nat} (h : Blk w g t cs) (hb : w.grownBy w' row) (hg : some g ≠ row) : Blk w' g t cs := (hb.block g h.lt hg).trans h

/-- The source of drawn numbers lies in block g; it reads the bytes that were there in W; nothing of W has changed. -/
def Src (A : Option Addr) (len cap : Nat) (zs : List Int) (W w : World) (g : Nat) : Prop :=
  IsRow .u8 W A len cap zs ∧ Below W.heap.size W w ∧ W.heap.size ≤ g ∧
    ∃ (p : Nat) (s : Int), p ≤ len ∧ 0 ≤ s ∧ s < 2147483647 ∧ Blk w g 92 #[.slice A len cap, .int .i64 p, .int .i64 s]
theorem Src.lt {A : Option Addr} {len cap : Nat} {zs : List Int} {W w : World} {g : Nat} (h : Src A len cap zs W w g) : g < w.heap.size := by
  obtain ⟨_, _, _, p, s, _, _, _, hb⟩ := h
  exact hb.lt
theorem Src.below {A : Option Addr} {len cap : Nat} {zs : List Int} {W w w' : World} {g : Nat} (h : Src A len cap zs W w g) (hb : Below w.heap.size w w') : Src A len cap zs W w' g := by
  have hl := h.lt
  obtain ⟨h1, h2, h3, p, s, h4, h5, h6, h7⟩ := h
  exact ⟨h1, h2.trans (hb.mono h2.size), h3, p, s, h4, h5, h6, h7.below hb hl⟩
theorem Src.alloc {A : Option Addr} {len cap : Nat} {zs : List Int} {W w : World} {g : Nat} (h : Src A len cap zs W w g) (o : Obj) : Src A len cap zs W (w.alloc o) g :=
  h.below ((Below.refl _ _).alloc (Nat.le_refl _) _)
theorem Src.grown {A : Option Addr} {len cap : Nat} {zs : List Int} {W w w' : World} {g g' : Nat} (h : Src A len cap zs W w g) (hb : w.grownBy w' (some g')) (hg : g ≠ g') (hW : W.heap.size ≤ g') : Src A len cap zs W w' g := by
  obtain ⟨h1, h2, h3, p, s, h4, h5, h6, h7⟩ := h
  exact ⟨h1, h2.trans (only_below hb hW h2.size), h3, p, s, h4, h5, h6, h7.grown hb (fun e => hg (by injection e))⟩
theorem Src.len_le {A : Option Addr} {len cap : Nat} {zs : List Int} {W w : World} {g : Nat} (h : Src A len cap zs W w g) : len ≤ maxLen := by
  rcases h.1 with ⟨_, rfl, _⟩ | ⟨_, _, h1, h2, _⟩
  · exact Nat.zero_le _
  · omega

/-- What a call leaves that draws a number below n. -/
def Drew (A : Option Addr) (len cap : Nat) (zs : List Int) (W w : World) (g : Nat) (n : Int) (e : Ending) (w' : World) : Prop :=
  ∃ x : Int, e = .returned (.int .i64 x) ∧ 0 ≤ x ∧ (x < n ∨ x = 0) ∧ Src A len cap zs W w' g ∧ w.grownBy w' (some g)

set_option maxHeartbeats 1000000 in
theorem spec_next (A : Option Addr) (len cap : Nat) (zs : List Int) (W w : World) (g : Nat) (n : Int) (hs : Src A len cap zs W w g) :
    Calls Tryz.prog 40 #[.pointer (some ⟨g, 0, none⟩), .int .i64 n] w (Drew A len cap zs W w g n) := by
  by_cases hn : n ≤ 1
  · go_enter Tryz.func40, Tryz.ntmps40
    go_wp2
    go_ret
    exact ⟨0, rfl, Int.le_refl _, .inr rfl, hs, World.grownBy.refl _ _⟩
  · have hm := hs.len_le
    unfold maxLen at hm
    obtain ⟨hrow, hW, hg, p, s, hp, s0, s1, hb⟩ := hs
    obtain ⟨c0, c1, c2⟩ := hb.three
    have z1 := hb.frozen 1
    have z2 := hb.frozen 2
    by_cases hlt : p < len
    · obtain ⟨b, off, v, rfl, hbl, hcell, v0, v1⟩ := hrow.at_ hlt
      have hbg : b ≠ g := by omega
      have hv : w.cell? ⟨b, off + p, none⟩ = some (.int .u8 v) := by rw [← hcell]; exact hW.cell (p := ⟨b, off + p, none⟩) hbl
      go_enter Tryz.func40, Tryz.ntmps40
      go_wp2_with fail
      go_quiet (fail)
      go_wp2_with fail
      go_quiet (fail)
      go_wp2_with fail
      · go_quiet (fail)
        go_wp2_with fail
        go_ret
        refine ⟨_, rfl, Int.emod_nonneg _ (by omega), .inl (Int.emod_lt_of_pos _ (by omega)), ⟨hrow, ?_, hg, p + 1, (s * 48271 + 67) % 2147483647, by omega, by omega, by omega, ?_⟩, ?_⟩
        · repeat (first | exact hW | refine below_drewN ?_ _ | refine Below.setCell ?_ hg _)
        · simpa using (((hb.set_ 2 _).drewN _).set_ 1 _).drewN _
        · repeat (first | exact World.grownBy.refl _ _ | refine only_drewN ?_ _ | refine only_setCell ?_ (.inl rfl) _)
      all_goals
        go_ret
        refine ⟨_, rfl, Int.emod_nonneg _ (by omega), .inl (Int.emod_lt_of_pos _ (by omega)), ⟨hrow, ?_, hg, p + 1, (s * 48271 + 67) % 2147483647, by omega, by omega, by omega, ?_⟩, ?_⟩
        · repeat (first | exact hW | refine below_drewN ?_ _ | refine Below.setCell ?_ hg _)
        · simpa using ((hb.set_ 2 _).drewN _).set_ 1 _
        · repeat (first | exact World.grownBy.refl _ _ | refine only_drewN ?_ _ | refine only_setCell ?_ (.inl rfl) _)
    · have hge : len = p := by omega
      subst hge
      go_enter Tryz.func40, Tryz.ntmps40
      go_wp2_with fail
      go_quiet (fail)
      go_wp2_with fail
      go_ret
      refine ⟨_, rfl, Int.emod_nonneg _ (by omega), .inl (Int.emod_lt_of_pos _ (by omega)), ⟨hrow, ?_, hg, len, (s * 48271 + 67) % 2147483647, by omega, by omega, by omega, ?_⟩, ?_⟩
      · repeat (first | exact hW | refine below_drewN ?_ _ | refine Below.setCell ?_ hg _)
      · simpa using (hb.set_ 2 _).drewN _
      · repeat (first | exact World.grownBy.refl _ _ | refine only_drewN ?_ _ | refine only_setCell ?_ (.inl rfl) _)

end Go.Proofs.YtfhcakpmlppbkaaGreatDoor
