/- Spec's draw of two sets. -/
import Derived.Test.YtochicfflmcfkaaDrawS
import Derived.Maps.AppendAt
namespace Go.Proofs.Ytochicfflmcfkaa.Sets
open Go.RowKit

/-- One span appended, another row of the call's own and a source of drawn numbers beside it. -/
theorem append_two {ops : Array Oper} {rest : List Oper} {o : Oper} {a : Act} {Q : Exit → Act → World → Prop} {A : Option Addr} {len cap : Nat} {zs : List Int} {W w w1 : World} {g : Nat} {v u : Value} {acc bcc : L} {f e : Int} {N : Nat} (hg : w1.heap.size = N) (hs : Src A len cap zs W w1 g) (hgw : g < w.heap.size) (hgr : w.grownBy w1 (some g)) (hown : Own w1 w.heap.size v acc)
    (hu : Own w1 w.heap.size u bcc) (hd : ∀ k, u.ownBlock = some k → v.ownBlock ≠ some k)
    (hN : acc.length + 1 ≤ 8000000) (hgd : o.guard = none) (s x : Operand) (ho : o.op = .call { callee := .builtin .append, args := #[s, x], argTypes := #[24, 24] })
    (hs1 : a.eval s = v) (hx : a.eval x = .slice (some ⟨N, 0, none⟩) 1 1)
    (K : ∀ v2 w2, Own w2 w.heap.size v2 (acc ++ [(f, e)]) → Own w2 w.heap.size u bcc → (∀ k, u.ownBlock = some k → v2.ownBlock ≠ some k) → Src A len cap zs W w2 g → w.grownBy w2 (some g) → wpList Try.prog ops Q rest (a.put o.dst v2) w2) :
    wpList Try.prog ops Q (o :: rest) a (w1.alloc (.cells #[.int .i64 f, .int .i64 e] 40)) := by
  subst hg
  obtain ⟨i0, hi, hz0, hz1, hz2⟩ := info_parts info_span
  refine wpList_append_own_at _ hgd s x 24 ho w.heap.size 40 i0 (.agg #[.int .i64 0, .int .i64 0]) 2 16 Try.underlying24 hi hz0 hz1 hz2 rfl (by decide) v _ _ hs1 (hown.alloc _) ⟨w1.heap.size, 0, none⟩ 1 1 [.int .i64 f, .int .i64 e] hx rfl (news_two _ _ _) (one_two _ _) ?_ ?_ ?_ ?_
  · unfold maxLen; omega
  · omega
  · have := hgr.size; simp; omega
  · intro v2 w2 hown2 hgrow2 _ hat
    have hlt : ∀ k, v.ownBlock = some k → w.heap.size ≤ k := fun k hk => (World.ownsRow.lt hown k hk).1
    have hult : ∀ k, u.ownBlock = some k → k < w1.heap.size := fun k hk => (World.ownsRow.lt hu k hk).2
    refine K v2 w2 (by unfold Own; rw [app_len, cells_snoc]; exact hown2) (World.ownsRow.kept (hu.alloc _) hgrow2 ?_) ?_ (src_own (hs.alloc _) hgrow2 (fun k hk => by have := hlt k hk; omega)) (grown_own (only_alloc hgr _) hgrow2 hlt)
    · cases hv : u.ownBlock with
      | none => exact .inl rfl
      | some k => exact .inr (fun e => hd k hv e.symm)
    · intro k hk
      rcases hat with h | h
      · rw [h]; exact hd k hk
      · rw [h]
        intro e
        injection e with e
        have := hult k hk
        simp at e
        omega

/-- What a call leaves that draws two sets. -/
def DrewPair (A : Option Addr) (len cap : Nat) (zs : List Int) (W w : World) (g : Nat) (e : Ending) (w' : World) : Prop :=
  ∃ (v u : Value) (xs ys : L), e = .returned (.tuple #[v, u]) ∧ Sm xs ∧ Sm ys ∧ Own w' w.heap.size v xs ∧ Own w' w.heap.size u ys ∧ Src A len cap zs W w' g ∧ w.grownBy w' (some g)

def PairLoop (A : Option Addr) (len cap : Nat) (zs : List Int) (W w : World) (g : Nat) (m : Nat) (v u i : Value) (wr : World) : Prop :=
  ∃ (k : Nat) (acc bcc : L), i = .int .i64 k ∧ m = 200 - k ∧ k ≤ 200 ∧ acc.length = k ∧ bcc.length = k + 1 ∧ (∀ s ∈ acc, ok s) ∧ (∀ s ∈ bcc, ok s) ∧ Own wr w.heap.size v acc ∧ Own wr w.heap.size u bcc ∧ (∀ k, u.ownBlock = some k → v.ownBlock ≠ some k) ∧ Src A len cap zs W wr g ∧ w.grownBy wr (some g)

set_option maxHeartbeats 4000000 in
set_option maxRecDepth 100000 in
theorem spec_drawPair (A : Option Addr) (len cap : Nat) (zs : List Int) (W w : World) (g : Nat) (hs : Src A len cap zs W w g) :
    Calls Try.prog 46 #[.pointer (some ⟨g, 0, none⟩)] w (DrewPair A len cap zs W w g) := by
  have hgw := hs.lt
  go_enter Try.func46, Try.ntmps46
  go_wp2_with fail
  refine (spec_drawSet A len cap zs W _ g hs).mono ?_
  rintro e w1 ⟨v1, xs, rfl, sm1, own1, s1, k1⟩
  go_wp2_with fail
  refine (spec_drawSet A len cap zs W _ g s1).mono ?_
  rintro e w2 ⟨v2, ys, rfl, sm2, own2', s2, k2⟩
  have own2 := own2'.mono k1.size
  replace own1 := own1.grown k2 hgw
  have gr2 := World.grownBy.trans k1 k2
  clear own2' k1 k2 s1
  go_wp2_with fail
  refine (spec_next A len cap zs W _ g 40 s2).mono ?_
  rintro e w4 ⟨y, rfl, y0, y1, s4, k4⟩
  replace own1 := own1.grown k4 hgw
  replace own2 := own2.grown k4 hgw
  have gr4 := World.grownBy.trans gr2 k4
  clear gr2 s2 k4 y1
  by_cases h0 : y = 0
  · subst h0
    clear own1 own2 sm1 sm2
    have gA := only_alloc gr4 (.cells #[] 40)
    have sA := s4.alloc (.cells #[] 40)
    have oA : Own (w4.alloc (.cells #[] 40)) w.heap.size (.slice (some ⟨w4.heap.size, 0, none⟩) 0 0) [] := (Own.made0 w4).mono gr4.size
    have oB : Own ((w4.alloc (.cells #[] 40)).alloc (.cells #[.int .i64 1000, .int .i64 2000] 40)) w.heap.size (.slice (some ⟨w4.heap.size + 1, 0, none⟩) 1 1) [(1000, 2000)] := by
      have h := Own.one (w := w4.alloc (.cells #[] 40)) (B := w.heap.size) gA.size 1000 2000
      have hz : (w4.alloc (.cells #[] 40)).heap.size = w4.heap.size + 1 := by simp
      rw [hz] at h
      exact h
    have hq : ∀ s ∈ [((1000 : Int), (2000 : Int))], ok s := by
      intro s hs
      rcases List.mem_cons.1 hs with rfl | h
      · exact ⟨by simp only; omega, by simp only; omega, by simp only; omega⟩
      · cases h
    have hdd : ∀ k, (Value.slice (some ⟨w4.heap.size + 1, 0, none⟩) 1 1).ownBlock = some k → (Value.slice (some ⟨w4.heap.size, 0, none⟩) 0 0).ownBlock ≠ some k := by
      intro k hk e
      have h1 : w4.heap.size + 1 = k := by simpa [Value.ownBlock] using hk
      have h2 : w4.heap.size = k := by simpa [Value.ownBlock] using e
      omega
    have H0 : PairLoop A len cap zs W w g 200 (.slice (some ⟨w4.heap.size, 0, none⟩) 0 0) (.slice (some ⟨w4.heap.size + 1, 0, none⟩) 1 1) (.int .i64 0) ((w4.alloc (.cells #[] 40)).alloc (.cells #[.int .i64 1000, .int .i64 2000] 40)) :=
      ⟨0, [], [(1000, 2000)], rfl, by omega, by omega, rfl, rfl, by simp, hq, oA.alloc _, oB, hdd, sA.alloc _, only_alloc gA _⟩
    have HH := Lib.hid H0
    clear H0 oA oB sA gA s4 gr4
    go_wp2_with fail
    go_loopg [4, 5, 6] 200 (fun m v u i wr => PairLoop A len cap zs W w g m v u i wr)
    case atStart => exact HH.out
    case round =>
      clear HH
      obtain ⟨k, acc, bcc, rfl, hm, hk, hal, hbl, hok, hok2, own, owu, hd, sr, gr⟩ := hrel
      subst hm
      have HO := Lib.hid hok
      have HO2 := Lib.hid hok2
      clear hok hok2
      by_cases hgo : (k : Int) < 200
      · have HS := Lib.hid sr
        have HG := Lib.hid gr
        have HW := Lib.hid own
        have HU := Lib.hid owu
        have HD := Lib.hid hd
        have hal2 := Lib.hid hal
        have hbl2 := Lib.hid hbl
        have hl8 : acc.length + 1 ≤ 8000000 := by omega
        have hl9 : bcc.length + 1 ≤ 8000000 := by omega
        clear sr gr own owu hd hal hbl
        go_wp2_with (at_builtin; refine append_two rfl HS.out hgw HG.out HW.out HU.out HD.out hl8 rfl (.tmp 21) (.tmp 29) rfl rfl rfl ?_)
        intro v6 w6 own6 owu6 hd6 s6 gr6
        clear HS HG HW HU HD
        have HS := Lib.hid s6
        have HG := Lib.hid gr6
        have HW := Lib.hid own6
        have HU := Lib.hid owu6
        have HD := Lib.hid (fun k (hk : v6.ownBlock = some k) e => hd6 k e hk)
        clear s6 gr6 own6 owu6 hd6
        go_wp2_with (at_builtin; refine append_two rfl HS.out hgw HG.out HU.out HW.out HD.out hl9 rfl (.tmp 31) (.tmp 39) rfl rfl rfl ?_)
        intro v7 w7 own7 own6 hd7 s7 gr7
        have P1 := Lib.hid (show ∀ s ∈ acc ++ [(1000 + 4 * (k : Int), 1000 + 4 * (k : Int))], ok s from fun s hs => by
          rcases List.mem_append.1 hs with h | h
          · exact HO.out s h
          · rcases List.mem_cons.1 h with rfl | h
            · exact ⟨by simp only; omega, by simp only; omega, by simp only; omega⟩
            · cases h)
        have P2 := Lib.hid (show ∀ s ∈ bcc ++ [(2002 + 4 * (k : Int), 2002 + 4 * (k : Int))], ok s from fun s hs => by
          rcases List.mem_append.1 hs with h | h
          · exact HO2.out s h
          · rcases List.mem_cons.1 h with rfl | h
            · exact ⟨by simp only; omega, by simp only; omega, by simp only; omega⟩
            · cases h)
        clear HS HG HW HU HD HO HO2
        go_wp2_with fail
        go_roundg (200 - (k + 1))
        case measure => omega
        case rel => exact ⟨k + 1, _, _, by go_num, rfl, by omega, by have := hal2.out; simp; omega, by have := hbl2.out; simp; omega, P1.out, P2.out, own6, own7, fun k hk e => hd7 k e hk, s7, gr7⟩
      · have hl2 : acc.length ≤ 2000 := by omega
        have hl3 : bcc.length ≤ 2000 := by omega
        obtain ⟨A5, c5, rfl, -⟩ := own.form
        obtain ⟨A6, c6, rfl, -⟩ := owu.form
        clear hal hbl hd
        go_wp2_with fail
        go_ret2
        exact ⟨_, _, acc, bcc, rfl, Sm.of_ok hl2 HO.out, Sm.of_ok hl3 HO2.out, own, owu, sr, gr⟩
  · have e0 : (y == 0) = false := by simpa using h0
    obtain ⟨A1, c1, rfl, -⟩ := own1.form
    obtain ⟨A2, c2, rfl, -⟩ := own2.form
    go_wp2_with fail
    go_ret2
    exact ⟨_, _, xs, ys, rfl, sm1, sm2, own1, own2, s4, gr4⟩

/-- What a call leaves that draws two sets for a law. -/
def DrawnPair (w : World) (e : Ending) (w' : World) : Prop :=
  ∃ (v u : Value) (xs ys : L), e = .returned (.tuple #[v, u]) ∧ Sm xs ∧ Sm ys ∧ Own w' w.heap.size v xs ∧ Own w' w.heap.size u ys ∧ Below w.heap.size w w'

set_option maxHeartbeats 1000000 in
set_option maxRecDepth 100000 in
theorem spec_DrawUniteSets (A : Option Addr) (len cap : Nat) (zs : List Int) (W w : World) (hrow : IsRow .u8 W A len cap zs) (hW : Below W.heap.size W w) :
    Calls Try.prog 15 #[.slice A len cap] w (DrawnPair w) := by
  go_enter Try.func15, Try.ntmps15
  go_wp2_with fail
  refine (spec_from A len cap zs W _ hrow hW).mono ?_
  rintro e w1 ⟨g, rfl, hg, s1, b1⟩
  go_wp2_with fail
  refine (spec_drawPair A len cap zs W _ g s1).mono ?_
  rintro e w2 ⟨v, u, xs, ys, rfl, hs, hs2, own, own2, s2, k2⟩
  have hb := b1.trans (only_below k2 hg b1.size)
  have ownA := own.mono b1.size
  have ownB := own2.mono b1.size
  obtain ⟨A2, c2, rfl, -⟩ := own.form
  obtain ⟨A3, c3, rfl, -⟩ := own2.form
  clear own own2 s1 s2 k2 b1
  go_wp2_with fail
  go_ret2
  exact ⟨_, _, xs, ys, rfl, hs, hs2, ownA, ownB, hb⟩

end Go.Proofs.Ytochicfflmcfkaa.Sets
