/- Packs: what both programs answer about styles, with what is true of it, hidden. -/
import Derived.Test.YtigjpalbaapkkaaLawN
import Derived.Test.YtigjpalbaapkkaaStyD
namespace Go.Proofs.Ytigjpalbaapkkaa.Sty
open Go.RowKit
open Go.Proofs.Ytigjpalbaapkkaa.Fea (bs bs_toList IdxIs)

theorem yo_pack (s n : Int) : ∃ N E : Int, Hid (∀ wx : World, Calls Try.prog 17 #[.int .i64 s, .int .i64 n] wx (Two N E wx)) ∧ Hid (∀ wx : World, Calls Try.prog 18 #[.int .i64 s, .int .i64 n] wx (Two N E wx)) ∧
    Hid ((E == 0) = false ∨ (E = 0 ∧ ∃ F T : Int, Hid (∀ wx : World, Calls Try.prog 32 #[.int .i64 s, .int .i64 N] wx (SpO F T 0 wx)) ∧ F ≤ n ∧ n ≤ T)) := by
  refine ⟨_, _, Lib.hid fun wx => impl_YearOn s n wx, Lib.hid fun wx => spec_YearOn s n wx, Lib.hid ?_⟩
  by_cases hok : yoOk s n
  · rcases on_cases s n with ⟨y, h1, h2, h3⟩ | ⟨-, -, h3⟩
    · have eE : yoE s n = 0 := (if_pos hok).trans (if_pos h3)
      have eN : yoN s n = y := (if_pos hok).trans h2
      rw [eE, eN]
      refine .inr ⟨rfl, bg s y, bg s (y + 1) - 1, Lib.hid fun wx => ?_, h1.2.1, by have := h1.2.2; omega⟩
      have q := impl_YearSpan s y wx
      have hsp : spOk s y := ⟨hok.1, h1.1⟩
      rwa [show spF s y = bg s y from if_pos hsp, show spT s y = bg s (y + 1) - 1 from if_pos hsp, show spE s y = 0 from if_pos hsp] at q
    · have eE : yoE s n = 4 := (if_pos hok).trans (if_neg (by rw [h3]; simp))
      rw [eE]
      exact .inl rfl
  · have eE : yoE s n = 2 := if_neg hok
    rw [eE]
    exact .inl rfl

theorem sf_pack (n y : Int) : ∃ (V : List Int) (E : Int), Hid (V.length ≤ 2000000) ∧ Hid (∀ wx : World, Calls Try.prog 20 #[.int .i64 n, .int .i64 y] wx (Fea.IntsOut V E wx)) ∧ Hid (∀ wx : World, Calls Try.prog 21 #[.int .i64 n, .int .i64 y] wx (Fea.IntsOut V E wx)) ∧
    Hid (E = 2 ∨ (E = 0 ∧ ∀ x ∈ V, ∀ wx : World, Calls Try.prog 17 #[.int .i64 x, .int .i64 n] wx (Two y 0 wx))) := by
  refine ⟨_, _, Lib.hid (sfL_len n y), Lib.hid fun wx => impl_StylesFor n y wx, Lib.hid fun wx => spec_StylesFor n y wx, Lib.hid ?_⟩
  by_cases h : sfOk n y
  · rw [show sfE n y = 0 from if_pos h, show sfL n y = sf n y 7 from if_pos h]
    refine .inr ⟨rfl, fun x hx wx => ?_⟩
    obtain ⟨x0, x1, ho⟩ := (sf_mem n y 7 x).1 hx
    have hok : yoOk x n := ⟨⟨x0, by omega⟩, h.1⟩
    have q := impl_YearOn x n wx
    have := on_of ho
    rwa [show yoN x n = y from (if_pos hok).trans this.1, show yoE x n = 0 from (if_pos hok).trans (if_pos this.2)] at q
  · rw [show sfE n y = 2 from if_neg h]
    exact .inl rfl

theorem yd_pack (a b n : Int) : ∃ D E : Int, Hid (∀ wx : World, Calls Try.prog 23 #[.int .i64 a, .int .i64 b, .int .i64 n] wx (Two D E wx)) ∧ Hid (∀ wx : World, Calls Try.prog 24 #[.int .i64 a, .int .i64 b, .int .i64 n] wx (Two D E wx)) ∧
    Hid ((E == 0) = false ∨ (E = 0 ∧ -2 ≤ D ∧ D ≤ 2 ∧ Hid (∀ wx : World, Calls Try.prog 23 #[.int .i64 b, .int .i64 a, .int .i64 n] wx (Two (-D) 0 wx)))) := by
  refine ⟨_, _, Lib.hid fun wx => impl_YearDifference a b n wx, Lib.hid fun wx => spec_YearDifference a b n wx, Lib.hid ?_⟩
  by_cases hok : ydOk a b n
  · rcases on_cases a n with ⟨y, h1, h2, h3⟩ | ⟨-, -, h3⟩
    · rcases on_cases b n with ⟨z, k1, k2, k3⟩ | ⟨-, -, k3⟩
      · have eE : ydE a b n = 0 := (if_pos hok).trans (if_pos ⟨h3, k3⟩)
        have eN : ydN a b n = z - y := (if_pos ⟨hok, h3, k3⟩).trans (by rw [h2, k2])
        have hok2 : ydOk b a n := ⟨hok.2.1, hok.1, hok.2.2⟩
        have hd := on_diff h1 k1
        rw [eE, eN]
        refine .inr ⟨rfl, hd.1, hd.2, Lib.hid fun wx => ?_⟩
        have q := impl_YearDifference b a n wx
        rwa [show ydN b a n = -(z - y) from (if_pos ⟨hok2, k3, h3⟩).trans (by rw [h2, k2]; omega), show ydE b a n = 0 from (if_pos hok2).trans (if_pos ⟨k3, h3⟩)] at q
      · have eE : ydE a b n = 4 := (if_pos hok).trans (if_neg (by rw [k3]; simp))
        rw [eE]
        exact .inl rfl
    · have eE : ydE a b n = 4 := (if_pos hok).trans (if_neg (by rw [h3]; simp))
      rw [eE]
      exact .inl rfl
  · have eE : ydE a b n = 2 := if_neg hok
    rw [eE]
    exact .inl rfl

theorem named_exS (l : List UInt8) : ∃ k b, SNamed l k b := by
  have idx : ∃ k, IdxIs snms l k := by
    have h : ∀ n : Nat, (∀ i : Nat, i < n → snms[i]? ≠ some l) ∨ ∃ j : Nat, snms[j]? = some l ∧ ∀ i : Nat, i < j → snms[i]? ≠ some l := by
      intro n
      induction n with
      | zero => exact .inl fun i h => by omega
      | succ n ih =>
        rcases ih with h | h
        · by_cases e : snms[n]? = some l
          · exact .inr ⟨n, e, h⟩
          · refine .inl fun i hi => ?_
            by_cases h2 : i = n
            · subst h2; exact e
            · exact h i (by omega)
        · exact .inr h
    rcases h snms.length with h | ⟨j, h1, h2⟩
    · refine ⟨-1, .inr ⟨rfl, fun i e => ?_⟩⟩
      by_cases hi : i < snms.length
      · exact h i hi e
      · rw [List.getElem?_eq_none (by omega)] at e; cases e
    · exact ⟨j, .inl ⟨j, rfl, h1, h2⟩⟩
  obtain ⟨i, h⟩ := idx
  by_cases h0 : 0 ≤ i
  · exact ⟨i, true, i, h, .inl ⟨h0, rfl, rfl⟩⟩
  · exact ⟨0, false, i, h, .inr ⟨by rcases h with ⟨j, e, -⟩ | ⟨e, -⟩ <;> omega, rfl, rfl⟩⟩
theorem SnO.fix {l : List UInt8} {k : Int} {b : Bool} {w w' : World} {e : Ending} (hk : SNamed l k b) (h : SnO l w e w') : NT k b w e w' := by
  obtain ⟨k', b', h1, h2, h3⟩ := h
  obtain ⟨rfl, rfl⟩ := hk.uniq h1
  exact ⟨h2, h3⟩
theorem snamed_pack (s : ByteArray) : ∃ (k : Int) (b : Bool), Hid (∀ wx : World, Calls Try.prog 27 #[.string s] wx (NT k b wx)) ∧ Hid (∀ wx : World, Calls Try.prog 29 #[.string s] wx (NT k b wx)) := by
  obtain ⟨k, b, h⟩ := named_exS s.toList
  exact ⟨k, b, Lib.hid fun wx => (impl_StyleNamed s wx).mono fun _ _ q => q.fix h, Lib.hid fun wx => (spec_StyleNamed s wx).mono fun _ _ q => q.fix h⟩
/-- What a call leaves that answers a text. -/
def SxS (s : ByteArray) (w : World) (e : Ending) (w' : World) : Prop := e = .returned (.string s) ∧ Below w.heap.size w w'
theorem sname_pack (f : Int) : ∃ (s : ByteArray) (k : Int) (b : Bool), Hid (∀ wx : World, Calls Try.prog 26 #[.int .i64 f] wx (SxS s wx)) ∧ Hid (∀ wx : World, Calls Try.prog 31 #[.int .i64 f] wx (SxS s wx)) ∧
    Hid (∀ wx : World, Calls Try.prog 27 #[.string s] wx (NT k b wx)) ∧ ((b = true ∧ k = f ∧ s.toList.isEmpty = false ∧ (s.toList == []) = false) ∨ (b = false ∧ k = 0 ∧ s.toList.isEmpty = true ∧ (s.toList == []) = true)) := by
  refine ⟨bs (snL f), if isS f then f else 0, decide (isS f), Lib.hid fun wx => impl_StyleName f wx, Lib.hid fun wx => spec_StyleName f wx, Lib.hid fun wx => ?_, ?_⟩
  · refine (impl_StyleNamed _ wx).mono fun _ _ q => q.fix ?_
    rw [bs_toList]
    exact named_sn f
  · rw [bs_toList]
    by_cases h : isS f
    · have e : snL f ≠ [] := fun e => (snL_empty f).1 e h
      exact .inl ⟨decide_eq_true h, if_pos h, by simpa using e, by simpa using e⟩
    · have e : snL f = [] := snL_no f h
      exact .inr ⟨decide_eq_false h, if_neg h, by rw [e]; rfl, by rw [e]; rfl⟩

end Go.Proofs.Ytigjpalbaapkkaa.Sty
