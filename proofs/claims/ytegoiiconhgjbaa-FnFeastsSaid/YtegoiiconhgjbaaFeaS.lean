/- Packs: what both programs answer about feasts, with what is true of it, hidden. -/
import Derived.Test.YtegoiiconhgjbaaFeaIh
import Derived.Test.YtegoiiconhgjbaaFeaIi
import Derived.Test.YtegoiiconhgjbaaFeaR
namespace Go.Proofs.Ytegoiiconhgjbaa.Fea
open Go.RowKit
open Go.Proofs.Ytegoiiconhgjbaa.Eas (isY)

theorem idx_ex (xs : List (List UInt8)) (l : List UInt8) : ∃ k, IdxIs xs l k := by
  have h : ∀ n : Nat, (∀ i : Nat, i < n → xs[i]? ≠ some l) ∨ ∃ j : Nat, xs[j]? = some l ∧ ∀ i : Nat, i < j → xs[i]? ≠ some l := by
    intro n
    induction n with
    | zero => exact .inl fun i h => by omega
    | succ n ih =>
      rcases ih with h | h
      · by_cases e : xs[n]? = some l
        · exact .inr ⟨n, e, h⟩
        · refine .inl fun i hi => ?_
          by_cases h2 : i = n
          · subst h2; exact e
          · exact h i (by omega)
      · exact .inr h
  rcases h xs.length with h | ⟨j, h1, h2⟩
  · refine ⟨-1, .inr ⟨rfl, fun i e => ?_⟩⟩
    by_cases hi : i < xs.length
    · exact h i hi e
    · rw [List.getElem?_eq_none (by omega)] at e; cases e
  · exact ⟨j, .inl ⟨j, rfl, h1, h2⟩⟩
theorem named_ex (l : List UInt8) : ∃ k b, NamedAns l k b := by
  obtain ⟨i, h⟩ := idx_ex nms l
  by_cases h0 : 0 ≤ i
  · exact ⟨i, true, i, h, .inl ⟨h0, rfl, rfl⟩⟩
  · exact ⟨0, false, i, h, .inr ⟨by rcases h with ⟨j, e, -⟩ | ⟨e, -⟩ <;> omega, rfl, rfl⟩⟩
/-- What a call leaves that answers a number and a truth. -/
def NB (k : Int) (b : Bool) (w : World) (e : Ending) (w' : World) : Prop := e = .returned (.tuple #[.int .i64 k, .bool b]) ∧ Below w.heap.size w w'
theorem NamedOut.fix {l : List UInt8} {k : Int} {b : Bool} {w w' : World} {e : Ending} (hk : NamedAns l k b) (h : NamedOut l w e w') : NB k b w e w' := by
  obtain ⟨k', b', h1, h2, h3⟩ := h
  obtain ⟨rfl, rfl⟩ := hk.uniq h1
  exact ⟨h2, h3⟩
theorem named_pack (s : ByteArray) : ∃ (k : Int) (b : Bool), Hid (∀ wx : World, Calls Try.prog 40 #[.string s] wx (NB k b wx)) ∧ Hid (∀ wx : World, Calls Try.prog 42 #[.string s] wx (NB k b wx)) := by
  obtain ⟨k, b, h⟩ := named_ex s.toList
  exact ⟨k, b, Lib.hid fun wx => (impl_FeastNamed s wx).mono fun _ _ q => q.fix h, Lib.hid fun wx => (spec_FeastNamed s wx).mono fun _ _ q => q.fix h⟩
/-- What a call leaves that answers a text. -/
def Sx (s : ByteArray) (w : World) (e : Ending) (w' : World) : Prop := e = .returned (.string s) ∧ Below w.heap.size w w'
theorem name_pack (f : Int) : ∃ (s : ByteArray) (k : Int) (b : Bool), Hid (∀ wx : World, Calls Try.prog 39 #[.int .i64 f] wx (Sx s wx)) ∧ Hid (∀ wx : World, Calls Try.prog 43 #[.int .i64 f] wx (Sx s wx)) ∧
    Hid (∀ wx : World, Calls Try.prog 40 #[.string s] wx (NB k b wx)) ∧ ((b = true ∧ k = f ∧ s.toList.isEmpty = false ∧ (s.toList == []) = false) ∨ (b = false ∧ k = 0 ∧ s.toList.isEmpty = true ∧ (s.toList == []) = true)) := by
  refine ⟨bs (nmL f), if isF f then f else 0, decide (isF f), Lib.hid fun wx => impl_FeastName f wx, Lib.hid fun wx => spec_FeastName f wx, Lib.hid fun wx => ?_, ?_⟩
  · refine (impl_FeastNamed _ wx).mono fun _ _ q => q.fix ?_
    rw [bs_toList]
    exact named_nm f
  · rw [bs_toList]
    by_cases h : isF f
    · have e : nmL f ≠ [] := fun e => (nmL_empty f).1 e h
      exact .inl ⟨decide_eq_true h, if_pos h, by simpa using e, by simpa using e⟩
    · have e : nmL f = [] := nmL_no f h
      exact .inr ⟨decide_eq_false h, if_neg h, by rw [e]; rfl, by rw [e]; rfl⟩

/-- What both answer to RelatedDay. -/
theorem rel_pack (f r k y : Int) : ∃ N E : Int, Hid (∀ wx : World, Calls Try.prog 33 #[.int .i64 f, .int .i64 r, .int .i64 k, .int .i64 y] wx (Two N E wx)) ∧ Hid (∀ wx : World, Calls Try.prog 34 #[.int .i64 f, .int .i64 r, .int .i64 k, .int .i64 y] wx (Two N E wx)) ∧
    Hid ((E == 0) = false ∨ (E = 0 ∧ ∃ D : Int, Hid (∀ wx : World, Calls Try.prog 44 #[.int .i64 f, .int .i64 y] wx (Two D 0 wx)) ∧ Hid (∀ wx : World, Calls Try.prog 31 #[.int .i64 N] wx (Two ((N + 5) % 7) 0 wx)) ∧ 0 ≤ D ∧ D ≤ 730499 ∧ 0 ≤ N ∧ N ≤ 730499 ∧
      ((r = 1 ∧ N = D - 1) ∨ (r = 2 ∧ N = D + 7) ∨ (r = 3 ∧ D < N ∧ N ≤ D + 7 ∧ (N + 5) % 7 = k) ∨ (r = 4 ∧ N < D ∧ D - 7 ≤ N ∧ (N + 5) % 7 = k) ∨ (r = 0 ∧ N = D)))) := by
  refine ⟨_, _, Lib.hid fun wx => impl_RelatedDay f r k y wx, Lib.hid fun wx => spec_RelatedDay f r k y wx, ?_⟩
  by_cases hok : relOk f r k y
  · by_cases hd : isDay (rd r k (fd f y))
    · have e0 : relE f r k y = 0 := (if_pos hok).trans (if_pos hd)
      have eN : relN f r k y = rd r k (fd f y) := if_pos ⟨hok, hd⟩
      obtain ⟨hf, hy, hr⟩ := hok
      obtain ⟨D0, D1⟩ := fd_bd f y hy
      rw [e0, eN]
      refine .inr ⟨rfl, fd f y, Lib.hid fun wx => ?_, Lib.hid fun wx => ?_, D0, D1, hd.1, hd.2, ?_⟩
      · have h := impl_FeastDay f y wx
        rwa [show fdN f y = fd f y from if_pos ⟨hf, hy⟩, show fdE f y = 0 from if_pos ⟨hf, hy⟩] at h
      · have h := impl_WeekdayOf (rd r k (fd f y)) wx
        rwa [show wkNum (rd r k (fd f y)) = _ from if_pos hd, show wkErr (rd r k (fd f y)) = 0 from if_pos hd] at h
      · obtain ⟨r0, r4, k0, k6, h3⟩ := hr
        have : r = 0 ∨ r = 1 ∨ r = 2 ∨ r = 3 ∨ r = 4 := by omega
        rcases this with rfl | rfl | rfl | rfl | rfl
        · exact .inr (.inr (.inr (.inr ⟨rfl, rfl⟩)))
        · exact .inl ⟨rfl, rfl⟩
        · exact .inr (.inl ⟨rfl, rfl⟩)
        · exact .inr (.inr (.inl ⟨rfl, rd_after k _ k0 k6⟩))
        · exact .inr (.inr (.inr (.inl ⟨rfl, rd_before k _ k0 k6⟩)))
    · have e0 : relE f r k y = 4 := (if_pos hok).trans (if_neg hd)
      rw [e0]
      exact .inl rfl
  · have e0 : relE f r k y = 2 := if_neg hok
    rw [e0]
    exact .inl rfl

theorem impl_OldDate_yr (n : Int) (h : isDay n) (w : World) : Calls Try.prog 29 #[.int .i64 n] w fun e w' => ∃ m d : Int, e = .returned (.tuple #[.agg #[.int .i64 (yr n), .int .i64 m, .int .i64 d], .int .i64 0]) ∧ Below w.heap.size w w' := by
  refine (impl_OldDate n w).mono fun e w' q => ?_
  obtain ⟨y, m, d, c, he, hd, hb⟩ := q
  rcases hd with ⟨-, -, rfl, hv, hn⟩ | ⟨h2, -⟩
  · rw [yr_num hv hn]
    exact ⟨m, d, he, hb⟩
  · exfalso
    rw [Cal.ys_1, Cal.ys_2001] at h2
    obtain ⟨h0, h1⟩ := h
    simp at h2
    omega

/-- What both answer to FeastsOn. -/
theorem on_pack (n : Int) : ∃ (V : List Int) (E : Int), Hid (V.length ≤ 2000000) ∧ Hid (∀ wx : World, Calls Try.prog 36 #[.int .i64 n] wx (IntsOut V E wx)) ∧ Hid (∀ wx : World, Calls Try.prog 37 #[.int .i64 n] wx (IntsOut V E wx)) ∧
    Hid ((E = 2) ∨ (E = 0 ∧ ∃ y : Int, Hid (∀ wx : World, Calls Try.prog 29 #[.int .i64 n] wx fun e w' => ∃ m d : Int, e = .returned (.tuple #[.agg #[.int .i64 y, .int .i64 m, .int .i64 d], .int .i64 0]) ∧ Below wx.heap.size wx w') ∧ Hid (∀ x ∈ V, ∀ wx : World, Calls Try.prog 44 #[.int .i64 x, .int .i64 y] wx (Two n 0 wx)))) := by
  refine ⟨_, _, Lib.hid ?_, Lib.hid fun wx => impl_FeastsOn n wx, Lib.hid fun wx => spec_FeastsOn n wx, ?_⟩
  · unfold onL
    split
    · have := fon_len n; omega
    · simp
  · by_cases h : isDay n
    · rw [show onE n = 0 from if_pos h, show onL n = fon n from if_pos h]
      refine .inr ⟨rfl, yr n, Lib.hid fun wx => impl_OldDate_yr n h wx, Lib.hid fun x hx wx => ?_⟩
      obtain ⟨hf, e⟩ := (fon_mem n x).1 hx
      have hy := yr_isY n h.1 h.2
      have q := impl_FeastDay x (yr n) wx
      rwa [show fdN x (yr n) = n from (if_pos ⟨hf, hy⟩).trans e, show fdE x (yr n) = 0 from if_pos ⟨hf, hy⟩] at q
    · rw [show onE n = 2 from if_neg h]
      exact .inl rfl

end Go.Proofs.Ytegoiiconhgjbaa.Fea
