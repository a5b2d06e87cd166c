/- Packs: what both programs answer about indictions, with what is true of it, hidden. -/
import Derived.Test.YtfienklaafialaaLawQ
import Derived.Test.YtfienklaafialaaIndD
import Derived.Test.YtfienklaafialaaSetH
namespace Go.Proofs.Ytfienklaafialaa.Ind
open Go.RowKit
open Go.Proofs.Ytfienklaafialaa.Eas (isY)
open Go.Proofs.Ytfienklaafialaa.Sets (impl_HasDay hasV hasE hasB setB)

theorem io_pack (k n : Int) : ∃ X E : Int, Hid (∀ wx : World, Calls Try.prog 15 #[.int .i64 k, .int .i64 n] wx (Two X E wx)) ∧ Hid (∀ wx : World, Calls Try.prog 16 #[.int .i64 k, .int .i64 n] wx (Two X E wx)) ∧
    Hid ((E == 0) = false ∨ (E = 0 ∧ 1 ≤ X ∧ X ≤ 15)) := by
  refine ⟨_, _, Lib.hid fun wx => impl_IndictionOn k n wx, Lib.hid fun wx => spec_IndictionOn k n wx, Lib.hid ?_⟩
  by_cases h : ioOk k n
  · rw [show ioE k n = 0 from if_pos h, show ioN k n = onI k n from if_pos h]
    exact .inr ⟨rfl, ind_bd _⟩
  · rw [show ioE k n = 2 from if_neg h]
    exact .inl rfl
theorem if_pack (y : Int) : ∃ X E : Int, Hid (∀ wx : World, Calls Try.prog 21 #[.int .i64 y] wx (Two X E wx)) ∧ Hid (∀ wx : World, Calls Try.prog 22 #[.int .i64 y] wx (Two X E wx)) ∧
    Hid ((E == 0) = false ∨ (E = 0 ∧ decide (y ≤ 1985) = false) ∨ (E = 0 ∧ y ≤ 1985 ∧ 1 ≤ X ∧ X ≤ 15 ∧
      Hid (∀ wx : World, Calls Try.prog 21 #[.int .i64 (y + 15)] wx (Two X 0 wx)) ∧ Hid (∀ wx : World, Calls Try.prog 21 #[.int .i64 (y + 1)] wx (Two (X % 15 + 1) 0 wx)))) := by
  refine ⟨_, _, Lib.hid fun wx => impl_IndictionOf y wx, Lib.hid fun wx => spec_IndictionOf y wx, Lib.hid ?_⟩
  by_cases h : isY y
  · rw [show yE y = 0 from if_pos h, show ifN y = ind y from if_pos h]
    obtain ⟨h1, h2⟩ := h
    by_cases hl : y ≤ 1985
    · have hb := ind_bd y
      refine .inr (.inr ⟨rfl, hl, hb.1, hb.2, Lib.hid fun wx => ?_, Lib.hid fun wx => ?_⟩)
      · have q := impl_IndictionOf (y + 15) wx
        have h3 : isY (y + 15) := ⟨by omega, by omega⟩
        rwa [show yE (y + 15) = 0 from if_pos h3, show ifN (y + 15) = ind (y + 15) from if_pos h3, ind_15] at q
      · have q := impl_IndictionOf (y + 1) wx
        have h3 : isY (y + 1) := ⟨by omega, by omega⟩
        rwa [show yE (y + 1) = 0 from if_pos h3, show ifN (y + 1) = ind (y + 1) from if_pos h3, ind_1] at q
    · exact .inr (.inl ⟨rfl, by simpa using hl⟩)
  · rw [show yE y = 2 from if_neg h]
    exact .inl rfl
theorem idS_len {k i f t : Int} (h : f ≤ t) (h2 : t ≤ f + 40000) : (idS k i f t).length ≤ 300 := by
  have a := Sets.make_length (ids k i f t (Fea.yr f) (idN f t))
  have b := ids_len k i f t (Fea.yr f) (idN f t)
  have p := Fea.yr_in t
  have q := Fea.yr_in f
  rw [Fea.ys_old, Fea.ys_old] at p q
  unfold idS idN at *
  omega
theorem id_pack (k i f t : Int) : ∃ (V : Sets.L) (E : Int), Hid (V.length ≤ 2000000) ∧
    Hid (∀ wx : World, Calls Try.prog 18 #[.int .i64 k, .int .i64 i, .int .i64 f, .int .i64 t] wx (Sets.SetOut V E wx)) ∧ Hid (∀ wx : World, Calls Try.prog 19 #[.int .i64 k, .int .i64 i, .int .i64 f, .int .i64 t] wx (Sets.SetOut V E wx)) ∧
    Hid ((E == 0) = false ∨ (E = 0 ∧ 0 ≤ f ∧ f ≤ t ∧ t ≤ 730499 ∧ t ≤ f + 40000 ∧ ∀ n : Int, f ≤ n → n ≤ t → ∃ X : Int,
      Hid (∀ wx : World, Calls Try.prog 15 #[.int .i64 k, .int .i64 n] wx (Two X 0 wx)) ∧
      Hid (∀ (A : Option Addr) (c : Nat) (wx : World), Sets.Rd wx A V.length V → Calls Try.prog 26 #[.slice A V.length c, .int .i64 n] wx (Sets.TwoB (X == i) 0 wx)))) := by
  refine ⟨_, _, Lib.hid Lv, Lib.hid fun wx => impl_IndictionDays k i f t wx, Lib.hid fun wx => spec_IndictionDays k i f t wx, Lib.hid ?_⟩
  by_cases h : idOk k i f t
  · rw [show idE k i f t = 0 from if_pos h, show idL k i f t = idS k i f t from if_pos h]
    obtain ⟨hk, hi, ⟨f0, f1⟩, t0, t1⟩ := h
    have hl := idS_len (k := k) (i := i) t0 (by omega)
    have hs : setB (idS k i f t) = true := Sets.set_mk hl (idS_nf f0 (by omega))
    refine .inr ⟨rfl, f0, t0, by omega, by omega, fun n n0 n1 => ⟨onI k n, Lib.hid fun wx => ?_, Lib.hid fun A c wx hr => ?_⟩⟩
    · have q := impl_IndictionOn k n wx
      have ok : ioOk k n := ⟨hk, by omega, by omega⟩
      rwa [show ioN k n = onI k n from if_pos ok, show ioE k n = 0 from if_pos ok] at q
    · have q := impl_HasDay A (idS k i f t).length c (idS k i f t) n (by unfold maxLen; omega) wx hr
      have hd : 0 ≤ n ∧ n ≤ 730499 := ⟨by omega, by omega⟩
      have hh := idS_has (k := k) (i := i) f0 (show t ≤ 730499 by omega) n
      rw [show hasE (idS k i f t) n = 0 from (if_pos hs).trans (if_pos hd), show hasV (idS k i f t) n = (onI k n == i) by
        unfold hasV
        rw [hs, decide_eq_true hd, Bool.and_self, Bool.true_and]
        unfold hasB
        by_cases e : onI k n = i
        · rw [decide_eq_true (hh.2 ⟨n0, n1, e⟩)]
          simp [e]
        · rw [decide_eq_false (fun g => e (hh.1 g).2.2)]
          simp [e]] at q
      exact q
  · rw [show idE k i f t = 2 from if_neg h]
    exact .inl rfl

end Go.Proofs.Ytfienklaafialaa.Ind
