/- Contract of impl's text of a phrase, over the library's Join and Clone. -/
import Derived.Test.YtdpbikephjnndaaDoorWrdIa
import Derived.Test.YtdpbikephjnndaaDoorWrdF
import Derived.Test.YtdpbikephjnndaaDoorShelf
namespace Go.Proofs.YtdpbikephjnndaaDoor.Wrd
open Go.RowKit

theorem lib_clone (l : List UInt8) (hl : l.length ≤ 281474976710656) (w : World) : Calls Tryd.prog 22 #[.string (str l)] w (Tx l w) := by
  have C := Lib.hid (Tryd.stringslite_Clone (str l) w (by rw [str_size]; exact hl))
  go_enter Tryd.func22, Tryd.ntmps22
  go_wp2_with fail
  refine C.out.mono ?_
  rintro e w1 ⟨rfl, hb⟩
  go_wp2_with fail
  go_ret
  exact ⟨rfl, hb⟩
theorem data_str (ps : List (List UInt8)) : (ps.map str).map (·.data.toList) = ps := by
  rw [List.map_map]
  exact List.map_id' ps
theorem lib_join (A : Option Addr) (c : Nat) (ps : List (List UInt8)) (hp : phOk ps) (hc : ps.length ≤ c) (w : World) (hr : RdS w A ps) :
    Calls Tryd.prog 23 #[.slice A ps.length c, .string ⟨#[32]⟩] w (Tx (Lib.join ps [32]) w) := by
  rcases Nat.eq_zero_or_pos ps.length with h0 | h0
  · have e : ps = [] := List.eq_nil_of_length_eq_zero h0
    subst e
    exact (Tryd.strings_Join_none A c ⟨#[32]⟩ w).mono fun e w' ⟨h1, h2⟩ => ⟨h1, h2 ▸ Below.refl _ _⟩
  · obtain ⟨g, off, rfl, hg, -⟩ := hr 0 h0
    have hx : (ps.map str).length = ps.length := List.length_map _
    have C := Tryd.strings_Join g off c (ps.map str) ⟨#[32]⟩ w (by
      intro j x hj
      rw [List.getElem?_map] at hj
      obtain ⟨p, hp1, rfl⟩ := Option.map_eq_some_iff.1 hj
      obtain ⟨hlt, hp2⟩ := List.getElem?_eq_some_iff.1 hp1
      obtain ⟨g', off', e', -, hcell⟩ := hr j hlt
      injection e' with e'
      injection e' with e1 e2
      subst e1 e2
      rw [← hp2]
      exact hcell) hg (by rw [hx]; have := hp.2; omega) (by rw [hx]; exact hc) (by
      rw [data_str]
      have h := J_len (ps := ps) (fun p h => by have := (hp.1 p h).2.2; omega) ps.length (Nat.le_refl _)
      rw [J_all] at h
      have := hp.2
      show (Lib.join ps [32]).length ≤ _
      omega)
    rw [data_str, hx] at C
    exact C

theorem impl_PhraseText (A : Option Addr) (c : Nat) (ps : List (List UInt8)) (ht : Tame ps) (hc : ps.length ≤ c) (w : World) (hr : RdS w A ps) : Calls Tryd.prog 7 #[.slice A ps.length c] w (TxE (ptL ps) (ptE ps) w) := by
  by_cases hp : phOk ps
  · have PH := Lib.hid (impl_phrase A c ps ht true (decide_eq_true hp))
    have JO := Lib.hid (lib_join A c ps hp hc)
    have CL := Lib.hid (lib_clone (Lib.join ps [32]) (by
      have h := J_len (ps := ps) (fun p h => by have := (hp.1 p h).2.2; omega) ps.length (Nat.le_refl _)
      rw [J_all] at h
      have := hp.2
      omega))
    have H := Lib.hid (show Lib.join ps [32] = ptL ps ∧ 0 = ptE ps from ⟨(if_pos hp).symm, (if_pos hp).symm⟩)
    clear hp ht
    generalize Lib.join ps [32] = t at *
    go_enter Tryd.func7, Tryd.ntmps7
    go_wp2_with fail
    refine (PH.out _ hr).mono ?_
    rintro e w1 ⟨rfl, rfl⟩
    go_wp2_with fail
    refine (JO.out _ hr).mono ?_
    rintro e w1 ⟨rfl, hb⟩
    go_wp2_with fail
    refine (CL.out _).mono ?_
    rintro e w2 ⟨rfl, hb2⟩
    have fin := hb.trans (hb2.mono hb.size)
    go_wp2_with fail
    go_ret2
    exact ⟨ret_tx H.out.1 H.out.2, fin⟩
  · have PH := Lib.hid (impl_phrase A c ps ht false (decide_eq_false hp))
    have H := Lib.hid (show [] = ptL ps ∧ 1 = ptE ps from ⟨(if_neg hp).symm, (if_neg hp).symm⟩)
    clear hp ht
    go_enter Tryd.func7, Tryd.ntmps7
    go_wp2_with fail
    refine (PH.out _ hr).mono ?_
    rintro e w1 ⟨rfl, rfl⟩
    go_wp2_with fail
    go_ret2
    exact ⟨ret_tx H.out.1 H.out.2, Below.refl _ _⟩

end Go.Proofs.YtdpbikephjnndaaDoor.Wrd
