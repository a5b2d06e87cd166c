/- Contracts of spec's reading of digits and of ReadNumber. -/
import Derived.Test.YtiimoejjokfkfaaDoorNumQ
namespace Go.Proofs.YtiimoejjokfkfaaDoor.Num
open Go.RowKit

/-- What is read out of digits. -/
def dgV (l : List UInt8) : Int := if 1 ≤ l.length ∧ l.length ≤ 9 ∧ l.all Txt.isDg = true then Txt.plain l else 0
def dgB (l : List UInt8) : Bool := decide ((1 ≤ l.length ∧ l.length ≤ 9 ∧ l.all Txt.isDg = true) ∧ Txt.dec (Txt.plain l) = l)
theorem dg_no {l : List UInt8} (h : ¬ (1 ≤ l.length ∧ l.length ≤ 9 ∧ l.all Txt.isDg = true)) : dgV l = 0 ∧ dgB l = false := ⟨if_neg h, decide_eq_false (fun q => h q.1)⟩

theorem spec_digits_len (l : List UInt8) (h : l.length < 1 ∨ 9 < l.length) (h2 : l.length ≤ 2000000) (w : World) : Calls Tryd.prog 48 #[.string (str l)] w (NB (fun k b => k = dgV l ∧ b = dgB l) w) := by
  have sz := str_size l
  obtain ⟨e1, e2⟩ := dg_no (l := l) (fun q => by omega)
  rw [e1, e2]
  clear e1 e2
  rcases h with h | h
  · have a : (l.length : Int) < 1 := by omega
    go_enter Tryd.func48, Tryd.ntmps48
    go_wp2_with fail
    go_ret2
    exact ⟨0, false, rfl, ⟨rfl, rfl⟩, Below.refl _ _⟩
  · have a : ¬ (l.length : Int) < 1 := by omega
    have b : (9 : Int) < (l.length : Int) := by omega
    go_enter Tryd.func48, Tryd.ntmps48
    go_wp2_with fail
    go_ret2
    exact ⟨0, false, rfl, ⟨rfl, rfl⟩, Below.refl _ _⟩

set_option maxHeartbeats 2000000 in
theorem spec_digits_at (l : List UInt8) (h1 : 1 ≤ l.length) (h9 : l.length ≤ 9) (w : World) : Calls Tryd.prog 48 #[.string (str l)] w (NB (fun k b => k = dgV l ∧ b = dgB l) w) := by
  have sz := str_size l
  have a : ¬ (l.length : Int) < 1 := by omega
  have b : ¬ (9 : Int) < (l.length : Int) := by omega
  go_enter Tryd.func48, Tryd.ntmps48
  go_wp2_with fail
  go_loopg [4, 5] (l.length) (fun m n i wr => ∃ (k : Nat), k ≤ l.length ∧ m = l.length - k ∧ n = .int .i64 (Txt.plain (l.take k)) ∧ i = .int .i64 k ∧ Hid (∀ j (h : j < l.length), j < k → Txt.isDg l[j] = true) ∧ wr = w)
  case atStart => exact ⟨0, by omega, by omega, rfl, rfl, Lib.hid (fun j h q => by omega), rfl⟩
  case round =>
    obtain ⟨k, hk, hm, rfl, rfl, HD, rfl⟩ := hrel
    subst hm
    by_cases hlt : k < l.length
    · have hgo : ((k : Int) < (l.length : Int)) := by omega
      have hgs : (str l)[k]'(by rw [str_size]; exact hlt) = l[k] := get_str l k _
      have nb := Txt.plain_bd9 (l.take k) (by simp; omega)
      have hsn := Txt.plain_snoc (l.take k) l[k]
      rw [← take_snoc' l k hlt] at hsn
      by_cases hd : Txt.isDg l[k] = true
      · rw [if_pos hd] at hsn
        have HS := Lib.hid hsn
        have HE : Hid (∀ j (h : j < l.length), j < k + 1 → Txt.isDg l[j] = true) := fun j h q => by
          by_cases e : j = k
          · subst e; exact hd
          · exact HD.out j h (by omega)
        unfold Txt.isDg at hd
        simp at hd
        obtain ⟨hd1, hd2⟩ := hd
        have d1 : (48 : Int) ≤ (l[k].toNat : Int) := by omega
        have d2 : (l[k].toNat : Int) ≤ 57 := by omega
        have n1 : ¬ (l[k].toNat : Int) < 48 := by omega
        have n2 : ¬ (57 : Int) < (l[k].toNat : Int) := by omega
        clear hsn hd1 hd2 HD
        generalize l[k] = c at *
        generalize Txt.plain (l.take k) = N at *
        go_wp2_with fail
        go_roundg (l.length - (k + 1))
        case measure => omega
        case rel => exact ⟨k + 1, by omega, by omega, by rw [HS.out], by go_num, HE, rfl⟩
      · have HZ := Lib.hid (dg_no (l := l) (fun q => hd (List.all_eq_true.1 q.2.2 _ (List.getElem_mem hlt))))
        have hd' : (l[k].toNat : Int) < 48 ∨ (¬ (l[k].toNat : Int) < 48 ∧ 57 < (l[k].toNat : Int)) := by
          unfold Txt.isDg at hd
          simp at hd
          omega
        clear hsn hd HD
        generalize l[k] = c at *
        generalize Txt.plain (l.take k) = N at *
        rcases hd' with d1 | ⟨d0, d1⟩
        all_goals
          go_wp2_with fail
          go_ret2
          exact ⟨0, false, rfl, ⟨HZ.out.1.symm, HZ.out.2.symm⟩, Below.refl _ _⟩
    · have hgo : ¬ ((k : Int) < (l.length : Int)) := by omega
      have et : l.take k = l := List.take_of_length_le (by omega)
      rw [et]
      have hall : l.all Txt.isDg = true := List.all_eq_true.2 fun c hc => by
        obtain ⟨j, hj, rfl⟩ := List.getElem_of_mem hc
        exact HD.out j hj (by omega)
      have nb := Txt.plain_bd9 l h9
      have eV := Lib.hid (show dgV l = Txt.plain l from if_pos ⟨h1, h9, hall⟩)
      have eB := Lib.hid (show dgB l = decide (Txt.dec (Txt.plain l) = l) by unfold dgB; simp [h1, h9, hall])
      have D := Lib.hid (spec_dec (Txt.plain l) nb.1 (by omega))
      have t0 := str_toList l
      have t1 := str_toList (Txt.dec (Txt.plain l))
      clear HD hall et
      generalize Txt.dec (Txt.plain l) = d at *
      generalize Txt.plain l = N at *
      by_cases q : d = l
      · have q1 : (d == l) = true := by simpa using q
        have eB2 := Lib.hid (show true = dgB l by rw [eB.out]; exact (decide_eq_true q).symm)
        clear q eB
        go_wp2_with fail
        refine (D.out _).mono ?_
        rintro e w2 ⟨rfl, b2⟩
        go_wp2_with fail
        go_ret2
        exact ⟨N, true, rfl, ⟨eV.out.symm, eB2.out⟩, b2⟩
      · have q1 : (d == l) = false := by simpa using q
        have eB2 := Lib.hid (show false = dgB l by rw [eB.out]; exact (decide_eq_false q).symm)
        clear q eB
        go_wp2_with fail
        refine (D.out _).mono ?_
        rintro e w2 ⟨rfl, b2⟩
        go_wp2_with fail
        go_ret2
        exact ⟨N, false, rfl, ⟨eV.out.symm, eB2.out⟩, b2⟩

theorem spec_digits (l : List UInt8) (h2 : l.length ≤ 2000000) (w : World) : Calls Tryd.prog 48 #[.string (str l)] w (NB (fun k b => k = dgV l ∧ b = dgB l) w) := by
  by_cases h1 : 1 ≤ l.length ∧ l.length ≤ 9
  · exact spec_digits_at l h1.1 h1.2 w
  · exact spec_digits_len l (by omega) h2 w

/-- What ReadNumber answers. -/
def rnV (l : List UInt8) : Int := if dgB l = true ∧ isN (dgV l) then dgV l else rdV l
def rnB (l : List UInt8) : Bool := if dgB l = true ∧ isN (dgV l) then true else rdB l

set_option maxHeartbeats 1000000 in
theorem spec_ReadNumber (l : List UInt8) (h2 : l.length ≤ 2000000) (w : World) : Calls Tryd.prog 23 #[.string (str l)] w (NB (fun k b => k = rnV l ∧ b = rnB l) w) := by
  have D := Lib.hid (spec_digits l h2)
  have R := Lib.hid (spec_ReadNumeral l h2)
  unfold rnV rnB
  by_cases hB : dgB l = true
  · by_cases hN : isN (dgV l)
    · rw [if_pos ⟨hB, hN⟩, if_pos ⟨hB, hN⟩]
      have I := Lib.hid (spec_isN (dgV l) true (decide_eq_true hN))
      rw [hB] at D
      clear hN hB
      generalize dgV l = N at *
      go_enter Tryd.func23, Tryd.ntmps23
      go_wp2_with fail
      refine (D.out _).mono ?_
      rintro e w1 ⟨k, b, rfl, ⟨rfl, rfl⟩, b1⟩
      go_wp2_with fail
      refine (I.out _).mono ?_
      rintro e w2 ⟨rfl, rfl⟩
      go_wp2_with fail
      go_ret2
      exact ⟨_, true, rfl, ⟨rfl, rfl⟩, b1⟩
    · rw [if_neg (fun q => hN q.2), if_neg (fun q => hN q.2)]
      have I := Lib.hid (spec_isN (dgV l) false (decide_eq_false hN))
      rw [hB] at D
      clear hN hB
      generalize dgV l = N at *
      go_enter Tryd.func23, Tryd.ntmps23
      go_wp2_with fail
      refine (D.out _).mono ?_
      rintro e w1 ⟨k, b, rfl, ⟨rfl, rfl⟩, b1⟩
      go_wp2_with fail
      refine (I.out _).mono ?_
      rintro e w2 ⟨rfl, rfl⟩
      go_wp2_with fail
      refine (R.out _).mono ?_
      rintro e w3 ⟨k, b, rfl, ⟨rfl, rfl⟩, b3⟩
      go_wp2_with fail
      go_ret2
      exact ⟨_, _, rfl, ⟨rfl, rfl⟩, below_step b1 b3⟩
  · rw [if_neg (fun q => hB q.1), if_neg (fun q => hB q.1)]
    have eB : dgB l = false := by simpa using hB
    rw [eB] at D
    clear hB eB
    generalize dgV l = N at *
    go_enter Tryd.func23, Tryd.ntmps23
    go_wp2_with fail
    refine (D.out _).mono ?_
    rintro e w1 ⟨k, b, rfl, ⟨rfl, rfl⟩, b1⟩
    go_wp2_with fail
    refine (R.out _).mono ?_
    rintro e w3 ⟨k, b, rfl, ⟨rfl, rfl⟩, b3⟩
    go_wp2_with fail
    go_ret2
    exact ⟨_, _, rfl, ⟨rfl, rfl⟩, below_step b1 b3⟩

end Go.Proofs.YtiimoejjokfkfaaDoor.Num
