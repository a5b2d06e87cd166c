/- Contracts of impl's reading of digits and of a date's text. -/
import Derived.Test.YtkmkfpglnmpnmaaDoorPlain
namespace Go.Proofs.YtkmkfpglnmpnmaaDoor
open Go.RowKit

theorem ret_ib {k : IntKind} {a b : Int} {c d : Bool} (h : a = b) (h' : c = d) : Ending.returned (.tuple #[.int k a, .bool c]) = .returned (.tuple #[.int k b, .bool d]) := by rw [h, h']

def allDg (l : List UInt8) : Bool := l.all Txt.isDg
def rdNum (l : List UInt8) : Int := if allDg l = true then Txt.plain l else 0

/-- What a call leaves that answers a number and a yes or no. -/
def NumB (n : Int) (b : Bool) (w : World) (e : Ending) (w' : World) : Prop := e = .returned (.tuple #[.int .i64 n, .bool b]) ∧ w = w'

theorem allDg_snoc (l : List UInt8) (c : UInt8) : allDg (l ++ [c]) = (allDg l && Txt.isDg c) := by simp [allDg]
theorem allDg_no {l : List UInt8} {k : Nat} (h : k < l.length) (hd : Txt.isDg l[k] = false) : allDg l = false := by
  simp only [allDg, List.all_eq_false]
  exact ⟨l[k], List.getElem_mem h, by simp [hd]⟩

set_option maxHeartbeats 1000000 in
theorem impl_readDigits (l : List UInt8) (hl : l.length ≤ 9) (w : World) :
    Calls Tryd.prog 32 #[.string (str l)] w (NumB (rdNum l) (allDg l) w) := by
  have sz := str_size l
  go_enter Tryd.func32, Tryd.ntmps32
  go_wp2_with fail
  go_loopg [4, 8] l.length (fun g n i wr => ∃ k : Nat, k ≤ l.length ∧ g = l.length - k ∧ i = .int .i64 k ∧ n = .int .i64 (Txt.plain (l.take k)) ∧ allDg (l.take k) = true ∧ w = wr)
  case atStart => exact ⟨0, by omega, rfl, rfl, by simp [Txt.plain], by simp [allDg], rfl⟩
  case round =>
    obtain ⟨k, hk, hg, rfl, rfl, hall, rfl⟩ := hrel
    subst hg
    have HA := Lib.hid hall
    clear hall
    by_cases hlt : k < l.length
    · have hgo : ((k : Int) < (l.length : Int)) := by omega
      have hgs : (str l)[k]'(by rw [str_size]; exact hlt) = l[k] := get_str l k _
      have nb := Txt.plain_bd9 (l.take k) (by simp; omega)
      have hsn := Txt.plain_snoc (l.take k) l[k]
      have han := allDg_snoc (l.take k) l[k]
      rw [← take_snoc' l k hlt] at hsn han
      by_cases hd : Txt.isDg l[k] = true
      · rw [if_pos hd] at hsn
        have HS := Lib.hid hsn
        have HN := Lib.hid (show allDg (l.take (k + 1)) = true by rw [han, HA.out, hd]; rfl)
        unfold Txt.isDg at hd
        simp at hd
        obtain ⟨hd1, hd2⟩ := hd
        have d1 : (48 : Int) ≤ (l[k].toNat : Int) := by omega
        have d2 : (l[k].toNat : Int) ≤ 57 := by omega
        clear hsn hd1 hd2 han HA
        generalize l[k] = c at *
        generalize Txt.plain (l.take k) = N at *
        go_wp2_with fail
        go_roundg (l.length - (k + 1))
        case measure => omega
        case rel => exact ⟨k + 1, by omega, rfl, by go_num, by rw [HS.out]; exact congrArg (Value.int .i64) (by omega), HN.out, rfl⟩
      · have hf : Txt.isDg l[k] = false := by simpa using hd
        have HF := Lib.hid (show 0 = rdNum l ∧ false = allDg l by have := allDg_no hlt hf; simp [rdNum, this])
        have hd' : (l[k].toNat : Int) < 48 ∨ 57 < (l[k].toNat : Int) := by
          unfold Txt.isDg at hd
          simp at hd
          omega
        clear hsn hd han HA hf
        generalize l[k] = c at *
        rcases hd' with d1 | d1
        all_goals
          go_wp2_with fail
          go_ret2
          exact ⟨ret_ib HF.out.1 HF.out.2, rfl⟩
    · have hgo : ¬ ((k : Int) < (l.length : Int)) := by omega
      have HF := Lib.hid (show Txt.plain (l.take k) = rdNum l ∧ true = allDg l by
        have e : l.take k = l := List.take_of_length_le (by omega)
        have h := HA.out
        rw [e] at h ⊢
        simp [rdNum, h])
      go_wp2_with fail
      go_ret2
      exact ⟨ret_ib HF.out.1 HF.out.2, rfl⟩

set_option maxHeartbeats 400000 in
theorem impl_isValid (y m d : Int) (w : World) :
    Calls Tryd.prog 30 #[.agg #[.int .i64 y, .int .i64 m, .int .i64 d]] w (Bl (vb false y m d || vb true y m d) w) := by
  by_cases h : vb false y m d = true
  · go_enter Tryd.func30, Tryd.ntmps30
    go_wp2_with fail
    refine (impl_isIn false y m d _).mono ?_
    rintro e w1 ⟨rfl, hb⟩
    go_wp2_with fail
    go_ret
    exact ⟨by simp [h], ((Below.refl _ _).alloc (Nat.le_refl _) _).trans (hb.mono (by simp))⟩
  · have h' : vb false y m d = false := by simpa using h
    clear h
    go_enter Tryd.func30, Tryd.ntmps30
    go_wp2_with fail
    refine (impl_isIn false y m d _).mono ?_
    rintro e w1 ⟨rfl, hb⟩
    have q1 := (Blk.new w _ _).below hb (by simp)
    obtain ⟨c0, c1, c2⟩ := q1.three
    go_wp2_with fail
    refine (impl_isIn true y m d _).mono ?_
    rintro e w2 ⟨rfl, hb2⟩
    go_wp2_with fail
    go_ret
    have zz := hb.size
    simp at zz
    exact ⟨by simp [h'], (((Below.refl _ _).alloc (Nat.le_refl _) _).trans (hb.mono (by simp))).trans (hb2.mono (by omega))⟩

end Go.Proofs.YtkmkfpglnmpnmaaDoor
