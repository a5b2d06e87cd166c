/- Contracts of spec's reading of digits and of a date. -/
import Derived.Test.YtkmkfpglnmpnmaaDoorSplit
import Derived.Test.YtkmkfpglnmpnmaaDoorSt
import Derived.StillTactics
import Derived.StillTailTactics
namespace Go.Proofs.YtkmkfpglnmpnmaaDoor
open Go.RowKit

theorem str_toList (l : List UInt8) : (str l).toList = l := by rw [ByteArray.toList_eq]; rfl
theorem take_snoc' (l : List UInt8) (k : Nat) (h : k < l.length) : l.take (k + 1) = l.take k ++ [l[k]] := List.take_succ_eq_append_getElem h

set_option maxHeartbeats 1000000 in
theorem spec_plain (l : List UInt8) (hl : l.length ≤ 2000000) (w : World) :
    Calls Tryd.prog 36 #[.string (str l)] w fun e w' => e = .returned (.int .i64 (Txt.plain (l.take 9))) ∧ w = w' := by
  have sz := str_size l
  go_enter Tryd.func36, Tryd.ntmps36
  go_wp2_with fail
  go_loop [3, 4] (fun n i => ∃ k : Nat, k ≤ l.length ∧ k ≤ 9 ∧ i = .int .i64 k ∧ n = .int .i64 (Txt.plain (l.take k))) (fun _ i => 9 - (intOf i).toNat)
  case atStart => exact ⟨0, by omega, by omega, rfl, by simp [Txt.plain]⟩
  case round =>
    obtain ⟨k, hk, hk9, rfl, rfl⟩ := hrel
    by_cases hlt : k < l.length
    · have hgo : ((k : Int) < (l.length : Int)) := by omega
      by_cases h9 : k < 9
      · have hgs : (str l)[k]'(by rw [str_size]; exact hlt) = l[k] := get_str l k _
        have nb := Txt.plain_bd9 (l.take k) (by simp; omega)
        have hsn := Txt.plain_snoc (l.take k) l[k]
        rw [← take_snoc' l k hlt] at hsn
        by_cases hd : Txt.isDg l[k] = true
        · rw [if_pos hd] at hsn
          have HS := Lib.hid hsn
          unfold Txt.isDg at hd
          simp at hd
          obtain ⟨hd1, hd2⟩ := hd
          have d1 : (48 : Int) ≤ (l[k].toNat : Int) := by omega
          have d2 : (l[k].toNat : Int) ≤ 57 := by omega
          clear hsn hd1 hd2
          generalize l[k] = c at *
          generalize Txt.plain (l.take k) = N at *
          go_wp2_with fail
          go_round
          case rel => exact ⟨k + 1, by omega, by omega, by go_num, by rw [HS.out]⟩
          case measure => simp [intOf]; omega
        · rw [if_neg hd] at hsn
          have HS := Lib.hid hsn
          have hd' : (l[k].toNat : Int) < 48 ∨ 57 < (l[k].toNat : Int) := by
            unfold Txt.isDg at hd
            simp at hd
            omega
          clear hsn hd
          generalize l[k] = c at *
          generalize Txt.plain (l.take k) = N at *
          rcases hd' with d1 | d1
          all_goals
            go_wp2_with fail
            go_round
            case rel => exact ⟨k + 1, by omega, by omega, by go_num, by rw [HS.out]⟩
            case measure => simp [intOf]; omega
      · have e9 := Lib.hid (show k = 9 by omega)
        go_wp2_with fail
        go_ret
        exact ⟨ret_int (by rw [e9.out]), rfl⟩
    · have hgo : ¬ ((k : Int) < (l.length : Int)) := by omega
      have e9 := Lib.hid (show l.take k = l.take 9 by rw [List.take_of_length_le (by omega), List.take_of_length_le (by omega)])
      go_wp2_with fail
      go_ret
      exact ⟨ret_int (by rw [e9.out]), rfl⟩

/-- What a call leaves that answers a date and a yes or no. -/
def DateB (y m d : Int) (b : Bool) (w : World) (e : Ending) (w' : World) : Prop :=
  e = .returned (.tuple #[.agg #[.int .i64 y, .int .i64 m, .int .i64 d], .bool b]) ∧ Below w.heap.size w w'
/-- What spec reads out of a text. -/
def readOf (l : List UInt8) : Int × Int × Int × Bool :=
  match Txt.split 45 l [] with
  | [a, b, c] => if dateTx (Txt.plain (a.take 9)) (Txt.plain (b.take 9)) (Txt.plain (c.take 9)) = l then (Txt.plain (a.take 9), Txt.plain (b.take 9), Txt.plain (c.take 9), true) else (0, 0, 0, false)
  | _ => (0, 0, 0, false)

theorem split_len (c : UInt8) : ∀ (l cur : List UInt8), ∀ p ∈ Txt.split c l cur, p.length ≤ l.length + cur.length
  | [], cur, p, h => by simp [Txt.split] at h; subst h; simp
  | x :: r, cur, p, h => by
    unfold Txt.split at h
    split at h
    · rcases List.mem_cons.1 h with rfl | h
      · simp
      · have := split_len c r [] p h; simp at this ⊢; omega
    · have := split_len c r (cur ++ [x]) p h; simp at this ⊢; omega

theorem split_pos (c : UInt8) : ∀ (l cur : List UInt8), 1 ≤ (Txt.split c l cur).length
  | [], cur => by simp [Txt.split]
  | x :: r, cur => by
    unfold Txt.split
    split
    · simp
    · exact split_pos c r (cur ++ [x])

/-- The row of some texts, where there is one. -/
theorem Texts.at_ {ps : List (List UInt8)} {w : World} {e : Ending} {w' : World} (h : Texts ps w e w') (hp : 1 ≤ ps.length) :
    ∃ g cap, e = .returned (.slice (some ⟨g, 0, none⟩) ps.length cap) ∧ w.heap.size ≤ g ∧ g < w'.heap.size ∧ ps.length ≤ maxLen ∧ Below w.heap.size w w' ∧ ∀ j (hj : j < ps.length), w'.cell? ⟨g, j, none⟩ = some (.string (str ps[j])) := by
  obtain ⟨v, rfl, hown, hb⟩ := h
  have hown' := hown
  rcases hown.2 with ⟨_, h0⟩ | ⟨g, cap, cur, rfl, hg, hh, hc, hm, _⟩
  · omega
  · refine ⟨g, cap, rfl, hg, ?_, by omega, hb, fun j hj => ?_⟩
    · rcases Nat.lt_or_ge g w'.heap.size with h | h
      · exact h
      · rw [Array.getElem?_eq_none h] at hh; cases hh
    · rw [hown'.cellAt j (by omega)]
      simp [hj]

set_option maxHeartbeats 1000000 in
theorem spec_ReadDate_no (l : List UInt8) (hl : l.length ≤ 2000000) (hn : Hid ((Txt.split 45 l []).length ≠ 3)) (w : World) :
    Calls Tryd.prog 16 #[.string (str l)] w (DateB 0 0 0 false w) := by
  have hp := split_pos 45 l []
  go_enter Tryd.func16, Tryd.ntmps16
  go_wp2_with fail
  refine (spec_split 45 l hl _).mono ?_
  intro e w1 ht
  obtain ⟨g, cap, rfl, hg, hg2, hm, hb, _⟩ := ht.at_ hp
  clear ht
  generalize Txt.split 45 l [] = ps at *
  have hne : ((ps.length : Int) == 3) = false := by have := hn.out; simp; omega
  unfold maxLen at hm
  have q := (Blk.new w 25 #[.int .i64 0, .int .i64 0, .int .i64 0]).below hb (by simp)
  obtain ⟨c0, c1, c2⟩ := q.three
  have z0 := q.frozen 0
  have z1 := q.frozen 1
  have z2 := q.frozen 2
  go_wp2_with fail
  refine bodyPost_ret (v := .tuple #[.agg #[.int .i64 0, .int .i64 0, .int .i64 0], .bool false]) (by simp [results, Tryd.results16, go_sem, c0, c1, c2]) rfl ⟨rfl, ?_⟩
  exact (((((Below.refl _ _).alloc (Nat.le_refl _) _).trans (hb.mono (by simp))).setCell (Nat.le_refl _) _).setCell (Nat.le_refl _) _).setCell (Nat.le_refl _) _

/-- What spec answers of three pieces. -/
def ReadEnd (y m d : Int) (l : List UInt8) (w : World) (e : Ending) (w' : World) : Prop := if dateTx y m d = l then DateB y m d true w e w' else DateB 0 0 0 false w e w'

set_option maxHeartbeats 2000000 in
theorem spec_ReadDate_3 (l p1 p2 p3 : List UInt8) (hl : l.length ≤ 2000000) (hs : Hid (Txt.split 45 l [] = [p1, p2, p3])) (y m d : Int) (h1 : Hid (Txt.plain (p1.take 9) = y)) (h2 : Hid (Txt.plain (p2.take 9) = m)) (h3 : Hid (Txt.plain (p3.take 9) = d)) (w : World) :
    Calls Tryd.prog 16 #[.string (str l)] w (ReadEnd y m d l w) := by
  have hp := split_pos 45 l []
  have l1 := split_len 45 l [] p1 (by rw [hs.out]; simp)
  have l2 := split_len 45 l [] p2 (by rw [hs.out]; simp)
  have l3 := split_len 45 l [] p3 (by rw [hs.out]; simp)
  simp at l1 l2 l3
  have C1 : ∀ wx, Calls Tryd.prog 36 #[.string (str p1)] wx fun e w' => e = .returned (.int .i64 y) ∧ w' = wx := fun wx => (spec_plain p1 (by omega) wx).mono fun _ _ ⟨a, b⟩ => ⟨by rw [a, h1.out], b.symm⟩
  have C2 : ∀ wx, Calls Tryd.prog 36 #[.string (str p2)] wx fun e w' => e = .returned (.int .i64 m) ∧ w' = wx := fun wx => (spec_plain p2 (by omega) wx).mono fun _ _ ⟨a, b⟩ => ⟨by rw [a, h2.out], b.symm⟩
  have C3 : ∀ wx, Calls Tryd.prog 36 #[.string (str p3)] wx fun e w' => e = .returned (.int .i64 d) ∧ w' = wx := fun wx => (spec_plain p3 (by omega) wx).mono fun _ _ ⟨a, b⟩ => ⟨by rw [a, h3.out], b.symm⟩
  have H1 := Lib.hid C1
  have H2 := Lib.hid C2
  have H3 := Lib.hid C3
  clear C1 C2 C3 l1 l2 l3
  go_enter Tryd.func16, Tryd.ntmps16
  go_wp2_with fail
  refine (spec_split 45 l hl _).mono ?_
  intro e w1 ht
  rw [hs.out] at ht
  obtain ⟨g, cap, rfl, hg, hg2, hm, hb, hcell⟩ := ht.at_ (by simp)
  have e0 := hcell 0 (by simp)
  have e1 := hcell 1 (by simp)
  have e2 := hcell 2 (by simp)
  simp only [List.getElem_cons_zero, List.getElem_cons_succ] at e0 e1 e2
  clear ht hcell hm
  have q := (Blk.new w 25 #[.int .i64 0, .int .i64 0, .int .i64 0]).below hb (by simp)
  go_wp2_with fail
  have b1 : Below w.heap.size w w1 := ((Below.refl _ _).alloc (Nat.le_refl _) _).trans (hb.mono (by simp))
  have hlt : w.heap.size < w1.heap.size := q.lt
  have D1 := Lib.hid (show ∀ wx, Calls Tryd.prog 36 #[.string (str p1)] wx fun e w' => e = .returned (.int .i64 y) ∧ wx = w' from fun wx => (H1.out wx).mono fun _ _ ⟨a, b⟩ => ⟨a, b.symm⟩)
  have D2 := Lib.hid (show ∀ wx, Calls Tryd.prog 36 #[.string (str p2)] wx fun e w' => e = .returned (.int .i64 m) ∧ wx = w' from fun wx => (H2.out wx).mono fun _ _ ⟨a, b⟩ => ⟨a, b.symm⟩)
  have D3 := Lib.hid (show ∀ wx, Calls Tryd.prog 36 #[.string (str p3)] wx fun e w' => e = .returned (.int .i64 d) ∧ wx = w' from fun wx => (H3.out wx).mono fun _ _ ⟨a, b⟩ => ⟨a, b.symm⟩)
  go_region_held3 (fun w' => w'.cell? ⟨g, 0, none⟩ = some (.string (str p1)) ∧ w'.cell? ⟨g, 1, none⟩ = some (.string (str p2)) ∧ w'.cell? ⟨g, 2, none⟩ = some (.string (str p3)))
    (first | exact ⟨e0, e1, e2⟩ | (simp [go_sem, World.cell?_alloc_past, e0, e1, e2, hg2]))
    (first
      | (go_at_call_of 36 (Value.string (str p1)); refine (D1.out _).mono ?_; rintro e wq ⟨rfl, rfl⟩)
      | (go_at_call_of 36 (Value.string (str p2)); refine (D2.out _).mono ?_; rintro e wq ⟨rfl, rfl⟩)
      | (go_at_call_of 36 (Value.string (str p3)); refine (D3.out _).mono ?_; rintro e wq ⟨rfl, rfl⟩))
  all_goals
    go_wp2_with fail
    refine (spec_DateText y m d _).mono ?_
    rintro e w3 ⟨rfl, hb3⟩
    have zz := hb3.size
    simp at zz
    have qR : Blk w3 w.heap.size 25 #[.int .i64 0, .int .i64 0, .int .i64 0] := Blk.below (q.alloc (.cells #[.int .i64 y, .int .i64 m, .int .i64 d] 25)).drew hb3 (by simp; omega)
    have qD : Blk w3 w1.heap.size 25 #[.int .i64 y, .int .i64 m, .int .i64 d] := Blk.below (Blk.new w1 25 #[.int .i64 y, .int .i64 m, .int .i64 d]).drew hb3 (by simp)
    have b3 : Below w.heap.size w w3 := (b1.alloc (Nat.le_of_lt hlt) (.cells #[.int .i64 y, .int .i64 m, .int .i64 d] 25)).drew.trans (hb3.mono (by simp; omega))
    obtain ⟨c0, c1, c2⟩ := qR.three
    have z0 := qR.frozen 0
    have z1 := qR.frozen 1
    have z2 := qR.frozen 2
    obtain ⟨a0, a1, a2⟩ := qD.three
    clear H1 H2 H3 D1 D2 D3 hs h1 h2 h3 e0 e1 e2 qR qD q hb hb3
    by_cases hE : dateTx y m d = l
    · have hB : ((str (dateTx y m d)).toList == (str l).toList) = true := by rw [hE]; simp
      have HE := Lib.hid hE
      clear hE
      go_wp2_with fail
      refine bodyPost_ret (v := .tuple #[.agg #[.int .i64 y, .int .i64 m, .int .i64 d], .bool true]) (by simp [results, Tryd.results16, go_sem, c0, c1, c2]) rfl ?_
      unfold ReadEnd
      rw [if_pos HE.out]
      exact ⟨rfl, ((b3.setCell (Nat.le_refl _) _).setCell (Nat.le_refl _) _).setCell (Nat.le_refl _) _⟩
    · have hB : ((str (dateTx y m d)).toList == (str l).toList) = false := by rw [str_toList, str_toList]; simpa using hE
      have HE := Lib.hid hE
      clear hE
      go_wp2_with fail
      refine bodyPost_ret (v := .tuple #[.agg #[.int .i64 0, .int .i64 0, .int .i64 0], .bool false]) (by simp [results, Tryd.results16, go_sem, c0, c1, c2]) rfl ?_
      unfold ReadEnd
      rw [if_neg HE.out]
      exact ⟨rfl, ((b3.setCell (Nat.le_refl _) _).setCell (Nat.le_refl _) _).setCell (Nat.le_refl _) _⟩

end Go.Proofs.YtkmkfpglnmpnmaaDoor
