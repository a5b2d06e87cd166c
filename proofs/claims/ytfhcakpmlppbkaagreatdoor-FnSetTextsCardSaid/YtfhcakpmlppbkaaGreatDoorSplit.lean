/- Contracts of spec's splitting of a text at a byte, and of its reading of digits. -/
import Derived.Test.YtfhcakpmlppbkaaGreatDoorTextW
import Derived.OwnWalk
import Derived.Laws.AppendOwn
import Derived.Laws.OwnMore
import Derived.WalkSpells
namespace Go.Proofs.YtfhcakpmlppbkaaGreatDoor
open Go.RowKit

theorem info_str : (Tryz.prog.info? 9).map (fun i => (i.zero, i.size, i.bytes)) = some (some (.string ByteArray.empty), 1, 16) := by kernel_rfl

theorem ext_str (l : List UInt8) (f k : Nat) : (str l).extract f k = str ((l.drop f).take (k - f)) := by
  simp [str, ByteArray.ext_iff]
theorem get_str (l : List UInt8) (k : Nat) (h : k < (str l).size) : (str l)[k] = l[k]'(by rw [← str_size]; exact h) := by
  rfl

theorem split_end {c : UInt8} {l cur : List UInt8} {ps T : List (List UInt8)} (h : ps ++ Txt.split c (l.drop l.length) cur = T) : ps ++ [cur] = T := by
  simpa [Txt.split] using h
theorem split_hit {c : UInt8} {l cur : List UInt8} {ps T : List (List UInt8)} {k : Nat} (hk : k < l.length) (hc : l[k] = c) (h : ps ++ Txt.split c (l.drop k) cur = T) :
    (ps ++ [cur]) ++ Txt.split c (l.drop (k + 1)) [] = T := by
  rw [List.drop_eq_getElem_cons hk] at h
  simpa [Txt.split, hc] using h
theorem split_miss {c : UInt8} {l : List UInt8} {ps T : List (List UInt8)} {k f : Nat} (hk : k < l.length) (hf : f ≤ k) (hc : ¬ l[k] = c) (h : ps ++ Txt.split c (l.drop k) ((l.drop f).take (k - f)) = T) :
    ps ++ Txt.split c (l.drop (k + 1)) ((l.drop f).take (k + 1 - f)) = T := by
  rw [List.drop_eq_getElem_cons hk] at h
  have e : (l.drop f).take (k + 1 - f) = (l.drop f).take (k - f) ++ [l[k]] := by
    rw [show k + 1 - f = (k - f) + 1 by omega, List.take_succ_eq_append_getElem (by simp; omega)]
    simp [show f + (k - f) = k by omega]
  rw [e]
  simpa [Txt.split, hc] using h

/-- The loop that cuts: pieces ps so far, the next one begins at f. -/
def SplitLoop (c : UInt8) (l : List UInt8) (w : World) (n : Nat) (v fr i : Value) (wr : World) : Prop :=
  ∃ (k f : Nat) (ps : List (List UInt8)), k ≤ l.length + 1 ∧ f ≤ k ∧ n = l.length + 1 - k ∧ i = .int .i64 k ∧ fr = .int .i64 f ∧ ps.length ≤ k ∧
    wr.ownsRow w.heap.size 9 1 v ps.length (ps.map fun p => Value.string (str p)) ∧ Below w.heap.size w wr ∧
    (if k ≤ l.length then ps ++ Txt.split c (l.drop k) ((l.drop f).take (k - f)) = Txt.split c l [] else ps = Txt.split c l [])

/-- What a call leaves that answers some texts: a row of its own. -/
def Texts (ps : List (List UInt8)) (w : World) (e : Ending) (w' : World) : Prop :=
  ∃ v, e = .returned v ∧ w'.ownsRow w.heap.size 9 1 v ps.length (ps.map fun p => Value.string (str p)) ∧ Below w.heap.size w w'

set_option maxHeartbeats 1000000 in
theorem spec_split (c : UInt8) (l : List UInt8) (hl : l.length ≤ 2000000) (w : World) :
    Calls Tryz.prog 44 #[.string (str l), .int .u8 c.toNat] w (Texts (Txt.split c l []) w) := by
  have sz := str_size l
  obtain ⟨i0, hi, hz0, hz1, hz2⟩ := info_parts info_str
  go_enter Tryz.func44, Tryz.ntmps44
  go_wp2_with fail
  go_loopg [5, 6, 7] (l.length + 1) (fun n v fr i wr => SplitLoop c l w n v fr i wr)
  case atStart =>
    exact ⟨0, 0, [], by omega, by omega, rfl, rfl, rfl, by simp, ⟨rfl, .inr ⟨w.heap.size, 0, #[], rfl, Nat.le_refl _, heap_alloc_new w _, Nat.le_refl _, Nat.zero_le _, rfl, rfl⟩⟩, (Below.refl _ _).alloc (Nat.le_refl _) _, by simp⟩
  case round =>
    obtain ⟨k, f, ps, hk, hf, hg, rfl, rfl, hps, hown, hbel, hpart⟩ := hrel
    subst hg
    have HP := Lib.hid hpart
    clear hpart
    by_cases hend : k = l.length + 1
    · have hgo : ¬ ((k : Int) ≤ (l.length : Int)) := by omega
      have hgo' : ¬ (k ≤ l.length) := by omega
      have HE := Lib.hid (show ps = Txt.split c l [] by have := HP.out; rw [if_neg hgo'] at this; exact this)
      clear hend
      go_wp2_with fail
      go_ret
      exact ⟨_, rfl, by rw [← HE.out]; exact hown, hbel⟩
    · have hle : k ≤ l.length := by omega
      have hgo : ((k : Int) ≤ (l.length : Int)) := by omega
      by_cases hkl : k = l.length
      · have hb : ((k : Int) == (l.length : Int)) = true := by simp [hkl]
        have E := Lib.hid (ext_str l f l.length)
        have HF := Lib.hid (show ps ++ [(l.drop f).take (l.length - f)] = Txt.split c l [] by have := HP.out; rw [if_pos hle] at this; subst hkl; exact split_end this)
        subst hkl
        go_wp2_with (at_builtin; refine wpList_append_own _ rfl (.tmp 26) (.tmp 31) 57 rfl w.heap.size 9 i0 (.string ByteArray.empty) 1 16 Tryz.underlying57 hi hz0 hz1 hz2 rfl (by decide) _ _ _ rfl (hown.alloc _) ⟨wr.heap.size, 0, none⟩ 1 1 [.string ((str l).extract f l.length)] rfl rfl (cell_one_new _ _ _) ?c2 ?c3 ?c4 ?c5 ?_)
        case c2 => intro u hu; simp at hu; subst hu; rfl
        case c3 => unfold maxLen; omega
        case c4 => omega
        case c5 => have := hbel.size; simp; omega
        intro v' w1 hown1 hgrow1 _
        have hb1 := Below.grown (hbel.alloc hbel.size (.cells #[.string ((str l).extract f l.length)] 9)) hgrow1 (by have := hbel.size; simp; omega) (fun g hg => (hown.lt g hg).1)
        have hown2 : w1.ownsRow w.heap.size 9 1 v' (ps ++ [(l.drop f).take (l.length - f)]).length ((ps ++ [(l.drop f).take (l.length - f)]).map fun p => Value.string (str p)) := by
          have h := hown1
          rw [E.out] at h
          simpa using h
        clear hown hown1 hgrow1 hbel
        go_wp2_with fail
        go_roundg (l.length + 1 - (l.length + 1))
        case measure => omega
        case rel => exact ⟨l.length + 1, l.length + 1, _, by omega, by omega, rfl, rfl, rfl, by simp; omega, hown2, hb1, by rw [if_neg (by omega)]; exact HF.out⟩
      · have hlt : k < l.length := by omega
        have hb : ((k : Int) == (l.length : Int)) = false := by simp; omega
        have E := Lib.hid (ext_str l f k)
        by_cases hc : l[k] = c
        · have hgs : (str l)[k]'(by rw [str_size]; exact hlt) = l[k] := get_str l k _
          have HF := Lib.hid (show (ps ++ [(l.drop f).take (k - f)]) ++ Txt.split c (l.drop (k + 1)) [] = Txt.split c l [] by have := HP.out; rw [if_pos hle] at this; exact split_hit hlt hc this)
          go_wp2_with (at_builtin; refine wpList_append_own _ rfl (.tmp 26) (.tmp 31) 57 rfl w.heap.size 9 i0 (.string ByteArray.empty) 1 16 Tryz.underlying57 hi hz0 hz1 hz2 rfl (by decide) _ _ _ rfl (hown.alloc _) ⟨wr.heap.size, 0, none⟩ 1 1 [.string ((str l).extract f k)] rfl rfl (cell_one_new _ _ _) ?c2 ?c3 ?c4 ?c5 ?_)
          case c2 => intro u hu; simp at hu; subst hu; rfl
          case c3 => unfold maxLen; omega
          case c4 => omega
          case c5 => have := hbel.size; simp; omega
          intro v' w1 hown1 hgrow1 _
          have hb1 := Below.grown (hbel.alloc hbel.size (.cells #[.string ((str l).extract f k)] 9)) hgrow1 (by have := hbel.size; simp; omega) (fun g hg => (hown.lt g hg).1)
          have hown2 : w1.ownsRow w.heap.size 9 1 v' (ps ++ [(l.drop f).take (k - f)]).length ((ps ++ [(l.drop f).take (k - f)]).map fun p => Value.string (str p)) := by
            have h := hown1
            rw [E.out] at h
            simpa using h
          clear hown hown1 hgrow1 hbel
          go_wp2_with fail
          go_roundg (l.length + 1 - (k + 1))
          case measure => omega
          case rel => exact ⟨k + 1, k + 1, _, by omega, by omega, rfl, rfl, rfl, by simp; omega, hown2, hb1, by rw [if_pos (by omega), Nat.sub_self, List.take_zero]; exact HF.out⟩
        · have hgs : (str l)[k]'(by rw [str_size]; exact hlt) = l[k] := get_str l k _
          have hcb : (((l[k]).toNat : Int) == (c.toNat : Int)) = false := by
            simp
            intro h
            exact hc (UInt8.toNat_inj.1 (by omega))
          have HF := Lib.hid (show ps ++ Txt.split c (l.drop (k + 1)) ((l.drop f).take (k + 1 - f)) = Txt.split c l [] by have := HP.out; rw [if_pos hle] at this; exact split_miss hlt hf hc this)
          clear hc
          go_wp2_with fail
          go_roundg (l.length + 1 - (k + 1))
          case measure => omega
          case rel => exact ⟨k + 1, f, ps, by omega, by omega, rfl, rfl, rfl, by omega, hown, hbel, by rw [if_pos (by omega)]; exact HF.out⟩

end Go.Proofs.YtfhcakpmlppbkaaGreatDoor
