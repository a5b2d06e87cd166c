/- Texts of a claim in one file: Split TxS. -/
import Derived.Test.YtfhcakpmlppbkaaDoorGrpAw
import Derived.OwnWalk
import Derived.Laws.AppendOwn
import Derived.Laws.OwnMore
import Derived.WalkSpells
import Derived.Test.YtfhcakpmlppbkaaDoorGrpAj
import Derived.Lib.Join
namespace Go.Proofs.YtfhcakpmlppbkaaDoor
open Go.RowKit

theorem info_str : (Tryd.prog.info? 9).map (fun i => (i.zero, i.size, i.bytes)) = some (some (.string ByteArray.empty), 1, 16) := by kernel_rfl

theorem ext_str (l : List UInt8) (f k : Nat) : (str l).extract f k = str ((l.drop f).take (k - f)) := by
  simp [str, ByteArray.ext_iff]
theorem get_str (l : List UInt8) (k : Nat) (h : k < (str l).size) : (str l)[k] = l[k]'(by rw [← str_size]; exact h) := by
  rfl

theorem split_end {c : UInt8} {l cur : List UInt8} {ps T : List (List UInt8)} (h : ps ++ Txt.split c (l.drop l.length) cur = T) : ps ++ [cur] = T := by
  simpa [Txt.split] using h
theorem split_hit {c : UInt8} {l cur : List UInt8} {ps T : List (List UInt8)} {k : Nat} (hk : k < l.length) (hc : l[k] = c) (h : ps ++ Txt.split c (l.drop k) cur = T) :
    (ps ++ [cur]) ++ Txt.split c (l.drop (k + 1)) [] = T := by
  rw [List.drop_eq_getElem_cons hk] at h
  simpa [Txt.split, hc] using h
theorem split_miss {c : UInt8} {l : List UInt8} {ps T : List (List UInt8)} {k f : Nat} (hk : k < l.length) (hf : f ≤ k) (hc : ¬ l[k] = c) (h : ps ++ Txt.split c (l.drop k) ((l.drop f).take (k - f)) = T) :
    ps ++ Txt.split c (l.drop (k + 1)) ((l.drop f).take (k + 1 - f)) = T := by
  rw [List.drop_eq_getElem_cons hk] at h
  have e : (l.drop f).take (k + 1 - f) = (l.drop f).take (k - f) ++ [l[k]] := by
    rw [show k + 1 - f = (k - f) + 1 by omega, List.take_succ_eq_append_getElem (by simp; omega)]
    simp [show f + (k - f) = k by omega]
  rw [e]
  simpa [Txt.split, hc] using h

/-- The loop that cuts: pieces ps so far, the next one begins at f. -/
def SplitLoop (c : UInt8) (l : List UInt8) (w : World) (n : Nat) (v fr i : Value) (wr : World) : Prop :=
  ∃ (k f : Nat) (ps : List (List UInt8)), k ≤ l.length + 1 ∧ f ≤ k ∧ n = l.length + 1 - k ∧ i = .int .i64 k ∧ fr = .int .i64 f ∧ ps.length ≤ k ∧
    wr.ownsRow w.heap.size 9 1 v ps.length (ps.map fun p => Value.string (str p)) ∧ Below w.heap.size w wr ∧
    (if k ≤ l.length then ps ++ Txt.split c (l.drop k) ((l.drop f).take (k - f)) = Txt.split c l [] else ps = Txt.split c l [])

/-- What a call leaves that answers some texts: a row of its own. -/
def Texts (ps : List (List UInt8)) (w : World) (e : Ending) (w' : World) : Prop :=
  ∃ v, e = .returned v ∧ w'.ownsRow w.heap.size 9 1 v ps.length (ps.map fun p => Value.string (str p)) ∧ Below w.heap.size w w'

set_option maxHeartbeats 1000000 in
theorem spec_split (c : UInt8) (l : List UInt8) (hl : l.length ≤ 2000000) (w : World) :
    Calls Tryd.prog 15 #[.string (str l), .int .u8 c.toNat] w (Texts (Txt.split c l []) w) := by
  have sz := str_size l
  obtain ⟨i0, hi, hz0, hz1, hz2⟩ := info_parts info_str
  go_enter Tryd.func15, Tryd.ntmps15
  go_wp2_with fail
  go_loopg [5, 6, 7] (l.length + 1) (fun n v fr i wr => SplitLoop c l w n v fr i wr)
  case atStart =>
    exact ⟨0, 0, [], by omega, by omega, rfl, rfl, rfl, by simp, ⟨rfl, .inr ⟨w.heap.size, 0, #[], rfl, Nat.le_refl _, heap_alloc_new w _, Nat.le_refl _, Nat.zero_le _, rfl, rfl⟩⟩, (Below.refl _ _).alloc (Nat.le_refl _) _, by simp⟩
  case round =>
    obtain ⟨k, f, ps, hk, hf, hg, rfl, rfl, hps, hown, hbel, hpart⟩ := hrel
    subst hg
    have HP := Lib.hid hpart
    clear hpart
    by_cases hend : k = l.length + 1
    · have hgo : ¬ ((k : Int) ≤ (l.length : Int)) := by omega
      have hgo' : ¬ (k ≤ l.length) := by omega
      have HE := Lib.hid (show ps = Txt.split c l [] by have := HP.out; rw [if_neg hgo'] at this; exact this)
      clear hend
      go_wp2_with fail
      go_ret
      exact ⟨_, rfl, by rw [← HE.out]; exact hown, hbel⟩
    · have hle : k ≤ l.length := by omega
      have hgo : ((k : Int) ≤ (l.length : Int)) := by omega
      by_cases hkl : k = l.length
      · have hb : ((k : Int) == (l.length : Int)) = true := by simp [hkl]
        have E := Lib.hid (ext_str l f l.length)
        have HF := Lib.hid (show ps ++ [(l.drop f).take (l.length - f)] = Txt.split c l [] by have := HP.out; rw [if_pos hle] at this; subst hkl; exact split_end this)
        subst hkl
        go_wp2_with (at_builtin; refine wpList_append_own _ rfl (.tmp 26) (.tmp 31) 36 rfl w.heap.size 9 i0 (.string ByteArray.empty) 1 16 Tryd.underlying36 hi hz0 hz1 hz2 rfl (by decide) _ _ _ rfl (hown.alloc _) ⟨wr.heap.size, 0, none⟩ 1 1 [.string ((str l).extract f l.length)] rfl rfl (cell_one_new _ _ _) ?c2 ?c3 ?c4 ?c5 ?_)
        case c2 => intro u hu; simp at hu; subst hu; rfl
        case c3 => unfold maxLen; omega
        case c4 => omega
        case c5 => have := hbel.size; simp; omega
        intro v' w1 hown1 hgrow1 _
        have hb1 := Below.grown (hbel.alloc hbel.size (.cells #[.string ((str l).extract f l.length)] 9)) hgrow1 (by have := hbel.size; simp; omega) (fun g hg => (hown.lt g hg).1)
        have hown2 : w1.ownsRow w.heap.size 9 1 v' (ps ++ [(l.drop f).take (l.length - f)]).length ((ps ++ [(l.drop f).take (l.length - f)]).map fun p => Value.string (str p)) := by
          have h := hown1
          rw [E.out] at h
          simpa using h
        clear hown hown1 hgrow1 hbel
        go_wp2_with fail
        go_roundg (l.length + 1 - (l.length + 1))
        case measure => omega
        case rel => exact ⟨l.length + 1, l.length + 1, _, by omega, by omega, rfl, rfl, rfl, by simp; omega, hown2, hb1, by rw [if_neg (by omega)]; exact HF.out⟩
      · have hlt : k < l.length := by omega
        have hb : ((k : Int) == (l.length : Int)) = false := by simp; omega
        have E := Lib.hid (ext_str l f k)
        by_cases hc : l[k] = c
        · have hgs : (str l)[k]'(by rw [str_size]; exact hlt) = l[k] := get_str l k _
          have HF := Lib.hid (show (ps ++ [(l.drop f).take (k - f)]) ++ Txt.split c (l.drop (k + 1)) [] = Txt.split c l [] by have := HP.out; rw [if_pos hle] at this; exact split_hit hlt hc this)
          go_wp2_with (at_builtin; refine wpList_append_own _ rfl (.tmp 26) (.tmp 31) 36 rfl w.heap.size 9 i0 (.string ByteArray.empty) 1 16 Tryd.underlying36 hi hz0 hz1 hz2 rfl (by decide) _ _ _ rfl (hown.alloc _) ⟨wr.heap.size, 0, none⟩ 1 1 [.string ((str l).extract f k)] rfl rfl (cell_one_new _ _ _) ?c2 ?c3 ?c4 ?c5 ?_)
          case c2 => intro u hu; simp at hu; subst hu; rfl
          case c3 => unfold maxLen; omega
          case c4 => omega
          case c5 => have := hbel.size; simp; omega
          intro v' w1 hown1 hgrow1 _
          have hb1 := Below.grown (hbel.alloc hbel.size (.cells #[.string ((str l).extract f k)] 9)) hgrow1 (by have := hbel.size; simp; omega) (fun g hg => (hown.lt g hg).1)
          have hown2 : w1.ownsRow w.heap.size 9 1 v' (ps ++ [(l.drop f).take (k - f)]).length ((ps ++ [(l.drop f).take (k - f)]).map fun p => Value.string (str p)) := by
            have h := hown1
            rw [E.out] at h
            simpa using h
          clear hown hown1 hgrow1 hbel
          go_wp2_with fail
          go_roundg (l.length + 1 - (k + 1))
          case measure => omega
          case rel => exact ⟨k + 1, k + 1, _, by omega, by omega, rfl, rfl, rfl, by simp; omega, hown2, hb1, by rw [if_pos (by omega), Nat.sub_self, List.take_zero]; exact HF.out⟩
        · have hgs : (str l)[k]'(by rw [str_size]; exact hlt) = l[k] := get_str l k _
          have hcb : (((l[k]).toNat : Int) == (c.toNat : Int)) = false := by
            simp
            intro h
            exact hc (UInt8.toNat_inj.1 (by omega))
          have HF := Lib.hid (show ps ++ Txt.split c (l.drop (k + 1)) ((l.drop f).take (k + 1 - f)) = Txt.split c l [] by have := HP.out; rw [if_pos hle] at this; exact split_miss hlt hf hc this)
          clear hc
          go_wp2_with fail
          go_roundg (l.length + 1 - (k + 1))
          case measure => omega
          case rel => exact ⟨k + 1, f, ps, by omega, by omega, rfl, rfl, rfl, by omega, hown, hbel, by rw [if_pos (by omega)]; exact HF.out⟩

end Go.Proofs.YtfhcakpmlppbkaaDoor

namespace Go.Proofs.YtfhcakpmlppbkaaDoor.Sets
open Go.RowKit

def wd (s : Int × Int) : List UInt8 := if s.1 < s.2 then Txt.dec s.1 ++ [46, 46] ++ Txt.dec s.2 else Txt.dec s.1
def txt (xs : L) : List UInt8 := if xs = [] then [45] else Lib.join (xs.map wd) [44]
theorem wd_len (s : Int × Int) : (wd s).length ≤ 40 := by
  have a := Txt.dec_length s.1
  have b := Txt.dec_length s.2
  unfold wd
  split <;> simp <;> omega
def J (ps : List (List UInt8)) (k : Nat) : List UInt8 := Lib.join (ps.take k) [44]
theorem J_first {ps : List (List UInt8)} (h : 0 < ps.length) : J ps 1 = ps[0] := by
  cases ps with
  | nil => simp at h
  | cons x r => simp [J, Lib.join_one]
theorem J_next {ps : List (List UInt8)} {k : Nat} (h0 : 0 < k) (h : k < ps.length) : J ps (k + 1) = J ps k ++ [44] ++ ps[k] := by
  cases ps with
  | nil => simp at h
  | cons x r =>
    obtain ⟨j, rfl⟩ : ∃ j, k = j + 1 := ⟨k - 1, by omega⟩
    have hj : j < r.length := by simpa using h
    unfold J
    rw [List.take_succ_cons, List.take_succ_cons, Lib.join_cons, Lib.join_cons, Lib.joinTail_take_succ [44] r j r[j] (List.getElem?_eq_getElem hj)]
    simp [List.append_assoc]
theorem J_len {ps : List (List UInt8)} (h : ∀ p ∈ ps, p.length ≤ 40) : ∀ k, k ≤ ps.length → (J ps k).length ≤ 41 * k := by
  intro k
  induction k with
  | zero => intro _; simp [J, Lib.join_nil]
  | succ k ih =>
    intro hk
    have i := ih (by omega)
    have p := h ps[k] (List.getElem_mem (by omega))
    by_cases h0 : k = 0
    · subst h0
      rw [J_first (by omega)]
      omega
    · rw [J_next (by omega) (by omega)]
      simp
      omega
theorem J_all (ps : List (List UInt8)) : J ps ps.length = Lib.join ps [44] := by simp [J]

set_option maxHeartbeats 1000000 in
theorem spec_join (ps : List (List UInt8)) (g cap : Nat) (hp : ps.length ≤ 300) (h40 : ∀ p ∈ ps, p.length ≤ 40) (w : World) (_hg : g < w.heap.size) (hc : ∀ j (hj : j < ps.length), w.cell? ⟨g, j, none⟩ = some (.string (str ps[j]))) :
    Calls Tryd.prog 29 #[.slice (some ⟨g, 0, none⟩) ps.length cap, .string ⟨#[44]⟩] w (Tx (Lib.join ps [44]) w) := by
  have HC := Lib.hid hc
  have H4 := Lib.hid h40
  clear hc h40
  go_enter Tryd.func29, Tryd.ntmps29
  go_wp2_with fail
  go_loopg [5, 6] ps.length (fun m o i wr => ∃ k : Nat, k ≤ ps.length ∧ m = ps.length - k ∧ i = .int .i64 k ∧ o = .string (str (J ps k)) ∧ Below w.heap.size w wr)
  case atStart => exact ⟨0, by omega, by omega, rfl, rfl, Below.refl _ _⟩
  case round =>
    obtain ⟨k, hk, hm, rfl, rfl, hb⟩ := hrel
    subst hm
    by_cases hlt : k < ps.length
    · have cc := cell_later hb (HC.out k hlt)
      have s1 : (str (J ps k)).size ≤ 12400 := by rw [str_size]; have := J_len H4.out k hk; omega
      have s2 : (str ps[k]).size ≤ 40 := by rw [str_size]; exact H4.out _ (List.getElem_mem hlt)
      by_cases h0 : k = 0
      · have hd : decide (0 < k) = false := by simp [h0]
        have E := Lib.hid (show str (J ps k) ++ str ps[k] = str (J ps (k + 1)) by
          subst h0
          rw [str_add, J_first hlt]
          simp [J, Lib.join_nil])
        clear h0
        go_wp2_with fail
        go_roundg (ps.length - (k + 1))
        case measure => omega
        case rel => exact ⟨k + 1, by omega, by omega, by go_num, congrArg Value.string E.out, hb⟩
      · have h0' : 0 < k := by omega
        have E := Lib.hid (show str (J ps k) ++ (⟨#[44]⟩ : ByteArray) ++ str ps[k] = str (J ps (k + 1)) by
          rw [show (⟨#[44]⟩ : ByteArray) = str [44] from rfl, str_add, str_add, J_next h0' hlt])
        have s3 : (str (J ps k) ++ (⟨#[44]⟩ : ByteArray)).size ≤ 12401 := by
          rw [show (⟨#[44]⟩ : ByteArray) = str [44] from rfl, str_add, str_size]
          have := J_len H4.out k hk
          simp
          omega
        clear h0
        go_wp2_with fail
        go_roundg (ps.length - (k + 1))
        case measure => omega
        case rel => exact ⟨k + 1, by omega, by omega, by go_num, congrArg Value.string E.out, hb⟩
    · have e : k = ps.length := by omega
      have E := Lib.hid (show J ps k = Lib.join ps [44] by rw [e, J_all])
      go_wp2_with fail
      go_ret
      exact ⟨congrArg (fun l => Ending.returned (.string (str l))) E.out, hb⟩

end Go.Proofs.YtfhcakpmlppbkaaDoor.Sets
