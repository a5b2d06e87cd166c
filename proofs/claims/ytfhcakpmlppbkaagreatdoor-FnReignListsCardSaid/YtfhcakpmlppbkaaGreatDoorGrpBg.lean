/- Texts of a claim in one file: TextW Split. -/
import Derived.Test.YtfhcakpmlppbkaaGreatDoorGrpBf
import Derived.Test.YtfhcakpmlppbkaaGreatDoorGrpAi
import Derived.Laws.IdiomStrings
import Derived.Laws.BytesArg
import Derived.Deep.RegionWith
import Derived.Deep.RegionHeld3
import Derived.OwnWalk
import Derived.Laws.AppendOwn
import Derived.Laws.OwnMore
import Derived.WalkSpells
namespace Go.Proofs.YtfhcakpmlppbkaaGreatDoor
open Go.RowKit

/-- A list of bytes as a string. -/
def str (l : List UInt8) : ByteArray := ⟨l.toArray⟩
theorem str_size (l : List UInt8) : (str l).size = l.length := by simp [str, ByteArray.size]
theorem str_add (a b : List UInt8) : str a ++ str b = str (a ++ b) := by
  simp [str, ByteArray.ext_iff]

/-- What a call leaves that answers a text. -/
def Tx (l : List UInt8) (w : World) (e : Ending) (w' : World) : Prop := e = .returned (.string (str l)) ∧ Below w.heap.size w w'

theorem conv1 (n : Int) (h0 : 0 ≤ n) (h1 : n < 10) : ∀ (wx : World) (g : Nat), wx.cell? ⟨g, 0, none⟩ = some (.int .u8 (48 + n)) →
    (convert 22 9 (.slice (some ⟨g, 0, none⟩) 1 1)).run Tryz.prog wx = .ok (.string (str [Txt.dg n])) wx := by
  intro wx g hc
  have h := run_convert_bytes_arg wx 22 5 Tryz.underlying22 Tryz.underlying5 g 0 1 1 [48 + n] rfl (by
    intro i hi
    obtain rfl : i = 0 := by omega
    simpa using hc) 9 Tryz.underlying9
  rw [h]
  have e : n % 10 = n := by omega
  simp [strOfNums, str, Txt.dg, e]

set_option maxHeartbeats 800000 in
theorem spec_decF (k : Nat) : ∀ (n : Int) (w : World), 0 ≤ n → Hid (n ≤ 9223372036854775807) → Hid (n < 10 ^ (k + 1)) → k ≤ 18 → Calls Tryz.prog 69 #[.int .i64 n] w (Tx (Txt.decF (k + 1) n) w) := by
  induction k with
  | zero =>
    intro n w h0 _ h1 _
    have h2 : n < 10 := by have := h1.out; simpa using this
    clear h1
    have hcv := conv1 n h0 h2
    have E := Lib.hid (show [Txt.dg n] = Txt.decF 1 n by simp [Txt.decF, h2])
    go_enter Tryz.func69, Tryz.ntmps69
    go_wp2_with fail
    go_ret
    exact ⟨congrArg (fun l => Ending.returned (.string (str l))) E.out, (Below.refl _ _).alloc (Nat.le_refl _) _⟩
  | succ k ih =>
    intro n w h0 hnb h1 hk
    by_cases h2 : n < 10
    · clear h1
      have hcv := conv1 n h0 h2
      have E := Lib.hid (show [Txt.dg n] = Txt.decF (k + 1 + 1) n by simp [Txt.decF, h2])
      clear ih
      go_enter Tryz.func69, Tryz.ntmps69
      go_wp2_with fail
      go_ret
      exact ⟨congrArg (fun l => Ending.returned (.string (str l))) E.out, (Below.refl _ _).alloc (Nat.le_refl _) _⟩
    · have hq : Hid (n / 10 < 10 ^ (k + 1)) := Lib.hid (by
        have := h1.out
        rw [Int.pow_succ] at this
        omega)
      have IH := Lib.hid (fun wx => ih (n / 10) wx (by omega) (Lib.hid (by have := hnb.out; omega)) hq (by omega))
      clear ih h1 hq
      have m0 := Int.emod_nonneg n (show (10 : Int) ≠ 0 by decide)
      have m1 := Int.emod_lt_of_pos n (show (0 : Int) < 10 by decide)
      have hcv := conv1 (n % 10) m0 m1
      have ed : Txt.dg (n % 10) = Txt.dg n := by simp [Txt.dg]
      rw [ed] at hcv
      have E := Lib.hid (show str (Txt.decF (k + 1) (n / 10)) ++ str [Txt.dg n] = str (Txt.decF (k + 1 + 1) n) by rw [str_add]; simp [Txt.decF, h2])
      have sz1 : (str (Txt.decF (k + 1) (n / 10))).size ≤ 19 := by rw [str_size]; have := Txt.decF_length (k + 1) (n / 10); omega
      have sz2 : (str [Txt.dg n]).size ≤ 1 := by rw [str_size]; simp
      clear ed
      have d0 : 0 ≤ n / 10 := by omega
      have nb : n ≤ 9223372036854775807 := hnb.out
      have w1 : IntKind.i64.wrap (n.tdiv 10) = n / 10 := by rw [Int.tdiv_eq_ediv_of_nonneg h0]; exact IntWalk.i64_in _ ⟨by omega, by omega⟩
      have w2 : n.tmod 10 = n % 10 := Int.tmod_eq_emod_of_nonneg h0
      have w3 : IntKind.i64.wrap (48 + n % 10) = 48 + n % 10 := IntWalk.i64_in _ ⟨by omega, by omega⟩
      have w4 : IntKind.u8.wrap (48 + n % 10) = 48 + n % 10 := IntWalk.u8_in _ ⟨by omega, by omega⟩
      clear nb hnb
      go_enter Tryz.func69, Tryz.ntmps69
      go_wp2_with fail
      go_region_with (go_at_call 69; refine (IH.out _).mono ?_; rintro e w1 ⟨rfl, hb⟩; obtain ⟨hc, hf⟩ := bcell hb)
      all_goals
        go_wp2_with fail
        go_ret
        refine ⟨congrArg (fun b => Ending.returned (.string b)) E.out, ?_⟩
        first
          | exact (Below.trans (below_drewN (Below.refl _ _) 1) hb).alloc hb.size _
          | exact (Below.trans (below_drewN ((Below.refl _ _).alloc (Nat.le_refl _) _) 1) (hb.mono (by simp)))

theorem spec_dec (n : Int) (h0 : 0 ≤ n) (h1 : n ≤ 9223372036854775807) (w : World) : Calls Tryz.prog 69 #[.int .i64 n] w (Tx (Txt.dec n) w) :=
  spec_decF 18 n w h0 (Lib.hid h1) (Lib.hid (by omega)) (by omega)

theorem valid_bd {f : Bool} {y m d : Int} (h : Cal.valid f y m d) : (1 ≤ y ∧ y ≤ 2000) ∧ (1 ≤ m ∧ m ≤ 12) ∧ (1 ≤ d ∧ d ≤ 31) := by
  have := Cal.mlen_bd f y m
  obtain ⟨a, b, c, d, e, g⟩ := h
  exact ⟨⟨a, b⟩, ⟨c, d⟩, e, by omega⟩

theorem cell_later {w wx : World} {a : Addr} {v : Value} (hb : Below w.heap.size w wx) (h : w.cell? a = some v) : wx.cell? a = some v := (hb.cell (World.block_lt_of_cell? _ _ h)).trans h
theorem below_step {w w1 w2 : World} (h : Below w.heap.size w w1) (hb : Below w1.heap.size w1 w2) : Below w.heap.size w w2 := h.trans (hb.mono h.size)

theorem date_str (y m d : Int) : str (Txt.p4 y) ++ ⟨#[45]⟩ ++ str (Txt.p2 m) ++ ⟨#[45]⟩ ++ str (Txt.p2 d) = str (Txt.date y m d) := by
  rw [show (⟨#[45]⟩ : ByteArray) = str [45] from rfl]
  simp only [str_add]
  rfl

end Go.Proofs.YtfhcakpmlppbkaaGreatDoor

namespace Go.Proofs.YtfhcakpmlppbkaaGreatDoor
open Go.RowKit

theorem info_str : (Tryz.prog.info? 9).map (fun i => (i.zero, i.size, i.bytes)) = some (some (.string ByteArray.empty), 1, 16) := by kernel_rfl

theorem ext_str (l : List UInt8) (f k : Nat) : (str l).extract f k = str ((l.drop f).take (k - f)) := by
  simp [str, ByteArray.ext_iff]
theorem get_str (l : List UInt8) (k : Nat) (h : k < (str l).size) : (str l)[k] = l[k]'(by rw [← str_size]; exact h) := by
  rfl

theorem split_end {c : UInt8} {l cur : List UInt8} {ps T : List (List UInt8)} (h : ps ++ Txt.split c (l.drop l.length) cur = T) : ps ++ [cur] = T := by
  simpa [Txt.split] using h
theorem split_hit {c : UInt8} {l cur : List UInt8} {ps T : List (List UInt8)} {k : Nat} (hk : k < l.length) (hc : l[k] = c) (h : ps ++ Txt.split c (l.drop k) cur = T) :
    (ps ++ [cur]) ++ Txt.split c (l.drop (k + 1)) [] = T := by
  rw [List.drop_eq_getElem_cons hk] at h
  simpa [Txt.split, hc] using h
theorem split_miss {c : UInt8} {l : List UInt8} {ps T : List (List UInt8)} {k f : Nat} (hk : k < l.length) (hf : f ≤ k) (hc : ¬ l[k] = c) (h : ps ++ Txt.split c (l.drop k) ((l.drop f).take (k - f)) = T) :
    ps ++ Txt.split c (l.drop (k + 1)) ((l.drop f).take (k + 1 - f)) = T := by
  rw [List.drop_eq_getElem_cons hk] at h
  have e : (l.drop f).take (k + 1 - f) = (l.drop f).take (k - f) ++ [l[k]] := by
    rw [show k + 1 - f = (k - f) + 1 by omega, List.take_succ_eq_append_getElem (by simp; omega)]
    simp [show f + (k - f) = k by omega]
  rw [e]
  simpa [Txt.split, hc] using h

/-- The loop that cuts: pieces ps so far, the next one begins at f. -/
def SplitLoop (c : UInt8) (l : List UInt8) (w : World) (n : Nat) (v fr i : Value) (wr : World) : Prop :=
  ∃ (k f : Nat) (ps : List (List UInt8)), k ≤ l.length + 1 ∧ f ≤ k ∧ n = l.length + 1 - k ∧ i = .int .i64 k ∧ fr = .int .i64 f ∧ ps.length ≤ k ∧
    wr.ownsRow w.heap.size 9 1 v ps.length (ps.map fun p => Value.string (str p)) ∧ Below w.heap.size w wr ∧
    (if k ≤ l.length then ps ++ Txt.split c (l.drop k) ((l.drop f).take (k - f)) = Txt.split c l [] else ps = Txt.split c l [])

/-- What a call leaves that answers some texts: a row of its own. -/
def Texts (ps : List (List UInt8)) (w : World) (e : Ending) (w' : World) : Prop :=
  ∃ v, e = .returned v ∧ w'.ownsRow w.heap.size 9 1 v ps.length (ps.map fun p => Value.string (str p)) ∧ Below w.heap.size w w'

set_option maxHeartbeats 1000000 in
theorem spec_split (c : UInt8) (l : List UInt8) (hl : l.length ≤ 2000000) (w : World) :
    Calls Tryz.prog 44 #[.string (str l), .int .u8 c.toNat] w (Texts (Txt.split c l []) w) := by
  have sz := str_size l
  obtain ⟨i0, hi, hz0, hz1, hz2⟩ := info_parts info_str
  go_enter Tryz.func44, Tryz.ntmps44
  go_wp2_with fail
  go_loopg [5, 6, 7] (l.length + 1) (fun n v fr i wr => SplitLoop c l w n v fr i wr)
  case atStart =>
    exact ⟨0, 0, [], by omega, by omega, rfl, rfl, rfl, by simp, ⟨rfl, .inr ⟨w.heap.size, 0, #[], rfl, Nat.le_refl _, heap_alloc_new w _, Nat.le_refl _, Nat.zero_le _, rfl, rfl⟩⟩, (Below.refl _ _).alloc (Nat.le_refl _) _, by simp⟩
  case round =>
    obtain ⟨k, f, ps, hk, hf, hg, rfl, rfl, hps, hown, hbel, hpart⟩ := hrel
    subst hg
    have HP := Lib.hid hpart
    clear hpart
    by_cases hend : k = l.length + 1
    · have hgo : ¬ ((k : Int) ≤ (l.length : Int)) := by omega
      have hgo' : ¬ (k ≤ l.length) := by omega
      have HE := Lib.hid (show ps = Txt.split c l [] by have := HP.out; rw [if_neg hgo'] at this; exact this)
      clear hend
      go_wp2_with fail
      go_ret
      exact ⟨_, rfl, by rw [← HE.out]; exact hown, hbel⟩
    · have hle : k ≤ l.length := by omega
      have hgo : ((k : Int) ≤ (l.length : Int)) := by omega
      by_cases hkl : k = l.length
      · have hb : ((k : Int) == (l.length : Int)) = true := by simp [hkl]
        have E := Lib.hid (ext_str l f l.length)
        have HF := Lib.hid (show ps ++ [(l.drop f).take (l.length - f)] = Txt.split c l [] by have := HP.out; rw [if_pos hle] at this; subst hkl; exact split_end this)
        subst hkl
        go_wp2_with (at_builtin; refine wpList_append_own _ rfl (.tmp 26) (.tmp 31) 57 rfl w.heap.size 9 i0 (.string ByteArray.empty) 1 16 Tryz.underlying57 hi hz0 hz1 hz2 rfl (by decide) _ _ _ rfl (hown.alloc _) ⟨wr.heap.size, 0, none⟩ 1 1 [.string ((str l).extract f l.length)] rfl rfl (cell_one_new _ _ _) ?c2 ?c3 ?c4 ?c5 ?_)
        case c2 => intro u hu; simp at hu; subst hu; rfl
        case c3 => unfold maxLen; omega
        case c4 => omega
        case c5 => have := hbel.size; simp; omega
        intro v' w1 hown1 hgrow1 _
        have hb1 := Below.grown (hbel.alloc hbel.size (.cells #[.string ((str l).extract f l.length)] 9)) hgrow1 (by have := hbel.size; simp; omega) (fun g hg => (hown.lt g hg).1)
        have hown2 : w1.ownsRow w.heap.size 9 1 v' (ps ++ [(l.drop f).take (l.length - f)]).length ((ps ++ [(l.drop f).take (l.length - f)]).map fun p => Value.string (str p)) := by
          have h := hown1
          rw [E.out] at h
          simpa using h
        clear hown hown1 hgrow1 hbel
        go_wp2_with fail
        go_roundg (l.length + 1 - (l.length + 1))
        case measure => omega
        case rel => exact ⟨l.length + 1, l.length + 1, _, by omega, by omega, rfl, rfl, rfl, by simp; omega, hown2, hb1, by rw [if_neg (by omega)]; exact HF.out⟩
      · have hlt : k < l.length := by omega
        have hb : ((k : Int) == (l.length : Int)) = false := by simp; omega
        have E := Lib.hid (ext_str l f k)
        by_cases hc : l[k] = c
        · have hgs : (str l)[k]'(by rw [str_size]; exact hlt) = l[k] := get_str l k _
          have HF := Lib.hid (show (ps ++ [(l.drop f).take (k - f)]) ++ Txt.split c (l.drop (k + 1)) [] = Txt.split c l [] by have := HP.out; rw [if_pos hle] at this; exact split_hit hlt hc this)
          go_wp2_with (at_builtin; refine wpList_append_own _ rfl (.tmp 26) (.tmp 31) 57 rfl w.heap.size 9 i0 (.string ByteArray.empty) 1 16 Tryz.underlying57 hi hz0 hz1 hz2 rfl (by decide) _ _ _ rfl (hown.alloc _) ⟨wr.heap.size, 0, none⟩ 1 1 [.string ((str l).extract f k)] rfl rfl (cell_one_new _ _ _) ?c2 ?c3 ?c4 ?c5 ?_)
          case c2 => intro u hu; simp at hu; subst hu; rfl
          case c3 => unfold maxLen; omega
          case c4 => omega
          case c5 => have := hbel.size; simp; omega
          intro v' w1 hown1 hgrow1 _
          have hb1 := Below.grown (hbel.alloc hbel.size (.cells #[.string ((str l).extract f k)] 9)) hgrow1 (by have := hbel.size; simp; omega) (fun g hg => (hown.lt g hg).1)
          have hown2 : w1.ownsRow w.heap.size 9 1 v' (ps ++ [(l.drop f).take (k - f)]).length ((ps ++ [(l.drop f).take (k - f)]).map fun p => Value.string (str p)) := by
            have h := hown1
            rw [E.out] at h
            simpa using h
          clear hown hown1 hgrow1 hbel
          go_wp2_with fail
          go_roundg (l.length + 1 - (k + 1))
          case measure => omega
          case rel => exact ⟨k + 1, k + 1, _, by omega, by omega, rfl, rfl, rfl, by simp; omega, hown2, hb1, by rw [if_pos (by omega), Nat.sub_self, List.take_zero]; exact HF.out⟩
        · have hgs : (str l)[k]'(by rw [str_size]; exact hlt) = l[k] := get_str l k _
          have hcb : (((l[k]).toNat : Int) == (c.toNat : Int)) = false := by
            simp
            intro h
            exact hc (UInt8.toNat_inj.1 (by omega))
          have HF := Lib.hid (show ps ++ Txt.split c (l.drop (k + 1)) ((l.drop f).take (k + 1 - f)) = Txt.split c l [] by have := HP.out; rw [if_pos hle] at this; exact split_miss hlt hf hc this)
          clear hc
          go_wp2_with fail
          go_roundg (l.length + 1 - (k + 1))
          case measure => omega
          case rel => exact ⟨k + 1, f, ps, by omega, by omega, rfl, rfl, rfl, by omega, hown, hbel, by rw [if_pos (by omega)]; exact HF.out⟩

end Go.Proofs.YtfhcakpmlppbkaaGreatDoor
