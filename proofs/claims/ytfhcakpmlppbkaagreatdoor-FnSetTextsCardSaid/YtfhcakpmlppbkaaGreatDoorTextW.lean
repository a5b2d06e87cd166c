/- Contracts of spec's decimal texts. -/
import Derived.Test.YtfhcakpmlppbkaaGreatDoorText
import Derived.Test.YtfhcakpmlppbkaaGreatDoorDaysE
import Derived.Laws.IdiomStrings
import Derived.Laws.BytesArg
import Derived.Deep.RegionWith
import Derived.Deep.RegionHeld3
namespace Go.Proofs.YtfhcakpmlppbkaaGreatDoor
open Go.RowKit

/-- A list of bytes as a string. -/
def str (l : List UInt8) : ByteArray := ⟨l.toArray⟩
theorem str_size (l : List UInt8) : (str l).size = l.length := by simp [str, ByteArray.size]
theorem str_add (a b : List UInt8) : str a ++ str b = str (a ++ b) := by
  simp [str, ByteArray.ext_iff]

/-- What a call leaves that answers a text. -/
def Tx (l : List UInt8) (w : World) (e : Ending) (w' : World) : Prop := e = .returned (.string (str l)) ∧ Below w.heap.size w w'

theorem conv1 (n : Int) (h0 : 0 ≤ n) (h1 : n < 10) : ∀ (wx : World) (g : Nat), wx.cell? ⟨g, 0, none⟩ = some (.int .u8 (48 + n)) →
    (convert 22 9 (.slice (some ⟨g, 0, none⟩) 1 1)).run Tryz.prog wx = .ok (.string (str [Txt.dg n])) wx := by
  intro wx g hc
  have h := run_convert_bytes_arg wx 22 5 Tryz.underlying22 Tryz.underlying5 g 0 1 1 [48 + n] rfl (by
    intro i hi
    obtain rfl : i = 0 := by omega
    simpa using hc) 9 Tryz.underlying9
  rw [h]
  have e : n % 10 = n := by omega
  simp [strOfNums, str, Txt.dg, e]

set_option maxHeartbeats 800000 in
theorem spec_decF (k : Nat) : ∀ (n : Int) (w : World), 0 ≤ n → Hid (n ≤ 9223372036854775807) → Hid (n < 10 ^ (k + 1)) → k ≤ 18 → Calls Tryz.prog 69 #[.int .i64 n] w (Tx (Txt.decF (k + 1) n) w) := by
  induction k with
  | zero =>
    intro n w h0 _ h1 _
    have h2 : n < 10 := by have := h1.out; simpa using this
    clear h1
    have hcv := conv1 n h0 h2
    have E := Lib.hid (show [Txt.dg n] = Txt.decF 1 n by simp [Txt.decF, h2])
    go_enter Tryz.func69, Tryz.ntmps69
    go_wp2_with fail
    go_ret
    exact ⟨congrArg (fun l => Ending.returned (.string (str l))) E.out, (Below.refl _ _).alloc (Nat.le_refl _) _⟩
  | succ k ih =>
    intro n w h0 hnb h1 hk
    by_cases h2 : n < 10
    · clear h1
      have hcv := conv1 n h0 h2
      have E := Lib.hid (show [Txt.dg n] = Txt.decF (k + 1 + 1) n by simp [Txt.decF, h2])
      clear ih
      go_enter Tryz.func69, Tryz.ntmps69
      go_wp2_with fail
      go_ret
      exact ⟨congrArg (fun l => Ending.returned (.string (str l))) E.out, (Below.refl _ _).alloc (Nat.le_refl _) _⟩
    · have hq : Hid (n / 10 < 10 ^ (k + 1)) := Lib.hid (by
        have := h1.out
        rw [Int.pow_succ] at this
        omega)
      have IH := Lib.hid (fun wx => ih (n / 10) wx (by omega) (Lib.hid (by have := hnb.out; omega)) hq (by omega))
      clear ih h1 hq
      have m0 := Int.emod_nonneg n (show (10 : Int) ≠ 0 by decide)
      have m1 := Int.emod_lt_of_pos n (show (0 : Int) < 10 by decide)
      have hcv := conv1 (n % 10) m0 m1
      have ed : Txt.dg (n % 10) = Txt.dg n := by simp [Txt.dg]
      rw [ed] at hcv
      have E := Lib.hid (show str (Txt.decF (k + 1) (n / 10)) ++ str [Txt.dg n] = str (Txt.decF (k + 1 + 1) n) by rw [str_add]; simp [Txt.decF, h2])
      have sz1 : (str (Txt.decF (k + 1) (n / 10))).size ≤ 19 := by rw [str_size]; have := Txt.decF_length (k + 1) (n / 10); omega
      have sz2 : (str [Txt.dg n]).size ≤ 1 := by rw [str_size]; simp
      clear ed
      have d0 : 0 ≤ n / 10 := by omega
      have nb : n ≤ 9223372036854775807 := hnb.out
      have w1 : IntKind.i64.wrap (n.tdiv 10) = n / 10 := by rw [Int.tdiv_eq_ediv_of_nonneg h0]; exact IntWalk.i64_in _ ⟨by omega, by omega⟩
      have w2 : n.tmod 10 = n % 10 := Int.tmod_eq_emod_of_nonneg h0
      have w3 : IntKind.i64.wrap (48 + n % 10) = 48 + n % 10 := IntWalk.i64_in _ ⟨by omega, by omega⟩
      have w4 : IntKind.u8.wrap (48 + n % 10) = 48 + n % 10 := IntWalk.u8_in _ ⟨by omega, by omega⟩
      clear nb hnb
      go_enter Tryz.func69, Tryz.ntmps69
      go_wp2_with fail
      go_region_with (go_at_call 69; refine (IH.out _).mono ?_; rintro e w1 ⟨rfl, hb⟩; obtain ⟨hc, hf⟩ := bcell hb)
      all_goals
        go_wp2_with fail
        go_ret
        refine ⟨congrArg (fun b => Ending.returned (.string b)) E.out, ?_⟩
        first
          | exact (Below.trans (below_drewN (Below.refl _ _) 1) hb).alloc hb.size _
          | exact (Below.trans (below_drewN ((Below.refl _ _).alloc (Nat.le_refl _) _) 1) (hb.mono (by simp)))

theorem spec_dec (n : Int) (h0 : 0 ≤ n) (h1 : n ≤ 9223372036854775807) (w : World) : Calls Tryz.prog 69 #[.int .i64 n] w (Tx (Txt.dec n) w) :=
  spec_decF 18 n w h0 (Lib.hid h1) (Lib.hid (by omega)) (by omega)

theorem valid_bd {f : Bool} {y m d : Int} (h : Cal.valid f y m d) : (1 ≤ y ∧ y ≤ 2000) ∧ (1 ≤ m ∧ m ≤ 12) ∧ (1 ≤ d ∧ d ≤ 31) := by
  have := Cal.mlen_bd f y m
  obtain ⟨a, b, c, d, e, g⟩ := h
  exact ⟨⟨a, b⟩, ⟨c, d⟩, e, by omega⟩

theorem cell_later {w wx : World} {a : Addr} {v : Value} (hb : Below w.heap.size w wx) (h : w.cell? a = some v) : wx.cell? a = some v := (hb.cell (World.block_lt_of_cell? _ _ h)).trans h
theorem below_step {w w1 w2 : World} (h : Below w.heap.size w w1) (hb : Below w1.heap.size w1 w2) : Below w.heap.size w w2 := h.trans (hb.mono h.size)

theorem date_str (y m d : Int) : str (Txt.p4 y) ++ ⟨#[45]⟩ ++ str (Txt.p2 m) ++ ⟨#[45]⟩ ++ str (Txt.p2 d) = str (Txt.date y m d) := by
  rw [show (⟨#[45]⟩ : ByteArray) = str [45] from rfl]
  simp only [str_add]
  rfl

end Go.Proofs.YtfhcakpmlppbkaaGreatDoor
