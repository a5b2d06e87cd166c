/- Texts of a claim in one file: Text TextW. -/
import Derived.Test.YtfhcakpmlppbkaaDoorGrpAa
import Derived.Test.YtfhcakpmlppbkaaDoorGrpAf
import Derived.Laws.IdiomStrings
import Derived.Laws.BytesArg
import Derived.Deep.RegionWith
import Derived.Deep.RegionHeld3
namespace Go.Proofs.YtfhcakpmlppbkaaDoor.Txt

def dg (n : Int) : UInt8 := UInt8.ofNat (48 + n % 10).toNat
/-- The decimal text of a number, by a number of digits that suffices. -/
def decF : Nat → Int → List UInt8
  | 0, _ => []
  | k + 1, n => if n < 10 then [dg n] else decF k (n / 10) ++ [dg n]
def dec (n : Int) : List UInt8 := decF 19 n
def pad (k : Nat) (l : List UInt8) : List UInt8 := List.replicate (k - l.length) 48 ++ l
def p2 (n : Int) : List UInt8 := [dg (n / 10), dg n]
def p4 (n : Int) : List UInt8 := [dg (n / 1000), dg (n / 100), dg (n / 10), dg n]
def date (y m d : Int) : List UInt8 := p4 y ++ [45] ++ p2 m ++ [45] ++ p2 d

theorem decF_length (k : Nat) : ∀ n, (decF k n).length ≤ k := by
  induction k with
  | zero => intro n; simp [decF]
  | succ k ih =>
    intro n
    simp only [decF]
    split
    · simp
    · have := ih (n / 10); simp; omega
theorem dec_length (n : Int) : (dec n).length ≤ 19 := decF_length 19 n
theorem decF_pos (k : Nat) (n : Int) : 1 ≤ (decF (k + 1) n).length := by
  simp only [decF]; split <;> simp

theorem dg_0 : dg 0 = 48 := rfl
theorem dg_lt {n : Int} : (dg n).toNat = 48 + (n % 10).toNat := by
  unfold dg
  have h1 := Int.emod_nonneg n (show (10 : Int) ≠ 0 by decide)
  have h2 := Int.emod_lt_of_pos n (show (0 : Int) < 10 by decide)
  simp
  omega

theorem pad2 (n : Int) (h0 : 0 ≤ n) (h1 : n < 100) : pad 2 (dec n) = p2 n := by
  by_cases h : n < 10
  · have e : dec n = [dg n] := by simp [dec, decF, h]
    have e2 : n / 10 = 0 := by omega
    rw [e]; simp [pad, p2, e2, dg_0]
  · have e : dec n = [dg (n / 10), dg n] := by simp [dec, decF, h, show n / 10 < 10 by omega]
    rw [e]; simp [pad, p2]
theorem pad4 (n : Int) (h0 : 0 ≤ n) (h1 : n < 10000) : pad 4 (dec n) = p4 n := by
  have q1 : n / 10 / 10 = n / 100 := by omega
  have q2 : n / 100 / 10 = n / 1000 := by omega
  by_cases h : n < 10
  · have e : dec n = [dg n] := by simp [dec, decF, h]
    have e1 : n / 10 = 0 := by omega
    have e2 : n / 100 = 0 := by omega
    have e3 : n / 1000 = 0 := by omega
    rw [e]; simp [pad, p4, e1, e2, e3, dg_0]
  · by_cases h' : n < 100
    · have e : dec n = [dg (n / 10), dg n] := by simp [dec, decF, h, show n / 10 < 10 by omega]
      have e2 : n / 100 = 0 := by omega
      have e3 : n / 1000 = 0 := by omega
      rw [e]; simp [pad, p4, e2, e3, dg_0]
    · by_cases h'' : n < 1000
      · have e : dec n = [dg (n / 100), dg (n / 10), dg n] := by simp [dec, decF, h, show ¬ n / 10 < 10 by omega, show n / 100 < 10 by omega, q1]
        have e3 : n / 1000 = 0 := by omega
        rw [e]; simp [pad, p4, e3, dg_0]
      · have e : dec n = [dg (n / 1000), dg (n / 100), dg (n / 10), dg n] := by simp [dec, decF, h, show ¬ n / 10 < 10 by omega, show ¬ n / 100 < 10 by omega, show n / 1000 < 10 by omega, q1, q2]
        rw [e]; simp [pad, p4]

/-- The digits of a text, read as spec reads them: other bytes are passed over, at most nine bytes. -/
def isDg (c : UInt8) : Bool := 48 ≤ c.toNat && c.toNat ≤ 57
def plain (l : List UInt8) : Int := l.foldl (fun n c => if isDg c then 10 * n + (c.toNat - 48 : Int) else n) 0
def split (by_ : UInt8) : List UInt8 → List UInt8 → List (List UInt8)
  | [], cur => [cur]
  | c :: r, cur => if c = by_ then cur :: split by_ r [] else split by_ r (cur ++ [c])

theorem isDg_dg (n : Int) : isDg (dg n) = true := by
  unfold isDg
  rw [dg_lt]
  have h1 := Int.emod_nonneg n (show (10 : Int) ≠ 0 by decide)
  have h2 := Int.emod_lt_of_pos n (show (0 : Int) < 10 by decide)
  simp; omega
theorem dg_val (n : Int) : ((dg n).toNat : Int) - 48 = n % 10 := by
  rw [dg_lt]
  have h1 := Int.emod_nonneg n (show (10 : Int) ≠ 0 by decide)
  omega
theorem dg_ne (n : Int) : dg n ≠ 45 := by
  intro h
  have := congrArg UInt8.toNat h
  rw [dg_lt] at this
  simp at this
  omega
theorem plain_p2 (n : Int) (h0 : 0 ≤ n) (h1 : n < 100) : plain (p2 n) = n := by
  simp only [plain, p2, List.foldl, isDg_dg, if_true, dg_val]
  omega
theorem plain_p4 (n : Int) (h0 : 0 ≤ n) (h1 : n < 10000) : plain (p4 n) = n := by
  simp only [plain, p4, List.foldl, isDg_dg, if_true, dg_val]
  omega
theorem plain_snoc (l : List UInt8) (c : UInt8) : plain (l ++ [c]) = if isDg c then 10 * plain l + (c.toNat - 48 : Int) else plain l := by
  simp [plain, List.foldl_append]
theorem plain_bd (l : List UInt8) : 0 ≤ plain l ∧ plain l < 10 ^ l.length := by
  have h : ∀ (r : List UInt8), 0 ≤ plain r.reverse ∧ plain r.reverse < 10 ^ r.length := by
    intro r
    induction r with
    | nil => simp [plain]
    | cons c r ih =>
      rw [List.reverse_cons, plain_snoc, List.length_cons, Int.pow_succ]
      split
      · rename_i hd
        unfold isDg at hd
        simp at hd
        omega
      · omega
  have := h l.reverse
  simpa using this
theorem plain_bd9 (l : List UInt8) (h : l.length ≤ 9) : 0 ≤ plain l ∧ plain l ≤ 999999999 := by
  have := plain_bd l
  have h2 : (10 : Int) ^ l.length ≤ 10 ^ 9 := by
    have h3 : (10 : Nat) ^ l.length ≤ 10 ^ 9 := Nat.pow_le_pow_right (by decide) h
    exact_mod_cast h3
  omega
theorem split_date (y m d : Int) : split 45 (date y m d) [] = [p4 y, p2 m, p2 d] := by
  simp [date, p4, p2, split, dg_ne]

end Go.Proofs.YtfhcakpmlppbkaaDoor.Txt

namespace Go.Proofs.YtfhcakpmlppbkaaDoor
open Go.RowKit

/-- A list of bytes as a string. -/
def str (l : List UInt8) : ByteArray := ⟨l.toArray⟩
theorem str_size (l : List UInt8) : (str l).size = l.length := by simp [str, ByteArray.size]
theorem str_add (a b : List UInt8) : str a ++ str b = str (a ++ b) := by
  simp [str, ByteArray.ext_iff]

/-- What a call leaves that answers a text. -/
def Tx (l : List UInt8) (w : World) (e : Ending) (w' : World) : Prop := e = .returned (.string (str l)) ∧ Below w.heap.size w w'

theorem conv1 (n : Int) (h0 : 0 ≤ n) (h1 : n < 10) : ∀ (wx : World) (g : Nat), wx.cell? ⟨g, 0, none⟩ = some (.int .u8 (48 + n)) →
    (convert 73 9 (.slice (some ⟨g, 0, none⟩) 1 1)).run Tryd.prog wx = .ok (.string (str [Txt.dg n])) wx := by
  intro wx g hc
  have h := run_convert_bytes_arg wx 73 5 Tryd.underlying73 Tryd.underlying5 g 0 1 1 [48 + n] rfl (by
    intro i hi
    obtain rfl : i = 0 := by omega
    simpa using hc) 9 Tryd.underlying9
  rw [h]
  have e : n % 10 = n := by omega
  simp [strOfNums, str, Txt.dg, e]

set_option maxHeartbeats 800000 in
theorem spec_decF (k : Nat) : ∀ (n : Int) (w : World), 0 ≤ n → Hid (n ≤ 9223372036854775807) → Hid (n < 10 ^ (k + 1)) → k ≤ 18 → Calls Tryd.prog 27 #[.int .i64 n] w (Tx (Txt.decF (k + 1) n) w) := by
  induction k with
  | zero =>
    intro n w h0 _ h1 _
    have h2 : n < 10 := by have := h1.out; simpa using this
    clear h1
    have hcv := conv1 n h0 h2
    have E := Lib.hid (show [Txt.dg n] = Txt.decF 1 n by simp [Txt.decF, h2])
    go_enter Tryd.func27, Tryd.ntmps27
    go_wp2_with fail
    go_ret
    exact ⟨congrArg (fun l => Ending.returned (.string (str l))) E.out, (Below.refl _ _).alloc (Nat.le_refl _) _⟩
  | succ k ih =>
    intro n w h0 hnb h1 hk
    by_cases h2 : n < 10
    · clear h1
      have hcv := conv1 n h0 h2
      have E := Lib.hid (show [Txt.dg n] = Txt.decF (k + 1 + 1) n by simp [Txt.decF, h2])
      clear ih
      go_enter Tryd.func27, Tryd.ntmps27
      go_wp2_with fail
      go_ret
      exact ⟨congrArg (fun l => Ending.returned (.string (str l))) E.out, (Below.refl _ _).alloc (Nat.le_refl _) _⟩
    · have hq : Hid (n / 10 < 10 ^ (k + 1)) := Lib.hid (by
        have := h1.out
        rw [Int.pow_succ] at this
        omega)
      have IH := Lib.hid (fun wx => ih (n / 10) wx (by omega) (Lib.hid (by have := hnb.out; omega)) hq (by omega))
      clear ih h1 hq
      have m0 := Int.emod_nonneg n (show (10 : Int) ≠ 0 by decide)
      have m1 := Int.emod_lt_of_pos n (show (0 : Int) < 10 by decide)
      have hcv := conv1 (n % 10) m0 m1
      have ed : Txt.dg (n % 10) = Txt.dg n := by simp [Txt.dg]
      rw [ed] at hcv
      have E := Lib.hid (show str (Txt.decF (k + 1) (n / 10)) ++ str [Txt.dg n] = str (Txt.decF (k + 1 + 1) n) by rw [str_add]; simp [Txt.decF, h2])
      have sz1 : (str (Txt.decF (k + 1) (n / 10))).size ≤ 19 := by rw [str_size]; have := Txt.decF_length (k + 1) (n / 10); omega
      have sz2 : (str [Txt.dg n]).size ≤ 1 := by rw [str_size]; simp
      clear ed
      have d0 : 0 ≤ n / 10 := by omega
      have nb : n ≤ 9223372036854775807 := hnb.out
      have w1 : IntKind.i64.wrap (n.tdiv 10) = n / 10 := by rw [Int.tdiv_eq_ediv_of_nonneg h0]; exact IntWalk.i64_in _ ⟨by omega, by omega⟩
      have w2 : n.tmod 10 = n % 10 := Int.tmod_eq_emod_of_nonneg h0
      have w3 : IntKind.i64.wrap (48 + n % 10) = 48 + n % 10 := IntWalk.i64_in _ ⟨by omega, by omega⟩
      have w4 : IntKind.u8.wrap (48 + n % 10) = 48 + n % 10 := IntWalk.u8_in _ ⟨by omega, by omega⟩
      clear nb hnb
      go_enter Tryd.func27, Tryd.ntmps27
      go_wp2_with fail
      go_region_with (go_at_call 27; refine (IH.out _).mono ?_; rintro e w1 ⟨rfl, hb⟩; obtain ⟨hc, hf⟩ := bcell hb)
      all_goals
        go_wp2_with fail
        go_ret
        refine ⟨congrArg (fun b => Ending.returned (.string b)) E.out, ?_⟩
        first
          | exact (Below.trans (below_drewN (Below.refl _ _) 1) hb).alloc hb.size _
          | exact (Below.trans (below_drewN ((Below.refl _ _).alloc (Nat.le_refl _) _) 1) (hb.mono (by simp)))

theorem spec_dec (n : Int) (h0 : 0 ≤ n) (h1 : n ≤ 9223372036854775807) (w : World) : Calls Tryd.prog 27 #[.int .i64 n] w (Tx (Txt.dec n) w) :=
  spec_decF 18 n w h0 (Lib.hid h1) (Lib.hid (by omega)) (by omega)

theorem valid_bd {f : Bool} {y m d : Int} (h : Cal.valid f y m d) : (1 ≤ y ∧ y ≤ 2000) ∧ (1 ≤ m ∧ m ≤ 12) ∧ (1 ≤ d ∧ d ≤ 31) := by
  have := Cal.mlen_bd f y m
  obtain ⟨a, b, c, d, e, g⟩ := h
  exact ⟨⟨a, b⟩, ⟨c, d⟩, e, by omega⟩

theorem cell_later {w wx : World} {a : Addr} {v : Value} (hb : Below w.heap.size w wx) (h : w.cell? a = some v) : wx.cell? a = some v := (hb.cell (World.block_lt_of_cell? _ _ h)).trans h
theorem below_step {w w1 w2 : World} (h : Below w.heap.size w w1) (hb : Below w1.heap.size w1 w2) : Below w.heap.size w w2 := h.trans (hb.mono h.size)

theorem date_str (y m d : Int) : str (Txt.p4 y) ++ ⟨#[45]⟩ ++ str (Txt.p2 m) ++ ⟨#[45]⟩ ++ str (Txt.p2 d) = str (Txt.date y m d) := by
  rw [show (⟨#[45]⟩ : ByteArray) = str [45] from rfl]
  simp only [str_add]
  rfl

end Go.Proofs.YtfhcakpmlppbkaaDoor
