/- The texts of sets, and spec's. -/
import Derived.Test.YtfhcakpmlppbkaaGreatDoorSetI
import Derived.Test.YtfhcakpmlppbkaaGreatDoorSplit
import Derived.Lib.Join
namespace Go.Proofs.YtfhcakpmlppbkaaGreatDoor.Sets
open Go.RowKit

def wd (s : Int × Int) : List UInt8 := if s.1 < s.2 then Txt.dec s.1 ++ [46, 46] ++ Txt.dec s.2 else Txt.dec s.1
def txt (xs : L) : List UInt8 := if xs = [] then [45] else Lib.join (xs.map wd) [44]
theorem wd_len (s : Int × Int) : (wd s).length ≤ 40 := by
  have a := Txt.dec_length s.1
  have b := Txt.dec_length s.2
  unfold wd
  split <;> simp <;> omega
def J (ps : List (List UInt8)) (k : Nat) : List UInt8 := Lib.join (ps.take k) [44]
theorem J_first {ps : List (List UInt8)} (h : 0 < ps.length) : J ps 1 = ps[0] := by
  cases ps with
  | nil => simp at h
  | cons x r => simp [J, Lib.join_one]
theorem J_next {ps : List (List UInt8)} {k : Nat} (h0 : 0 < k) (h : k < ps.length) : J ps (k + 1) = J ps k ++ [44] ++ ps[k] := by
  cases ps with
  | nil => simp at h
  | cons x r =>
    obtain ⟨j, rfl⟩ : ∃ j, k = j + 1 := ⟨k - 1, by omega⟩
    have hj : j < r.length := by simpa using h
    unfold J
    rw [List.take_succ_cons, List.take_succ_cons, Lib.join_cons, Lib.join_cons, Lib.joinTail_take_succ [44] r j r[j] (List.getElem?_eq_getElem hj)]
    simp [List.append_assoc]
theorem J_len {ps : List (List UInt8)} (h : ∀ p ∈ ps, p.length ≤ 40) : ∀ k, k ≤ ps.length → (J ps k).length ≤ 41 * k := by
  intro k
  induction k with
  | zero => intro _; simp [J, Lib.join_nil]
  | succ k ih =>
    intro hk
    have i := ih (by omega)
    have p := h ps[k] (List.getElem_mem (by omega))
    by_cases h0 : k = 0
    · subst h0
      rw [J_first (by omega)]
      omega
    · rw [J_next (by omega) (by omega)]
      simp
      omega
theorem J_all (ps : List (List UInt8)) : J ps ps.length = Lib.join ps [44] := by simp [J]

set_option maxHeartbeats 1000000 in
theorem spec_join (ps : List (List UInt8)) (g cap : Nat) (hp : ps.length ≤ 300) (h40 : ∀ p ∈ ps, p.length ≤ 40) (w : World) (_hg : g < w.heap.size) (hc : ∀ j (hj : j < ps.length), w.cell? ⟨g, j, none⟩ = some (.string (str ps[j]))) :
    Calls Tryz.prog 71 #[.slice (some ⟨g, 0, none⟩) ps.length cap, .string ⟨#[44]⟩] w (Tx (Lib.join ps [44]) w) := by
  have HC := Lib.hid hc
  have H4 := Lib.hid h40
  clear hc h40
  go_enter Tryz.func71, Tryz.ntmps71
  go_wp2_with fail
  go_loopg [5, 6] ps.length (fun m o i wr => ∃ k : Nat, k ≤ ps.length ∧ m = ps.length - k ∧ i = .int .i64 k ∧ o = .string (str (J ps k)) ∧ Below w.heap.size w wr)
  case atStart => exact ⟨0, by omega, by omega, rfl, rfl, Below.refl _ _⟩
  case round =>
    obtain ⟨k, hk, hm, rfl, rfl, hb⟩ := hrel
    subst hm
    by_cases hlt : k < ps.length
    · have cc := cell_later hb (HC.out k hlt)
      have s1 : (str (J ps k)).size ≤ 12400 := by rw [str_size]; have := J_len H4.out k hk; omega
      have s2 : (str ps[k]).size ≤ 40 := by rw [str_size]; exact H4.out _ (List.getElem_mem hlt)
      by_cases h0 : k = 0
      · have hd : decide (0 < k) = false := by simp [h0]
        have E := Lib.hid (show str (J ps k) ++ str ps[k] = str (J ps (k + 1)) by
          subst h0
          rw [str_add, J_first hlt]
          simp [J, Lib.join_nil])
        clear h0
        go_wp2_with fail
        go_roundg (ps.length - (k + 1))
        case measure => omega
        case rel => exact ⟨k + 1, by omega, by omega, by go_num, congrArg Value.string E.out, hb⟩
      · have h0' : 0 < k := by omega
        have E := Lib.hid (show str (J ps k) ++ (⟨#[44]⟩ : ByteArray) ++ str ps[k] = str (J ps (k + 1)) by
          rw [show (⟨#[44]⟩ : ByteArray) = str [44] from rfl, str_add, str_add, J_next h0' hlt])
        have s3 : (str (J ps k) ++ (⟨#[44]⟩ : ByteArray)).size ≤ 12401 := by
          rw [show (⟨#[44]⟩ : ByteArray) = str [44] from rfl, str_add, str_size]
          have := J_len H4.out k hk
          simp
          omega
        clear h0
        go_wp2_with fail
        go_roundg (ps.length - (k + 1))
        case measure => omega
        case rel => exact ⟨k + 1, by omega, by omega, by go_num, congrArg Value.string E.out, hb⟩
    · have e : k = ps.length := by omega
      have E := Lib.hid (show J ps k = Lib.join ps [44] by rw [e, J_all])
      go_wp2_with fail
      go_ret
      exact ⟨congrArg (fun l => Ending.returned (.string (str l))) E.out, hb⟩

end Go.Proofs.YtfhcakpmlppbkaaGreatDoor.Sets
