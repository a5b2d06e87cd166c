/- laws' lists of texts: szStringS, toStringS, eqStringS, likeTexts9, markText, markStringS, heldStringS. -/
import Derived.Test.YtdpbikephjnndaaWrdF
import Derived.Test.YtdpbikephjnndaaIntR
import Derived.Laws.BytesArg
import Derived.Laws.IdiomStrings
namespace Go.Proofs.Ytdpbikephjnndaa.Wrd
open Go.RowKit

/-- The slice is a row of texts of the call's own, in a block from B on and below U. -/
def RowS (w : World) (B U : Nat) (A : Option Addr) (ps : List (List UInt8)) : Prop :=
  U ≤ w.heap.size ∧ (0 < ps.length → ∃ g off cs, A = some ⟨g, off, none⟩ ∧ B ≤ g ∧ g < U ∧ Blk w g 9 cs ∧ ∀ k (h : k < ps.length), cs[off + k]? = some (.string (str ps[k])))
section
variable {w w' : World} {B U : Nat} {A : Option Addr} {ps : List (List UInt8)}
theorem RowS.rd (h : RowS w B U A ps) : RdS w A ps := fun k hk => by
  obtain ⟨g, off, cs, e, -, hg, hb, hc⟩ := h.2 (by omega)
  exact ⟨g, off, e, Nat.lt_of_lt_of_le hg h.1, by rw [hb.cell]; exact hc k hk⟩
theorem RowS.below (h : RowS w B U A ps) (hb : Below w.heap.size w w') : RowS w' B U A ps :=
  ⟨Nat.le_trans h.1 hb.size, fun hn => by
    obtain ⟨g, off, cs, e, h1, hg, hk, hc⟩ := h.2 hn
    exact ⟨g, off, cs, e, h1, hg, hk.below hb hk.lt, hc⟩⟩
theorem RowS.chg {B' U' : Nat} (h : RowS w B U A ps) (hc : Ints.Chg B' U' w w') (hd : U ≤ B' ∨ U' ≤ B) : RowS w' B U A ps :=
  ⟨Nat.le_trans h.1 hc.size, fun hn => by
    obtain ⟨g, off, cs, e, h1, hg, hk, hcell⟩ := h.2 hn
    exact ⟨g, off, cs, e, h1, hg, (hc.block g hk.lt (by omega)).trans hk, hcell⟩⟩
theorem RdS.chg {B' U' : Nat} (h : RdS w A ps) (hc : Ints.Chg B' U' w w') (hlt : ∀ g off, A = some ⟨g, off, none⟩ → g < B') : RdS w' A ps := fun k hk => by
  obtain ⟨g, off, e, hg, hcell⟩ := h k hk
  exact ⟨g, off, e, Nat.lt_of_lt_of_le hg hc.size, (World.cell?_of_block (hc.block g hg (.inl (hlt g off e)))).trans hcell⟩
theorem own_row {c : Nat} (h : w.ownsRow B 9 1 (.slice A ps.length c) ps.length (tcells ps)) : RowS w B w.heap.size A ps := by
  obtain ⟨h1, h2⟩ := h
  refine ⟨Nat.le_refl _, fun hn => ?_⟩
  rcases h2 with ⟨e, h0⟩ | ⟨g, cap, cur, e, hB, hg, hn, hm, hs, ht⟩
  · omega
  · injection e with e1 e2 e3
    subst e1
    refine ⟨g, 0, cur, rfl, hB, (Array.getElem?_eq_some_iff.1 hg).1, hg, fun k hk => ?_⟩
    have h3 : (tcells ps)[k]? = some (.string (str ps[k])) := by simp [tcells, hk]
    rw [← ht, List.getElem?_take, if_pos (by omega)] at h3
    rw [Nat.zero_add]
    simpa using h3
end

/-- A list that is not long, of texts that are not long. -/
def Short (ps : List (List UInt8)) : Prop := ps.length ≤ 1048576 ∧ ∀ p ∈ ps, p.length ≤ 1048576
theorem Short.tame {ps : List (List UInt8)} (h : Short ps) : Tame ps := ⟨by have := h.1; omega, fun p hp => by have := h.2 p hp; omega⟩
def SzO (ps : List (List UInt8)) (w : World) (e : Ending) (w' : World) : Prop := ∃ r : Int, e = .returned (.int .i64 r) ∧ -1 ≤ r ∧ r ≤ 1048576 ∧ (0 ≤ r → Short ps) ∧ w = w'
theorem SzO.mk {ps : List (List UInt8)} {w : World} {r : Int} (h0 : -1 ≤ r) (h1 : r ≤ 1048576) (h : 0 ≤ r → Short ps) : SzO ps w (.returned (.int .i64 r)) w := ⟨r, rfl, h0, h1, h, rfl⟩
set_option maxHeartbeats 1000000 in
/-- The count of what a list of texts holds: a number from 0 on tells that neither the list nor a text is long. -/
theorem laws_szS (A : Option Addr) (c : Nat) (ps : List (List UInt8)) (hn : ps.length ≤ maxLen) (hs : ∀ p ∈ ps, p.length ≤ maxLen) (l0 : Int) (h0 : 0 ≤ l0) (h1 : l0 ≤ 1048576) (w : World) (h : RdS w A ps) :
    Calls Try.prog 25 #[.slice A ps.length c, .int .i64 l0] w (SzO ps w) := by
  unfold maxLen at hn hs
  have HS := Lib.hid hs
  clear hs
  by_cases hbig : l0 - (ps.length : Int) < 0
  · go_enter Try.func25, Try.ntmps25
    go_wp2_with fail
    go_ret
    exact SzO.mk (by omega) (by omega) (fun k => absurd k (by omega))
  · have hle : ps.length ≤ 1048576 := by omega
    go_enter Try.func25, Try.ntmps25
    go_wp2_with fail
    go_loopg [1, 5] ps.length (fun m v i wr => ∃ (k : Nat) (l : Int), i = .int .i64 k ∧ v = .int .i64 l ∧ 0 ≤ l ∧ l ≤ 1048576 ∧ m = ps.length - k ∧ k ≤ ps.length ∧ Hid (∀ j (hj : j < ps.length), j < k → ps[j].length ≤ 1048576) ∧ w = wr)
    case atStart => exact ⟨0, _, rfl, rfl, by omega, by omega, by omega, by omega, Lib.hid (fun j _ h => by omega), rfl⟩
    case round =>
      obtain ⟨k, l, rfl, rfl, l0', l1', hm, hk, HK, rfl⟩ := hrel
      subst hm
      by_cases hlt : k < ps.length
      · have hgo : (k : Int) < (ps.length : Int) := by omega
        obtain ⟨g, off, rfl, hg, c0⟩ := h k hlt
        have sz := str_size ps[k]
        have hsz := HS.out _ (List.getElem_mem hlt)
        obtain ⟨L, hL⟩ : ∃ L, ps[k].length = L := ⟨_, rfl⟩
        rw [hL] at sz hsz
        have HL := Lib.hid hL
        clear hL
        generalize hp : str ps[k] = s at *
        clear hp
        by_cases hneg : l - (L : Int) < 0
        · go_wp2_with fail
          go_ret
          exact SzO.mk (by omega) (by omega) (fun k => absurd k (by omega))
        · have HN : Hid (∀ j (hj : j < ps.length), j < k + 1 → ps[j].length ≤ 1048576) := Lib.hid fun j hj h => by
            by_cases e : j = k
            · subst e; rw [HL.out]; omega
            · exact HK.out j hj (by omega)
          clear HK HL
          go_wp2_with fail
          go_roundg (ps.length - (k + 1))
          case measure => omega
          case rel => exact ⟨k + 1, _, by go_num, rfl, by omega, by omega, rfl, by omega, HN, rfl⟩
      · have e : k = ps.length := by omega
        subst e
        have hge : ¬ (ps.length : Int) < (ps.length : Int) := by omega
        go_wp2_with fail
        go_ret
        exact SzO.mk (by omega) (by omega) (fun _ => ⟨hle, fun p hp => by
          obtain ⟨i, hi, rfl⟩ := List.getElem_of_mem hp
          exact HK.out i hi hi⟩)

theorem run_make_strs (n : Nat) (hn : n ≤ 2000000) (w : World) :
    (Instr.makeSlice 33 (.int .i64 (n : Int)) (.int .i64 (n : Int))).run Try.prog w = .ok (.slice (some ⟨w.heap.size, 0, none⟩) n n) (w.alloc (.cells (madeCells #[.string ByteArray.empty] n) 9)) := by
  obtain ⟨i, hi, hz, h1, h2⟩ := info_parts info_str
  have h := run_make (P := Try.prog) w 33 9 i _ Try.underlying33 hi hz .i64 .i64 n n (by omega) (by omega) (by rw [h2]; omega) (by omega)
  rw [h1] at h
  simpa [Value.cells] using h
/-- A row that the call fills: its first k texts are those of ps. -/
def FillS (w : World) (g k n : Nat) (ps : List (List UInt8)) : Prop :=
  ∃ cs : Array Value, cs.size = n ∧ Blk w g 9 cs ∧ ∀ j (h : j < ps.length), j < k → cs[j]? = some (.string (str ps[j]))
set_option maxHeartbeats 1000000 in
theorem laws_toS (A : Option Addr) (c : Nat) (ps : List (List UInt8)) (hn : ps.length ≤ 2000000) (w : World) (h : RdS w A ps) :
    Calls Try.prog 26 #[.slice A ps.length c] w fun e w' => ∃ A' : Option Addr, e = .returned (.slice A' ps.length ps.length) ∧ RowS w' w.heap.size w'.heap.size A' ps ∧ Below w.heap.size w w' := by
  have hmk := run_make_strs ps.length hn
  go_enter Try.func26, Try.ntmps26
  go_wp2_with fail
  clear hmk
  go_loopg [4] ps.length (fun m i wr => ∃ k : Nat, k ≤ ps.length ∧ m = ps.length - k ∧ i = .int .i64 k ∧ Below w.heap.size w wr ∧ FillS wr w.heap.size k ps.length ps)
  case atStart => exact ⟨0, by omega, by omega, rfl, (Below.refl _ _).alloc (Nat.le_refl _) _, _, size_madeCells _ _, Blk.new _ _ _, fun j _ h => absurd h (by omega)⟩
  case round =>
    obtain ⟨k, hk, hm, rfl, hb, cs, hs, hbk, hf⟩ := hrel
    subst hm
    by_cases hlt : k < ps.length
    · have hgo : (k : Int) < (ps.length : Int) := by omega
      obtain ⟨g, off, rfl, hg, c0⟩ := (h.below hb) k hlt
      have d0 := (hbk.cell k).trans (Array.getElem?_eq_getElem (by omega))
      have f0 := hbk.frozen k
      have HF : Hid (FillS (wr.setCell ⟨w.heap.size, k, none⟩ (.string (str ps[k]))) w.heap.size (k + 1) ps.length ps) := Lib.hid ⟨_, by simpa using hs, hbk.set_ k _, fun j hj hjk => by
        by_cases e : j = k
        · subst e
          rw [Array.getElem?_setIfInBounds_self_of_lt (by omega)]
        · rw [Array.getElem?_setIfInBounds_ne (by omega)]
          exact hf j hj (by omega)⟩
      clear hf hbk
      generalize cs[k] = u at d0
      go_wp2_with fail
      go_roundg (ps.length - (k + 1))
      case measure => omega
      case rel => exact ⟨k + 1, by omega, by omega, by go_num, hb.setCell (Nat.le_refl _) _, HF.out⟩
    · have e : k = ps.length := by omega
      subst e
      have hge : ¬ (ps.length : Int) < (ps.length : Int) := by omega
      have HR := Lib.hid (show RowS wr w.heap.size wr.heap.size (some ⟨w.heap.size, 0, none⟩) ps from ⟨Nat.le_refl _, fun _ => ⟨w.heap.size, 0, cs, rfl, Nat.le_refl _, hbk.lt, hbk, fun k hk => by rw [Nat.zero_add]; exact hf k hk hk⟩⟩)
      clear hf
      go_wp2_with fail
      go_ret
      exact ⟨_, rfl, HR.out, hb⟩

set_option maxHeartbeats 1000000 in
theorem laws_eqS (A A' : Option Addr) (c c' : Nat) (ps : List (List UInt8)) (hn : ps.length ≤ 2000000) (w : World) (h : RdS w A ps) (h' : RdS w A' ps) :
    Calls Try.prog 27 #[.slice A ps.length c, .slice A' ps.length c'] w fun e w' => e = .returned (.bool true) ∧ Below w.heap.size w w' := by
  go_enter Try.func27, Try.ntmps27
  go_wp2_with fail
  go_loopg [5] ps.length (fun m i wr => ∃ k : Nat, k ≤ ps.length ∧ m = ps.length - k ∧ i = .int .i64 k ∧ Below w.heap.size w wr)
  case atStart => exact ⟨0, by omega, by omega, rfl, Below.refl _ _⟩
  case round =>
    obtain ⟨k, hk, hm, rfl, hb⟩ := hrel
    subst hm
    by_cases hlt : k < ps.length
    · have hgo : (k : Int) < (ps.length : Int) := by omega
      obtain ⟨g, off, rfl, hg, c0⟩ := (h.below hb) k hlt
      obtain ⟨g', off', rfl, hg', c0'⟩ := (h'.below hb) k hlt
      generalize str ps[k] = s at *
      have hbe : (s.toList == s.toList) = true := by simp
      have hbn : (s.toList != s.toList) = false := by simp
      go_wp2_with fail
      go_quiet (fail)
      go_wp2_with fail
      go_roundg (ps.length - (k + 1))
      case measure => omega
      case rel => exact ⟨k + 1, by omega, by omega, by go_num, below_drewN hb _⟩
    · have e : k = ps.length := by omega
      subst e
      have hge : ¬ (ps.length : Int) < (ps.length : Int) := by omega
      go_wp2_with fail
      go_ret
      exact ⟨rfl, hb⟩

/-! ### marks -/
theorem div10 {j : Nat} (h : ¬ j = 0) : j / 10 < j := by omega
/-- The digits of a number ahead of a text. -/
def fin (j : Nat) (t : List UInt8) : List UInt8 := if h : j = 0 then t else fin (j / 10) (UInt8.ofNat (48 + j % 10) :: t)
termination_by j
decreasing_by exact div10 h
theorem fin_zero (t : List UInt8) : fin 0 t = t := by rw [fin]; rfl
theorem fin_pos {j : Nat} (h : 0 < j) (t : List UInt8) : fin j t = fin (j / 10) (UInt8.ofNat (48 + j % 10) :: t) := by
  rw [fin, dif_neg (by omega)]
def mkL (k : Int) : List UInt8 := if k ≤ 0 then [109, 48] else 109 :: fin k.toNat []
theorem conv_one (n : Int) (wx : World) (g : Nat) (hc : wx.cell? ⟨g, 0, none⟩ = some (.int .u8 n)) :
    (convert 22 9 (.slice (some ⟨g, 0, none⟩) 1 1)).run Try.prog wx = .ok (.string (str [UInt8.ofNat n.toNat])) wx :=
  run_convert_bytes_arg wx 22 5 Try.underlying22 Try.underlying5 g 0 1 1 [n] rfl (by
    intro i hi
    obtain rfl : i = 0 := by omega
    simpa using hc) 9 Try.underlying9

/-- The texts that marking from k on leaves. -/
def mks (k : Int) (n : Nat) : List (List UInt8) := (List.range n).map fun (j : Nat) => mkL (k + (j : Int))
theorem mks_len (k : Int) (n : Nat) : (mks k n).length = n := by simp [mks]
theorem mks_get (k : Int) (n j : Nat) (h : j < (mks k n).length) : (mks k n)[j] = mkL (k + j) := by simp [mks]

end Go.Proofs.Ytdpbikephjnndaa.Wrd
