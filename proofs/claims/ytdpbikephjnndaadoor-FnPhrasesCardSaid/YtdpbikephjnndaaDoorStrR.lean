/- laws' lists of texts: szStringS, toStringS, eqStringS, likeTexts9, markText, markStringS, heldStringS. -/
import Derived.Test.YtdpbikephjnndaaDoorWrdF
import Derived.Test.YtdpbikephjnndaaDoorIntR
import Derived.Laws.BytesArg
import Derived.Laws.IdiomStrings
namespace Go.Proofs.YtdpbikephjnndaaDoor.Wrd
open Go.RowKit

/-- The slice is a row of texts of the call's own, in a block from B on and below U. -/
def RowS (w : World) (B U : Nat) (A : Option Addr) (ps : List (List UInt8)) : Prop :=
  U ≤ w.heap.size ∧ (0 < ps.length → ∃ g off cs, A = some ⟨g, off, none⟩ ∧ B ≤ g ∧ g < U ∧ Blk w g 9 cs ∧ ∀ k (h : k < ps.length), cs[off + k]? = some (.string (str ps[k])))
section
variable {w w' : World} {B U : Nat} {A : Option Addr} {ps : List (List UInt8)}
theorem RowS.rd (h : RowS w B U A ps) : RdS w A ps := fun k hk => by
  obtain ⟨g, off, cs, e, -, hg, hb, hc⟩ := h.2 (by omega)
  exact ⟨g, off, e, Nat.lt_of_lt_of_le hg h.1, by rw [hb.cell]; exact hc k hk⟩
theorem RowS.below (h : RowS w B U A ps) (hb : Below w.heap.size w w') : RowS w' B U A ps :=
  ⟨Nat.le_trans h.1 hb.size, fun hn => by
    obtain ⟨g, off, cs, e, h1, hg, hk, hc⟩ := h.2 hn
    exact ⟨g, off, cs, e, h1, hg, hk.below hb hk.lt, hc⟩⟩
theorem RowS.chg {B' U' : Nat} (h : RowS w B U A ps) (hc : Ints.Chg B' U' w w') (hd : U ≤ B' ∨ U' ≤ B) : RowS w' B U A ps :=
  ⟨Nat.le_trans h.1 hc.size, fun hn => by
    obtain ⟨g, off, cs, e, h1, hg, hk, hcell⟩ := h.2 hn
    exact ⟨g, off, cs, e, h1, hg, (hc.block g hk.lt (by omega)).trans hk, hcell⟩⟩
theorem RdS.chg {B' U' : Nat} (h : RdS w A ps) (hc : Ints.Chg B' U' w w') (hlt : ∀ g off, A = some ⟨g, off, none⟩ → g < B') : RdS w' A ps := fun k hk => by
  obtain ⟨g, off, e, hg, hcell⟩ := h k hk
  exact ⟨g, off, e, Nat.lt_of_lt_of_le hg hc.size, (World.cell?_of_block (hc.block g hg (.inl (hlt g off e)))).trans hcell⟩
theorem own_row {c : Nat} (h : w.ownsRow B 9 1 (.slice A ps.length c) ps.length (tcells ps)) : RowS w B w.heap.size A ps := by
  obtain ⟨h1, h2⟩ := h
  refine ⟨Nat.le_refl _, fun hn => ?_⟩
  rcases h2 with ⟨e, h0⟩ | ⟨g, cap, cur, e, hB, hg, hn, hm, hs, ht⟩
  · omega
  · injection e with e1 e2 e3
    subst e1
    refine ⟨g, 0, cur, rfl, hB, (Array.getElem?_eq_some_iff.1 hg).1, hg, fun k hk => ?_⟩
    have h3 : (tcells ps)[k]? = some (.string (str ps[k])) := by simp [tcells, hk]
    rw [← ht, List.getElem?_take, if_pos (by omega)] at h3
    rw [Nat.zero_add]
    simpa using h3
end

set_option maxHeartbeats 1000000 in
theorem laws_eqS (A A' : Option Addr) (c c' : Nat) (ps : List (List UInt8)) (hn : ps.length ≤ 2000000) (w : World) (h : RdS w A ps) (h' : RdS w A' ps) :
    Calls Tryd.prog 16 #[.slice A ps.length c, .slice A' ps.length c'] w fun e w' => e = .returned (.bool true) ∧ Below w.heap.size w w' := by
  go_enter Tryd.func16, Tryd.ntmps16
  go_wp2_with fail
  go_loopg [5] ps.length (fun m i wr => ∃ k : Nat, k ≤ ps.length ∧ m = ps.length - k ∧ i = .int .i64 k ∧ Below w.heap.size w wr)
  case atStart => exact ⟨0, by omega, by omega, rfl, Below.refl _ _⟩
  case round =>
    obtain ⟨k, hk, hm, rfl, hb⟩ := hrel
    subst hm
    by_cases hlt : k < ps.length
    · have hgo : (k : Int) < (ps.length : Int) := by omega
      obtain ⟨g, off, rfl, hg, c0⟩ := (h.below hb) k hlt
      obtain ⟨g', off', rfl, hg', c0'⟩ := (h'.below hb) k hlt
      generalize str ps[k] = s at *
      have hbe : (s.toList == s.toList) = true := by simp
      have hbn : (s.toList != s.toList) = false := by simp
      go_wp2_with fail
      go_quiet (fail)
      go_wp2_with fail
      go_roundg (ps.length - (k + 1))
      case measure => omega
      case rel => exact ⟨k + 1, by omega, by omega, by go_num, below_drewN hb _⟩
    · have e : k = ps.length := by omega
      subst e
      have hge : ¬ (ps.length : Int) < (ps.length : Int) := by omega
      go_wp2_with fail
      go_ret
      exact ⟨rfl, hb⟩

set_option maxHeartbeats 1000000 in
theorem laws_likeS (A A' : Option Addr) (c c' : Nat) (ps : List (List UInt8)) (hn : ps.length ≤ 2000000) (w : World) (h : RdS w A ps) (h' : RdS w A' ps) :
    Calls Tryd.prog 15 #[.slice A ps.length c, .slice A' ps.length c'] w fun e w' => e = .returned (.bool true) ∧ Below w.heap.size w w' := by
  go_enter Tryd.func15, Tryd.ntmps15
  go_wp2_with fail
  go_loopg [5] ps.length (fun m i wr => ∃ k : Nat, k ≤ ps.length ∧ m = ps.length - k ∧ i = .int .i64 k ∧ Below w.heap.size w wr)
  case atStart => exact ⟨0, by omega, by omega, rfl, Below.refl _ _⟩
  case round =>
    obtain ⟨k, hk, hm, rfl, hb⟩ := hrel
    subst hm
    by_cases hlt : k < ps.length
    · have hgo : (k : Int) < (ps.length : Int) := by omega
      obtain ⟨g, off, rfl, hg, c0⟩ := (h.below hb) k hlt
      obtain ⟨g', off', rfl, hg', c0'⟩ := (h'.below hb) k hlt
      generalize str ps[k] = s at *
      have hbe : (s.toList == s.toList) = true := by simp
      have hbn : (s.toList != s.toList) = false := by simp
      go_wp2_with fail
      go_quiet (fail)
      go_wp2_with fail
      go_roundg (ps.length - (k + 1))
      case measure => omega
      case rel => exact ⟨k + 1, by omega, by omega, by go_num, below_drewN hb _⟩
    · have e : k = ps.length := by omega
      subst e
      have hge : ¬ (ps.length : Int) < (ps.length : Int) := by omega
      go_wp2_with fail
      go_ret
      exact ⟨rfl, hb⟩

/-! ### marks -/
theorem div10 {j : Nat} (h : ¬ j = 0) : j / 10 < j := by omega
/-- The digits of a number ahead of a text. -/
def fin (j : Nat) (t : List UInt8) : List UInt8 := if h : j = 0 then t else fin (j / 10) (UInt8.ofNat (48 + j % 10) :: t)
termination_by j
decreasing_by exact div10 h
theorem fin_zero (t : List UInt8) : fin 0 t = t := by rw [fin]; rfl
theorem fin_pos {j : Nat} (h : 0 < j) (t : List UInt8) : fin j t = fin (j / 10) (UInt8.ofNat (48 + j % 10) :: t) := by
  rw [fin, dif_neg (by omega)]
def mkL (k : Int) : List UInt8 := if k ≤ 0 then [109, 48] else 109 :: fin k.toNat []
theorem conv_one (n : Int) (wx : World) (g : Nat) (hc : wx.cell? ⟨g, 0, none⟩ = some (.int .u8 n)) :
    (convert 22 9 (.slice (some ⟨g, 0, none⟩) 1 1)).run Tryd.prog wx = .ok (.string (str [UInt8.ofNat n.toNat])) wx :=
  run_convert_bytes_arg wx 22 5 Tryd.underlying22 Tryd.underlying5 g 0 1 1 [n] rfl (by
    intro i hi
    obtain rfl : i = 0 := by omega
    simpa using hc) 9 Tryd.underlying9

set_option maxHeartbeats 1000000 in
theorem laws_markT (k : Int) (k0 : 0 ≤ k) (k1 : k ≤ 100000000) (w : World) :
    Calls Tryd.prog 33 #[.int .i64 k] w (Tx (mkL k) w) := by
  by_cases hk : k ≤ 0
  · have e : mkL k = [109, 48] := if_pos hk
    rw [e]
    go_enter Tryd.func33, Tryd.ntmps33
    go_wp2_with fail
    go_ret
    exact ⟨rfl, Below.refl _ _⟩
  · have e : mkL k = 109 :: fin k.toNat [] := if_neg hk
    rw [e]
    have hk' : 0 < k := by omega
    go_enter Tryd.func33, Tryd.ntmps33
    go_wp2_with fail
    go_loopg [0, 3] k.toNat (fun m v t wr => ∃ (j : Nat) (T : List UInt8), v = .int .i64 j ∧ t = .string (str T) ∧ m = j ∧ (j : Int) ≤ k ∧ (T.length : Int) + j ≤ k ∧ Hid (fin j T = fin k.toNat []) ∧ Below w.heap.size w wr)
    case atStart => exact ⟨k.toNat, [], by rw [Int.toNat_of_nonneg k0], rfl, rfl, by omega, by simp; omega, Lib.hid rfl, Below.refl _ _⟩
    case round =>
      obtain ⟨j, T, rfl, rfl, hm, j1, js, HF, hb⟩ := hrel
      have sT := str_size T
      by_cases hj : 0 < j
      · have hgo : (0 : Int) < (j : Int) := by omega
        have m0 := Int.emod_nonneg (j : Int) (show (10 : Int) ≠ 0 by decide)
        have m1 := Int.emod_lt_of_pos (j : Int) (show (0 : Int) < 10 by decide)
        have hcv := conv_one (48 + (j : Int) % 10)
        have d1 : j / 10 ≤ j - 1 := by omega
        have sz := str_size [UInt8.ofNat (48 + (j : Int) % 10).toNat]
        have HE := Lib.hid (show str [UInt8.ofNat (48 + (j : Int) % 10).toNat] ++ str T = str (UInt8.ofNat (48 + j % 10) :: T) by
          rw [str_add, show (48 + (j : Int) % 10).toNat = 48 + j % 10 by omega]; rfl)
        have HN : Hid (fin (j / 10) (UInt8.ofNat (48 + j % 10) :: T) = fin k.toNat []) := Lib.hid (by rw [← fin_pos hj]; exact HF.out)
        have w1 : IntKind.i64.wrap ((j : Int).tdiv 10) = ((j / 10 : Nat) : Int) := by rw [Int.tdiv_eq_ediv_of_nonneg (by omega)]; rw [IntKind.wrap_i64]; omega
        have w2 : (j : Int).tmod 10 = (j : Int) % 10 := Int.tmod_eq_emod_of_nonneg (by omega)
        have w3 : IntKind.i64.wrap (48 + (j : Int) % 10) = 48 + (j : Int) % 10 := IntWalk.i64_in _ ⟨by omega, by omega⟩
        have w4 : IntKind.u8.wrap (48 + (j : Int) % 10) = 48 + (j : Int) % 10 := IntWalk.u8_in _ ⟨by omega, by omega⟩
        clear HF
        generalize str [UInt8.ofNat (48 + (j : Int) % 10).toNat] = s1 at *
        go_wp2_with fail
        go_roundg (j / 10)
        case measure => omega
        case rel => exact ⟨j / 10, _, by first | rfl | simp, congrArg Value.string HE.out, rfl, by omega, by simp; omega, HN, hb.alloc hb.size _⟩
      · have ez : j = 0 := by omega
        subst ez
        have HR := Lib.hid (show T = fin k.toNat [] by have := HF.out; rwa [fin_zero] at this)
        have HE := Lib.hid (show (⟨#[109]⟩ : ByteArray) ++ str T = str (109 :: T) from str_add [109] T)
        clear HF
        go_wp2_with fail
        go_ret
        exact ⟨by rw [← HR.out]; exact congrArg (fun s => Ending.returned (.string s)) HE.out, hb⟩

/-- The texts that marking from k on leaves. -/
def mks (k : Int) (n : Nat) : List (List UInt8) := (List.range n).map fun (j : Nat) => mkL (k + (j : Int))
theorem mks_len (k : Int) (n : Nat) : (mks k n).length = n := by simp [mks]
theorem mks_get (k : Int) (n j : Nat) (h : j < (mks k n).length) : (mks k n)[j] = mkL (k + j) := by simp [mks]

set_option maxHeartbeats 1000000 in
theorem laws_markS (A : Option Addr) (c B U : Nat) (ps : List (List UInt8)) (k0 : Int) (h0 : 0 ≤ k0) (h1 : k0 ≤ 4000000) (hn : ps.length ≤ 2000000) (w : World) (h : RowS w B U A ps) :
    Calls Tryd.prog 17 #[.slice A ps.length c, .int .i64 k0] w fun e w' => e = .returned (.int .i64 (k0 + ps.length)) ∧ RowS w' B U A (mks k0 ps.length) ∧ Ints.Chg B U w w' := by
  obtain ⟨hU, hrow⟩ := h
  by_cases hz : ps.length = 0
  · have e : ps = [] := List.eq_nil_of_length_eq_zero hz
    subst e
    go_enter Tryd.func17, Tryd.ntmps17
    go_wp2_with fail
    go_loopg [1, 5] 0 (fun m t i wr => i = .int .i64 0 ∧ t = .int .i64 k0 ∧ w = wr)
    case atStart => exact ⟨rfl, rfl, rfl⟩
    case round =>
      obtain ⟨rfl, rfl, rfl⟩ := hrel
      go_wp2_with fail
      go_ret
      exact ⟨by simp, ⟨hU, fun q => absurd q (by simp [mks])⟩, Ints.Chg.refl _⟩
  · obtain ⟨g, off, cs0, rfl, hB, hg, hb0, hcell⟩ := hrow (by omega)
    obtain ⟨n, hN⟩ : ∃ n, ps.length = n := ⟨_, rfl⟩
    have hsz : ∀ k, k < n → off + k < cs0.size := fun k hk => by
      have := hcell k (by omega)
      rcases Nat.lt_or_ge (off + k) cs0.size with h | h
      · exact h
      · rw [Array.getElem?_eq_none h] at this; cases this
    have HS := Lib.hid hsz
    rw [hN] at hn hz ⊢
    clear hsz hcell hrow hN
    go_enter Tryd.func17, Tryd.ntmps17
    go_wp2_with fail
    go_loopg [1, 5] n (fun m t i wr => ∃ k : Nat, k ≤ n ∧ m = n - k ∧ i = .int .i64 k ∧ t = .int .i64 (k0 + k) ∧ Ints.Chg B U w wr ∧ ∃ cs, Blk wr g 9 cs ∧ Hid (cs.size = cs0.size) ∧ Hid (∀ j, j < k → cs[off + j]? = some (.string (str (mkL (k0 + j))))))
    case atStart => exact ⟨0, by omega, by omega, rfl, by simp, Ints.Chg.refl _, _, hb0, Lib.hid rfl, Lib.hid (fun j hj => by omega)⟩
    case round =>
      obtain ⟨k, hk, hm, rfl, rfl, hch, cs, hb, hs, HK⟩ := hrel
      subst hm
      by_cases hlt : k < n
      · have hgo : (k : Int) < (n : Int) := by omega
        have z := HS.out k hlt
        rw [← hs.out] at z
        have M := Lib.hid (laws_markT (k0 + k) (by omega) (by omega))
        obtain ⟨T, hT⟩ : ∃ T, mkL (k0 + k) = T := ⟨_, rfl⟩
        rw [hT] at M
        have HT := Lib.hid hT
        clear hT
        go_wp2_with fail
        refine (M.out _).mono ?_
        rintro e w2 ⟨rfl, hb2⟩
        have q := hb.below hb2 hb.lt
        have hch2 : Ints.Chg B U w w2 := ⟨hb2.os.trans hch.os, hb2.tape.trans hch.tape, hb2.output.trans hch.output, Nat.le_trans hch.size hb2.size, fun i hi hr => (hb2.block i (Nat.lt_of_lt_of_le hi hch.size)).trans (hch.block i hi hr)⟩
        have d0 := (q.cell (off + k)).trans (Array.getElem?_eq_getElem (by omega))
        generalize cs[off + k] = u0 at d0
        have f0 := q.frozen (off + k)
        have NB := Lib.hid (q.set_ (off + k) (.string (str T)))
        have HK2 : Hid (∀ j, j < k + 1 → (cs.setIfInBounds (off + k) (.string (str T)))[off + j]? = some (.string (str (mkL (k0 + j))))) := Lib.hid fun j hj => by
          by_cases e : j = k
          · subst e
            rw [Array.getElem?_setIfInBounds_self_of_lt z, HT.out]
          · rw [Array.getElem?_setIfInBounds_ne (by omega)]
            exact HK.out j (by omega)
        clear q z hb hb2 M hch HK
        go_wp2_with fail
        go_roundg (n - (k + 1))
        case measure => omega
        case rel => exact ⟨k + 1, by omega, by omega, by go_num, by push_cast; rw [Int.add_assoc], hch2.setCell (p := ⟨g, _, none⟩) hB hg _, _, NB.out, Lib.hid (by simp [hs.out]), HK2⟩
      · have e : k = n := by omega
        subst e
        have hge : ¬ (k : Int) < (k : Int) := by omega
        have HR := Lib.hid (show RowS wr B U (some ⟨g, off, none⟩) (mks k0 k) from ⟨Nat.le_trans hU hch.size, fun _ => ⟨g, off, cs, rfl, hB, hg, hb, fun j hj => by rw [mks_get]; exact HK.out j (by rwa [mks_len] at hj)⟩⟩)
        clear HK
        go_wp2_with fail
        go_ret
        exact ⟨rfl, HR.out, hch⟩

set_option maxHeartbeats 1000000 in
theorem laws_heldS (A : Option Addr) (c n : Nat) (k0 : Int) (h0 : 0 ≤ k0) (h1 : k0 ≤ 4000000) (hn : n ≤ 2000000) (w : World) (h : RdS w A (mks k0 n)) :
    Calls Tryd.prog 18 #[.slice A n c, .int .i64 k0] w fun e w' => e = .returned (.int .i64 (k0 + n)) ∧ Below w.heap.size w w' := by
  have hl := mks_len k0 n
  go_enter Tryd.func18, Tryd.ntmps18
  go_wp2_with fail
  go_loopg [1, 5] n (fun m t i wr => ∃ k : Nat, k ≤ n ∧ m = n - k ∧ i = .int .i64 k ∧ t = .int .i64 (k0 + k) ∧ Below w.heap.size w wr)
  case atStart => exact ⟨0, by omega, by omega, rfl, by simp, Below.refl _ _⟩
  case round =>
    obtain ⟨k, hk, hm, rfl, rfl, hb⟩ := hrel
    subst hm
    by_cases hlt : k < n
    · have hgo : (k : Int) < (n : Int) := by omega
      obtain ⟨g, off, rfl, hg, c0⟩ := (h.below hb) k (by omega)
      rw [mks_get] at c0
      have M := Lib.hid (laws_markT (k0 + k) (by omega) (by omega))
      have sl := str_toList (mkL (k0 + k))
      generalize mkL (k0 + k) = T at *
      have d0 : wr.drew.cell? ⟨g, off + k, none⟩ = some (.string (str T)) := c0
      have hbn : (T != T) = false := by simp
      have hbe : (T == T) = true := by simp
      go_wp2_with fail
      go_region_held3 (fun w' => w'.cell? ⟨g, off + k, none⟩ = some (.string (str T)))
        (first | with_reducible exact d0 | with_reducible exact ca)
        (first | (go_at_call 33; refine (M.out _).mono ?_; rintro e9 wa ⟨rfl, hqa⟩; have ca := cell_on hqa d0))
      have hb2 := hb.trans (((Below.refl wr.heap.size wr).drew.trans hqa).mono hb.size)
      clear hqa ca d0 c0 M
      go_wp2_with fail
      go_roundg (n - (k + 1))
      case measure => omega
      case rel => exact ⟨k + 1, by omega, by omega, by go_num, by push_cast; rw [Int.add_assoc], hb2⟩
    · have e : k = n := by omega
      subst e
      have hge : ¬ (k : Int) < (k : Int) := by omega
      go_wp2_with fail
      go_ret
      exact ⟨rfl, hb⟩

end Go.Proofs.YtdpbikephjnndaaDoor.Wrd
