/- Contracts of impl's readDigits, readDecimal and readSpan. -/
import Derived.Test.YtfhcakpmlppbkaaGreatDoorTxN
namespace Go.Proofs.YtfhcakpmlppbkaaGreatDoor.Sets
open Go.RowKit

/-- What a call leaves that answers a number and a yes or no. -/
def NumO (o : Option Int) (w : World) (e : Ending) (w' : World) : Prop := e = .returned (.tuple #[.int .i64 (o.getD 0), .bool o.isSome]) ∧ Below w.heap.size w w'
def dgO (l : List UInt8) : Option Int := if allDg l = true then some (wnum l) else none
theorem ret_ib2 {a b : Int} {c d : Bool} (h : a = b) (h' : c = d) : Ending.returned (.tuple #[.int .i64 a, .bool c]) = .returned (.tuple #[.int .i64 b, .bool d]) := by rw [h, h']

set_option maxHeartbeats 1000000 in
theorem impl_readDigits (l : List UInt8) (hl : l.length ≤ 2000000) (w : World) :
    Calls Tryz.prog 105 #[.string (str l)] w (NumO (dgO l) w) := by
  have sz := str_size l
  go_enter Tryz.func105, Tryz.ntmps105
  go_wp2_with fail
  go_loopg [4, 8] l.length (fun g n i wr => ∃ k : Nat, k ≤ l.length ∧ g = l.length - k ∧ i = .int .i64 k ∧ n = .int .i64 (wnum (l.take k)) ∧ allDg (l.take k) = true ∧ w = wr)
  case atStart => exact ⟨0, by omega, rfl, rfl, by simp [wnum], by simp [allDg], rfl⟩
  case round =>
    obtain ⟨k, hk, hg, rfl, rfl, hall, rfl⟩ := hrel
    subst hg
    have HA := Lib.hid hall
    clear hall
    by_cases hlt : k < l.length
    · have hgo : ((k : Int) < (l.length : Int)) := by omega
      have hgs : (str l)[k]'(by rw [str_size]; exact hlt) = l[k] := get_str l k _
      have nb := wnum_bd (l.take k)
      have hsn := wnum_snoc (l.take k) l[k]
      have han := allDg_snoc (l.take k) l[k]
      rw [← take_snoc' l k hlt] at hsn han
      by_cases hd : Txt.isDg l[k] = true
      · have HS := Lib.hid hsn
        have HN := Lib.hid (show allDg (l.take (k + 1)) = true by rw [han, HA.out, hd]; rfl)
        unfold Txt.isDg at hd
        simp at hd
        obtain ⟨hd1, hd2⟩ := hd
        have d1 : (48 : Int) ≤ (l[k].toNat : Int) := by omega
        have d2 : (l[k].toNat : Int) ≤ 57 := by omega
        clear hsn hd1 hd2 han HA
        generalize l[k] = c at *
        generalize wnum (l.take k) = N at *
        go_wp2_with fail
        go_roundg (l.length - (k + 1))
        case measure => omega
        case rel => exact ⟨k + 1, by omega, rfl, by go_num, by rw [HS.out]; exact congrArg (Value.int .i64) (by unfold w64; rw [IntKind.wrap_i64, IntKind.wrap_i64]; (try simp only [wrap64]); try omega), HN.out, rfl⟩
      · have hf : Txt.isDg l[k] = false := by simpa using hd
        have HF := Lib.hid (show 0 = (dgO l).getD 0 ∧ false = (dgO l).isSome by have := allDg_no hlt hf; simp [dgO, this])
        have hd' : (l[k].toNat : Int) < 48 ∨ 57 < (l[k].toNat : Int) := by
          unfold Txt.isDg at hd
          simp at hd
          omega
        clear hsn hd han HA hf
        generalize l[k] = c at *
        rcases hd' with d1 | d1
        all_goals
          go_wp2_with fail
          go_ret2
          exact ⟨ret_ib2 HF.out.1 HF.out.2, Below.refl _ _⟩
    · have hgo : ¬ ((k : Int) < (l.length : Int)) := by omega
      have HF := Lib.hid (show wnum (l.take k) = (dgO l).getD 0 ∧ true = (dgO l).isSome by
        have e : l.take k = l := List.take_of_length_le (by omega)
        have h := HA.out
        rw [e] at h ⊢
        simp [dgO, h])
      go_wp2_with fail
      go_ret2
      exact ⟨ret_ib2 HF.out.1 HF.out.2, Below.refl _ _⟩

theorem go_FormatAny (n : Int) (h0 : -9223372036854775808 ≤ n) (h1 : n ≤ 9223372036854775807) (w : World) (ht : Tabs w) : Calls Tryz.prog 67 #[.int .i64 n, .int .i64 10] w (Tx (Lib.itoa n) w) := by
  refine (Tryz.strconv_FormatInt_10 n h0 h1 w ht).mono ?_
  rintro e w1 ⟨rfl, k, os, rfl⟩
  exact ⟨rfl, Lib.below_grow _ _ (Nat.le_refl _) _ _⟩

set_option maxHeartbeats 1000000 in
theorem impl_readDecimal (l : List UInt8) (hl : l.length ≤ 2000000) (w : World) (ht : Tabs w) :
    Calls Tryz.prog 82 #[.string (str l)] w (NumO (rn l) w) := by
  have C1 := Lib.hid (impl_readDigits l hl)
  have nb := wnum_bd l
  have HT := Lib.hid ht
  clear ht
  by_cases hd : allDg l = true
  · have eD : dgO l = some (wnum l) := if_pos hd
    rw [eD] at C1
    have C1 := Lib.hid (show ∀ wx, Calls Tryz.prog 105 #[.string (str l)] wx (fun e w' => e = .returned (.tuple #[.int .i64 (wnum l), .bool true]) ∧ Below wx.heap.size wx w') from C1.out)
    have C2 := Lib.hid (fun wx (k : Tabs wx) => go_FormatAny (wnum l) nb.1 nb.2 wx k)
    by_cases he : Lib.itoa (wnum l) = l
    · have E := Lib.hid (show wnum l = (rn l).getD 0 ∧ true = (rn l).isSome by
        have : rn l = some (wnum l) := if_pos ⟨hd, he⟩
        rw [this]
        exact ⟨rfl, rfl⟩)
      rw [he] at C2
      clear hd eD he
      generalize wnum l = N at *
      go_enter Tryz.func82, Tryz.ntmps82
      go_wp2_with fail
      refine (C1.out _).mono ?_
      rintro e w1 ⟨rfl, hb1⟩
      go_wp2_with fail
      refine (C2.out _ (HT.out.below hb1)).mono ?_
      rintro e w2 ⟨rfl, hb2⟩
      have hfin := below_on hb1 hb2
      go_wp2_with fail
      go_ret2
      exact ⟨ret_ib2 E.out.1 E.out.2, hfin⟩
    · have E := Lib.hid (show 0 = (rn l).getD 0 ∧ false = (rn l).isSome by
        have : rn l = none := if_neg (fun h => he h.2)
        rw [this]
        exact ⟨rfl, rfl⟩)
      have sE : ((str (Lib.itoa (wnum l))).toList == (str l).toList) = false := by rw [str_toList, str_toList, beq_eq_false_iff_ne]; exact he
      clear hd eD he
      generalize Lib.itoa (wnum l) = I at C2 sE
      generalize wnum l = N at *
      go_enter Tryz.func82, Tryz.ntmps82
      go_wp2_with fail
      refine (C1.out _).mono ?_
      rintro e w1 ⟨rfl, hb1⟩
      go_wp2_with fail
      refine (C2.out _ (HT.out.below hb1)).mono ?_
      rintro e w2 ⟨rfl, hb2⟩
      have hfin := below_on hb1 hb2
      go_wp2_with fail
      go_ret2
      exact ⟨ret_ib2 E.out.1 E.out.2, hfin⟩
  · have eD : dgO l = none := if_neg hd
    rw [eD] at C1
    have C1 := Lib.hid (show ∀ wx, Calls Tryz.prog 105 #[.string (str l)] wx (fun e w' => e = .returned (.tuple #[.int .i64 0, .bool false]) ∧ Below wx.heap.size wx w') from C1.out)
    have E := Lib.hid (show 0 = (rn l).getD 0 ∧ false = (rn l).isSome by
      have : rn l = none := if_neg (fun h => hd h.1)
      rw [this]
      exact ⟨rfl, rfl⟩)
    clear hd eD
    go_enter Tryz.func82, Tryz.ntmps82
    go_wp2_with fail
    refine (C1.out _).mono ?_
    rintro e w1 ⟨rfl, hb1⟩
    go_wp2_with fail
    go_ret2
    exact ⟨ret_ib2 E.out.1 E.out.2, hb1⟩

/-- The world's part of what impl's reading asks. -/
def Env (w : World) : Prop := Tabs w ∧ ∃ m, w.cell? ⟨1, 0, none⟩ = some (.int .i64 m)
theorem Env.below {W w : World} (h : Env W) (hb : Below W.heap.size W w) : Env w := by
  obtain ⟨h1, m, h2⟩ := h
  exact ⟨h1.below hb, m, cell_later hb h2⟩

theorem str_data (l : List UInt8) : (str l).data.toList = l := rfl
theorem go_Cut (p : List UInt8) (hp : p.length ≤ 2000000) (w : World) (h : Env w) :
    Calls Tryz.prog 81 #[.string (str p), .string ⟨#[46, 46]⟩] w fun e w' => e = .returned (.tuple #[.string (str (Lib.cut p [46, 46]).1), .string (str (Lib.cut p [46, 46]).2.1), .bool (Lib.cut p [46, 46]).2.2]) ∧ Below w.heap.size w w' := by
  obtain ⟨_, m, hm⟩ := h
  refine (Tryz.strings_Cut (str p) ⟨#[46, 46]⟩ m w (by rw [str_size]; omega) hm).mono ?_
  rintro e w' ⟨rfl, n, rfl⟩
  exact ⟨rfl, below_drewN (Below.refl _ _) n⟩

/-- What reading a span answers. -/
def SpanO (o : Option (Int × Int)) (w : World) (e : Ending) (w' : World) : Prop := e = .returned (.tuple #[.agg #[.int .i64 (o.getD (0, 0)).1, .int .i64 (o.getD (0, 0)).2], .bool o.isSome]) ∧ Below w.heap.size w w'
theorem cut_len (p : List UInt8) : (Lib.cut p [46, 46]).1.length ≤ p.length ∧ (Lib.cut p [46, 46]).2.1.length ≤ p.length := by
  unfold Lib.cut
  split
  · simp
    omega
  · simp

set_option maxHeartbeats 2000000 in
theorem impl_readSpan (p : List UInt8) (hp : p.length ≤ 2000000) (w : World) (h : Env w) :
    Calls Tryz.prog 43 #[.string (str p)] w (SpanO (rs p) w) := by
  have HE := Lib.hid h
  have CC := Lib.hid (fun wx (k : Env wx) => go_Cut p hp wx k)
  have cl := cut_len p
  have C1 := Lib.hid (fun wx (k : Env wx) => impl_readDecimal (Lib.cut p [46, 46]).1 (by omega) wx k.1)
  have C2 := Lib.hid (fun wx (k : Env wx) => impl_readDecimal (Lib.cut p [46, 46]).2.1 (by omega) wx k.1)
  obtain ⟨o, ho⟩ : ∃ o, rs p = o := ⟨_, rfl⟩
  have HR := Lib.hid ho
  rw [ho]
  unfold rs at ho
  clear h cl
  generalize (Lib.cut p [46, 46]).1 = a at *
  generalize (Lib.cut p [46, 46]).2.1 = b at *
  generalize (Lib.cut p [46, 46]).2.2 = c at *
  clear HR
  cases hf : rn a with
  | none =>
    rw [hf] at ho C1
    subst ho
    have K1 := Lib.hid (show ∀ wx, Env wx → Calls Tryz.prog 82 #[.string (str a)] wx (fun e w' => e = .returned (.tuple #[.int .i64 0, .bool false]) ∧ Below wx.heap.size wx w') from C1.out)
    clear C1 C2
    go_enter Tryz.func43, Tryz.ntmps43
    have S := (St.start w).alloc 36 #[.int .i64 0, .int .i64 0]
    go_wp2_with fail
    refine (CC.out _ (HE.out.below S.bel)).mono ?_
    rintro e w1 ⟨rfl, hb1⟩
    have S := S.call hb1
    go_wp2_with fail
    refine (K1.out _ (HE.out.below S.bel)).mono ?_
    rintro e w2 ⟨rfl, hb2⟩
    have S := S.call hb2
    have c0 : w2.cell? ⟨w.heap.size, 0, none⟩ = some (.int .i64 0) := S.b0.cell 0
    have c1 : w2.cell? ⟨w.heap.size, 1, none⟩ = some (.int .i64 0) := S.b0.cell 1
    have f0 := S.b0.frozen 0
    have f1 := S.b0.frozen 1
    go_wp2_with fail
    refine bodyPost_ret (v := .tuple #[.agg #[.int .i64 (0), .int .i64 (0)], .bool false]) (by simp [results, Tryz.results43, go_sem, c0, c1]) rfl ⟨rfl, ?_⟩
    exact (S.bel.setCell (Nat.le_refl _) _).setCell (Nat.le_refl _) _
  | some f =>
    rw [hf] at ho C1
    have K1 := Lib.hid (show ∀ wx, Env wx → Calls Tryz.prog 82 #[.string (str a)] wx (fun e w' => e = .returned (.tuple #[.int .i64 f, .bool true]) ∧ Below wx.heap.size wx w') from C1.out)
    clear C1
    cases c
    · simp only [if_true] at ho
      subst ho
      go_enter Tryz.func43, Tryz.ntmps43
      have S := (St.start w).alloc 36 #[.int .i64 0, .int .i64 0]
      go_wp2_with fail
      refine (CC.out _ (HE.out.below S.bel)).mono ?_
      rintro e w1 ⟨rfl, hb1⟩
      have S := S.call hb1
      go_wp2_with fail
      refine (K1.out _ (HE.out.below S.bel)).mono ?_
      rintro e w2 ⟨rfl, hb2⟩
      have S := S.call hb2
      have c0 : w2.cell? ⟨w.heap.size, 0, none⟩ = some (.int .i64 0) := S.b0.cell 0
      have c1 : w2.cell? ⟨w.heap.size, 1, none⟩ = some (.int .i64 0) := S.b0.cell 1
      have f0 := S.b0.frozen 0
      have f1 := S.b0.frozen 1
      go_wp2_with fail
      refine bodyPost_ret (v := .tuple #[.agg #[.int .i64 (f), .int .i64 (f)], .bool true]) (by simp [results, Tryz.results43, go_sem, c0, c1]) rfl ⟨rfl, ?_⟩
      exact (S.bel.setCell (Nat.le_refl _) _).setCell (Nat.le_refl _) _
    · simp only [Bool.true_eq_false, if_false] at ho
      cases ht : rn b with
      | none =>
        rw [ht] at ho C2
        subst ho
        have K2 := Lib.hid (show ∀ wx, Env wx → Calls Tryz.prog 82 #[.string (str b)] wx (fun e w' => e = .returned (.tuple #[.int .i64 0, .bool false]) ∧ Below wx.heap.size wx w') from C2.out)
        clear C2
        go_enter Tryz.func43, Tryz.ntmps43
        have S := (St.start w).alloc 36 #[.int .i64 0, .int .i64 0]
        go_wp2_with fail
        refine (CC.out _ (HE.out.below S.bel)).mono ?_
        rintro e w1 ⟨rfl, hb1⟩
        have S := S.call hb1
        go_wp2_with fail
        refine (K1.out _ (HE.out.below S.bel)).mono ?_
        rintro e w2 ⟨rfl, hb2⟩
        have S := S.call hb2
        go_wp2_with fail
        refine (K2.out _ (HE.out.below S.bel)).mono ?_
        rintro e w3 ⟨rfl, hb3⟩
        have S := S.call hb3
        have c0 : w3.cell? ⟨w.heap.size, 0, none⟩ = some (.int .i64 0) := S.b0.cell 0
        have c1 : w3.cell? ⟨w.heap.size, 1, none⟩ = some (.int .i64 0) := S.b0.cell 1
        have f0 := S.b0.frozen 0
        have f1 := S.b0.frozen 1
        go_wp2_with fail
        refine bodyPost_ret (v := .tuple #[.agg #[.int .i64 (0), .int .i64 (0)], .bool false]) (by simp [results, Tryz.results43, go_sem, c0, c1]) rfl ⟨rfl, ?_⟩
        exact (S.bel.setCell (Nat.le_refl _) _).setCell (Nat.le_refl _) _
      | some t =>
        rw [ht] at ho C2
        have K2 := Lib.hid (show ∀ wx, Env wx → Calls Tryz.prog 82 #[.string (str b)] wx (fun e w' => e = .returned (.tuple #[.int .i64 t, .bool true]) ∧ Below wx.heap.size wx w') from C2.out)
        clear C2
        simp only at ho
        by_cases hle : t ≤ f
        · rw [if_pos hle] at ho
          subst ho
          go_enter Tryz.func43, Tryz.ntmps43
          have S := (St.start w).alloc 36 #[.int .i64 0, .int .i64 0]
          go_wp2_with fail
          refine (CC.out _ (HE.out.below S.bel)).mono ?_
          rintro e w1 ⟨rfl, hb1⟩
          have S := S.call hb1
          go_wp2_with fail
          refine (K1.out _ (HE.out.below S.bel)).mono ?_
          rintro e w2 ⟨rfl, hb2⟩
          have S := S.call hb2
          go_wp2_with fail
          refine (K2.out _ (HE.out.below S.bel)).mono ?_
          rintro e w3 ⟨rfl, hb3⟩
          have S := S.call hb3
          have c0 : w3.cell? ⟨w.heap.size, 0, none⟩ = some (.int .i64 0) := S.b0.cell 0
          have c1 : w3.cell? ⟨w.heap.size, 1, none⟩ = some (.int .i64 0) := S.b0.cell 1
          have f0 := S.b0.frozen 0
          have f1 := S.b0.frozen 1
          go_wp2_with fail
          refine bodyPost_ret (v := .tuple #[.agg #[.int .i64 (0), .int .i64 (0)], .bool false]) (by simp [results, Tryz.results43, go_sem, c0, c1]) rfl ⟨rfl, ?_⟩
          exact (S.bel.setCell (Nat.le_refl _) _).setCell (Nat.le_refl _) _
        · rw [if_neg hle] at ho
          subst ho
          have hd : decide (t ≤ f) = false := by simpa using hle
          go_enter Tryz.func43, Tryz.ntmps43
          have S := (St.start w).alloc 36 #[.int .i64 0, .int .i64 0]
          go_wp2_with fail
          refine (CC.out _ (HE.out.below S.bel)).mono ?_
          rintro e w1 ⟨rfl, hb1⟩
          have S := S.call hb1
          go_wp2_with fail
          refine (K1.out _ (HE.out.below S.bel)).mono ?_
          rintro e w2 ⟨rfl, hb2⟩
          have S := S.call hb2
          go_wp2_with fail
          refine (K2.out _ (HE.out.below S.bel)).mono ?_
          rintro e w3 ⟨rfl, hb3⟩
          have S := S.call hb3
          have c0 : w3.cell? ⟨w.heap.size, 0, none⟩ = some (.int .i64 0) := S.b0.cell 0
          have c1 : w3.cell? ⟨w.heap.size, 1, none⟩ = some (.int .i64 0) := S.b0.cell 1
          have f0 := S.b0.frozen 0
          have f1 := S.b0.frozen 1
          go_wp2_with fail
          refine bodyPost_ret (v := .tuple #[.agg #[.int .i64 (f), .int .i64 (t)], .bool true]) (by simp [results, Tryz.results43, go_sem, c0, c1]) rfl ⟨rfl, ?_⟩
          exact (S.bel.setCell (Nat.le_refl _) _).setCell (Nat.le_refl _) _

end Go.Proofs.YtfhcakpmlppbkaaGreatDoor.Sets
