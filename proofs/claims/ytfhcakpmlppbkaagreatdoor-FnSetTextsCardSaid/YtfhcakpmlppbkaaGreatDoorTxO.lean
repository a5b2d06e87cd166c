/- The contract of impl's ReadSet. -/
import Derived.Test.YtfhcakpmlppbkaaGreatDoorTxQ
import Derived.Test.YtfhcakpmlppbkaaGreatDoorTxR
namespace Go.Proofs.YtfhcakpmlppbkaaGreatDoor.Sets
open Go.RowKit

def pieces (l : List UInt8) : List (List UInt8) := Lib.splitK [44] 0 (min 301 (l.length + 1) - 1) l
theorem pieces_pos (l : List UInt8) : 1 ≤ (pieces l).length := by
  unfold pieces
  cases (min 301 (l.length + 1) - 1) with
  | zero => simp [Lib.splitK]
  | succ k => unfold Lib.splitK; split <;> simp
theorem splitK_len (sep : List UInt8) : ∀ (k : Nat) (l : List UInt8), (Lib.splitK sep 0 k l).length ≤ k + 1
  | 0, _ => by simp [Lib.splitK]
  | k + 1, l => by
    unfold Lib.splitK
    split
    · simp
    · have := splitK_len sep k (l.drop ((Lib.index l sep).toNat + sep.length))
      simp
      omega
theorem pieces_len (l : List UInt8) : (pieces l).length ≤ 301 := by
  have := splitK_len [44] (min 301 (l.length + 1) - 1) l
  unfold pieces
  omega
theorem splitK_short (sep : List UInt8) : ∀ (k : Nat) (l : List UInt8), ∀ p ∈ Lib.splitK sep 0 k l, p.length ≤ l.length
  | 0, l, p, h => by simp [Lib.splitK] at h; subst h; exact Nat.le_refl _
  | k + 1, l, p, h => by
    unfold Lib.splitK at h
    split at h
    · simp at h; subst h; exact Nat.le_refl _
    · rcases List.mem_cons.1 h with rfl | h
      · simp; omega
      · have := splitK_short sep k _ p h
        simp at this
        omega
theorem txt_long (xs : L) (h : xs ≠ []) : xs.length ≤ (txt xs).length + 1 := by
  cases xs with
  | nil => exact absurd rfl h
  | cons s r =>
    rw [txt_ne h, List.map_cons, Lib.join_cons, List.length_append, Lib.joinTail_length]
    simp
    omega
theorem impl_complete {l : List UInt8} {xs : L} (h : isTxt l xs) (hd : l ≠ [45]) : pieces l = xs.map wd := by
  have hne : xs ≠ [] := by rintro rfl; exact hd (by rw [← h.2]; rfl)
  have h3 := (setB_t h.1).1
  have h4 := txt_long xs hne
  rw [h.2] at h4
  have e : l = Lib.join (xs.map wd) [44] := by rw [← h.2, txt_ne hne]
  unfold pieces
  conv => lhs; rw [e]
  rw [← e]
  conv => lhs; arg 4; rw [e]
  exact splitK_words 44 _ _ (by simpa using hne) (by
    intro w hw
    obtain ⟨s, _, rfl⟩ := List.mem_map.1 hw
    exact wd_bytes s) (by simp; omega)
theorem impl_no {l : List UInt8} (hd : l ≠ [45]) {j : Nat} (hj : j < (pieces l).length) (hn : rs (pieces l)[j] = none) : ¬ ∃ xs, isTxt l xs := by
  rintro ⟨xs, h⟩
  have e := impl_complete h hd
  have hok := (setB_t h.1).2
  have hj2 : j < xs.length := by rw [e] at hj; simpa using hj
  have e2 : (pieces l)[j] = wd xs[j] := by simp [e]
  rw [e2, rs_wd (hok _ (List.getElem_mem hj2))] at hn
  cases hn
theorem some_inj : ∀ (a b : L), a.map some = b.map some → a = b
  | [], [], _ => rfl
  | [], _ :: _, h => by simp at h
  | _ :: _, [], h => by simp at h
  | x :: a, y :: b, h => by
    simp only [List.map_cons, List.cons.injEq, Option.some.injEq] at h
    rw [h.1, some_inj a b h.2]
theorem impl_end {l : List UInt8} (hd : l ≠ [45]) {acc : L} (ha : (pieces l).map rs = acc.map some) : (setB acc = true → isTxt l acc) ∧ (setB acc = false → ¬ ∃ xs, isTxt l xs) := by
  have hl : (pieces l).length = acc.length := by have := congrArg List.length ha; simpa using this
  constructor
  · intro hs
    have hok := (setB_t hs).2
    have e : pieces l = acc.map wd := by
      apply List.ext_getElem
      · simpa using hl
      · intro j h1 h2
        have h3 : j < acc.length := by omega
        have h4 : rs (pieces l)[j] = some acc[j] := by
          have : ((pieces l).map rs)[j]'(by simpa using h1) = (acc.map some)[j]'(by simpa using h3) := by simp only [ha]
          simpa using this
        rw [rs_sound h4 (hok _ (List.getElem_mem h3))]
        simp
    have hne : acc ≠ [] := by
      rintro rfl
      have := pieces_pos l
      rw [hl] at this
      simp at this
    refine ⟨hs, ?_⟩
    rw [txt_ne hne, ← e]
    exact splitK_join 44 _ l
  · rintro hs ⟨xs, h⟩
    have e := impl_complete h hd
    have hok := (setB_t h.1).2
    have e2 : acc = xs := by
      have e3 : (pieces l).map rs = xs.map some := by
        rw [e, List.map_map]
        exact List.map_congr_left fun s hs => rs_wd (hok s hs)
      rw [ha] at e3
      exact some_inj _ _ e3
    rw [e2, h.1] at hs
    cases hs

theorem go_SplitN (l : List UInt8) (hl : l.length ≤ 1048576) (w : World) (h : Env w) :
    Calls Tryz.prog 42 #[.string (str l), .string ⟨#[44]⟩, .int .i64 301] w fun e w' => ∃ cap, e = .returned (.slice (some ⟨w.heap.size, 0, none⟩) (pieces l).length cap) ∧ (∀ j (hj : j < (pieces l).length), w'.cell? ⟨w.heap.size, j, none⟩ = some (.string (str (pieces l)[j]))) ∧ Below w.heap.size w w' ∧ w.heap.size < w'.heap.size := by
  obtain ⟨_, m, hm⟩ := h
  have sz : (str l).size = l.length := str_size l
  have hd := Lib.splitB_data ⟨#[44]⟩ 0 (min 301 ((str l).size + 1) - 1) (str l)
  have hp : (Lib.splitB ⟨#[44]⟩ 0 (min 301 ((str l).size + 1) - 1) (str l)).map (·.data.toList) = pieces l := by
    rw [hd, sz]
    rfl
  have hlen : (Lib.splitB ⟨#[44]⟩ 0 (min 301 ((str l).size + 1) - 1) (str l)).length = (pieces l).length := by rw [← hp]; simp
  refine (Tryz.strings_SplitN (str l) ⟨#[44]⟩ 301 m w (by rw [sz]; omega) hm (by decide) (by omega) (by omega)).mono ?_
  rintro e w' ⟨rfl, rfl⟩
  refine ⟨_, by rw [hlen], fun j hj => ?_, (Below.refl _ _).alloc (Nat.le_refl _) _, by simp⟩
  have q := (Blk.new w 9 (Lib.cellsOf (Lib.splitB ⟨#[44]⟩ 0 (min 301 ((str l).size + 1) - 1) (str l)) (min 301 ((str l).size + 1)))).cell j
  rw [q]
  generalize Lib.splitB ⟨#[44]⟩ 0 (min 301 ((str l).size + 1) - 1) (str l) = pb at hp hlen
  have hj2 : j < pb.length := by omega
  have e2 : str (pieces l)[j] = pb[j] := by
    have : (pieces l)[j] = pb[j].data.toList := by simp [← hp]
    rw [this]
    exact Lib.mk_data _
  rw [e2]
  unfold Lib.cellsOf
  simp only [List.getElem?_toArray]
  rw [List.getElem?_append_left (by simpa using hj2)]
  simp [hj2]

/-- A row that the call fills: its first spans are acc. -/
def FillA (w : World) (g n : Nat) (acc : L) : Prop :=
  ∃ cs : Array Value, cs.size = n * 2 ∧ Blk w g 36 cs ∧ ∀ j (h : j < acc.length), cs[j * 2]? = some (.int .i64 acc[j].1) ∧ cs[j * 2 + 1]? = some (.int .i64 acc[j].2)
theorem FillA.row {w : World} {B g n : Nat} {acc : L} (h : FillA w g n acc) (hn : acc.length = n) (hB : B ≤ g) : Row w B w.heap.size (some ⟨g, 0, none⟩) acc.length n acc :=
  ⟨rfl, by omega, Nat.le_refl _, fun _ => by
    obtain ⟨cs, hs, hb, hc⟩ := h
    refine ⟨g, 0, cs, rfl, hB, hb.lt, hb, fun k hk => ?_⟩
    simpa using hc k hk⟩
theorem FillA.step {w : World} {g n : Nat} {acc : L} (h : FillA w g n acc) (hn : acc.length < n) (f t : Int) {k : Nat} (hk : acc.length = k) :
    FillA ((w.setCell ⟨g, k * 2, none⟩ (.int .i64 f)).setCell ⟨g, k * 2 + 1, none⟩ (.int .i64 t)) g n (acc ++ [(f, t)]) := by
  obtain ⟨cs, hs, hb, hc⟩ := h
  refine ⟨_, ?_, (hb.set_ (k * 2) _).set_ (k * 2 + 1) _, fun j hj => ?_⟩
  · simpa using hs
  · by_cases e : j = k
    · subst e
      have ej : (acc ++ [(f, t)])[j] = (f, t) := by rw [List.getElem_append_right (by omega)]; simp [hk]
      rw [ej]
      refine ⟨?_, ?_⟩
      · rw [Array.getElem?_setIfInBounds_ne (by omega), Array.getElem?_setIfInBounds_self_of_lt (by omega)]
      · rw [Array.getElem?_setIfInBounds_self_of_lt (by simp; omega)]
    · have hjl : j < acc.length := by simp at hj; omega
      have ej : (acc ++ [(f, t)])[j] = acc[j] := List.getElem_append_left hjl
      rw [ej, Array.getElem?_setIfInBounds_ne (by omega), Array.getElem?_setIfInBounds_ne (by omega), Array.getElem?_setIfInBounds_ne (by omega), Array.getElem?_setIfInBounds_ne (by omega)]
      exact hc j hjl
theorem FillA.cells {w : World} {g n : Nat} {acc : L} (h : FillA w g n acc) {j : Nat} (hj : j < n) :
    (∃ u, w.cell? ⟨g, j * 2, none⟩ = some u) ∧ (∃ u, w.cell? ⟨g, j * 2 + 1, none⟩ = some u) ∧ w.frozen? ⟨g, j * 2, none⟩ = false ∧ w.frozen? ⟨g, j * 2 + 1, none⟩ = false := by
  obtain ⟨cs, hs, hb, hc⟩ := h
  exact ⟨⟨_, (hb.cell _).trans (Array.getElem?_eq_getElem (by omega))⟩, ⟨_, (hb.cell _).trans (Array.getElem?_eq_getElem (by omega))⟩, hb.frozen _, hb.frozen _⟩
theorem FillA.below {w w' : World} {g n : Nat} {acc : L} (h : FillA w g n acc) (hb : Below w.heap.size w w') : FillA w' g n acc := by
  obtain ⟨cs, hs, hk, hc⟩ := h
  exact ⟨cs, hs, hk.below hb hk.lt, hc⟩
theorem FillA.lt {w : World} {g n : Nat} {acc : L} (h : FillA w g n acc) : g < w.heap.size := by
  obtain ⟨cs, hs, hk, hc⟩ := h
  exact hk.lt

def ReadI (l : List UInt8) (w1 : World) (D n : Nat) (m : Nat) (i : Value) (wr : World) : Prop :=
  ∃ (k : Nat) (acc : L), i = .int .i64 k ∧ m = n - k ∧ k ≤ n ∧ acc.length = k ∧ Hid (((pieces l).take k).map rs = acc.map some) ∧ FillA wr D n acc ∧ Below w1.heap.size w1 wr

set_option maxHeartbeats 4000000 in
set_option maxRecDepth 10000 in
theorem impl_ReadSet_go (l : List UInt8) (hl : l.length ≤ 1048576) (hd : l ≠ [45]) (w : World) (he : Env w) :
    Calls Tryz.prog 10 #[.string (str l)] w (SetOut (rdV l) (rdE l) w) := by
  have hne : ((str l).toList == [45]) = false := by
    rw [str_toList, beq_eq_false_iff_ne]
    exact hd
  have HE := Lib.hid he
  have CS := Lib.hid (go_SplitN l hl w he)
  have hpos := pieces_pos l
  have h301 := pieces_len l
  have HS := Lib.hid (fun p hp => splitK_short [44] (min 301 (l.length + 1) - 1) l p hp)
  have HNO := Lib.hid (fun j hj hn => rd_no (impl_no hd (j := j) hj hn))
  have HEND := Lib.hid (fun acc (ha : (pieces l).map rs = List.map some acc) => impl_end hd ha)
  have HID := Lib.hid (show pieces l = Lib.splitK [44] 0 (min 301 (l.length + 1) - 1) l from rfl)
  clear he
  have hmk := run_make_spans (pieces l).length (by omega)
  go_enter Tryz.func10, Tryz.ntmps10
  go_wp2_with fail
  refine CS.out.mono ?_
  rintro e w1 ⟨cap, rfl, hcell, hb1, hP⟩
  have HC := Lib.hid hcell
  clear hcell
  go_wp2_with fail
  clear hmk
  have hF : FillA (w1.alloc (.cells (madeCells #[.int .i64 0, .int .i64 0] ((pieces l).length * 2)) 36)) w1.heap.size (pieces l).length [] := ⟨_, size_madeCells _ _, Blk.new _ _ _, fun j h => absurd h (by simp)⟩
  have hW : Below w1.heap.size w1 (w1.alloc (.cells (madeCells #[.int .i64 0, .int .i64 0] ((pieces l).length * 2)) 36)) := (Below.refl _ _).alloc (Nat.le_refl _) _
  go_loopg [19] (pieces l).length (fun m i wr => ReadI l w1 w1.heap.size (pieces l).length m i wr)
  case atStart => exact ⟨0, [], rfl, by omega, by omega, rfl, Lib.hid rfl, hF, hW⟩
  case round =>
    obtain ⟨k, acc, rfl, hm, hk, hal, HA, hf, hbel⟩ := hrel
    subst hm
    have hbw := hb1.trans (hbel.mono hb1.size)
    clear hF hW
    by_cases hlt : k < (pieces l).length
    · have cp := cell_later hbel (HC.out k hlt)
      have hpl : (pieces l)[k].length ≤ 2000000 := by
        have := HS.out (pieces l)[k] (by rw [← HID.out]; exact List.getElem_mem hlt)
        omega
      have KS := impl_readSpan (pieces l)[k] hpl wr (HE.out.below hbw)
      cases ho : rs (pieces l)[k] with
      | none =>
        rw [ho] at KS
        have HEQ := Lib.hid (HNO.out k hlt ho)
        have K := Lib.hid (show Calls Tryz.prog 43 #[.string (str (pieces l)[k])] wr (fun e w' => e = .returned (.tuple #[.agg #[.int .i64 0, .int .i64 0], .bool false]) ∧ Below wr.heap.size wr w') from KS)
        clear KS ho hf
        go_wp2_with fail
        refine K.out.mono ?_
        rintro e w2 ⟨rfl, hb2⟩
        have hfin := below_on hbw hb2
        have hfin2 := hfin.alloc hfin.size (.cells #[.int .i64 0, .int .i64 0] 36)
        go_wp2_with fail
        go_ret2
        exact so_eq ⟨none, 0, rfl, Row.nil (Nat.le_refl _), hfin2⟩ HEQ.out.1 HEQ.out.2
      | some st =>
        obtain ⟨f, t⟩ := st
        rw [ho] at KS
        have HA2 := Lib.hid (show ((pieces l).take (k + 1)).map rs = (acc ++ [(f, t)]).map some by
          rw [List.take_succ_eq_append_getElem hlt, List.map_append, HA.out, List.map_append]
          simp [ho])
        have K := Lib.hid (show Calls Tryz.prog 43 #[.string (str (pieces l)[k])] wr (fun e w' => e = .returned (.tuple #[.agg #[.int .i64 f, .int .i64 t], .bool true]) ∧ Below wr.heap.size wr w') from KS)
        clear KS ho
        go_wp2_with fail
        refine K.out.mono ?_
        rintro e w2 ⟨rfl, hb2⟩
        have hf2 := hf.below hb2
        have hfl := hf2.lt
        obtain ⟨⟨u, d0⟩, ⟨u', d1⟩, f0, f1⟩ := hf2.cells hlt
        have HF := Lib.hid ((hf2.step (by omega) f t hal).below ((Below.refl _ _).alloc (Nat.le_refl _) (.cells #[.int .i64 f, .int .i64 t] 36)))
        have hb4 := below_on hbel hb2
        clear hf hf2 cp
        go_wp2_with fail
        go_roundg ((pieces l).length - (k + 1))
        case measure => omega
        case rel => exact ⟨k + 1, acc ++ [(f, t)], by go_num, rfl, by omega, by simp; omega, HA2, HF.out, ((hb4.setCell (Nat.le_refl _) _).setCell (Nat.le_refl _) _).alloc (by simpa using hb4.size) _⟩
    · have ek : k = (pieces l).length := by omega
      have ha : (pieces l).map rs = acc.map some := by rw [← HA.out, ek, List.take_length]
      have hen := HEND.out acc ha
      have hla : acc.length = (pieces l).length := by omega
      have hrow := hf.row hla (Nat.le_refl _)
      rw [hla] at hrow
      have CI := Lib.hid (impl_IsSet (some ⟨w1.heap.size, 0, none⟩) (pieces l).length (pieces l).length acc (by unfold maxLen; omega) wr hrow.rd)
      by_cases hs : setB acc = true
      · have HEQ := Lib.hid (rd_yes (hen.1 hs))
        rw [hs] at CI
        clear hen ha hf HA
        go_wp2_with fail
        refine CI.out.mono ?_
        rintro e w5 ⟨rfl, hb5⟩
        have hrow5 := hrow.below hb5
        have hfin := below_on hbw hb5
        go_wp2_with fail
        go_ret2
        refine so_eq ⟨some ⟨w1.heap.size, 0, none⟩, (pieces l).length, by rw [hla]; rfl, ?_, hfin⟩ HEQ.out.1 HEQ.out.2
        rw [hla]
        exact hrow5.mono hb1.size hb5.size (Nat.le_refl _)
      · have hs' : setB acc = false := by simpa using hs
        have HEQ := Lib.hid (rd_no (hen.2 hs'))
        rw [hs'] at CI
        clear hen ha hf HA
        go_wp2_with fail
        refine CI.out.mono ?_
        rintro e w5 ⟨rfl, hb5⟩
        have hfin := below_on hbw hb5
        go_wp2_with fail
        go_ret2
        exact so_eq ⟨none, 0, rfl, Row.nil (Nat.le_refl _), hfin⟩ HEQ.out.1 HEQ.out.2

set_option maxHeartbeats 1000000 in
theorem impl_ReadSet (l : List UInt8) (hl : l.length ≤ 1048576) (w : World) (he : Env w) :
    Calls Tryz.prog 10 #[.string (str l)] w (SetOut (rdV l) (rdE l) w) := by
  by_cases hd : l = [45]
  · subst hd
    rw [rd_dash.1, rd_dash.2]
    have hq : ((str [45]).toList == [45]) = true := by rw [str_toList]; rfl
    clear he
    go_enter Tryz.func10, Tryz.ntmps10
    go_wp2_with fail
    go_ret2
    exact ⟨none, 0, rfl, Row.nil (Nat.le_refl _), Below.refl _ _⟩
  · exact impl_ReadSet_go l hl hd w he

end Go.Proofs.YtfhcakpmlppbkaaGreatDoor.Sets
