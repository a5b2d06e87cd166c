/- The contract of spec's ReadSet. -/
import Derived.Test.YtfhcakpmlppbkaaGreatDoorTxM
import Derived.Test.YtfhcakpmlppbkaaGreatDoorMeetS
import Derived.Test.YtfhcakpmlppbkaaGreatDoorPlain
import Derived.Deep.RegionHeld3
import Derived.Deep.RegionWith
namespace Go.Proofs.YtfhcakpmlppbkaaGreatDoor.Sets
open Go.RowKit

theorem split_count (c : UInt8) : ∀ (l cur : List UInt8), (Txt.split c l cur).length ≤ l.length + 1
  | [], cur => by simp [Txt.split]
  | x :: r, cur => by
    unfold Txt.split
    split
    · have := split_count c r []; simp; omega
    · have := split_count c r (cur ++ [x]); simp; omega

theorem ends_at {p : List UInt8} {m : Nat} {q : List (List UInt8)} (hq : Txt.split 46 p [] = q) (h : q.length = m + 1) :
    (Txt.plain ((q[0]'(by omega)).take 9), Txt.plain ((q[m]'(by omega)).take 9)) = ends p := by
  unfold ends
  rw [hq]
  have h0 : q.headD [] = q[0]'(by omega) := by
    cases q with
    | nil => simp at h
    | cons x r => rfl
  have h1 : q.getLastD [] = q[m]'(by omega) := by
    rw [List.getLastD_eq_getLast?, List.getLast?_eq_getElem?]
    have : q.length - 1 = m := by omega
    rw [this, List.getElem?_eq_getElem (by omega)]
    rfl
  rw [h0, h1]

def ReadLoop (ps : List (List UInt8)) (w : World) (m : Nat) (v i : Value) (wr : World) : Prop :=
  ∃ (k : Nat) (acc : L), i = .int .i64 k ∧ m = ps.length - k ∧ k ≤ ps.length ∧ acc.length = k ∧ Hid (acc = (ps.take k).map ends) ∧ Own wr w.heap.size v acc ∧ Below w.heap.size w wr

theorem so_eq {xs xs' : L} {c c' : Int} {w w' : World} {e : Ending} (h : SetOut xs c w e w') (h1 : xs' = xs) (h2 : c' = c) : SetOut xs' c' w e w' := by subst h1 h2; exact h
theorem alloc_keep {w : World} {a : Addr} {v : Value} (h : w.cell? a = some v) (o : Obj) : (w.alloc o).cell? a = some v := cell_later ((Below.refl _ _).alloc (Nat.le_refl _) o) h

set_option maxHeartbeats 4000000 in
set_option maxRecDepth 10000 in
theorem spec_ReadSet_go (l : List UInt8) (hl : l.length ≤ 1048576) (hd : l ≠ [45]) (w : World) :
    Calls Tryz.prog 11 #[.string (str l)] w (SetOut (rdV l) (rdE l) w) := by
  have hne : ((str l).toList == [45]) = false := by
    rw [str_toList, beq_eq_false_iff_ne]
    exact hd
  have hcnt := split_count 44 l []
  have hpos := split_pos 44 l []
  have HP := Lib.hid (show (Txt.split 44 l []).map ends = parse l from rfl)
  have CS := Lib.hid (spec_split 44 l (by omega))
  have HL := Lib.hid (split_len 44 l [])
  generalize Txt.split 44 l [] = ps at hcnt hpos HP CS HL
  go_enter Tryz.func11, Tryz.ntmps11
  go_wp2_with fail
  refine (CS.out _).mono ?_
  intro e w1 ht
  obtain ⟨P, cap, rfl, hP, hP1, hmx, hb1, hcell⟩ := ht.at_ hpos
  have HC := Lib.hid hcell
  clear hcell ht
  go_wp2_with fail
  go_loopg [5, 6] ps.length (fun m v i wr => ReadLoop ps w1 m v i wr)
  case atStart => exact ⟨0, [], rfl, by omega, by omega, rfl, Lib.hid rfl, Own.made0 w1, (Below.refl _ _).alloc (Nat.le_refl _) _⟩
  case round =>
    obtain ⟨k, acc, rfl, hm, hk, hal, HA, hown, hbel⟩ := hrel
    subst hm
    by_cases hlt : k < ps.length
    · have cp := cell_later hbel (HC.out k hlt)
      have hpl := HL.out ps[k] (List.getElem_mem hlt)
      simp only [List.length_nil, Nat.add_zero] at hpl
      have CD := Lib.hid (spec_split 46 ps[k] (by omega))
      have hq1 := split_pos 46 ps[k] []
      have hqc := split_count 46 ps[k] []
      have hql := split_len 46 ps[k] []
      obtain ⟨q, hq⟩ : ∃ q, Txt.split 46 ps[k] [] = q := ⟨_, rfl⟩
      rw [hq] at CD hq1 hqc hql
      have HE := Lib.hid (fun m (h : q.length = m + 1) => ends_at hq h)
      clear hq
      go_wp2_with fail
      refine (CD.out _).mono ?_
      intro e w2 ht
      obtain ⟨G, cap2, rfl, hG, hG1, hmx2, hb2, hcell2⟩ := ht.at_ hq1
      obtain ⟨m, hm⟩ : ∃ m, q.length = m + 1 := ⟨q.length - 1, by omega⟩
      have HE2 := Lib.hid (HE.out m hm)
      have c0 := hcell2 0 (by omega)
      have cm := hcell2 m (by omega)
      have l0 := hql (q[0]'(by omega)) (List.getElem_mem _)
      have lm := hql (q[m]'(by omega)) (List.getElem_mem _)
      simp only [List.length_nil, Nat.add_zero] at l0 lm
      have P0 := Lib.hid (spec_plain (q[0]'(by omega)) (by omega))
      have P1 := Lib.hid (spec_plain (q[m]'(by omega)) (by omega))
      clear HE ht hcell2 hql
      generalize q[0]'(by omega) = q0 at *
      generalize q[m]'(by omega) = qm at *
      have hbel2 := below_on hbel hb2
      have hown2 := hown.below hb2
      generalize Txt.plain (q0.take 9) = F at P0 HE2
      generalize Txt.plain (qm.take 9) = T at P1 HE2
      have hmb : m ≤ 2000000 := by omega
      rw [hm]
      clear hown hbel hb2 cp CD hq1 hqc hpl
      go_wp2_with fail
      have W1 : IntKind.i64.wrap ((m : Int) + 1 - 1) = m := by rw [IntKind.wrap_i64]; omega
      have W2 : IntKind.i64.wrap (((m + 1 : Nat) : Int) - 1) = m := by rw [IntKind.wrap_i64]; omega
      have W3 : IntKind.i64.wrap (m : Int) = m := by rw [IntKind.wrap_i64]; omega
      have hi0 : (m : Int) < ((m + 1 : Nat) : Int) := by omega
      have hi1 : (m : Int) < (m : Int) + 1 := by omega
      have HA2 := Lib.hid (show acc ++ [(F, T)] = (ps.take (k + 1)).map ends by
        rw [List.take_succ_eq_append_getElem hlt, List.map_append, HA.out, HE2.out]
        rfl)
      go_region_held3 (fun w' => w'.cell? ⟨G, 0, none⟩ = some (.string (str q0)) ∧ w'.cell? ⟨G, m, none⟩ = some (.string (str qm)))
        (first | exact ⟨c0, cm⟩ | (go_split_ands; first | exact ⟨by assumption, by assumption⟩ | exact ⟨alloc_keep (by assumption) _, alloc_keep (by assumption) _⟩))
        (first
          | (go_at_call_of 45 (Value.string (str q0)); refine (P0.out _).mono ?_; rintro e wq ⟨rfl, rfl⟩)
          | (go_at_call_of 45 (Value.string (str qm)); refine (P1.out _).mono ?_; rintro e wq ⟨rfl, rfl⟩))
      all_goals
        have hb3 : Below w1.heap.size w1 ((w2.alloc (.cells #[.int .i64 F, .int .i64 T] 36)).drew) := (hbel2.alloc hbel2.size _).drew
        have own3 : Own ((w2.alloc (.cells #[.int .i64 F, .int .i64 T] 36)).drew) w1.heap.size u5 acc := hown2.below (((Below.refl _ _).alloc (Nat.le_refl _) _).drew)
        have q3 := (Blk.new w2 36 #[.int .i64 F, .int .i64 T]).drew
        clear c0 cm hbel2 hown2 W1 W2 W3 hi0 hi1
        generalize (w2.alloc (.cells #[.int .i64 F, .int .i64 T] 36)).drew = w3 at q3 hb3 own3 ⊢
        have z0 : w3.cell? ⟨w2.heap.size, 0, none⟩ = some (.int .i64 F) := q3.cell 0
        have z1 : w3.cell? ⟨w2.heap.size, 1, none⟩ = some (.int .i64 T) := q3.cell 1
        go_wp2_with (at_builtin; refine append_span hb3 own3 (by omega) rfl (.tmp 38) (.tmp 40) rfl rfl rfl ?_)
        intro v2 w4 own4 hb4
        clear own3 hb3 q3 z0 z1
        go_wp2_with fail
        go_roundg (ps.length - (k + 1))
        case measure => omega
        case rel => exact ⟨k + 1, _, by go_num, rfl, by omega, by simp; omega, HA2, own4, hb4⟩
    · have ek : k = ps.length := by omega
      have ea : acc = parse l := by rw [HA.out, ek, List.take_length, HP.out]
      subst ea
      have hbw := hb1.trans (hbel.mono hb1.size)
      obtain ⟨A, c, rfl, hrow⟩ := hown.form
      have hrd := hrow.rd
      have hlm : (parse l).length ≤ maxLen := by unfold maxLen; omega
      have CI := Lib.hid (spec_IsSet A (parse l).length c (parse l) hlm wr hrd)
      have hl2 : (parse l).length ≤ 2000000 := by omega
      rcases rd_parse hd with ⟨ht, e1, e2⟩ | ⟨ht, e1, e2⟩
      · rw [ht.1] at CI
        have HO := Lib.hid (setB_t ht.1).2
        have h3 := (setB_t ht.1).1
        have ET := Lib.hid ht.2
        have HEQ := Lib.hid (And.intro e1 e2)
        clear HA HC hown hcnt hal hmx ht e1 e2
        go_wp2_with fail
        refine CI.out.mono ?_
        rintro e w5 ⟨rfl, hb5⟩
        have hrow5 := hrow.below hb5
        have hbw5 := below_on hbw hb5
        go_wp2_with fail
        refine (spec_l02Text A (parse l).length c (parse l) h3 HO w5 hrow5.rd).mono ?_
        rw [ET.out]
        rintro e w6 ⟨rfl, hb6⟩
        have hrow6 := hrow5.below hb6
        have hbw6 := below_on hbw5 hb6
        have hz := (hbel.trans ((hb5.trans (hb6.mono hb5.size)).mono hbel.size)).size
        go_wp2_with fail
        go_ret2
        exact so_eq ⟨A, c, rfl, hrow6.mono hb1.size (by have := hb5.size; have := hb6.size; omega) (Nat.le_refl _), hbw6⟩ HEQ.out.1 HEQ.out.2
      · have HEQ := Lib.hid (And.intro e1 e2)
        by_cases hs : setB (parse l) = true
        · have hne2 : ((txt (parse l)) == l) = false := by rw [beq_eq_false_iff_ne]; exact fun e => ht ⟨hs, e⟩
          rw [hs] at CI
          have HO := Lib.hid (setB_t hs).2
          have h3 := (setB_t hs).1
          have sE : ((str (txt (parse l))).toList == (str l).toList) = false := by rw [str_toList, str_toList]; exact hne2
          clear HA HC hown hcnt hal hmx ht e1 e2 hs
          go_wp2_with fail
          refine CI.out.mono ?_
          rintro e w5 ⟨rfl, hb5⟩
          have hrow5 := hrow.below hb5
          have hbw5 := below_on hbw hb5
          go_wp2_with fail
          refine (spec_l02Text A (parse l).length c (parse l) h3 HO w5 hrow5.rd).mono ?_
          rintro e w6 ⟨rfl, hb6⟩
          have hbw6 := below_on hbw5 hb6
          go_wp2_with fail
          go_ret2
          exact so_eq ⟨none, 0, rfl, Row.nil (Nat.le_refl _), hbw6⟩ HEQ.out.1 HEQ.out.2
        · have hs' : setB (parse l) = false := by simpa using hs
          rw [hs'] at CI
          clear HA HC hown hcnt hal hmx ht e1 e2 hs hs'
          go_wp2_with fail
          refine CI.out.mono ?_
          rintro e w5 ⟨rfl, hb5⟩
          have hbw5 := below_on hbw hb5
          go_wp2_with fail
          go_ret2
          exact so_eq ⟨none, 0, rfl, Row.nil (Nat.le_refl _), hbw5⟩ HEQ.out.1 HEQ.out.2

theorem rd_dash : rdV [45] = [] ∧ rdE [45] = 0 := rd_yes (l := [45]) (xs := []) ⟨by decide, rfl⟩

set_option maxHeartbeats 1000000 in
theorem spec_ReadSet (l : List UInt8) (hl : l.length ≤ 1048576) (w : World) :
    Calls Tryz.prog 11 #[.string (str l)] w (SetOut (rdV l) (rdE l) w) := by
  by_cases hd : l = [45]
  · subst hd
    rw [rd_dash.1, rd_dash.2]
    have hq : ((str [45]).toList == [45]) = true := by rw [str_toList]; rfl
    go_enter Tryz.func11, Tryz.ntmps11
    go_wp2_with fail
    go_ret2
    exact ⟨some ⟨w.heap.size, 0, none⟩, 0, rfl, Row.nil (Nat.le_refl _), (Below.refl _ _).alloc (Nat.le_refl _) _⟩
  · exact spec_ReadSet_go l hl hd w

end Go.Proofs.YtfhcakpmlppbkaaGreatDoor.Sets
