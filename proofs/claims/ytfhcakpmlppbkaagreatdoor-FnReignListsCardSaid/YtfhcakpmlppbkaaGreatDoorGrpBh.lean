/- Texts of a claim in one file: TxS ReiN. -/
import Derived.Test.YtfhcakpmlppbkaaGreatDoorGrpAl
import Derived.Test.YtfhcakpmlppbkaaGreatDoorGrpBg
import Derived.Lib.Join
import Derived.Test.YtfhcakpmlppbkaaGreatDoorGrpAt
namespace Go.Proofs.YtfhcakpmlppbkaaGreatDoor.Sets
open Go.RowKit

def wd (s : Int × Int) : List UInt8 := if s.1 < s.2 then Txt.dec s.1 ++ [46, 46] ++ Txt.dec s.2 else Txt.dec s.1
def txt (xs : L) : List UInt8 := if xs = [] then [45] else Lib.join (xs.map wd) [44]
theorem wd_len (s : Int × Int) : (wd s).length ≤ 40 := by
  have a := Txt.dec_length s.1
  have b := Txt.dec_length s.2
  unfold wd
  split <;> simp <;> omega
def J (ps : List (List UInt8)) (k : Nat) : List UInt8 := Lib.join (ps.take k) [44]
theorem J_first {ps : List (List UInt8)} (h : 0 < ps.length) : J ps 1 = ps[0] := by
  cases ps with
  | nil => simp at h
  | cons x r => simp [J, Lib.join_one]
theorem J_next {ps : List (List UInt8)} {k : Nat} (h0 : 0 < k) (h : k < ps.length) : J ps (k + 1) = J ps k ++ [44] ++ ps[k] := by
  cases ps with
  | nil => simp at h
  | cons x r =>
    obtain ⟨j, rfl⟩ : ∃ j, k = j + 1 := ⟨k - 1, by omega⟩
    have hj : j < r.length := by simpa using h
    unfold J
    rw [List.take_succ_cons, List.take_succ_cons, Lib.join_cons, Lib.join_cons, Lib.joinTail_take_succ [44] r j r[j] (List.getElem?_eq_getElem hj)]
    simp [List.append_assoc]
theorem J_len {ps : List (List UInt8)} (h : ∀ p ∈ ps, p.length ≤ 40) : ∀ k, k ≤ ps.length → (J ps k).length ≤ 41 * k := by
  intro k
  induction k with
  | zero => intro _; simp [J, Lib.join_nil]
  | succ k ih =>
    intro hk
    have i := ih (by omega)
    have p := h ps[k] (List.getElem_mem (by omega))
    by_cases h0 : k = 0
    · subst h0
      rw [J_first (by omega)]
      omega
    · rw [J_next (by omega) (by omega)]
      simp
      omega
theorem J_all (ps : List (List UInt8)) : J ps ps.length = Lib.join ps [44] := by simp [J]

set_option maxHeartbeats 1000000 in
theorem spec_join (ps : List (List UInt8)) (g cap : Nat) (hp : ps.length ≤ 300) (h40 : ∀ p ∈ ps, p.length ≤ 40) (w : World) (_hg : g < w.heap.size) (hc : ∀ j (hj : j < ps.length), w.cell? ⟨g, j, none⟩ = some (.string (str ps[j]))) :
    Calls Tryz.prog 71 #[.slice (some ⟨g, 0, none⟩) ps.length cap, .string ⟨#[44]⟩] w (Tx (Lib.join ps [44]) w) := by
  have HC := Lib.hid hc
  have H4 := Lib.hid h40
  clear hc h40
  go_enter Tryz.func71, Tryz.ntmps71
  go_wp2_with fail
  go_loopg [5, 6] ps.length (fun m o i wr => ∃ k : Nat, k ≤ ps.length ∧ m = ps.length - k ∧ i = .int .i64 k ∧ o = .string (str (J ps k)) ∧ Below w.heap.size w wr)
  case atStart => exact ⟨0, by omega, by omega, rfl, rfl, Below.refl _ _⟩
  case round =>
    obtain ⟨k, hk, hm, rfl, rfl, hb⟩ := hrel
    subst hm
    by_cases hlt : k < ps.length
    · have cc := cell_later hb (HC.out k hlt)
      have s1 : (str (J ps k)).size ≤ 12400 := by rw [str_size]; have := J_len H4.out k hk; omega
      have s2 : (str ps[k]).size ≤ 40 := by rw [str_size]; exact H4.out _ (List.getElem_mem hlt)
      by_cases h0 : k = 0
      · have hd : decide (0 < k) = false := by simp [h0]
        have E := Lib.hid (show str (J ps k) ++ str ps[k] = str (J ps (k + 1)) by
          subst h0
          rw [str_add, J_first hlt]
          simp [J, Lib.join_nil])
        clear h0
        go_wp2_with fail
        go_roundg (ps.length - (k + 1))
        case measure => omega
        case rel => exact ⟨k + 1, by omega, by omega, by go_num, congrArg Value.string E.out, hb⟩
      · have h0' : 0 < k := by omega
        have E := Lib.hid (show str (J ps k) ++ (⟨#[44]⟩ : ByteArray) ++ str ps[k] = str (J ps (k + 1)) by
          rw [show (⟨#[44]⟩ : ByteArray) = str [44] from rfl, str_add, str_add, J_next h0' hlt])
        have s3 : (str (J ps k) ++ (⟨#[44]⟩ : ByteArray)).size ≤ 12401 := by
          rw [show (⟨#[44]⟩ : ByteArray) = str [44] from rfl, str_add, str_size]
          have := J_len H4.out k hk
          simp
          omega
        clear h0
        go_wp2_with fail
        go_roundg (ps.length - (k + 1))
        case measure => omega
        case rel => exact ⟨k + 1, by omega, by omega, by go_num, congrArg Value.string E.out, hb⟩
    · have e : k = ps.length := by omega
      have E := Lib.hid (show J ps k = Lib.join ps [44] by rw [e, J_all])
      go_wp2_with fail
      go_ret
      exact ⟨congrArg (fun l => Ending.returned (.string (str l))) E.out, hb⟩

end Go.Proofs.YtfhcakpmlppbkaaGreatDoor.Sets

namespace Go.Proofs.YtfhcakpmlppbkaaGreatDoor.Rei
open Go.RowKit
open Go.Proofs.YtfhcakpmlppbkaaGreatDoor.Eas (It)
open Go.Proofs.YtfhcakpmlppbkaaGreatDoor.Ints (Own)
open Go.Proofs.YtfhcakpmlppbkaaGreatDoor.Sets (cell_keep spec_join)
open Go.Proofs.YtfhcakpmlppbkaaGreatDoor.Fea (isDay spec_day_yes spec_day_no)

/-- What is told of a reign on a day. -/
def rgw (r : ByteArray × Int × Int) (n : Int) : List UInt8 := Txt.dec (ry r.2.1 n) ++ [32] ++ r.1.data.toList
def rgi (xs : LR) (n i : Int) : List UInt8 := match xs[i.toNat]? with
  | some r => rgw r n
  | none => []
theorem rgi_at {xs : LR} {k : Nat} (h : k < xs.length) (n : Int) : rgi xs n k = rgw xs[k] n := by
  unfold rgi
  rw [Int.toNat_natCast, List.getElem?_eq_getElem h]
def rgT (xs : LR) (n : Int) : List UInt8 := if ons xs n xs.length = [] then [45] else Lib.join ((ons xs n xs.length).map (rgi xs n)) [44]
noncomputable def rtL (xs : LR) (n : Int) : List UInt8 := if arOk xs ∧ isDay n then rgT xs n else []
theorem ons_mem {xs : LR} {n : Int} {N : Nat} {x : Int} (h : x ∈ ons xs n N) : ∃ k : Nat, ∃ hk : k < xs.length, x = k ∧ xs[k].2.1 ≤ n ∧ n ≤ xs[k].2.2 := by
  induction N with
  | zero => simp [ons] at h
  | succ N ih =>
    rw [ons] at h
    rcases List.mem_append.1 h with h | h
    · exact ih h
    · split at h
      · rename_i hl
        split at h
        · rename_i hin
          simp at h
          exact ⟨N, hl, h, hin⟩
        · simp at h
      · simp at h
/-- What a call leaves that answers a text and a code. -/
def TxE (l : List UInt8) (E : Int) (w : World) (e : Ending) (w' : World) : Prop := e = .returned (.tuple #[.string (str l), .int .i64 E]) ∧ Below w.heap.size w w'
theorem txe_ret {l l' : List UInt8} {E : Int} (h : l = l') : Ending.returned (.tuple #[.string (str l), .int .i64 E]) = .returned (.tuple #[.string (str l'), .int .i64 E]) := by rw [h]
theorem str_data (s : ByteArray) : str s.data.toList = s := by simp [str]
theorem rgw_len {r : ByteArray × Int × Int} (n : Int) (h : r.1.size ≤ 12) : (rgw r n).length ≤ 40 := by
  have a := Txt.dec_length (ry r.2.1 n)
  have b : r.1.data.toList.length = r.1.size := by rw [Array.length_toList]; rfl
  unfold rgw
  rw [List.length_append, List.length_append, b]
  have : ([32] : List UInt8).length = 1 := rfl
  omega
theorem rgw_str (r : ByteArray × Int × Int) (n : Int) : str (Txt.dec (ry r.2.1 n)) ++ (⟨#[32]⟩ : ByteArray) ++ r.1 = str (rgw r n) := by
  have h : str (Txt.dec (ry r.2.1 n)) ++ (⟨#[32]⟩ : ByteArray) ++ str r.1.data.toList = str (rgw r n) := by
    rw [show (⟨#[32]⟩ : ByteArray) = str [32] from rfl, str_add, str_add]
    rfl
  rwa [str_data] at h

theorem owns_below {w w' : World} {base : Nat} {e : TypeId} {size : Nat} {v : Value} {n : Nat} {xs : List Value} (h : w.ownsRow base e size v n xs) (hb : Below w.heap.size w w') : w'.ownsRow base e size v n xs := by
  refine ⟨h.1, ?_⟩
  rcases h.2 with h0 | ⟨g, cap, cur, hv, hB, hg, rest⟩
  · exact .inl h0
  · exact .inr ⟨g, cap, cur, hv, hB, (hb.block g (Array.getElem?_eq_some_iff.1 hg).1).trans hg, rest⟩
def RtL (xs : LR) (n : Int) (on : List Int) (w : World) (m : Nat) (v i : Value) (wr : World) : Prop :=
  ∃ (k : Nat) (ps : List (List UInt8)), i = .int .i64 k ∧ m = on.length - k ∧ k ≤ on.length ∧ ps.length = k ∧ Hid (ps = (on.take k).map (rgi xs n)) ∧
    wr.ownsRow w.heap.size 9 1 v ps.length (ps.map fun p => Value.string (str p)) ∧ Below w.heap.size w wr
theorem rt_step {on : List Int} {g : Int → List UInt8} {ps : List (List UInt8)} {k : Nat} {t : List UInt8} (hk : k < on.length) (h : ps = (on.take k).map g) (ht : t = g on[k]) : ps ++ [t] = (on.take (k + 1)).map g := by
  rw [List.take_succ_eq_append_getElem hk, List.map_append, h, ht]
  rfl

set_option maxRecDepth 100000 in
set_option maxHeartbeats 4000000 in
theorem spec_RegnalText_yes (A : Option Addr) (N c : Nat) (xs : LR) (n : Int) (ha : arOk xs) (hd : isDay n) (w : World) (h : RdR w A N xs) :
    Calls Tryz.prog 26 #[.slice A N c, .int .i64 n] w (TxE (rgT xs n) 0 w) := by
  have hlen := h.1
  have C := Lib.hid (spec_AreReigns A N c xs (by have := ha.2.2; unfold maxLen; omega) w h)
  rw [decide_eq_true ha] at C
  have D := Lib.hid (spec_day_yes n hd)
  have O := Lib.hid (fun w' k => spec_on7 A N c xs (by have := ha.2.2; omega) n w' k)
  obtain ⟨d0, d1⟩ := hd
  have HL := Lib.hid (show (ons xs n N).length ≤ 30 from Nat.le_trans (ons_len xs n N) (by have := ha.2.2; omega))
  have HM := Lib.hid (fun x hx => ons_mem (xs := xs) (n := n) (N := N) (x := x) hx)
  have HR := Lib.hid (fun k hk => ha.1 k hk)
  have HT := Lib.hid (show rgT xs n = if ons xs n N = [] then [45] else Lib.join ((ons xs n N).map (rgi xs n)) [44] by unfold rgT; rw [hlen])
  have H := Lib.hid h
  have HN := Lib.hid hlen
  clear ha h hlen
  obtain ⟨i0, hi, hz0, hz1, hz2⟩ := info_parts info_str
  generalize ons xs n N = on at *
  go_enter Tryz.func26, Tryz.ntmps26
  go_wp2_with fail
  refine C.out.mono ?_
  rintro e w1 ⟨rfl, hb⟩
  go_wp2_with fail
  refine (D.out _).mono ?_
  rintro e w2 ⟨rfl, rfl⟩
  go_wp2_with fail
  refine (O.out _ (H.out.below hb)).mono ?_
  rintro e w2 ⟨v, rfl, own, hb2⟩
  obtain ⟨OA, oc, rfl, hrow⟩ := own.form
  have hrd := hrow.rd
  have hb3 := hb.trans (hb2.mono hb.size)
  have hlo := HL.out
  clear C D O own hrow hb hb2
  go_wp2_with fail
  go_loopg [7, 8] on.length (fun m v i wr => RtL xs n on w2 m v i wr)
  case atStart =>
    exact ⟨0, [], rfl, by omega, by omega, rfl, Lib.hid rfl, ⟨rfl, .inr ⟨w2.heap.size, 0, #[], rfl, Nat.le_refl _, heap_alloc_new w2 _, Nat.le_refl _, Nat.zero_le _, rfl, rfl⟩⟩, (Below.refl _ _).alloc (Nat.le_refl _) _⟩
  case round =>
    obtain ⟨k, ps, rfl, hm, hk, hps, HP, hown, hbel⟩ := hrel
    subst hm
    by_cases hlt : k < on.length
    · obtain ⟨g1, off1, hl1, rfl, hg1, e0⟩ := (hrd.below hbel).at_ hlt
      obtain ⟨x, hx⟩ : ∃ x, on[k] = x := ⟨_, rfl⟩
      obtain ⟨j, hj, hxj, jin1, jin2⟩ := HM.out x (hx ▸ List.getElem_mem hl1)
      have hjN : j < N := by have := HN.out; omega
      obtain ⟨g2, off2, hl2, rfl, hsz, hg2, c0, c1, c2⟩ := ((H.out.below hb3).below hbel).at_ hjN
      have HO := HR.out j hj
      have HW := Lib.hid (show rgw xs[j] n = rgi xs n on[k] by rw [hx, hxj, rgi_at hj])
      have HS := Lib.hid (rgw_str xs[j] n)
      have HG := Lib.hid (rgw_len n (r := xs[j]) (by have := HO.1.2.2; omega))
      rw [hx] at e0
      rw [hxj] at e0
      obtain ⟨ho1, ⟨f0, f1⟩, ⟨t0, t1⟩, ho4⟩ := HO
      have sz : xs[j].1.size ≤ 12 := by have := ho1.2.2; omega
      have Y := Lib.hid (spec_year7 xs[j].1 xs[j].2.1 xs[j].2.2 n f0 f1 d1 jin1)
      obtain ⟨r1, r2, r3⟩ := ry_bd jin1
      have hyn := yr_le (show n ≤ 730499 from d1)
      have DE := Lib.hid (spec_dec (ry xs[j].2.1 n) (by omega) (by have := (Fea.yr_isY xs[j].2.1 f0 f1).1; have := (Fea.yr_isY n d0 d1).2; omega))
      have sd : (str (Txt.dec (ry xs[j].2.1 n))).size ≤ 19 := by rw [str_size]; exact Txt.dec_length _
      have n1 : ¬ 9223372036854775807 < (str (Txt.dec (ry xs[j].2.1 n))).size + 1 := by omega
      have n2 : ¬ 9223372036854775807 < (str (Txt.dec (ry xs[j].2.1 n))).size + 1 + xs[j].1.size := by omega
      clear hx hxj ho1 t0 t1 ho4 r1 r2 r3 hyn jin1 jin2
      unfold rV at Y
      generalize ry xs[j].2.1 n = yy at *
      generalize xs[j] = q at *
      obtain ⟨s, f, t⟩ := q
      dsimp only at *
      go_wp2_with fail
      have BQ := Blk.new wr 79 #[.string s, .int .i64 f, .int .i64 t]
      have q0 : (wr.alloc (.cells #[.string s, .int .i64 f, .int .i64 t] 79)).drew.cell? ⟨wr.heap.size, 0, none⟩ = some (.string s) := BQ.drew.cell 0
      have q1 : (wr.alloc (.cells #[.string s, .int .i64 f, .int .i64 t] 79)).drew.cell? ⟨wr.heap.size, 1, none⟩ = some (.int .i64 f) := BQ.drew.cell 1
      have q2 : (wr.alloc (.cells #[.string s, .int .i64 f, .int .i64 t] 79)).drew.cell? ⟨wr.heap.size, 2, none⟩ = some (.int .i64 t) := BQ.drew.cell 2
      clear BQ c0 c1 c2 e0
      refine wp_region_held_drew (S := (fun w' => w'.cell? ⟨wr.heap.size, 0, none⟩ = some (.string s) ∧ w'.cell? ⟨wr.heap.size, 1, none⟩ = some (.int .i64 f) ∧ w'.cell? ⟨wr.heap.size, 2, none⟩ = some (.int .i64 t))) (by kernel_rfl) ?_ (fun hHeld => ?_)
      · (exact ⟨q0, q1, q2⟩)
      refine wpAnyH_take (i := 0) (oi := ⟨some 35, _, _, _, _, _⟩) (v := _) rfl (by kernel_rfl) (by kernel_rfl) (by kernel_rfl) (fun _ _ _ h => h) (Or.inl ⟨by kernel_rfl, by (intro wS hSw; (try dsimp only at hSw); go_split_ands; go_simp; (try with_reducible rfl))⟩) (by assumption) ?_
      try simp only [Act.put, List.setIfInBounds_toArray, List.set_cons_zero, List.set_cons_succ]
      refine wpAnyH_take (i := 1) (oi := ⟨some 36, _, _, _, _, _⟩) (v := _) rfl (by kernel_rfl) (by kernel_rfl) (by kernel_rfl) (fun _ _ _ h => h) (Or.inl ⟨by kernel_rfl, by (intro wS hSw; (try dsimp only at hSw); go_split_ands; go_simp; (try with_reducible rfl))⟩) (by assumption) ?_
      try simp only [Act.put, List.setIfInBounds_toArray, List.set_cons_zero, List.set_cons_succ]
      refine wpAnyH_take (i := 2) (oi := ⟨some 37, _, _, _, _, _⟩) (v := _) rfl (by kernel_rfl) (by kernel_rfl) (by kernel_rfl) (fun _ _ _ h => h) (Or.inl ⟨by kernel_rfl, by (intro wS hSw; (try dsimp only at hSw); go_split_ands; go_simp; (try with_reducible rfl))⟩) (by assumption) ?_
      try simp only [Act.put, List.setIfInBounds_toArray, List.set_cons_zero, List.set_cons_succ]
      refine wpAnyH_take (i := 6) (oi := ⟨some 41, _, _, _, _, _⟩) (v := _) rfl (by kernel_rfl) (by kernel_rfl) (by kernel_rfl) (fun _ _ _ h => h) (Or.inl ⟨by kernel_rfl, by (intro wS hSw; (try dsimp only at hSw); go_split_ands; go_simp; (try with_reducible rfl))⟩) (by assumption) ?_
      try simp only [Act.put, List.setIfInBounds_toArray, List.set_cons_zero, List.set_cons_succ]
      refine wpAnyH_take (i := 7) (oi := ⟨some 42, _, _, _, _, _⟩) (v := _) rfl (by kernel_rfl) (by kernel_rfl) (by kernel_rfl) (fun _ _ _ h => h) (Or.inl ⟨by kernel_rfl, by (intro wS hSw; (try dsimp only at hSw); go_split_ands; go_simp; (try with_reducible rfl))⟩) (by assumption) ?_
      try simp only [Act.put, List.setIfInBounds_toArray, List.set_cons_zero, List.set_cons_succ]
      refine wpAnyH_ready (rs := [3]) (by kernel_rfl) (by simp) ?_
      refine AllReadyH.cons (o := ⟨some 38, _, _, _, _, _⟩) rfl (fun K hK => ?_) AllReadyH.nil
      go_simp
      refine (Y.out _).mono ?_
      rintro e w3 ⟨rfl, hb3'⟩
      go_wp2_with fail
      refine hK.out _ _ ?_ (fun hHeld => ?_)
      · ((have a := hHeld.1; have b := hHeld.2.1; have c := hHeld.2.2; exact ⟨cell_keep hb3' a, cell_keep hb3' b, cell_keep hb3' c⟩))
      clear hK K
      try simp only [Act.put, List.setIfInBounds_toArray, List.set_cons_zero, List.set_cons_succ]
      refine wpAnyH_ready (rs := [4]) (by kernel_rfl) (by simp) ?_
      refine AllReadyH.cons (o := ⟨some 39, _, _, _, _, _⟩) rfl (fun K hK => ?_) AllReadyH.nil
      go_simp
      refine (DE.out _).mono ?_
      rintro e w4 ⟨rfl, hb4⟩
      go_wp2_with fail
      refine hK.out _ _ ?_ (fun hHeld => ?_)
      · ((have a := hHeld.1; have b := hHeld.2.1; have c := hHeld.2.2; exact ⟨cell_keep hb4 a, cell_keep hb4 b, cell_keep hb4 c⟩))
      clear hK K
      try simp only [Act.put, List.setIfInBounds_toArray, List.set_cons_zero, List.set_cons_succ]
      refine wpAnyH_take (i := 5) (oi := ⟨some 40, _, _, _, _, _⟩) (v := _) rfl (by kernel_rfl) (by kernel_rfl) (by kernel_rfl) (fun _ _ _ h => h) (Or.inl ⟨by kernel_rfl, by (intro wS hSw; (try dsimp only at hSw); go_split_ands; go_simp; (try with_reducible rfl))⟩) (by assumption) ?_
      try simp only [Act.put, List.setIfInBounds_toArray, List.set_cons_zero, List.set_cons_succ]
      refine wpAnyH_take (i := 8) (oi := ⟨some 43, _, _, _, _, _⟩) (v := _) rfl (by kernel_rfl) (by kernel_rfl) (by kernel_rfl) (fun _ _ _ h => h) (Or.inl ⟨by kernel_rfl, by (intro wS hSw; (try dsimp only at hSw); go_split_ands; go_simp; (try with_reducible rfl))⟩) (by assumption) ?_
      try simp only [Act.put, List.setIfInBounds_toArray, List.set_cons_zero, List.set_cons_succ]
      refine wpAnyH_ready (rs := [9]) (by kernel_rfl) (by simp) ?_
      refine AllReadyH.cons (o := ⟨some 44, _, _, _, _, _⟩) rfl (fun K hK => ?_) AllReadyH.nil
      go_simp
      go_wp2_with fail
      refine hK.out _ _ ?_ (fun hHeld => ?_)
      · ((have a := hHeld.1; have b := hHeld.2.1; have c := hHeld.2.2; exact ⟨Sets.cell_keep ((Below.refl _ _).alloc (Nat.le_refl _) _) a, Sets.cell_keep ((Below.refl _ _).alloc (Nat.le_refl _) _) b, Sets.cell_keep ((Below.refl _ _).alloc (Nat.le_refl _) _) c⟩))
      clear hK K
      try simp only [Act.put, List.setIfInBounds_toArray, List.set_cons_zero, List.set_cons_succ]
      refine wpAnyH_ready (rs := [10]) (by kernel_rfl) (by simp) ?_
      refine AllReadyH.cons (o := ⟨some 45, _, _, _, _, _⟩) rfl (fun K hK => ?_) AllReadyH.nil
      refine Eq.mpr (if_pos (by kernel_rfl)) ?_
      have hbz : Below wr.heap.size wr w4 := (((Below.refl wr.heap.size wr).alloc (Nat.le_refl _) (.cells #[.string s, .int .i64 f, .int .i64 t] 79)).drew.trans (hb3'.mono (by simp))).trans (hb4.mono (by have := hb3'.size; simp at this; omega))
      have hown4 := owns_below hown hbz
      have hbel4 := hbel.trans (hbz.mono hbel.size)
      rw [HS.out] at hHeld ⊢
      refine wp_append_own _ (.tmp 35) (.tmp 44) 57 rfl w2.heap.size 9 i0 (.string ByteArray.empty) 1 16 Tryz.underlying57 hi hz0 hz1 hz2 rfl (by decide) _ _ _ rfl (hown4.alloc _) ⟨w4.heap.size, 0, none⟩ 1 1 [.string (str (rgw (s, f, t) n))] rfl rfl (cell_one_new _ _ _) ?c2 ?c3 ?c4 ?c5 ?_
      case c2 => intro u hu; simp at hu; subst hu; rfl
      case c3 => unfold maxLen; omega
      case c4 => omega
      case c5 => have := hbel4.size; simp; omega
      intro v' w5 hown5 hgrow5 _
      have hb5 := Below.grown (hbel4.alloc hbel4.size (.cells #[.string (str (rgw (s, f, t) n))] 9)) hgrow5 (by have := hbel4.size; simp; omega) (fun g hg => (World.ownsRow.lt hown4 g hg).1)
      have hcz : ∀ i v, i < 3 → (w4.alloc (.cells #[.string (str (rgw (s, f, t) n))] 9)).cell? ⟨wr.heap.size, i, none⟩ = some v → w5.cell? ⟨wr.heap.size, i, none⟩ = some v := fun i v _ hv => (World.cell?_of_block (hgrow5.block _ (by have := hbz.size; have := World.block_lt_of_cell? _ _ hv; simpa using this) (fun e => by have := (World.ownsRow.lt hown _ e.symm).2; simp at this))).trans hv
      refine hK.out _ _ ?_ (fun hHeld => ?_)
      · (have a := hHeld.1; have b := hHeld.2.1; have c := hHeld.2.2; exact ⟨hcz 0 _ (by omega) a, hcz 1 _ (by omega) b, hcz 2 _ (by omega) c⟩)
      clear hK K
      try simp only [Act.put, List.setIfInBounds_toArray, List.set_cons_zero, List.set_cons_succ]
      refine wpAnyH_take (i := 11) (oi := ⟨some 7, _, _, _, _, _⟩) (v := _) rfl (by kernel_rfl) (by kernel_rfl) (by kernel_rfl) (fun _ _ _ h => h) (Or.inl ⟨by kernel_rfl, by (intro wS hSw; (try dsimp only at hSw); go_split_ands; go_simp; (try with_reducible rfl))⟩) (by assumption) ?_
      try simp only [Act.put, List.setIfInBounds_toArray, List.set_cons_zero, List.set_cons_succ]
      refine wpAnyH_done (by kernel_rfl) ?_ _
      have hown9 : w5.ownsRow w2.heap.size 9 1 v' (ps ++ [rgw (s, f, t) n]).length ((ps ++ [rgw (s, f, t) n]).map fun p => Value.string (str p)) := by
        simpa [hps] using hown5
      have HP2 := Lib.hid (rt_step hlt HP.out HW.out)
      clear hown5 hgrow5 hcz hHeld hown4 hown hbel hbel4 hbz n1 n2
      go_wp2_with fail
      go_roundg (on.length - (k + 1))
      case measure => omega
      case rel => exact ⟨k + 1, _, by go_num, by omega, by omega, by simp; omega, HP2, hown9, hb5⟩
    · have ek : k = on.length := by omega
      have HP3 := Lib.hid (show ps = on.map (rgi xs n) by rw [HP.out, ek, List.take_length])
      have hnn : on.length = ps.length := by omega
      have hge : (on.length : Int) ≤ k := by omega
      by_cases hz : ps.length = 0
      · have E := Lib.hid (show [45] = rgT xs n by
          have : on = [] := List.eq_nil_of_length_eq_zero (by omega)
          rw [HT.out, if_pos this])
        have hd : ((ps.length : Int) == 0) = true := by simp [hz]
        rcases hown.2 with ⟨rfl, h0⟩ | ⟨g, cap, cur, rfl, hg, hh, hc, hm2, hcur⟩
        · clear hz ek hnn hps
          go_wp2_with fail
          go_ret2
          exact ⟨txe_ret E.out, hb3.trans (hbel.mono hb3.size)⟩
        · clear hz ek hnn hps
          go_wp2_with fail
          go_ret2
          exact ⟨txe_ret E.out, hb3.trans (hbel.mono hb3.size)⟩
      · have E := Lib.hid (show Lib.join ps [44] = rgT xs n by
          have hne : on ≠ [] := fun e => hz (by rw [← hnn, e]; rfl)
          rw [HP3.out, HT.out, if_neg hne])
        have hd : ((ps.length : Int) == 0) = false := by rw [beq_eq_false_iff_ne]; omega
        have h40 : ∀ p ∈ ps, p.length ≤ 40 := by
          rw [HP3.out]
          intro p hp
          obtain ⟨x, hx, rfl⟩ := List.mem_map.1 hp
          obtain ⟨j, hj, rfl, -, -⟩ := HM.out x hx
          rw [rgi_at hj]
          exact rgw_len n (by have := (HR.out j hj).1.2.2; omega)
        rcases hown.2 with ⟨rfl, h0⟩ | ⟨g, cap, cur, rfl, hg, hh, hc, hm2, hcur⟩
        · exact absurd h0 hz
        · have hgl : g < wr.heap.size := by
            rcases Nat.lt_or_ge g wr.heap.size with h | h
            · exact h
            · rw [Array.getElem?_eq_none h] at hh; cases hh
          have CJ := spec_join ps g cap (by omega) h40 wr hgl (fun j hj => by
            rw [hown.cellAt j (by omega)]
            simp [hj])
          have CJ := Lib.hid CJ
          have hl30 : ps.length ≤ 30 := by omega
          clear hz h40 hh hcur hown ek hnn hps
          go_wp2_with fail
          refine CJ.out.mono ?_
          rintro e w3 ⟨rfl, hb4⟩
          have hfin := hb3.trans ((hbel.trans (hb4.mono hbel.size)).mono hb3.size)
          go_wp2_with fail
          go_ret2
          exact ⟨txe_ret E.out, hfin⟩

noncomputable def rtE (xs : LR) (n : Int) : Int := if ¬ arOk xs then 1 else if isDay n then 0 else 2
set_option maxHeartbeats 1000000 in
theorem spec_RegnalText (A : Option Addr) (N c : Nat) (xs : LR) (hn : N ≤ maxLen) (n : Int) (w : World) (h : RdR w A N xs) :
    Calls Tryz.prog 26 #[.slice A N c, .int .i64 n] w (TxE (rtL xs n) (rtE xs n) w) := by
  by_cases ha : arOk xs
  · by_cases hd : isDay n
    · rw [show rtL xs n = rgT xs n from if_pos ⟨ha, hd⟩, show rtE xs n = 0 from (if_neg (fun k => k ha)).trans (if_pos hd)]
      exact spec_RegnalText_yes A N c xs n ha hd w h
    · have C := Lib.hid (spec_AreReigns A N c xs hn w h)
      rw [decide_eq_true ha] at C
      have D := Lib.hid (spec_day_no n hd)
      rw [show rtL xs n = [] from if_neg (fun k => hd k.2), show rtE xs n = 2 from (if_neg (fun k => k ha)).trans (if_neg hd)]
      clear ha hd h
      go_enter Tryz.func26, Tryz.ntmps26
      go_wp2_with fail
      refine C.out.mono ?_
      rintro e w1 ⟨rfl, hb⟩
      go_wp2_with fail
      refine (D.out _).mono ?_
      rintro e w2 ⟨rfl, rfl⟩
      go_wp2_with fail
      go_ret2
      exact ⟨rfl, hb⟩
  · have C := Lib.hid (spec_AreReigns A N c xs hn w h)
    rw [decide_eq_false ha] at C
    rw [show rtL xs n = [] from if_neg (fun k => ha k.1), show rtE xs n = 1 from if_pos ha]
    clear ha h
    go_enter Tryz.func26, Tryz.ntmps26
    go_wp2_with fail
    refine C.out.mono ?_
    rintro e w1 ⟨rfl, hb⟩
    go_wp2_with fail
    go_ret2
    exact ⟨rfl, hb⟩

end Go.Proofs.YtfhcakpmlppbkaaGreatDoor.Rei
