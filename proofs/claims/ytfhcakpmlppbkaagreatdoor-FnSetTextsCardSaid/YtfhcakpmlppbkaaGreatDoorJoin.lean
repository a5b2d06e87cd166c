/- impl's joining of spans: they are copied, sorted by the library, and joined in place. -/
import Derived.Test.YtfhcakpmlppbkaaGreatDoorSort
namespace Go.Proofs.YtfhcakpmlppbkaaGreatDoor.Sets
open Go.RowKit

/-! ### The row while it is joined in place: what is joined, what is left over, what is to come -/
theorem row_get {ws gar zs : L} {i : Nat} (hi : i < zs.length) (hl : ws.length + gar.length = i) (h : i < (ws ++ gar ++ zs.drop i).length) : (ws ++ gar ++ zs.drop i)[i] = zs[i] := by
  rw [List.getElem_append_right (by rw [List.length_append]; omega)]
  simp [hl]
theorem row_new {ws gar zs : L} {i : Nat} (hi : i < zs.length) : ∃ gar2 : L, gar2.length = gar.length ∧ (ws ++ gar ++ zs.drop i).set ws.length zs[i] = (ws ++ [zs[i]]) ++ gar2 ++ zs.drop (i + 1) := by
  rcases gar with _ | ⟨y, gar⟩
  · refine ⟨[], rfl, ?_⟩
    rw [List.append_nil, List.append_nil, List.set_append_right _ _ (Nat.le_refl _), List.drop_eq_getElem_cons hi, List.append_assoc, Nat.sub_self]
    rfl
  · refine ⟨gar ++ [zs[i]], by simp, ?_⟩
    rw [List.append_assoc, List.set_append_right _ _ (Nat.le_refl _), List.drop_eq_getElem_cons hi]
    simp
theorem row_join {pre gar zs : L} {c d : Int × Int} {i : Nat} (hi : i < zs.length) : ((pre ++ [c]) ++ gar ++ zs.drop i).set pre.length d = (pre ++ [d]) ++ (gar ++ [zs[i]]) ++ zs.drop (i + 1) := by
  rw [List.append_assoc, List.append_assoc, List.set_append_right _ _ (Nat.le_refl _), List.drop_eq_getElem_cons hi]
  simp
theorem row_len {ws gar zs : L} {i : Nat} (hi : i ≤ zs.length) (hl : ws.length + gar.length = i) : (ws ++ gar ++ zs.drop i).length = zs.length := by
  simp; omega

theorem Cells.below {w w' : World} {g cap : Nat} {ys : L} (h : Cells w g cap ys) (hb : Below w.heap.size w w') : Cells w' g cap ys := by
  obtain ⟨cs, hs, hk, hc⟩ := h
  exact ⟨cs, hs, hk.below hb hk.lt, hc⟩

theorem Cells.row {w : World} {g cap : Nat} {ys ws rest : L} (h : Cells w g cap ys) (B : Nat) (e : ys = ws ++ rest) (hB : B ≤ g) : Row w B w.heap.size (some ⟨g, 0, none⟩) ws.length ws.length ws := by
  subst e
  obtain ⟨cs, hs, hk, hc⟩ := h
  refine ⟨rfl, Nat.le_refl _, Nat.le_refl _, fun _ => ⟨g, 0, cs, rfl, hB, hk.lt, hk, fun j hj => ?_⟩⟩
  have h2 := hc j (by rw [List.length_append]; omega)
  rw [List.getElem_append_left hj] at h2
  simpa using h2

/-- The loop that joins in place. -/
def JoinLoop (zs T : L) (N g : Nat) (w : World) (m : Nat) (cn i : Value) (wr : World) : Prop :=
  ∃ (k : Nat) (ws gar : L), i = .int .i64 k ∧ cn = .int .i64 ws.length ∧ m = N - k ∧ k ≤ N ∧ ws.length + gar.length = k ∧ Cells wr g N (ws ++ gar ++ zs.drop k) ∧ Below w.heap.size w wr ∧
    ((k = 0 ∧ ws = []) ∨ ∃ pre c, ws = pre ++ [c] ∧ 0 ≤ c.1 ∧ c.1 ≤ c.2 ∧ c.2 ≤ 730499 ∧ Hid (pre ++ mrg c (zs.drop k) = T))

set_option maxHeartbeats 4000000 in
set_option maxRecDepth 100000 in
theorem impl_join (A1 A2 : Option Addr) (n1 n2 c1 c2 : Nat) (xs ys : L) (hN : n1 + n2 ≤ 2000) (hok : Hid (∀ s ∈ xs ++ ys, ok s)) (w : World) (hx : Rd w A1 n1 xs) (hy : Rd w A2 n2 ys) :
    Calls Tryz.prog 50 #[.slice A1 n1 c1, .slice A2 n2 c2] w (Spans (make (xs ++ ys)) w) := by
  have hmk := run_make_spans (n1 + n2) (by omega)
  rw [Int.natCast_add] at hmk
  have hl1 := Lib.hid hx.1
  have hl2 := Lib.hid hy.1
  have HC0 : Cells (w.alloc (.cells (madeCells #[.int .i64 0, .int .i64 0] ((n1 + n2) * 2)) 36)) w.heap.size (n1 + n2) [] := ⟨_, size_madeCells _ _, Blk.new _ _ _, fun j h => absurd h (by simp)⟩
  have hb0 : Below w.heap.size w (w.alloc (.cells (madeCells #[.int .i64 0, .int .i64 0] ((n1 + n2) * 2)) 36)) := (Below.refl _ _).alloc (Nat.le_refl _) _
  go_enter Tryz.func50, Tryz.ntmps50
  go_wp2_with (refine copy_spans (o := ⟨some 18, _, _, _, _, _⟩) HC0 (hx.below hb0) (by simp) hb0 (Nat.le_refl _) rfl (.tmp 16) (.tmp 17) rfl (some ⟨w.heap.size, 0, none⟩) (n1 + n2) (n1 + n2) rfl rfl (fun _ => ⟨by simp, by omega⟩) ?_)
  intro w1 HC1 hb1
  clear HC0 hb0 hmk
  have i0 : (0 : Int) ≤ (n1 : Int) := by omega
  have i1 : (n1 : Int) ≤ (n1 : Int) + (n2 : Int) := by omega
  have hfit : xs.length + n2 ≤ n1 + n2 := by have := hl1.out; omega
  go_wp2_with (refine copy_spans (o := ⟨some 21, _, _, _, _, _⟩) HC1 (hy.below hb1) hfit hb1 (Nat.le_refl _) rfl (.tmp 19) (.tmp 20) rfl _ _ _ rfl rfl (fun h => ⟨by first | omega | (simp [hl1.out]; intro _; omega), by omega⟩) ?_)
  · intro w2 HC2 hb2
    have hlen : (xs ++ ys).length = n1 := by have := hl1.out; have := hl2.out; rw [List.length_append]; omega
    have HLEN := Lib.hid hlen
    clear HC1 hb1 hlen
    go_wp2_with fail
    refine (impl_sort w.heap.size n1 (xs ++ ys) w2 HC2 HLEN.out (by omega) w.heap.size (Nat.le_refl _)).mono ?_
    rintro e w3 ⟨rfl, zs, hzl, hzm, hza, HC3, hb3'⟩
    have hb3 := hb2.trans hb3'
    have MK := Lib.hid (merge_any hok.out hzm hza)
    have OKZ : Hid (∀ s ∈ zs, ok s) := Lib.hid fun s hs => hok.out s ((hzm s).1 hs)
    have HZ := Lib.hid hzl
    clear HC2 hb2 hb3' hzm hza hzl hok
    go_wp2_with fail
    go_loopg [6, 26] n1 (fun m cn i wr => JoinLoop zs (make (xs ++ ys)) n1 w.heap.size w m cn i wr)
    case atStart => exact ⟨0, [], [], rfl, by first | rfl | simp, by omega, by omega, rfl, by simpa using HC3, hb3, .inl ⟨rfl, rfl⟩⟩
    case round =>
      clear HC3 hb3
      obtain ⟨k, ws, gar, rfl, rfl, hm, hk, hwg, HC, hb, hst⟩ := hrel
      subst hm
      have hzk : k ≤ zs.length := by have := HZ.out; omega
      have hrl := row_len hzk hwg
      have hle0 : (ws ++ gar ++ zs.drop k).length ≤ n1 := by have := HZ.out; omega
      by_cases hlt : k < n1
      · have hkl : k < zs.length := by have := HZ.out; omega
        obtain ⟨s0, s1, s2⟩ := OKZ.out _ (List.getElem_mem hkl)
        have hkr : k < (ws ++ gar ++ zs.drop k).length := by omega
        obtain ⟨c0, c1, -, -⟩ := HC.at_ hle0 hkr
        have er := row_get hkl hwg hkr
        rw [er] at c0 c1
        have hwl : ws.length < (ws ++ gar ++ zs.drop k).length := by omega
        obtain ⟨gar2, hg2, eset⟩ := row_new (ws := ws) (gar := gar) hkl
        have EL := Lib.hid hrl
        clear hrl er
        rcases hst with ⟨k0, rfl⟩ | ⟨pre, c, rfl, hc0, hc1, hc2, HM⟩
        · have hz : k = 0 := k0
          have HM := Lib.hid (show ([] : L) ++ mrg zs[k] (zs.drop (k + 1)) = make (xs ++ ys) by rw [← MK.out]; subst hz; exact merge_first hkl)
          have bw : Below wr.heap.size wr (wr.alloc (.cells #[.int .i64 zs[k].1, .int .i64 zs[k].2] 36)) := (Below.refl _ _).alloc (Nat.le_refl _) _
          have hbq := below_on hb bw
          have HCq := HC.below bw
          have q := Blk.new wr 36 #[.int .i64 zs[k].1, .int .i64 zs[k].2]
          have q0 : (wr.alloc (.cells #[.int .i64 zs[k].1, .int .i64 zs[k].2] 36)).cell? ⟨wr.heap.size, 0, none⟩ = some (.int .i64 zs[k].1) := q.cell 0
          have q1 : (wr.alloc (.cells #[.int .i64 zs[k].1, .int .i64 zs[k].2] 36)).cell? ⟨wr.heap.size, 1, none⟩ = some (.int .i64 zs[k].2) := q.cell 1
          obtain ⟨p0, p1, f0, f1⟩ := HCq.at_ hle0 hwl
          simp only [List.length_nil, Nat.zero_mul, Nat.zero_add] at p0 p1 f0 f1
          have hbd := hbq
          have hg3 : gar2.length = k := by simp only [List.length_nil] at hwg; omega
          have i2 : (0 : Int) < ((n1 : Nat) : Int) := by omega
          simp only [List.length_nil]
          clear k0 hz hb bw hwg hg2 q
          go_wp2_with fail
          go_quiet (fail)
          have HCd : Cells ((wr.alloc (.cells #[.int .i64 zs[k].1, .int .i64 zs[k].2] 36)).drewN nq) w.heap.size n1 ([] ++ gar ++ zs.drop k) := HCq
          have ST := HCd.set hle0 hwl zs[k]
          rw [eset] at ST
          simp only [List.length_nil, Nat.zero_mul] at ST
          have HS := Lib.hid ST
          have hbe := below_drewN hbd nq
          have q0' : ((wr.alloc (.cells #[.int .i64 zs[k].1, .int .i64 zs[k].2] 36)).drewN nq).cell? ⟨wr.heap.size, 0, none⟩ = some (.int .i64 zs[k].1) := q0
          have q1' : ((wr.alloc (.cells #[.int .i64 zs[k].1, .int .i64 zs[k].2] 36)).drewN nq).cell? ⟨wr.heap.size, 1, none⟩ = some (.int .i64 zs[k].2) := q1
          have p0' := (show ((wr.alloc (.cells #[.int .i64 zs[k].1, .int .i64 zs[k].2] 36)).drewN nq).cell? ⟨w.heap.size, 0, none⟩ = _ from p0)
          have p1' := (show ((wr.alloc (.cells #[.int .i64 zs[k].1, .int .i64 zs[k].2] 36)).drewN nq).cell? ⟨w.heap.size, 1, none⟩ = _ from p1)
          have f0' : ((wr.alloc (.cells #[.int .i64 zs[k].1, .int .i64 zs[k].2] 36)).drewN nq).frozen? ⟨w.heap.size, 0, none⟩ = false := f0
          have f1' : ((wr.alloc (.cells #[.int .i64 zs[k].1, .int .i64 zs[k].2] 36)).drewN nq).frozen? ⟨w.heap.size, 1, none⟩ = false := f1
          clear ST HCd HCq hbd hbq q0 q1 p0 p1 f0 f1 c0 c1 HC eset
          generalize (wr.alloc (.cells #[.int .i64 zs[k].1, .int .i64 zs[k].2] 36)).drewN nq = w5 at HS hbe q0' q1' p0' p1' f0' f1' ⊢
          go_wp2_with fail
          go_roundg (n1 - (k + 1))
          case measure => omega
          case rel => exact ⟨k + 1, [zs[k]], gar2, by go_num, rfl, by omega, by omega, by simp; omega, HS.out, (hbe.setCell (Nat.le_refl _) _).setCell (Nat.le_refl _) _, .inr ⟨[], zs[k], rfl, s0, s1, s2, HM⟩⟩
        · have hpl : pre.length < ((pre ++ [c]) ++ gar ++ zs.drop k).length := by have := EL.out; simp only [List.length_append, List.length_cons, List.length_nil] at this hwg ⊢; omega
          have bw : Below wr.heap.size wr (wr.alloc (.cells #[.int .i64 zs[k].1, .int .i64 zs[k].2] 36)) := (Below.refl _ _).alloc (Nat.le_refl _) _
          have hbq := below_on hb bw
          have HCq := HC.below bw
          have q := Blk.new wr 36 #[.int .i64 zs[k].1, .int .i64 zs[k].2]
          have q0 : (wr.alloc (.cells #[.int .i64 zs[k].1, .int .i64 zs[k].2] 36)).cell? ⟨wr.heap.size, 0, none⟩ = some (.int .i64 zs[k].1) := q.cell 0
          have q1 : (wr.alloc (.cells #[.int .i64 zs[k].1, .int .i64 zs[k].2] 36)).cell? ⟨wr.heap.size, 1, none⟩ = some (.int .i64 zs[k].2) := q.cell 1
          obtain ⟨e0, e1, g0, g1⟩ := HCq.at_ hle0 hpl
          have ec : ((pre ++ [c]) ++ gar ++ zs.drop k)[pre.length]'hpl = c := by
            simp [List.append_assoc]
          rw [ec] at e0 e1
          have w1' : IntKind.i64.wrap (c.2 + 1) = c.2 + 1 := IntWalk.i64_in _ ⟨by omega, by omega⟩
          have lw : (pre ++ [c]).length = pre.length + 1 := by simp
          have hpk : pre.length + 1 + gar.length = k := by rw [← lw]; exact hwg
          have j0 : (0 : Int) ≤ (pre.length : Int) := by omega
          have j1 : (pre.length : Int) < ((n1 : Nat) : Int) := by omega
          have jw : IntKind.i64.wrap (pre.length : Int) = (pre.length : Int) := IntWalk.i64_in _ ⟨by omega, by omega⟩
          have hz1 : decide (0 < pre.length + 1) = true := by simp
          have hz2 : decide ((0 : Int) < (pre.length : Int) + 1) = true := decide_eq_true (by omega)
          rw [lw]
          by_cases hj : zs[k].1 ≤ c.2 + 1
          · have hd : decide (zs[k].1 ≤ c.2 + 1) = true := by simpa using hj
            have HN := Lib.hid (mrg_join hkl hj HM.out)
            obtain ⟨e, hE⟩ : ∃ e, (if c.2 < zs[k].2 then zs[k].2 else c.2) = e := ⟨_, rfl⟩
            have hE2 : max c.2 zs[k].2 = e := by rw [← hE]; split <;> omega
            rw [hE2] at HN
            have be : c.1 ≤ e ∧ e ≤ 730499 := by omega
            clear hj HM bw
            go_wp2_with fail
            go_quiet (fail)
            have HCd : Cells ((wr.alloc (.cells #[.int .i64 zs[k].1, .int .i64 zs[k].2] 36)).drewN nq) w.heap.size n1 ((pre ++ [c]) ++ gar ++ zs.drop k) := HCq
            have ST := HCd.set2 hle0 hpl e
            rw [ec, row_join hkl] at ST
            have HS : Hid (Cells ((((wr.alloc (.cells #[.int .i64 zs[k].1, .int .i64 zs[k].2] 36)).drewN nq).setCell ⟨w.heap.size, pre.length * 2 + 1, none⟩ (.int .i64 e)).drew) w.heap.size n1 ((pre ++ [(c.1, e)]) ++ (gar ++ [zs[k]]) ++ zs.drop (k + 1))) := Lib.hid ST
            have hbe := below_drewN hbq nq
            have q1' : ((wr.alloc (.cells #[.int .i64 zs[k].1, .int .i64 zs[k].2] 36)).drewN nq).cell? ⟨wr.heap.size, 1, none⟩ = some (.int .i64 zs[k].2) := q1
            have e1' : ((wr.alloc (.cells #[.int .i64 zs[k].1, .int .i64 zs[k].2] 36)).drewN nq).cell? ⟨w.heap.size, pre.length * 2 + 1, none⟩ = some (.int .i64 c.2) := e1
            have g1' : ((wr.alloc (.cells #[.int .i64 zs[k].1, .int .i64 zs[k].2] 36)).drewN nq).frozen? ⟨w.heap.size, pre.length * 2 + 1, none⟩ = false := g1
            clear ST HCd HCq hbq q0 q1 e0 e1 g0 g1 c0 c1 HC eset hb q ec
            generalize (wr.alloc (.cells #[.int .i64 zs[k].1, .int .i64 zs[k].2] 36)).drewN nq = w5 at HS hbe q1' e1' g1' ⊢
            go_wp2_with fail
            refine' via ?proof ?rest
            case rest => (intro hK; go_region; exact hK)
            go_wp2_with fail
            go_roundg (n1 - (k + 1))
            case measure => omega
            case rel => exact ⟨k + 1, pre ++ [(c.1, e)], gar ++ [zs[k]], by go_num, by simp, by omega, by omega, by simp; omega, HS.out, (hbe.setCell (Nat.le_refl _) _).drew, .inr ⟨pre, (c.1, e), rfl, hc0, be.1, be.2, HN⟩⟩
          · have hd : decide (zs[k].1 ≤ c.2 + 1) = false := by simpa using hj
            have HN := Lib.hid (mrg_next hkl hj HM.out)
            obtain ⟨p0, p1, f0, f1⟩ := HCq.at_ hle0 hwl
            have j3 : (pre.length : Int) + 1 < ((n1 : Nat) : Int) := by omega
            have j4 : (0 : Int) ≤ (pre.length : Int) + 1 := by omega
            clear hj HM bw
            go_wp2_with fail
            go_quiet (fail)
            have HCd : Cells ((wr.alloc (.cells #[.int .i64 zs[k].1, .int .i64 zs[k].2] 36)).drewN nq) w.heap.size n1 ((pre ++ [c]) ++ gar ++ zs.drop k) := HCq
            have ST := HCd.set hle0 hwl zs[k]
            rw [eset, lw] at ST
            have HS := Lib.hid ST
            have hbe := below_drewN hbq nq
            have q0' : ((wr.alloc (.cells #[.int .i64 zs[k].1, .int .i64 zs[k].2] 36)).drewN nq).cell? ⟨wr.heap.size, 0, none⟩ = some (.int .i64 zs[k].1) := q0
            have q1' : ((wr.alloc (.cells #[.int .i64 zs[k].1, .int .i64 zs[k].2] 36)).drewN nq).cell? ⟨wr.heap.size, 1, none⟩ = some (.int .i64 zs[k].2) := q1
            obtain ⟨u0, p0⟩ : ∃ u, (wr.alloc (.cells #[.int .i64 zs[k].1, .int .i64 zs[k].2] 36)).cell? ⟨w.heap.size, (pre ++ [c]).length * 2, none⟩ = some u := ⟨_, p0⟩
            obtain ⟨u1, p1⟩ : ∃ u, (wr.alloc (.cells #[.int .i64 zs[k].1, .int .i64 zs[k].2] 36)).cell? ⟨w.heap.size, (pre ++ [c]).length * 2 + 1, none⟩ = some u := ⟨_, p1⟩
            rw [lw] at p0 p1 f0 f1
            have p0' := (show ((wr.alloc (.cells #[.int .i64 zs[k].1, .int .i64 zs[k].2] 36)).drewN nq).cell? ⟨w.heap.size, (pre.length + 1) * 2, none⟩ = _ from p0)
            have p1' := (show ((wr.alloc (.cells #[.int .i64 zs[k].1, .int .i64 zs[k].2] 36)).drewN nq).cell? ⟨w.heap.size, (pre.length + 1) * 2 + 1, none⟩ = _ from p1)
            have f0' : ((wr.alloc (.cells #[.int .i64 zs[k].1, .int .i64 zs[k].2] 36)).drewN nq).frozen? ⟨w.heap.size, (pre.length + 1) * 2, none⟩ = false := f0
            have f1' : ((wr.alloc (.cells #[.int .i64 zs[k].1, .int .i64 zs[k].2] 36)).drewN nq).frozen? ⟨w.heap.size, (pre.length + 1) * 2 + 1, none⟩ = false := f1
            clear ST HCd HCq hbq q0 q1 e0 e1 g0 g1 c0 c1 HC eset hb q ec p0 p1 f0 f1
            generalize (wr.alloc (.cells #[.int .i64 zs[k].1, .int .i64 zs[k].2] 36)).drewN nq = w5 at HS hbe q0' q1' p0' p1' f0' f1' ⊢
            go_wp2_with fail
            go_roundg (n1 - (k + 1))
            case measure => omega
            case rel => exact ⟨k + 1, (pre ++ [c]) ++ [zs[k]], gar2, by go_num, by simp; go_num, by omega, by omega, by simp; omega, HS.out, (hbe.setCell (Nat.le_refl _) _).setCell (Nat.le_refl _) _, .inr ⟨pre ++ [c], zs[k], rfl, s0, s1, s2, HN⟩⟩
      · have hend : ws = make (xs ++ ys) := by
          rcases hst with ⟨rfl, rfl⟩ | ⟨pre, c, rfl, hc0, hc1, hc2, HM⟩
          · rw [← MK.out, show zs = [] from List.eq_nil_of_length_eq_zero (by have := HZ.out; omega)]
            rfl
          · have := HM.out
            rw [show zs.drop k = [] from List.drop_eq_nil_of_le (by have := HZ.out; omega)] at this
            exact this
        have hrow := HC.row w.heap.size (ws := ws) (rest := gar ++ zs.drop k) (by rw [List.append_assoc]) (Nat.le_refl _)
        have h0 : (0 : Int) ≤ (ws.length : Int) := by omega
        have h1 : (ws.length : Int) ≤ ((n1 : Nat) : Int) := by omega
        have R := Lib.hid hrow
        subst hend
        clear hrow HC hst hrl hle0
        go_wp2_with fail
        go_ret
        exact ⟨_, _, rfl, R.out, hb⟩
  · intro w2 HC2 hb2
    have hlen : (xs ++ ys).length = (n1 + n2) := by have := hl1.out; have := hl2.out; rw [List.length_append]; omega
    have HLEN := Lib.hid hlen
    clear HC1 hb1 hlen
    go_wp2_with fail
    refine (impl_sort w.heap.size (n1 + n2) (xs ++ ys) w2 HC2 HLEN.out (by omega) w.heap.size (Nat.le_refl _)).mono ?_
    rintro e w3 ⟨rfl, zs, hzl, hzm, hza, HC3, hb3'⟩
    have hb3 := hb2.trans hb3'
    have MK := Lib.hid (merge_any hok.out hzm hza)
    have OKZ : Hid (∀ s ∈ zs, ok s) := Lib.hid fun s hs => hok.out s ((hzm s).1 hs)
    have HZ := Lib.hid hzl
    clear HC2 hb2 hb3' hzm hza hzl hok
    go_wp2_with fail
    go_loopg [6, 26] (n1 + n2) (fun m cn i wr => JoinLoop zs (make (xs ++ ys)) (n1 + n2) w.heap.size w m cn i wr)
    case atStart => exact ⟨0, [], [], rfl, by first | rfl | simp, by omega, by omega, rfl, by simpa using HC3, hb3, .inl ⟨rfl, rfl⟩⟩
    case round =>
      clear HC3 hb3
      obtain ⟨k, ws, gar, rfl, rfl, hm, hk, hwg, HC, hb, hst⟩ := hrel
      subst hm
      have hzk : k ≤ zs.length := by have := HZ.out; omega
      have hrl := row_len hzk hwg
      have hle0 : (ws ++ gar ++ zs.drop k).length ≤ (n1 + n2) := by have := HZ.out; omega
      by_cases hlt : k < (n1 + n2)
      · have hkl : k < zs.length := by have := HZ.out; omega
        obtain ⟨s0, s1, s2⟩ := OKZ.out _ (List.getElem_mem hkl)
        have hkr : k < (ws ++ gar ++ zs.drop k).length := by omega
        obtain ⟨c0, c1, -, -⟩ := HC.at_ hle0 hkr
        have er := row_get hkl hwg hkr
        rw [er] at c0 c1
        have hwl : ws.length < (ws ++ gar ++ zs.drop k).length := by omega
        obtain ⟨gar2, hg2, eset⟩ := row_new (ws := ws) (gar := gar) hkl
        have EL := Lib.hid hrl
        clear hrl er
        rcases hst with ⟨k0, rfl⟩ | ⟨pre, c, rfl, hc0, hc1, hc2, HM⟩
        · have hz : k = 0 := k0
          have HM := Lib.hid (show ([] : L) ++ mrg zs[k] (zs.drop (k + 1)) = make (xs ++ ys) by rw [← MK.out]; subst hz; exact merge_first hkl)
          have bw : Below wr.heap.size wr (wr.alloc (.cells #[.int .i64 zs[k].1, .int .i64 zs[k].2] 36)) := (Below.refl _ _).alloc (Nat.le_refl _) _
          have hbq := below_on hb bw
          have HCq := HC.below bw
          have q := Blk.new wr 36 #[.int .i64 zs[k].1, .int .i64 zs[k].2]
          have q0 : (wr.alloc (.cells #[.int .i64 zs[k].1, .int .i64 zs[k].2] 36)).cell? ⟨wr.heap.size, 0, none⟩ = some (.int .i64 zs[k].1) := q.cell 0
          have q1 : (wr.alloc (.cells #[.int .i64 zs[k].1, .int .i64 zs[k].2] 36)).cell? ⟨wr.heap.size, 1, none⟩ = some (.int .i64 zs[k].2) := q.cell 1
          obtain ⟨p0, p1, f0, f1⟩ := HCq.at_ hle0 hwl
          simp only [List.length_nil, Nat.zero_mul, Nat.zero_add] at p0 p1 f0 f1
          have hbd := hbq
          have hg3 : gar2.length = k := by simp only [List.length_nil] at hwg; omega
          have i2 : (0 : Int) < (((n1 + n2) : Nat) : Int) := by omega
          simp only [List.length_nil]
          clear k0 hz hb bw hwg hg2 q
          go_wp2_with fail
          go_quiet (fail)
          have HCd : Cells ((wr.alloc (.cells #[.int .i64 zs[k].1, .int .i64 zs[k].2] 36)).drewN nq) w.heap.size (n1 + n2) ([] ++ gar ++ zs.drop k) := HCq
          have ST := HCd.set hle0 hwl zs[k]
          rw [eset] at ST
          simp only [List.length_nil, Nat.zero_mul] at ST
          have HS := Lib.hid ST
          have hbe := below_drewN hbd nq
          have q0' : ((wr.alloc (.cells #[.int .i64 zs[k].1, .int .i64 zs[k].2] 36)).drewN nq).cell? ⟨wr.heap.size, 0, none⟩ = some (.int .i64 zs[k].1) := q0
          have q1' : ((wr.alloc (.cells #[.int .i64 zs[k].1, .int .i64 zs[k].2] 36)).drewN nq).cell? ⟨wr.heap.size, 1, none⟩ = some (.int .i64 zs[k].2) := q1
          have p0' := (show ((wr.alloc (.cells #[.int .i64 zs[k].1, .int .i64 zs[k].2] 36)).drewN nq).cell? ⟨w.heap.size, 0, none⟩ = _ from p0)
          have p1' := (show ((wr.alloc (.cells #[.int .i64 zs[k].1, .int .i64 zs[k].2] 36)).drewN nq).cell? ⟨w.heap.size, 1, none⟩ = _ from p1)
          have f0' : ((wr.alloc (.cells #[.int .i64 zs[k].1, .int .i64 zs[k].2] 36)).drewN nq).frozen? ⟨w.heap.size, 0, none⟩ = false := f0
          have f1' : ((wr.alloc (.cells #[.int .i64 zs[k].1, .int .i64 zs[k].2] 36)).drewN nq).frozen? ⟨w.heap.size, 1, none⟩ = false := f1
          clear ST HCd HCq hbd hbq q0 q1 p0 p1 f0 f1 c0 c1 HC eset
          generalize (wr.alloc (.cells #[.int .i64 zs[k].1, .int .i64 zs[k].2] 36)).drewN nq = w5 at HS hbe q0' q1' p0' p1' f0' f1' ⊢
          go_wp2_with fail
          go_roundg ((n1 + n2) - (k + 1))
          case measure => omega
          case rel => exact ⟨k + 1, [zs[k]], gar2, by go_num, rfl, by omega, by omega, by simp; omega, HS.out, (hbe.setCell (Nat.le_refl _) _).setCell (Nat.le_refl _) _, .inr ⟨[], zs[k], rfl, s0, s1, s2, HM⟩⟩
        · have hpl : pre.length < ((pre ++ [c]) ++ gar ++ zs.drop k).length := by have := EL.out; simp only [List.length_append, List.length_cons, List.length_nil] at this hwg ⊢; omega
          have bw : Below wr.heap.size wr (wr.alloc (.cells #[.int .i64 zs[k].1, .int .i64 zs[k].2] 36)) := (Below.refl _ _).alloc (Nat.le_refl _) _
          have hbq := below_on hb bw
          have HCq := HC.below bw
          have q := Blk.new wr 36 #[.int .i64 zs[k].1, .int .i64 zs[k].2]
          have q0 : (wr.alloc (.cells #[.int .i64 zs[k].1, .int .i64 zs[k].2] 36)).cell? ⟨wr.heap.size, 0, none⟩ = some (.int .i64 zs[k].1) := q.cell 0
          have q1 : (wr.alloc (.cells #[.int .i64 zs[k].1, .int .i64 zs[k].2] 36)).cell? ⟨wr.heap.size, 1, none⟩ = some (.int .i64 zs[k].2) := q.cell 1
          obtain ⟨e0, e1, g0, g1⟩ := HCq.at_ hle0 hpl
          have ec : ((pre ++ [c]) ++ gar ++ zs.drop k)[pre.length]'hpl = c := by
            simp [List.append_assoc]
          rw [ec] at e0 e1
          have w1' : IntKind.i64.wrap (c.2 + 1) = c.2 + 1 := IntWalk.i64_in _ ⟨by omega, by omega⟩
          have lw : (pre ++ [c]).length = pre.length + 1 := by simp
          have hpk : pre.length + 1 + gar.length = k := by rw [← lw]; exact hwg
          have j0 : (0 : Int) ≤ (pre.length : Int) := by omega
          have j1 : (pre.length : Int) < (((n1 + n2) : Nat) : Int) := by omega
          have jw : IntKind.i64.wrap (pre.length : Int) = (pre.length : Int) := IntWalk.i64_in _ ⟨by omega, by omega⟩
          have hz1 : decide (0 < pre.length + 1) = true := by simp
          have hz2 : decide ((0 : Int) < (pre.length : Int) + 1) = true := decide_eq_true (by omega)
          rw [lw]
          by_cases hj : zs[k].1 ≤ c.2 + 1
          · have hd : decide (zs[k].1 ≤ c.2 + 1) = true := by simpa using hj
            have HN := Lib.hid (mrg_join hkl hj HM.out)
            obtain ⟨e, hE⟩ : ∃ e, (if c.2 < zs[k].2 then zs[k].2 else c.2) = e := ⟨_, rfl⟩
            have hE2 : max c.2 zs[k].2 = e := by rw [← hE]; split <;> omega
            rw [hE2] at HN
            have be : c.1 ≤ e ∧ e ≤ 730499 := by omega
            clear hj HM bw
            go_wp2_with fail
            go_quiet (fail)
            have HCd : Cells ((wr.alloc (.cells #[.int .i64 zs[k].1, .int .i64 zs[k].2] 36)).drewN nq) w.heap.size (n1 + n2) ((pre ++ [c]) ++ gar ++ zs.drop k) := HCq
            have ST := HCd.set2 hle0 hpl e
            rw [ec, row_join hkl] at ST
            have HS : Hid (Cells ((((wr.alloc (.cells #[.int .i64 zs[k].1, .int .i64 zs[k].2] 36)).drewN nq).setCell ⟨w.heap.size, pre.length * 2 + 1, none⟩ (.int .i64 e)).drew) w.heap.size (n1 + n2) ((pre ++ [(c.1, e)]) ++ (gar ++ [zs[k]]) ++ zs.drop (k + 1))) := Lib.hid ST
            have hbe := below_drewN hbq nq
            have q1' : ((wr.alloc (.cells #[.int .i64 zs[k].1, .int .i64 zs[k].2] 36)).drewN nq).cell? ⟨wr.heap.size, 1, none⟩ = some (.int .i64 zs[k].2) := q1
            have e1' : ((wr.alloc (.cells #[.int .i64 zs[k].1, .int .i64 zs[k].2] 36)).drewN nq).cell? ⟨w.heap.size, pre.length * 2 + 1, none⟩ = some (.int .i64 c.2) := e1
            have g1' : ((wr.alloc (.cells #[.int .i64 zs[k].1, .int .i64 zs[k].2] 36)).drewN nq).frozen? ⟨w.heap.size, pre.length * 2 + 1, none⟩ = false := g1
            clear ST HCd HCq hbq q0 q1 e0 e1 g0 g1 c0 c1 HC eset hb q ec
            generalize (wr.alloc (.cells #[.int .i64 zs[k].1, .int .i64 zs[k].2] 36)).drewN nq = w5 at HS hbe q1' e1' g1' ⊢
            go_wp2_with fail
            refine' via ?proof2 ?rest2
            case rest2 => (intro hK; go_region; exact hK)
            go_wp2_with fail
            go_roundg ((n1 + n2) - (k + 1))
            case measure => omega
            case rel => exact ⟨k + 1, pre ++ [(c.1, e)], gar ++ [zs[k]], by go_num, by simp, by omega, by omega, by simp; omega, HS.out, (hbe.setCell (Nat.le_refl _) _).drew, .inr ⟨pre, (c.1, e), rfl, hc0, be.1, be.2, HN⟩⟩
          · have hd : decide (zs[k].1 ≤ c.2 + 1) = false := by simpa using hj
            have HN := Lib.hid (mrg_next hkl hj HM.out)
            obtain ⟨p0, p1, f0, f1⟩ := HCq.at_ hle0 hwl
            have j3 : (pre.length : Int) + 1 < (((n1 + n2) : Nat) : Int) := by omega
            have j4 : (0 : Int) ≤ (pre.length : Int) + 1 := by omega
            clear hj HM bw
            go_wp2_with fail
            go_quiet (fail)
            have HCd : Cells ((wr.alloc (.cells #[.int .i64 zs[k].1, .int .i64 zs[k].2] 36)).drewN nq) w.heap.size (n1 + n2) ((pre ++ [c]) ++ gar ++ zs.drop k) := HCq
            have ST := HCd.set hle0 hwl zs[k]
            rw [eset, lw] at ST
            have HS := Lib.hid ST
            have hbe := below_drewN hbq nq
            have q0' : ((wr.alloc (.cells #[.int .i64 zs[k].1, .int .i64 zs[k].2] 36)).drewN nq).cell? ⟨wr.heap.size, 0, none⟩ = some (.int .i64 zs[k].1) := q0
            have q1' : ((wr.alloc (.cells #[.int .i64 zs[k].1, .int .i64 zs[k].2] 36)).drewN nq).cell? ⟨wr.heap.size, 1, none⟩ = some (.int .i64 zs[k].2) := q1
            obtain ⟨u0, p0⟩ : ∃ u, (wr.alloc (.cells #[.int .i64 zs[k].1, .int .i64 zs[k].2] 36)).cell? ⟨w.heap.size, (pre ++ [c]).length * 2, none⟩ = some u := ⟨_, p0⟩
            obtain ⟨u1, p1⟩ : ∃ u, (wr.alloc (.cells #[.int .i64 zs[k].1, .int .i64 zs[k].2] 36)).cell? ⟨w.heap.size, (pre ++ [c]).length * 2 + 1, none⟩ = some u := ⟨_, p1⟩
            rw [lw] at p0 p1 f0 f1
            have p0' := (show ((wr.alloc (.cells #[.int .i64 zs[k].1, .int .i64 zs[k].2] 36)).drewN nq).cell? ⟨w.heap.size, (pre.length + 1) * 2, none⟩ = _ from p0)
            have p1' := (show ((wr.alloc (.cells #[.int .i64 zs[k].1, .int .i64 zs[k].2] 36)).drewN nq).cell? ⟨w.heap.size, (pre.length + 1) * 2 + 1, none⟩ = _ from p1)
            have f0' : ((wr.alloc (.cells #[.int .i64 zs[k].1, .int .i64 zs[k].2] 36)).drewN nq).frozen? ⟨w.heap.size, (pre.length + 1) * 2, none⟩ = false := f0
            have f1' : ((wr.alloc (.cells #[.int .i64 zs[k].1, .int .i64 zs[k].2] 36)).drewN nq).frozen? ⟨w.heap.size, (pre.length + 1) * 2 + 1, none⟩ = false := f1
            clear ST HCd HCq hbq q0 q1 e0 e1 g0 g1 c0 c1 HC eset hb q ec p0 p1 f0 f1
            generalize (wr.alloc (.cells #[.int .i64 zs[k].1, .int .i64 zs[k].2] 36)).drewN nq = w5 at HS hbe q0' q1' p0' p1' f0' f1' ⊢
            go_wp2_with fail
            go_roundg ((n1 + n2) - (k + 1))
            case measure => omega
            case rel => exact ⟨k + 1, (pre ++ [c]) ++ [zs[k]], gar2, by go_num, by simp; go_num, by omega, by omega, by simp; omega, HS.out, (hbe.setCell (Nat.le_refl _) _).setCell (Nat.le_refl _) _, .inr ⟨pre ++ [c], zs[k], rfl, s0, s1, s2, HN⟩⟩
      · have hend : ws = make (xs ++ ys) := by
          rcases hst with ⟨rfl, rfl⟩ | ⟨pre, c, rfl, hc0, hc1, hc2, HM⟩
          · rw [← MK.out, show zs = [] from List.eq_nil_of_length_eq_zero (by have := HZ.out; omega)]
            rfl
          · have := HM.out
            rw [show zs.drop k = [] from List.drop_eq_nil_of_le (by have := HZ.out; omega)] at this
            exact this
        have hrow := HC.row w.heap.size (ws := ws) (rest := gar ++ zs.drop k) (by rw [List.append_assoc]) (Nat.le_refl _)
        have h0 : (0 : Int) ≤ (ws.length : Int) := by omega
        have h1 : (ws.length : Int) ≤ (((n1 + n2) : Nat) : Int) := by omega
        have R := Lib.hid hrow
        subst hend
        clear hrow HC hst hrl hle0
        go_wp2_with fail
        go_ret
        exact ⟨_, _, rfl, R.out, hb⟩

end Go.Proofs.YtfhcakpmlppbkaaGreatDoor.Sets
