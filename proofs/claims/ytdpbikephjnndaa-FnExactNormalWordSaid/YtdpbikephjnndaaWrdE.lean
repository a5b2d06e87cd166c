/- Contracts of spec's nearest word, of a phrase's text and of the phrase with a text. -/
import Derived.Test.YtdpbikephjnndaaWrdD
namespace Go.Proofs.Ytdpbikephjnndaa.Wrd
open Go.RowKit

/-- The search of the nearest word: what is the best one among the first k words. -/
def nr (l : List UInt8) (ps : List (List UInt8)) (m : Int) : Nat → Int × Int
  | 0 => (-1, m + 1)
  | k + 1 => if (dist (norm l) (norm (ps.getD k [])) : Int) < (nr l ps m k).2 then ((k : Int), (dist (norm l) (norm (ps.getD k [])) : Int)) else nr l ps m k
def nOk (l : List UInt8) (ps : List (List UInt8)) (m : Int) : Prop := (isW l ∧ phOk ps) ∧ 0 ≤ m ∧ m ≤ 20
instance (l : List UInt8) (ps : List (List UInt8)) (m : Int) : Decidable (nOk l ps m) := by unfold nOk; exact inferInstance
def nFd (l : List UInt8) (ps : List (List UInt8)) (m : Int) : Prop := nOk l ps m ∧ 0 ≤ (nr l ps m ps.length).1
instance (l : List UInt8) (ps : List (List UInt8)) (m : Int) : Decidable (nFd l ps m) := by unfold nFd; exact inferInstance
def nI (l : List UInt8) (ps : List (List UInt8)) (m : Int) : Int := if nFd l ps m then (nr l ps m ps.length).1 else 0
def nD (l : List UInt8) (ps : List (List UInt8)) (m : Int) : Int := if nFd l ps m then (nr l ps m ps.length).2 else 0
def nE (l : List UInt8) (ps : List (List UInt8)) (m : Int) : Int := if ¬ (isW l ∧ phOk ps) then 1 else if ¬ (0 ≤ m ∧ m ≤ 20) then 2 else if nFd l ps m then 0 else 4
def Thr (x y z : Int) (w : World) (e : Ending) (w' : World) : Prop := e = .returned (.tuple #[.int .i64 x, .int .i64 y, .int .i64 z]) ∧ Below w.heap.size w w'
theorem ret_nnn {x y z x' y' z' : Int} (h : x = x' ∧ y = y' ∧ z = z') : Ending.returned (.tuple #[.int .i64 x, .int .i64 y, .int .i64 z]) = .returned (.tuple #[.int .i64 x', .int .i64 y', .int .i64 z']) := by rw [h.1, h.2.1, h.2.2]
theorem nr_bd (l : List UInt8) (ps : List (List UInt8)) {m : Int} (h : 0 ≤ m) : ∀ k, -1 ≤ (nr l ps m k).1 ∧ (nr l ps m k).1 < k ∧ 0 ≤ (nr l ps m k).2 ∧ (nr l ps m k).2 ≤ m + 1
  | 0 => by simp [nr]; omega
  | k + 1 => by
    have := nr_bd l ps h k
    unfold nr
    split
    · simp only; omega
    · omega

theorem spec_in_y (m : Int) (h : 0 ≤ m ∧ m ≤ 20) (w : World) : Calls Try.prog 44 #[.int .i64 m, .int .i64 0, .int .i64 20] w fun e w' => e = .returned (.bool true) ∧ w = w' := by
  obtain ⟨h0, h1⟩ := h
  go_enter Try.func44, Try.ntmps44
  go_wp2
  go_ret
  exact ⟨by first | rfl | simp [h0, h1], rfl⟩
theorem spec_in_n (m : Int) (h : ¬ (0 ≤ m ∧ m ≤ 20)) (w : World) : Calls Try.prog 44 #[.int .i64 m, .int .i64 0, .int .i64 20] w fun e w' => e = .returned (.bool false) ∧ w = w' := by
  by_cases h0 : 0 ≤ m
  · have h1 : ¬ m ≤ 20 := fun e => h ⟨h0, e⟩
    clear h
    go_enter Try.func44, Try.ntmps44
    go_wp2
    go_ret
    exact ⟨by first | rfl | simp [h1], rfl⟩
  · have hd : decide (0 ≤ m) = false := by simpa using h0
    clear h
    go_enter Try.func44, Try.ntmps44
    go_wp2
    go_ret
    exact ⟨by first | rfl | simp [h0], rfl⟩

def NwL (l : List UInt8) (ps : List (List UInt8)) (m0 : Int) (w0 : World) (m : Nat) (b d i : Value) (wr : World) : Prop :=
  ∃ (k : Nat) (x y : Int), i = .int .i64 k ∧ m = ps.length - k ∧ k ≤ ps.length ∧ b = .int .i64 x ∧ d = .int .i64 y ∧ Hid (nr l ps m0 k = (x, y)) ∧ Below w0.heap.size w0 wr

set_option maxRecDepth 100000 in
set_option maxHeartbeats 4000000 in
theorem spec_NearestWord_yes (l : List UInt8) (A : Option Addr) (c : Nat) (ps : List (List UInt8)) (m : Int) (hok : nOk l ps m) (w : World) (hr : RdS w A ps) :
    Calls Try.prog 22 #[.string (str l), .slice A ps.length c, .int .i64 m] w (Thr (nI l ps m) (nD l ps m) (nE l ps m) w) := by
  obtain ⟨⟨hl, hp⟩, m0, m1⟩ := hok
  have W := Lib.hid (spec_IsWord l (by have := hl.2.2; omega) true (decide_eq_true hl))
  have PH := Lib.hid (spec_phrase A c ps hp.tame true (decide_eq_true hp))
  have I := Lib.hid (spec_in_y m ⟨m0, m1⟩)
  have N1 := Lib.hid (spec_norm l hl.2.2 hl.2.1)
  have HW := Lib.hid hp.1
  have hn60 := hp.2
  have l1 := norm_len l
  have hl20 := hl.2.2
  have HN := Lib.hid (show ∀ x y, nr l ps m ps.length = (x, y) → (x < 0 → 0 = nI l ps m ∧ 0 = nD l ps m ∧ 4 = nE l ps m) ∧ (0 ≤ x → x = nI l ps m ∧ y = nD l ps m ∧ 0 = nE l ps m) from fun x y e => by
    have ok : nOk l ps m := ⟨⟨hl, hp⟩, m0, m1⟩
    refine ⟨fun hx => ?_, fun hx => ?_⟩
    · have hf : ¬ nFd l ps m := fun q => by have := q.2; rw [e] at this; simp only at this; omega
      unfold nI nD nE
      rw [if_neg hf, if_neg hf, if_neg (fun q => q ok.1), if_neg (fun q => q ok.2), if_neg hf]
      exact ⟨rfl, rfl, rfl⟩
    · have hf : nFd l ps m := ⟨ok, by rw [e]; exact hx⟩
      unfold nI nD nE
      rw [if_pos hf, if_pos hf, if_neg (fun q => q ok.1), if_neg (fun q => q ok.2), if_pos hf, e]
      exact ⟨rfl, rfl, rfl⟩)
  clear hl hp
  go_enter Try.func22, Try.ntmps22
  go_wp2_with fail
  refine (W.out _).mono ?_
  rintro e w1 ⟨rfl, rfl⟩
  go_wp2_with fail
  refine (PH.out _ hr).mono ?_
  rintro e w1 ⟨rfl, rfl⟩
  go_wp2_with fail
  refine (I.out _).mono ?_
  rintro e w1 ⟨rfl, rfl⟩
  clear W PH I
  go_wp2_with fail
  go_loopg [9, 10, 11] ps.length (fun k b d i wr => NwL l ps m w k b d i wr)
  case atStart => exact ⟨0, -1, m + 1, rfl, by omega, by omega, rfl, rfl, Lib.hid rfl, Below.refl _ _⟩
  case round =>
    obtain ⟨k, x, y, rfl, hm, hk, rfl, rfl, HR, bel⟩ := hrel
    subst hm
    have bd := nr_bd l ps m0 k
    rw [HR.out] at bd
    simp only at bd
    obtain ⟨x0, x1, y0, y1⟩ := bd
    by_cases hlt : k < ps.length
    · have hgo : (k : Int) < (ps.length : Int) := by omega
      obtain ⟨g, off, rfl, hg, c0⟩ := (hr.below bel) k hlt
      have hw := HW.out _ (List.getElem_mem hlt)
      have hw2 := hw.2.2
      have N2 := Lib.hid (spec_norm ps[k] hw.2.2 hw.2.1)
      have l2 := norm_len ps[k]
      have HS := Lib.hid (show nr l ps m (k + 1) = if (dist (norm l) (norm ps[k]) : Int) < y then ((k : Int), (dist (norm l) (norm ps[k]) : Int)) else (x, y) by
        have e : ps.getD k [] = ps[k] := by simp [List.getD, List.getElem?_eq_getElem hlt]
        rw [nr, HR.out, e])
      have D := Lib.hid (spec_dist (norm l) (norm ps[k]) (by omega) (by omega))
      have d0 : wr.drew.cell? ⟨g, off + k, none⟩ = some (.string (str ps[k])) := c0
      clear HR hw
      generalize norm l = p at *
      generalize norm ps[k] = q at *
      generalize ps[k] = t at *
      generalize dist p q = d at *
      by_cases hdy : (d : Int) < y
      · have HR := Lib.hid (show nr l ps m (k + 1) = ((k : Int), (d : Int)) by rw [HS.out, if_pos hdy])
        clear HS
        go_wp2_with fail
        go_region_held3 (fun w' => w'.cell? ⟨g, off + k, none⟩ = some (.string (str t)))
          (first | with_reducible exact d0 | with_reducible exact ca | with_reducible exact cb | with_reducible exact cc)
          (first | (go_at_call_of 37 (Value.string (str l)); refine (N1.out _).mono ?_; rintro e9 wa ⟨rfl, hqa⟩; have ca := cell_on hqa d0) | (go_at_call_of 37 (Value.string (str t)); refine (N2.out _).mono ?_; rintro e9 wb ⟨rfl, hqb⟩; have cb := cell_on hqb ca) | (go_at_call 35; refine (D.out _).mono ?_; rintro e9 wc ⟨rfl, hqc⟩; have cc := cell_on hqc cb))
        have bel2 := bel.trans ((((Below.refl wr.heap.size wr).drew.trans hqa).trans (hqb.mono hqa.size)).trans (hqc.mono (Nat.le_trans hqa.size hqb.size)) |>.mono bel.size)
        clear hqa hqb hqc ca cb cc d0 c0 N1 N2 D
        go_wp2_with fail
        go_roundg (ps.length - (k + 1))
        case measure => omega
        case rel => exact ⟨k + 1, _, _, by go_num, by omega, by omega, rfl, rfl, HR, bel2⟩
      · have HR := Lib.hid (show nr l ps m (k + 1) = (x, y) by rw [HS.out, if_neg hdy])
        clear HS
        go_wp2_with fail
        go_region_held3 (fun w' => w'.cell? ⟨g, off + k, none⟩ = some (.string (str t)))
          (first | with_reducible exact d0 | with_reducible exact ca | with_reducible exact cb | with_reducible exact cc)
          (first | (go_at_call_of 37 (Value.string (str l)); refine (N1.out _).mono ?_; rintro e9 wa ⟨rfl, hqa⟩; have ca := cell_on hqa d0) | (go_at_call_of 37 (Value.string (str t)); refine (N2.out _).mono ?_; rintro e9 wb ⟨rfl, hqb⟩; have cb := cell_on hqb ca) | (go_at_call 35; refine (D.out _).mono ?_; rintro e9 wc ⟨rfl, hqc⟩; have cc := cell_on hqc cb))
        have bel2 := bel.trans ((((Below.refl wr.heap.size wr).drew.trans hqa).trans (hqb.mono hqa.size)).trans (hqc.mono (Nat.le_trans hqa.size hqb.size)) |>.mono bel.size)
        clear hqa hqb hqc ca cb cc d0 c0 N1 N2 D
        go_wp2_with fail
        go_roundg (ps.length - (k + 1))
        case measure => omega
        case rel => exact ⟨k + 1, _, _, by go_num, by omega, by omega, rfl, rfl, HR, bel2⟩
    · have ek : k = ps.length := by omega
      subst ek
      have hge : ¬ (ps.length : Int) < (ps.length : Int) := by omega
      have H := Lib.hid (HN.out x y HR.out)
      clear HR HN
      by_cases hx : x < 0
      · have H1 := Lib.hid (H.out.1 hx)
        clear H
        go_wp2_with fail
        refine bodyPost_ret (v := .tuple #[.int .i64 0, .int .i64 0, .int .i64 4]) (by simp [results, Try.results22, go_sem]) rfl ⟨ret_nnn H1.out, bel⟩
      · have H1 := Lib.hid (H.out.2 (by omega))
        clear H
        go_wp2_with fail
        refine bodyPost_ret (v := .tuple #[.int .i64 x, .int .i64 y, .int .i64 0]) (by simp [results, Try.results22, go_sem]) rfl ⟨ret_nnn H1.out, bel⟩

end Go.Proofs.Ytdpbikephjnndaa.Wrd
