/- Texts of a claim in one file: ReiU ReiV. -/
import Derived.Test.YtfhcakpmlppbkaaGreatDoorGrpAw
namespace Go.Proofs.YtfhcakpmlppbkaaGreatDoor.Rei
open Go.RowKit

/-- What a call leaves that draws a list of reigns. -/
def DrewL (A : Option Addr) (len cap : Nat) (zs : List Int) (W w : World) (g : Nat) (e : Ending) (w' : World) : Prop :=
  ∃ (v : Value) (xs : LR), e = .returned v ∧ xs.length ≤ 31 ∧ (∀ r ∈ xs, DR r) ∧ OwnR w' w.heap.size v xs ∧ Src A len cap zs W w' g ∧ w.grownBy w' (some g)
def ListLoop (A : Option Addr) (len cap : Nat) (zs : List Int) (W w : World) (g : Nat) (m : Nat) (v n : Value) (wr : World) : Prop :=
  ∃ (r : Nat) (acc : LR), r = m ∧ n = .int .i64 r ∧ acc.length + r ≤ 4 ∧ (∀ s ∈ acc, DR s) ∧ OwnR wr w.heap.size v acc ∧ Src A len cap zs W wr g ∧ w.grownBy wr (some g)
def ManyLoop (A : Option Addr) (len cap : Nat) (zs : List Int) (W w : World) (g : Nat) (m : Nat) (v n : Value) (wr : World) : Prop :=
  ∃ (r : Nat) (acc : LR), r = m ∧ n = .int .i64 r ∧ acc.length + r ≤ 31 ∧ (∀ s ∈ acc, DR s) ∧ OwnR wr w.heap.size v acc ∧ Src A len cap zs W wr g ∧ w.grownBy wr (some g)
def InLoop (A : Option Addr) (len cap : Nat) (zs : List Int) (W w : World) (g gb cb N : Nat) (m : Nat) (n : Value) (wr : World) : Prop :=
  ∃ (r : Nat) (ys : LR), r = m ∧ n = .int .i64 r ∧ r < ys.length ∧ ys.length = N ∧ (∀ s ∈ ys, DR s) ∧ CellsR wr gb cb ys ∧ Src A len cap zs W wr g ∧ w.grownBy wr (some g)

theorem CellsR.ownN {w : World} {B g cap n : Nat} {ys : LR} (h : CellsR w g cap ys) (e : ys.length = n) (hB : B ≤ g) (hn : n ≤ cap) (hm : cap ≤ maxLen) : OwnR w B (.slice (some ⟨g, 0, none⟩) n cap) ys := by
  subst e
  exact h.own hB hn hm
theorem CellsR.lt {w : World} {g cap : Nat} {ys : LR} (h : CellsR w g cap ys) : g < w.heap.size := by
  obtain ⟨cs, hs, hk, hc⟩ := h
  exact hk.lt
theorem list_next {A : Option Addr} {len cap : Nat} {zs : List Int} {W w wr w' : World} {g g5 cap5 N m : Nat} {ys : LR} {n : Value} (hb : Below wr.heap.size wr w') (hn : n = .int .i64 m) (hl : N + 1 + m ≤ 4) (hN : ys.length = N + 1) (hok : ∀ s ∈ ys, DR s) (HC : CellsR wr g5 cap5 ys) (hB : w.heap.size ≤ g5) (hc : N + 1 ≤ cap5) (hm : cap5 ≤ maxLen) (sr : Src A len cap zs W wr g) (gr : w.grownBy wr (some g)) :
    ListLoop A len cap zs W w g m (.slice (some ⟨g5, 0, none⟩) (N + 1) cap5) n w' :=
  ⟨m, ys, rfl, hn, by omega, hok, (HC.below hb).ownN hN hB hc hm, sr.below hb, gr.trans (only_of_below hb _)⟩

set_option maxHeartbeats 4000000 in
set_option maxRecDepth 100000 in
theorem spec_draw7 (A : Option Addr) (len cap : Nat) (zs : List Int) (W w : World) (g : Nat) (hs : Src A len cap zs W w g) (hW : W.heap.size ≤ w.heap.size) :
    Calls Tryz.prog 57 #[.pointer (some ⟨g, 0, none⟩)] w (DrewL A len cap zs W w g) := by
  have hgw := hs.lt
  go_enter Tryz.func57, Tryz.ntmps57
  go_wp2_with fail
  refine (spec_next A len cap zs W _ g 5 (hs.alloc _)).mono ?_
  rintro e w1 ⟨x, rfl, x0, x1, s1, k1⟩
  have o1 : OwnR w1 w.heap.size (.slice (some ⟨w.heap.size, 0, none⟩) 0 0) [] := OwnR.grown (OwnR.made0 w) k1 hgw
  have h1 : w.grownBy w1 (some g) := World.grownBy.trans (only_alloc (World.grownBy.refl _ _) _) k1
  obtain ⟨m0, rfl⟩ := Int.eq_ofNat_of_zero_le x0
  go_wp2_with fail
  go_loopg [3, 4] m0 (fun m v n wr => ListLoop A len cap zs W w g m v n wr)
  case atStart => exact ⟨m0, [], rfl, rfl, by simp; omega, by simp, o1, s1, h1⟩
  case round =>
    obtain ⟨m, acc, hm, rfl, hl, hok, own, sr, gr⟩ := hrel
    subst hm
    have HO := Lib.hid hok
    clear hok s1 k1 o1 h1 x0 x1
    rcases m with _ | m
    · go_wp2_with fail
      refine (spec_next A len cap zs W _ g 60 sr).mono ?_
      rintro e9 w2 ⟨y, rfl, y0, y1, s2, k2⟩
      have own2 := own.grown k2 hgw
      have gr2 := gr.trans k2
      clear own gr sr k2 y1
      by_cases h0 : y = 0
      · subst h0
        go_wp2_with fail
        refine (spec_next A len cap zs W _ g 2 (s2.alloc _)).mono ?_
        rintro e9 w3 ⟨z, rfl, z0, z1, s3, k3⟩
        have hzz := gr2.size
        have own3 := ((OwnR.made0 w2).mono hzz).grown k3 hgw
        have gr3 := (only_alloc gr2 _).trans k3
        have zb : z ≤ 1 := by omega
        obtain ⟨q, rfl⟩ := Int.eq_ofNat_of_zero_le z0
        clear own2 gr2 s2 k3 z1 z0 y0 HO hl
        go_wp2_with fail
        go_loopg [3, 8] (30 + q) (fun m v n wr => ManyLoop A len cap zs W w g m v n wr)
        case atStart => exact ⟨30 + q, [], rfl, by first | rfl | go_num, by simp; omega, by simp, own3, s3, gr3⟩
        case round =>
          clear own3 gr3 s3 zb acc
          obtain ⟨p, acc, hm, rfl, hl, hok, own, sr, gr⟩ := hrel
          subst hm
          have HO := Lib.hid hok
          clear hok
          rcases p with _ | p
          · go_wp2_with fail
            go_ret
            exact ⟨_, acc, rfl, by omega, HO.out, own, sr, gr⟩
          · have hp : (0 : Int) < (p : Int) + 1 := by omega
            have hpb : p ≤ 30 := by omega
            have HS := Lib.hid sr
            have HG := Lib.hid gr
            have HW := Lib.hid own
            clear sr gr own
            go_wp2_with (at_builtin; refine append_reign (r := (⟨#[120]⟩, 1000, 1000 + ((p : Int) + 1))) rfl HS.out hgw HG.out HW.out (by omega) rfl (.tmp 75) (.tmp 79) rfl rfl rfl ?_)
            intro v5 w5 own5 s5 gr5 z5 keep
            have HA := Lib.hid (show ∀ r ∈ acc ++ [((⟨#[120]⟩ : ByteArray), (1000 : Int), 1000 + ((p : Int) + 1))], DR r from fun r hr => by
              rcases List.mem_append.1 hr with h | h
              · exact HO.out r h
              · rcases List.mem_cons.1 h with rfl | h
                · exact ⟨(by decide : (⟨#[120]⟩ : ByteArray).size ≤ 13), ⟨by simp only; omega, by simp only; omega⟩, ⟨by simp only; omega, by simp only; omega⟩⟩
                · cases h)
            clear keep z5 HS HG HW HO
            go_wp2_with fail
            go_roundg p
            case measure => omega
            case rel => exact ⟨p, _, rfl, by go_num, by simp; omega, HA.out, own5, s5, gr5⟩
      · have hy : (y == 0) = false := by simpa using h0
        clear h0
        go_wp2_with fail
        go_ret
        exact ⟨_, acc, rfl, by omega, HO.out, own2, s2, gr2⟩
    · obtain ⟨Av, cv, rfl, -⟩ := own.rd (fun r hr => (HO.out r hr).1)
      have hp : (0 : Int) < (m : Int) + 1 := by omega
      have hz := gr.size
      go_wp2_with fail
      refine (spec_drawReign A len cap zs W _ g sr (by omega)).mono ?_
      rintro e w2 ⟨s, f, t, rfl, sb, fb, tb, s2, k2⟩
      have own2 := (own.grown k2 hgw).alloc (.cells #[.string s, .int .i64 f, .int .i64 t] 79)
      have gr2 := only_alloc (World.grownBy.trans gr k2) (.cells #[.string s, .int .i64 f, .int .i64 t] 79)
      have src2 := s2.alloc (.cells #[.string s, .int .i64 f, .int .i64 t] 79)
      have q := Blk.new w2 79 #[.string s, .int .i64 f, .int .i64 t]
      have HR := Lib.hid (show DR (s, f, t) from ⟨sb, fb, tb⟩)
      obtain ⟨c0, c1, c2⟩ := q.three
      clear own gr sr k2 s2 sb fb tb
      have HS := Lib.hid src2
      have HG := Lib.hid gr2
      have HW := Lib.hid own2
      clear src2 gr2 own2
      go_wp2_with (at_builtin; refine append_reign (r := (s, f, t)) (N := w2.heap.size + 1) (by simp) HS.out hgw HG.out HW.out (by omega) rfl (.tmp 20) (.tmp 22) rfl rfl rfl ?_)
      intro v5 w5 own5 s5 gr5 z5 keep
      have HA := Lib.hid (show ∀ r ∈ acc ++ [(s, f, t)], DR r from fun r hr => by
        rcases List.mem_append.1 hr with h | h
        · exact HO.out r h
        · rcases List.mem_cons.1 h with rfl | h
          · exact HR.out
          · cases h)
      obtain ⟨g5, cap5, hv5, hB5, hg5, hc5, hm5, HC5⟩ := own5.cells (by simp)
      have hN : (acc ++ [(s, f, t)]).length = acc.length + 1 := by simp
      rw [hN] at hc5 hv5
      subst hv5
      generalize acc ++ [(s, f, t)] = ys at hN HA HC5 own5
      have HM5 := Lib.hid hm5
      have e5 : g5 ≠ g := by omega
      clear own5 HS HG HW HO HR hm5 keep c0 c1 c2 q z5
      generalize acc.length = N at hl hN hc5 ⊢
      go_wp2_with fail
      go_loopg [6] N (fun m n wr => InLoop A len cap zs W w g g5 cap5 (N + 1) m n wr)
      case atStart => exact ⟨N, ys, rfl, by first | rfl | go_num, by omega, hN, HA.out, HC5, s5, gr5⟩
      case round =>
        clear HA HC5 s5 gr5 hN hg5 hz
        clear ys w5
        obtain ⟨r, ys, hr, rfl, hlt, hN, hok, HC, sr, gr⟩ := hrel
        subst hr
        have HO := Lib.hid hok
        clear hok
        rcases r with _ | j
        · go_wp2_with fail
          go_quiet (fail)
          go_wp2_with fail
          go_roundg m
          case measure => omega
          case rel => exact list_next (below_drewN (Below.refl _ _) _) (by go_num) (by omega) hN HO.out HC hB5 hc5 HM5.out sr gr
        · have hj1 : ((j : Int) + 1) < (N : Int) + 1 := by omega
          have hj0 : (j : Int) < (N : Int) + 1 := by omega
          have hjp : (0 : Int) < (j : Int) + 1 := by omega
          have hjn : (j : Int) < (N : Int) := by omega
          have hje : (j : Int) ≤ (N : Int) := by omega
          have hjz : (0 : Int) ≤ (j : Int) + 1 := by omega
          have hjv : IntKind.i64.wrap (j : Int) = (j : Int) := IntWalk.i64_in _ ⟨by omega, by omega⟩
          have hj2 : (0 : Int) ≤ (j : Int) := by omega
          have hjw : IntKind.i64.wrap ((j : Int) + 1 - 1) = (j : Int) := by rw [Int.add_sub_cancel]; exact IntWalk.i64_in _ ⟨by omega, by omega⟩
          obtain ⟨a0, a1, a2, a3, a4, a5⟩ := HC.at_ (k := j) (by omega)
          obtain ⟨b0, b1, b2, b3, b4, b5⟩ := HC.at_ (k := j + 1) hlt
          by_cases hle : ys[j + 1].2.1 < ys[j].2.1
          · have hd : decide (ys[j + 1].2.1 < ys[j].2.1) = true := by simpa using hle
            clear hle
            go_wp2_with fail
            go_region_held3 (fun w' => w'.cell? ⟨g5, j * 3 + 1, none⟩ = some (.int .i64 ys[j].2.1) ∧ w'.cell? ⟨g5, (j + 1) * 3 + 1, none⟩ = some (.int .i64 ys[j + 1].2.1))
              (first | exact ⟨a1, b1⟩ | exact ⟨(HQ.at_ (k := j) (by omega)).2.1, (HQ.at_ (k := j + 1) hlt).2.1⟩)
              (first | (go_at_call 40; refine (spec_next A len cap zs W _ g 60 (sr.below (Below.refl _ _).drew)).mono ?_; rintro e9 wq ⟨x, rfl, x0, x1, sq, kq⟩; have HQ := (HC.below (Below.refl _ _).drew).grown kq e5; have grq := (gr.trans (only_of_below (Below.refl _ _).drew (some g))).trans kq))
            have zq := sq.lt
            have zg := HQ.lt
            clear HC sr gr kq a0 a1 a2 a3 a4 a5 b0 b1 b2 b3 b4 b5 x1
            by_cases hx : 0 < x
            · obtain ⟨c0, c1, c2, c3, c4, c5⟩ := HQ.at_ (k := j) (by omega)
              obtain ⟨b0, b1, b2, b3, b4, b5⟩ := HQ.at_ (k := j + 1) hlt
              have M1 := HQ.set (by omega) (k := j) (by omega) ys[j + 1]
              have ML := M1.below ((Below.refl _ _).alloc (Nat.le_refl _) (.cells #[.string ys[j].1, .int .i64 ys[j].2.1, .int .i64 ys[j].2.2] 79))
              have M2 := ML.set (by simp; omega) (k := j + 1) (by simp; omega) ys[j]
              obtain ⟨f0, f1, f2, f3, f4, f5⟩ := ML.at_ (k := j + 1) (by simp; omega)
              have M3 := ((M1.set (by simp; omega) (k := j + 1) (by simp; omega) ys[j]).below ((Below.refl _ _).alloc (Nat.le_refl _) (.cells #[.string ys[j].1, .int .i64 ys[j].2.1, .int .i64 ys[j].2.2] 79)))
              have HM := Lib.hid M3
              have HK := Lib.hid (show ∀ r ∈ (ys.set j ys[j + 1]).set (j + 1) ys[j], DR r from fun r hr => by
                rcases List.mem_or_eq_of_mem_set hr with h | h
                · rcases List.mem_or_eq_of_mem_set h with h | h
                  · exact HO.out r h
                  · exact h ▸ HO.out _ (List.getElem_mem _)
                · exact h ▸ HO.out _ (List.getElem_mem _))
              have SS := Lib.hid sq
              have SG := Lib.hid grq
              have hWg : W.heap.size ≤ g5 := by omega
              clear M1 M2 ML M3 sq grq HQ
              go_wp2_with fail
              go_roundg j
              case measure => omega
              case rel => exact ⟨j, _, rfl, by first | rfl | go_num, by simp; omega, by simp; omega, HK.out, HM.out, ((((((SS.out.setCell e5 hWg _).setCell e5 hWg _).setCell e5 hWg _).setCell e5 hWg _).setCell e5 hWg _).setCell e5 hWg _).alloc _, only_alloc (only_setCell (only_setCell (only_setCell (only_setCell (only_setCell (only_setCell SG.out (.inr hB5) _) (.inr hB5) _) (.inr hB5) _) (.inr hB5) _) (.inr hB5) _) (.inr hB5) _) _⟩
            · have hxx : ¬ x > 0 := hx
              go_wp2_with fail
              go_roundg m
              case measure => omega
              case rel => exact list_next (Below.refl _ _) (by go_num) (by omega) hN HO.out HQ hB5 hc5 HM5.out sq grq
          · have hd : decide (ys[j + 1].2.1 < ys[j].2.1) = false := by simpa using hle
            clear hle
            go_wp2_with fail
            go_quiet (fail)
            go_wp2_with fail
            go_roundg m
            case measure => omega
            case rel => exact list_next (below_drewN (Below.refl _ _) _) (by go_num) (by omega) hN HO.out HC hB5 hc5 HM5.out sr gr

end Go.Proofs.YtfhcakpmlppbkaaGreatDoor.Rei

namespace Go.Proofs.YtfhcakpmlppbkaaGreatDoor.Rei
open Go.RowKit

/-- What a draw leaves that answers a list of reigns and a day. -/
def DrawnLN (w : World) (e : Ending) (w' : World) : Prop :=
  ∃ (A : Option Addr) (c : Nat) (xs : LR) (n : Int), e = .returned (.tuple #[.slice A xs.length c, .int .i64 n]) ∧ RdR w' A xs.length xs ∧ xs.length ≤ 31 ∧ (∀ r ∈ xs, DR r) ∧ dayish n ∧ Below w.heap.size w w'
/-- .. a king and a year. -/
def DrawnLK (w : World) (e : Ending) (w' : World) : Prop :=
  ∃ (A : Option Addr) (c : Nat) (xs : LR) (s : ByteArray) (k : Int), e = .returned (.tuple #[.slice A xs.length c, .string s, .int .i64 k]) ∧ RdR w' A xs.length xs ∧ xs.length ≤ 31 ∧ (∀ r ∈ xs, DR r) ∧ s.size ≤ 13 ∧ (0 ≤ k ∧ k ≤ 20) ∧ Below w.heap.size w w'
/-- .. two days. -/
def DrawnLV (w : World) (e : Ending) (w' : World) : Prop :=
  ∃ (A : Option Addr) (c : Nat) (xs : LR) (f t : Int), e = .returned (.tuple #[.slice A xs.length c, .int .i64 f, .int .i64 t]) ∧ RdR w' A xs.length xs ∧ xs.length ≤ 31 ∧ (∀ r ∈ xs, DR r) ∧ dayish f ∧ (-10000 ≤ t ∧ t ≤ 750000) ∧ Below w.heap.size w w'

set_option maxHeartbeats 1000000 in
theorem spec_DrawReignsOn (A : Option Addr) (len cap : Nat) (zs : List Int) (W w : World) (hrow : IsRow .u8 W A len cap zs) (hW : Below W.heap.size W w) :
    Calls Tryz.prog 22 #[.slice A len cap] w (DrawnLN w) := by
  have hWs := hW.size
  go_enter Tryz.func22, Tryz.ntmps22
  go_wp2_with fail
  refine (spec_from A len cap zs W _ hrow hW).mono ?_
  rintro e w1 ⟨g, rfl, hg, s1, b1⟩
  have z1 := b1.size
  have l1 := s1.lt
  go_wp2_with fail
  refine (spec_draw7 A len cap zs W _ g s1 (by omega)).mono ?_
  rintro e w2 ⟨v, xs, rfl, hx, hd, own2, s2, k2⟩
  have z2 := k2.size
  clear s1
  go_wp2_with fail
  refine (spec_drawDay7 A len cap zs W _ g s2).mono ?_
  rintro e w3 ⟨n, rfl, hn, s3, k3⟩
  have z3 := k3.size
  obtain ⟨A2, c2, rfl, rd⟩ := (own2.grown k3 l1).rd (fun r hr => (hd r hr).1)
  have hb := b1.trans (only_below (k2.trans k3) (B := w.heap.size) hg z1)
  clear s2 s3 own2 k2 k3
  go_wp2_with fail
  go_ret2
  exact ⟨A2, c2, xs, n, rfl, rd, hx, hd, hn, hb⟩

set_option maxHeartbeats 1000000 in
theorem spec_DrawKingYearSet (A : Option Addr) (len cap : Nat) (zs : List Int) (W w : World) (hrow : IsRow .u8 W A len cap zs) (hW : Below W.heap.size W w) :
    Calls Tryz.prog 27 #[.slice A len cap] w (DrawnLK w) := by
  have hWs := hW.size
  go_enter Tryz.func27, Tryz.ntmps27
  go_wp2_with fail
  refine (spec_from A len cap zs W _ hrow hW).mono ?_
  rintro e w1 ⟨g, rfl, hg, s1, b1⟩
  have z1 := b1.size
  have l1 := s1.lt
  go_wp2_with fail
  refine (spec_draw7 A len cap zs W _ g s1 (by omega)).mono ?_
  rintro e w2 ⟨v, xs, rfl, hx, hd, own2, s2, k2⟩
  have z2 := k2.size
  clear s1
  go_wp2_with fail
  refine (spec_drawKing A len cap zs W _ g s2).mono ?_
  rintro e w3 ⟨s, rfl, hs13, s3, k3⟩
  have z3 := k3.size
  replace own2 := own2.grown k3 l1
  replace k3 := k2.trans k3
  clear s2 k2
  go_wp2_with fail
  refine (spec_next A len cap zs W _ g 9 s3).mono ?_
  rintro e w4 ⟨x4, rfl, a4, b4, s4, k4⟩
  have z4 := k4.size
  have B4 : x4 ≤ 8 := by omega
  replace own2 := own2.grown k4 l1
  replace k4 := k3.trans k4
  clear b4 s3 k3
  go_wp2_with fail
  refine (spec_next A len cap zs W _ g 20 s4).mono ?_
  rintro e w5 ⟨x5, rfl, a5, b5, s5, k5⟩
  have z5 := k5.size
  have B5 : x5 ≤ 19 := by omega
  replace own2 := own2.grown k5 l1
  replace k5 := k4.trans k5
  have l5 := s5.lt
  clear b5 s4 k4
  go_wp2_with fail
  refine (spec_pick A len cap zs W _ g _ 4 _ [1, 2, 1 + x4, x5] (fun x => 0 ≤ x ∧ x ≤ 20) (s5.alloc _) (Blk.new _ _ _) (by omega) rfl (by omega) (by omega) (by intro y hy; simp at hy; omega)).mono ?_
  rintro e w6 ⟨x6, rfl, a6, s6, k6⟩
  have z6 := k6.size
  replace own2 := (own2.alloc _).grown k6 l1
  have k7 := (only_alloc k5 (.cells #[.int .i64 1, .int .i64 2, .int .i64 (1 + x4), .int .i64 x5] 2)).trans k6
  obtain ⟨A2, c2, rfl, rd⟩ := own2.rd (fun r hr => (hd r hr).1)
  have hb := b1.trans (only_below k7 (B := w.heap.size) hg z1)
  clear s5 s6 own2 k5 k6 k7
  go_wp2_with fail
  go_ret3
  exact ⟨A2, c2, xs, s, x6, rfl, rd, hx, hd, hs13, a6, hb⟩

set_option maxHeartbeats 1000000 in
theorem spec_DrawVoidDays (A : Option Addr) (len cap : Nat) (zs : List Int) (W w : World) (hrow : IsRow .u8 W A len cap zs) (hW : Below W.heap.size W w) :
    Calls Tryz.prog 17 #[.slice A len cap] w (DrawnLV w) := by
  have hWs := hW.size
  go_enter Tryz.func17, Tryz.ntmps17
  go_wp2_with fail
  refine (spec_from A len cap zs W _ hrow hW).mono ?_
  rintro e w1 ⟨g, rfl, hg, s1, b1⟩
  have z1 := b1.size
  have l1 := s1.lt
  go_wp2_with fail
  refine (spec_drawDay7 A len cap zs W _ g s1).mono ?_
  rintro e w2 ⟨n, rfl, hn, s2, k2⟩
  have z2 := k2.size
  clear s1
  obtain ⟨n0, n1⟩ := hn
  go_wp2_with fail
  refine (spec_draw7 A len cap zs W _ g s2 (by omega)).mono ?_
  rintro e w3 ⟨v, xs, rfl, hx, hd, own2, s3, k3⟩
  have z3 := k3.size
  have l2 := s2.lt
  replace k3 := k2.trans k3
  clear s2 k2
  go_wp2_with fail
  refine (spec_next A len cap zs W _ g 9000 s3).mono ?_
  rintro e w4 ⟨x4, rfl, a4, b4, s4, k4⟩
  have z4 := k4.size
  have B4 : x4 ≤ 8999 := by omega
  replace own2 := own2.grown k4 l2
  replace k4 := k3.trans k4
  clear b4 s3 k3
  go_wp2_with fail
  refine (spec_next A len cap zs W _ g 20 s4).mono ?_
  rintro e w5 ⟨x5, rfl, a5, b5, s5, k5⟩
  have z5 := k5.size
  have B5 : x5 ≤ 19 := by omega
  replace own2 := own2.grown k5 l2
  replace k5 := k4.trans k5
  clear b5 s4 k4
  obtain ⟨A2, c2, rfl, rd⟩ := own2.rd (fun r hr => (hd r hr).1)
  have hb := b1.trans (only_below k5 (B := w.heap.size) hg z1)
  have hq : x5.tdiv 19 = 0 ∨ x5.tdiv 19 = 1 := by rw [Int.tdiv_eq_ediv_of_nonneg a5]; omega
  generalize x5.tdiv 19 = q at *
  clear s5 own2 k5
  go_wp2_with fail
  go_ret3
  exact ⟨A2, c2, xs, n, _, rfl, rd, hx, hd, ⟨n0, n1⟩, by omega, hb⟩

end Go.Proofs.YtfhcakpmlppbkaaGreatDoor.Rei
