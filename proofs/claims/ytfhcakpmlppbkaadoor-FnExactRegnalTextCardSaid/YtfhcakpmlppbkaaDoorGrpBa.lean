/- Texts of a claim in one file: WRegnalText OpenR. -/
import Derived.Test.YtfhcakpmlppbkaaDoorGrpAr
import Derived.Test.YtfhcakpmlppbkaaDoorGrpAz
import Derived.Test.YtfhcakpmlppbkaaDoorGrpAp
import Derived.Deep.SlicePairs
import Derived.ChangeArms
namespace Go.Proofs.YtfhcakpmlppbkaaDoor.Rei
open Go.RowKit
open Go.Proofs.YtfhcakpmlppbkaaDoor.Sets (below_on)

set_option maxHeartbeats 4000000 in
set_option maxRecDepth 100000 in
theorem walk_FnExactRegnalText (A0 : Option Addr) (n0 c0 : Nat) (xs0 : LR) (hn0 : n0 ≤ maxLen) (x0 : Int) (_g0 : (Lit.int .i64 x0).wf = true) (w : World) (h0 : RdR w A0 n0 xs0) (ht : Sets.Tabs w) :
    Calls Tryd.prog 4 #[.slice A0 n0 c0, .int .i64 x0] w fun e w' => e = .returned (.bool true) ∧ Below w.heap.size w w' := by
  obtain ⟨V, E, HS, HI⟩ : ∃ (V : List UInt8) (E : Int), Hid (∀ (B : Option Addr) (wx : World), RdR wx B n0 xs0 → Calls Tryd.prog 11 #[.slice B n0 n0, .int .i64 x0] wx (TxE V E wx)) ∧ Hid (∀ (B : Option Addr) (wx : World), RdR wx B n0 xs0 → Sets.Tabs wx → Calls Tryd.prog 13 #[.slice B n0 n0, .int .i64 x0] wx (TxE V E wx)) :=
    ⟨_, _, Lib.hid fun B wx q => spec_RegnalText B n0 n0 xs0 hn0 x0 wx q, Lib.hid fun B wx q tb => impl_RegnalText B n0 n0 xs0 hn0 x0 wx q tb⟩
  have HZ := Lib.hid (fun wx q => laws_szReignS A0 n0 c0 xs0 hn0 wx q)
  have HTB := Lib.hid ht
  clear hn0 ht
  go_enter Tryd.func4, Tryd.ntmps4
  go_wp2_with fail
  refine (HZ.out _ h0).mono ?_
  rintro e w1 ⟨r, rfl, hr, kk⟩
  by_cases hneg : r < 0
  · clear hr
    go_wp2_with fail
    go_ret
    exact ⟨rfl, kk⟩
  have HT0 := Lib.hid (show n0 ≤ 2000000 from Nat.le_trans (hr (by omega)) (by omega))
  clear hr
  go_wp2_with fail
  refine (laws_toReignS A0 n0 c0 xs0 HT0.out w1 (h0.below kk)).mono ?_
  rintro e w2 ⟨As, rfl, Rs, b⟩
  replace kk := below_on kk b
  go_wp2_with fail
  refine (HS.out As w2 Rs.rd).mono ?_
  rintro e w3 ⟨rfl, b⟩
  replace kk := below_on kk b
  clear Rs
  go_wp2_with fail
  refine (laws_toReignS A0 n0 c0 xs0 HT0.out w3 (h0.below kk)).mono ?_
  rintro e w4 ⟨Ax, rfl, Rx, b⟩
  replace kk := below_on kk b
  go_wp2_with fail
  refine (HI.out Ax w4 Rx.rd (HTB.out.below kk)).mono ?_
  rintro e w5 ⟨rfl, b⟩
  replace kk := below_on kk b
  replace Rx := Rx.below b
  go_wp2_with fail
  refine (laws_toReignS A0 n0 c0 xs0 HT0.out w5 (h0.below kk)).mono ?_
  rintro e w6 ⟨Ay, rfl, Ry, b⟩
  replace kk := below_on kk b
  replace Rx := Rx.below b
  go_wp2_with fail
  refine (laws_eqReignS Ax Ay n0 n0 n0 xs0 HT0.out w6 Rx.rd Ry.rd).mono ?_
  rintro e w7 ⟨rfl, b⟩
  replace kk := below_on kk b
  go_wp2_with fail
  go_ret
  exact ⟨rfl, kk⟩

end Go.Proofs.YtfhcakpmlppbkaaDoor.Rei

namespace Go.Proofs.YtfhcakpmlppbkaaDoor.Rei
open Go.RowKit Go.Deep Go.ChangeShapes

theorem cells_reign : Tryd.prog.cellsOf 49 = 3 := by kernel_rfl
theorem cells_str1 : Tryd.prog.cellsOf 9 = 1 := by kernel_rfl
theorem cells_int1 : Tryd.prog.cellsOf 2 = 1 := by kernel_rfl
theorem add_off (g off k : Nat) : (⟨g, off, none⟩ : Addr).add k = ⟨g, off + k, none⟩ := by unfold Addr.add; split <;> simp_all

theorem three_fields {H : Type} {enc : TypeId × Value → H} {P : Program} {W : World} {base : Nat} {spare : Nat → Bool} {held : Bool} {n : Nat} {t : TypeId} {f0 f1 f2 : Field} {a : Addr} {cs : List Value} {y : DataW H × List MemPlace}
    (he : P.underlying t = some (.struct #[f0, f1, f2])) (o0 : f0.offset = 0) (o1 : f1.offset = 1) (o2 : f2.offset = 2) (c0 : P.cellsOf f0.type = 1) (c1 : P.cellsOf f1.type = 1) (c2 : P.cellsOf f2.type = 1)
    (h1 : W.cells? base a 3 = some cs) (h2 : DataW.trod enc P W base spare held n t cs = some y) :
    ∃ (v0 v1 v2 : Value) (k : Nat) (y0 y1 y2 : DataW H × List MemPlace), W.cell? (a.add 0) = some v0 ∧ W.cell? (a.add 1) = some v1 ∧ W.cell? (a.add 2) = some v2 ∧
      DataW.trod enc P W base spare held k f0.type [v0] = some y0 ∧ DataW.trod enc P W base spare held k f1.type [v1] = some y1 ∧ DataW.trod enc P W base spare held k f2.type [v2] = some y2 := by
  obtain ⟨_, hlen, hcell⟩ := World.cells?_some h1
  obtain ⟨xs, k, hk, _, _, hxl, hf⟩ := DataW.trod_struct he h2
  have e0 := hcell 0 (by omega)
  have e1 := hcell 1 (by omega)
  have e2 := hcell 2 (by omega)
  match xs, hxl, cs, hlen with
  | [y0, y1, y2], _, [v0, v1, v2], _ =>
    have g0 := hf 0 f0 rfl
    have g1 := hf 1 f1 rfl
    have g2 := hf 2 f2 rfl
    simp [o0, o1, o2, c0, c1, c2] at g0 g1 g2
    exact ⟨v0, v1, v2, k, y0, y1, y2, by simpa using e0, by simpa using e1, by simpa using e2, g0, g1, g2⟩
/-- One reign, of its three cells. -/
theorem open_reign {H : Type} {enc : TypeId × Value → H} {W : World} {base : Nat} {spare : Nat → Bool} {held : Bool} {n : Nat} {a : Addr} {cs : List Value} {y : DataW H × List MemPlace}
    (h1 : W.cells? base a 3 = some cs) (h2 : DataW.trod enc Tryd.prog W base spare held n 49 cs = some y) :
    ∃ r : ByteArray × Int × Int, W.cell? (a.add 0) = some (.string r.1) ∧ W.cell? (a.add 1) = some (.int .i64 r.2.1) ∧ W.cell? (a.add 2) = some (.int .i64 r.2.2) ∧ r.1.size ≤ maxLen := by
  obtain ⟨v0, v1, v2, k, y0, y1, y2, e0, e1, e2, g0, g1, g2⟩ := three_fields Tryd.underlying49 rfl rfl rfl cells_str1 cells_int1 cells_int1 h1 h2
  obtain ⟨s, q0, -, hs⟩ := DataW.trod_string Tryd.underlying9 g0
  obtain ⟨f, q1, -, -⟩ := DataW.trod_int Tryd.underlying2 g1
  obtain ⟨t, q2, -, -⟩ := DataW.trod_int Tryd.underlying2 g2
  simp at q0 q1 q2
  subst q0 q1 q2
  exact ⟨(s, f, t), e0, e1, e2, hs⟩

theorem open_reigns {H : Type} {enc : TypeId × Value → H} {W : World} {base : Nat} {spare : Nat → Bool} {held : Bool} {fuel : Nat} {A : Option Addr} {len cap : Nat} {x : DataW H × List MemPlace}
    (h : DataW.trod enc Tryd.prog W base spare held fuel 28 [.slice A len cap] = some x) : ∃ xs : LR, RdR W A len xs ∧ len ≤ maxLen := by
  rcases open_slice Tryd.underlying28 h with ⟨hcs, _⟩ | ⟨a, l, c, m, n, D, Pl, hcs, _, hl, hm, hmm, _, hx⟩
  · injection hcs with h1
    injection h1 with h1 h2 h3
    subst h1 h2
    exact ⟨[], ⟨rfl, fun _ h => absurd h (by simp), fun h => absurd h (by omega)⟩, Nat.zero_le _⟩
  · injection hcs with h1
    injection h1 with h1 h2 h3
    subst h1 h2 h3
    have hlm : len ≤ m := by rw [hmm]; split <;> omega
    rw [cells_reign] at hx
    have each : ∀ i : Nat, ∃ r : ByteArray × Int × Int, i < len → W.cell? ((a.add (i * 3)).add 0) = some (.string r.1) ∧ W.cell? ((a.add (i * 3)).add 1) = some (.int .i64 r.2.1) ∧ W.cell? ((a.add (i * 3)).add 2) = some (.int .i64 r.2.2) ∧ r.1.size ≤ maxLen := fun i => by
      by_cases hi : i < len
      · obtain ⟨cs', h1, h2⟩ := hx i (by omega)
        obtain ⟨r, hr⟩ := open_reign h1 h2
        exact ⟨r, fun _ => hr⟩
      · exact ⟨(ByteArray.empty, 0, 0), fun h => absurd h hi⟩
    have hR := Classical.axiomOfChoice each
    obtain ⟨R, hR⟩ := hR
    refine ⟨(List.range len).map R, ⟨by simp, fun k hk => ?_, fun hn => ?_⟩, by omega⟩
    · simp only [List.length_map, List.length_range] at hk
      simp only [List.getElem_map, List.getElem_range]
      exact (hR k hk).2.2.2
    · obtain ⟨g, off, spot⟩ := a
      have c0 := (hR 0 (by omega)).1
      have hspot : spot = none := by
        have := World.cell?_spot c0
        simpa [Addr.add] using this
      subst hspot
      refine ⟨g, off, rfl, ?_, fun k hk => ?_⟩
      · have := World.block_lt_of_cell? _ _ c0
        simpa [Addr.add] using this
      · simp only [List.length_map, List.length_range] at hk
        obtain ⟨d0, d1, d2, -⟩ := hR k hk
        simp only [add_off] at d0 d1 d2
        simp only [List.getElem_map, List.getElem_range]
        exact ⟨d0, d1, d2⟩

end Go.Proofs.YtfhcakpmlppbkaaDoor.Rei
