/- The contract of slices.MinFunc at dates of feasts. -/
import Derived.Test.YtegoiiconhgjbaaFeaIf
namespace Go.Proofs.Ytegoiiconhgjbaa.Fea
open Go.RowKit
open Go.Proofs.Ytegoiiconhgjbaa.Eas (isY It)
open Go.Proofs.Ytegoiiconhgjbaa.Sets (Rd)

/-- A date as a value. -/
abbrev pv (p : Int × Int) : Value := .agg #[.int .i64 p.1, .int .i64 p.2]
/-- A function value's calls on the dates of a list, in whatever world has come of w by growth, answer by the order c. -/
def CmpAt (c : Int × Int → Int × Int → Int) (xs : List (Int × Int)) (g : Nat) (lb : Array Value) (w : World) : Prop :=
  (∀ (args : Array Value) (w : World), (callFunc g args).run Try.prog w = .ok (.enter g args) w) ∧
  ∀ p ∈ xs, ∀ q ∈ xs, ∀ wx, Below w.heap.size w wx → Calls Try.prog g (#[pv p, pv q] ++ lb) wx (It (c p q) wx)

theorem _root_.Go.Proofs.Ytegoiiconhgjbaa.St.set2 {g t g2 t2 : Nat} {x y : Value} {cs : Array Value} {w0 w : World} (h : St [(g, t, #[x, y]), (g2, t2, cs)] w0 w) (hne : g2 ≠ g) (a b : Value) :
    St [(g, t, #[a, b]), (g2, t2, cs)] w0 ((w.setCell ⟨g, 0, none⟩ a).setCell ⟨g, 1, none⟩ b) :=
  ⟨fun z hz => by
    rcases List.mem_cons.1 hz with rfl | hz
    · exact (h.b0.set_ 0 a).set_ 1 b
    · rcases List.mem_cons.1 hz with rfl | hz
      · exact (h.b1.far (p := ⟨g, 0, none⟩) hne a).far (p := ⟨g, 1, none⟩) hne b
      · exact absurd hz (by simp),
   (h.bel.setCell (p := ⟨g, 0, none⟩) (h.old _ (List.mem_cons_self ..)) _).setCell (p := ⟨g, 1, none⟩) (h.old _ (List.mem_cons_self ..)) _,
   fun z hz => by
    rcases List.mem_cons.1 hz with rfl | hz
    · exact h.old (g, t, #[x, y]) (List.mem_cons_self ..)
    · exact h.old z (List.mem_cons_of_mem _ hz)⟩
theorem _root_.Go.Proofs.Ytegoiiconhgjbaa.St.fz0 {g : Nat} {t : TypeId} {cs : Array Value} {L : List (Nat × TypeId × Array Value)} {w0 w : World} (h : St ((g, t, cs) :: L) w0 w) (i : Nat) : w.frozen? ⟨g, i, none⟩ = false := h.b0.frozen i
theorem least_one {c : Int × Int → Int × Int → Int} (hc : Ord c) {xs : List (Int × Int)} (h : 0 < xs.length) : Least c (xs.take 1) (xs[0]'h) := by
  cases xs with
  | nil => cases h
  | cons p r => exact ⟨by simp, fun q hq => by simp at hq; subst hq; exact hc.refl _⟩
theorem least_take {c : Int × Int → Int × Int → Int} (hc : Ord c) {xs : List (Int × Int)} {i : Nat} (h : i < xs.length) {m : Int × Int} (hm : Least c (xs.take i) m) (hl : c xs[i] m < 0) : Least c (xs.take (i + 1)) xs[i] := by
  rw [List.take_succ_eq_append_getElem h]
  refine ⟨List.mem_append_right _ (List.mem_singleton.2 rfl), fun p hp => ?_⟩
  rcases List.mem_append.1 hp with hp | hp
  · exact hc.step _ _ _ (hm.2 p hp) hl
  · simp at hp; subst hp; exact hc.refl _
theorem least_leave {c : Int × Int → Int × Int → Int} {xs : List (Int × Int)} {i : Nat} (h : i < xs.length) {m : Int × Int} (hm : Least c (xs.take i) m) (hl : ¬ c xs[i] m < 0) : Least c (xs.take (i + 1)) m := by
  rw [List.take_succ_eq_append_getElem h]
  refine ⟨List.mem_append_left _ hm.1, fun p hp => ?_⟩
  rcases List.mem_append.1 hp with hp | hp
  · exact hm.2 p hp
  · simp at hp; subst hp; exact hl
theorem _root_.Go.Proofs.Ytegoiiconhgjbaa.St.elt {g : Nat} {t : TypeId} {a b u v : Value} {x y : Addr} {L : List (Nat × TypeId × Array Value)} {w0 w : World} (h : St ((g, t, #[a, b]) :: L) w0 w) (h0 : w0.cell? x = some u) (h1 : w0.cell? y = some v) :
    w.cell? x = some u ∧ w.cell? y = some v ∧ w.cell? ⟨g, 0, none⟩ = some a ∧ w.cell? ⟨g, 1, none⟩ = some b ∧ St ((g, t, #[a, b]) :: L) w0 w :=
  ⟨(h.bel.cell (World.block_lt_of_cell? _ _ h0)).trans h0, (h.bel.cell (World.block_lt_of_cell? _ _ h1)).trans h1, h.b0.cell 0, h.b0.cell 1, h⟩
def MinL (c : Int × Int → Int × Int → Int) (xs : List (Int × Int)) (w : World) (k : Nat) (v : Value) (wr : World) : Prop :=
  ∃ (i : Nat) (m : Int × Int), v = .int .i64 i ∧ k = xs.length - i ∧ 1 ≤ i ∧ i ≤ xs.length ∧ Hid (Least c (xs.take i) m) ∧ St [(w.heap.size + 1, 87, #[.int .i64 m.1, .int .i64 m.2]), (w.heap.size, 87, #[.int .i64 0, .int .i64 0])] w wr

set_option maxRecDepth 10000 in
set_option maxHeartbeats 4000000 in
theorem impl_min (c : Int × Int → Int × Int → Int) (hc : Ord c) (xs : List (Int × Int)) (h0 : 0 < xs.length) (hlen : xs.length ≤ 1000) (g : Nat) (lb : Array Value) (w : World) (H : CmpAt c xs g lb w) (A : Option Addr) (cp : Nat) (hrd : Rd w A xs.length xs) :
    Calls Try.prog 104 #[.slice A xs.length cp, .func (.func g) #[] lb] w fun e w' => ∃ m, Least c xs m ∧ e = .returned (pv m) ∧ Below w.heap.size w w' := by
  have hi1 : (1 : Int) ≤ xs.length := by omega
  obtain ⟨eg, H⟩ := H
  have HH := Lib.hid H
  clear H
  go_enter Try.func104, Try.ntmps104
  obtain ⟨G, off, hl0, rfl, hG, c0, c1⟩ := hrd.at_ h0
  simp only [Nat.zero_mul, Nat.add_zero] at c0 c1
  have S0 := ((St.start w).alloc 87 #[.int .i64 0, .int .i64 0]).alloc 87 #[.int .i64 xs[0].1, .int .i64 xs[0].2]
  simp only [World.size_alloc] at S0
  have HL := Lib.hid (least_one hc h0)
  generalize xs[0] = m0 at c0 c1 S0 HL
  go_wp2_with fail
  go_loopg [6] (xs.length - 1) (fun k v wr => MinL c xs w k v wr)
  case atStart => exact ⟨1, m0, rfl, by omega, by omega, by omega, HL, S0⟩
  case round =>
    clear S0 HL c0 c1
    obtain ⟨i, m, rfl, hk, hi, hin, HM, S⟩ := hrel
    subst hk
    by_cases hlt : i < xs.length
    · obtain ⟨G', off', hl, e', hG', d0, d1⟩ := hrd.at_ hlt
      simp only [Option.some.injEq, Addr.mk.injEq] at e'
      obtain ⟨rfl, rfl, -⟩ := e'
      have hmx : m ∈ xs := List.mem_of_mem_take HM.out.1
      have HC := Lib.hid (HH.out xs[i] (List.getElem_mem hl) m hmx)
      have HY := Lib.hid (least_take hc hl HM.out)
      have HN := Lib.hid (least_leave hl HM.out)
      have hlt2 : (i : Int) < xs.length := by omega
      have hlen2 : (xs.length : Int) ≤ 1000 := by omega
      generalize xs[i] = p at *
      generalize c p m = x at HC HY HN
      by_cases hx : x < 0
      · have HM2 := Lib.hid (HY.out hx)
        clear HM HY HN hmx HH
        go_wp2_with fail
        go_region_held3 (fun w' => w'.cell? ⟨G, off + i * 2, none⟩ = some (.int .i64 p.1) ∧ w'.cell? ⟨G, off + i * 2 + 1, none⟩ = some (.int .i64 p.2) ∧ w'.cell? ⟨w.heap.size + 1, 0, none⟩ = some (.int .i64 m.1) ∧ w'.cell? ⟨w.heap.size + 1, 1, none⟩ = some (.int .i64 m.2) ∧ St [(w.heap.size + 1, 87, #[.int .i64 m.1, .int .i64 m.2]), (w.heap.size, 87, #[.int .i64 0, .int .i64 0])] w w')
          (first | with_reducible exact S.drw.elt d0 d1 | with_reducible exact SQ.elt d0 d1)
          (first | (refine (HC.out _ S.drw.bel).mono ?_; rintro E wq ⟨rfl, hq⟩; have SQ := S.drw.call hq))
        obtain ⟨k0, k1, k2, k3, -⟩ := SQ.elt d0 d1
        have f0 := SQ.fz0 0
        have f1 := SQ.fz0 1
        go_wp2_with fail
        go_roundg (xs.length - (i + 1))
        case measure => omega
        case rel => exact ⟨i + 1, p, by go_num, by omega, by omega, by omega, HM2, SQ.set2 (by omega) _ _⟩
      · have HM2 := Lib.hid (HN.out hx)
        have hx2 : decide (x < 0) = false := by simpa using hx
        clear HM HY HN hmx HH
        go_wp2_with fail
        go_region_held3 (fun w' => w'.cell? ⟨G, off + i * 2, none⟩ = some (.int .i64 p.1) ∧ w'.cell? ⟨G, off + i * 2 + 1, none⟩ = some (.int .i64 p.2) ∧ w'.cell? ⟨w.heap.size + 1, 0, none⟩ = some (.int .i64 m.1) ∧ w'.cell? ⟨w.heap.size + 1, 1, none⟩ = some (.int .i64 m.2) ∧ St [(w.heap.size + 1, 87, #[.int .i64 m.1, .int .i64 m.2]), (w.heap.size, 87, #[.int .i64 0, .int .i64 0])] w w')
          (first | with_reducible exact S.drw.elt d0 d1 | with_reducible exact SQ.elt d0 d1)
          (first | (refine (HC.out _ S.drw.bel).mono ?_; rintro E wq ⟨rfl, hq⟩; have SQ := S.drw.call hq))
        go_wp2_with fail
        go_roundg (xs.length - (i + 1))
        case measure => omega
        case rel => exact ⟨i + 1, m, by go_num, by omega, by omega, by omega, HM2, SQ⟩
    · have e : i = xs.length := by omega
      have HV : Least c xs m := by have h := HM.out; rwa [e, List.take_length] at h
      have HV := Lib.hid HV
      have hlt2 : (xs.length : Int) ≤ i := by omega
      obtain ⟨q0, q1⟩ : wr.cell? ⟨w.heap.size + 1, 0, none⟩ = some (.int .i64 m.1) ∧ wr.cell? ⟨w.heap.size + 1, 1, none⟩ = some (.int .i64 m.2) := ⟨S.b0.cell 0, S.b0.cell 1⟩
      have g0 := S.b1.frozen 0
      have g1 := S.b1.frozen 1
      have z0 : wr.cell? ⟨w.heap.size, 0, none⟩ = some (.int .i64 0) := S.b1.cell 0
      have z1 : wr.cell? ⟨w.heap.size, 1, none⟩ = some (.int .i64 0) := S.b1.cell 1
      clear HM HH e
      go_wp2_with fail
      refine bodyPost_ret (v := pv m) (by simp [results, Try.results104, go_sem, z0, z1]) rfl ⟨m, HV.out, rfl, ?_⟩
      exact (S.bel.setCell (p := ⟨w.heap.size, 0, none⟩) (Nat.le_refl _) _).setCell (p := ⟨w.heap.size, 1, none⟩) (Nat.le_refl _) _

theorem fdy_bd {A : Int} {N : Nat} (hA : 1 ≤ A) (hN : A + N ≤ 2001) {p : Int × Int} (h : p ∈ fdy A N) : 0 ≤ p.2 ∧ p.2 ≤ 730499 := by
  obtain ⟨-, -, i, hi, e⟩ := (fdy_mem A N p).1 h
  rw [e]
  exact fd_bd _ _ ⟨by omega, by omega⟩

set_option maxRecDepth 100000 in
set_option maxHeartbeats 4000000 in
theorem impl_NearestFeast_yes (n : Int) (h : isDay n) (w : World) : Calls Try.prog 49 #[.int .i64 n] w (NearOut n w) := by
  have O := Lib.hid (impl_dateYr n h)
  obtain ⟨n0, n1⟩ := h
  obtain ⟨y1, y2⟩ := yr_isY n n0 n1
  obtain ⟨A, hA⟩ : ∃ A, max (yr n - 1) 1 = A := ⟨_, rfl⟩
  obtain ⟨B, hB⟩ : ∃ B, min (yr n + 1) 2000 = B := ⟨_, rfl⟩
  obtain ⟨N, hN⟩ : ∃ N : Nat, (N : Int) = B + 1 - A := ⟨(B + 1 - A).toNat, by omega⟩
  have F := Lib.hid (impl_dates (yr n - 1) (yr n + 1) A B hA hB N hN (by omega))
  have hne : 0 < (fdy A N).length := by rw [fdy_len]; omega
  have hle : (fdy A N).length ≤ 1000 := by rw [fdy_len]; omega
  have HA : Hid (∀ m, Least (cmN n) (fdy A N) m → NearAns n m.1 (n - m.2) 0) := Lib.hid fun m hm => near_of n0 n1 rfl hA (by omega) hm
  have HB : Hid (∀ p ∈ fdy A N, 0 ≤ p.2 ∧ p.2 ≤ 730499) := Lib.hid fun p hp => fdy_bd (by omega) (by omega) hp
  clear hA hB hN
  generalize fdy A N = xs at *
  generalize yr n = y at *
  have SN := (St.start w).alloc 2 #[.int .i64 n]
  go_enter Try.func49, Try.ntmps49
  go_wp2_with fail
  refine (O.out _).mono ?_
  rintro e w1 ⟨mm, dd, rfl, hb⟩
  have S1 := (SN.call hb).alloc 36 #[.int .i64 y, .int .i64 mm, .int .i64 dd]
  go_wp2_with fail
  refine (F.out _).mono ?_
  rintro e w0 ⟨v, rfl, ho, hb2⟩
  have S2 := S1.call hb2
  obtain ⟨Ad, cp, rfl, hr⟩ := ho.form
  have hrd := hr.rd
  have hn : w0.cell? ⟨w.heap.size, 0, none⟩ = some (.int .i64 n) := S2.b1.cell 0
  have hcm : CmpAt (cmN n) xs 105 #[.pointer (some ⟨w.heap.size, 0, none⟩)] w0 := by
    refine ⟨enters_of Try.func105 (by kernel_rfl) rfl, fun p hp q hq wx hbx => ?_⟩
    have b1 := HB.out p hp
    have b2 := HB.out q hq
    exact impl_closeN p.1 p.2 q.1 q.2 n _ (by omega) (by omega) (by omega) (by omega) (by omega) (by omega) rfl _ wx (Sets.cell_keep hbx hn)
  have M := Lib.hid (impl_min (cmN n) (cmN_ord n) xs hne hle _ _ w0 hcm Ad cp hrd)
  have hmf : ∀ (fn : Fn) (first cap : Array Value) (w : World), (Instr.makeFunc fn first cap).run Try.prog w = .ok (.func fn first cap) w := fun _ _ _ _ => rfl
  clear hcm ho hr hrd O F hb hb2
  go_wp2_with fail
  refine M.out.mono ?_
  rintro e w3 ⟨m, hm, rfl, hb3⟩
  have HM := Lib.hid (HA.out m hm)
  have bd := HB.out m hm.1
  have S3 := S2.call hb3
  clear hm M HA HB
  obtain ⟨f, d⟩ := m
  obtain ⟨d0, d1⟩ : 0 ≤ d ∧ d ≤ 730499 := bd
  have S4 := S3.alloc 87 #[.int .i64 f, .int .i64 d]
  have q0 : (w3.alloc (.cells #[.int .i64 f, .int .i64 d] 87)).cell? ⟨w3.heap.size, 0, none⟩ = some (.int .i64 f) := S4.b0.cell 0
  have q1 : (w3.alloc (.cells #[.int .i64 f, .int .i64 d] 87)).cell? ⟨w3.heap.size, 1, none⟩ = some (.int .i64 d) := S4.b0.cell 1
  have q2 : (w3.alloc (.cells #[.int .i64 f, .int .i64 d] 87)).cell? ⟨w.heap.size, 0, none⟩ = some (.int .i64 n) := S4.b2.cell 0
  have hbl := S4.bel
  clear S1 S2 S3 S4 hn
  go_wp2_with fail
  generalize w3.alloc (.cells #[.int .i64 f, .int .i64 d] 87) = w4 at q0 q1 q2 hbl ⊢
  go_quiet (fail)
  go_wp2_with fail
  go_ret3
  exact ⟨f, n - d, 0, rfl, HM, below_drewN hbl _⟩

theorem impl_NearestFeast_no (n : Int) (h : ¬ isDay n) (w : World) : Calls Try.prog 49 #[.int .i64 n] w (NearOut n w) := by
  have O := Lib.hid (impl_dateNo n h)
  have HN := Lib.hid (show NearAns n 0 0 2 from .inr ⟨h, rfl, rfl, rfl⟩)
  clear h
  have SN := (St.start w).alloc 2 #[.int .i64 n]
  go_enter Try.func49, Try.ntmps49
  go_wp2_with fail
  refine (O.out _).mono ?_
  rintro e w1 ⟨y, m, d, rfl, hb⟩
  have S1 := (SN.call hb).alloc 36 #[.int .i64 y, .int .i64 m, .int .i64 d]
  go_wp2_with fail
  go_ret3
  exact ⟨0, 0, 2, rfl, HN, S1.bel⟩
theorem impl_NearestFeast (n : Int) (w : World) : Calls Try.prog 49 #[.int .i64 n] w (NearOut n w) := by
  by_cases h : isDay n
  · exact impl_NearestFeast_yes n h w
  · exact impl_NearestFeast_no n h w

end Go.Proofs.Ytegoiiconhgjbaa.Fea
