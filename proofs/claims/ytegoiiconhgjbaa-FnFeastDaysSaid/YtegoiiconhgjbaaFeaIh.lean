/- Contracts of slices.IndexFunc and slices.DeleteFunc at dates of feasts that are past, and of impl's NextFeast. -/
import Derived.Test.YtegoiiconhgjbaaFeaIg
import Derived.Test.YtegoiiconhgjbaaFeaD
import Derived.Lib.SliceRun
namespace Go.Proofs.Ytegoiiconhgjbaa.Fea
open Go.RowKit
open Go.Proofs.Ytegoiiconhgjbaa.Eas (isY It)
open Go.Proofs.Ytegoiiconhgjbaa.Sets (Rd)

/-- What is kept: the dates from n on. -/
def kp (n : Int) (p : Int × Int) : Bool := !decide (p.2 < n)
/-- The list while it is filtered in place: i dates of the first j are kept, and stand first. -/
structure FInv (n : Int) (xs ys : List (Int × Int)) (i j : Nat) : Prop where
  len : ys.length = xs.length
  lt : i < j
  le : j ≤ xs.length
  low : ys.take i = (xs.take j).filter (kp n)
  high : ys.drop j = xs.drop j
theorem FInv.at_ {n : Int} {xs ys : List (Int × Int)} {i j : Nat} (h : FInv n xs ys i j) (hj : j < xs.length) : ys[j]'(by rw [h.len]; exact hj) = xs[j] := by
  have e := congrArg (fun l => l[0]?) h.high
  simp only [List.getElem?_drop, Nat.add_zero] at e
  rw [List.getElem?_eq_getElem (by rw [h.len]; exact hj), List.getElem?_eq_getElem hj] at e
  injection e
theorem FInv.drop_ {n : Int} {xs ys : List (Int × Int)} {i j : Nat} (h : FInv n xs ys i j) : ys.drop (j + 1) = xs.drop (j + 1) := by
  have e := congrArg (List.drop 1) h.high
  rwa [List.drop_drop, List.drop_drop] at e
theorem FInv.skip {n : Int} {xs ys : List (Int × Int)} {i j : Nat} (h : FInv n xs ys i j) (hj : j < xs.length) (hk : xs[j].2 < n) : FInv n xs ys i (j + 1) := by
  refine ⟨h.len, by have := h.lt; omega, by omega, ?_, h.drop_⟩
  rw [List.take_succ_eq_append_getElem hj, List.filter_append, h.low]
  simp [kp, hk]
theorem FInv.keep {n : Int} {xs ys : List (Int × Int)} {i j : Nat} (h : FInv n xs ys i j) (hj : j < xs.length) (hk : ¬ xs[j].2 < n) : FInv n xs (ys.set i xs[j]) (i + 1) (j + 1) := by
  have hl := h.len
  have hi := h.lt
  refine ⟨by rw [List.length_set, hl], by omega, by omega, ?_, ?_⟩
  · rw [List.take_succ_eq_append_getElem hj, List.filter_append, ← h.low]
    apply List.ext_getElem?
    intro q
    rw [List.getElem?_take, List.getElem?_append, List.getElem?_take, List.length_take]
    by_cases hq : q < i
    · rw [if_pos (by omega), if_pos (by omega), if_pos hq, List.getElem?_set_ne (by omega)]
    · by_cases hq2 : q = i
      · subst hq2
        rw [if_pos (by omega), if_neg (by omega), List.getElem?_set_self (by omega)]
        simp [kp, hk, Nat.min_eq_left (show q ≤ ys.length by omega)]
      · rw [if_neg (by omega), if_neg (by omega)]
        have : ((if kp n xs[j] then [xs[j]] else []) : List (Int × Int)).length ≤ 1 := by split <;> simp
        rw [List.getElem?_eq_none]
        simp only [List.filter_cons, List.filter_nil]
        omega
  · rw [← h.drop_]
    apply List.ext_getElem?
    intro q
    rw [List.getElem?_drop, List.getElem?_drop, List.getElem?_set_ne (by omega)]
theorem FInv.start {n : Int} {xs : List (Int × Int)} {k : Nat} (hk : k < xs.length) (h : ∀ p ∈ xs.take k, ¬ p.2 < n) (h2 : xs[k].2 < n) : FInv n xs xs k (k + 1) := by
  refine ⟨rfl, by omega, by omega, ?_, rfl⟩
  rw [List.take_succ_eq_append_getElem hk, List.filter_append, List.filter_eq_self.2 (fun p hp => by simp [kp, h p hp])]
  simp [kp, h2]

theorem impl_past (f d n : Int) (b : Nat) (w : World) (hn : w.cell? ⟨b, 0, none⟩ = some (.int .i64 n)) : Calls Try.prog 111 #[.agg #[.int .i64 f, .int .i64 d], .pointer (some ⟨b, 0, none⟩)] w fun e w' => e = .returned (.bool (decide (d < n))) ∧ Below w.heap.size w w' := by
  have S := (St.start w).alloc 87 #[.int .i64 f, .int .i64 d]
  have hn2 : (w.alloc (.cells #[.int .i64 f, .int .i64 d] 87)).cell? ⟨b, 0, none⟩ = some (.int .i64 n) := (S.bel.cell (World.block_lt_of_cell? _ _ hn)).trans hn
  go_enter Try.func111, Try.ntmps111
  go_wp2
  go_ret
  exact ⟨rfl, S.bel⟩

/-- What slices.IndexFunc answers: the first past date's place, or -1. -/
def IdxO (n : Int) (xs : List (Int × Int)) (i : Int) : Prop := (i = -1 ∧ ∀ p ∈ xs, ¬ p.2 < n) ∨ ∃ k : Nat, ∃ hk : k < xs.length, i = k ∧ (∀ p ∈ xs.take k, ¬ p.2 < n) ∧ xs[k].2 < n
set_option maxRecDepth 10000 in
set_option maxHeartbeats 2000000 in
theorem impl_index (xs : List (Int × Int)) (n : Int) (hlen : xs.length ≤ 1000) (b : Nat) (w : World) (hn : w.cell? ⟨b, 0, none⟩ = some (.int .i64 n)) (A : Option Addr) (cp : Nat) (hrd : Rd w A xs.length xs) :
    Calls Try.prog 147 #[.slice A xs.length cp, .func (.func 111) #[] #[.pointer (some ⟨b, 0, none⟩)]] w fun e w' => ∃ i : Int, IdxO n xs i ∧ e = .returned (.int .i64 i) ∧ Below w.heap.size w w' := by
  go_enter Try.func147, Try.ntmps147
  go_wp2_with fail
  go_loopg [8] xs.length (fun k v wr => ∃ i : Nat, i ≤ xs.length ∧ k = xs.length - i ∧ v = .int .i64 i ∧ Hid (∀ p ∈ xs.take i, ¬ p.2 < n) ∧ Below w.heap.size w wr)
  case atStart => exact ⟨0, by omega, by omega, rfl, Lib.hid (fun p h => by simp at h), Below.refl _ _⟩
  case round =>
    obtain ⟨i, hi, hk, rfl, HK, hb⟩ := hrel
    subst hk
    by_cases hlt : i < xs.length
    · obtain ⟨g, off, hl, rfl, hg, d0, d1⟩ := (hrd.below hb).at_ hlt
      have hlt2 : (i : Int) < xs.length := by omega
      have hlen2 : (xs.length : Int) ≤ 1000 := by omega
      have HP := Lib.hid (impl_past xs[i].1 xs[i].2 n b wr (Sets.cell_keep hb hn))
      have HS : Hid (¬ xs[i].2 < n → ∀ p ∈ xs.take (i + 1), ¬ p.2 < n) := Lib.hid fun h p hp => by
        rw [List.take_succ_eq_append_getElem hl] at hp
        rcases List.mem_append.1 hp with hp | hp
        · exact HK.out p hp
        · simp at hp; subst hp; exact h
      have HE : Hid (xs[i].2 < n → IdxO n xs i) := Lib.hid fun h => .inr ⟨i, hl, rfl, HK.out, h⟩
      generalize xs[i] = p at *
      by_cases hc : p.2 < n
      · have HR := Lib.hid (HE.out hc)
        have ec : decide (p.2 < n) = true := decide_eq_true hc
        rw [ec] at HP
        clear HE HS HK hc ec
        go_wp2_with fail
        refine HP.out.mono ?_
        rintro e w2 ⟨rfl, hb2⟩
        go_wp2_with fail
        go_ret
        exact ⟨i, HR, rfl, hb.trans (hb2.mono hb.size)⟩
      · have HR := Lib.hid (HS.out hc)
        have ec : decide (p.2 < n) = false := decide_eq_false hc
        rw [ec] at HP
        clear HE HS HK hc ec
        go_wp2_with fail
        refine HP.out.mono ?_
        rintro e w2 ⟨rfl, hb2⟩
        go_wp2_with fail
        go_roundg (xs.length - (i + 1))
        case measure => omega
        case rel => exact ⟨i + 1, by omega, by omega, by go_num, HR, hb.trans (hb2.mono hb.size)⟩
    · have e : i = xs.length := by omega
      have HR : Hid (IdxO n xs (-1)) := Lib.hid (.inl ⟨rfl, fun p hp => HK.out p (by rw [e, List.take_length]; exact hp)⟩)
      have hlt2 : (xs.length : Int) ≤ i := by omega
      clear HK e
      go_wp2_with fail
      go_ret
      exact ⟨-1, HR, rfl, hb⟩

theorem below_setCells {B : Nat} {w0 : World} (g : Nat) (hg : B ≤ g) : ∀ (vs : List Value) (o : Nat) (w : World), Below B w0 w → Below B w0 (w.setCells g o vs)
  | [], _, _, h => h
  | v :: r, o, _, h => below_setCells g hg r (o + 1) _ (h.setCell (p := ⟨g, o, none⟩) hg v)
theorem zeros2 (n : Nat) : (Builtin.zeroCells #[Value.int .i64 0, Value.int .i64 0] n).toList = List.replicate (n * 2) (Value.int .i64 0) := by
  apply List.ext_getElem
  · simp [Builtin.zeroCells]
  · intro i h1 h2
    have : i % 2 < 2 := Nat.mod_lt _ (by omega)
    have h3 : i % 2 = 0 ∨ i % 2 = 1 := by omega
    rcases h3 with h3 | h3 <;> simp [Builtin.zeroCells, h3]
theorem run_clear2 (w : World) (t e ty : TypeId) (ht : Try.prog.underlying t = some (.slice e)) (hv : ∀ w, (zeroValue e).run Try.prog w = .ok (.agg #[.int .i64 0, .int .i64 0]) w) (b o n c : Nat) (hn : 0 < n)
    (hc : ∀ j, j < n * 2 → (w.cell? ⟨b, o + j, none⟩).isSome = true) (hf : ∀ j, j < n * 2 → w.frozen? ⟨b, o + j, none⟩ = false) :
    (Builtin.clear_ #[t] ty #[.slice (some ⟨b, o, none⟩) n c]).run Try.prog w = .ok (.tuple #[]) (w.setCells b o (List.replicate (n * 2) (.int .i64 0))) := by
  have hst := run_storeCells_cells (P := Try.prog) b o (List.replicate (n * 2) (Value.int .i64 0)) 0 w (by simpa using hc) (by simpa using hf) (by intro v hv'; rw [List.eq_of_mem_replicate hv']; rfl)
  simp only [Nat.add_zero] at hst
  obtain ⟨m, rfl⟩ : ∃ m, n = m + 1 := ⟨n - 1, by omega⟩
  simp [Builtin.clear_, run_underlying ht, hv, Value.cells, zeros2, hst]
theorem _root_.Go.Proofs.Ytegoiiconhgjbaa.Fdt.Cells.some_ {w : World} {g cap : Nat} {ys : List (Int × Int)} (h : Fdt.Cells w g cap ys) {j : Nat} (hj : j < cap * 2) : (w.cell? ⟨g, j, none⟩).isSome = true ∧ w.frozen? ⟨g, j, none⟩ = false := by
  obtain ⟨cs, hs, hb, -⟩ := h
  rw [hb.cell, Array.getElem?_eq_getElem (by omega)]
  exact ⟨rfl, hb.frozen _⟩
theorem rd_low {w : World} {g cap i : Nat} {ys zs : List (Int × Int)} (h : Fdt.Cells w g cap ys) (e : ys.take i = zs) (hi : i ≤ ys.length) (vs : List Value) :
    Rd (w.setCells g (i * 2) vs) (some ⟨g, 0, none⟩) zs.length zs := by
  have hl : zs.length = i := by rw [← e, List.length_take]; omega
  have hsz : ∀ (vs : List Value) (o : Nat) (w : World), (w.setCells g o vs).heap.size = w.heap.size := by
    intro vs
    induction vs with
    | nil => intro o w; rfl
    | cons v r ih => intro o w; exact (ih _ _).trans (by simp [World.setCell])
  refine ⟨rfl, fun _ => ⟨g, 0, rfl, by rw [hsz]; obtain ⟨cs, hs, hb, -⟩ := h; exact hb.lt, fun k hk => ?_⟩⟩
  obtain ⟨cs, hs, hb, hc⟩ := h
  rw [World.cell?_setCells_out _ _ _ _ _ (by intro _ _; simp only; omega), World.cell?_setCells_out _ _ _ _ _ (by intro _ _; simp only; omega), hb.cell, hb.cell]
  have hk2 : k < ys.length := by omega
  have := hc k hk2
  have e2 : zs[k] = ys[k] := by subst e; simp
  rw [e2]
  simpa using this

theorem ret_len {A : Option Addr} {a b c : Nat} (h : a = b) : Ending.returned (.slice A a c) = .returned (.slice A b c) := by rw [h]
def DLoop (n : Int) (xs : List (Int × Int)) (g cap : Nat) (w0 : World) (k : Nat) (vi vj : Value) (wr : World) : Prop :=
  ∃ (i j : Nat) (ys : List (Int × Int)), vi = .int .i64 i ∧ vj = .int .i64 j ∧ k = xs.length - j ∧ Hid (FInv n xs ys i j) ∧ i < j ∧ j ≤ xs.length ∧ ys.length = xs.length ∧ Fdt.Cells wr g cap ys ∧ Below w0.heap.size w0 wr
set_option maxRecDepth 10000 in
set_option maxHeartbeats 4000000 in
theorem impl_delete (xs : List (Int × Int)) (n : Int) (hlen : xs.length ≤ 1000) (b : Nat) (w0 w : World) (hb0 : Below w0.heap.size w0 w) (hn : w0.cell? ⟨b, 0, none⟩ = some (.int .i64 n)) (g cap : Nat) (hg : w0.heap.size ≤ g) (hC : Fdt.Cells w g cap xs) (hcap : xs.length ≤ cap) :
    Calls Try.prog 112 #[.slice (some ⟨g, 0, none⟩) xs.length cap, .func (.func 111) #[] #[.pointer (some ⟨b, 0, none⟩)]] w fun e w' => ∃ c2 : Nat, e = .returned (.slice (some ⟨g, 0, none⟩) (xs.filter (kp n)).length c2) ∧ Rd w' (some ⟨g, 0, none⟩) (xs.filter (kp n)).length (xs.filter (kp n)) ∧ Below w0.heap.size w0 w' := by
  have I := Lib.hid (impl_index xs n hlen b w (Sets.cell_keep hb0 hn) (some ⟨g, 0, none⟩) cap hC.rd)
  go_enter Try.func112, Try.ntmps112
  go_wp2_with fail
  refine I.out.mono ?_
  rintro e w1 ⟨q, hq, rfl, hb1⟩
  have hC1 := hC.below hb1
  replace hb1 := hb0.trans (hb1.mono hb0.size)
  clear I
  rcases hq with ⟨rfl, hall⟩ | ⟨k, hk, rfl, h1, h2⟩
  · have e := Lib.hid (show xs.filter (kp n) = xs from List.filter_eq_self.2 (fun p hp => by simp [kp, hall p hp]))
    have HR := Lib.hid hC1.rd
    clear hall hC hC1
    go_wp2_with fail
    go_ret
    rw [e.out]
    exact ⟨cap, rfl, HR.out, hb1⟩
  · have HS := Lib.hid (FInv.start hk h1 h2)
    have hk2 : (k : Int) < xs.length := by omega
    have hlen2 : (xs.length : Int) ≤ 1000 := by omega
    have hne : ((k : Int) == -1) = false := by simp
    clear h1 h2
    go_wp2_with fail
    go_loopg [5, 6] (xs.length - (k + 1)) (fun m vi vj wr => DLoop n xs g cap w0 m vi vj wr)
    case atStart => exact ⟨k, k + 1, xs, rfl, rfl, rfl, HS, by omega, by omega, rfl, hC1, hb1⟩
    case round =>
      clear HS hne hC1 hb1 hC hk2 hk
      obtain ⟨i, j, ys, rfl, rfl, hm, HI, hij, hjl, hyl, hCr, hbr⟩ := hrel
      subst hm
      by_cases hlt : j < xs.length
      · obtain ⟨c0, c1, -, -⟩ := hCr.at_ (by omega) (show j < ys.length by omega)
        rw [HI.out.at_ hlt] at c0 c1
        have hj2 : (j : Int) < xs.length := by omega
        have HY := Lib.hid (fun hh => HI.out.skip hlt hh)
        have HN := Lib.hid (fun hh => HI.out.keep hlt hh)
        obtain ⟨a, ha⟩ : ∃ a, xs[j].1 = a := ⟨_, rfl⟩
        obtain ⟨d, hd⟩ : ∃ d, xs[j].2 = d := ⟨_, rfl⟩
        have hp : xs[j] = (a, d) := Prod.ext ha hd
        rw [hp] at c0 c1 HN
        rw [hd] at HY
        have hb2 : Below w0.heap.size w0 (wr.alloc (.cells #[.int .i64 a, .int .i64 d] 87)) := hbr.alloc hbr.size _
        have HP := Lib.hid (impl_past a d n b (wr.alloc (.cells #[.int .i64 a, .int .i64 d] 87)) (Sets.cell_keep hb2 hn))
        have hB := Blk.new wr 87 #[.int .i64 a, .int .i64 d]
        have hC2 := hCr.below ((Below.refl _ _).alloc (Nat.le_refl _) (.cells #[.int .i64 a, .int .i64 d] 87))
        clear ha hd hp HI hn
        by_cases hc : d < n
        · have HR := Lib.hid (HY.out hc)
          have ec : decide (d < n) = true := decide_eq_true hc
          rw [ec] at HP
          clear HY HN hc ec
          go_wp2_with fail
          refine HP.out.mono ?_
          rintro e w2 ⟨rfl, hb3⟩
          go_wp2_with fail
          go_roundg (xs.length - (j + 1))
          case measure => omega
          case rel => exact ⟨i, j + 1, ys, rfl, by go_num, rfl, HR, by omega, by omega, hyl, hC2.below hb3, hb2.trans (hb3.mono hb2.size)⟩
        · have HR := Lib.hid (HN.out hc)
          have ec : decide (d < n) = false := decide_eq_false hc
          rw [ec] at HP
          clear HY HN hc ec
          go_wp2_with fail
          refine HP.out.mono ?_
          rintro e w2 ⟨rfl, hb3⟩
          have hB2 := hB.below hb3 hB.lt
          have k0 : w2.cell? ⟨wr.heap.size, 0, none⟩ = some (.int .i64 a) := hB2.cell 0
          have k1 : w2.cell? ⟨wr.heap.size, 1, none⟩ = some (.int .i64 d) := hB2.cell 1
          have hC3 := hC2.below hb3
          obtain ⟨m0, m1, f0, f1⟩ := hC3.at_ (by omega) (show i < ys.length by omega)
          have hi2 : (i : Int) < xs.length := by omega
          generalize ys[i].1 = y1 at m0
          generalize ys[i].2 = y2 at m1
          go_wp2_with fail
          go_roundg (xs.length - (j + 1))
          case measure => omega
          case rel => exact ⟨i + 1, j + 1, ys.set i (a, d), by go_num, by go_num, rfl, HR, by omega, by omega, by rw [List.length_set]; exact hyl, hC3.set (by omega) (by omega) (a, d), ((hb2.trans (hb3.mono hb2.size)).setCell (p := ⟨g, i * 2, none⟩) hg _).setCell (p := ⟨g, i * 2 + 1, none⟩) hg _⟩
      · have e : j = xs.length := by omega
        have HR : Hid (ys.take i = xs.filter (kp n)) := Lib.hid (by rw [HI.out.low, e, List.take_length])
        have hj2 : (xs.length : Int) ≤ j := by omega
        have hi2 : (i : Int) ≤ xs.length := by omega
        have hi3 : i < xs.length := by omega
        have hcl := fun ty => run_clear2 wr 84 87 ty Try.underlying84 (fun _ => by kernel_rfl) g (i * 2) (xs.length - i) (cap - i) (by omega) (fun q hq => (hCr.some_ (by omega)).1) (fun q hq => (hCr.some_ (by omega)).2)
        clear HI e
        go_wp2_with fail
        go_ret
        have hlz : (xs.filter (kp n)).length = i := by rw [← HR.out, List.length_take]; omega
        exact ⟨cap, ret_len hlz.symm, rd_low hCr HR.out (by omega) _, below_setCells g hg _ _ _ hbr⟩

set_option maxRecDepth 100000 in
set_option maxHeartbeats 4000000 in
theorem impl_NextFeast_yes (n : Int) (h : isDay n) (w : World) : Calls Try.prog 52 #[.int .i64 n] w (NextOut n w) := by
  have O := Lib.hid (impl_dateYr n h)
  obtain ⟨n0, n1⟩ := h
  obtain ⟨y1, y2⟩ := yr_isY n n0 n1
  obtain ⟨B, hB⟩ : ∃ B, min (yr n + 1) 2000 = B := ⟨_, rfl⟩
  obtain ⟨N, hN⟩ : ∃ N : Nat, (N : Int) = B + 1 - yr n := ⟨(B + 1 - yr n).toNat, by omega⟩
  have F := Lib.hid (impl_dates (yr n) (yr n + 1) (yr n) B (by omega) hB N hN (by omega))
  have hne : 0 < (fdy (yr n) N).length := by rw [fdy_len]; omega
  have hle : (fdy (yr n) N).length ≤ 1000 := by rw [fdy_len]; omega
  have HA : Hid (∀ m, Least cmD ((fdy (yr n) N).filter (kp n)) m → NextAns n m.2 m.1 0) := Lib.hid fun m hm => next_of n0 n1 rfl (by omega) hm
  have HZ : Hid ((fdy (yr n) N).filter (kp n) = [] → NextAns n 0 0 4) := Lib.hid fun hz => next_no n0 n1 rfl (by omega) hz
  clear hB hN
  generalize fdy (yr n) N = xs at *
  generalize yr n = y at *
  have SN := (St.start w).alloc 2 #[.int .i64 n]
  have hmf : ∀ (fn : Fn) (first cap : Array Value) (w : World), (Instr.makeFunc fn first cap).run Try.prog w = .ok (.func fn first cap) w := fun _ _ _ _ => rfl
  go_enter Try.func52, Try.ntmps52
  go_wp2_with fail
  refine (O.out _).mono ?_
  rintro e w1 ⟨mm, dd, rfl, hb⟩
  have S1 := (SN.call hb).alloc 36 #[.int .i64 y, .int .i64 mm, .int .i64 dd]
  go_wp2_with fail
  obtain ⟨w0, hw0⟩ : ∃ w0, w1.alloc (.cells #[.int .i64 y, .int .i64 mm, .int .i64 dd] 36) = w0 := ⟨_, rfl⟩
  rw [hw0] at S1 ⊢
  refine (F.out _).mono ?_
  rintro e w2 ⟨v, rfl, ho, hb2⟩
  have hn : w0.cell? ⟨w.heap.size, 0, none⟩ = some (.int .i64 n) := S1.b1.cell 0
  obtain ⟨g, cap, rfl, hg, -, hcap, -, hC⟩ := ho.cellsN xs.length rfl hne
  have DEL := Lib.hid (impl_delete xs n hle _ w0 w2 hb2 hn g cap hg hC hcap)
  have hkl : (xs.filter (kp n)).length ≤ 1000 := Nat.le_trans (List.length_filter_le _ _) hle
  clear ho hC hw0 F O SN hb hne hle hcap hg
  generalize xs.filter (kp n) = zs at *
  have hbw := S1.bel
  clear S1
  go_wp2_with fail
  refine DEL.out.mono ?_
  rintro e w3 ⟨c2, rfl, hrd, hb3⟩
  clear DEL hb2 hn
  cases zs with
  | nil =>
    have HN := Lib.hid (HZ.out rfl)
    clear HA HZ hrd
    simp only [List.length_nil]
    go_wp2_with fail
    go_ret3
    exact ⟨0, 0, 4, rfl, HN, hbw.trans (hb3.mono hbw.size)⟩
  | cons z r =>
    have hcm : CmpAt cmD (z :: r) 109 #[] w3 := ⟨enters_of Try.func109 (by kernel_rfl) rfl, fun p _ q _ wx _ => impl_compare p.1 p.2 q.1 q.2 _ rfl wx⟩
    have hl1 : 0 < (z :: r).length := by simp
    have M := Lib.hid (impl_min cmD cmD_ord (z :: r) hl1 hkl _ _ w3 hcm _ c2 hrd)
    obtain ⟨L, hL⟩ : ∃ L : Nat, (z :: r).length = L := ⟨_, rfl⟩
    rw [hL] at M hl1 ⊢
    have hl2 : ((L : Int) == 0) = false := by simp; omega
    clear hL hcm hrd HZ
    go_wp2_with fail
    refine M.out.mono ?_
    rintro e w4 ⟨m, hm, rfl, hb4⟩
    have HM := Lib.hid (HA.out m hm)
    clear M HA hm
    obtain ⟨f, d⟩ := m
    have hb5 := (hb3.trans (hb4.mono hb3.size))
    have hbf := (hbw.trans (hb5.mono hbw.size)).alloc (by have := hbw.size; have := hb5.size; omega) (.cells #[.int .i64 f, .int .i64 d] 87)
    have hB := Blk.new w4 87 #[.int .i64 f, .int .i64 d]
    have q0 : (w4.alloc (.cells #[.int .i64 f, .int .i64 d] 87)).cell? ⟨w4.heap.size, 0, none⟩ = some (.int .i64 f) := hB.cell 0
    have q1 : (w4.alloc (.cells #[.int .i64 f, .int .i64 d] 87)).cell? ⟨w4.heap.size, 1, none⟩ = some (.int .i64 d) := hB.cell 1
    clear hB hb5 hb4 hb3 hbw
    go_wp2_with fail
    generalize w4.alloc (.cells #[.int .i64 f, .int .i64 d] 87) = w5 at q0 q1 hbf ⊢
    go_quiet (fail)
    go_wp2_with fail
    go_ret3
    exact ⟨d, f, 0, rfl, HM, below_drewN hbf _⟩

theorem impl_NextFeast_no (n : Int) (h : ¬ isDay n) (w : World) : Calls Try.prog 52 #[.int .i64 n] w (NextOut n w) := by
  have O := Lib.hid (impl_dateNo n h)
  have HN := Lib.hid (show NextAns n 0 0 2 from .inr (.inr ⟨h, rfl, rfl, rfl⟩))
  clear h
  have SN := (St.start w).alloc 2 #[.int .i64 n]
  go_enter Try.func52, Try.ntmps52
  go_wp2_with fail
  refine (O.out _).mono ?_
  rintro e w1 ⟨y, m, d, rfl, hb⟩
  have S1 := (SN.call hb).alloc 36 #[.int .i64 y, .int .i64 m, .int .i64 d]
  go_wp2_with fail
  go_ret3
  exact ⟨0, 0, 2, rfl, HN, S1.bel⟩
theorem impl_NextFeast (n : Int) (w : World) : Calls Try.prog 52 #[.int .i64 n] w (NextOut n w) := by
  by_cases h : isDay n
  · exact impl_NextFeast_yes n h w
  · exact impl_NextFeast_no n h w

end Go.Proofs.Ytegoiiconhgjbaa.Fea
