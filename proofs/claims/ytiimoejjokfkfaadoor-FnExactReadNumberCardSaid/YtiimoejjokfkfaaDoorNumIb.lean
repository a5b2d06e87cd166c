/- Contracts of impl's countOfLetter and sumOfLetters (a deferred closure that recovers). -/
import Derived.Test.YtiimoejjokfkfaaDoorNumJ
import Derived.Test.YtiimoejjokfkfaaDoorNumR
import Derived.Defers
import Derived.Recover
import Derived.WalkLawsBesides
namespace Go.Proofs.YtiimoejjokfkfaaDoor.Num
open Go.RowKit

theorem val_other {c : UInt8} (h1 : c ≠ 105) (h2 : c ≠ 118) (h3 : c ≠ 120) (h4 : c ≠ 108) (h5 : c ≠ 99) (h6 : c ≠ 100) (h7 : c ≠ 109) : val c = 0 := by simp [val, h1, h2, h3, h4, h5, h6, h7]

set_option maxHeartbeats 1000000 in
theorem impl_count_yes (c : UInt8) (z : Bool) (h : 0 < val (cl c z)) (w : World) : Calls Tryd.prog 58 #[.int .u8 c.toNat, .bool z] w fun e w' => e = .returned (.int .i64 (val (cl c z))) ∧ w = w' := by
  rcases z with _ | _
  all_goals
    by_cases h1 : c = 105
    · subst h1
      go_enter Tryd.func58, Tryd.ntmps58
      go_wp2_with fail
      go_ret
      exact ⟨rfl, rfl⟩
    by_cases h2 : c = 106
    · subst h2
      first
      | exact absurd h (by decide)
      | go_enter Tryd.func58, Tryd.ntmps58
        go_wp2_with fail
        go_ret
        exact ⟨rfl, rfl⟩
    by_cases h3 : c = 117
    · subst h3
      go_enter Tryd.func58, Tryd.ntmps58
      go_wp2_with fail
      go_ret
      exact ⟨rfl, rfl⟩
    by_cases h4 : c = 118
    · subst h4
      go_enter Tryd.func58, Tryd.ntmps58
      go_wp2_with fail
      go_ret
      exact ⟨rfl, rfl⟩
    by_cases h5 : c = 120
    · subst h5
      go_enter Tryd.func58, Tryd.ntmps58
      go_wp2_with fail
      go_ret
      exact ⟨rfl, rfl⟩
    by_cases h6 : c = 108
    · subst h6
      go_enter Tryd.func58, Tryd.ntmps58
      go_wp2_with fail
      go_ret
      exact ⟨rfl, rfl⟩
    by_cases h7 : c = 99
    · subst h7
      go_enter Tryd.func58, Tryd.ntmps58
      go_wp2_with fail
      go_ret
      exact ⟨rfl, rfl⟩
    by_cases h8 : c = 100
    · subst h8
      go_enter Tryd.func58, Tryd.ntmps58
      go_wp2_with fail
      go_ret
      exact ⟨rfl, rfl⟩
    by_cases h9 : c = 109
    · subst h9
      go_enter Tryd.func58, Tryd.ntmps58
      go_wp2_with fail
      go_ret
      exact ⟨rfl, rfl⟩
    exfalso
    have e : uv c = c := if_neg h3
    have e2 : ∀ z, cl c z = c := by intro z; unfold cl; rw [e, if_neg (fun q => h2 q.2)]
    rw [e2, val_other h1 h4 h5 h6 h7 h8 h9] at h
    omega

set_option maxHeartbeats 1000000 in
theorem impl_count_no (c : UInt8) (z : Bool) (h : ¬ 0 < val (cl c z)) (w : World) : Calls Tryd.prog 58 #[.int .u8 c.toNat, .bool z] w fun e w' => e = .panicked [{ v := .iface 79 (.int .u8 c.toNat), recovered := false }] ∧ w' = w := by
  by_cases h2 : c = 106
  · subst h2
    rcases z with _ | _
    · go_enter Tryd.func58, Tryd.ntmps58
      go_wp2_with fail
      exact ⟨rfl, rfl, rfl⟩
    · exact absurd (by decide) h
  have key : ∀ d : UInt8, c ≠ d → ((c.toNat : Int) == (d.toNat : Int)) = false := fun d hd => byte_ne hd
  have h3 : c ≠ 117 := by rintro rfl; exact h (by cases z <;> decide)
  have e2 : cl c z = c := by unfold cl; rw [show uv c = c from if_neg h3, if_neg (fun q => h2 q.2)]
  rw [e2] at h
  have h1 : c ≠ 105 := by rintro rfl; exact h (by decide)
  have h4 : c ≠ 118 := by rintro rfl; exact h (by decide)
  have h5 : c ≠ 120 := by rintro rfl; exact h (by decide)
  have h6 : c ≠ 108 := by rintro rfl; exact h (by decide)
  have h7 : c ≠ 99 := by rintro rfl; exact h (by decide)
  have h8 : c ≠ 100 := by rintro rfl; exact h (by decide)
  have h9 : c ≠ 109 := by rintro rfl; exact h (by decide)
  have k1 : ((c.toNat : Int) == 105) = false := key 105 h1
  have k2 : ((c.toNat : Int) == 106) = false := key 106 h2
  have k3 : ((c.toNat : Int) == 117) = false := key 117 h3
  have k4 : ((c.toNat : Int) == 118) = false := key 118 h4
  have k5 : ((c.toNat : Int) == 120) = false := key 120 h5
  have k6 : ((c.toNat : Int) == 108) = false := key 108 h6
  have k7 : ((c.toNat : Int) == 99) = false := key 99 h7
  have k8 : ((c.toNat : Int) == 100) = false := key 100 h8
  have k9 : ((c.toNat : Int) == 109) = false := key 109 h9
  clear h h1 h2 h3 h4 h5 h6 h7 h8 h9 key e2
  go_enter Tryd.func58, Tryd.ntmps58
  go_wp2_with fail
  exact ⟨rfl, rfl, rfl⟩

/-- The deferred closure of a frame that panics: the panic is taken, the results are 0 and false. -/
theorem catch_panic (p q : Addr) (x : Int) (y : Bool) (u : TypeId) (pv : Value) (older : List PanicEntry) (w : World) (hc : w.cell? p = some (.int .i64 x)) (hz : w.frozen? p = false)
    (hc2 : (w.setCell p (.int .i64 0)).cell? q = some (.bool y)) (hz2 : w.frozen? q = false) :
    CallsD Tryd.prog 57 #[.pointer (some p), .pointer (some q)] (.panicking ({ v := .iface u pv, recovered := false } :: older)) w fun e u' w' =>
      e = .returned (.tuple #[]) ∧ u' = .panicking ({ v := .iface u pv, recovered := true } :: older) ∧ w' = (w.setCell p (.int .i64 0)).setCell q (.bool false) := by
  have hz3 : (w.setCell p (.int .i64 0)).frozen? q = false := by rw [World.frozen?_setCell]; exact hz2
  refine callsD_of_wpS Tryd.func57 rfl fun c₀ cs hu => ?_
  apply wpS_seq
  apply wpS_region
  simp [wpOpsS, go_sem, recoverD, hu, Tryd.ntmps57, Exit.thenS]
  refine wpS_cond (t := true) (by simp [Act.eval, Array.replicate]) ?_
  simp only [if_true]
  apply wpS_region
  simp [wpOpsS, go_sem, hc, hz, hc2, hz3, bodyPostS, results, Tryd.results57]

theorem catch_idle (p q : Addr) (w : World) :
    CallsD Tryd.prog 57 #[.pointer (some p), .pointer (some q)] .returning w fun e u' w' => e = .returned (.tuple #[]) ∧ u' = .returning ∧ w' = w := by
  refine callsD_of_wpS Tryd.func57 rfl fun c₀ cs hu => ?_
  apply wpS_seq
  apply wpS_region
  simp [wpOpsS, go_sem, recoverD, hu, Tryd.ntmps57, Exit.thenS]
  refine wpS_cond (t := false) (by simp [Act.eval, Array.replicate]) ?_
  simp only [Bool.false_eq_true, if_false]
  refine wpS_of_wp (wp_skip ?_)
  cases c₀
  simp_all [bodyPostS, results, Tryd.results57]

/-- What the first letter of a rest counts. -/
def hv : List UInt8 → Int
  | [] => 0
  | a :: _ => val a
theorem hv_bd : ∀ l, 0 ≤ hv l ∧ hv l ≤ 1000
  | [] => by simp [hv]
  | a :: _ => val_bd' a
theorem sum_cons (a : UInt8) : ∀ r, sumL (a :: r) = (if val a < hv r then - val a else val a) + sumL r
  | [] => by
    have := (val_bd' a).1
    rw [if_neg (by show ¬ val a < 0; omega)]
    show val a = val a + 0
    omega
  | b :: r => rfl
theorem sum_bd : ∀ l, -(1000 * (l.length : Int)) ≤ sumL l ∧ sumL l ≤ 1000 * (l.length : Int)
  | [] => by simp [sumL]
  | a :: r => by
    have h := sum_bd r
    have b := val_bd' a
    rw [sum_cons, List.length_cons]
    split <;> omega

/-- What is known while letters are read: the two results' cells. -/
structure Rs (w : World) (g : Nat) (S : Int) (wr : World) : Prop where
  sum : wr.cell? ⟨g, 0, none⟩ = some (.int .i64 S)
  sumC : wr.frozen? ⟨g, 0, none⟩ = false
  rd : wr.cell? ⟨g + 1, 0, none⟩ = some (.bool false)
  rdC : wr.frozen? ⟨g + 1, 0, none⟩ = false
  bel : Below w.heap.size w wr
theorem Rs.set {w wr : World} {g : Nat} {S : Int} (h : Rs w g S wr) (hg : w.heap.size ≤ g) (T : Int) : Rs w g T (wr.setCell ⟨g, 0, none⟩ (.int .i64 T)) where
  sum := World.cell?_setCell_same _ _ _ h.sum
  sumC := by rw [World.frozen?_setCell]; exact h.sumC
  rd := by rw [World.cell?_setCell_other _ _ _ _ (by intro he; injection he with h1 h2 h3; omega)]; exact h.rd
  rdC := by rw [World.frozen?_setCell]; exact h.rdC
  bel := h.bel.setCell hg _

theorem Rs.start (w : World) : Rs w w.heap.size 0 ((w.alloc (.cells #[.int .i64 0] 2)).alloc (.cells #[.bool false] 4)) where
  sum := by simp [go_sem]
  sumC := by simp [go_sem]
  rd := by simp [go_sem]
  rdC := by simp [go_sem]
  bel := ((Below.refl _ _).alloc (Nat.le_refl _) _).alloc (by simp) _

def SumAns (l : List UInt8) (k : Int) (b : Bool) : Prop := (allL l ∧ k = sumL (plainL l) ∧ b = true) ∨ (¬ allL l ∧ k = 0 ∧ b = false)

/-- .. where the second result is laid, too: what is answered. -/
theorem Rs.fin {w wr : World} {g : Nat} {S : Int} (h : Rs w g S wr) (hg : w.heap.size ≤ g) (b : Bool) (v : Value) (hv : v = .bool b) :
    (wr.setCell ⟨g + 1, 0, none⟩ v).cell? ⟨g, 0, none⟩ = some (.int .i64 S) ∧ (wr.setCell ⟨g + 1, 0, none⟩ v).cell? ⟨g + 1, 0, none⟩ = some (.bool b) ∧ Below w.heap.size w (wr.setCell ⟨g + 1, 0, none⟩ v) := by
  subst hv
  refine ⟨?_, World.cell?_setCell_same _ _ _ h.rd, h.bel.setCell (show w.heap.size ≤ g + 1 by omega) _⟩
  rw [World.cell?_setCell_other _ _ _ _ (by intro he; injection he with h1 h2 h3; omega)]
  exact h.sum

set_option maxHeartbeats 4000000 in
theorem impl_sum0 (l P : List UInt8) (hl : l.length ≤ 20) (pl : P.length = l.length) (HP : Hid (∀ (k : Nat) (h : k < l.length), P[k]'(by omega) = cl l[k] (decide (k + 1 = l.length)))) (ans : Hid (∀ k b, ((∀ c ∈ P, 0 < val c) ∧ k = sumL P ∧ b = true) ∨ ((∃ c ∈ P, ¬ 0 < val c) ∧ k = 0 ∧ b = false) → SumAns l k b)) (w : World) :
    Calls Tryd.prog 40 #[.string (str l)] w (NB (SumAns l) w) := by
  have hmf : ∀ (fn : Fn) (first cap : Array Value) (w : World), (Instr.makeFunc fn first cap).run Tryd.prog w = .ok (.func fn first cap) w := fun _ _ _ _ => rfl
  have sz := str_size l
  have R0 := Lib.hid (Rs.start w)
  go_enter_defers Tryd.func40, Tryd.ntmps40
  go_wp2_with fail
  go_loopg [4, 5] (l.length) (fun m n i wr => ∃ (k : Nat) (I S X : Int), k ≤ l.length ∧ m = k ∧ n = .int .i64 X ∧ i = .int .i64 I ∧ I + 1 = k ∧ X = hv (P.drop k) ∧ Hid (S = sumL (P.drop k)) ∧ Hid (∀ c ∈ P.drop k, 0 < val c) ∧ Hid (Rs w w.heap.size S wr))
  case atStart =>
    have e : P.drop l.length = [] := List.drop_eq_nil_of_le (by omega)
    refine ⟨l.length, (l.length : Int) - 1, 0, 0, by omega, by omega, rfl, by go_num, by omega, by rw [e]; rfl, Lib.hid (by rw [e]; rfl), Lib.hid (by rw [e]; intro c hc; cases hc), ?_⟩
    exact R0
  case round =>
    obtain ⟨k, I, S, X, hk, hm, rfl, rfl, hI, hX, HS, HG, HR⟩ := hrel
    subst hm
    by_cases h0 : gk = 0
    · have hgo : ¬ (0 : Int) ≤ I := by omega
      have HN := Lib.hid (ans.out S true (.inl ⟨by have h := HG.out; rw [h0, List.drop_zero] at h; exact h, by rw [HS.out, h0, List.drop_zero], rfl⟩))
      have c1 := HR.out.sum
      have f1 := HR.out.sumC
      have R2 := Lib.hid (HR.out.set (Nat.le_refl _) S)
      have c2 := R2.out.rd
      have f2 := R2.out.rdC
      have FN := Lib.hid (R2.out.fin (Nat.le_refl _) true _ rfl)
      clear HS HG HR hX h0
      go_wp2_with fail
      refine leaves_cons (f := 57) (args := #[.pointer (some ⟨w.heap.size, 0, none⟩), .pointer (some ⟨w.heap.size + 1, 0, none⟩)]) (by simp) (by simp [go_sem]) ?_
      refine (catch_idle _ _ _).mono ?_
      rintro e u' w2 ⟨rfl, rfl, rfl⟩
      obtain ⟨d1, d2, d3⟩ := FN.out
      simp [Leaves, settle, results, Tryd.results40, go_sem, d1, d2]
      exact ⟨_, _, rfl, HN.out, d3⟩
    · obtain ⟨j, rfl⟩ : ∃ j, gk = j + 1 := ⟨gk - 1, by omega⟩
      obtain rfl : I = (j : Int) := by omega
      have hgo : (0 : Int) ≤ (j : Int) := by omega
      have hjl : (j : Int) < (l.length : Int) := by omega
      have hgs : (str l)[j]'(by rw [str_size]; omega) = l[j]'(by omega) := get_str l j _
      have ed : P.drop j = P[j]'(by omega) :: P.drop (j + 1) := List.drop_eq_getElem_cons (by omega)
      rw [HP.out j (by omega)] at ed
      have mem : cl (l[j]'(by omega)) (decide (j + 1 = l.length)) ∈ P := by rw [← HP.out j (by omega)]; exact List.getElem_mem _
      have hz : ((j : Int) == (l.length : Int) - 1) = decide (j + 1 = l.length) := by
        by_cases q : j + 1 = l.length
        · rw [decide_eq_true q]; simp; omega
        · rw [decide_eq_false q]; simp; omega
      have Sb := sum_bd (P.drop (j + 1))
      have Sl : (P.drop (j + 1)).length ≤ 20 := by rw [List.length_drop]; omega
      rw [← HS.out] at Sb
      have s1 : -20000 ≤ S := by omega
      have s2 : S ≤ 20000 := by omega
      have Xb := hv_bd (P.drop (j + 1))
      rw [← hX] at Xb
      obtain ⟨x1, x2⟩ := Xb
      have c1 := HR.out.sum
      have f1 := HR.out.sumC
      generalize decide (j + 1 = l.length) = z at *
      generalize l[j]'(by omega) = c at *
      by_cases hok : 0 < val (cl c z)
      · have C := Lib.hid (impl_count_yes c z hok)
        have vb := val_bd' (cl c z)
        have ES := Lib.hid (show sumL (P.drop j) = _ from by rw [ed, sum_cons, ← hX, ← HS.out])
        have EG : Hid (∀ d ∈ P.drop j, 0 < val d) := by
          intro d hd
          rw [ed] at hd
          rcases List.mem_cons.1 hd with rfl | hd
          · exact hok
          · exact HG.out d hd
        have EX := Lib.hid (show hv (P.drop j) = val (cl c z) by rw [ed]; rfl)
        obtain ⟨v1, v2⟩ := vb
        clear HS HG hX mem Sb Sl ed
        generalize val (cl c z) = v at *
        by_cases hlt : v < X
        · have HT := Lib.hid (HR.out.set (Nat.le_refl _) (S - v))
          have E2 := Lib.hid (show S - v = sumL (P.drop j) by rw [ES.out, if_pos hlt]; omega)
          clear HR ES
          go_wp2_with fail
          refine (C.out _).mono ?_
          rintro e w2 ⟨rfl, rfl⟩
          go_wp2_with fail
          go_roundg (j)
          case measure => omega
          case rel => exact ⟨j, (j : Int) - 1, S - v, v, by omega, rfl, rfl, by go_num, by omega, EX.out.symm, E2, EG, HT⟩
        · have HT := Lib.hid (HR.out.set (Nat.le_refl _) (S + v))
          have E2 := Lib.hid (show S + v = sumL (P.drop j) by rw [ES.out, if_neg hlt]; omega)
          clear HR ES
          go_wp2_with fail
          refine (C.out _).mono ?_
          rintro e w2 ⟨rfl, rfl⟩
          go_wp2_with fail
          go_roundg (j)
          case measure => omega
          case rel => exact ⟨j, (j : Int) - 1, S + v, v, by omega, rfl, rfl, by go_num, by omega, EX.out.symm, E2, EG, HT⟩
      · have C := Lib.hid (impl_count_no c z hok)
        have HN := Lib.hid (ans.out 0 false (.inr ⟨⟨_, mem, by omega⟩, rfl, rfl⟩))
        have R2 := Lib.hid (HR.out.set (Nat.le_refl _) 0)
        have c2 := R2.out.rd
        have f2 := HR.out.rdC
        have FN := Lib.hid (R2.out.fin (Nat.le_refl _) false _ rfl)
        clear HS HG HR hX mem Sb Sl ed hok
        go_wp2_with fail
        refine (C.out _).mono ?_
        rintro e w2 ⟨rfl, rfl⟩
        go_wp2_with fail
        refine leaves_cons (f := 57) (args := #[.pointer (some ⟨w.heap.size, 0, none⟩), .pointer (some ⟨w.heap.size + 1, 0, none⟩)]) (by simp) (by simp [go_sem]) ?_
        refine (catch_panic _ _ S false _ _ [] _ c1 f1 c2 f2).mono ?_
        rintro e u' w3 ⟨rfl, rfl, rfl⟩
        obtain ⟨d1, d2, d3⟩ := FN.out
        simp [Leaves, settle, results, Tryd.results40, go_sem, d1, d2]
        exact ⟨_, _, rfl, HN.out, d3⟩

theorem impl_sum (l : List UInt8) (hl : l.length ≤ 20) (w : World) : Calls Tryd.prog 40 #[.string (str l)] w (NB (SumAns l) w) := by
  refine impl_sum0 l (plainL l) hl (plain_len l) (Lib.hid (plain_cl l)) (Lib.hid ?_) w
  rintro k b (⟨h1, h2, h3⟩ | ⟨⟨c, hc, h1⟩, h2, h3⟩)
  · exact .inl ⟨h1, h2, h3⟩
  · exact .inr ⟨fun q => h1 (q c hc), h2, h3⟩

end Go.Proofs.YtiimoejjokfkfaaDoor.Num
