/- The contract of spec's day of a feast in a year. -/
import Derived.Test.YtegoiiconhgjbaaEasB
import Derived.Test.YtegoiiconhgjbaaFeaM
import Derived.Test.YtegoiiconhgjbaaSt
import Derived.Deep.RegionHeld3
import Derived.Deep.RegionWith
namespace Go.Proofs.Ytegoiiconhgjbaa.Fea
open Go.RowKit
open Go.Proofs.Ytegoiiconhgjbaa.Eas (isY oE oM oD o_valid spec_old spec_num DateV It oE_bd)

def moV : Array Value := #[.int .i64 1, .int .i64 1, .int .i64 2, .int .i64 3, .int .i64 6, .int .i64 6, .int .i64 8, .int .i64 8, .int .i64 9, .int .i64 11, .int .i64 11, .int .i64 11, .int .i64 12, .int .i64 12]
def daV : Array Value := #[.int .i64 1, .int .i64 6, .int .i64 2, .int .i64 25, .int .i64 24, .int .i64 29, .int .i64 10, .int .i64 15, .int .i64 29, .int .i64 1, .int .i64 11, .int .i64 30, .int .i64 6, .int .i64 25]
def ofV : Array Value := #[.int .i64 (-46), .int .i64 (-7), .int .i64 0, .int .i64 39, .int .i64 49, .int .i64 56]
theorem on_below {w X w' : World} (h : Below w.heap.size w X) (k : Below X.heap.size X w') : Below w.heap.size w w' := h.trans (k.mono h.size)
theorem _root_.Go.Proofs.Ytegoiiconhgjbaa.St.tables {g1 g0 : Nat} {t1 t0 : TypeId} {B A : Array Value} {L : List (Nat × TypeId × Array Value)} {w0 w : World} {k : Nat} {a b : Value} (h : St ((g1, t1, B) :: (g0, t0, A) :: L) w0 w) (h0 : A[k]? = some a) (h1 : B[k]? = some b) :
    w.cell? ⟨g0, k, none⟩ = some a ∧ w.cell? ⟨g1, k, none⟩ = some b ∧ St ((g1, t1, B) :: (g0, t0, A) :: L) w0 w := ⟨(h.b1.cell k).trans h0, (h.b0.cell k).trans h1, h⟩
theorem fixed_valid (y m d : Int) (hy : isY y) (m1 : 1 ≤ m) (m2 : m ≤ 12) (d1 : 1 ≤ d) (d2 : d ≤ 28 ∨ (m ≠ 2 ∧ d ≤ 30)) : Cal.valid false y m d := by
  refine ⟨hy.1, hy.2, m1, m2, d1, ?_⟩
  have a := (Cal.mlen_bd false y m).1
  rcases d2 with h | ⟨h, h2⟩
  · omega
  · rw [mlenN _ _ _ h]; split <;> omega

theorem spec_isFeast (f : Int) (b : Bool) (h : inB f 0 19 = b) (w : World) : Calls Try.prog 93 #[.int .i64 f] w fun e w' => e = .returned (.bool b) ∧ w = w' := by
  subst h
  go_enter Try.func93, Try.ntmps93
  go_wp2_with (go_at_call 81; refine (spec_in _ _ _ _).mono ?_; rintro e w' ⟨rfl, rfl⟩)
  go_ret
  exact ⟨rfl, rfl⟩
set_option maxHeartbeats 1000000 in
theorem spec_day_fix (k : Nat) (m d y n : Int) (hk : k < 14) (hA : moV[k]? = some (.int .i64 m)) (hB : daV[k]? = some (.int .i64 d)) (hv : Cal.valid false y m d) (hn : Cal.num false y m d = n) (w : World) : Calls Try.prog 97 #[.int .i64 (k : Int), .int .i64 y] w (It n w) := by
  have N := Lib.hid (spec_num false y m d n hv hn)
  have hlt : (k : Int) < 14 := by omega
  have h0 : (0 : Int) ≤ k := by omega
  clear hv hn
  go_enter Try.func97, Try.ntmps97
  have S := ((St.start w).alloc 2 moV).alloc 2 daV
  simp only [World.size_alloc] at S
  go_wp2_with fail
  go_region_held3 (fun w' => w'.cell? ⟨w.heap.size, k, none⟩ = some (.int .i64 m) ∧ w'.cell? ⟨w.heap.size + 1, k, none⟩ = some (.int .i64 d) ∧ St [(w.heap.size + 1, 2, daV), (w.heap.size, 2, moV)] w w')
    (first | exact (S.drewN 1).tables hA hB | with_reducible exact SQ.tables hA hB)
    (first | (go_at_call 75; refine (N.out _).mono ?_; rintro e wq ⟨rfl, hq⟩; have SQ := (S.drewN 1).call hq))
  go_wp2_with fail
  go_ret
  exact ⟨rfl, SQ.bel⟩

set_option maxHeartbeats 4000000 in
theorem spec_day_mov (j : Nat) (v y x : Int) (hj : j < 6) (hV : ofV[j]? = some (.int .i64 v)) (v0 : -46 ≤ v) (v1 : v ≤ 56) (hy : isY y) (hx : oE y + v = x) (w : World) : Calls Try.prog 97 #[.int .i64 ((j : Int) + 14), .int .i64 y] w (It x w) := by
  have O := Lib.hid (spec_old y hy)
  have N := Lib.hid (spec_num false y (oM y) (oD y) (oE y) (o_valid y hy) rfl)
  obtain ⟨b1, b2⟩ := oE_bd y hy
  have h0 : (0 : Int) ≤ j := by omega
  have h6 : (j : Int) < 6 := by omega
  have hge : ¬ (j : Int) + 14 < 14 := by omega
  have hs : IntKind.i64.wrap ((j : Int) + 14 - 14) = (j : Int) := by rw [show (j : Int) + 14 - 14 = j by omega]; exact IntWalk.i64_in _ ⟨by omega, by omega⟩
  have hs2 : IntKind.i64.wrap (j : Int) = (j : Int) := IntWalk.i64_in _ ⟨by omega, by omega⟩
  have hl : ([Value.int IntKind.i64 (-46), Value.int IntKind.i64 (-7), Value.int IntKind.i64 0, Value.int IntKind.i64 39, Value.int IntKind.i64 49, Value.int IntKind.i64 56] : List Value)[j]'(by simpa using hj) = Value.int .i64 v := by
    have h2 := (List.getElem?_eq_some_iff.1 (show ([Value.int IntKind.i64 (-46), Value.int IntKind.i64 (-7), Value.int IntKind.i64 0, Value.int IntKind.i64 39, Value.int IntKind.i64 49, Value.int IntKind.i64 56] : List Value)[j]? = some (.int .i64 v) by simpa [ofV] using hV)); exact h2.2
  clear hy
  generalize oM y = m at O N
  generalize oD y = d at O N
  generalize oE y = n at N hx b1 b2
  have hn : IntKind.i64.wrap (n + v) = n + v := IntWalk.i64_in _ ⟨by omega, by omega⟩
  subst hx
  go_enter Try.func97, Try.ntmps97
  have bD : Below w.heap.size w ((w.alloc (.cells moV 2)).alloc (.cells daV 2)).drew := (((Below.refl _ _).alloc (Nat.le_refl _) _).alloc (by simp) _).drew
  go_wp2_with fail
  change Below w.heap.size w ((w.alloc (.cells #[.int .i64 1, .int .i64 1, .int .i64 2, .int .i64 3, .int .i64 6, .int .i64 6, .int .i64 8, .int .i64 8, .int .i64 9, .int .i64 11, .int .i64 11, .int .i64 11, .int .i64 12, .int .i64 12] 2)).alloc (.cells #[.int .i64 1, .int .i64 6, .int .i64 2, .int .i64 25, .int .i64 24, .int .i64 29, .int .i64 10, .int .i64 15, .int .i64 29, .int .i64 1, .int .i64 11, .int .i64 30, .int .i64 6, .int .i64 25] 2)).drew at bD
  generalize (w.alloc (.cells #[.int .i64 1, .int .i64 1, .int .i64 2, .int .i64 3, .int .i64 6, .int .i64 6, .int .i64 8, .int .i64 8, .int .i64 9, .int .i64 11, .int .i64 11, .int .i64 11, .int .i64 12, .int .i64 12] 2)).alloc (.cells #[.int .i64 1, .int .i64 6, .int .i64 2, .int .i64 25, .int .i64 24, .int .i64 29, .int .i64 10, .int .i64 15, .int .i64 29, .int .i64 1, .int .i64 11, .int .i64 30, .int .i64 6, .int .i64 25] 2) = w2 at bD ⊢
  go_region_with (first
    | (go_at_call 83; refine (O.out _).mono ?_; rintro e wq ⟨rfl, hq⟩; obtain ⟨hcq, hfq⟩ := bcell hq; have BQ := on_below (by first | exact bD | exact bD.alloc bD.size _) hq; first | (have QB := (Blk.new w2.drew 2 ofV).below hq (by simp); have zB : wq.cell? ⟨w2.heap.size, j, none⟩ = some (.int .i64 v) := (QB.cell j).trans hV) | skip)
    | (go_at_call 75; refine (N.out _).mono ?_; rintro e wr ⟨rfl, hr⟩; obtain ⟨hcr, hfr⟩ := bcell hr; have BR := on_below (by first | exact BQ | exact BQ.alloc BQ.size _) hr; first | (have zR : wr.cell? ⟨w2.heap.size, j, none⟩ = some (.int .i64 v) := ((QB.below hr QB.lt).cell j).trans hV) | (have zR : wr.cell? ⟨wq.heap.size, j, none⟩ = some (.int .i64 v) := (((Blk.new wq 2 ofV).below hr (by simp)).cell j).trans hV) | skip))
  all_goals
    go_wp2_with fail
    go_ret
    exact ⟨ret_int (by first | rfl | exact hn), by first | exact BR | exact BR.alloc BR.size _⟩

theorem spec_day (f y : Int) (hf : isF f) (hy : isY y) (w : World) : Calls Try.prog 97 #[.int .i64 f, .int .i64 y] w (It (fd f y) w) := by
  obtain ⟨f0, f1⟩ := hf
  have h : f = 0 ∨ f = 1 ∨ f = 2 ∨ f = 3 ∨ f = 4 ∨ f = 5 ∨ f = 6 ∨ f = 7 ∨ f = 8 ∨ f = 9 ∨ f = 10 ∨ f = 11 ∨ f = 12 ∨ f = 13 ∨ f = 14 ∨ f = 15 ∨ f = 16 ∨ f = 17 ∨ f = 18 ∨ f = 19 := by omega
  rcases h with rfl | rfl | rfl | rfl | rfl | rfl | rfl | rfl | rfl | rfl | rfl | rfl | rfl | rfl | rfl | rfl | rfl | rfl | rfl | rfl
  · exact spec_day_fix 0 1 1 y _ (by omega) rfl rfl (fixed_valid y 1 1 hy (by omega) (by omega) (by omega) (by omega)) rfl w
  · exact spec_day_fix 1 1 6 y _ (by omega) rfl rfl (fixed_valid y 1 6 hy (by omega) (by omega) (by omega) (by omega)) rfl w
  · exact spec_day_fix 2 2 2 y _ (by omega) rfl rfl (fixed_valid y 2 2 hy (by omega) (by omega) (by omega) (by omega)) rfl w
  · exact spec_day_fix 3 3 25 y _ (by omega) rfl rfl (fixed_valid y 3 25 hy (by omega) (by omega) (by omega) (by omega)) rfl w
  · exact spec_day_fix 4 6 24 y _ (by omega) rfl rfl (fixed_valid y 6 24 hy (by omega) (by omega) (by omega) (by omega)) rfl w
  · exact spec_day_fix 5 6 29 y _ (by omega) rfl rfl (fixed_valid y 6 29 hy (by omega) (by omega) (by omega) (by omega)) rfl w
  · exact spec_day_fix 6 8 10 y _ (by omega) rfl rfl (fixed_valid y 8 10 hy (by omega) (by omega) (by omega) (by omega)) rfl w
  · exact spec_day_fix 7 8 15 y _ (by omega) rfl rfl (fixed_valid y 8 15 hy (by omega) (by omega) (by omega) (by omega)) rfl w
  · exact spec_day_fix 8 9 29 y _ (by omega) rfl rfl (fixed_valid y 9 29 hy (by omega) (by omega) (by omega) (by omega)) rfl w
  · exact spec_day_fix 9 11 1 y _ (by omega) rfl rfl (fixed_valid y 11 1 hy (by omega) (by omega) (by omega) (by omega)) rfl w
  · exact spec_day_fix 10 11 11 y _ (by omega) rfl rfl (fixed_valid y 11 11 hy (by omega) (by omega) (by omega) (by omega)) rfl w
  · exact spec_day_fix 11 11 30 y _ (by omega) rfl rfl (fixed_valid y 11 30 hy (by omega) (by omega) (by omega) (by omega)) rfl w
  · exact spec_day_fix 12 12 6 y _ (by omega) rfl rfl (fixed_valid y 12 6 hy (by omega) (by omega) (by omega) (by omega)) rfl w
  · exact spec_day_fix 13 12 25 y _ (by omega) rfl rfl (fixed_valid y 12 25 hy (by omega) (by omega) (by omega) (by omega)) rfl w
  · exact spec_day_mov 0 (-46) y _ (by omega) rfl (by omega) (by omega) hy (by unfold fd; simp; try omega) w
  · exact spec_day_mov 1 (-7) y _ (by omega) rfl (by omega) (by omega) hy (by unfold fd; simp; try omega) w
  · exact spec_day_mov 2 (0) y _ (by omega) rfl (by omega) (by omega) hy (by unfold fd; simp; try omega) w
  · exact spec_day_mov 3 (39) y _ (by omega) rfl (by omega) (by omega) hy (by unfold fd; simp; try omega) w
  · exact spec_day_mov 4 (49) y _ (by omega) rfl (by omega) (by omega) hy (by unfold fd; simp; try omega) w
  · exact spec_day_mov 5 (56) y _ (by omega) rfl (by omega) (by omega) hy (by unfold fd; simp; try omega) w

end Go.Proofs.Ytegoiiconhgjbaa.Fea
