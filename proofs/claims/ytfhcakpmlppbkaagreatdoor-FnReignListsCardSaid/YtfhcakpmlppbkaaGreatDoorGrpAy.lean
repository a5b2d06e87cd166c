/- Texts of a claim in one file: Has Sml. -/
import Derived.Test.YtfhcakpmlppbkaaGreatDoorGrpAl
import Derived.Test.YtfhcakpmlppbkaaGreatDoorGrpAi
import Derived.Deep.LoopGhost
import Derived.WalkKit
import Derived.WalkSpells
import Derived.WalkLawsBesides
import Derived.Lib.Hide
namespace Go.Proofs.YtfhcakpmlppbkaaGreatDoor.Sets
open Go.RowKit

theorem impl_spanHas (f t d : Int) (b : Bool) (hb : decide (f ≤ d ∧ d ≤ t) = b) (w : World) :
    Calls Tryz.prog 65 #[.agg #[.int .i64 f, .int .i64 t], .int .i64 d] w (Bl b w) := by
  have fin : Below w.heap.size w (w.alloc (.cells #[.int .i64 f, .int .i64 t] 36)) := (Below.refl _ _).alloc (Nat.le_refl _) _
  subst hb
  by_cases h0 : f ≤ d
  · by_cases h1 : d ≤ t
    · have r := Lib.hid (show decide (f ≤ d ∧ d ≤ t) = true from decide_eq_true ⟨h0, h1⟩)
      go_enter Tryz.func65, Tryz.ntmps65
      go_wp2
      go_ret
      exact ⟨by first | rfl | (rw [r.out]; rfl), fin⟩
    · have r := Lib.hid (show decide (f ≤ d ∧ d ≤ t) = false from decide_eq_false fun h => h1 h.2)
      have h1' : decide (d ≤ t) = false := by simpa using h1
      go_enter Tryz.func65, Tryz.ntmps65
      go_wp2
      go_ret
      exact ⟨by first | rfl | (rw [r.out]; rfl), fin⟩
  · have r := Lib.hid (show decide (f ≤ d ∧ d ≤ t) = false from decide_eq_false fun h => h0 h.1)
    have h0' : decide (f ≤ d) = false := by simpa using h0
    go_enter Tryz.func65, Tryz.ntmps65
    go_wp2
    go_ret
    exact ⟨by first | rfl | (rw [r.out]; rfl), fin⟩

end Go.Proofs.YtfhcakpmlppbkaaGreatDoor.Sets

namespace Go.Proofs.YtfhcakpmlppbkaaGreatDoor.Sml
open Go.RowKit

set_option maxHeartbeats 1000000 in
theorem impl_small (s : ByteArray) (most : Int) (hs : s.size ≤ maxLen) (b : Bool) (h : decide ((∀ i (h : i < s.size), 97 ≤ s[i].toNat ∧ s[i].toNat ≤ 122) ∧ 1 ≤ s.size ∧ (s.size : Int) ≤ most) = b) (w : World) :
    Calls Tryz.prog 121 #[.string s, .int .i64 most] w fun e w' => e = .returned (.bool b) ∧ w = w' := by
  have HB := Lib.hid h
  clear h
  unfold maxLen at hs
  by_cases h1 : 1 ≤ (s.size : Int)
  · have d1 : decide ((s.size : Int) < 1) = false := by simp; omega
    by_cases h2 : (s.size : Int) ≤ most
    · have d2 : decide (most < (s.size : Int)) = false := by simp; omega
      go_enter Tryz.func121, Tryz.ntmps121
      go_wp2_with fail
      go_loopg [17] s.size (fun m i wr => ∃ k : Nat, k ≤ s.size ∧ m = s.size - k ∧ i = .int .i64 k ∧ Hid (∀ j (h : j < s.size), j < k → 97 ≤ s[j].toNat ∧ s[j].toNat ≤ 122) ∧ w = wr)
      case atStart => exact ⟨0, by omega, by omega, rfl, Lib.hid (fun j h hj => by omega), rfl⟩
      case round =>
        obtain ⟨k, hk, hm, rfl, HK, rfl⟩ := hrel
        subst hm
        by_cases hlt : k < s.size
        · by_cases g1 : 97 ≤ s[k].toNat
          · by_cases g2 : s[k].toNat ≤ 122
            · have HN : Hid (∀ j (h : j < s.size), j < k + 1 → 97 ≤ s[j].toNat ∧ s[j].toNat ≤ 122) := Lib.hid fun j h hj => by
                by_cases e : j = k
                · subst e; exact ⟨g1, g2⟩
                · exact HK.out j h (by omega)
              have e1 : decide ((s[k].toNat : Int) < 97) = false := by simp; omega
              have e2 : decide (122 < (s[k].toNat : Int)) = false := by simp; omega
              clear HK HB g1 g2
              obtain ⟨c, hgs⟩ : ∃ c, s[k]'hlt = c := ⟨_, rfl⟩
              rw [hgs] at e1 e2
              go_wp2_with fail
              go_roundg (s.size - (k + 1))
              case measure => omega
              case rel => exact ⟨k + 1, by omega, by omega, by go_num, HN, rfl⟩
            · have hb : b = false := by rw [← HB.out]; exact decide_eq_false fun h => g2 (h.1 k hlt).2
              have e1 : decide ((s[k].toNat : Int) < 97) = false := by simp; omega
              have e2 : decide (122 < (s[k].toNat : Int)) = true := by simp; omega
              subst hb
              clear HK HB g1 g2
              obtain ⟨c, hgs⟩ : ∃ c, s[k]'hlt = c := ⟨_, rfl⟩
              rw [hgs] at e1 e2
              go_wp2_with fail
              go_ret
              exact ⟨rfl, rfl⟩
          · have hb : b = false := by rw [← HB.out]; exact decide_eq_false fun h => g1 (h.1 k hlt).1
            have e1 : decide ((s[k].toNat : Int) < 97) = true := by simp; omega
            subst hb
            clear HK HB g1
            obtain ⟨c, hgs⟩ : ∃ c, s[k]'hlt = c := ⟨_, rfl⟩
            rw [hgs] at e1
            go_wp2_with fail
            go_ret
            exact ⟨rfl, rfl⟩
        · have hge : (s.size : Int) ≤ k := by omega
          have hb : b = true := by
            rw [← HB.out]
            exact decide_eq_true ⟨fun i hi => HK.out i hi (by omega), by omega, h2⟩
          subst hb
          clear HK HB
          go_wp2_with fail
          go_ret
          exact ⟨rfl, rfl⟩
    · have d2 : decide (most < (s.size : Int)) = true := by simp; omega
      have hb : b = false := by rw [← HB.out]; exact decide_eq_false fun h => h2 h.2.2
      subst hb
      clear HB h1 h2
      go_enter Tryz.func121, Tryz.ntmps121
      go_wp2_with fail
      go_ret
      exact ⟨rfl, rfl⟩
  · have d1 : decide ((s.size : Int) < 1) = true := by simp; omega
    have hb : b = false := by rw [← HB.out]; exact decide_eq_false fun h => h1 (by have := h.2.1; omega)
    subst hb
    clear HB h1
    go_enter Tryz.func121, Tryz.ntmps121
    go_wp2_with fail
    go_ret
    exact ⟨rfl, rfl⟩

end Go.Proofs.YtfhcakpmlppbkaaGreatDoor.Sml
