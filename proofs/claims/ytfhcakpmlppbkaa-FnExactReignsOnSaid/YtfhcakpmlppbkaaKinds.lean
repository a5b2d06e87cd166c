/- Contracts of spec's small questions: whether a number is a feast, a relation, a kind of indictions; whether a text is a name. -/
import Derived.Test.YtfhcakpmlppbkaaFeaA
import Derived.Test.YtfhcakpmlppbkaaFeaN
import Derived.Test.YtfhcakpmlppbkaaIndM
import Derived.Test.YtfhcakpmlppbkaaDaysE
import Derived.Test.YtfhcakpmlppbkaaEasB
namespace Go.Proofs.Ytfhcakpmlppbkaa

namespace Fea
open Go.RowKit
open Go.Proofs.Ytfhcakpmlppbkaa.Eas (isY It)

end Fea

namespace Ind
open Go.RowKit

end Ind

namespace Rei
open Go.RowKit


/-- A name: 1 to most small letters. -/
def nmOk (s : ByteArray) (most : Int) : Prop := (∀ i (h : i < s.size), 97 ≤ s[i].toNat ∧ s[i].toNat ≤ 122) ∧ 1 ≤ s.size ∧ (s.size : Int) ≤ most
instance (s : ByteArray) (most : Int) : Decidable (nmOk s most) := by unfold nmOk; exact inferInstance
theorem spec_name (s : ByteArray) (most : Int) (hs : s.size ≤ maxLen) (b : Bool) (h : decide (nmOk s most) = b) (w : World) : Calls Try.prog 75 #[.string s, .int .i64 most] w fun e w' => e = .returned (.bool b) ∧ w = w' := by
  have HB := Lib.hid h
  clear h
  unfold maxLen at hs
  go_enter Try.func75, Try.ntmps75
  go_wp2_with fail
  go_loopg [5] s.size (fun m i wr => ∃ k : Nat, k ≤ s.size ∧ m = s.size - k ∧ i = .int .i64 k ∧ Hid (∀ j (h : j < s.size), j < k → 97 ≤ s[j].toNat ∧ s[j].toNat ≤ 122) ∧ w = wr)
  case atStart => exact ⟨0, by omega, by omega, rfl, Lib.hid (fun j h hj => by omega), rfl⟩
  case round =>
    obtain ⟨k, hk, hm, rfl, HK, rfl⟩ := hrel
    subst hm
    by_cases hlt : k < s.size
    · have hgo : (k : Int) < (s.size : Int) := by omega
      by_cases h1 : 97 ≤ s[k].toNat
      · by_cases h2 : s[k].toNat ≤ 122
        · have HN : Hid (∀ j (h : j < s.size), j < k + 1 → 97 ≤ s[j].toNat ∧ s[j].toNat ≤ 122) := Lib.hid fun j h hj => by
            by_cases e : j = k
            · subst e; exact ⟨h1, h2⟩
            · exact HK.out j h (by omega)
          have d1 : (97 : Int) ≤ (s[k].toNat : Int) := by omega
          have d2 : (s[k].toNat : Int) ≤ 122 := by omega
          clear HK HB h1 h2
          obtain ⟨c, hgs⟩ : ∃ c, s[k]'hlt = c := ⟨_, rfl⟩
          rw [hgs] at d1 d2
          go_wp2_with fail
          go_roundg (s.size - (k + 1))
          case measure => omega
          case rel => exact ⟨k + 1, by omega, by omega, by go_num, HN, rfl⟩
        · have hb : b = false := by rw [← HB.out]; exact decide_eq_false fun h => h2 (h.1 k hlt).2
          have d1 : (97 : Int) ≤ (s[k].toNat : Int) := by omega
          have d2 : (122 : Int) < (s[k].toNat : Int) := by omega
          subst hb
          clear HK HB h1 h2
          obtain ⟨c, hgs⟩ : ∃ c, s[k]'hlt = c := ⟨_, rfl⟩
          rw [hgs] at d1 d2
          go_wp2_with fail
          go_ret
          exact ⟨rfl, rfl⟩
      · have hb : b = false := by rw [← HB.out]; exact decide_eq_false fun h => h1 (h.1 k hlt).1
        have d1 : (s[k].toNat : Int) < 97 := by omega
        subst hb
        clear HK HB h1
        obtain ⟨c, hgs⟩ : ∃ c, s[k]'hlt = c := ⟨_, rfl⟩
        rw [hgs] at d1
        go_wp2_with fail
        go_ret
        exact ⟨rfl, rfl⟩
    · have hge : (s.size : Int) ≤ k := by omega
      have HE : Hid (b = decide (1 ≤ (s.size : Int) ∧ (s.size : Int) ≤ most)) := Lib.hid (by
        rw [← HB.out]
        apply decide_eq_decide.2
        constructor
        · intro h; exact ⟨by have := h.2.1; omega, h.2.2⟩
        · intro h; exact ⟨fun i hi => HK.out i hi (by omega), by omega, h.2⟩)
      clear HK HB
      by_cases h1 : 1 ≤ (s.size : Int)
      · by_cases h2 : (s.size : Int) ≤ most
        · have hb : b = true := by rw [HE.out]; exact decide_eq_true ⟨h1, h2⟩
          subst hb
          go_wp2_with fail
          go_ret
          exact ⟨rfl, rfl⟩
        · have hb : b = false := by rw [HE.out]; exact decide_eq_false fun h => h2 h.2
          have h2' : decide ((s.size : Int) ≤ most) = false := by simpa using h2
          subst hb
          go_wp2_with fail
          go_ret
          exact ⟨rfl, rfl⟩
      · have hb : b = false := by rw [HE.out]; exact decide_eq_false fun h => h1 h.1
        have h1' : decide (1 ≤ (s.size : Int)) = false := by simpa using h1
        subst hb
        go_wp2_with fail
        go_ret
        exact ⟨rfl, rfl⟩

end Rei

end Go.Proofs.Ytfhcakpmlppbkaa
