/- Contract of spec's ReadOrdinal. -/
import Derived.Test.YtiimoejjokfkfaaDoorNumC
namespace Go.Proofs.YtiimoejjokfkfaaDoor.Num
open Go.RowKit

/-- What ReadOrdinal answers. -/
def OrdAns (l : List UInt8) (k : Int) (b : Bool) : Prop :=
  (∃ j : Nat, 1 ≤ j ∧ j ≤ 31 ∧ k = j ∧ b = true ∧ ordL j = l ∧ ∀ i : Nat, 1 ≤ i → i < j → ordL i ≠ l) ∨ (k = 0 ∧ b = false ∧ ∀ i : Nat, 1 ≤ i → i ≤ 31 → ordL i ≠ l)
theorem OrdAns.uniq {l : List UInt8} {k k' : Int} {b b' : Bool} (h : OrdAns l k b) (h' : OrdAns l k' b') : k = k' ∧ b = b' := by
  rcases h with ⟨j, j1, j2, rfl, rfl, h1, h2⟩ | ⟨rfl, rfl, h⟩ <;> rcases h' with ⟨j', q1, q2, rfl, rfl, k1, k2⟩ | ⟨rfl, rfl, k⟩
  · have a : ¬ j < j' := fun a => k2 j j1 a h1
    have b : ¬ j' < j := fun b => h2 j' q1 b k1
    exact ⟨by omega, rfl⟩
  · exact (k j j1 j2 h1).elim
  · exact (h j' q1 q2 k1).elim
  · exact ⟨rfl, rfl⟩
/-- What a call leaves that answers a number and whether there is one. -/
def NB (P : Int → Bool → Prop) (w : World) (e : Ending) (w' : World) : Prop := ∃ (k : Int) (b : Bool), e = .returned (.tuple #[.int .i64 k, .bool b]) ∧ P k b ∧ Below w.heap.size w w'

set_option maxHeartbeats 1000000 in
theorem spec_ReadOrdinal (s : ByteArray) (w : World) : Calls Tryd.prog 20 #[.string s] w (NB (OrdAns s.toList) w) := by
  go_enter Tryd.func20, Tryd.ntmps20
  go_wp2_with fail
  go_loopg [4] 31 (fun m i wr => ∃ k : Nat, 1 ≤ k ∧ k ≤ 32 ∧ m = 32 - k ∧ i = .int .i64 k ∧ Hid (∀ i : Nat, 1 ≤ i → i < k → ordL i ≠ s.toList) ∧ Below w.heap.size w wr)
  case atStart => exact ⟨1, by omega, by omega, by omega, rfl, Lib.hid (fun i h h2 => by omega), Below.refl _ _⟩
  case round =>
    obtain ⟨k, hk1, hk, hm, rfl, HK, bel⟩ := hrel
    subst hm
    by_cases hlt : k ≤ 31
    · have hgo : (k : Int) ≤ 31 := by omega
      have O := Lib.hid (spec_OrdinalText k)
      obtain ⟨T, hT⟩ : ∃ T, ordL k = T := ⟨_, rfl⟩
      have et := str_toList T
      have HT := Lib.hid hT
      rw [hT] at O
      clear hT
      by_cases hs : T = s.toList
      · have e : ((str T).toList == s.toList) = true := by rw [et, hs]; simp
        have HN := Lib.hid (show OrdAns s.toList k true from .inl ⟨k, hk1, hlt, rfl, rfl, HT.out.trans hs, HK.out⟩)
        clear hs et HK HT
        go_wp2_with fail
        refine (O.out _).mono ?_
        rintro e w2 ⟨rfl, k2⟩
        go_wp2_with fail
        go_ret2
        exact ⟨k, true, rfl, HN.out, below_step bel k2⟩
      · have e : ((str T).toList == s.toList) = false := by rw [et]; simpa using hs
        have HN : Hid (∀ i : Nat, 1 ≤ i → i < k + 1 → ordL i ≠ s.toList) := fun i h1 hi ei => by
          by_cases h : i = k
          · subst h; exact hs (HT.out.symm.trans ei)
          · exact HK.out i h1 (by omega) ei
        clear hs et HK HT
        go_wp2_with fail
        refine (O.out _).mono ?_
        rintro e w2 ⟨rfl, k2⟩
        go_wp2_with fail
        go_roundg (32 - (k + 1))
        case measure => omega
        case rel => exact ⟨k + 1, by omega, by omega, by omega, by go_num, HN, below_step bel k2⟩
    · have hgo : ¬ (k : Int) ≤ 31 := by omega
      have HN := Lib.hid (show OrdAns s.toList 0 false from .inr ⟨rfl, rfl, fun i h1 h2 => HK.out i h1 (by omega)⟩)
      go_wp2_with fail
      go_ret2
      exact ⟨0, false, rfl, HN.out, bel⟩

end Go.Proofs.YtiimoejjokfkfaaDoor.Num
