/- Contracts of impl's normal forms of a phrase and of its longest list in common. -/
import Derived.Test.YtdpbikephjnndaaDoorWrdIb
import Derived.Test.YtdpbikephjnndaaDoorWrdG
import Derived.Laws.MakeOwn
namespace Go.Proofs.YtdpbikephjnndaaDoor.Wrd
open Go.RowKit
open Go.Proofs.YtdpbikephjnndaaDoor.Arr

theorem info_string : (Tryd.prog.info? 9).map (fun i => (i.zero, i.size, i.bytes)) = some (some (.string ByteArray.empty), 1, 16) := by kernel_rfl
/-- The normal forms of the first words of a phrase. -/
def Nf (ps : List (List UInt8)) (w0 : World) (m : Nat) (i : Value) (wr : World) : Prop :=
  ∃ (k : Nat) (cs : Array Value), i = .int .i64 k ∧ m = ps.length - k ∧ k ≤ ps.length ∧ Blk wr w0.heap.size 9 cs ∧ cs.size = ps.length ∧ Below w0.heap.size w0 wr ∧
    Hid (∀ j (hj : j < ps.length), j < k → cs[j]? = some (.string (str (norm ps[j]))))
theorem nf_next {ps : List (List UInt8)} {k : Nat} {cs : Array Value} (hs : cs.size = ps.length) (hk : k < ps.length) (h : ∀ j (hj : j < ps.length), j < k → cs[j]? = some (.string (str (norm ps[j])))) :
    ∀ j (hj : j < ps.length), j < k + 1 → (cs.setIfInBounds k (.string (str (norm ps[k]))))[j]? = some (.string (str (norm ps[j]))) := fun j hj hjk => by
  rw [Array.getElem?_setIfInBounds]
  by_cases e : k = j
  · subst e
    rw [if_pos rfl, if_pos (by omega)]
  · rw [if_neg e]
    exact h j hj (by omega)

set_option maxHeartbeats 1000000 in
theorem impl_forms (A : Option Addr) (c : Nat) (ps : List (List UInt8)) (hp : phOk ps) (w : World) (hr : RdS w A ps) :
    Calls Tryd.prog 31 #[.slice A ps.length c] w fun e w' => ∃ B, e = .returned (.slice B ps.length ps.length) ∧ RdS w' B (ps.map norm) ∧ Below w.heap.size w w' := by
  have HP := Lib.hid hp.1
  have hl := hp.2
  clear hp
  obtain ⟨i0, hi, hz0, hz1, hz2⟩ := info_parts info_string
  obtain ⟨M, hM⟩ : ∃ M, M = madeCells (Value.string ByteArray.empty).cells (((ps.length : Nat) : Int).toNat * i0.size) := ⟨_, rfl⟩
  have hMs : M.size = ps.length := by rw [hM, size_madeCells, hz1]; simp
  have hmk : ∀ W : World, (Instr.makeSlice 24 (.int .i64 (ps.length : Int)) (.int .i64 (ps.length : Int))).run Tryd.prog W = .ok (.slice (some ⟨W.heap.size, 0, none⟩) ps.length ps.length) (W.alloc (.cells M 9)) := fun W => by
    have h := run_make (P := Tryd.prog) W 24 9 i0 (.string ByteArray.empty) Tryd.underlying24 hi hz0 .i64 .i64 (ps.length : Int) (ps.length : Int) (by omega) (by omega) (by rw [hz2]; omega) (by omega)
    rw [← hM] at h
    simpa using h
  have B0 := Blk.new w 9 M
  have bel0 : Below w.heap.size w (w.alloc (.cells M 9)) := (Below.refl _ _).alloc (Nat.le_refl _) _
  clear hM hi hz0 hz1 hz2
  go_enter Tryd.func31, Tryd.ntmps31
  go_wp2_with fail
  go_loopg [11] ps.length (fun m i wr => Nf ps w m i wr)
  case atStart => exact ⟨0, M, rfl, by omega, by omega, B0, hMs, bel0, Lib.hid (fun j hj h => by omega)⟩
  case round =>
    clear B0 bel0 hMs
    obtain ⟨k, cs, rfl, hm, hk, hB, hs, bel, HK⟩ := hrel
    subst hm
    by_cases hlt : k < ps.length
    · have hgo : (k : Int) < (ps.length : Int) := by omega
      obtain ⟨g, off, rfl, hg, c0⟩ := (hr.below bel) k hlt
      have hw := HP.out _ (List.getElem_mem hlt)
      have N := Lib.hid (impl_norm ps[k] hw.2.2 hw.2.1)
      have HN := Lib.hid (nf_next hs hlt HK.out)
      obtain ⟨p, hpk⟩ : ∃ p, ps[k] = p := ⟨_, rfl⟩
      rw [hpk] at N c0 HN
      clear HK hw hpk
      obtain ⟨t, ht⟩ : ∃ t, norm p = t := ⟨_, rfl⟩
      rw [ht] at N HN
      clear ht
      go_wp2_with fail
      refine (N.out _).mono ?_
      rintro e w1 ⟨rfl, hb⟩
      have hB1 := hB.below hb hB.lt
      have bel1 := bel.trans (hb.mono bel.size)
      have hc : ∃ u, w1.cell? ⟨w.heap.size, k, none⟩ = some u := ⟨cs[k]'(by omega), by rw [hB1.cell k]; exact Array.getElem?_eq_getElem _⟩
      obtain ⟨u, hu⟩ := hc
      have hf := hB1.frozen k
      have hB2 := hB1.set_ k (.string (str t))
      have bel2 := bel1.setCell (p := ⟨w.heap.size, k, none⟩) (Nat.le_refl _) (.string (str t))
      have hs2 : (cs.setIfInBounds k (.string (str t))).size = ps.length := by rw [Array.size_setIfInBounds]; exact hs
      clear hB hB1 bel bel1 hb
      go_wp2_with fail
      go_roundg (ps.length - (k + 1))
      case measure => omega
      case rel => exact ⟨k + 1, _, by go_num, by omega, by omega, hB2, hs2, bel2, HN⟩
    · have ek : k = ps.length := by omega
      have hge : ¬ (k : Int) < (ps.length : Int) := by omega
      have HR : Hid (RdS wr (some ⟨w.heap.size, 0, none⟩) (ps.map norm)) := Lib.hid fun j hj => by
        rw [List.length_map] at hj
        refine ⟨w.heap.size, 0, rfl, hB.lt, ?_⟩
        rw [Nat.zero_add, hB.cell j, HK.out j hj (by omega), List.getElem_map]
      clear HK hB hs
      go_wp2_with fail
      go_ret
      exact ⟨_, rfl, HR.out, bel⟩

end Go.Proofs.YtdpbikephjnndaaDoor.Wrd
