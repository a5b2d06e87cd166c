/- Contract of impl's phrase with a text, over the library's SplitN and Clone. -/
import Derived.Test.YtdpbikephjnndaaDoorWrdIe
import Derived.Test.YtdpbikephjnndaaDoorSpl
namespace Go.Proofs.YtdpbikephjnndaaDoor.Wrd
open Go.RowKit

/-- The world's part of what impl's reading of phrases asks: a cell of the library, whatever it holds. -/
def Mx (w : World) : Prop := ∃ m, w.cell? ⟨0, 0, none⟩ = some (.int .i64 m)
theorem Mx.below {W w : World} (h : Mx W) (hb : Below W.heap.size W w) : Mx w := by
  obtain ⟨m, h2⟩ := h
  exact ⟨m, cell_on hb h2⟩
/-- The pieces that impl cuts a text into. -/
def pieces (l : List UInt8) : List (List UInt8) := Lib.splitK [32] 0 (min 61 (l.length + 1) - 1) l
theorem pieces_ph {l : List UInt8} (h : phOk (pieces l)) : Txt.split 32 l [] = pieces l := by
  have hne : pieces l ≠ [] := fun e => by
    have := Spl.splitK_pos [32] (min 61 (l.length + 1) - 1) l
    unfold pieces at e
    rw [e] at this
    simp at this
  have hj : Lib.join (pieces l) [32] = l := Spl.splitK_join 32 _ l
  have hs := split_join 32 (pieces l) hne (fun w hw b hb e => by
    subst e
    have := ((h.1 w hw).1 _ hb).1
    exact absurd this (by decide))
  rw [hj] at hs
  exact hs
theorem ph_pieces {l : List UInt8} (h : phOk (Txt.split 32 l [])) : pieces l = Txt.split 32 l [] := by
  have hp := split_pos 32 l []
  have hj : Lib.join (Txt.split 32 l []) [32] = l := by rw [join_split]; rfl
  have hc := split_count 32 l []
  have h60 := h.2
  have hk := Spl.splitK_words 32 (min 61 (l.length + 1) - 1) (Txt.split 32 l []) (fun e => by rw [e] at hp; simp at hp) (fun w hw b hb e => by
    subst e
    have := ((h.1 w hw).1 _ hb).1
    exact absurd this (by decide)) (by omega)
  rw [hj] at hk
  exact hk
theorem pieces_iff (l : List UInt8) : phOk (pieces l) ↔ phOk (Txt.split 32 l []) :=
  ⟨fun h => by rw [pieces_ph h]; exact h, fun h => by rw [ph_pieces h]; exact h⟩
theorem pieces_tame {l : List UInt8} (h : l.length ≤ 1500000) : Tame (pieces l) :=
  ⟨by have := Spl.splitK_len [32] (min 61 (l.length + 1) - 1) l; unfold pieces; omega, fun p hp => by have := Spl.splitK_short [32] _ l p hp; omega⟩

theorem lib_SplitN (l : List UInt8) (hl : l.length ≤ 1500000) (w : World) (h : Mx w) :
    Calls Tryd.prog 28 #[.string (str l), .string ⟨#[32]⟩, .int .i64 61] w fun e w' => ∃ (cap : Nat) (cs : Array Value), e = .returned (.slice (some ⟨w.heap.size, 0, none⟩) (pieces l).length cap) ∧ w' = w.alloc (.cells cs 9) ∧
      cs.size = cap ∧ (pieces l).length ≤ cap ∧ cap ≤ 61 ∧ ∀ j (hj : j < (pieces l).length), cs[j]? = some (.string (str (pieces l)[j])) := by
  obtain ⟨m, hm⟩ := h
  have sz : (str l).size = l.length := str_size l
  have hd := Lib.splitB_data ⟨#[32]⟩ 0 (min 61 ((str l).size + 1) - 1) (str l)
  have hp : (Lib.splitB ⟨#[32]⟩ 0 (min 61 ((str l).size + 1) - 1) (str l)).map (·.data.toList) = pieces l := by
    rw [hd, sz]
    rfl
  have hlen : (Lib.splitB ⟨#[32]⟩ 0 (min 61 ((str l).size + 1) - 1) (str l)).length = (pieces l).length := by rw [← hp]; simp
  have hle : (pieces l).length ≤ min 61 ((str l).size + 1) := by
    have := Spl.splitK_len [32] (min 61 (l.length + 1) - 1) l
    unfold pieces
    rw [sz]
    omega
  refine (Tryd.strings_SplitN (str l) ⟨#[32]⟩ 61 m w (by rw [sz]; omega) hm (by decide) (by omega) (by omega)).mono ?_
  rintro e w' ⟨rfl, rfl⟩
  refine ⟨min 61 ((str l).size + 1), _, by rw [hlen], rfl, Lib.cellsOf_size (by rw [hlen]; exact hle), hle, by omega, fun j hj => ?_⟩
  generalize Lib.splitB ⟨#[32]⟩ 0 (min 61 ((str l).size + 1) - 1) (str l) = pb at hp hlen
  have hj2 : j < pb.length := by omega
  have e2 : str (pieces l)[j] = pb[j] := by
    have : (pieces l)[j] = pb[j].data.toList := by simp [← hp]
    rw [this]
    exact Lib.mk_data _
  rw [e2]
  unfold Lib.cellsOf
  simp only [List.getElem?_toArray]
  rw [List.getElem?_append_left (by simpa using hj2)]
  simp [hj2]

/-- The row of the pieces while their copies are laid: nothing that shows has changed. -/
def SpR (ps : List (List UInt8)) (cap : Nat) (w0 : World) (m : Nat) (i : Value) (wr : World) : Prop :=
  ∃ (k : Nat) (cs : Array Value), i = .int .i64 k ∧ m = ps.length - k ∧ k ≤ ps.length ∧ Blk wr w0.heap.size 9 cs ∧ cs.size = cap ∧ Below w0.heap.size w0 wr ∧
    Hid (∀ j (hj : j < ps.length), cs[j]? = some (.string (str ps[j])))
theorem sp_same {ps : List (List UInt8)} {cap k : Nat} {cs : Array Value} (hk : k < ps.length) (hs : cs.size = cap) (hc : ps.length ≤ cap) (h : ∀ j (hj : j < ps.length), cs[j]? = some (.string (str ps[j]))) :
    ∀ j (hj : j < ps.length), (cs.setIfInBounds k (.string (str ps[k])))[j]? = some (.string (str ps[j])) := fun j hj => by
  rw [Array.getElem?_setIfInBounds]
  by_cases e : k = j
  · subst e
    rw [if_pos rfl, if_pos (by omega)]
  · rw [if_neg e]
    exact h j hj
theorem sp_own {w : World} {B : Nat} {ps : List (List UInt8)} {cap : Nat} {cs : Array Value} (hb : Blk w B 9 cs) (hs : cs.size = cap) (hc : ps.length ≤ cap) (hm : cap ≤ 61) (h : ∀ j (hj : j < ps.length), cs[j]? = some (.string (str ps[j]))) :
    w.ownsRow B 9 1 (.slice (some ⟨B, 0, none⟩) ps.length cap) ps.length (tcells ps) := by
  refine ⟨by simp [tcells], .inr ⟨B, cap, cs, rfl, Nat.le_refl _, hb, hc, by unfold maxLen; omega, by omega, ?_⟩⟩
  apply List.ext_getElem?
  intro i
  rw [List.getElem?_take, Nat.mul_one]
  by_cases hi : i < ps.length
  · rw [if_pos hi, Array.getElem?_toList, h i hi]
    simp [tcells, hi]
  · rw [if_neg hi]
    simp [tcells, hi]

set_option maxHeartbeats 2000000 in
theorem impl_SplitPhrase (l : List UInt8) (hl : l.length ≤ 1500000) (w : World) (hM : Mx w) : Calls Tryd.prog 10 #[.string (str l)] w (TextsE (spL l) (spE l) w) := by
  have sl := str_toList l
  by_cases h0 : l = []
  · have H := Lib.hid (show spL l = [] ∧ spE l = 0 from ⟨if_pos h0, if_pos h0⟩)
    rw [H.out.1, H.out.2]
    clear H
    subst h0
    go_enter Tryd.func10, Tryd.ntmps10
    go_wp2_with fail
    go_ret2
    exact ⟨_, rfl, World.ownsRow_nil _ _ _ _, Below.refl _ _⟩
  · have hd : (l == []) = false := by simpa using h0
    have SN := Lib.hid (fun w h => lib_SplitN l hl w h)
    have HT := Lib.hid (pieces_tame hl)
    by_cases hp : phOk (pieces l)
    · have hq := (pieces_iff l).1 hp
      have H := Lib.hid (show spL l = pieces l ∧ spE l = 0 from ⟨by unfold spL; rw [if_neg h0, if_pos hq, pieces_ph hp], by unfold spE; rw [if_neg h0, if_pos hq]⟩)
      rw [H.out.1, H.out.2]
      clear H h0 hq
      generalize pieces l = ps at *
      have PH := Lib.hid (fun A c w => impl_phrase A c ps HT.out true (decide_eq_true hp) w)
      have HP := Lib.hid hp.1
      have h60 := hp.2
      clear hp HT
      go_enter Tryd.func10, Tryd.ntmps10
      go_wp2_with fail
      refine (SN.out _ hM).mono ?_
      rintro e w1 ⟨cap, cs, rfl, hw1, hs, hc, hm, hcell⟩
      have hB : Blk w1 w.heap.size 9 cs := by rw [hw1]; exact Blk.new w _ _
      have bel1 : Below w.heap.size w w1 := by rw [hw1]; exact (Below.refl _ _).alloc (Nat.le_refl _) _
      have HC := Lib.hid hcell
      have rd : RdS w1 (some ⟨w.heap.size, 0, none⟩) ps := fun k hk => ⟨_, _, rfl, hB.lt, by rw [Nat.zero_add, hB.cell k]; exact hcell k hk⟩
      clear hw1 hcell SN
      go_wp2_with fail
      refine (PH.out _ _ _ rd).mono ?_
      rintro e w2 ⟨rfl, rfl⟩
      clear PH rd
      go_wp2_with fail
      go_loopg [16] ps.length (fun m i wr => SpR ps cap w m i wr)
      case atStart => exact ⟨0, cs, rfl, by omega, by omega, hB, hs, bel1, HC⟩
      case round =>
        clear hB bel1 HC hs
        obtain ⟨k, cs, rfl, hk0, hk, hB, hs, bel, HK⟩ := hrel
        subst hk0
        by_cases hlt : k < ps.length
        · have hgo : (k : Int) < (ps.length : Int) := by omega
          have c0 : wr.cell? ⟨w.heap.size, k, none⟩ = some (.string (str ps[k])) := by rw [hB.cell k]; exact HK.out k hlt
          have hw := HP.out _ (List.getElem_mem hlt)
          have CL := Lib.hid (lib_clone ps[k] (by have := hw.2.2; omega))
          have HN := Lib.hid (sp_same hlt hs hc HK.out)
          obtain ⟨p, hpk⟩ : ∃ p, ps[k] = p := ⟨_, rfl⟩
          rw [hpk] at CL c0 HN
          clear HK hw hpk
          go_wp2_with fail
          refine (CL.out _).mono ?_
          rintro e w3 ⟨rfl, hb⟩
          have hB1 := hB.below hb hB.lt
          have bel1 := bel.trans (hb.mono bel.size)
          have hu : w3.cell? ⟨w.heap.size, k, none⟩ = some (.string (str p)) := cell_on hb c0
          have hf := hB1.frozen k
          have hB2 := hB1.set_ k (.string (str p))
          have bel2 := bel1.setCell (p := ⟨w.heap.size, k, none⟩) (Nat.le_refl _) (.string (str p))
          have hs2 : (cs.setIfInBounds k (.string (str p))).size = cap := by rw [Array.size_setIfInBounds]; exact hs
          clear hB hB1 bel bel1 hb c0
          go_wp2_with fail
          go_roundg (ps.length - (k + 1))
          case measure => omega
          case rel => exact ⟨k + 1, _, by go_num, by omega, by omega, hB2, hs2, bel2, HN⟩
        · have hge : ¬ (k : Int) < (ps.length : Int) := by omega
          have HO := Lib.hid (sp_own hB hs hc hm HK.out)
          clear HK hB hs
          go_wp2_with fail
          go_ret2
          exact ⟨_, rfl, HO.out, bel⟩
    · have hq : ¬ phOk (Txt.split 32 l []) := fun h => hp ((pieces_iff l).2 h)
      have H := Lib.hid (show spL l = [] ∧ spE l = 6 from ⟨by unfold spL; rw [if_neg h0, if_neg hq], by unfold spE; rw [if_neg h0, if_neg hq]⟩)
      rw [H.out.1, H.out.2]
      clear H h0 hq
      generalize pieces l = ps at *
      have PH := Lib.hid (fun A c w => impl_phrase A c ps HT.out false (decide_eq_false hp) w)
      clear hp HT
      go_enter Tryd.func10, Tryd.ntmps10
      go_wp2_with fail
      refine (SN.out _ hM).mono ?_
      rintro e w1 ⟨cap, cs, rfl, hw1, hs, hc, hm, hcell⟩
      have hB : Blk w1 w.heap.size 9 cs := by rw [hw1]; exact Blk.new w _ _
      have bel1 : Below w.heap.size w w1 := by rw [hw1]; exact (Below.refl _ _).alloc (Nat.le_refl _) _
      have rd : RdS w1 (some ⟨w.heap.size, 0, none⟩) ps := fun k hk => ⟨_, _, rfl, hB.lt, by rw [Nat.zero_add, hB.cell k]; exact hcell k hk⟩
      clear hw1 hcell SN
      go_wp2_with fail
      refine (PH.out _ _ _ rd).mono ?_
      rintro e w2 ⟨rfl, rfl⟩
      go_wp2_with fail
      go_ret2
      exact ⟨_, rfl, World.ownsRow_nil _ _ _ _, bel1⟩

end Go.Proofs.YtdpbikephjnndaaDoor.Wrd
