/- Contract of spec's draw of a phrase: rows of texts of the call's own, a source of drawn numbers beside them. -/
import Derived.Test.YtdpbikephjnndaaDoorWrdH
import Derived.OwnWalk
import Derived.Laws.AppendOwn
import Derived.Laws.OwnMore
import Derived.WalkSpells
namespace Go.Proofs.YtdpbikephjnndaaDoor.Wrd
open Go.RowKit

/-- v is a row of texts of the call's own, in a block from B on. -/
def OwnS (w : World) (B : Nat) (v : Value) (ps : List (List UInt8)) : Prop := w.ownsRow B 9 1 v ps.length (tcells ps)
section
variable {w w' w1 w2 : World} {B g : Nat} {v : Value} {ps : List (List UInt8)}
theorem OwnS.made0 (w : World) : OwnS (w.alloc (.cells #[] 9)) w.heap.size (.slice (some ⟨w.heap.size, 0, none⟩) 0 0) [] :=
  ⟨rfl, .inr ⟨w.heap.size, 0, #[], rfl, Nat.le_refl _, heap_alloc_new w _, Nat.le_refl _, Nat.zero_le _, rfl, rfl⟩⟩
theorem OwnS.alloc (h : OwnS w B v ps) (o : Obj) : OwnS (w.alloc o) B v ps := World.ownsRow.alloc h o
theorem OwnS.mono {B' : Nat} (h : OwnS w B v ps) (hB : B' ≤ B) : OwnS w B' v ps := owns_mono h hB
theorem OwnS.below (h : OwnS w B v ps) (hb : Below w.heap.size w w') : OwnS w' B v ps := owns_below h hb
theorem OwnS.grown (h : OwnS w B v ps) (hb : w.grownBy w' (some g)) (hg : g < B) : OwnS w' B v ps :=
  World.ownsRow.kept h hb (by
    cases hv : v.ownBlock with
    | none => exact .inl rfl
    | some k =>
      have := (World.ownsRow.lt h k hv).1
      exact .inr (fun e => by injection e with e; omega))
theorem OwnS.form (h : OwnS w B v ps) : ∃ A c, v = .slice A ps.length c ∧ ps.length ≤ c ∧ RdS w A ps := own_rdS h
theorem grown_ownS {row : Option Nat} (h : w.grownBy w1 (some g)) (h2 : w1.grownBy w2 row) (hr : ∀ k, row = some k → w.heap.size ≤ k) : w.grownBy w2 (some g) :=
  ⟨h2.os.trans h.os, h2.tape.trans h.tape, h2.output.trans h.output, Nat.le_trans h.size h2.size, fun i hi hne => (h2.block i (Nat.lt_of_lt_of_le hi h.size) (fun e => by have := hr i e.symm; omega)).trans (h.block i hi hne)⟩
end
theorem src_ownS {A : Option Addr} {len cap : Nat} {zs : List Int} {W w w' : World} {g : Nat} {row : Option Nat} (h : Src A len cap zs W w g) (hb : w.grownBy w' row) (hr : ∀ k, row = some k → g < k) : Src A len cap zs W w' g := by
  obtain ⟨h1, h2, h3, p, s, h4, h5, h6, h7⟩ := h
  refine ⟨h1, ?_, h3, p, s, h4, h5, h6, h7.grown hb (fun e => by have := hr g e.symm; omega)⟩
  exact ⟨hb.os.trans h2.os, hb.tape.trans h2.tape, hb.output.trans h2.output, Nat.le_trans h2.size hb.size, fun i hi => (hb.block i (Nat.lt_of_lt_of_le hi h2.size) (fun e => by have := hr i e.symm; omega)).trans (h2.block i hi)⟩
theorem tcells_snoc (ps : List (List UInt8)) (p : List UInt8) : tcells (ps ++ [p]) = tcells ps ++ [.string (str p)] := by simp [tcells]

/-- One text appended, a source of drawn numbers beside it. -/
theorem append_text {ops : Array Oper} {rest : List Oper} {o : Oper} {a : Act} {Q : Exit → Act → World → Prop} {A : Option Addr} {len cap : Nat} {zs : List Int} {W w w1 : World} {g : Nat} {v : Value} {acc : List (List UInt8)} {t : ByteArray} (p : List UInt8) (hp : t = str p) (hs : Src A len cap zs W w1 g) (hgw : g < w.heap.size) (hgr : w.grownBy w1 (some g)) (hown : OwnS w1 w.heap.size v acc)
    (hN : acc.length + 1 ≤ 8000000) (hgd : o.guard = none) (s x : Operand) (ho : o.op = .call { callee := .builtin .append, args := #[s, x], argTypes := #[24, 24] })
    (hs1 : a.eval s = v) (hx : a.eval x = .slice (some ⟨w1.heap.size, 0, none⟩) 1 1)
    (K : ∀ v2 w2, OwnS w2 w.heap.size v2 (acc ++ [p]) → Src A len cap zs W w2 g → w.grownBy w2 (some g) → wpList Tryd.prog ops Q rest (a.put o.dst v2) w2) :
    wpList Tryd.prog ops Q (o :: rest) a (w1.alloc (.cells #[.string t] 9)) := by
  subst hp
  obtain ⟨i0, hi, hz0, hz1, hz2⟩ := info_parts info_str
  refine wpList_append_own _ hgd s x 24 ho w.heap.size 9 i0 (.string ByteArray.empty) 1 16 Tryd.underlying24 hi hz0 hz1 hz2 rfl (by decide) v _ _ hs1 (World.ownsRow.alloc hown _) ⟨w1.heap.size, 0, none⟩ 1 1 [.string (str p)] hx rfl (cell_one_new _ _ _) ?_ ?_ ?_ ?_ ?_
  · intro u hu; simp at hu; subst hu; rfl
  · unfold maxLen; omega
  · omega
  · have := hgr.size; simp; omega
  · intro v2 w2 hown2 hgrow2 _
    have hlt : ∀ k, v.ownBlock = some k → w.heap.size ≤ k := fun k hk => (World.ownsRow.lt hown k hk).1
    exact K v2 w2 (by unfold OwnS; rw [List.length_append, tcells_snoc]; exact hown2) (src_ownS (hs.alloc _) hgrow2 (fun k hk => by have := hlt k hk; omega)) (grown_ownS (only_alloc hgr _) hgrow2 hlt)

/-- A drawn list of texts: few, and none of them long. -/
def Sl (ps : List (List UInt8)) : Prop := ps.length ≤ 61 ∧ ∀ p ∈ ps, p.length ≤ 21
theorem Sl.tame {ps : List (List UInt8)} (h : Sl ps) : Tame ps := ⟨by have := h.1; omega, fun p hp => by have := h.2 p hp; omega⟩
/-- What a call leaves that draws a list of texts. -/
def DrewLs (A : Option Addr) (len cap : Nat) (zs : List Int) (W w : World) (g : Nat) (e : Ending) (w' : World) : Prop :=
  ∃ (v : Value) (ps : List (List UInt8)), e = .returned v ∧ Sl ps ∧ OwnS w' w.heap.size v ps ∧ Src A len cap zs W w' g ∧ w.grownBy w' (some g)

def PhLoop (A : Option Addr) (len cap : Nat) (zs : List Int) (W w : World) (g : Nat) (most m : Nat) (v n : Value) (wr : World) : Prop :=
  ∃ (r : Nat) (acc : List (List UInt8)), r = m ∧ n = .int .i64 r ∧ acc.length + r ≤ most ∧ (∀ p ∈ acc, p.length ≤ 21) ∧ OwnS wr w.heap.size v acc ∧ Src A len cap zs W wr g ∧ w.grownBy wr (some g)
theorem all_snoc {acc : List (List UInt8)} {p : List UInt8} (h : ∀ q ∈ acc, q.length ≤ 21) (hp : p.length ≤ 21) : ∀ q ∈ acc ++ [p], q.length ≤ 21 := fun q hq => by
  rcases List.mem_append.1 hq with h1 | h1
  · exact h q h1
  · rcases List.mem_cons.1 h1 with rfl | h2
    · exact hp
    · cases h2

set_option maxHeartbeats 4000000 in
set_option maxRecDepth 100000 in
theorem spec_drawPhrase (A : Option Addr) (len cap : Nat) (zs : List Int) (W w : World) (g : Nat) (hs : Src A len cap zs W w g) :
    Calls Tryd.prog 19 #[.pointer (some ⟨g, 0, none⟩)] w (DrewLs A len cap zs W w g) := by
  have hgw := hs.lt
  go_enter Tryd.func19, Tryd.ntmps19
  go_wp2_with fail
  refine (spec_next A len cap zs W _ g 9 (hs.alloc _)).mono ?_
  rintro e w1 ⟨x, rfl, x0, x1, s1, k1⟩
  have o1 : OwnS w1 w.heap.size (.slice (some ⟨w.heap.size, 0, none⟩) 0 0) [] := OwnS.grown (OwnS.made0 w) k1 hgw
  have h1 : w.grownBy w1 (some g) := World.grownBy.trans (only_alloc (World.grownBy.refl _ _) _) k1
  obtain ⟨m0, rfl⟩ := Int.eq_ofNat_of_zero_le x0
  have hm0 : m0 ≤ 9 := by omega
  clear x0 x1 hs k1
  go_wp2_with fail
  go_loopg [3, 4] m0 (fun m v n wr => PhLoop A len cap zs W w g 9 m v n wr)
  case atStart => exact ⟨m0, [], rfl, rfl, by simp; omega, by simp, o1, s1, h1⟩
  case round =>
    clear s1 o1 h1 hm0
    obtain ⟨m, acc, hm, rfl, hl, hok, own, sr, gr⟩ := hrel
    subst hm
    have HO := Lib.hid hok
    clear hok
    rcases m with _ | m
    · go_wp2_with fail
      refine (spec_next A len cap zs W _ g 50 sr).mono ?_
      rintro e w2 ⟨y, rfl, y0, y1, s2, k2⟩
      have own2 := own.grown k2 hgw
      have gr2 := World.grownBy.trans gr k2
      clear own sr gr k2 y1
      by_cases h0 : y = 0
      · subst h0
        have hzz := gr2.size
        go_wp2_with fail
        refine (spec_next A len cap zs W _ g 2 (s2.alloc _)).mono ?_
        rintro e w3 ⟨z, rfl, z0, z1, s3, k3⟩
        have own3 := ((OwnS.made0 w2).mono hzz).grown k3 hgw
        have gr3 := (only_alloc gr2 _).trans k3
        have zb : z ≤ 1 := by omega
        obtain ⟨q, rfl⟩ := Int.eq_ofNat_of_zero_le z0
        clear own2 gr2 s2 k3 z1 z0 y0 HO hl
        go_wp2_with fail
        go_loopg [3, 6] (60 + q) (fun m v n wr => PhLoop A len cap zs W w g 61 m v n wr)
        case atStart => exact ⟨60 + q, [], rfl, by first | rfl | go_num, by simp; omega, by simp, own3, s3, gr3⟩
        case round =>
          clear own3 gr3 s3 zb acc
          obtain ⟨p, acc, hm, rfl, hl, hok, own, sr, gr⟩ := hrel
          subst hm
          have HO := Lib.hid hok
          clear hok
          rcases p with _ | p
          · obtain ⟨A2, c2, rfl, -⟩ := own.form
            go_wp2_with fail
            go_ret
            exact ⟨_, acc, rfl, ⟨by omega, HO.out⟩, own, sr, gr⟩
          · have hp : (0 : Int) < (p : Int) + 1 := by omega
            have hpb : p ≤ 60 := by omega
            have HS := Lib.hid sr
            have HG := Lib.hid gr
            have HW := Lib.hid own
            clear sr gr own
            go_wp2_with (at_builtin; refine append_text [97] rfl HS.out hgw HG.out HW.out (by omega) rfl (.tmp 38) (.tmp 39) rfl rfl rfl ?_)
            intro v5 w5 own5 s5 gr5
            have HA := Lib.hid (all_snoc (p := [97]) HO.out (by decide))
            clear HS HG HW HO
            go_wp2_with fail
            go_roundg p
            case measure => omega
            case rel => exact ⟨p, _, rfl, by go_num, by simp; omega, HA.out, own5, s5, gr5⟩
      · have hy : (y == 0) = false := by simpa using h0
        clear h0
        obtain ⟨A2, c2, rfl, -⟩ := own2.form
        go_wp2_with fail
        go_ret
        exact ⟨_, acc, rfl, ⟨by omega, HO.out⟩, own2, s2, gr2⟩
    · have hp : (0 : Int) < (m : Int) + 1 := by omega
      go_wp2_with fail
      refine (spec_drawWord A len cap zs W _ g sr).mono ?_
      rintro e w2 ⟨t, rfl, ht, s2, k2⟩
      have own2 := own.grown k2 hgw
      have gr2 := World.grownBy.trans gr k2
      obtain ⟨p, rfl⟩ : ∃ p, t = str p := ⟨t.data.toList, by simp [str]⟩
      rw [str_size] at ht
      have HA := Lib.hid (all_snoc HO.out ht)
      have HT := Lib.hid ht
      clear own sr gr k2 ht
      by_cases hw : isW p
      · have W1 := Lib.hid (spec_IsWord p (by have := HT.out; omega) true (decide_eq_true hw))
        have HS := Lib.hid s2
        have HG := Lib.hid gr2
        have HW := Lib.hid own2
        clear hw s2 gr2 own2
        go_wp2_with fail
        refine (W1.out _).mono ?_
        rintro e w3 ⟨rfl, rfl⟩
        clear W1
        go_wp2_with (at_builtin; refine append_text p rfl HS.out hgw HG.out HW.out (by omega) rfl (.tmp 23) (.tmp 25) rfl rfl rfl ?_)
        intro v5 w5 own5 s5 gr5
        clear HS HG HW HO
        go_wp2_with fail
        go_roundg m
        case measure => omega
        case rel => exact ⟨m, _, rfl, by go_num, by simp; omega, HA.out, own5, s5, gr5⟩
      · have W1 := Lib.hid (spec_IsWord p (by have := HT.out; omega) false (decide_eq_false hw))
        clear hw
        go_wp2_with fail
        refine (W1.out _).mono ?_
        rintro e w3 ⟨rfl, rfl⟩
        clear W1
        go_wp2_with fail
        refine (spec_next A len cap zs W _ g 4 s2).mono ?_
        rintro e w4 ⟨y, rfl, y0, y1, s4, k4⟩
        have own4 := own2.grown k4 hgw
        have gr4 := World.grownBy.trans gr2 k4
        clear s2 gr2 own2 k4 y1
        by_cases h0 : y = 0
        · subst h0
          have HS := Lib.hid s4
          have HG := Lib.hid gr4
          have HW := Lib.hid own4
          clear s4 gr4 own4
          go_wp2_with (at_builtin; refine append_text p rfl HS.out hgw HG.out HW.out (by omega) rfl (.tmp 23) (.tmp 25) rfl rfl rfl ?_)
          intro v5 w5 own5 s5 gr5
          clear HS HG HW HO
          go_wp2_with fail
          go_roundg m
          case measure => omega
          case rel => exact ⟨m, _, rfl, by go_num, by simp; omega, HA.out, own5, s5, gr5⟩
        · have hy : (y == 0) = false := by simpa using h0
          clear h0
          go_wp2_with fail
          go_roundg m
          case measure => omega
          case rel => exact ⟨m, _, rfl, by go_num, by omega, HO.out, own4, s4, gr4⟩

end Go.Proofs.YtdpbikephjnndaaDoor.Wrd
