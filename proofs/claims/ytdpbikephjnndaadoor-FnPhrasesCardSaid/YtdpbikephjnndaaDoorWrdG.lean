/- Contracts of spec's NearestWord where it finds nothing, and of its words in common. -/
import Derived.Test.YtdpbikephjnndaaDoorWrdF
namespace Go.Proofs.YtdpbikephjnndaaDoor.Wrd
open Go.RowKit

/-! ### words in common -/
/-- M is the length of the longest run in common of those that begin before i, k. -/
def CP (a b : List (List UInt8)) (i k M : Nat) : Prop :=
  (M = 0 ∨ ∃ x y, x < a.length ∧ y < b.length ∧ run (a.drop x) (b.drop y) = M) ∧ ∀ x y, x < a.length → y < b.length → (x < i ∨ (x = i ∧ y < k)) → run (a.drop x) (b.drop y) ≤ M
theorem CP.start (a b : List (List UInt8)) : CP a b 0 0 0 := ⟨.inl rfl, fun x y _ _ h => by omega⟩
theorem CP.next {a b : List (List UInt8)} {i k M n : Nat} (h : CP a b i k M) (hi : i < a.length) (hk : k < b.length) (hn : run (a.drop i) (b.drop k) = n) : CP a b i (k + 1) (if M < n then n else M) := by
  refine ⟨?_, fun x y hx hy hxy => ?_⟩
  · split
    · exact .inr ⟨i, k, hi, hk, hn⟩
    · exact h.1
  · by_cases e : x = i ∧ y = k
    · rw [e.1, e.2, hn]
      split <;> omega
    · have := h.2 x y hx hy (by omega)
      split <;> omega
theorem CP.row {a b : List (List UInt8)} {i M : Nat} (h : CP a b i b.length M) : CP a b (i + 1) 0 M :=
  ⟨h.1, fun x y hx hy hxy => h.2 x y hx hy (by omega)⟩
theorem CP.all {a b : List (List UInt8)} {M : Nat} (h : CP a b a.length 0 M) : Common a b M := ⟨h.1, fun x y hx hy => h.2 x y hx hy (.inl hx)⟩
theorem CP.bd {a b : List (List UInt8)} {i k M : Nat} (h : CP a b i k M) : M ≤ a.length := by
  rcases h.1 with e | ⟨x, y, hx, hy, e⟩
  · omega
  · rw [← e]
    have := (run_le (a.drop x) (b.drop y)).1
    rw [List.length_drop] at this
    omega

theorem at_map (a : List (List UInt8)) (x z : Nat) : ((a.map norm).drop x)[z]? = (a[x + z]?).map norm := by rw [List.getElem?_drop, List.getElem?_map]
theorem run_stop {a b : List (List UInt8)} {x y z : Nat} (h : z ≤ run ((a.map norm).drop x) ((b.map norm).drop y)) (hn : ∀ (h1 : x + z < a.length) (h2 : y + z < b.length), norm a[x + z] ≠ norm b[y + z]) : run ((a.map norm).drop x) ((b.map norm).drop y) = z := by
  have m := run_more z _ _ h
  rw [at_map, at_map] at m
  have : ¬ (z + 1 ≤ run ((a.map norm).drop x) ((b.map norm).drop y)) := by
    rw [m]
    rintro ⟨t, e1, e2⟩
    obtain ⟨p, hp, e1⟩ := Option.map_eq_some_iff.1 e1
    obtain ⟨q, hq, e2⟩ := Option.map_eq_some_iff.1 e2
    obtain ⟨h1, e3⟩ := List.getElem?_eq_some_iff.1 hp
    obtain ⟨h2, e4⟩ := List.getElem?_eq_some_iff.1 hq
    exact hn h1 h2 (by rw [e3, e4, e1, e2])
  omega
theorem run_go {a b : List (List UInt8)} {x y z : Nat} (h : z ≤ run ((a.map norm).drop x) ((b.map norm).drop y)) (h1 : x + z < a.length) (h2 : y + z < b.length) (e : norm a[x + z] = norm b[y + z]) : z + 1 ≤ run ((a.map norm).drop x) ((b.map norm).drop y) := by
  rw [run_more z _ _ h, at_map, at_map, List.getElem?_eq_getElem h1, List.getElem?_eq_getElem h2]
  exact ⟨norm a[x + z], rfl, by rw [e]; rfl⟩
/-- What a call leaves that answers the longest run in common and a place. -/
def ShO (a b : List (List UInt8)) (w : World) (e : Ending) (w' : World) : Prop := ∃ (M : Nat) (T : Int), e = .returned (.tuple #[.int .i64 M, .int .i64 T]) ∧ Common (a.map norm) (b.map norm) M ∧ Below w.heap.size w w'
theorem ShO.mk {a b : List (List UInt8)} {M : Nat} {T : Int} {w w' : World} (h : Common (a.map norm) (b.map norm) M) (hb : Below w.heap.size w w') : ShO a b w (.returned (.tuple #[.int .i64 M, .int .i64 T])) w' := ⟨M, T, rfl, h, hb⟩
open Classical in
/-- The length of the longest run in common. -/
noncomputable def com (a b : List (List UInt8)) : Nat := if h : ∃ M, Common a b M then Classical.choose h else 0
theorem com_eq {a b : List (List UInt8)} {M : Nat} (h : Common a b M) : com a b = M := by
  have hex : ∃ M, Common a b M := ⟨M, h⟩
  unfold com
  rw [dif_pos hex]
  exact (Classical.choose_spec hex).uniq h
def SA (a b : List (List UInt8)) (w0 : World) (m : Nat) (v t i : Value) (wr : World) : Prop :=
  ∃ (x M : Nat) (T : Int), i = .int .i64 x ∧ m = a.length - x ∧ x ≤ a.length ∧ v = .int .i64 M ∧ t = .int .i64 T ∧ Hid (CP (a.map norm) (b.map norm) x 0 M) ∧ Below w0.heap.size w0 wr
def SB (a b : List (List UInt8)) (x : Nat) (w0 : World) (m : Nat) (v t k : Value) (wr : World) : Prop :=
  ∃ (y M : Nat) (T : Int), k = .int .i64 y ∧ m = b.length - y ∧ y ≤ b.length ∧ v = .int .i64 M ∧ t = .int .i64 T ∧ Hid (CP (a.map norm) (b.map norm) x y M) ∧ Below w0.heap.size w0 wr
def SC (a b : List (List UInt8)) (x y : Nat) (w0 : World) (m : Nat) (n : Value) (wr : World) : Prop :=
  ∃ z : Nat, n = .int .i64 z ∧ m = a.length - (x + z) ∧ x + z ≤ a.length ∧ y + z ≤ b.length ∧ Hid (z ≤ run ((a.map norm).drop x) ((b.map norm).drop y)) ∧ Below w0.heap.size w0 wr

set_option maxRecDepth 100000 in
set_option maxHeartbeats 8000000 in
theorem spec_shared (A1 A2 : Option Addr) (c1 c2 : Nat) (a b : List (List UInt8)) (ha : phOk a) (hb : phOk b) (w : World) (r1 : RdS w A1 a) (r2 : RdS w A2 b) :
    Calls Tryd.prog 32 #[.slice A1 a.length c1, .slice A2 b.length c2] w (ShO a b w) := by
  have HA := Lib.hid ha.1
  have HB := Lib.hid hb.1
  have na := ha.2
  have nb := hb.2
  clear ha hb
  go_enter Tryd.func32, Tryd.ntmps32
  go_wp2_with fail
  go_loopg [6, 7, 8] a.length (fun m v t i wr => SA a b w m v t i wr)
  case atStart => exact ⟨0, 0, 0, rfl, by omega, by omega, rfl, rfl, Lib.hid (CP.start _ _), Below.refl _ _⟩
  case round =>
    obtain ⟨x, M, T, rfl, hm, hx, rfl, rfl, HC, bel⟩ := hrel
    subst hm
    by_cases hxt : x < a.length
    · have hgx : (x : Int) < (a.length : Int) := by omega
      generalize wr = w1 at *
      go_wp2_with fail
      go_loopg [6, 7, 9] b.length (fun m v t k wr => SB a b x w1 m v t k wr)
      case atStart => exact ⟨0, M, T, rfl, by omega, by omega, rfl, rfl, HC, Below.refl _ _⟩
      case round =>
        clear HC
        obtain ⟨y, M, T, rfl, hm, hy, rfl, rfl, HC, belk⟩ := hrel
        subst hm
        have mb := HC.out.bd
        rw [List.length_map] at mb
        by_cases hyt : y < b.length
        · have hgy : (y : Int) < (b.length : Int) := by omega
          generalize wr = w2 at *
          go_wp2_with fail
          go_loopg [10] (a.length - x) (fun m n wr => SC a b x y w2 m n wr)
          case atStart => exact ⟨0, rfl, by omega, by omega, by omega, Lib.hid (Nat.zero_le _), Below.refl _ _⟩
          case round =>
            obtain ⟨z, rfl, hm, hxz, hyz, HZ, beln⟩ := hrel
            subst hm
            have z1 : IntKind.i64.wrap ((x : Int) + (z : Int)) = (x : Int) + (z : Int) := by rw [IntKind.wrap_i64]; omega
            have z2 : IntKind.i64.wrap ((y : Int) + (z : Int)) = (y : Int) + (z : Int) := by rw [IntKind.wrap_i64]; omega
            by_cases hxa : x + z < a.length
            · have g1 : (x : Int) + (z : Int) < (a.length : Int) := by omega
              by_cases hyb : y + z < b.length
              · have g2 : (y : Int) + (z : Int) < (b.length : Int) := by omega
                have p1 : (0 : Int) ≤ (x : Int) + (z : Int) := by omega
                have p2 : (0 : Int) ≤ (y : Int) + (z : Int) := by omega
                have t1 : ((x : Int) + (z : Int)).toNat = x + z := by omega
                have t2 : ((y : Int) + (z : Int)).toNat = y + z := by omega
                obtain ⟨g, off, rfl, hg, e1⟩ := (r1.below (bel.trans ((belk.trans (beln.mono belk.size)).mono bel.size))) (x + z) hxa
                obtain ⟨g', off', rfl, hg', e2⟩ := (r2.below (bel.trans ((belk.trans (beln.mono belk.size)).mono bel.size))) (y + z) hyb
                have d1 : wr.drew.cell? ⟨g, off + (x + z), none⟩ = some (.string (str a[x + z])) := e1
                have d2 : wr.drew.cell? ⟨g', off' + (y + z), none⟩ = some (.string (str b[y + z])) := e2
                have hwa := HA.out _ (List.getElem_mem hxa)
                have hwb := HB.out _ (List.getElem_mem hyb)
                have N1 := Lib.hid (spec_norm a[x + z] hwa.2.2 hwa.2.1)
                have N2 := Lib.hid (spec_norm b[y + z] hwb.2.2 hwb.2.1)
                have s1 := str_toList (norm a[x + z])
                have s2 := str_toList (norm b[y + z])
                have HS := Lib.hid (fun q => run_stop HZ.out (fun _ _ => q) : norm a[x + z] ≠ norm b[y + z] → _)
                have HG := Lib.hid (fun e => run_go HZ.out hxa hyb e)
                clear hwa hwb
                generalize norm a[x + z] = u at *
                generalize norm b[y + z] = v at *
                generalize a[x + z] = p at *
                generalize b[y + z] = q at *
                by_cases huv : u = v
                · have HZ2 := Lib.hid (HG.out huv)
                  clear HG HS HZ
                  subst huv
                  have hb : (u == u) = true := by simp
                  go_wp2_with fail
                  go_region_held3 (fun w' => w'.cell? ⟨g, off + (x + z), none⟩ = some (.string (str p)) ∧ w'.cell? ⟨g', off' + (y + z), none⟩ = some (.string (str q)))
                    (first | with_reducible exact ⟨d1, d2⟩ | with_reducible exact ⟨ca1, ca2⟩ | with_reducible exact ⟨cb1, cb2⟩)
                    (first | (go_at_call_of 43 (Value.string (str p)); refine (N1.out _).mono ?_; rintro e9 wa ⟨rfl, hqa⟩; have ca1 := cell_on hqa d1; have ca2 := cell_on hqa d2) | (go_at_call_of 43 (Value.string (str q)); refine (N2.out _).mono ?_; rintro e9 wb ⟨rfl, hqb⟩; have cb1 := cell_on hqb ca1; have cb2 := cell_on hqb ca2))
                  have belr := beln.trans (((Below.refl wr.heap.size wr).drew.trans hqa).trans (hqb.mono hqa.size) |>.mono beln.size)
                  clear hqa hqb ca1 ca2 cb1 cb2 d1 d2 N1 N2 e1 e2
                  go_wp2_with fail
                  go_roundg (a.length - (x + (z + 1)))
                  case measure => omega
                  case rel => exact ⟨z + 1, by go_num, by omega, by omega, by omega, HZ2, belr⟩
                · have EZ := HS.out huv
                  have hb : (u == v) = false := by simpa using huv
                  clear HG HS huv
                  go_wp2_with fail
                  go_region_held3 (fun w' => w'.cell? ⟨g, off + (x + z), none⟩ = some (.string (str p)) ∧ w'.cell? ⟨g', off' + (y + z), none⟩ = some (.string (str q)))
                    (first | with_reducible exact ⟨d1, d2⟩ | with_reducible exact ⟨ca1, ca2⟩ | with_reducible exact ⟨cb1, cb2⟩)
                    (first | (go_at_call_of 43 (Value.string (str p)); refine (N1.out _).mono ?_; rintro e9 wa ⟨rfl, hqa⟩; have ca1 := cell_on hqa d1; have ca2 := cell_on hqa d2) | (go_at_call_of 43 (Value.string (str q)); refine (N2.out _).mono ?_; rintro e9 wb ⟨rfl, hqb⟩; have cb1 := cell_on hqb ca1; have cb2 := cell_on hqb ca2))
                  have belr := beln.trans (((Below.refl wr.heap.size wr).drew.trans hqa).trans (hqb.mono hqa.size) |>.mono beln.size)
                  clear hqa hqb ca1 ca2 cb1 cb2 d1 d2 N1 N2 e1 e2
                  have belq := belk.trans (belr.mono belk.size)
                  have HN := HC.out.next (by rw [List.length_map]; exact hxt) (by rw [List.length_map]; exact hyt) EZ
                  clear EZ
                  by_cases hMz : M < z
                  · rw [if_pos hMz] at HN
                    have HN2 := Lib.hid HN
                    clear HN HC HZ
                    go_wp2_with fail
                    go_roundg (b.length - (y + 1))
                    case measure => omega
                    case rel => exact ⟨y + 1, z, x, by go_num, by omega, by omega, rfl, rfl, HN2, belq⟩
                  · rw [if_neg hMz] at HN
                    have HN2 := Lib.hid HN
                    clear HN HC HZ
                    go_wp2_with fail
                    go_roundg (b.length - (y + 1))
                    case measure => omega
                    case rel => exact ⟨y + 1, M, T, by go_num, by omega, by omega, rfl, rfl, HN2, belq⟩
              · have g2 : ¬ (y : Int) + (z : Int) < (b.length : Int) := by omega
                have d2 : decide ((y : Int) + (z : Int) < (b.length : Int)) = false := by simpa using g2
                have EZ := run_stop HZ.out (fun _ h2 => absurd h2 hyb)
                go_wp2_with fail
                go_quiet (fail)
                have belq := belk.trans ((below_drewN beln nq).mono belk.size)
                have HN := HC.out.next (by rw [List.length_map]; exact hxt) (by rw [List.length_map]; exact hyt) EZ
                clear EZ
                by_cases hMz : M < z
                · rw [if_pos hMz] at HN
                  have HN2 := Lib.hid HN
                  clear HN HC HZ
                  go_wp2_with fail
                  go_roundg (b.length - (y + 1))
                  case measure => omega
                  case rel => exact ⟨y + 1, z, x, by go_num, by omega, by omega, rfl, rfl, HN2, belq⟩
                · rw [if_neg hMz] at HN
                  have HN2 := Lib.hid HN
                  clear HN HC HZ
                  go_wp2_with fail
                  go_roundg (b.length - (y + 1))
                  case measure => omega
                  case rel => exact ⟨y + 1, M, T, by go_num, by omega, by omega, rfl, rfl, HN2, belq⟩
            · have g1 : ¬ (x : Int) + (z : Int) < (a.length : Int) := by omega
              have d1 : decide ((x : Int) + (z : Int) < (a.length : Int)) = false := by simpa using g1
              have EZ := run_stop HZ.out (fun h1 _ => absurd h1 hxa)
              go_wp2_with fail
              go_quiet (fail)
              have belq := belk.trans ((below_drewN beln nq).mono belk.size)
              have HN := HC.out.next (by rw [List.length_map]; exact hxt) (by rw [List.length_map]; exact hyt) EZ
              clear EZ
              by_cases hMz : M < z
              · rw [if_pos hMz] at HN
                have HN2 := Lib.hid HN
                clear HN HC HZ
                go_wp2_with fail
                go_roundg (b.length - (y + 1))
                case measure => omega
                case rel => exact ⟨y + 1, z, x, by go_num, by omega, by omega, rfl, rfl, HN2, belq⟩
              · rw [if_neg hMz] at HN
                have HN2 := Lib.hid HN
                clear HN HC HZ
                go_wp2_with fail
                go_roundg (b.length - (y + 1))
                case measure => omega
                case rel => exact ⟨y + 1, M, T, by go_num, by omega, by omega, rfl, rfl, HN2, belq⟩
        · have ey : y = b.length := by omega
          subst ey
          have hgy : ¬ (b.length : Int) < (b.length : Int) := by omega
          have HR := Lib.hid (CP.row (by have h := HC.out; rw [← List.length_map (f := norm)] at h; exact h))
          have bel2 := bel.trans (belk.mono bel.size)
          clear HC
          go_wp2_with fail
          go_roundg (a.length - (x + 1))
          case measure => omega
          case rel => exact ⟨x + 1, M, T, by go_num, by omega, by omega, rfl, rfl, HR, bel2⟩
    · have ex : x = a.length := by omega
      subst ex
      have hgx : ¬ (a.length : Int) < (a.length : Int) := by omega
      have HR := Lib.hid (CP.all (by have h := HC.out; rw [← List.length_map (f := norm)] at h; exact h))
      clear HC
      go_wp2_with fail
      go_ret2
      exact ShO.mk HR.out bel

noncomputable def shN (a b : List (List UInt8)) : Int := if phOk a ∧ phOk b then (com (a.map norm) (b.map norm) : Int) else 0
def shE (a b : List (List UInt8)) : Int := if phOk a ∧ phOk b then 0 else 1
theorem spec_SharedWords (A1 A2 : Option Addr) (c1 c2 : Nat) (a b : List (List UInt8)) (ta : Tame a) (tb : Tame b) (w : World) (r1 : RdS w A1 a) (r2 : RdS w A2 b) :
    Calls Tryd.prog 14 #[.slice A1 a.length c1, .slice A2 b.length c2] w (TwoW (shN a b) (shE a b) w) := by
  by_cases h1 : phOk a
  · have P1 := Lib.hid (spec_phrase A1 c1 a ta true (decide_eq_true h1))
    by_cases h2 : phOk b
    · have P2 := Lib.hid (spec_phrase A2 c2 b tb true (decide_eq_true h2))
      have S := Lib.hid (fun w => spec_shared A1 A2 c1 c2 a b h1 h2 w)
      have HN := Lib.hid (show ∀ M : Nat, Common (a.map norm) (b.map norm) M → (M : Int) = shN a b ∧ 0 = shE a b from fun M h => ⟨by unfold shN; rw [if_pos ⟨h1, h2⟩, com_eq h], (if_pos ⟨h1, h2⟩).symm⟩)
      clear h1 h2 ta tb
      go_enter Tryd.func14, Tryd.ntmps14
      go_wp2_with fail
      refine (P1.out _ r1).mono ?_
      rintro e w1 ⟨rfl, rfl⟩
      go_wp2_with fail
      refine (P2.out _ r2).mono ?_
      rintro e w1 ⟨rfl, rfl⟩
      go_wp2_with fail
      refine (S.out _ r1 r2).mono ?_
      rintro e w1 ⟨M, T, rfl, hc, hb⟩
      have H := Lib.hid (HN.out M hc)
      clear hc HN
      go_wp2_with fail
      go_ret2
      exact ⟨ret_nn H.out.1 H.out.2, hb⟩
    · have P2 := Lib.hid (spec_phrase A2 c2 b tb false (decide_eq_false h2))
      have H := Lib.hid (show 0 = shN a b ∧ 1 = shE a b from ⟨(if_neg (fun h => h2 h.2)).symm, (if_neg (fun h => h2 h.2)).symm⟩)
      clear h1 h2 ta tb
      go_enter Tryd.func14, Tryd.ntmps14
      go_wp2_with fail
      refine (P1.out _ r1).mono ?_
      rintro e w1 ⟨rfl, rfl⟩
      go_wp2_with fail
      refine (P2.out _ r2).mono ?_
      rintro e w1 ⟨rfl, rfl⟩
      go_wp2_with fail
      go_ret2
      exact ⟨ret_nn H.out.1 H.out.2, Below.refl _ _⟩
  · have P1 := Lib.hid (spec_phrase A1 c1 a ta false (decide_eq_false h1))
    have H := Lib.hid (show 0 = shN a b ∧ 1 = shE a b from ⟨(if_neg (fun h => h1 h.1)).symm, (if_neg (fun h => h1 h.1)).symm⟩)
    clear h1 ta tb
    go_enter Tryd.func14, Tryd.ntmps14
    go_wp2_with fail
    refine (P1.out _ r1).mono ?_
    rintro e w1 ⟨rfl, rfl⟩
    go_wp2_with fail
    go_ret2
    exact ⟨ret_nn H.out.1 H.out.2, Below.refl _ _⟩

end Go.Proofs.YtdpbikephjnndaaDoor.Wrd
