/- Texts of a claim in one file: IndM Kinds. -/
import Derived.Test.YtfhcakpmlppbkaaDoorGrpAb
import Derived.Test.YtfhcakpmlppbkaaDoorGrpAl
import Derived.Test.YtfhcakpmlppbkaaDoorGrpAh
import Derived.Test.YtfhcakpmlppbkaaDoorGrpAf
namespace Go.Proofs.YtfhcakpmlppbkaaDoor.Ind
open Go.Proofs.YtfhcakpmlppbkaaDoor.Eas (isY)
open Go.Proofs.YtfhcakpmlppbkaaDoor.Fea (cums ys_old yr yr_in yr_eq yr_isY)

def ind (y : Int) : Int := (y + 2) % 15 + 1
def ep (y : Int) : Int := 11 * (y % 19) % 30
def con (y : Int) : Int := ((Cal.num false y 3 24 + 5) % 7 + 1) % 7 + 1
theorem ind_bd (y : Int) : 1 ≤ ind y ∧ ind y ≤ 15 := by unfold ind; omega
theorem ep_bd (y : Int) : 0 ≤ ep y ∧ ep y ≤ 29 := by unfold ep; omega
theorem con_bd (y : Int) : 1 ≤ con y ∧ con y ≤ 7 := by unfold con; omega
theorem ind_15 (y : Int) : ind (y + 15) = ind y := by unfold ind; omega
theorem ind_1 (y : Int) : ind (y + 1) = ind y % 15 + 1 := by unfold ind; omega

/-- A kind of indiction; the day of September on which its year turns. -/
def isK (k : Int) : Prop := 0 ≤ k ∧ k ≤ 2
instance (k : Int) : Decidable (isK k) := by unfold isK; exact inferInstance
def kdy (k : Int) : Int := if k = 0 then 1 else 24
def trn (k y : Int) : Int := Cal.num false y 9 (kdy k)
/-- The year whose indiction a day has. -/
def onY (k n : Int) : Int := if k ≠ 2 ∧ trn k (yr n) ≤ n then yr n + 1 else yr n
def onI (k n : Int) : Int := ind (onY k n)
theorem kdy_bd (k : Int) : 1 ≤ kdy k ∧ kdy k ≤ 24 := by unfold kdy; split <;> omega
theorem trn_eq (k y : Int) : ∃ v : Int, 0 ≤ v ∧ v ≤ 1 ∧ trn k y = Cal.ys false y + 243 + v + kdy k - 1 ∧ Cal.ys false (y + 1) = Cal.ys false y + 365 + v := by
  have c := (cums y).2.2.2.2.2.1
  have s := Cal.ys_succ false y
  refine ⟨if Cal.lp false y then 1 else 0, ?_, ?_, ?_, ?_⟩
  · split <;> omega
  · split <;> omega
  · unfold trn Cal.num; omega
  · exact s
theorem trn_in (k y : Int) : Cal.ys false y ≤ trn k y ∧ trn k y < Cal.ys false (y + 1) := by
  obtain ⟨v, a, b, c, d⟩ := trn_eq k y
  have := kdy_bd k
  omega
/-- The first and the last day of the days that have the indiction of a year. -/
def yF (k y : Int) : Int := if k = 2 then Cal.num false y 1 1 else trn k (y - 1)
def yT (k y : Int) : Int := if k = 2 then Cal.num false y 12 31 else trn k y - 1
theorem num_1231 (y : Int) : Cal.num false y 12 31 = Cal.ys false (y + 1) - 1 := by
  have c := (cums y).2.2.2.2.2.2.2
  have s := Cal.ys_succ false y
  unfold Cal.num
  omega
theorem num_0101 (y : Int) : Cal.num false y 1 1 = Cal.ys false y := by unfold Cal.num; rw [Cal.cum_one]; omega
theorem yr_of {n y : Int} (h1 : Cal.ys false y ≤ n) (h2 : n < Cal.ys false (y + 1)) : yr n = y := yr_eq h1 h2
/-- A day is in the days of a year just if it has the year's indiction by it. -/
theorem on_iff (k n y : Int) : (yF k y ≤ n ∧ n ≤ yT k y) ↔ onY k n = y := by
  obtain ⟨r1, r2⟩ := yr_in n
  by_cases hk : k = 2
  · have e : onY k n = yr n := if_neg (fun h => h.1 hk)
    rw [e, yF, yT, if_pos hk, if_pos hk, num_0101, num_1231]
    constructor
    · intro h; exact yr_of h.1 (by omega)
    · rintro rfl; omega
  · rw [yF, yT, if_neg hk, if_neg hk]
    have t1 := trn_in k (y - 1)
    have t2 := trn_in k y
    have t3 := trn_in k (yr n)
    have e1 : y - 1 + 1 = y := by omega
    rw [e1] at t1
    by_cases hc : trn k (yr n) ≤ n
    · have e : onY k n = yr n + 1 := if_pos ⟨hk, hc⟩
      rw [e]
      constructor
      · intro h
        rcases Int.lt_trichotomy (yr n + 1) y with g | g | g
        · exfalso
          have := Cal.ys_mono false (yr n + 1) (y - 1) (by omega)
          omega
        · exact g
        · exfalso
          by_cases g2 : yr n = y
          · rw [g2] at hc; omega
          · have := Cal.ys_mono false (y + 1) (yr n) (by omega); omega
      · rintro rfl
        have e2 : yr n + 1 - 1 = yr n := by omega
        rw [e2]
        exact ⟨hc, by omega⟩
    · have e : onY k n = yr n := if_neg (fun h => hc h.2)
      rw [e]
      constructor
      · intro h
        rcases Int.lt_trichotomy (yr n) y with g | g | g
        · exfalso
          by_cases g2 : yr n = y - 1
          · rw [g2] at hc; omega
          · have := Cal.ys_mono false (yr n + 1) (y - 1) (by omega); omega
        · exact g
        · exfalso
          have := Cal.ys_mono false (y + 1) (yr n) (by omega)
          omega
      · rintro rfl
        omega
theorem onY_bd (k n : Int) : yr n ≤ onY k n ∧ onY k n ≤ yr n + 1 := by unfold onY; split <;> omega

/-! ### answers -/
def yE (y : Int) : Int := if isY y then 0 else 2
def ifN (y : Int) : Int := if isY y then ind y else 0
def epN (y : Int) : Int := if isY y then ep y else 0
def coN (y : Int) : Int := if isY y then con y else 0
def ioOk (k n : Int) : Prop := isK k ∧ 0 ≤ n ∧ n ≤ 730499
instance (k n : Int) : Decidable (ioOk k n) := by unfold ioOk; exact inferInstance
def ioN (k n : Int) : Int := if ioOk k n then onI k n else 0
def ioE (k n : Int) : Int := if ioOk k n then 0 else 2

/-! ### days with an indiction -/
def sp (k i f t y : Int) : Sets.L := if ind y = i ∧ max f (yF k y) ≤ min t (yT k y) then [(max f (yF k y), min t (yT k y))] else []
def ids (k i f t Y0 : Int) : Nat → Sets.L
  | 0 => []
  | j + 1 => ids k i f t Y0 j ++ sp k i f t (Y0 + j)
theorem ids_len (k i f t Y0 : Int) (j : Nat) : (ids k i f t Y0 j).length ≤ j := by
  induction j with
  | zero => simp [ids]
  | succ j ih => simp only [ids, sp, List.length_append]; split <;> simp <;> omega
theorem ids_ok {k i f t Y0 : Int} (h0 : 0 ≤ f) (h1 : t ≤ 730499) (j : Nat) : ∀ s ∈ ids k i f t Y0 j, Sets.ok s := by
  induction j with
  | zero => simp [ids]
  | succ j ih =>
    intro s hs
    rcases List.mem_append.1 hs with h | h
    · exact ih s h
    · unfold sp at h
      split at h
      · rename_i e
        simp at h
        subst h
        unfold Sets.ok
        simp only
        omega
      · simp at h
theorem ids_has {k i f t Y0 : Int} (j : Nat) (n : Int) : Sets.has (ids k i f t Y0 j) n ↔ f ≤ n ∧ n ≤ t ∧ ∃ a : Nat, a < j ∧ ind (Y0 + a) = i ∧ onY k n = Y0 + a := by
  induction j with
  | zero => simp [ids, Sets.has]
  | succ j ih =>
    have e : Sets.has (ids k i f t Y0 (j + 1)) n ↔ Sets.has (ids k i f t Y0 j) n ∨ Sets.has (sp k i f t (Y0 + j)) n := by
      simp only [ids, Sets.has, List.mem_append, or_and_right, exists_or]
    have e2 : Sets.has (sp k i f t (Y0 + j)) n ↔ f ≤ n ∧ n ≤ t ∧ ind (Y0 + j) = i ∧ onY k n = Y0 + j := by
      rw [← on_iff k n (Y0 + j)]
      unfold sp
      split
      · rename_i g
        simp [Sets.has]
        omega
      · rename_i g
        simp [Sets.has]
        omega
    rw [e, ih, e2]
    constructor
    · rintro (⟨h1, h2, a, h3, h4⟩ | ⟨h1, h2, h3, h4⟩)
      · exact ⟨h1, h2, a, by omega, h4⟩
      · exact ⟨h1, h2, j, by omega, h3, h4⟩
    · rintro ⟨h1, h2, a, h3, h4, h5⟩
      by_cases e : a < j
      · exact .inl ⟨h1, h2, a, e, h4, h5⟩
      · have : a = j := by omega
        subst this
        exact .inr ⟨h1, h2, h4, h5⟩
def idOk (k i f t : Int) : Prop := isK k ∧ (1 ≤ i ∧ i ≤ 15) ∧ (0 ≤ f ∧ f ≤ 730499) ∧ f ≤ t ∧ t ≤ min 730499 (f + 40000)
instance (k i f t : Int) : Decidable (idOk k i f t) := by unfold idOk; exact inferInstance
/-- How many years are looked at. -/
def idN (f t : Int) : Nat := (yr t + 2 - yr f).toNat
def idS (k i f t : Int) : Sets.L := Sets.make (ids k i f t (yr f) (idN f t))
def idL (k i f t : Int) : Sets.L := if idOk k i f t then idS k i f t else []
def idE (k i f t : Int) : Int := if idOk k i f t then 0 else 2
theorem yr_le {a b : Int} (h : a ≤ b) : yr a ≤ yr b := by unfold yr; omega
theorem idS_has {k i f t : Int} (h0 : 0 ≤ f) (h1 : t ≤ 730499) (n : Int) : Sets.has (idS k i f t) n ↔ f ≤ n ∧ n ≤ t ∧ onI k n = i := by
  rw [idS, Sets.make_has (ids_ok h0 h1 _), ids_has]
  constructor
  · rintro ⟨a, b, j, c, d, e⟩
    exact ⟨a, b, by rw [onI, e, d]⟩
  · rintro ⟨a, b, c⟩
    have p := yr_le a
    have q := yr_le b
    have r := onY_bd k n
    refine ⟨a, b, (onY k n - yr f).toNat, by unfold idN; omega, ?_, by omega⟩
    rw [show yr f + (((onY k n - yr f).toNat : Nat) : Int) = onY k n by omega]
    exact c
theorem idS_nf {k i f t : Int} (h0 : 0 ≤ f) (h1 : t ≤ 730499) : Sets.NF 0 (idS k i f t) := Sets.make_nf (ids_ok h0 h1 _)
/-- Whatever list in normal form has just these days is the answer. -/
theorem idS_uniq {k i f t lo : Int} (h0 : 0 ≤ f) (h1 : t ≤ 730499) {ys : Sets.L} (hn : Sets.NF lo ys) (hh : ∀ n, Sets.has ys n ↔ f ≤ n ∧ n ≤ t ∧ onI k n = i) : ys = idS k i f t :=
  Sets.nf_unique hn (idS_nf h0 h1) fun n => (hh n).trans (idS_has h0 h1 n).symm

/-! ### years with a mark -/
def mkOk (a e c : Int) : Prop := (0 ≤ a ∧ a ≤ 15) ∧ (-1 ≤ e ∧ e ≤ 29) ∧ (0 ≤ c ∧ c ≤ 7)
instance (a e c : Int) : Decidable (mkOk a e c) := by unfold mkOk; exact inferInstance
def fits (a e c y : Int) : Prop := (a = 0 ∨ a = ind y) ∧ (e < 0 ∨ e = ep y) ∧ (c = 0 ∨ c = con y)
instance (a e c y : Int) : Decidable (fits a e c y) := by unfold fits; exact inferInstance
def ym (a e c f : Int) : Nat → List Int
  | 0 => []
  | j + 1 => ym a e c f j ++ (if fits a e c (f + j) then [f + j] else [])
theorem ym_len (a e c f : Int) (j : Nat) : (ym a e c f j).length ≤ j := by
  induction j with
  | zero => simp [ym]
  | succ j ih => simp only [ym, List.length_append]; split <;> simp <;> omega
theorem ym_mem (a e c f : Int) (j : Nat) (x : Int) : x ∈ ym a e c f j ↔ f ≤ x ∧ x < f + j ∧ fits a e c x := by
  induction j with
  | zero => simp [ym]; omega
  | succ j ih =>
    rw [ym, List.mem_append, ih]
    constructor
    · rintro (h | h)
      · exact ⟨h.1, by omega, h.2.2⟩
      · split at h
        · simp at h; subst h; rename_i g; exact ⟨by omega, by omega, g⟩
        · simp at h
    · rintro ⟨h0, h1, h2⟩
      by_cases g : x < f + j
      · exact .inl ⟨h0, g, h2⟩
      · have : x = f + j := by omega
        subst this
        exact .inr (by rw [if_pos h2]; simp)
def ymR (f t : Int) : Prop := isY f ∧ f ≤ t ∧ t ≤ min 2000 (f + 600)
instance (f t : Int) : Decidable (ymR f t) := by unfold ymR; exact inferInstance
def ymL (a e c f t : Int) : List Int := if mkOk a e c ∧ ymR f t then ym a e c f (t + 1 - f).toNat else []
def ymE (a e c f t : Int) : Int := if ¬ mkOk a e c then 1 else if ymR f t then 0 else 2
theorem ym_one (y : Int) : ym (ind y) (ep y) (con y) y 1 = [y] := by simp [ym, fits]
theorem mk_own (y : Int) : mkOk (ind y) (ep y) (con y) := by
  have a := ind_bd y
  have b := ep_bd y
  have c := con_bd y
  unfold mkOk
  omega

end Go.Proofs.YtfhcakpmlppbkaaDoor.Ind

namespace Go.Proofs.YtfhcakpmlppbkaaDoor

namespace Fea
open Go.RowKit
open Go.Proofs.YtfhcakpmlppbkaaDoor.Eas (isY It)

end Fea

namespace Ind
open Go.RowKit

end Ind

namespace Rei
open Go.RowKit


/-- A name: 1 to most small letters. -/
def nmOk (s : ByteArray) (most : Int) : Prop := (∀ i (h : i < s.size), 97 ≤ s[i].toNat ∧ s[i].toNat ≤ 122) ∧ 1 ≤ s.size ∧ (s.size : Int) ≤ most
instance (s : ByteArray) (most : Int) : Decidable (nmOk s most) := by unfold nmOk; exact inferInstance
theorem spec_name (s : ByteArray) (most : Int) (hs : s.size ≤ maxLen) (b : Bool) (h : decide (nmOk s most) = b) (w : World) : Calls Tryd.prog 60 #[.string s, .int .i64 most] w fun e w' => e = .returned (.bool b) ∧ w = w' := by
  have HB := Lib.hid h
  clear h
  unfold maxLen at hs
  go_enter Tryd.func60, Tryd.ntmps60
  go_wp2_with fail
  go_loopg [5] s.size (fun m i wr => ∃ k : Nat, k ≤ s.size ∧ m = s.size - k ∧ i = .int .i64 k ∧ Hid (∀ j (h : j < s.size), j < k → 97 ≤ s[j].toNat ∧ s[j].toNat ≤ 122) ∧ w = wr)
  case atStart => exact ⟨0, by omega, by omega, rfl, Lib.hid (fun j h hj => by omega), rfl⟩
  case round =>
    obtain ⟨k, hk, hm, rfl, HK, rfl⟩ := hrel
    subst hm
    by_cases hlt : k < s.size
    · have hgo : (k : Int) < (s.size : Int) := by omega
      by_cases h1 : 97 ≤ s[k].toNat
      · by_cases h2 : s[k].toNat ≤ 122
        · have HN : Hid (∀ j (h : j < s.size), j < k + 1 → 97 ≤ s[j].toNat ∧ s[j].toNat ≤ 122) := Lib.hid fun j h hj => by
            by_cases e : j = k
            · subst e; exact ⟨h1, h2⟩
            · exact HK.out j h (by omega)
          have d1 : (97 : Int) ≤ (s[k].toNat : Int) := by omega
          have d2 : (s[k].toNat : Int) ≤ 122 := by omega
          clear HK HB h1 h2
          obtain ⟨c, hgs⟩ : ∃ c, s[k]'hlt = c := ⟨_, rfl⟩
          rw [hgs] at d1 d2
          go_wp2_with fail
          go_roundg (s.size - (k + 1))
          case measure => omega
          case rel => exact ⟨k + 1, by omega, by omega, by go_num, HN, rfl⟩
        · have hb : b = false := by rw [← HB.out]; exact decide_eq_false fun h => h2 (h.1 k hlt).2
          have d1 : (97 : Int) ≤ (s[k].toNat : Int) := by omega
          have d2 : (122 : Int) < (s[k].toNat : Int) := by omega
          subst hb
          clear HK HB h1 h2
          obtain ⟨c, hgs⟩ : ∃ c, s[k]'hlt = c := ⟨_, rfl⟩
          rw [hgs] at d1 d2
          go_wp2_with fail
          go_ret
          exact ⟨rfl, rfl⟩
      · have hb : b = false := by rw [← HB.out]; exact decide_eq_false fun h => h1 (h.1 k hlt).1
        have d1 : (s[k].toNat : Int) < 97 := by omega
        subst hb
        clear HK HB h1
        obtain ⟨c, hgs⟩ : ∃ c, s[k]'hlt = c := ⟨_, rfl⟩
        rw [hgs] at d1
        go_wp2_with fail
        go_ret
        exact ⟨rfl, rfl⟩
    · have hge : (s.size : Int) ≤ k := by omega
      have HE : Hid (b = decide (1 ≤ (s.size : Int) ∧ (s.size : Int) ≤ most)) := Lib.hid (by
        rw [← HB.out]
        apply decide_eq_decide.2
        constructor
        · intro h; exact ⟨by have := h.2.1; omega, h.2.2⟩
        · intro h; exact ⟨fun i hi => HK.out i hi (by omega), by omega, h.2⟩)
      clear HK HB
      by_cases h1 : 1 ≤ (s.size : Int)
      · by_cases h2 : (s.size : Int) ≤ most
        · have hb : b = true := by rw [HE.out]; exact decide_eq_true ⟨h1, h2⟩
          subst hb
          go_wp2_with fail
          go_ret
          exact ⟨rfl, rfl⟩
        · have hb : b = false := by rw [HE.out]; exact decide_eq_false fun h => h2 h.2
          have h2' : decide ((s.size : Int) ≤ most) = false := by simpa using h2
          subst hb
          go_wp2_with fail
          go_ret
          exact ⟨rfl, rfl⟩
      · have hb : b = false := by rw [HE.out]; exact decide_eq_false fun h => h1 h.1
        have h1' : decide (1 ≤ (s.size : Int)) = false := by simpa using h1
        subst hb
        go_wp2_with fail
        go_ret
        exact ⟨rfl, rfl⟩

end Rei

end Go.Proofs.YtfhcakpmlppbkaaDoor
