/- The walks of the exact laws on words and phrases: made by gen_laws.py. -/
import Derived.Test.YtdpbikephjnndaaWrdG
import Derived.Test.YtdpbikephjnndaaStrR
import Derived.Test.YtdpbikephjnndaaWrdI
namespace Go.Proofs.Ytdpbikephjnndaa.Wrd
open Go.RowKit

theorem as_str (s : ByteArray) : ∃ l, s = str l := ⟨s.data.toList, by simp [str]⟩

theorem walk_FnExactNormalWord (s : ByteArray) (hs : s.size ≤ maxLen) (w : World) : Calls Try.prog 5 #[.string s] w (Bl true w) := by
  obtain ⟨ls, rfl⟩ := as_str s
  have szs := str_size ls
  unfold maxLen at hs
  by_cases bs : (1048576 : Int) < (ls.length : Int)
  · go_enter Try.func5, Try.ntmps5
    go_wp2_with fail
    go_ret
    exact ⟨rfl, Below.refl _ _⟩
  · have A := Lib.hid (fun w => spec_NormalWord ls (by omega) w)
    have B := Lib.hid (fun w => impl_NormalWord ls (by omega) w)
    generalize nwL ls = V at A B
    generalize wE ls = E at A B
    have sv := str_toList V
    go_enter Try.func5, Try.ntmps5
    go_wp2_with fail
    refine (A.out _).mono ?_
    rintro e w1 ⟨rfl, hb⟩
    go_wp2_with fail
    refine (B.out _).mono ?_
    rintro e w2 ⟨rfl, hb2⟩
    go_wp2_with fail
    go_ret
    exact ⟨rfl, hb.trans (hb2.mono hb.size)⟩

theorem walk_FnExactWordDistance (a : ByteArray) (ha : a.size ≤ maxLen) (b : ByteArray) (hb : b.size ≤ maxLen) (w : World) : Calls Try.prog 6 #[.string a, .string b] w (Bl true w) := by
  obtain ⟨la, rfl⟩ := as_str a
  have sza := str_size la
  unfold maxLen at ha
  obtain ⟨lb, rfl⟩ := as_str b
  have szb := str_size lb
  unfold maxLen at hb
  by_cases ba : (1048576 : Int) < (la.length : Int)
  · go_enter Try.func6, Try.ntmps6
    go_wp2_with fail
    go_ret
    exact ⟨rfl, Below.refl _ _⟩
  · have qa := ba
    by_cases bb : (1048576 : Int) < (lb.length : Int)
    · go_enter Try.func6, Try.ntmps6
      go_wp2_with fail
      go_ret
      exact ⟨rfl, Below.refl _ _⟩
    · have A := Lib.hid (fun w => spec_WordDistance la lb (by omega) (by omega) w)
      have B := Lib.hid (fun w => impl_WordDistance la lb (by omega) (by omega) w)
      generalize wdN la lb = V at A B
      generalize wwE la lb = E at A B
      go_enter Try.func6, Try.ntmps6
      go_wp2_with fail
      refine (A.out _).mono ?_
      rintro e w1 ⟨rfl, hb⟩
      go_wp2_with fail
      refine (B.out _).mono ?_
      rintro e w2 ⟨rfl, hb2⟩
      go_wp2_with fail
      go_ret
      exact ⟨rfl, hb.trans (hb2.mono hb.size)⟩

theorem walk_FnExactAreAlike (a : ByteArray) (ha : a.size ≤ maxLen) (b : ByteArray) (hb : b.size ≤ maxLen) (w : World) : Calls Try.prog 7 #[.string a, .string b] w (Bl true w) := by
  obtain ⟨la, rfl⟩ := as_str a
  have sza := str_size la
  unfold maxLen at ha
  obtain ⟨lb, rfl⟩ := as_str b
  have szb := str_size lb
  unfold maxLen at hb
  by_cases ba : (1048576 : Int) < (la.length : Int)
  · go_enter Try.func7, Try.ntmps7
    go_wp2_with fail
    go_ret
    exact ⟨rfl, Below.refl _ _⟩
  · have qa := ba
    by_cases bb : (1048576 : Int) < (lb.length : Int)
    · go_enter Try.func7, Try.ntmps7
      go_wp2_with fail
      go_ret
      exact ⟨rfl, Below.refl _ _⟩
    · have A := Lib.hid (fun w => spec_AreAlike la lb (by omega) (by omega) w)
      have B := Lib.hid (fun w => impl_AreAlike la lb (by omega) (by omega) w)
      generalize alB la lb = V at A B
      generalize wwE la lb = E at A B
      go_enter Try.func7, Try.ntmps7
      go_wp2_with fail
      refine (A.out _).mono ?_
      rintro e w1 ⟨rfl, hb⟩
      go_wp2_with fail
      refine (B.out _).mono ?_
      rintro e w2 ⟨rfl, hb2⟩
      go_wp2_with fail
      go_ret
      exact ⟨rfl, hb.trans (hb2.mono hb.size)⟩

theorem walk_FnExactIsWord (s : ByteArray) (hs : s.size ≤ maxLen) (w : World) : Calls Try.prog 4 #[.string s] w (Bl true w) := by
  obtain ⟨ls, rfl⟩ := as_str s
  have szs := str_size ls
  unfold maxLen at hs
  by_cases bs : (1048576 : Int) < (ls.length : Int)
  · go_enter Try.func4, Try.ntmps4
    go_wp2_with fail
    go_ret
    exact ⟨rfl, Below.refl _ _⟩
  · obtain ⟨b, hb⟩ : ∃ b, decide (isW ls) = b := ⟨_, rfl⟩
    have A := Lib.hid (fun w => spec_IsWord ls (by omega) b hb w)
    have B := Lib.hid (fun w => impl_IsWord ls (by omega) b hb w)
    clear hb
    cases b
    all_goals
      go_enter Try.func4, Try.ntmps4
      go_wp2_with fail
      refine (A.out _).mono ?_
      rintro e w1 ⟨rfl, rfl⟩
      go_wp2_with fail
      refine (B.out _).mono ?_
      rintro e w2 ⟨rfl, hb⟩
      go_wp2_with fail
      go_ret
      exact ⟨rfl, hb⟩

/-- An opened list of texts. -/
def LsOk (ps : List (List UInt8)) (len : Nat) : Prop := ps.length = len ∧ len ≤ maxLen ∧ ∀ p ∈ ps, p.length ≤ maxLen

set_option maxHeartbeats 2000000 in
theorem walk_FnExactPhraseText (A : Option Addr) (len cap : Nat) (ps : List (List UInt8)) (g : LsOk ps len) (w : World) (h : RdS w A ps) : Calls Try.prog 9 #[.slice A len cap] w (Bl true w) := by
  obtain ⟨rfl, hn, hs⟩ := g
  have Z := Lib.hid (laws_szS A cap ps hn hs 1048576 (by omega) (by omega) w h)
  clear hs
  unfold maxLen at hn
  go_enter Try.func9, Try.ntmps9
  go_wp2_with fail
  refine Z.out.mono ?_
  rintro e w1 ⟨r, rfl, r0, r1, HR, rfl⟩
  by_cases hr : r < 0
  · clear HR
    go_wp2_with fail
    go_ret
    exact ⟨rfl, Below.refl _ _⟩
  · have hsh := HR (by omega)
    have S := Lib.hid (fun A c w r => spec_PhraseText A c ps hsh.tame w r)
    have I := Lib.hid (fun A w r => impl_PhraseText A ps.length ps hsh.tame (Nat.le_refl _) w r)
    have h2 : ps.length ≤ 2000000 := by have := hsh.1; omega
    clear HR Z hsh
    generalize ptL ps = V at S I
    generalize ptE ps = E at S I
    have sv := str_toList V
    go_wp2_with fail
    refine (laws_toS A cap ps h2 _ h).mono ?_
    rintro e w2 ⟨A2, rfl, R2, b2⟩
    have h := h.below b2
    go_wp2_with fail
    refine (S.out _ _ _ R2.rd).mono ?_
    rintro e w3 ⟨rfl, b3⟩
    have h := h.below b3
    have k3 := b2.trans (b3.mono b2.size)
    clear R2 b2 b3
    go_wp2_with fail
    refine (laws_toS A cap ps h2 _ h).mono ?_
    rintro e w4 ⟨A4, rfl, R4, b4⟩
    have h := h.below b4
    have k4 := k3.trans (b4.mono k3.size)
    clear b4 k3
    go_wp2_with fail
    refine (I.out _ _ R4.rd).mono ?_
    rintro e w5 ⟨rfl, b5⟩
    have h := h.below b5
    have R5 := R4.below b5
    have k5 := k4.trans (b5.mono k4.size)
    clear R4 b5 k4
    go_wp2_with fail
    refine (laws_toS A cap ps h2 _ h).mono ?_
    rintro e w6 ⟨A6, rfl, R6, b6⟩
    have R7 := R5.below b6
    have k6 := k5.trans (b6.mono k5.size)
    clear R5 b6 k5
    go_wp2_with fail
    refine (laws_eqS A4 A6 _ _ ps h2 _ R7.rd R6.rd).mono ?_
    rintro e w7 ⟨rfl, b7⟩
    go_wp2_with fail
    go_ret
    exact ⟨rfl, k6.trans (b7.mono k6.size)⟩

set_option maxHeartbeats 2000000 in
theorem walk_FnExactNearestWord (s : ByteArray) (hs0 : s.size ≤ maxLen) (A : Option Addr) (len cap : Nat) (ps : List (List UInt8)) (g : LsOk ps len) (m : Int) (_hm : (Lit.int .i64 m).wf = true) (w : World) (h : RdS w A ps) : Calls Try.prog 8 #[.string s, .slice A len cap, .int .i64 m] w (Bl true w) := by
  obtain ⟨ls, rfl⟩ := as_str s
  have szs := str_size ls
  unfold maxLen at hs0
  obtain ⟨rfl, hn, hs⟩ := g
  have Z := Lib.hid (laws_szS A cap ps hn hs 1048576 (by omega) (by omega) w h)
  clear hs _hm
  unfold maxLen at hn
  by_cases bs : (1048576 : Int) < (ls.length : Int)
  · go_enter Try.func8, Try.ntmps8
    go_wp2_with fail
    go_ret
    exact ⟨rfl, Below.refl _ _⟩
  · have h9 : ls.length ≤ 2000000 := by omega
    go_enter Try.func8, Try.ntmps8
    go_wp2_with fail
    refine Z.out.mono ?_
    rintro e w1 ⟨r, rfl, r0, r1, HR, rfl⟩
    by_cases hr : r < 0
    · clear HR
      go_wp2_with fail
      go_ret
      exact ⟨rfl, Below.refl _ _⟩
    · have hsh := HR (by omega)
      have S := Lib.hid (fun A c w r => spec_NearestWord ls h9 A c ps hsh.tame m w r)
      have I := Lib.hid (fun A c w r => impl_NearestWord ls h9 A c ps hsh.tame m w r)
      have h2 : ps.length ≤ 2000000 := by have := hsh.1; omega
      clear HR Z hsh
      generalize nI ls ps m = V1 at S I
      generalize nD ls ps m = V2 at S I
      generalize nE ls ps m = E at S I
      go_wp2_with fail
      refine (laws_toS A cap ps h2 _ h).mono ?_
      rintro e w2 ⟨A2, rfl, R2, b2⟩
      have h := h.below b2
      go_wp2_with fail
      refine (S.out _ _ _ R2.rd).mono ?_
      rintro e w3 ⟨rfl, b3⟩
      have h := h.below b3
      have k3 := b2.trans (b3.mono b2.size)
      clear R2 b2 b3
      go_wp2_with fail
      refine (laws_toS A cap ps h2 _ h).mono ?_
      rintro e w4 ⟨A4, rfl, R4, b4⟩
      have h := h.below b4
      have k4 := k3.trans (b4.mono k3.size)
      clear b4 k3
      go_wp2_with fail
      refine (I.out _ _ _ R4.rd).mono ?_
      rintro e w5 ⟨rfl, b5⟩
      have h := h.below b5
      have R5 := R4.below b5
      have k5 := k4.trans (b5.mono k4.size)
      clear R4 b5 k4
      go_wp2_with fail
      refine (laws_toS A cap ps h2 _ h).mono ?_
      rintro e w6 ⟨A6, rfl, R6, b6⟩
      have R7 := R5.below b6
      have k6 := k5.trans (b6.mono k5.size)
      clear R5 b6 k5
      go_wp2_with fail
      refine (laws_eqS A4 A6 _ _ ps h2 _ R7.rd R6.rd).mono ?_
      rintro e w7 ⟨rfl, b7⟩
      go_wp2_with fail
      go_ret
      exact ⟨rfl, k6.trans (b7.mono k6.size)⟩


theorem TextsE.row {ps : List (List UInt8)} {E : Int} {w w' : World} {e : Ending} (h : TextsE ps E w e w') : ∃ A c, e = .returned (.tuple #[.slice A ps.length c, .int .i64 E]) ∧ RowS w' w.heap.size w'.heap.size A ps ∧ Below w.heap.size w w' := by
  obtain ⟨v, rfl, own, hb⟩ := h
  obtain ⟨A, c, rfl, -, -⟩ := own_rdS own
  exact ⟨A, c, rfl, own_row own, hb⟩
theorem sp_len {l : List UInt8} (_h : l.length ≤ 1048576) : (spL l).length ≤ 2000000 := by
  unfold spL
  split
  · simp
  · split
    · rename_i q; have := q.2; omega
    · simp

set_option maxHeartbeats 2000000 in
theorem walk_FnExactSharedWords (A : Option Addr) (len cap : Nat) (ps : List (List UInt8)) (g : LsOk ps len) (B : Option Addr) (len2 cap2 : Nat) (qs : List (List UInt8)) (g2 : LsOk qs len2) (w : World) (h : RdS w A ps) (hB : RdS w B qs) : Calls Try.prog 10 #[.slice A len cap, .slice B len2 cap2] w (Bl true w) := by
  obtain ⟨rfl, hn, hs⟩ := g
  obtain ⟨rfl, hn2, hs2⟩ := g2
  have Z := Lib.hid (laws_szS A cap ps hn hs 1048576 (by omega) (by omega) w h)
  have Z2 := Lib.hid (fun l h0 h1 => laws_szS B cap2 qs hn2 hs2 l h0 h1 w hB)
  clear hs hs2
  unfold maxLen at hn hn2
  go_enter Try.func10, Try.ntmps10
  go_wp2_with fail
  refine Z.out.mono ?_
  rintro e w1 ⟨r, rfl, r0, r1, HR, rfl⟩
  by_cases hr : r < 0
  · clear HR
    go_wp2_with fail
    go_ret
    exact ⟨rfl, Below.refl _ _⟩
  · have hsh := HR (by omega)
    clear HR Z
    have Z3 := Lib.hid (Z2.out r (by omega) r1)
    clear Z2
    go_wp2_with fail
    refine Z3.out.mono ?_
    rintro e w1 ⟨t, rfl, t0, t1, HT, rfl⟩
    by_cases ht : t < 0
    · clear HT
      go_wp2_with fail
      go_ret
      exact ⟨rfl, Below.refl _ _⟩
    · have hsh2 := HT (by omega)
      clear HT Z3
      have S := Lib.hid (fun A1 A2 c1 c2 w r1 r2 => spec_SharedWords A1 A2 c1 c2 ps qs hsh.tame hsh2.tame w r1 r2)
      have I := Lib.hid (fun A1 A2 c1 c2 w r1 r2 => impl_SharedWords A1 A2 c1 c2 ps qs hsh.tame hsh2.tame w r1 r2)
      have h2 : ps.length ≤ 2000000 := by have := hsh.1; omega
      have h3 : qs.length ≤ 2000000 := by have := hsh2.1; omega
      clear hsh hsh2
      generalize shN ps qs = V at S I
      generalize shE ps qs = E at S I
      go_wp2_with fail
      refine (laws_toS A cap ps h2 _ h).mono ?_
      rintro e w2 ⟨A2, rfl, R2, b2⟩
      have h := h.below b2
      have hB := hB.below b2
      go_wp2_with fail
      refine (laws_toS B cap2 qs h3 _ hB).mono ?_
      rintro e w3 ⟨A3, rfl, R3, b3⟩
      have h := h.below b3
      have hB := hB.below b3
      have R2 := R2.below b3
      have k3 := b2.trans (b3.mono b2.size)
      clear b2 b3
      go_wp2_with fail
      refine (S.out _ _ _ _ _ R2.rd R3.rd).mono ?_
      rintro e w4 ⟨rfl, b4⟩
      have h := h.below b4
      have hB := hB.below b4
      have k4 := k3.trans (b4.mono k3.size)
      clear R2 R3 b4 k3
      go_wp2_with fail
      refine (laws_toS A cap ps h2 _ h).mono ?_
      rintro e w5 ⟨A5, rfl, R5, b5⟩
      have h := h.below b5
      have hB := hB.below b5
      have k5 := k4.trans (b5.mono k4.size)
      clear b5 k4
      go_wp2_with fail
      refine (laws_toS B cap2 qs h3 _ hB).mono ?_
      rintro e w6 ⟨A6, rfl, R6, b6⟩
      have h := h.below b6
      have hB := hB.below b6
      have R5 := R5.below b6
      have k6 := k5.trans (b6.mono k5.size)
      clear b6 k5
      go_wp2_with fail
      refine (I.out _ _ _ _ _ R5.rd R6.rd).mono ?_
      rintro e w7 ⟨rfl, b7⟩
      have h := h.below b7
      have hB := hB.below b7
      have R5 := R5.below b7
      have R6 := R6.below b7
      have k7 := k6.trans (b7.mono k6.size)
      clear b7 k6
      go_wp2_with fail
      refine (laws_toS A cap ps h2 _ h).mono ?_
      rintro e w8 ⟨A8, rfl, R8, b8⟩
      have hB := hB.below b8
      have R5 := R5.below b8
      have R6 := R6.below b8
      have k8 := k7.trans (b8.mono k7.size)
      clear b8 k7
      go_wp2_with fail
      refine (laws_eqS A5 A8 _ _ ps h2 _ R5.rd R8.rd).mono ?_
      rintro e w9 ⟨rfl, b9⟩
      have hB := hB.below b9
      have R6 := R6.below b9
      have k9 := k8.trans (b9.mono k8.size)
      clear b9 k8 R5 R8
      go_wp2_with fail
      refine (laws_toS B cap2 qs h3 _ hB).mono ?_
      rintro e wa ⟨Aa, rfl, Ra, ba⟩
      have R6 := R6.below ba
      have ka := k9.trans (ba.mono k9.size)
      clear ba k9
      go_wp2_with fail
      refine (laws_eqS A6 Aa _ _ qs h3 _ R6.rd Ra.rd).mono ?_
      rintro e wb ⟨rfl, bb⟩
      go_wp2_with fail
      go_ret
      exact ⟨rfl, ka.trans (bb.mono ka.size)⟩


end Go.Proofs.Ytdpbikephjnndaa.Wrd
