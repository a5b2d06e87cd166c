/- A text as bytes that are written to; contracts of spec's plain form of a word and of OldNumeral. -/
import Derived.Test.YtiimoejjokfkfaaDoorNumB
import Derived.Laws.IdiomStrings
namespace Go.Proofs.YtiimoejjokfkfaaDoor.Num
open Go.RowKit

/-- The bytes of a block that can be written to. -/
structure Byt (w : World) (b : Nat) (l : List UInt8) : Prop where
  cell : ∀ j (h : j < l.length), w.cell? ⟨b, j, none⟩ = some (.int .u8 (l[j].toNat : Int))
  cold : ∀ j, j < l.length → w.frozen? ⟨b, j, none⟩ = false
theorem Byt.set {w : World} {b : Nat} {l : List UInt8} (h : Byt w b l) (k : Nat) (hk : k < l.length) (c : UInt8) : Byt (w.setCell ⟨b, k, none⟩ (.int .u8 (c.toNat : Int))) b (l.set k c) := by
  refine ⟨fun j hj => ?_, fun j hj => ?_⟩
  · by_cases e : k = j
    · subst e
      rw [World.cell?_setCell_same _ _ _ (h.cell k hk)]
      simp
    · rw [World.cell?_setCell_other _ _ _ _ (by intro he; injection he with h1 h2 h3; exact e h2), h.cell j (by simpa using hj)]
      simp [List.getElem_set_ne e]
  · rw [World.frozen?_setCell]
    exact h.cold j (by simpa using hj)
theorem Byt.new (w : World) (l : List UInt8) (cap : Nat) (e : TypeId) (wd : World) (hd : wd.heap.size = w.heap.size) :
    Byt (wd.alloc (.cells (bytesRow (str l) cap) e ((bytesRow (str l) cap).size, (bytesRow (str l) cap).size + 1))) w.heap.size l := by
  have hs : (str l).data.size = l.length := by simp [str]
  refine ⟨fun j hj => ?_, fun j hj => ?_⟩
  · rw [← hd, World.cell?_alloc_mark, bytesRow_at (str l) cap j (by rw [hs]; exact hj)]
    simp [str]
  · rw [← hd, World.frozen?_alloc_mark]
    have : j < (bytesRow (str l) cap).size := by
      unfold bytesRow
      rw [Array.size_append, Array.size_map, hs]
      omega
    simp
    omega

/-- The first letters of P, then those of l. -/
def mixL (l P : List UInt8) (k : Nat) : List UInt8 := P.take k ++ l.drop k
theorem mix_0 (l P : List UInt8) : mixL l P 0 = l := by simp [mixL]
theorem mix_all (l P : List UInt8) (h : P.length = l.length) : mixL l P l.length = P := by simp [mixL, ← h]
theorem mix_len {l P : List UInt8} {k : Nat} (h : P.length = l.length) (hk : k ≤ l.length) : (mixL l P k).length = l.length := by simp [mixL]; omega
theorem at_of {P : List UInt8} {k : Nat} {c : UInt8} (hk : k < P.length) (hc : P[k]? = some c) : P[k] = c := by
  rw [List.getElem?_eq_getElem hk] at hc
  injection hc
theorem mix_get {l P : List UInt8} {k : Nat} (h : P.length = l.length) (hk : k < l.length) : (mixL l P k)[k]'(by rw [mix_len h (by omega)]; exact hk) = l[k] := by
  unfold mixL
  rw [List.getElem_append_right (by rw [List.length_take]; omega)]
  simp [show min k P.length = k by omega]
theorem mix_set {l P : List UInt8} {k : Nat} {c : UInt8} (h : P.length = l.length) (hk : k < l.length) (hc : P[k]? = some c) : (mixL l P k).set k c = mixL l P (k + 1) := by
  have hc' := at_of (by omega) hc
  subst hc'
  unfold mixL
  rw [List.set_append_right _ _ (by rw [List.length_take]; omega), show k - (P.take k).length = 0 by rw [List.length_take]; omega, List.drop_eq_getElem_cons hk, List.set_cons_zero, List.take_succ_eq_append_getElem (by omega), List.append_assoc]
  rfl
theorem mix_same {l P : List UInt8} {k : Nat} (h : P.length = l.length) (hk : k < l.length) (hc : P[k]? = some l[k]) : mixL l P k = mixL l P (k + 1) := by
  have hc' := at_of (by omega) hc
  unfold mixL
  rw [List.take_succ_eq_append_getElem (by omega), hc', List.drop_eq_getElem_cons hk]
  simp

theorem last_len (a b : UInt8) : ∀ l : List UInt8, (last a b l).length = l.length
  | [] => rfl
  | [c] => rfl
  | c :: d :: r => by
    show (c :: last a b (d :: r)).length = _
    rw [List.length_cons, last_len a b (d :: r)]
    rfl
theorem last_get (a b : UInt8) : ∀ (l : List UInt8) (k : Nat) (h : k < l.length), (last a b l)[k]'(by rw [last_len]; exact h) = if k + 1 = l.length ∧ l[k] = a then b else l[k]
  | [], k, h => absurd h (Nat.not_lt_zero _)
  | [c], k, h => by
    have e : k = 0 := by simpa using h
    subst e
    simp [last]
  | c :: d :: r, 0, h => by simp [last]
  | c :: d :: r, k + 1, h => by
    show (last a b (d :: r))[k]'_ = _
    rw [last_get a b (d :: r) k (by simpa using h)]
    simp
theorem plain_len (l : List UInt8) : (plainL l).length = l.length := by unfold plainL; rw [last_len, List.length_map]
theorem plain_get (l : List UInt8) (k : Nat) (h : k < l.length) : (plainL l)[k]? = some (if k + 1 = l.length ∧ uv l[k] = 106 then 105 else uv l[k]) := by
  rw [List.getElem?_eq_getElem (by rw [plain_len]; exact h)]
  unfold plainL
  rw [last_get 106 105 (l.map uv) k (by simpa using h)]
  simp

theorem byte_ne {c d : UInt8} (h : c ≠ d) : ((c.toNat : Int) == (d.toNat : Int)) = false := by
  simp only [beq_eq_false_iff_ne, ne_eq]
  intro e
  exact h (UInt8.toNat_inj.1 (by omega))
theorem str_back (l : List UInt8) : (⟨l.toArray⟩ : ByteArray) = str l := rfl

set_option maxHeartbeats 2000000 in
theorem spec_plain9 (l : List UInt8) (hl : l.length ≤ 20) (w : World) : Calls Tryd.prog 42 #[.string (str l)] w (Tx (plainL l) w) := by
  have sz := str_size l
  have kc := fun (w : World) (s : ByteArray) => run_bytes_of_string (P := Tryd.prog) w 9 22 5 s Tryd.underlying9 Tryd.underlying22 Tryd.underlying5
  have HG := Lib.hid (plain_get l)
  have pl := plain_len l
  generalize plainL l = P at HG pl ⊢
  go_enter Tryd.func42, Tryd.ntmps42
  go_wp2_with fail
  generalize grownCap w l.length 0 5 = cap
  go_loopg [4] (l.length) (fun m i wr => ∃ k : Nat, k ≤ l.length ∧ m = l.length - k ∧ i = .int .i64 k ∧ Hid (Byt wr w.heap.size (mixL l P k)) ∧ Below w.heap.size w wr)
  case atStart => exact ⟨0, by omega, by omega, rfl, Lib.hid (by rw [mix_0]; exact Byt.new w l cap _ w.drew rfl), (Below.refl _ _).drew.alloc (Nat.le_refl _) _⟩
  case round =>
    obtain ⟨k, hk, hm, rfl, HB, bel⟩ := hrel
    subst hm
    have ml := mix_len pl hk
    by_cases hlt : k < l.length
    · have hgo : (k : Int) < (l.length : Int) := by omega
      have hc := HB.out.cell k (by omega)
      have hf := HB.out.cold k (by omega)
      rw [mix_get pl hlt] at hc
      have G := Lib.hid (HG.out k hlt)
      by_cases c1 : l[k] = 117
      · have HS := Lib.hid (mix_set pl hlt (c := 118) (by rw [G.out, c1, if_neg (fun h => absurd h.2 (by decide))]; rfl))
        rw [c1] at hc
        have hc' : wr.cell? ⟨w.heap.size, k, none⟩ = some (.int .u8 117) := hc
        clear hc G c1
        go_wp2_with fail
        go_roundg (l.length - (k + 1))
        case measure => omega
        case rel => exact ⟨k + 1, by omega, by omega, by go_num, Lib.hid (by have h := HB.out.set k (by omega) 118; rw [HS.out] at h; exact h), bel.setCell (Nat.le_refl _) _⟩
      · by_cases c2 : l[k] = 106
        · by_cases hz : k + 1 = l.length
          · have hz1 : ((k : Int) == (l.length : Int) - 1) = true := by simp; omega
            have HS := Lib.hid (mix_set pl hlt (c := 105) (by rw [G.out, c2, if_pos ⟨hz, by decide⟩]))
            rw [c2] at hc
            have hc' : wr.cell? ⟨w.heap.size, k, none⟩ = some (.int .u8 106) := hc
            clear hc G c1 c2
            go_wp2_with fail
            go_roundg (l.length - (k + 1))
            case measure => omega
            case rel => exact ⟨k + 1, by omega, by omega, by go_num, Lib.hid (by have h := HB.out.set k (by omega) 105; rw [HS.out] at h; exact h), bel.setCell (Nat.le_refl _) _⟩
          · have hz1 : ((k : Int) == (l.length : Int) - 1) = false := by simp; omega
            have HS := Lib.hid (mix_same pl hlt (by rw [G.out, c2, if_neg (fun h => hz h.1)]; rfl))
            rw [c2] at hc
            have hc' : wr.cell? ⟨w.heap.size, k, none⟩ = some (.int .u8 106) := hc
            clear hc G c1 c2
            go_wp2_with fail
            go_roundg (l.length - (k + 1))
            case measure => omega
            case rel => exact ⟨k + 1, by omega, by omega, by go_num, Lib.hid (HS.out ▸ HB.out), bel⟩
        · have HS := Lib.hid (mix_same pl hlt (by
            have e : uv l[k] = l[k] := if_neg c1
            rw [G.out, e, if_neg (fun h => c2 h.2)]))
          have n1 : ((l[k].toNat : Int) == 117) = false := byte_ne c1
          have n2 : ((l[k].toNat : Int) == 106) = false := byte_ne c2
          clear G c1 c2
          generalize l[k] = c at *
          go_wp2_with fail
          go_roundg (l.length - (k + 1))
          case measure => omega
          case rel => exact ⟨k + 1, by omega, by omega, by go_num, Lib.hid (HS.out ▸ HB.out), bel⟩
    · have hgo : ¬ (k : Int) < (l.length : Int) := by omega
      have ek : k = l.length := by omega
      subst ek
      rw [mix_all l P pl] at HB
      have hcv := run_convert_bytes_back (P := Tryd.prog) wr 22 9 5 ⟨w.heap.size, 0, none⟩ cap P Tryd.underlying22 Tryd.underlying5 Tryd.underlying9 (fun j hj => by
        have h := HB.out.cell j hj
        rw [Addr.add_lit, Nat.zero_add]
        exact h)
      rw [pl] at hcv
      go_wp2_with fail
      go_ret
      exact ⟨rfl, bel⟩

theorem vu_get (l : List UInt8) (k : Nat) (h : k < l.length) : (l.map vu)[k]? = some (vu l[k]) := by
  rw [List.getElem?_eq_getElem (by simpa using h)]
  simp
/-- A text's last letter changed. -/
theorem last_set (a b : UInt8) (l : List UInt8) (n : Nat) (h : l.length = n + 1) : last a b l = if l[n]'(by omega) = a then l.set n b else l := by
  apply List.ext_getElem
  · rw [last_len]
    split <;> simp
  · intro k h1 h2
    rw [last_get a b l k (by rw [last_len] at h1; exact h1)]
    by_cases e : k = n
    · subst e
      split
      · rename_i hc
        simp [hc.2]
      · rename_i hc
        have : ¬ l[k] = a := fun q => hc ⟨h.symm, q⟩
        simp [this]
    · rw [if_neg (by rintro ⟨q, _⟩; omega)]
      split
      · rw [List.getElem_set_ne (by omega)]
      · rfl
theorem form_pos (m : Nat) (h1 : 1 ≤ m) (h2 : m ≤ 3999) : 1 ≤ (formN m true).length := by
  have key : ∀ (a b c : UInt8) (k : Nat), 1 ≤ k → 1 ≤ (dgL a b c k true).length := by
    intro a b c k hk
    unfold dgL dgo
    simp
    split <;> simp <;> omega
  unfold formN
  simp only [List.length_append, List.length_replicate]
  by_cases a : 1 ≤ m % 10
  · have := key 105 118 120 _ a
    omega
  by_cases b : 1 ≤ m / 10 % 10
  · have := key 120 108 99 _ b
    omega
  by_cases c : 1 ≤ m / 100 % 10
  · have := key 99 100 109 _ c
    omega
  omega

set_option maxHeartbeats 2000000 in
theorem spec_OldNumeral_no (n : Int) (h : ¬ isN n) (w : World) : Calls Tryd.prog 25 #[.int .i64 n] w (Tx (onL n) w) := by
  have I := Lib.hid (spec_isN n false (decide_eq_false h))
  rw [show onL n = [] from if_neg h]
  clear h
  go_enter Tryd.func25, Tryd.ntmps25
  go_wp2_with fail
  refine (I.out _).mono ?_
  rintro e w1 ⟨rfl, rfl⟩
  go_wp2_with fail
  go_ret
  exact ⟨rfl, Below.refl _ _⟩

set_option maxHeartbeats 2000000 in
theorem spec_OldNumeral_yes (n : Int) (t l _Q : List UInt8) (I : Hid (∀ w, Calls Tryd.prog 36 #[.int .i64 n] w fun e w' => e = .returned (.bool true) ∧ w = w'))
    (F : Hid (∀ w, Calls Tryd.prog 38 #[.int .i64 n, .bool true] w (Tx l w))) (p : Nat) (hp : l.length = p + 1) (hl : p ≤ 19) (HT : Hid (last 105 106 (l.map vu) = t)) (w : World) :
    Calls Tryd.prog 25 #[.int .i64 n] w (Tx t w) := by
  have sz := str_size l
  have kc := fun (w : World) (s : ByteArray) => run_bytes_of_string (P := Tryd.prog) w 9 22 5 s Tryd.underlying9 Tryd.underlying22 Tryd.underlying5
  have HG := Lib.hid (vu_get l)
  have pl : (l.map vu).length = l.length := List.length_map _
  have HL := Lib.hid (last_set 105 106 (l.map vu) p (by rw [pl, hp]))
  obtain ⟨P, hP⟩ : ∃ P, l.map vu = P := ⟨_, rfl⟩
  have pl' : P.length = p + 1 := by rw [← hP, pl, hp]
  have HG' : Hid (∀ (k : Nat) (h : k < l.length), P[k]? = some (vu l[k])) := by rw [← hP]; exact HG
  have HL' : Hid (t = if P[p]'(by omega) = 105 then P.set p 106 else P) := by
    have q := HL.out
    rw [HT.out] at q
    subst hP
    exact Lib.hid q
  clear HG HL HT
  rw [hP] at pl
  clear hP
  go_enter Tryd.func25, Tryd.ntmps25
  go_wp2_with fail
  refine (I.out _).mono ?_
  rintro e w1 ⟨rfl, rfl⟩
  go_wp2_with fail
  refine (F.out _).mono ?_
  rintro e w2 ⟨rfl, b2⟩
  go_wp2_with fail
  generalize grownCap w2 (p + 1) 0 5 = cap
  have b3 : Below w.heap.size w (w2.drew.alloc (.cells (bytesRow (str l) cap) 5 ((bytesRow (str l) cap).size, (bytesRow (str l) cap).size + 1))) := b2.drew.alloc b2.size _
  have z2 := b2.size
  go_loopg [4] (l.length) (fun m i wr => ∃ k : Nat, k ≤ l.length ∧ m = l.length - k ∧ i = .int .i64 k ∧ Hid (Byt wr w2.heap.size (mixL l P k)) ∧ Below w.heap.size w wr)
  case atStart => exact ⟨0, by omega, by omega, rfl, Lib.hid (by rw [mix_0]; exact Byt.new w2 l cap _ w2.drew rfl), b3⟩
  case round =>
    obtain ⟨k, hk, hm, rfl, HB, bel⟩ := hrel
    subst hm
    have ml := mix_len pl hk
    by_cases hlt : k < l.length
    · have hgo : (k : Int) < (p : Int) + 1 := by omega
      have hc := HB.out.cell k (by omega)
      have hf := HB.out.cold k (by omega)
      rw [mix_get pl hlt] at hc
      have G := Lib.hid (HG'.out k hlt)
      by_cases c1 : l[k] = 118
      · have HS := Lib.hid (mix_set pl hlt (c := 117) (by rw [G.out, c1]; rfl))
        rw [c1] at hc
        have hc' : wr.cell? ⟨w2.heap.size, k, none⟩ = some (.int .u8 118) := hc
        clear hc G c1
        go_wp2_with fail
        go_roundg (l.length - (k + 1))
        case measure => omega
        case rel => exact ⟨k + 1, by omega, by omega, by go_num, Lib.hid (by have h := HB.out.set k (by omega) 117; rw [HS.out] at h; exact h), bel.setCell z2 _⟩
      · have HS := Lib.hid (mix_same pl hlt (by rw [G.out]; exact congrArg some (if_neg c1)))
        have n1 : ((l[k].toNat : Int) == 118) = false := byte_ne c1
        clear G c1
        generalize l[k] = c at *
        go_wp2_with fail
        go_roundg (l.length - (k + 1))
        case measure => omega
        case rel => exact ⟨k + 1, by omega, by omega, by go_num, Lib.hid (HS.out ▸ HB.out), bel⟩
    · have hgo : ¬ (p : Int) + 1 < (p : Int) + 1 := by omega
      have ek : k = l.length := by omega
      subst ek
      rw [mix_all l P pl] at HB
      have hc := HB.out.cell p (by omega)
      have hf := HB.out.cold p (by omega)
      have lp : (p : Int) + 1 - 1 = (p : Int) := by omega
      by_cases c1 : P[p]'(by omega) = 105
      · have e : t = P.set p 106 := HL'.out.trans (if_pos c1)
        have HB2 := Lib.hid (HB.out.set p (by omega) 106)
        rw [← e] at HB2
        have tl : t.length = p + 1 := by rw [e, List.length_set]; exact pl'
        rw [c1] at hc
        have hc' : wr.cell? ⟨w2.heap.size, p, none⟩ = some (.int .u8 105) := hc
        have hcv := run_convert_bytes_back (P := Tryd.prog) (wr.setCell ⟨w2.heap.size, p, none⟩ (.int .u8 106)) 22 9 5 ⟨w2.heap.size, 0, none⟩ cap t Tryd.underlying22 Tryd.underlying5 Tryd.underlying9 (fun j hj => by
          have h := HB2.out.cell j hj
          rw [Addr.add_lit, Nat.zero_add]
          exact h)
        rw [tl] at hcv
        clear hc c1 e HL' HB2
        go_wp2_with fail
        go_ret
        exact ⟨rfl, bel.setCell z2 _⟩
      · have e : t = P := HL'.out.trans (if_neg c1)
        have hcv := run_convert_bytes_back (P := Tryd.prog) wr 22 9 5 ⟨w2.heap.size, 0, none⟩ cap P Tryd.underlying22 Tryd.underlying5 Tryd.underlying9 (fun j hj => by
          have h := HB.out.cell j hj
          rw [Addr.add_lit, Nat.zero_add]
          exact h)
        rw [pl'] at hcv
        have n1 : (((P[p]'(by omega)).toNat : Int) == 105) = false := byte_ne c1
        generalize P[p]'(by omega) = c at hc n1
        clear c1 HL'
        subst e
        go_wp2_with fail
        go_ret
        exact ⟨rfl, bel⟩

theorem spec_OldNumeral (n : Int) (w : World) : Calls Tryd.prog 25 #[.int .i64 n] w (Tx (onL n) w) := by
  by_cases h : isN n
  · obtain ⟨m, rfl⟩ := Int.eq_ofNat_of_zero_le (show 0 ≤ n by have := h.1; omega)
    have h1 := h.1
    have h2 := h.2
    have p1 := form_pos m (by omega) (by omega)
    have p2 := form_len m (by omega) true
    exact spec_OldNumeral_yes m _ (formN m true) [] (Lib.hid (spec_isN m true (decide_eq_true h))) (Lib.hid (spec_form m (by omega) true)) ((formN m true).length - 1) (by omega) (by omega)
      (Lib.hid (by unfold onL oldL form; rw [if_pos h, Int.toNat_natCast])) w
  · exact spec_OldNumeral_no n h w

end Go.Proofs.YtiimoejjokfkfaaDoor.Num
