/- Contracts of spec's draws for the law over the texts of sets. -/
import Derived.Test.YtfhcakpmlppbkaaGreatDoorDrawL
import Derived.Test.YtfhcakpmlppbkaaGreatDoorDamage
import Derived.Test.YtfhcakpmlppbkaaGreatDoorTxT
namespace Go.Proofs.YtfhcakpmlppbkaaGreatDoor.Sets
open Go.RowKit

set_option maxHeartbeats 1000000 in
theorem spec_damageL (A : Option Addr) (len cap : Nat) (zs : List Int) (W w : World) (g : Nat) (l : List UInt8) (hl : l.length ≤ 20000) (hs : Src A len cap zs W w g) :
    Calls Tryz.prog 41 #[.pointer (some ⟨g, 0, none⟩), .string (str l)] w (DrewStr A len cap zs W w g 60000) := by
  have sz := str_size l
  have hg := hs.lt
  go_enter Tryz.func41, Tryz.ntmps41
  go_wp2_with fail
  refine (spec_next A len cap zs W _ g ((l.length : Int) + 1) hs).mono ?_
  rintro e w1 ⟨x1, rfl, a1, b1, s1, k1⟩
  obtain ⟨k, rfl⟩ := Int.eq_ofNat_of_zero_le a1
  have hk : k ≤ l.length := by omega
  clear a1 b1
  go_wp2_with fail
  refine (spec_next A len cap zs W _ g 8 s1).mono ?_
  rintro e w2 ⟨x2, rfl, a2, b2, s2, k2⟩
  have k12 := k1.trans k2
  clear b2 k1 k2 s1
  have sz1 : ((str l).extract 0 k).size ≤ 20000 := by have := ByteArray.size_extract (a := str l) (b := 0) (e := k); omega
  by_cases h0 : x2 = 0
  · subst h0
    go_wp2_with fail
    go_ret
    exact ⟨_, rfl, by omega, s2, k12⟩
  by_cases h1 : x2 = 1
  · subst h1
    go_wp2_with fail
    go_region_with (go_at_call 40; (first | (refine (spec_next A len cap zs W _ g 8 s2.drew).mono ?_; rintro e w3 ⟨x3, rfl, a3, b3, s3, k3⟩; obtain ⟨j, t, rfl, jb, ht, F⟩ := wordA a3 b3; clear a3 b3) | (refine (spec_next A len cap zs W _ g 8 (s2.alloc _).drew).mono ?_; rintro e w3 ⟨x3, rfl, a3, b3, s3, k3⟩; obtain ⟨j, t, rfl, jb, ht, F⟩ := wordB a3 b3 s2.lt k3; clear a3 b3)))
    all_goals
      go_wp2_with fail
      go_ret
      refine ⟨_, rfl, by simp only [ByteArray.size_append, ByteArray.size_extract]; omega, ?_, ?_⟩
      · first | exact s3 | exact s3.alloc _
      · first
          | exact (World.grownBy.trans (only_drewN (only_alloc k12 _) 1) k3)
          | exact only_alloc (World.grownBy.trans (only_drewN k12 1) k3) _
  have e0 : (x2 == 0) = false := by simpa using h0
  have e1 : (x2 == 1) = false := by simpa using h1
  clear h0 h1
  by_cases h2 : x2 = 2
  · subst h2
    by_cases hlt : k < l.length
    · have hlt' : (k : Int) < (l.length : Int) := by omega
      go_wp2_with fail
      go_quiet (fail)
      go_wp2_with fail
      go_ret
      exact ⟨_, rfl, by simp only [ByteArray.size_append, ByteArray.size_extract]; omega, s2.below (below_drewN (Below.refl _ _) _), only_drewN k12 _⟩
    · have hlt' : ¬ (k : Int) < (l.length : Int) := by omega
      go_wp2_with fail
      go_ret
      exact ⟨_, rfl, by omega, s2, k12⟩
  · have e2 : (x2 == 2) = false := by simpa using h2
    clear h2
    go_wp2_with fail
    go_ret
    exact ⟨_, rfl, by omega, s2, k12⟩

theorem txtV_len (xs : L) : (txtV xs).length ≤ 20000 := by
  unfold txtV
  split
  · rename_i h
    have hl := set_len h
    unfold txt
    split
    · simp
    · have h1 : ∀ p ∈ xs.map wd, p.length ≤ 40 := by
        intro p hp
        obtain ⟨s, -, rfl⟩ := List.mem_map.1 hp
        exact wd_len s
      have h2 := J_len h1 (xs.map wd).length (Nat.le_refl _)
      rw [J_all] at h2
      simp only [List.length_map] at h2
      omega
  · simp

set_option maxHeartbeats 1000000 in
set_option maxRecDepth 100000 in
theorem spec_DrawSetText (A : Option Addr) (len cap : Nat) (zs : List Int) (W w : World) (hrow : IsRow .u8 W A len cap zs) (hW : Below W.heap.size W w) :
    Calls Tryz.prog 6 #[.slice A len cap] w (DrawnSet w) := by
  go_enter Tryz.func6, Tryz.ntmps6
  go_wp2_with fail
  refine (spec_from A len cap zs W _ hrow hW).mono ?_
  rintro e w1 ⟨g, rfl, hg, s1, b1⟩
  go_wp2_with fail
  refine (spec_drawSet A len cap zs W _ g s1).mono ?_
  rintro e w2 ⟨v, xs, rfl, hs, own, s2, k2⟩
  have hb := b1.trans (only_below k2 hg b1.size)
  have own2 := own.mono b1.size
  obtain ⟨A2, c2, rfl, -⟩ := own.form
  clear own s1 s2 k2 b1
  go_wp2_with fail
  go_ret
  exact ⟨_, xs, rfl, hs, own2, hb⟩

set_option maxHeartbeats 1000000 in
set_option maxRecDepth 100000 in
theorem spec_DrawReadSet (A : Option Addr) (len cap : Nat) (zs : List Int) (W w : World) (hrow : IsRow .u8 W A len cap zs) (hW : Below W.heap.size W w) :
    Calls Tryz.prog 9 #[.slice A len cap] w (DrawnStr 60000 w) := by
  go_enter Tryz.func9, Tryz.ntmps9
  go_wp2_with fail
  refine (spec_from A len cap zs W _ hrow hW).mono ?_
  rintro e w1 ⟨g, rfl, hg, s1, b1⟩
  go_wp2_with fail
  refine (spec_drawSet A len cap zs W _ g s1).mono ?_
  rintro e w2 ⟨v, xs, rfl, hs, own, s2, k2⟩
  have hb2 := b1.trans (only_below k2 hg b1.size)
  obtain ⟨A2, c2, rfl, hr2⟩ := own.form
  have rd2 := hr2.rd
  obtain ⟨l, hl, hc⟩ : ∃ l : List UInt8, l.length ≤ 20000 ∧ Hid (Calls Tryz.prog 8 #[.slice A2 xs.length c2] w2 (TxO l (txtE xs) w2)) :=
    ⟨txtV xs, txtV_len xs, Lib.hid (spec_SetText A2 xs.length c2 xs (by have := hs.2; unfold maxLen; omega) w2 rd2)⟩
  clear s1 k2 own hr2 rd2 hs
  generalize txtE xs = ce at hc
  go_wp2_with fail
  refine hc.out.mono ?_
  rintro e w3 ⟨rfl, b3⟩
  have hb3 := below_on hb2 b3
  have s3 := s2.below b3
  clear hc s2 b3 hb2
  go_wp2_with fail
  refine (spec_next A len cap zs W _ g 3 s3).mono ?_
  rintro e w4 ⟨x4, rfl, a4, c4, s4, k4⟩
  have b4 := hb3.trans (only_below k4 hg hb3.size)
  by_cases h0 : x4 = 0
  · subst h0
    go_wp2_with fail
    refine (spec_damageL A len cap zs W _ g l hl s4).mono ?_
    rintro e w5 ⟨s, rfl, hsz, s5, k5⟩
    have b5 := b4.trans (only_below k5 hg b4.size)
    go_wp2_with fail
    go_ret
    exact ⟨s.data.toList, by simp [str], by simpa using hsz, b5⟩
  · have e0 : (x4 == 0) = false := by simpa using h0
    clear h0
    go_wp2_with fail
    go_ret
    exact ⟨l, rfl, by omega, b4⟩

theorem pick_ends (A : Option Addr) (len cap : Nat) (zs : List Int) (W wr : World) (g : Nat) (sr : Src A len cap zs W wr g) :
    Calls Tryz.prog 47 #[.pointer (some ⟨g, 0, none⟩), .slice (some ⟨wr.heap.size, 0, none⟩) 2 2] (wr.alloc (.cells #[.int .i64 300, .int .i64 301] 2)) (DrewP A len cap zs W (wr.alloc (.cells #[.int .i64 300, .int .i64 301] 2)) g (fun p => 300 ≤ p ∧ p ≤ 301)) :=
  spec_pick A len cap zs W _ g wr.heap.size 2 2 [300, 301] (fun p => 300 ≤ p ∧ p ≤ 301) (sr.alloc _) (Blk.new wr 2 #[.int .i64 300, .int .i64 301]) (by have := sr.lt; omega) rfl (by omega) (by omega) (by simp)

set_option maxHeartbeats 1500000 in
set_option maxRecDepth 100000 in
theorem spec_DrawMakeSet (A : Option Addr) (len cap : Nat) (zs : List Int) (W w : World) (hrow : IsRow .u8 W A len cap zs) (hW : Below W.heap.size W w) :
    Calls Tryz.prog 12 #[.slice A len cap] w (DrawnSet w) := by
  go_enter Tryz.func12, Tryz.ntmps12
  go_wp2_with fail
  refine (spec_from A len cap zs W _ hrow hW).mono ?_
  rintro e w1 ⟨g, rfl, hg, s1, b1⟩
  have hgw := s1.lt
  go_wp2_with fail
  refine (spec_drawSpans A len cap zs W _ g 400000 (by omega) (by omega) s1).mono ?_
  rintro e w2 ⟨v2, xs, rfl, ⟨hl2, hok2⟩, own2, s2, k2⟩
  have HX := Lib.hid hok2
  clear s1 hok2
  go_wp2_with fail
  refine (spec_drawSpans A len cap zs W _ g 400050 (by omega) (by omega) s2).mono ?_
  rintro e w3 ⟨v3, ys, rfl, ⟨hl3, hok3⟩, own3, s3, k3⟩
  have own2' := own2.grown k3 hgw
  have gr3 := World.grownBy.trans k2 k3
  obtain ⟨A3, c3, rfl, hr3⟩ := own3.form
  have rd3 := hr3.rd
  have HS := Lib.hid s3
  have HG := Lib.hid gr3
  have HW := Lib.hid own2'
  have HR := Lib.hid rd3
  have mo := Lib.hid (show ∀ s ∈ xs ++ ys, ok s from fun s hs => by
    rcases List.mem_append.1 hs with h | h
    · exact HX.out s h
    · exact hok3 s h)
  have ml : (xs ++ ys).length ≤ 12 := by simp; omega
  clear own2 own3 own2' hr3 rd3 s2 s3 k2 k3 gr3 hok3 HX
  go_wp2_with (at_builtin; refine append_src_rd HS.out hgw HG.out HW.out HR.out (by omega) rfl (.tmp 9) (.tmp 11) rfl rfl rfl ?_)
  intro v6 w6 own6 s6 gr6
  clear HS HG HW HR
  generalize xs ++ ys = zz at own6 mo ml
  clear hl2 hl3
  go_wp2_with fail
  refine (spec_next A len cap zs W _ g 40 s6).mono ?_
  rintro e w7 ⟨y, rfl, y0, y1, s7, k7⟩
  have own7 := own6.grown k7 hgw
  have gr7 := World.grownBy.trans gr6 k7
  clear own6 gr6 s6 k7 y1
  by_cases h0 : y = 0
  · subst h0
    go_wp2_with fail
    have q := Blk.new w7 2 #[.int .i64 (-1), .int .i64 0, .int .i64 400000]
    have hne : w7.heap.size ≠ g := by have := s7.lt; omega
    refine (spec_pick A len cap zs W _ g w7.heap.size 3 2 [-1, 0, 400000] (fun p => -1 ≤ p ∧ p ≤ 400000) (s7.alloc _) q hne rfl (by omega) (by omega) (by simp)).mono ?_
    rintro e w8 ⟨p, rfl, ⟨p0, p1⟩, s8, k8⟩
    have own8 := (own7.below (w' := w7.alloc (.cells #[.int .i64 (-1), .int .i64 0, .int .i64 400000] 2)) ((Below.refl _ _).alloc (Nat.le_refl _) _)).grown k8 hgw
    have gr8 := World.grownBy.trans (only_alloc gr7 _) k8
    clear own7 gr7 s7 k8 q hne
    go_wp2_with fail
    have q := Blk.new w8 2 #[.int .i64 400000, .int .i64 399999, .int .i64 730499, .int .i64 730500]
    have hne : w8.heap.size ≠ g := by have := s8.lt; omega
    refine (spec_pick A len cap zs W _ g w8.heap.size 4 2 [400000, 399999, 730499, 730500] (fun p => 399999 ≤ p ∧ p ≤ 730500) (s8.alloc _) q hne rfl (by omega) (by omega) (by simp)).mono ?_
    rintro e w9 ⟨r, rfl, ⟨r0, r1⟩, s9, k9⟩
    have own9 := (own8.below (w' := w8.alloc (.cells #[.int .i64 400000, .int .i64 399999, .int .i64 730499, .int .i64 730500] 2)) ((Below.refl _ _).alloc (Nat.le_refl _) _)).grown k9 hgw
    have gr9 := World.grownBy.trans (only_alloc gr8 _) k9
    clear own8 gr8 s8 k9 q hne
    have HS := Lib.hid s9
    have HG := Lib.hid gr9
    have HW := Lib.hid own9
    clear s9 gr9 own9
    go_wp2_with (at_builtin; refine append_src rfl HS.out hgw HG.out HW.out (by omega) rfl (.tmp 17) (.tmp 25) rfl rfl rfl ?_)
    intro v10 w10 own10 s10 gr10
    have H2 : Sm (zz ++ [(p, r)]) := by
      refine ⟨fun s hs => ?_, by simp; omega⟩
      rcases List.mem_append.1 hs with h | h
      · have := mo.out s h
        unfold ok at this
        omega
      · have e : s = (p, r) := by simpa using h
        subst e
        refine ⟨?_, ?_, ?_, ?_⟩ <;> simp only <;> omega
    clear HS HG HW
    have hb := b1.trans (only_below gr10 hg b1.size)
    have own11 := own10.mono b1.size
    obtain ⟨A6, c6, rfl, -⟩ := own10.form
    clear own10 s10 gr10
    go_wp2_with fail
    go_ret
    exact ⟨_, _, rfl, H2, own11, hb⟩
  have e0 : (y == 0) = false := by simpa using h0
  clear h0
  by_cases h1 : y = 1
  · subst h1
    have o0 : Own (w7.alloc (.cells #[] 36)) w1.heap.size (.slice (some ⟨w7.heap.size, 0, none⟩) 0 0) [] := (Own.made0 w7).mono gr7.size
    have s0' := s7.alloc (.cells #[] 36)
    have g0 := only_alloc gr7 (.cells #[] 36)
    have H0 : LongLoop A len cap zs W w1 g 302 (.slice (some ⟨w7.heap.size, 0, none⟩) 0 0) (.int .i64 0) (w7.alloc (.cells #[] 36)) := ⟨0, [], rfl, by omega, by omega, rfl, by simp, o0, s0', g0⟩
    have HH := Lib.hid H0
    clear H0 o0 s0' g0 own7 s7 gr7 mo ml
    go_wp2_with fail
    go_loopg [4, 5] 302 (fun m v i wr => LongLoop A len cap zs W w1 g m v i wr)
    case atStart => exact HH.out
    case round =>
      clear HH
      obtain ⟨k, acc, rfl, hm, hk, hal, hok, own, sr, gr⟩ := hrel
      subst hm
      have HO := Lib.hid hok
      clear hok
      go_wp2_with fail
      refine (pick_ends A len cap zs W _ g sr).mono ?_
      rintro e w8 ⟨p, rfl, ⟨p0, p1⟩, s8, k8⟩
      have own8 := (own.below ((Below.refl _ _).alloc (Nat.le_refl _) (.cells #[.int .i64 300, .int .i64 301] 2))).grown k8 hgw
      have gr8 := World.grownBy.trans (only_alloc gr _) k8
      clear own gr sr k8
      by_cases hgo : (k : Int) < p
      · have HS := Lib.hid s8
        have HG := Lib.hid gr8
        have HW := Lib.hid own8
        have hal2 := Lib.hid hal
        have hl8 : acc.length + 1 ≤ 8000000 := by omega
        clear s8 gr8 own8 hal
        go_wp2_with (at_builtin; refine append_src rfl HS.out hgw HG.out HW.out hl8 rfl (.tmp 37) (.tmp 45) rfl rfl rfl ?_)
        intro v9 w9 own9 s9 gr9
        have H2 := Lib.hid (show ∀ s ∈ acc ++ [(700 - 2 * (k : Int), 700 - 2 * (k : Int))], ok s from fun s hs => by
          rcases List.mem_append.1 hs with h | h
          · exact HO.out s h
          · rcases List.mem_cons.1 h with rfl | h
            · exact ⟨by simp only; omega, by simp only; omega, by simp only; omega⟩
            · cases h)
        clear HS HG HW HO
        go_wp2_with fail
        go_roundg (302 - (k + 1))
        case measure => omega
        case rel => exact ⟨k + 1, _, by go_num, rfl, by omega, by have := hal2.out; simp; omega, H2.out, own9, s9, gr9⟩
      · have hl2 : acc.length ≤ 2000 := by omega
        have hb := b1.trans (only_below gr8 hg b1.size)
        have own9 := own8.mono b1.size
        obtain ⟨A5, c5, rfl, -⟩ := own8.form
        have hal2 := Lib.hid hal
        clear hal
        go_wp2_with fail
        go_ret
        exact ⟨_, acc, rfl, Sm.of_ok hl2 HO.out, own9, hb⟩
  · have e1 : (y == 1) = false := by simpa using h1
    have hb := b1.trans (only_below gr7 hg b1.size)
    have own8 := own7.mono b1.size
    obtain ⟨A4, c4, rfl, -⟩ := own7.form
    go_wp2_with fail
    go_ret
    exact ⟨_, zz, rfl, Sm.of_ok (by omega) mo.out, own8, hb⟩

end Go.Proofs.YtfhcakpmlppbkaaGreatDoor.Sets
