/- Contracts of impl's years by their marks (a map that a deferred closure fills) and of its years with a mark. -/
import Derived.Test.YtfienklaafialaaIndIc
import Derived.Test.YtfienklaafialaaIndC
import Derived.Defers
namespace Go.Proofs.Ytfienklaafialaa.Ind
open Go.RowKit
open Go.Maps (IsMap atKey_put_same atKey_put_other isMap_empty)
open Go.Proofs.Ytfienklaafialaa.Eas (isY It)
open Go.Proofs.Ytfienklaafialaa.Sets (cell_keep below_on)

/-- At a key of a map of rows stand these numbers. -/
def AtIs (D : DataW Unit) (kl : Lit) (xs : List Int) : Prop := ∀ (w : World) (base : Nat) (v : Value) (zs : List Int), w.ownsInts base 2 .i64 v zs → D.atKey kl .nil = rowDatum .i64 v zs → zs = xs
theorem AtIs.empty (kl : Lit) : AtIs (.map []) kl [] := by
  intro w base v zs h e
  rcases h.datum (H := Unit) with ⟨-, r⟩ | r
  · exact r
  · rw [r] at e
    cases e
theorem AtIs.same {D : DataW Unit} {kl : Lit} (hk : WideAt.IsKeyLit kl) (hD : IsMap D) {w : World} {base : Nat} {v : Value} {xs : List Int} (h : w.ownsInts base 2 .i64 v xs) (hx : xs ≠ []) : AtIs (D.put kl (rowDatum .i64 v xs)) kl xs := by
  intro w2 base2 v2 zs h2 e
  rw [atKey_put_same hD hk, h.datum_pos hx] at e
  rcases h2.datum (H := Unit) with ⟨r, -⟩ | r
  · rw [r] at e
    cases e
  · rw [r] at e
    injection e with e1
    unfold Go.ChangeShapes.lits at e1
    exact ((List.map_inj_right (fun a b hab => by injection hab with q; injection q)).1 e1).symm
theorem AtIs.other {D : DataW Unit} {kl kl' : Lit} (hne : kl ≠ kl') {xs : List Int} (h : AtIs D kl xs) (d : DataW Unit) : AtIs (D.put kl' d) kl xs := by
  intro w base v zs h2 e
  rw [atKey_put_other hne] at e
  exact h w base v zs h2 e

theorem cell_al {w : World} {o : Obj} {g k : Nat} {v : Value} (h : w.cell? ⟨g, k, none⟩ = some v) : (w.alloc o).cell? ⟨g, k, none⟩ = some v := (World.cell?_alloc_past _ _ _ (World.block_lt_of_cell? _ _ h)).trans h
theorem new_blk {w w' : World} {t : TypeId} {cs : Array Value} (h : Below (w.alloc (.cells cs t)).heap.size (w.alloc (.cells cs t)) w') : Below w.heap.size w w' ∧ Blk w' w.heap.size t cs :=
  ⟨((Below.refl w.heap.size w).alloc (Nat.le_refl _) _).trans (h.mono (by simp)), (Blk.new w t cs).below h (by simp)⟩
theorem drew_on {w w' : World} (h : Below w.drew.heap.size w.drew w') : Below w.heap.size w w' := ((Below.refl w.heap.size w).drew).trans h
theorem new_blk_d {w w' : World} {t : TypeId} {cs : Array Value} (h : Below (w.alloc (.cells cs t)).drew.heap.size (w.alloc (.cells cs t)).drew w') : Below w.heap.size w w' ∧ Blk w' w.heap.size t cs :=
  new_blk (drew_on h)
theorem cell_far {w : World} {g k G : Nat} {v x1 x2 x3 : Value} (h : w.cell? ⟨g, k, none⟩ = some v) (hG : g < G) : (((w.setCell ⟨G, 0, none⟩ x1).setCell ⟨G, 1, none⟩ x2).setCell ⟨G, 2, none⟩ x3).cell? ⟨g, k, none⟩ = some v := by
  rw [World.cell?_setCell_other _ _ _ _ (fun e => by injection e with e1; omega), World.cell?_setCell_other _ _ _ _ (fun e => by injection e with e1; omega), World.cell?_setCell_other _ _ _ _ (fun e => by injection e with e1; omega)]
  exact h
theorem groups_on {w w' : World} {P : Program} {k : TypeId} {base : Nat} {e : TypeId} {q : IntKind} {b n : Nat} {D : DataW Unit} (h : w.ownsGroups P k base e q b n D) (hb : Below w.heap.size w w') : w'.ownsGroups P k base e q b n D :=
  h.kept (row := none) ⟨hb.os, hb.tape, hb.output, hb.size, fun i hi _ => hb.block i hi⟩ (by simp) fun _ _ _ x _ => by
    cases x.val.ownBlock <;> simp
theorem groups_alloc {w : World} {P : Program} {k : TypeId} {base : Nat} {e : TypeId} {q : IntKind} {b n : Nat} {D : DataW Unit} (h : w.ownsGroups P k base e q b n D) (o : Obj) : (w.alloc o).ownsGroups P k base e q b n D :=
  groups_on h ((Below.refl _ _).alloc (Nat.le_refl _) _)
theorem news_in {W w1 : World} {b : Nat} {Y : Int} (h : (W.alloc (.cells #[.int .i64 Y] 2)).grownBy w1 (some b)) (hb : b < W.heap.size) : ∀ j u, [Value.int .i64 Y][j]? = some u → w1.cell? ((⟨W.heap.size, 0, none⟩ : Addr).add j) = some u := by
  have k : Blk w1 W.heap.size 2 #[.int .i64 Y] := (h.block _ (by simp) (fun e => by injection e with e1; omega)).trans (Blk.new W _ _)
  intro j u hu
  rw [Ints.add_flat, k.cell j]
  simpa using hu
/-- What a round leaves, but for the map itself. -/
theorem fin_round {a e c f : Int} {b base gY j : Nat} {w0 wr W w1 w2 w3 : World} {kl kx : Lit} {D : DataW Unit} {x1 x2 x3 Y : Int} {v v' : Value} {zs : List Int} (hb : Below b w0 wr) (hBW : Below wr.heap.size wr W) (kY : Blk wr gY 87 #[.map (some b)])
    (hbw : b < wr.heap.size) (hbY : b < gY) (hYb : gY < base) (hbs : base ≤ wr.heap.size) (hg1 : (W.alloc (.cells #[.int .i64 Y] 2)).grownBy w1 (some b)) (hoi : w1.ownsInts base 2 .i64 v zs) (hgrow : w1.grownBy w2 v.ownBlock) (HA : AtIs D kl (ym a e c f j)) (hD : IsMap D)
    (hkl : keyOf Try.prog 42 (mV a e c) = some kl) (hkx : keyOf Try.prog 42 (mV x1 x2 x3) = some kx) (HY1 : x1 = a ∧ x2 = e ∧ x3 = c → ym a e c f (j + 1) = ym a e c f j ++ [Y]) (HY2 : ¬ (x1 = a ∧ x2 = e ∧ x3 = c) → ym a e c f (j + 1) = ym a e c f j)
    (hat : D.atKey kx .nil = rowDatum .i64 v zs) (hoi2 : w2.ownsInts base 2 .i64 v' (zs ++ [Y])) (hg3 : w2.grownBy w3 (some b)) :
    AtIs (D.put kx (rowDatum .i64 v' (zs ++ [Y]))) kl (ym a e c f (j + 1)) ∧ IsMap (D.put kx (rowDatum .i64 v' (zs ++ [Y]))) ∧ Below b w0 w3 ∧ Blk w3 gY 87 #[.map (some b)] ∧ base ≤ w3.heap.size := by
  have s0 := hBW.size
  have s1 := hg1.size
  simp at s1
  have s2 := hgrow.size
  have s3 := hg3.size
  have hv : ∀ g, v.ownBlock = some g → base ≤ g := fun g h => (hoi.1.lt g h).1
  refine ⟨?_, hD.put _ _, ?_, ?_, by omega⟩
  · by_cases h : x1 = a ∧ x2 = e ∧ x3 = c
    · have ek : kx = kl := by
        obtain ⟨rfl, rfl, rfl⟩ := h
        rw [hkl] at hkx
        exact (Option.some.inj hkx).symm
      subst ek
      rw [HY1 h, ← HA w1 base v zs hoi hat]
      exact AtIs.same (keyed.key hkl) hD hoi2 (by simp)
    · rw [HY2 h]
      exact AtIs.other (key_ne hkl hkx h) HA _
  · have B1 := (hb.trans (hBW.mono (by omega))).alloc (by omega) (.cells #[.int .i64 Y] 2)
    have B2 := Below.grown B1 hg1 (by simp; omega) (fun g hg => by injection hg with e1; omega)
    have B3 := Below.grown B2 hgrow (by omega) (fun g hg => by have := hv g hg; omega)
    exact Below.grown B3 hg3 (by omega) (fun g hg => by injection hg with e1; omega)
  · have k0 := (kY.below hBW kY.lt).alloc (.cells #[.int .i64 Y] 2)
    have k1 : Blk w1 gY 87 #[.map (some b)] := (hg1.block gY k0.lt (fun e => by injection e with e1; omega)).trans k0
    have k2 : Blk w2 gY 87 #[.map (some b)] := (hgrow.block gY k1.lt (fun e => by have := hv gY e.symm; omega)).trans k1
    exact (hg3.block gY k2.lt (fun e => by injection e with e1; omega)).trans k2
theorem set_three {w w' : World} {G : Nat} {t : TypeId} {x1 x2 x3 y1 y2 y3 : Value} (hb : Below w.heap.size w w') (hG : w.heap.size ≤ G) (k : Blk w' G t #[y1, y2, y3]) :
    Below w.heap.size w (((w'.setCell ⟨G, 0, none⟩ x1).setCell ⟨G, 1, none⟩ x2).setCell ⟨G, 2, none⟩ x3) ∧ Blk (((w'.setCell ⟨G, 0, none⟩ x1).setCell ⟨G, 1, none⟩ x2).setCell ⟨G, 2, none⟩ x3) G t #[x1, x2, x3] :=
  ⟨((hb.setCell (p := ⟨G, 0, none⟩) hG _).setCell (p := ⟨G, 1, none⟩) hG _).setCell (p := ⟨G, 2, none⟩) hG _, by
    have := ((k.set_ 0 x1).set_ 1 x2).set_ 2 x3
    simpa using this⟩
def YbL (a e c f : Int) (N : Nat) (kl : Lit) (b base gY : Nat) (w0 : World) (m : Nat) (y : Value) (wr : World) : Prop :=
  ∃ (j : Nat) (D : DataW Unit), y = .int .i64 (f + j) ∧ m = N - j ∧ j ≤ N ∧ wr.ownsGroups Try.prog 42 base 2 .i64 b j D ∧ Hid (AtIs D kl (ym a e c f j)) ∧ IsMap D ∧ Below b w0 wr ∧ Blk wr gY 87 #[.map (some b)] ∧ base ≤ wr.heap.size

theorem zeroRow (w : World) : (zeroValue 47).run Try.prog w = .ok (.slice none 0 0) w := by kernel_rfl
/-- A mark's key where its numbers are small. -/
theorem key_small {a e c : Int} (ha : -1 ≤ a ∧ a ≤ 30) (he : -1 ≤ e ∧ e ≤ 30) (hc : -1 ≤ c ∧ c ≤ 30) : ∃ kl, keyOf Try.prog 42 (mV a e c) = some kl :=
  key_mk (WalkArith.wf_i64 ⟨by omega, by omega⟩) (WalkArith.wf_i64 ⟨by omega, by omega⟩) (WalkArith.wf_i64 ⟨by omega, by omega⟩)

set_option maxRecDepth 100000 in
set_option maxHeartbeats 8000000 in
theorem impl_fill (a e c f t : Int) (hmk : mkOk a e c) (hf : 1 ≤ f) (ht : t ≤ 2000) (N : Nat) (hN : (N : Int) = t + 1 - f) (gA gF gT gY b base : Nat) (hA : gA < b) (hT : gT < b) (hbY : b < gY) (hYb : gY < base)
    (u : FrameMode) (w : World) (hw : base ≤ w.heap.size) (kA : Blk w gA 42 #[.int .i64 a, .int .i64 e, .int .i64 c]) (kF : Blk w gF 2 #[.int .i64 f]) (kT : Blk w gT 2 #[.int .i64 t])
    (kY : Blk w gY 87 #[.map (some b)]) (hb0 : w.heap[b]? = some (.map #[] 0)) (kl : Lit) (hkl : keyOf Try.prog 42 (mV a e c) = some kl) :
    CallsD Try.prog 93 #[.pointer (some ⟨gF, 0, none⟩), .pointer (some ⟨gT, 0, none⟩), .pointer (some ⟨gA, 0, none⟩), .pointer (some ⟨gY, 0, none⟩)] u w
      fun x u' w' => u' = u ∧ (x = .returned (.tuple #[]) ∧ ∃ D : DataW Unit, w'.ownsGroups Try.prog 42 base 2 .i64 b N D ∧ AtIs D kl (ym a e c f N) ∧ Below b w w') := by
  have own0 : w.ownsGroups (H := Unit) Try.prog 42 base 2 .i64 b 0 (.map []) :=
    ⟨#[], 0, hb0, ⟨by simp, MapKept.stamped_empty 0, by simp⟩, Nat.le_refl _, rfl, by omega, by simp, by simp⟩
  have HI : YbL a e c f N kl b base gY w N (.int .i64 f) w := ⟨0, .map [], by simp, by omega, by omega, own0, Lib.hid (AtIs.empty kl), isMap_empty, Below.refl _ _, kY, hw⟩
  have c0 := kF.cell 0
  simp at c0
  have HIN := Lib.hid HI
  clear HI own0
  go_enter_d Try.func93, Try.ntmps93
  go_wp2_with fail
  go_loopg [4] N (fun m y wr => YbL a e c f N kl b base gY w m y wr)
  case atStart => exact HIN.out
  case round =>
    clear HIN c0
    obtain ⟨j, D, rfl, hm1, hj, hown, HA, hD, hb, kY1, hbs⟩ := hrel
    subst hm1
    have tcell := (kT.below hb hT).cell 0
    simp at tcell
    have kA1 := kA.below hb hA
    obtain ⟨a0, a1, a2⟩ := kA1.three
    have ycell := kY1.cell 0
    simp at ycell
    by_cases hlt : j < N
    · obtain ⟨Y, hY⟩ : ∃ Y, f + (j : Int) = Y := ⟨_, rfl⟩
      rw [hY]
      have hY1 : isY Y := ⟨by omega, by omega⟩
      have M := Lib.hid (impl_mark Y hY1)
      have T := Lib.hid (impl_told (ind Y) (ep Y) (con Y) a e c)
      have hYt : Y ≤ t := by omega
      unfold mV at M T
      have HY1 : Hid (tl a (ind Y) = a ∧ tlE e (ep Y) = e ∧ tl c (con Y) = c → ym a e c f (j + 1) = ym a e c f j ++ [Y]) := Lib.hid fun h => by
        have := (told_iff hmk Y).1 h
        rw [← hY] at this
        rw [← hY, ym, if_pos this]
      have HY2 : Hid (¬ (tl a (ind Y) = a ∧ tlE e (ep Y) = e ∧ tl c (con Y) = c) → ym a e c f (j + 1) = ym a e c f j) := Lib.hid fun h => by
        have : ¬ fits a e c Y := fun q => h ((told_iff hmk Y).2 q)
        rw [← hY] at this
        rw [ym, if_neg this, List.append_nil]
      have ib := ind_bd Y
      have pb := ep_bd Y
      have qb := con_bd Y
      have X1 : -1 ≤ tl a (ind Y) ∧ tl a (ind Y) ≤ 30 := by unfold tl; split <;> omega
      have X2 : -1 ≤ tlE e (ep Y) ∧ tlE e (ep Y) ≤ 30 := by unfold tlE; split <;> omega
      have X3 : -1 ≤ tl c (con Y) ∧ tl c (con Y) ≤ 30 := by unfold tl; split <;> omega
      clear ib pb qb
      generalize ind Y = i at *
      generalize ep Y = p at *
      generalize con Y = q at *
      generalize tl a i = x1 at *
      generalize tlE e p = x2 at *
      generalize tl c q = x3 at *
      obtain ⟨kx, hkx⟩ := key_small X1 X2 X3
      unfold mV at hkx
      go_wp2_with fail
      have e0 : (wr.alloc (.cells #[.int .i64 0, .int .i64 0, .int .i64 0] 42)).drew.cell? ⟨gA, 0, none⟩ = some (.int .i64 a) := cell_al a0
      have e1 : (wr.alloc (.cells #[.int .i64 0, .int .i64 0, .int .i64 0] 42)).drew.cell? ⟨gA, 1, none⟩ = some (.int .i64 e) := cell_al a1
      have e2 : (wr.alloc (.cells #[.int .i64 0, .int .i64 0, .int .i64 0] 42)).drew.cell? ⟨gA, 2, none⟩ = some (.int .i64 c) := cell_al a2
      have d0 : wr.drew.cell? ⟨gA, 0, none⟩ = some (.int .i64 a) := a0
      have d1 : wr.drew.cell? ⟨gA, 1, none⟩ = some (.int .i64 e) := a1
      have d2 : wr.drew.cell? ⟨gA, 2, none⟩ = some (.int .i64 c) := a2
      have ltA : gA < wr.heap.size := by omega
      go_region_held3 (fun w' => w'.cell? ⟨gA, 0, none⟩ = some (.int .i64 a) ∧ w'.cell? ⟨gA, 1, none⟩ = some (.int .i64 e) ∧ w'.cell? ⟨gA, 2, none⟩ = some (.int .i64 c))
        (first | with_reducible exact ⟨d0, d1, d2⟩ | with_reducible exact ⟨cell_al d0, cell_al d1, cell_al d2⟩ | with_reducible exact ⟨m0, m1, m2⟩ | with_reducible exact ⟨cell_al m0, cell_al m1, cell_al m2⟩ | with_reducible exact ⟨t0, t1, t2⟩ | with_reducible exact ⟨cell_al t0, cell_al t1, cell_al t2⟩ | with_reducible exact ⟨e0, e1, e2⟩ | exact ⟨cell_far t0 (by omega), cell_far t1 (by omega), cell_far t2 (by omega)⟩ | exact ⟨cell_far (cell_al t0) (by omega), cell_far (cell_al t1) (by omega), cell_far (cell_al t2) (by omega)⟩)
        (first | (go_at_call 73; refine (M.out _).mono ?_; rintro e9 wm ⟨rfl, hqm⟩; (first | ((with_reducible have hz := new_blk_d hqm); obtain ⟨hm, kn⟩ := hz; obtain ⟨n0, n1, n2⟩ := kn.three; have nf0 := kn.frozen 0; have nf1 := kn.frozen 1; have nf2 := kn.frozen 2) | ((with_reducible have hm := drew_on hqm))); have m0 := cell_keep hm a0; have m1 := cell_keep hm a1; have m2 := cell_keep hm a2; have sm := hm.size) | (go_at_call 94; refine (T.out _).mono ?_; rintro e9 wt ⟨rfl, hqt⟩; (first | ((with_reducible have hz := new_blk hqt); obtain ⟨ht2, kt⟩ := hz; obtain ⟨n0, n1, n2⟩ := kt.three; have nf0 := kt.frozen 0; have nf1 := kt.frozen 1; have nf2 := kt.frozen 2) | (have ht2 := hqt; have kt := kn.below ht2 kn.lt; obtain ⟨n0, n1, n2⟩ := kt.three; have nf0 := kt.frozen 0; have nf1 := kt.frozen 1; have nf2 := kt.frozen 2) | (have ht2 := hqt)); have t0 := cell_keep ht2 m0; have t1 := cell_keep ht2 m1; have t2 := cell_keep ht2 m2; have st := ht2.size))
      · have F : Below wr.heap.size wr (wt.alloc (.cells #[.int .i64 x1, .int .i64 x2, .int .i64 x3] 42)) ∧ Blk (wt.alloc (.cells #[.int .i64 x1, .int .i64 x2, .int .i64 x3] 42)) wt.heap.size 42 #[.int .i64 x1, .int .i64 x2, .int .i64 x3] :=
          ⟨(below_on hm ht2).alloc (by omega) _, Blk.new _ _ _⟩
        generalize wt.alloc (.cells #[.int .i64 x1, .int .i64 x2, .int .i64 x3] 42) = W at *
        generalize wt.heap.size = G at *
        clear hqm hqt hm ht2 sm st m0 m1 m2 t0 t1 t2 e0 e1 e2 d0 d1 d2 M T tcell
        obtain ⟨hBW, BK⟩ := F
        obtain ⟨k0, k1, k2⟩ := BK.three
        have yc := (kY1.below hBW kY1.lt).cell 0
        simp at yc
        have hownW := groups_on hown hBW
        have hown2 := groups_alloc hownW (.cells #[.int .i64 Y] 2)
        go_wp2_with (refine Ent.wpList_entry _ rfl _ _ 87 rfl 42 47 2 .i64 keyed Try.underlying87 zeroRow base b j _ rfl hown2 (by unfold maxLen; omega) _ kx rfl hkx ?_)
        intro v zs st w1 hat hoi hzl hg1 hback
        have news := news_in hg1 (by have := hBW.size; omega)
        have sz1 := hg1.size
        simp at sz1
        obtain ⟨i0, hi, hz0, hz1, hz2⟩ := info_parts Ints.info_int
        go_wp2_with (at_builtin; refine wpList_append_own_at _ rfl _ _ 47 rfl base 2 i0 (.int .i64 0) 1 8 Try.underlying47 hi hz0 hz1 hz2 rfl (by decide) _ _ _ rfl hoi.1 ⟨W.heap.size, 0, none⟩ 1 1 [.int .i64 Y] rfl rfl news (Ints.one_one Y) (by unfold maxLen; omega) (by omega) (by have := hBW.size; omega) ?_)
        intro v' w2 hown' hgrow hnil hloc
        have hwf : (Lit.int .i64 Y).wf = true := WalkArith.wf_i64 ⟨by omega, by omega⟩
        have hoi2 := hoi.appended hown' hwf
        have hloc2 : v'.ownBlock = v.ownBlock ∨ ∃ g, v'.ownBlock = some g ∧ W.heap.size + 1 ≤ g := hloc.imp id fun h => ⟨_, h, sz1⟩
        have FIN := Lib.hid fun (w3 : World) (q : w2.grownBy w3 (some b)) => fin_round (f := f) (a := a) (e := e) (c := c) hb hBW kY1 (by omega) hbY hYb hbs hg1 hoi hgrow HA.out hD hkl hkx HY1.out HY2.out hat hoi2 q
        go_wp2_with (refine Ent.wpList_entryStore _ rfl _ _ _ 87 rfl hback rfl rfl rfl hgrow hoi2 (by simp; omega) hloc2 ?_)
        intro w3 hown3 hg3
        have FIN3 := Lib.hid (FIN.out w3 hg3)
        clear FIN hoi hoi2 hown' hgrow hnil hloc hloc2 hback hg1 news hg3 hownW hown2 hown hb kY1
        go_wp2_with fail
        go_roundg (N - (j + 1))
        case measure => omega
        case rel => exact ⟨j + 1, _, by rw [← hY]; push_cast; rw [Int.add_assoc], by omega, by omega, hown3, Lib.hid FIN3.out.1, FIN3.out.2.1, FIN3.out.2.2.1, FIN3.out.2.2.2.1, FIN3.out.2.2.2.2⟩
      · have F := set_three (x1 := .int .i64 x1) (x2 := .int .i64 x2) (x3 := .int .i64 x3) (below_on hm ht2) (by omega) kt
        generalize ((wt.setCell ⟨wm.heap.size, 0, none⟩ (.int .i64 x1)).setCell ⟨wm.heap.size, 1, none⟩ (.int .i64 x2)).setCell ⟨wm.heap.size, 2, none⟩ (.int .i64 x3) = W at *
        clear kt n0 n1 n2 nf0 nf1 nf2 hqm hqt hm ht2 sm st m0 m1 m2 t0 t1 t2 e0 e1 e2 d0 d1 d2 M T tcell
        obtain ⟨hBW, BK⟩ := F
        obtain ⟨k0, k1, k2⟩ := BK.three
        have yc := (kY1.below hBW kY1.lt).cell 0
        simp at yc
        have hownW := groups_on hown hBW
        have hown2 := groups_alloc hownW (.cells #[.int .i64 Y] 2)
        go_wp2_with (refine Ent.wpList_entry _ rfl _ _ 87 rfl 42 47 2 .i64 keyed Try.underlying87 zeroRow base b j _ rfl hown2 (by unfold maxLen; omega) _ kx rfl hkx ?_)
        intro v zs st w1 hat hoi hzl hg1 hback
        have news := news_in hg1 (by have := hBW.size; omega)
        have sz1 := hg1.size
        simp at sz1
        obtain ⟨i0, hi, hz0, hz1, hz2⟩ := info_parts Ints.info_int
        go_wp2_with (at_builtin; refine wpList_append_own_at _ rfl _ _ 47 rfl base 2 i0 (.int .i64 0) 1 8 Try.underlying47 hi hz0 hz1 hz2 rfl (by decide) _ _ _ rfl hoi.1 ⟨W.heap.size, 0, none⟩ 1 1 [.int .i64 Y] rfl rfl news (Ints.one_one Y) (by unfold maxLen; omega) (by omega) (by have := hBW.size; omega) ?_)
        intro v' w2 hown' hgrow hnil hloc
        have hwf : (Lit.int .i64 Y).wf = true := WalkArith.wf_i64 ⟨by omega, by omega⟩
        have hoi2 := hoi.appended hown' hwf
        have hloc2 : v'.ownBlock = v.ownBlock ∨ ∃ g, v'.ownBlock = some g ∧ W.heap.size + 1 ≤ g := hloc.imp id fun h => ⟨_, h, sz1⟩
        have FIN := Lib.hid fun (w3 : World) (q : w2.grownBy w3 (some b)) => fin_round (f := f) (a := a) (e := e) (c := c) hb hBW kY1 (by omega) hbY hYb hbs hg1 hoi hgrow HA.out hD hkl hkx HY1.out HY2.out hat hoi2 q
        go_wp2_with (refine Ent.wpList_entryStore _ rfl _ _ _ 87 rfl hback rfl rfl rfl hgrow hoi2 (by simp; omega) hloc2 ?_)
        intro w3 hown3 hg3
        have FIN3 := Lib.hid (FIN.out w3 hg3)
        clear FIN hoi hoi2 hown' hgrow hnil hloc hloc2 hback hg1 news hg3 hownW hown2 hown hb kY1
        go_wp2_with fail
        go_roundg (N - (j + 1))
        case measure => omega
        case rel => exact ⟨j + 1, _, by rw [← hY]; push_cast; rw [Int.add_assoc], by omega, by omega, hown3, Lib.hid FIN3.out.1, FIN3.out.2.1, FIN3.out.2.2.1, FIN3.out.2.2.2.1, FIN3.out.2.2.2.2⟩
      · have F := set_three (x1 := .int .i64 x1) (x2 := .int .i64 x2) (x3 := .int .i64 x3) (below_on hm ht2) (by omega) kt
        generalize ((wt.setCell ⟨wr.heap.size, 0, none⟩ (.int .i64 x1)).setCell ⟨wr.heap.size, 1, none⟩ (.int .i64 x2)).setCell ⟨wr.heap.size, 2, none⟩ (.int .i64 x3) = W at *
        clear kt kn n0 n1 n2 nf0 nf1 nf2 hqm hqt hm ht2 sm st m0 m1 m2 t0 t1 t2 e0 e1 e2 d0 d1 d2 M T tcell
        obtain ⟨hBW, BK⟩ := F
        obtain ⟨k0, k1, k2⟩ := BK.three
        have yc := (kY1.below hBW kY1.lt).cell 0
        simp at yc
        have hownW := groups_on hown hBW
        have hown2 := groups_alloc hownW (.cells #[.int .i64 Y] 2)
        go_wp2_with (refine Ent.wpList_entry _ rfl _ _ 87 rfl 42 47 2 .i64 keyed Try.underlying87 zeroRow base b j _ rfl hown2 (by unfold maxLen; omega) _ kx rfl hkx ?_)
        intro v zs st w1 hat hoi hzl hg1 hback
        have news := news_in hg1 (by have := hBW.size; omega)
        have sz1 := hg1.size
        simp at sz1
        obtain ⟨i0, hi, hz0, hz1, hz2⟩ := info_parts Ints.info_int
        go_wp2_with (at_builtin; refine wpList_append_own_at _ rfl _ _ 47 rfl base 2 i0 (.int .i64 0) 1 8 Try.underlying47 hi hz0 hz1 hz2 rfl (by decide) _ _ _ rfl hoi.1 ⟨W.heap.size, 0, none⟩ 1 1 [.int .i64 Y] rfl rfl news (Ints.one_one Y) (by unfold maxLen; omega) (by omega) (by have := hBW.size; omega) ?_)
        intro v' w2 hown' hgrow hnil hloc
        have hwf : (Lit.int .i64 Y).wf = true := WalkArith.wf_i64 ⟨by omega, by omega⟩
        have hoi2 := hoi.appended hown' hwf
        have hloc2 : v'.ownBlock = v.ownBlock ∨ ∃ g, v'.ownBlock = some g ∧ W.heap.size + 1 ≤ g := hloc.imp id fun h => ⟨_, h, sz1⟩
        have FIN := Lib.hid fun (w3 : World) (q : w2.grownBy w3 (some b)) => fin_round (f := f) (a := a) (e := e) (c := c) hb hBW kY1 (by omega) hbY hYb hbs hg1 hoi hgrow HA.out hD hkl hkx HY1.out HY2.out hat hoi2 q
        go_wp2_with (refine Ent.wpList_entryStore _ rfl _ _ _ 87 rfl hback rfl rfl rfl hgrow hoi2 (by simp; omega) hloc2 ?_)
        intro w3 hown3 hg3
        have FIN3 := Lib.hid (FIN.out w3 hg3)
        clear FIN hoi hoi2 hown' hgrow hnil hloc hloc2 hback hg1 news hg3 hownW hown2 hown hb kY1
        go_wp2_with fail
        go_roundg (N - (j + 1))
        case measure => omega
        case rel => exact ⟨j + 1, _, by rw [← hY]; push_cast; rw [Int.add_assoc], by omega, by omega, hown3, Lib.hid FIN3.out.1, FIN3.out.2.1, FIN3.out.2.2.1, FIN3.out.2.2.2.1, FIN3.out.2.2.2.2⟩
    · have ej : j = N := by omega
      subst ej
      have hge : t < f + j := by omega
      clear hlt
      go_wp2_with fail
      go_end0
      exact ⟨rfl, D, hown, HA.out, hb⟩

theorem at_old {w : World} {o x : Obj} {g : Nat} (h : w.heap[g]? = some x) : (w.alloc o).heap[g]? = some x := (Below.heap_alloc w o g (Array.getElem?_eq_some_iff.1 h).1).trans h
theorem at_new (w : World) (o : Obj) {n : Nat} (h : w.heap.size = n) : (w.alloc o).heap[n]? = some o := h ▸ heap_alloc_new w o
/-- The world at the door. -/
theorem door (w : World) (oA oF oT oM oY : Obj) (W : World) (hW : ((((w.alloc oA).alloc oF).alloc oT).alloc oM).alloc oY = W) :
    W.heap[w.heap.size]? = some oA ∧ W.heap[w.heap.size + 1]? = some oF ∧ W.heap[w.heap.size + 1 + 1]? = some oT ∧ W.heap[w.heap.size + 1 + 1 + 1]? = some oM ∧ W.heap[w.heap.size + 1 + 1 + 1 + 1]? = some oY ∧
      W.heap.size = w.heap.size + 5 ∧ Below w.heap.size w W := by
  subst hW
  exact ⟨at_old (at_old (at_old (at_old (at_new w oA rfl)))), at_old (at_old (at_old (at_new _ oF (by simp)))), at_old (at_old (at_new _ oT (by simp))), at_old (at_new _ oM (by simp)), at_new _ oY (by simp), by simp,
    (((((Below.refl w.heap.size w).alloc (Nat.le_refl _) _).alloc (by simp) _).alloc (by simp; omega) _).alloc (by simp; omega) _).alloc (by simp; omega) _⟩

set_option maxRecDepth 100000 in
set_option maxHeartbeats 4000000 in
theorem impl_yearsByMark (a e c f t : Int) (hmk : mkOk a e c) (hf : 1 ≤ f) (ht : t ≤ 2000) (N : Nat) (hN : (N : Int) = t + 1 - f) (kl : Lit) (hkl : keyOf Try.prog 42 (mV a e c) = some kl) (w : World) :
    Calls Try.prog 79 #[mV a e c, .int .i64 f, .int .i64 t] w fun x w' => ∃ (b base : Nat) (D : DataW Unit), x = .returned (.map (some b)) ∧ w.heap.size ≤ b ∧ b < base ∧
      w'.ownsGroups Try.prog 42 base 2 .i64 b N D ∧ AtIs D kl (ym a e c f N) ∧ Below w.heap.size w w' := by
  have hmf : ∀ (fn : Fn) (first cap : Array Value) (w : World), (Instr.makeFunc fn first cap).run Try.prog w = .ok (.func fn first cap) w := fun _ _ _ _ => rfl
  have hmm := @run_makeMap Try.prog
  have HF := Lib.hid (impl_fill a e c f t hmk hf ht N hN)
  unfold mV
  clear hmk
  have DO := Lib.hid (door w (.cells #[.int .i64 a, .int .i64 e, .int .i64 c] 42) (.cells #[.int .i64 f] 2) (.cells #[.int .i64 t] 2) (.map #[] 0) (.cells #[.map (some (w.heap.size + 1 + 1 + 1))] 87))
  go_enter_defers Try.func79, Try.ntmps79
  go_wp2
  obtain ⟨d1, d2, d3, d4, d5, d6, d7⟩ := DO.out _ rfl
  refine leaves_cons (f := 93) (args := #[.pointer (some ⟨w.heap.size + 1, 0, none⟩), .pointer (some ⟨w.heap.size + 1 + 1, 0, none⟩), .pointer (some ⟨w.heap.size, 0, none⟩), .pointer (some ⟨w.heap.size + 1 + 1 + 1 + 1, 0, none⟩)]) (by simp) (by simp [go_sem]) ?_
  refine (HF.out w.heap.size (w.heap.size + 1) (w.heap.size + 1 + 1) (w.heap.size + 1 + 1 + 1 + 1) (w.heap.size + 1 + 1 + 1) (w.heap.size + 5) (by omega) (by omega) (by omega) (by omega) .returning _ (by omega) d1 d2 d3 d5 d4 kl hkl).mono ?_
  rintro x u' w2 ⟨rfl, rfl, D, g1, g2, g3⟩
  exact ⟨_, results_tmp rfl _ _ _, _, _, D, rfl, by omega, by omega, g1, g2, d7.trans (g3.mono (by omega))⟩

set_option maxRecDepth 100000 in
set_option maxHeartbeats 4000000 in
theorem impl_YearsMarked_yes (a e c f t : Int) (hm : mkOk a e c) (hr : ymR f t) (w : World) :
    Calls Try.prog 35 #[mV a e c, .int .i64 f, .int .i64 t] w (Fea.IntsOut (ym a e c f (t + 1 - f).toNat) 0 w) := by
  have M := Lib.hid (impl_IsYearMark a e c true (decide_eq_true hm))
  obtain ⟨⟨f1, f2⟩, hft, ht⟩ := hr
  have Y1 := Lib.hid (impl_year_yes f f1 f2)
  have Y2 := Lib.hid (impl_year_yes t (by omega) (by omega))
  obtain ⟨N, hN⟩ : ∃ N, (t + 1 - f).toNat = N := ⟨_, rfl⟩
  have hN2 : (N : Int) = t + 1 - f := by omega
  rw [hN]
  obtain ⟨kl, hkl⟩ := key_small (a := a) (e := e) (c := c) (by have := hm.1; omega) (by have := hm.2.1; omega) (by have := hm.2.2; omega)
  have H := Lib.hid (impl_yearsByMark a e c f t hm f1 (by omega) N hN2 kl hkl)
  have HK := Lib.hid hkl
  clear hN hm hkl
  have l1 : ¬ t < f := by omega
  have l2 : ¬ 600 < t - f := by omega
  unfold mV at M H HK ⊢
  have S0 := (St.start w).alloc 42 #[.int .i64 a, .int .i64 e, .int .i64 c]
  obtain ⟨c0, c1, c2⟩ := S0.b0.three
  go_enter Try.func35, Try.ntmps35
  go_wp2_with fail
  refine (M.out _).mono ?_
  rintro e9 w1 ⟨rfl, hb1⟩
  have S1 := S0.call hb1
  clear S0 hb1 c0 c1 c2 M
  go_wp2_with fail
  refine (Y1.out _).mono ?_
  rintro e9 w9 ⟨rfl, rfl⟩
  go_wp2_with fail
  refine (Y2.out _).mono ?_
  rintro e9 w9 ⟨rfl, rfl⟩
  obtain ⟨c0, c1, c2⟩ := S1.b0.three
  have hb2 := S1.bel
  have kb := S1.b0
  clear S1
  have d0 : w1.drew.cell? ⟨w.heap.size, 0, none⟩ = some (.int .i64 a) := c0
  have d1 : w1.drew.cell? ⟨w.heap.size, 1, none⟩ = some (.int .i64 e) := c1
  have d2 : w1.drew.cell? ⟨w.heap.size, 2, none⟩ = some (.int .i64 c) := c2
  go_wp2_with fail
  go_region_held3 (fun w' => w'.cell? ⟨w.heap.size, 0, none⟩ = some (.int .i64 a) ∧ w'.cell? ⟨w.heap.size, 1, none⟩ = some (.int .i64 e) ∧ w'.cell? ⟨w.heap.size, 2, none⟩ = some (.int .i64 c))
    (first | with_reducible exact ⟨c0, c1, c2⟩ | with_reducible exact ⟨d0, d1, d2⟩ | with_reducible exact ⟨q0, q1, q2⟩)
    (first | (go_at_call 79; refine (H.out _).mono ?_; rintro e9 wq ⟨b, base, D, rfl, hbs, hbb, hown, hat, hqd⟩; have hq := drew_on hqd; have q0 := cell_keep hq c0; have q1 := cell_keep hq c1; have q2 := cell_keep hq c2; obtain ⟨v, zs, hrun, hz, hoi, hzl, -⟩ := hown.at keyed Try.underlying87 (zeroRow _) (by unfold maxLen; omega) HK.out))
  go_wp2
  rw [← hat wq base v zs hoi hz]
  have sz := hb2.size
  have own : Ints.Own wq w.heap.size v zs := Ints.Own.mono (B := base) hoi.1 (by have : w1.heap.size ≤ b := hbs; omega)
  go_ret2
  exact Fea.IntsOut.of own (hb2.trans (hq.mono hb2.size))

set_option maxRecDepth 100000 in
theorem impl_ym_1 (a e c f t : Int) (hm : ¬ mkOk a e c) (w : World) : Calls Try.prog 35 #[mV a e c, .int .i64 f, .int .i64 t] w (Fea.IntsOut [] 1 w) := by
  have M := Lib.hid (impl_IsYearMark a e c false (decide_eq_false hm))
  clear hm
  unfold mV at M ⊢
  have S0 := (St.start w).alloc 42 #[.int .i64 a, .int .i64 e, .int .i64 c]
  obtain ⟨c0, c1, c2⟩ := S0.b0.three
  go_enter Try.func35, Try.ntmps35
  go_wp2_with fail
  refine (M.out _).mono ?_
  rintro e9 w1 ⟨rfl, hb1⟩
  have S1 := S0.call hb1
  clear S0 hb1 c0 c1 c2 M
  go_wp2_with fail
  go_ret2
  exact Fea.IntsOut.empty S1.bel

set_option maxRecDepth 100000 in
theorem impl_ym_2 (a e c f t : Int) (hm : mkOk a e c) (hf : ¬ isY f) (w : World) : Calls Try.prog 35 #[mV a e c, .int .i64 f, .int .i64 t] w (Fea.IntsOut [] 2 w) := by
  have M := Lib.hid (impl_IsYearMark a e c true (decide_eq_true hm))
  clear hm
  have Y1 := Lib.hid (impl_year_no f hf)
  clear hf
  unfold mV at M ⊢
  have S0 := (St.start w).alloc 42 #[.int .i64 a, .int .i64 e, .int .i64 c]
  obtain ⟨c0, c1, c2⟩ := S0.b0.three
  go_enter Try.func35, Try.ntmps35
  go_wp2_with fail
  refine (M.out _).mono ?_
  rintro e9 w1 ⟨rfl, hb1⟩
  have S1 := S0.call hb1
  clear S0 hb1 c0 c1 c2 M
  go_wp2_with fail
  refine (Y1.out _).mono ?_
  rintro e9 w9 ⟨rfl, rfl⟩
  go_wp2_with fail
  go_ret2
  exact Fea.IntsOut.empty S1.bel

set_option maxRecDepth 100000 in
theorem impl_ym_3 (a e c f t : Int) (hm : mkOk a e c) (hf : isY f) (ht : ¬ isY t) (w : World) : Calls Try.prog 35 #[mV a e c, .int .i64 f, .int .i64 t] w (Fea.IntsOut [] 2 w) := by
  have M := Lib.hid (impl_IsYearMark a e c true (decide_eq_true hm))
  clear hm
  have Y1 := Lib.hid (impl_year_yes f hf.1 hf.2)
  have Y2 := Lib.hid (impl_year_no t ht)
  clear hf ht
  unfold mV at M ⊢
  have S0 := (St.start w).alloc 42 #[.int .i64 a, .int .i64 e, .int .i64 c]
  obtain ⟨c0, c1, c2⟩ := S0.b0.three
  go_enter Try.func35, Try.ntmps35
  go_wp2_with fail
  refine (M.out _).mono ?_
  rintro e9 w1 ⟨rfl, hb1⟩
  have S1 := S0.call hb1
  clear S0 hb1 c0 c1 c2 M
  go_wp2_with fail
  refine (Y1.out _).mono ?_
  rintro e9 w9 ⟨rfl, rfl⟩
  go_wp2_with fail
  refine (Y2.out _).mono ?_
  rintro e9 w9 ⟨rfl, rfl⟩
  go_wp2_with fail
  go_ret2
  exact Fea.IntsOut.empty S1.bel

set_option maxRecDepth 100000 in
theorem impl_ym_4 (a e c f t : Int) (hm : mkOk a e c) (hf : isY f) (ht : isY t) (hl : t < f) (w : World) : Calls Try.prog 35 #[mV a e c, .int .i64 f, .int .i64 t] w (Fea.IntsOut [] 2 w) := by
  have M := Lib.hid (impl_IsYearMark a e c true (decide_eq_true hm))
  clear hm
  have Y1 := Lib.hid (impl_year_yes f hf.1 hf.2)
  have Y2 := Lib.hid (impl_year_yes t ht.1 ht.2)
  obtain ⟨f1, f2⟩ := hf
  obtain ⟨t1, t2⟩ := ht
  unfold mV at M ⊢
  have S0 := (St.start w).alloc 42 #[.int .i64 a, .int .i64 e, .int .i64 c]
  obtain ⟨c0, c1, c2⟩ := S0.b0.three
  go_enter Try.func35, Try.ntmps35
  go_wp2_with fail
  refine (M.out _).mono ?_
  rintro e9 w1 ⟨rfl, hb1⟩
  have S1 := S0.call hb1
  clear S0 hb1 c0 c1 c2 M
  go_wp2_with fail
  refine (Y1.out _).mono ?_
  rintro e9 w9 ⟨rfl, rfl⟩
  go_wp2_with fail
  refine (Y2.out _).mono ?_
  rintro e9 w9 ⟨rfl, rfl⟩
  go_wp2_with fail
  go_ret2
  exact Fea.IntsOut.empty S1.bel

set_option maxRecDepth 100000 in
theorem impl_ym_5 (a e c f t : Int) (hm : mkOk a e c) (hf : isY f) (ht : isY t) (hl : ¬ t < f) (hg : 600 < t - f) (w : World) : Calls Try.prog 35 #[mV a e c, .int .i64 f, .int .i64 t] w (Fea.IntsOut [] 2 w) := by
  have M := Lib.hid (impl_IsYearMark a e c true (decide_eq_true hm))
  clear hm
  have Y1 := Lib.hid (impl_year_yes f hf.1 hf.2)
  have Y2 := Lib.hid (impl_year_yes t ht.1 ht.2)
  obtain ⟨f1, f2⟩ := hf
  obtain ⟨t1, t2⟩ := ht
  unfold mV at M ⊢
  have S0 := (St.start w).alloc 42 #[.int .i64 a, .int .i64 e, .int .i64 c]
  obtain ⟨c0, c1, c2⟩ := S0.b0.three
  go_enter Try.func35, Try.ntmps35
  go_wp2_with fail
  refine (M.out _).mono ?_
  rintro e9 w1 ⟨rfl, hb1⟩
  have S1 := S0.call hb1
  clear S0 hb1 c0 c1 c2 M
  go_wp2_with fail
  refine (Y1.out _).mono ?_
  rintro e9 w9 ⟨rfl, rfl⟩
  go_wp2_with fail
  refine (Y2.out _).mono ?_
  rintro e9 w9 ⟨rfl, rfl⟩
  go_wp2_with fail
  go_ret2
  exact Fea.IntsOut.empty S1.bel

theorem impl_YearsMarked (a e c f t : Int) (w : World) : Calls Try.prog 35 #[mV a e c, .int .i64 f, .int .i64 t] w (Fea.IntsOut (ymL a e c f t) (ymE a e c f t) w) := by
  by_cases hm : mkOk a e c
  · by_cases hr : ymR f t
    · rw [show ymL a e c f t = ym a e c f (t + 1 - f).toNat from if_pos ⟨hm, hr⟩, show ymE a e c f t = 0 by simp [ymE, hm, hr]]
      exact impl_YearsMarked_yes a e c f t hm hr w
    · rw [show ymL a e c f t = [] from if_neg (fun h => hr h.2), show ymE a e c f t = 2 by simp [ymE, hm, hr]]
      by_cases hf : isY f
      · by_cases ht : isY t
        · by_cases hl : t < f
          · exact impl_ym_4 a e c f t hm hf ht hl w
          · refine impl_ym_5 a e c f t hm hf ht hl ?_ w
            have h2 : ¬ t ≤ min 2000 (f + 600) := fun q => hr ⟨hf, by omega, q⟩
            have := ht.2
            omega
        · exact impl_ym_3 a e c f t hm hf ht w
      · exact impl_ym_2 a e c f t hm hf w
  · rw [show ymL a e c f t = [] from if_neg (fun h => hm h.1), show ymE a e c f t = 1 by simp [ymE, hm]]
    exact impl_ym_1 a e c f t hm w

end Go.Proofs.Ytfienklaafialaa.Ind
