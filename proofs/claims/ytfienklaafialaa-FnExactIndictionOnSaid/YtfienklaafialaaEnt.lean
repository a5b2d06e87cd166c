/- A map of rows of numbers that a call makes: the entry at a key and the store into it, with an append between them, beside other work. -/
import Derived.Test.YtfienklaafialaaBlk
import Derived.Maps.GroupsBeside
import Derived.WideKeyEntry
import Derived.DeepKeys4
namespace Go.Proofs.Ytfienklaafialaa.Ent
open Go.RowKit Go.Maps Go.MapKept Go.WideElems
open Go.ChangeMaps (setBlock heap_setBlock_same heap_setBlock_other modify_eq_set)

section
variable {P : Program} {k : TypeId}
/-- What a search among entries finds hangs on no world. -/
theorem find_all (K : Keyed P k) {x : Value} {lx : Lit} (hx : keyOf P k x = some lx) (es : List MapEntry) (hes : ∀ e ∈ es, ∃ l, keyOf P k e.key = some l) (hn : es.Pairwise (fun a b => a.key ≠ b.key)) :
    ((∀ u, (Instr.findKey k x es).run P u = .ok none u) ∧ ∀ e ∈ es, e.key ≠ x) ∨ ∃ j e, es[j]? = some e ∧ e.key = x ∧ ∀ u, (Instr.findKey k x es).run P u = .ok (some (j, e.val)) u := by
  by_cases h : ∃ e ∈ es, e.key = x
  · right
    obtain ⟨e, he, hk⟩ := h
    obtain ⟨j, hj⟩ := List.mem_iff_getElem?.1 he
    refine ⟨j, e, hj, hk, fun u => ?_⟩
    rcases K.find u hx es hes with ⟨-, h2⟩ | ⟨j', e', h1, h2, h3⟩
    · exact absurd hk (h2 e he)
    · obtain ⟨l1, g1⟩ := List.getElem?_eq_some_iff.1 hj
      obtain ⟨l2, g2⟩ := List.getElem?_eq_some_iff.1 h2
      rw [List.pairwise_iff_getElem] at hn
      have ej : j' = j := by
        rcases Nat.lt_trichotomy j' j with q | q | q
        · exact absurd (by rw [g1, g2, hk, h3]) (hn j' j l2 l1 q)
        · exact q
        · exact absurd (by rw [g1, g2, hk, h3]) (hn j j' l1 l2 q)
      subst ej
      rw [hj] at h2
      cases h2
      exact h1
  · left
    have h2 : ∀ e ∈ es, e.key ≠ x := fun e he hk => h ⟨e, he, hk⟩
    refine ⟨fun u => ?_, h2⟩
    rcases K.find u hx es hes with ⟨h1, -⟩ | ⟨j, e, -, g2, g3⟩
    · exact h1
    · exact absurd g3 (h2 e (List.mem_of_getElem? g2))

variable {H : Type} {t E : TypeId} {R : Value → Option (DataW H × List MemPlace)} {b : Nat} {es : Array MapEntry} {clock : Nat}
/-- The entry at a key, the look-up there, the store into the entry and the store at the key, in whatever world holds the map. -/
theorem entry_pair (K : Keyed P k) (ht : P.underlying t = some (.map k E)) {z : Value} (hz : ∀ u : World, (zeroValue E).run P u = .ok z u) (F : Fit P k R es clock) {key : Value} {kl : Lit} (hkey : keyOf P k key = some kl) :
    ∃ (v0 : Value) (st : Nat) (es1 : Array MapEntry) (clock1 : Nat),
      (∀ u : World, u.heap[b]? = some (.map es clock) → (Instr.mapEntry t (.map (some b)) key).run P u = .ok (.tuple #[v0, .int .i64 st]) (setBlock u b (.map es1 clock1)) ∧ (Instr.lookup t (.map (some b)) key false).run P u = .ok v0 u) ∧
      ∀ val : Value, ∃ (es' : Array MapEntry) (clock' : Nat), (∀ u : World, u.heap[b]? = some (.map es1 clock1) → (Instr.entryStore t (.map (some b)) (.int .i64 st) val).run P u = .ok () (setBlock u b (.map es' clock'))) ∧
        ∀ u : World, u.heap[b]? = some (.map es clock) → (Instr.mapUpdate t (.map (some b)) key val).run P u = .ok () (setBlock u b (.map es' clock')) := by
  obtain ⟨s1, s2, s3⟩ := (stamped_iff es clock).1 F.stamped
  rcases find_all K hkey es.toList (fun e he => by obtain ⟨y, hy⟩ := F.reads e he; exact ⟨_, rd_key hy⟩) s3 with ⟨h1, h2⟩ | ⟨j, e0, h2, h3, h1⟩
  · refine ⟨z, clock, es.push ⟨key, z, clock⟩, clock + 1, fun u hb => ⟨?_, ?_⟩, fun val => ⟨es.push ⟨key, val, clock⟩, clock + 1, fun u hb => ?_, fun u hb => ?_⟩⟩
    · simp [Instr.mapEntry, run_underlying ht, MapKept.run_getObj_map hb, K.check u false hkey, h1, hz, MapKept.run_setObj_map _ hb, Result.andThen, setBlock, goInt]
    · simp [Instr.lookup, run_underlying ht, MapKept.run_getObj_map hb, fun m => K.check u m hkey, h1, hz, Result.andThen]
    · have hidx : (es.push ⟨key, z, clock⟩).findIdx? (fun e => ((e.born : Nat) : Int) == ((clock : Nat) : Int)) = some es.size := by
        have := findIdx_born (l := (es.push ⟨key, z, clock⟩).toList) (j := es.size) (e0 := ⟨key, z, clock⟩) (by
          simp only [Array.toList_push, List.map_append, List.map_cons, List.map_nil]
          refine List.nodup_append.2 ⟨s2, by simp, fun a ha c hc e1 => ?_⟩
          obtain ⟨x, hx, rfl⟩ := List.mem_map.1 ha
          have := s1 x hx
          simp at hc
          omega) (by simp)
        rw [findIdx_arr]
        exact this
      have hmod : (es.push ⟨key, z, clock⟩).modify es.size (fun e => { e with val := val }) = es.push ⟨key, val, clock⟩ := by
        apply Array.ext'
        rw [Array.toList_modify, Array.toList_push, Array.toList_push, ← Array.length_toList, modify_last]
      simp [Instr.entryStore, MapKept.run_getObj_map hb, asInt, asIntOf, hidx, hmod, MapKept.run_setObj_map _ hb, Result.andThen, setBlock]
    · simp [Instr.mapUpdate, run_underlying ht, MapKept.run_getObj_map hb, K.check u false hkey, h1, MapKept.run_setObj_map _ hb, Result.andThen, setBlock]
  · have hj : es[j]? = some e0 := by simpa using h2
    have hsame : es.modify j (fun e => { e with key := key }) = es := by
      apply Array.ext'
      rw [Array.toList_modify, modify_eq_set _ _ _ _ h2, ← h3]
      exact set_self _ _ _ h2
    refine ⟨e0.val, e0.born, es, clock, fun u hb => ⟨?_, ?_⟩, fun val => ⟨es.modify j (fun e' => { e' with key := key, val := val }), clock, fun u hb => ?_, fun u hb => ?_⟩⟩
    · simp [Instr.mapEntry, run_underlying ht, MapKept.run_getObj_map hb, K.check u false hkey, h1, hj, h3, K.stays u hkey, hsame, MapKept.run_setObj_map _ hb, Result.andThen, setBlock, goInt]
    · simp [Instr.lookup, run_underlying ht, MapKept.run_getObj_map hb, fun m => K.check u m hkey, h1, Result.andThen]
    · have hidx : es.findIdx? (fun e => ((e.born : Nat) : Int) == ((e0.born : Nat) : Int)) = some j := by
        rw [findIdx_arr]
        exact findIdx_born s2 h2
      have hmod : es.modify j (fun e => { e with val := val }) = es.modify j (fun e' => { e' with key := key, val := val }) := by
        apply Array.ext'
        rw [Array.toList_modify, Array.toList_modify, modify_eq_set _ _ _ _ h2, modify_eq_set _ _ _ _ h2, ← h3]
      simp [Instr.entryStore, MapKept.run_getObj_map hb, asInt, asIntOf, hidx, hmod, MapKept.run_setObj_map _ hb, Result.andThen, setBlock]
    · simp [Instr.mapUpdate, run_underlying ht, MapKept.run_getObj_map hb, K.check u false hkey, h1, hj, h3, K.stays u hkey, MapKept.run_setObj_map _ hb, Result.andThen, setBlock]
end

section
variable {H : Type} {P : Program} {k t E e : TypeId} {q : IntKind} {base b n : Nat} {D : DataW H}
/-- The way back of the entry: a store of a row that has grown leaves a map of rows. -/
def EntBack (P : Program) (t k : TypeId) (base : Nat) (e : TypeId) (q : IntKind) (b n N : Nat) (D : DataW H) (kl : Lit) (v : Value) (st : Nat) (w1 : World) : Prop :=
  ∀ (w2 : World) (v' : Value) (zs' : List Int), w1.grownBy w2 v.ownBlock → w2.ownsInts base e q v' zs' → zs'.length ≤ n + 1 → (v'.ownBlock = v.ownBlock ∨ ∃ g, v'.ownBlock = some g ∧ N ≤ g) →
    ∃ w3, (Instr.entryStore t (.map (some b)) (.int .i64 st) v').run P w2 = .ok () w3 ∧ w3.ownsGroups P k base e q b (n + 1) (D.put kl (rowDatum q v' zs')) ∧ w2.grownBy w3 (some b)

theorem groups_entry {w : World} (h : w.ownsGroups P k base e q b n D) (K : Keyed P k) (ht : P.underlying t = some (.map k E)) (hz : ∀ u : World, (zeroValue E).run P u = .ok (.slice none 0 0) u) (hn : n < maxLen) {key : Value} {kl : Lit} (hkey : keyOf P k key = some kl) :
    ∃ (v : Value) (zs : List Int) (st : Nat) (w1 : World), (Instr.mapEntry t (.map (some b)) key).run P w = .ok (.tuple #[v, .int .i64 st]) w1 ∧ D.atKey kl .nil = rowDatum q v zs ∧ w1.ownsInts base e q v zs ∧ zs.length ≤ n ∧ w.grownBy w1 (some b) ∧
      EntBack P t k base e q b n w.heap.size D kl v st w1 := by
  obtain ⟨v, zs, hrun, hat, hoi, hzl, hback⟩ := h.at K ht (hz w) hn hkey
  obtain ⟨es, clock, hb, F, -, -, hbb, -⟩ := h
  have hblt : b < w.heap.size := (Array.getElem?_eq_some_iff.1 hb).1
  obtain ⟨v0, st, es1, clock1, hent, hsto⟩ := entry_pair (b := b) K ht hz F hkey
  obtain ⟨e1, e2⟩ := hent w hb
  have ev : v0 = v := by
    rw [hrun] at e2
    cases e2
    rfl
  subst ev
  have hg1 : w.grownBy (setBlock w b (.map es1 clock1)) (some b) := ⟨rfl, rfl, rfl, by simp [setBlock], fun i _ hi => heap_setBlock_other hb _ (fun e => hi (by rw [e]))⟩
  have hvb : v0.ownBlock = none ∨ v0.ownBlock ≠ some b := by
    cases hv : v0.ownBlock with
    | none => exact .inl rfl
    | some g =>
      refine .inr fun e => ?_
      have := (hoi.1.lt g hv).1
      cases e
      omega
  have hvb2 : some b ≠ v0.ownBlock := by
    rcases hvb with e | e
    · rw [e]; intro e2; cases e2
    · exact fun e2 => e e2.symm
  refine ⟨v0, zs, st, _, e1, hat, hoi.kept hg1 hvb, hzl, hg1, fun w2 v' zs' hg hown' hl' hloc => ?_⟩
  have hs1 : (setBlock w b (.map es1 clock1)).heap.size = w.heap.size := by simp [setBlock]
  have hb1 : (setBlock w b (.map es1 clock1)).heap[b]? = some (.map es1 clock1) := heap_setBlock_same hb _
  have hb2 : w2.heap[b]? = some (.map es1 clock1) := (hg.block b (by rw [hs1]; exact hblt) hvb2).trans hb1
  -- the world with the map as it was before the entry
  have hu : (setBlock w2 b (.map es clock)).heap[b]? = some (.map es clock) := heap_setBlock_same hb2 _
  have hgu : w.grownBy (setBlock w2 b (.map es clock)) v0.ownBlock := by
    refine ⟨hg.os.trans rfl, hg.tape.trans rfl, hg.output.trans rfl, ?_, fun i hi hne => ?_⟩
    · have := hg.size
      rw [hs1] at this
      simpa [setBlock] using this
    · by_cases ei : i = b
      · subst ei
        rw [hu, hb]
      · rw [heap_setBlock_other hb2 _ ei, hg.block i (by rw [hs1]; exact hi) hne]
        exact heap_setBlock_other hb _ ei
  have hg2u : w2.grownBy (setBlock w2 b (.map es clock)) (some b) := ⟨rfl, rfl, rfl, by simp [setBlock], fun i _ hi => heap_setBlock_other hb2 _ (fun e => hi (by rw [e]))⟩
  have hv'b : v'.ownBlock = none ∨ v'.ownBlock ≠ some b := by
    rcases hloc with e | ⟨g, e, hgl⟩
    · rw [e]; exact hvb
    · rw [e]
      refine .inr fun e2 => ?_
      cases e2
      omega
  obtain ⟨u2, r1, r2, r3⟩ := hback _ v' zs' hgu (hown'.kept hg2u hv'b) hl' hloc
  obtain ⟨es', clock', hst, hup⟩ := hsto v'
  have eu : u2 = setBlock w2 b (.map es' clock') := by
    have := hup _ hu
    rw [r1] at this
    cases this
    simp [setBlock]
  subst eu
  exact ⟨_, hst w2 hb2, r2, ⟨rfl, rfl, rfl, by simp [setBlock], fun i _ hi => heap_setBlock_other hb2 _ (fun e => hi (by rw [e]))⟩⟩

/-- The entry at the operation. -/
theorem wpList_entry (w : World) {ops : Array Oper} {rest : List Oper} {o : Oper} {a : Act} {Q : Exit → Act → World → Prop}
    (hg : o.guard = none) (m x : Operand) (t : TypeId) (hop : o.op = Op.mapEntry t m x)
    (k E e : TypeId) (q : IntKind) (K : Keyed P k) (ht : P.underlying t = some (.map k E)) (hz : ∀ u : World, (zeroValue E).run P u = .ok (.slice none 0 0) u) (base b n : Nat) (D : DataW H)
    (hm : a.eval m = .map (some b)) (hown : w.ownsGroups P k base e q b n D) (hn : n < maxLen) (key : Value) (kl : Lit) (hx : a.eval x = key) (hkey : keyOf P k key = some kl)
    (hK : ∀ (v : Value) (zs : List Int) (st : Nat) (w1 : World), D.atKey kl .nil = rowDatum q v zs → w1.ownsInts base e q v zs → zs.length ≤ n → w.grownBy w1 (some b) → EntBack P t k base e q b n w.heap.size D kl v st w1 → wpList P ops Q rest (a.put o.dst (.tuple #[v, .int .i64 st])) w1) :
    wpList P ops Q (o :: rest) a w := by
  refine wpList_plain hg fun K' hK' => ?_
  obtain ⟨v, zs, st, w1, hrun, hat, hoi, hzl, hg1, hback⟩ := groups_entry hown K ht hz hn hkey
  unfold Oper.wp
  simp [execOp, hop, hm, hx, hrun, Result.andThen]
  exact hK' _ _ (hK v zs st w1 hat hoi hzl hg1 hback)

/-- The store into the entry at the operation. -/
theorem wpList_entryStore (w : World) {ops : Array Oper} {rest : List Oper} {o : Oper} {a : Act} {Q : Exit → Act → World → Prop}
    (hg : o.guard = none) (m s x : Operand) (t : TypeId) (hop : o.op = Op.entryStore t m s x)
    {k : TypeId} {base : Nat} {e : TypeId} {q : IntKind} {b n N : Nat} {D : DataW H} {kl : Lit} {v v' : Value} {st : Nat} {w1 : World} {zs' : List Int}
    (hback : EntBack P t k base e q b n N D kl v st w1) (hm : a.eval m = .map (some b)) (hs : a.eval s = .int .i64 st) (hx : a.eval x = v')
    (hgr : w1.grownBy w v.ownBlock) (hown' : w.ownsInts base e q v' zs') (hl' : zs'.length ≤ n + 1) (hloc : v'.ownBlock = v.ownBlock ∨ ∃ g, v'.ownBlock = some g ∧ N ≤ g)
    (hK : ∀ w3, w3.ownsGroups P k base e q b (n + 1) (D.put kl (rowDatum q v' zs')) → w.grownBy w3 (some b) → wpList P ops Q rest (a.put o.dst undef) w3) :
    wpList P ops Q (o :: rest) a w := by
  refine wpList_plain hg fun K' hK' => ?_
  obtain ⟨w3, hrun, r1, r2⟩ := hback w v' zs' hgr hown' hl' hloc
  unfold Oper.wp
  simp [execOp, hop, hm, hs, hx, hrun, Result.andThen]
  exact hK' _ _ (hK w3 r1 r2)
end

end Go.Proofs.Ytfienklaafialaa.Ent
