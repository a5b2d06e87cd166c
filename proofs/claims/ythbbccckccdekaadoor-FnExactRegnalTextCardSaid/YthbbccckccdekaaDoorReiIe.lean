/- Contracts of impl's CountYears, yearSpan, RegnalSpan. -/
import Derived.Test.YthbbccckccdekaaDoorReiId
namespace Go.Proofs.YthbbccckccdekaaDoor.Rei
open Go.RowKit Go.Shelf
open Go.Proofs.YthbbccckccdekaaDoor.Eas (It)
open Go.Proofs.YthbbccckccdekaaDoor.Fea (isDay yr yr_isY)
attribute [local go_sem] Oper.semAt_some

theorem sp_iff {f t k : Int} (f0 : 0 ≤ f) (f1 : f ≤ t) (t1 : t ≤ 730499) : (k ≤ 2000 ∧ rb f k ≤ t) ↔ k ≤ ry f t := by
  rw [← yr_ex f1 t1, nb_le t1]
  have g := (yr_isY f f0 (by omega)).1
  constructor
  · rintro ⟨-, h⟩
    refine ⟨?_, h⟩
    rcases Int.lt_or_le 2000 (yr f + k - 1) with q | q
    · have := rb_far (f := f) (k := k) q; omega
    · exact q
  · rintro ⟨h1, h2⟩
    exact ⟨by omega, h2⟩
theorem _root_.Go.Proofs.YthbbccckccdekaaDoor.St.join {L1 L2 : List (Nat × TypeId × Array Value)} {w0 w1 w2 : World} (h1 : St L1 w0 w1) (h2 : St L2 w1 w2) : St (L2 ++ L1) w0 w2 :=
  ⟨fun x hx => (List.mem_append.1 hx).elim (h2.blk x) ((h1.call h2.bel).blk x), (h1.call h2.bel).bel, fun x hx => (List.mem_append.1 hx).elim (fun q => Nat.le_trans h1.bel.size (h2.old x q)) (h1.old x)⟩
theorem _root_.Go.Proofs.YthbbccckccdekaaDoor.St.sub {L L' : List (Nat × TypeId × Array Value)} {w0 w : World} (h : St L w0 w) (hs : ∀ x ∈ L', x ∈ L) : St L' w0 w := ⟨fun x hx => h.blk x (hs x hx), h.bel, fun x hx => h.old x (hs x hx)⟩

/-- What a walk of yearSpan leaves in its two results. -/
def SpRes (b : Nat) (F T : Int) (ok : Bool) (w0 w : World) : Prop := St [(b, 55, #[.int .i64 F, .int .i64 T]), (b + 1, 4, #[.bool ok])] w0 w
theorem SpRes.start (w0 w : World) (b : Nat) {L : List (Nat × TypeId × Array Value)} {F T F' T' : Int} {ok ok' : Bool} (h : St L w0 w) (h1 : (b, 55, #[.int .i64 F', .int .i64 T']) ∈ L) (h2 : (b + 1, 4, #[.bool ok']) ∈ L) :
    SpRes b F T ok w0 (((w.setCell ⟨b, 0, none⟩ (.int .i64 F)).setCell ⟨b, 1, none⟩ (.int .i64 T)).setCell ⟨b + 1, 0, none⟩ (.bool ok)) := by
  have s0 : St [(b, 55, #[.int .i64 F', .int .i64 T']), (b + 1, 4, #[.bool ok'])] w0 w := h.sub (by
    intro x hx
    simp only [List.mem_cons, List.not_mem_nil, or_false] at hx
    rcases hx with rfl | rfl
    · exact h1
    · exact h2)
  have s1 := s0.put (by simp) 0 (.int .i64 F)
  have s2 := s1.put (by simp) 1 (.int .i64 T)
  have s3 : St [(b + 1, 4, #[.bool ok']), (b, 55, #[.int .i64 F, .int .i64 T])] w0 _ := s2.sub (by
    intro x hx
    simp only [List.mem_cons, List.not_mem_nil, or_false] at hx ⊢
    rcases hx with rfl | rfl
    · exact .inr rfl
    · exact .inl rfl)
  have s4 := s3.put (by simp) 0 (.bool ok)
  exact s4.sub (by
    intro x hx
    simp only [List.mem_cons, List.not_mem_nil, or_false] at hx ⊢
    rcases hx with rfl | rfl
    · exact .inr rfl
    · exact .inl rfl)

end Go.Proofs.YthbbccckccdekaaDoor.Rei
