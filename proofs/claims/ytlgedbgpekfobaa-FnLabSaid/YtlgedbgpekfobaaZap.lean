/- append to a slice that has no room. -/
import Derived.Test.YtlgedbgpekfobaaDrawM
namespace Go.Proofs.Ytlgedbgpekfobaa
open Go.RowKit
theorem append_none (w : World) (ty : TypeId) (a : Addr) (A : Option Addr) (n cap : Nat) (hn : 0 < n) (hn2 : n ≤ 1048576) :
    (Builtin.append_ #[23, 23] ty #[.slice (some a) 0 0, .slice A n cap]).run Try.prog w = (Builtin.append_ #[23, 23] ty #[.slice none 0 0, .slice A n cap]).run Try.prog w := by
  obtain ⟨i0, hi, hz0, hz1, hz2⟩ := info_parts Try.info2
  have h0 : ¬ n = 0 := by omega
  have hcap : Builtin.nextslicecap n 0 = n := by unfold Builtin.nextslicecap; simp; omega
  have hbig : ¬ 281474976710656 < Builtin.nextslicecap n 0 * i0.bytes := by rw [hcap, hz2]; omega
  have hb0 : ¬ (9223372036854775807 < (n : Int) ∧ i0.bytes = 0) := by rw [hz2]; omega
  have hl : ∀ w, Sem.run Try.prog (loadCellsFrom a 0 0 #[]) w = .ok #[] w := fun w => rfl
  simp [Builtin.append_, hl, Result.andThen, hbig, hb0, loadCells, run_underlying Try.underlying23, sizeOf, typeInfo, hi, Builtin.lenOf, Builtin.firstCells, h0]
/-- What stood there stays, where there is no room. -/
theorem run_append_zero (w : World) (ty : TypeId) (a : Addr) (u : Value) (l : List Int) (hin : Ints w u l) :
    ∃ A cap w', (Builtin.append_ #[23, 23] ty #[.slice (some a) 0 0, u]).run Try.prog w = .ok (.slice A l.length cap) w' ∧ Ints w' (.slice A l.length cap) l ∧ Below w.heap.size w w' ∧ ((∃ b, A = some ⟨b, 0, none⟩ ∧ w.heap.size ≤ b) ∨ l = []) := by
  obtain ⟨A, cap, rfl⟩ := hin.form
  have h1 := hin.1
  by_cases h0 : l.length = 0
  · have hl : l = [] := List.eq_nil_of_length_eq_zero h0
    subst hl
    refine ⟨some a, 0, w, ?_, ⟨by simp, some a, 0, rfl, by simp, fun h => by simp at h⟩, Below.refl _ _, .inr rfl⟩
    obtain ⟨i0, hi, hz0, hz1, hz2⟩ := info_parts Try.info2
    have hl : ∀ w, Sem.run Try.prog (loadCellsFrom a 0 0 #[]) w = .ok #[] w := fun w => rfl
    cases A with
    | none => simp [Builtin.append_, hl, loadCells, Result.andThen, run_underlying Try.underlying23, sizeOf, typeInfo, hi, Builtin.lenOf, Builtin.firstCells, storeCells]
    | some b =>
      have hl2 : ∀ w, Sem.run Try.prog (loadCellsFrom b 0 0 #[]) w = .ok #[] w := fun w => rfl
      simp [Builtin.append_, hl, hl2, loadCells, Result.andThen, run_underlying Try.underlying23, sizeOf, typeInfo, hi, Builtin.lenOf, Builtin.firstCells, storeCells]
  · rw [append_none w ty a A l.length cap (by omega) h1]
    obtain ⟨v', w', hr, ho, hg, hb⟩ := run_append_ints w ty w.heap.size (.slice none 0 0) (.slice A l.length cap) [] l (OwnInts.nil _ _) hin (by simpa using h1) (Nat.le_refl _)
    rw [List.nil_append] at ho
    obtain ⟨A', cap', e⟩ := ho.ints.form
    subst e
    refine ⟨A', cap', w', hr, ho.ints, grown_none hg, .inl ?_⟩
    rcases ho.2.2 with ⟨h, hn⟩ | ⟨g, cap, cur, e, hb, _⟩
    · exact absurd hn h0
    · injection e with e1 e2 e3
      exact ⟨g, e1, hb⟩
end Go.Proofs.Ytlgedbgpekfobaa
