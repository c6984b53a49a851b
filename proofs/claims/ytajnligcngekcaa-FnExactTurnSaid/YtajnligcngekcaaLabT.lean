/- The model's marked texts: compared. -/
import Derived.Test.YtajnligcngekcaaLabS
namespace Go.Proofs.Ytajnligcngekcaa
open Go.RowKit

theorem alike_len {t s : ByteArray} {l m : List Int} (h : ¬ l.length = m.length) : alikeB t s l m = false := by simp [alikeB, intsB_len h]
theorem alike_at {t s : ByteArray} {l m : List Int} (h : intsB l m = false) : alikeB t s l m = false := by simp [alikeB, h]
theorem alike_all {t : ByteArray} {l m : List Int} (h : intsB l m = true) : alikeB t t l m = true := by simp [alikeB, h]
/-- The first n places are alike: the marks, and the bytes whose mark has none of the bits k. -/
def eqN (t s : ByteArray) (l m : List Int) (k : Int) (n : Nat) : Prop := ∀ i (h1 : i < l.length) (h2 : i < m.length) (h3 : i < t.size) (h4 : i < s.size), i < n → l[i] = m[i] ∧ (andI l[i] k = 0 → t[i] = s[i])
theorem eqN_zero (t s : ByteArray) (l m : List Int) (k : Int) : eqN t s l m k 0 := fun _ _ _ _ _ h => absurd h (Nat.not_lt_zero _)
theorem eqN_step {t s : ByteArray} {l m : List Int} {k : Int} {n : Nat} (h : eqN t s l m k n) (h1 : n < l.length) (h2 : n < m.length) (h3 : n < t.size) (h4 : n < s.size) (e1 : l[n] = m[n]) (e : andI l[n] k = 0 → t[n] = s[n]) : eqN t s l m k (n + 1) := by
  intro i g1 g2 g3 g4 hi
  by_cases hin : i = n
  · subst hin; exact ⟨e1, e⟩
  · exact h i g1 g2 g3 g4 (by omega)
theorem eqN_all {t s : ByteArray} {l m : List Int} {k : Int} {n : Nat} (h1 : labB t l = true) (h2 : labB s m = true) (hts : t.size = s.size) (h : eqN t s l m k n) (hn : t.size ≤ n) : sameB t s l m k = true := by
  have a := (labB_parts h1).2.1
  have b := (labB_parts h2).2.1
  have e : l = m := List.ext_getElem (by omega) fun i g1 g2 => (h i g1 g2 (by omega) (by omega) (by omega)).1
  exact sameB_yes h1 h2 e fun i g1 g2 g3 _ h0 => (h i g1 (by omega) g2 g3 (by omega)).2 h0
theorem same_size {t s : ByteArray} {l m : List Int} {k : Int} (h : ¬ t.size = s.size) : sameB t s l m k = false := sameB_no fun ⟨h1, h2, h3, _⟩ => by
  have a := (labB_parts h1).2.1
  have b := (labB_parts h2).2.1
  subst h3; omega
end Go.Proofs.Ytajnligcngekcaa
