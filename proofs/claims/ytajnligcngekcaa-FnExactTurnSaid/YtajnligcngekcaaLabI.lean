/- The program's marked texts: the same but for some marks. -/
import Derived.Test.YtajnligcngekcaaLabH
namespace Go.Proofs.Ytajnligcngekcaa
open Go.RowKit

def andI (a b : Int) : Int := bits .and .i64 a b
/-- The first n bytes are the same, but for those whose mark has one of the bits k. -/
def butN (t s : ByteArray) (l : List Int) (k : Int) (n : Nat) : Prop := ∀ i (h1 : i < l.length) (h2 : i < t.size) (h3 : i < s.size), i < n → andI l[i] k = 0 → t[i] = s[i]
noncomputable def sameB (t s : ByteArray) (l m : List Int) (k : Int) : Bool := @decide (labB t l = true ∧ labB s m = true ∧ l = m ∧ butN t s l k l.length) (Classical.propDecidable _)
theorem sameB_yes {t s : ByteArray} {l m : List Int} {k : Int} (h1 : labB t l = true) (h2 : labB s m = true) (h3 : l = m) (h4 : butN t s l k l.length) : sameB t s l m k = true := by exact @decide_eq_true _ (Classical.propDecidable _) ⟨h1, h2, h3, h4⟩
theorem sameB_no {t s : ByteArray} {l m : List Int} {k : Int} (h : ¬ (labB t l = true ∧ labB s m = true ∧ l = m ∧ butN t s l k l.length)) : sameB t s l m k = false := by exact @decide_eq_false _ (Classical.propDecidable _) h
theorem but_zero (t s : ByteArray) (l : List Int) (k : Int) : butN t s l k 0 := fun _ _ _ _ h _ => absurd h (Nat.not_lt_zero _)
theorem but_step {t s : ByteArray} {l : List Int} {k : Int} {n : Nat} (h : butN t s l k n) (h1 : n < l.length) (h2 : n < t.size) (h3 : n < s.size) (e : andI l[n] k = 0 → t[n] = s[n]) : butN t s l k (n + 1) := by
  intro i g1 g2 g3 hi h0
  by_cases hin : i = n
  · subst hin; exact e h0
  · exact h i g1 g2 g3 (by omega) h0
theorem but_more {t s : ByteArray} {l : List Int} {k : Int} {n : Nat} (h : butN t s l k n) (hn : l.length ≤ n) : butN t s l k l.length := fun i g1 g2 g3 _ h0 => h i g1 g2 g3 (by omega) h0
theorem int_ne (a b : UInt8) (h : ¬ a = b) : ((a.toNat : Int) == (b.toNat : Int)) = false ∧ ((a.toNat : Int) != (b.toNat : Int)) = true := by
  have : ¬ (a.toNat : Int) = (b.toNat : Int) := fun e => h (UInt8.toNat_inj.1 (by omega))
  simp [this]
theorem boxes2' (w : World) (x y x' y' : Value) (t1 t2 : TypeId) :
    Blk ((w.alloc (.cells #[x, y] t1)).alloc (.cells #[x', y'] t2)) w.heap.size t1 [x, y] ∧ Blk ((w.alloc (.cells #[x, y] t1)).alloc (.cells #[x', y'] t2)) (w.heap.size + 1) t2 [x', y'] := boxes2 w [x, y] [x', y'] t1 t2
end Go.Proofs.Ytajnligcngekcaa
