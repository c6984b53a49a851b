/- The model's marked texts: made, redacted, all marks, compared. -/
import Derived.Test.YtajnligcngekcaaLabI
namespace Go.Proofs.Ytajnligcngekcaa
open Go.RowKit

theorem one_ints (w : World) (m : Int) : Ints (w.alloc (.cells #[.int .i64 m] 2)) (.slice (some ⟨w.heap.size, 0, none⟩) 1 1) [m] :=
  ⟨by simp, _, _, rfl, by simp, fun _ => ⟨_, _, rfl, fun i hi => by
    have h0 : i = 0 := by simpa using hi
    subst h0
    exact World.cell?_alloc_new w _ _ _⟩⟩
theorem repl_snoc (k : Nat) (m : Int) : List.replicate k m ++ [m] = List.replicate (k + 1) m := by rw [List.replicate_succ', ]
theorem LabEnd.of {base : Nat} {t : ByteArray} {l : List Int} {w w' : World} {A : Option Addr} {n cap : Nat} (hn : n = l.length) (ho : OwnInts w' base (.slice A n cap) l) (k : Below base w w') : LabEnd base t l w (.returned (.agg #[.string t, .slice A n cap])) w' := by
  subst hn; exact ⟨A, cap, rfl, ho, k⟩
theorem OwnInts.set2 {w : World} {b c g : Nat} {v : Value} {l : List Int} (h : OwnInts w c v l) (hg : g < c) (hb : b ≤ c) (x y : Value) : OwnInts ((w.setCell ⟨g, 0, none⟩ x).setCell ⟨g, 1, none⟩ y) b v l :=
  ((h.setCell _ _ _ hg).setCell _ _ _ hg).mono hb
theorem below_set2 {w w' : World} {b g : Nat} (h : Below b w w') (hg : b ≤ g) (x y : Value) : Below b w ((w'.setCell ⟨g, 0, none⟩ x).setCell ⟨g, 1, none⟩ y) :=
  (h.setCell (p := ⟨g, 0, none⟩) hg x).setCell (p := ⟨g, 1, none⟩) hg y
end Go.Proofs.Ytajnligcngekcaa
