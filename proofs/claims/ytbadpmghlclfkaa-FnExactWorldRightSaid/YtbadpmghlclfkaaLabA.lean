/- Marked texts: what is right; slices of int64 compared. -/
import Derived.Test.YtbadpmghlclfkaaInts
import Derived.Test.YtbadpmghlclfkaaIs
import Derived.Deep.QuietTactic
import Derived.BigQuiet
import Derived.IntWalk
namespace Go.Proofs.Ytbadpmghlclfkaa
open Go.RowKit

def markB (m : Int) : Bool := decide (0 ≤ m ∧ m ≤ 15)
theorem markB_is (m : Int) : isB m 0 15 = markB m := rfl
/-- A right Lab. -/
def labB (t : ByteArray) (l : List Int) : Bool := decide (t.size ≤ 200) && decide (l.length = t.size) && l.all markB
theorem labB_long {t : ByteArray} {l : List Int} (h : ¬ t.size ≤ 200) : labB t l = false := by simp [labB, h]
theorem labB_not {t : ByteArray} {l : List Int} (h : ¬ l.length = t.size) : labB t l = false := by simp [labB, h]
theorem labB_all {t : ByteArray} {l : List Int} (h1 : t.size ≤ 200) (h2 : l.length = t.size) (h : l.all markB = true) : labB t l = true := by simp only [labB, h1, h2, h]; rfl
theorem labB_bad {t : ByteArray} {l : List Int} (k : Nat) (hk : k < l.length) (h : markB l[k] = false) : labB t l = false := by
  have : l.all markB = false := by
    rw [Bool.eq_false_iff]; intro ha
    rw [List.all_eq_true] at ha
    have := ha _ (List.getElem_mem hk)
    rw [h] at this; cases this
  simp [labB, this]
theorem labB_parts {t : ByteArray} {l : List Int} (h : labB t l = true) : t.size ≤ 200 ∧ l.length = t.size ∧ ∀ m ∈ l, 0 ≤ m ∧ m ≤ 15 := by
  unfold labB at h
  rw [Bool.and_eq_true, Bool.and_eq_true] at h
  obtain ⟨⟨h1, h2⟩, h3⟩ := h
  refine ⟨of_decide_eq_true h1, of_decide_eq_true h2, fun m hm => ?_⟩
  have := List.all_eq_true.1 h3 m hm
  exact of_decide_eq_true this
theorem take_all {l : List Int} {k : Nat} (hk : k < l.length) (h : (l.take k).all markB = true) (hm : markB l[k] = true) : (l.take (k + 1)).all markB = true := by
  rw [List.take_succ_eq_append_getElem hk, List.all_append, h]; simp [hm]

end Go.Proofs.Ytbadpmghlclfkaa
