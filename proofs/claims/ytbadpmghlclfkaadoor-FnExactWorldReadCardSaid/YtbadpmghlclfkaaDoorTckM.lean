/- Ticks as plain values: which are right. -/
import Derived.Test.YtbadpmghlclfkaaDoorStmM
import Derived.Test.YtbadpmghlclfkaaDoorIs
namespace Go.Proofs.YtbadpmghlclfkaaDoor

/-- A tick. -/
structure Tik where
  kind : Int
  seat : Int
  text : ByteArray
def emptyL (l : List UInt8) : Bool := decide (l = [])
/-- A right tick. -/
def tikOk (x : Tik) : Bool :=
  if x.kind = 1 then isB x.seat 0 2 && (decide (x.text.size ≤ 60) && rangeB 32 x.text.data.toList)
  else if 2 ≤ x.kind ∧ x.kind ≤ 4 then isB x.seat 0 2 && emptyL x.text.data.toList
  else if x.kind = 5 then decide (x.seat = 0) && emptyL x.text.data.toList
  else false
theorem tikOk1 (st : Int) (tt : ByteArray) : tikOk ⟨1, st, tt⟩ = (isB st 0 2 && (decide (tt.size ≤ 60) && rangeB 32 tt.data.toList)) := rfl
theorem tikOk2 (st : Int) (tt : ByteArray) : tikOk ⟨2, st, tt⟩ = (isB st 0 2 && emptyL tt.data.toList) := rfl
theorem tikOk3 (st : Int) (tt : ByteArray) : tikOk ⟨3, st, tt⟩ = (isB st 0 2 && emptyL tt.data.toList) := rfl
theorem tikOk4 (st : Int) (tt : ByteArray) : tikOk ⟨4, st, tt⟩ = (isB st 0 2 && emptyL tt.data.toList) := rfl
theorem tikOk5 (st : Int) (tt : ByteArray) : tikOk ⟨5, st, tt⟩ = (decide (st = 0) && emptyL tt.data.toList) := rfl
theorem tikOk0 {kd : Int} (h1 : ¬ kd = 1) (h2 : ¬ kd = 2) (h3 : ¬ kd = 3) (h4 : ¬ kd = 4) (h5 : ¬ kd = 5) (st : Int) (tt : ByteArray) : tikOk ⟨kd, st, tt⟩ = false := by
  unfold tikOk
  rw [if_neg h1, if_neg (by rintro ⟨a, b⟩; simp only at a b; omega), if_neg h5]
/-- A right world. -/
def worldB (l : List Tik) : Bool := decide (l.length ≤ 60) && l.all tikOk
theorem worldB_long {l : List Tik} (h : ¬ l.length ≤ 60) : worldB l = false := by simp [worldB, h]
theorem worldB_bad {l : List Tik} {k : Nat} (hk : k < l.length) (h : tikOk l[k] = false) : worldB l = false := by
  have : l.all tikOk = false := by rw [List.all_eq_false]; exact ⟨l[k], List.getElem_mem hk, by simp [h]⟩
  simp [worldB, this]
theorem worldB_yes {l : List Tik} (h6 : l.length ≤ 60) (h : ∀ j (hj : j < l.length), tikOk l[j] = true) : worldB l = true := by
  have : l.all tikOk = true := by rw [List.all_eq_true]; intro x hx; obtain ⟨j, hj, rfl⟩ := List.mem_iff_getElem.1 hx; exact h j hj
  simp [worldB, this, h6]
theorem list_ne {t : ByteArray} (h : ¬ t = ByteArray.empty) : ¬ t.toList = [] := by
  intro e
  rw [ByteArray.toList_eq] at e
  apply h
  cases t with
  | mk d => cases d with
    | mk l => simp at e; subst e; rfl
theorem emptyL_yes {t : ByteArray} (h : t = ByteArray.empty) : emptyL t.data.toList = true := by subst h; rfl
theorem emptyL_no {t : ByteArray} (h : ¬ t = ByteArray.empty) : emptyL t.data.toList = false := by
  unfold emptyL
  refine decide_eq_false fun e => h ?_
  cases t with
  | mk d => cases d with
    | mk l => simp at e; subst e; rfl
end Go.Proofs.YtbadpmghlclfkaaDoor
