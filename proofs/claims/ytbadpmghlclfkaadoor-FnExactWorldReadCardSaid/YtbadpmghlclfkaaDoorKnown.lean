/- A region that draws its order, makes nothing but new memory, and whose values are known: one proof for each operation. -/
import Derived.Test.YtbadpmghlclfkaaDoorAny
namespace Go.Proofs.YtbadpmghlclfkaaDoor
open Go.RowKit

/-- What is known of a value: which one it is; a fact that stays where memory is only made. -/
inductive VK where
  | is (v : Value)
  | that (p : Value → World → Prop) (h : ∀ v w w', Below w.heap.size w w' → p v w → p v w')
  | any
def VK.holds : VK → Value → World → Prop
  | .is v0, v, _ => v = v0
  | .that p _, v, w => p v w
  | .any, _, _ => True
theorem VK.below {K : VK} {v : Value} {w w' : World} (h : K.holds v w) (k : Below w.heap.size w w') : K.holds v w' := by
  cases K with
  | is v0 => exact h
  | that p hp => exact hp _ _ _ k h
  | any => trivial
def kindAt (Ks : List VK) (i : Nat) : VK := Ks.getD i .any
theorem put_off (a : Act) (x : Option Tmp) (v : Value) (d : Nat) (h : x ≠ some d) : (a.put x v).tmps[d]? = a.tmps[d]? := by
  cases x with
  | none => rfl
  | some e =>
    show (a.tmps.setIfInBounds e v)[d]? = _
    rw [Array.getElem?_setIfInBounds, if_neg (fun e2 => h (by rw [e2]))]
theorem put_size (a : Act) (x : Option Tmp) (v : Value) : (a.put x v).tmps.size = a.tmps.size := by
  cases x with
  | none => rfl
  | some e => show (a.tmps.setIfInBounds e v).size = _; simp
theorem lay_off : ∀ (l : List Oper) (k : Nat) (y : Nat → Value) (a : Act) (d : Nat), (l.all fun o => o.dst != some d) = true → (lay l k y a).tmps[d]? = a.tmps[d]?
  | [], _, _, _, _, _ => rfl
  | o :: l, k, y, a, d, h => by
    simp only [List.all_cons, Bool.and_eq_true, bne_iff_ne, ne_eq] at h
    rw [lay_cons, lay_off l (k + 1) y _ d h.2, put_off _ _ _ _ h.1]
theorem lay_at : ∀ (l : List Oper) (k i : Nat) (y : Nat → Value) (a : Act) (d : Nat), dstB l = true → (match l[i]? with | some o => o.dst | none => none) = some d → d < a.tmps.size → (lay l k y a).tmps[d]? = some (y (k + i))
  | [], _, _, _, _, _, _, h, _ => by simp at h
  | o :: l, k, 0, y, a, d, hD, h, hs => by
    simp only [dstB, Bool.and_eq_true] at hD
    have h : o.dst = some d := by simpa using h
    rw [lay_cons, lay_off]
    · rw [h]; show (a.tmps.setIfInBounds d (y k))[d]? = _
      rw [Array.getElem?_setIfInBounds, if_pos rfl, if_pos hs]; rfl
    · have := hD.1
      rw [h] at this
      exact this
  | o :: l, k, i + 1, y, a, d, hD, h, hs => by
    simp only [dstB, Bool.and_eq_true] at hD
    rw [lay_cons, lay_at l (k + 1) i y _ d hD.2 (by simpa using h) (by rw [put_size]; exact hs), show k + 1 + i = k + (i + 1) by omega]
/-- The slots of the frame. -/
def LayOK (ops : List Oper) (y : Nat → Value) (a : Act) : Prop :=
  (∀ i d, (match ops[i]? with | some o => o.dst | none => none) = some d → decide (d < a.tmps.size) = true → (lay ops 0 y a).tmps[d]? = some (y i)) ∧
  (∀ d, (ops.all fun o => o.dst != some d) = true → (lay ops 0 y a).tmps[d]? = a.tmps[d]?)
theorem LayOK.of {ops : List Oper} (hD : dstB ops = true) (y : Nat → Value) (a : Act) : LayOK ops y a :=
  ⟨fun i d h hs => by have := lay_at ops 0 i y a d hD h (of_decide_eq_true hs); rwa [Nat.zero_add] at this, fun d h => lay_off ops 0 y a d h⟩
/-- The operation by itself: its operands' values are asked one by one. -/
def EvOK (P : Program) (o : Oper) (t : Array Value) (next : Value → World → Prop) (w : World) : Prop :=
  ∀ ev : Operand → Value, (∀ v, ev (.const v) = v) → (∀ f, ev (.func f) = .func (.func f) #[] #[]) → (∀ d v, t[d]? = some v → ev (.tmp d) = v) → VUpon P next ((execOp ev o).run P w)
theorem EvOK.get {P : Program} {o : Oper} {a : Act} {next : Value → World → Prop} {w : World} (h : EvOK P o a.tmps next w) : VUpon P next ((execOp a.eval o).run P w) :=
  h a.eval (fun _ => rfl) (fun _ => rfl) (fun d v hd => by show a.tmps.getD d undef = v; rw [Array.getD_eq_getD_getElem?, hd]; rfl)
/-- What is asked of one operation. -/
def KStep (P : Program) (ops : List Oper) (Ks : List VK) (w0 : World) (a : Act) (k : Nat) (o : Oper) : Prop :=
  ∀ (y : Nat → Value) (w : World) (next : Value → World → Prop), LayOK ops y a → Below w0.heap.size w0 w → (∀ j, needs o j = true → (kindAt Ks j).holds (y j) w) →
    (∀ v w', Below w.heap.size w w' → (kindAt Ks k).holds v w' → next v w') →
    (Region.wanted o (yielded ops.toArray (lay ops 0 y a).tmps) = true ∧ EvOK P o (lay ops 0 y a).tmps next w) ∨ (Region.wanted o (yielded ops.toArray (lay ops 0 y a).tmps) = false ∧ next undef w)
def KSteps (P : Program) (ops : List Oper) (Ks : List VK) (w0 : World) (a : Act) : List Oper → Nat → Prop
  | [], _ => True
  | o :: l, k => KStep P ops Ks w0 a k o ∧ KSteps P ops Ks w0 a l (k + 1)
theorem KSteps.ok {P : Program} {ops : List Oper} {Ks : List VK} {w0 : World} {a : Act} (hD : dstB ops = true) : ∀ {l : List Oper} {k : Nat}, KSteps P ops Ks w0 a l k →
    StepsOK P ops (fun i => (kindAt Ks i).holds) (fun _ w => Below w0.heap.size w0 w) (fun _ w w' => Below w.heap.size w w') a l k
  | [], _, _ => trivial
  | o :: l, k, h => ⟨fun y w _ next _ _ _ hJ hd hn => by
      rcases h.1 y w next (LayOK.of hD y a) hJ hd fun v w' hb hv => hn v w' hb (below_then hJ hb (Nat.le_refl _)) hv with ⟨h1, h2⟩ | ⟨h1, h2⟩
      · rw [if_pos h1]; exact h2.get
      · rw [if_neg (by rw [h1]; simp)]; exact h2, KSteps.ok hD h.2⟩
theorem wp_region_known {P : Program} {l : List Oper} {Q : Exit → Act → World → Prop} {a : Act} {id : Nat} {w : World} (Ks : List VK) (hm : P.follows .mixedOrders = true) (hE : earlyB l = true) (hD : dstB l = true)
    (hs : KSteps P l Ks w a l 0) (hend : ∀ y w', Below w.heap.size w w' → (∀ i, i < l.length → (kindAt Ks i).holds (y i) w') → Q .normal (lay l 0 y a) w') : (Code.region id l.toArray true).wp P Q a w :=
  wp_region_rows (List.range l.length) (fun i => (kindAt Ks i).holds) (fun _ w' => Below w.heap.size w w') (fun _ w w' => Below w.heap.size w w') hm hE hD (by simp) (fun _ _ _ _ _ _ _ k h => VK.below h k) (below_drew (Below.refl _ _)) (hs.ok hD)
    fun y _ w' _ hJ hd => hend y w' hJ fun i hi => hd i (by simpa using hi)
theorem wanted_free {o : Oper} {Y : Nat → Option Bool} (h : o.guard = none) : Region.wanted o Y = true := by simp [Region.wanted, h]
theorem yielded_of {ops : List Oper} {t : Array Value} {j d : Nat} {b : Bool} {o : Oper} (h1 : ops[j]? = some o) (h2 : o.dst = some d) (h3 : t[d]? = some (.bool b)) : yielded ops.toArray t j = some b := by
  simp [yielded, h1, h2, h3]
theorem wanted_of {o : Oper} {ops : List Oper} {t : Array Value} {j d : Nat} {b : Bool} {oj : Oper} (h : o.guard = some (j, b)) (h1 : ops[j]? = some oj) (h2 : oj.dst = some d) (h3 : t[d]? = some (.bool b)) : Region.wanted o (yielded ops.toArray t) = true := by
  simp [Region.wanted, h, yielded_of h1 h2 h3]
theorem wanted_not {o : Oper} {ops : List Oper} {t : Array Value} {j d : Nat} {b : Bool} {oj : Oper} (h : o.guard = some (j, b)) (h1 : ops[j]? = some oj) (h2 : oj.dst = some d) (h3 : t[d]? = some (.bool (!b))) : Region.wanted o (yielded ops.toArray t) = false := by
  simp [Region.wanted, h, yielded_of h1 h2 h3]
theorem wanted_undef {o : Oper} {ops : List Oper} {t : Array Value} {j d : Nat} {b : Bool} {oj : Oper} (h : o.guard = some (j, b)) (h1 : ops[j]? = some oj) (h2 : oj.dst = some d) (h3 : t[d]? = some undef) : Region.wanted o (yielded ops.toArray t) = false := by
  have : yielded ops.toArray t j = none := by simp [yielded, h1, h2, h3, undef]
  simp [Region.wanted, h, this]
end Go.Proofs.YtbadpmghlclfkaaDoor
