/- The same as Known, where operands may be package-level variables. -/
import Derived.Test.YtajnligcngekcaaDoorKnown
namespace Go.Proofs.YtajnligcngekcaaDoor
open Go.RowKit

/-- The operation by itself: its operands' values are asked one by one. -/
def EvOKG (P : Program) (o : Oper) (t : Array Value) (next : Value → World → Prop) (w : World) : Prop :=
  ∀ ev : Operand → Value, (∀ v, ev (.const v) = v) → (∀ f, ev (.func f) = .func (.func f) #[] #[]) → (∀ d v, t[d]? = some v → ev (.tmp d) = v) → (∀ g, ev (.global g) = .pointer (some ⟨g, 0, none⟩)) → VUpon P next ((execOp ev o).run P w)
theorem EvOKG.get {P : Program} {o : Oper} {a : Act} {next : Value → World → Prop} {w : World} (h : EvOKG P o a.tmps next w) : VUpon P next ((execOp a.eval o).run P w) :=
  h a.eval (fun _ => rfl) (fun _ => rfl) (fun d v hd => by show a.tmps.getD d undef = v; rw [Array.getD_eq_getD_getElem?, hd]; rfl) (fun _ => rfl)
/-- What is asked of one operation. -/
def KStepG (P : Program) (ops : List Oper) (Ks : List VK) (w0 : World) (a : Act) (k : Nat) (o : Oper) : Prop :=
  ∀ (y : Nat → Value) (w : World) (next : Value → World → Prop), LayOK ops y a → Below w0.heap.size w0 w → (∀ j, needs o j = true → (kindAt Ks j).holds (y j) w) →
    (∀ v w', Below w.heap.size w w' → (kindAt Ks k).holds v w' → next v w') →
    (Region.wanted o (yielded ops.toArray (lay ops 0 y a).tmps) = true ∧ EvOKG P o (lay ops 0 y a).tmps next w) ∨ (Region.wanted o (yielded ops.toArray (lay ops 0 y a).tmps) = false ∧ next undef w)
def KStepsG (P : Program) (ops : List Oper) (Ks : List VK) (w0 : World) (a : Act) : List Oper → Nat → Prop
  | [], _ => True
  | o :: l, k => KStepG P ops Ks w0 a k o ∧ KStepsG P ops Ks w0 a l (k + 1)
theorem KStepsG.ok {P : Program} {ops : List Oper} {Ks : List VK} {w0 : World} {a : Act} (hD : dstB ops = true) : ∀ {l : List Oper} {k : Nat}, KStepsG P ops Ks w0 a l k →
    StepsOK P ops (fun i => (kindAt Ks i).holds) (fun _ w => Below w0.heap.size w0 w) (fun _ w w' => Below w.heap.size w w') a l k
  | [], _, _ => trivial
  | o :: l, k, h => ⟨fun y w _ next _ _ _ hJ hd hn => by
      rcases h.1 y w next (LayOK.of hD y a) hJ hd fun v w' hb hv => hn v w' hb (below_then hJ hb (Nat.le_refl _)) hv with ⟨h1, h2⟩ | ⟨h1, h2⟩
      · rw [if_pos h1]; exact h2.get
      · rw [if_neg (by rw [h1]; simp)]; exact h2, KStepsG.ok hD h.2⟩
theorem wp_region_knownG {P : Program} {l : List Oper} {Q : Exit → Act → World → Prop} {a : Act} {id : Nat} {w : World} (Ks : List VK) (hm : P.follows .mixedOrders = true) (hE : earlyB l = true) (hD : dstB l = true)
    (hs : KStepsG P l Ks w a l 0) (hend : ∀ y w', Below w.heap.size w w' → (∀ i, i < l.length → (kindAt Ks i).holds (y i) w') → Q .normal (lay l 0 y a) w') : (Code.region id l.toArray true).wp P Q a w :=
  wp_region_rows (List.range l.length) (fun i => (kindAt Ks i).holds) (fun _ w' => Below w.heap.size w w') (fun _ w w' => Below w.heap.size w w') hm hE hD (by simp) (fun _ _ _ _ _ _ _ k h => VK.below h k) (below_drew (Below.refl _ _)) (hs.ok hD)
    fun y _ w' _ hJ hd => hend y w' hJ fun i hi => hd i (by simpa using hi)
end Go.Proofs.YtajnligcngekcaaDoor
