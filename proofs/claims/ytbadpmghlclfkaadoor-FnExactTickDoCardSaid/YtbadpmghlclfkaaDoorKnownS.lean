/- A region that draws its order, whose values are known, makes new memory, and ends with one store that comes last in every order. -/
import Derived.Test.YtbadpmghlclfkaaDoorKnown
namespace Go.Proofs.YtbadpmghlclfkaaDoor
open Go.RowKit

/-- What is asked of the last operation. -/
def KLast (P : Program) (ops : List Oper) (Ks : List VK) (w0 : World) (a : Act) (After : World → Prop) (o : Oper) : Prop :=
  ∀ (y : Nat → Value) (w : World), LayOK ops y a → Below w0.heap.size w0 w → (∀ j, needs o j = true → (kindAt Ks j).holds (y j) w) →
    Region.wanted o (yielded ops.toArray (lay ops 0 y a).tmps) = true ∧ EvOK P o (lay ops 0 y a).tmps (fun _ w' => After w') w
def KStepsS (P : Program) (ops : List Oper) (Ks : List VK) (w0 : World) (a : Act) (After : World → Prop) : List Oper → Nat → Prop
  | [], _ => True
  | [o], _ => KLast P ops Ks w0 a After o
  | o :: p :: l, k => KStep P ops Ks w0 a k o ∧ KStepsS P ops Ks w0 a After (p :: l) (k + 1)
/-- The world, ahead of the store and behind it. -/
def StoreJ (w0 : World) (After : World → Prop) (b : Bool) (w : World) : Prop := if b then After w else Below w0.heap.size w0 w
theorem KStepsS.ok {P : Program} {ops : List Oper} {Ks : List VK} {w0 : World} {a : Act} {After : World → Prop} {n : Nat} (hD : dstB ops = true) (hL : lastB ops n = true) (hK : kindAt Ks n = .any) :
    ∀ {l : List Oper} {k : Nat}, k + l.length = n + 1 → (∀ i, i < l.length → k + i < ops.length) → KStepsS P ops Ks w0 a After l k →
    StepsOK P ops (fun i => (kindAt Ks i).holds) (byFlag n (StoreJ w0 After)) (fun k w w' => k ≠ n → Below w.heap.size w w') a l k
  | [], _, _, _, _ => trivial
  | [o], k, hk, _, h => by
    refine ⟨fun y w L next hl0 hah _ hJ hd hn => ?_, trivial⟩
    have hkn : k = n := by simp at hk; omega
    subst hkn
    have hJ' : Below w0.heap.size w0 w := by have := hJ.get hl0; simpa [StoreJ] using this
    obtain ⟨h1, h2⟩ := h y w (LayOK.of hD y a) hJ' hd
    rw [if_pos h1]
    have h3 := h2.get
    have hnx : ∀ v w', After w' → next v w' := fun v w' hA => hn v w' (fun hne => absurd rfl hne) (byFlag.done (by simpa [StoreJ] using hA)) (by show (kindAt Ks k).holds v w'; rw [hK]; trivial)
    revert h3
    cases hr : (execOp (lay ops 0 y a).eval o).run P w with
    | ok x w' =>
      cases x with
      | value v => exact fun h3 => hnx _ _ h3
      | skip => exact fun h3 => hnx _ _ h3
      | enter f args =>
        intro h3
        refine Calls.mono h3 ?_
        rintro e w'' ⟨v, rfl, hv⟩
        exact ⟨v, rfl, hnx _ _ hv⟩
      | _ => exact fun h3 => h3.elim
    | halt x w' => exact fun h3 => h3.elim
  | o :: p :: l, k, hk, hi, h => ⟨fun y w L next hl0 hah hw hJ hd hn => by
      have hkn : k ≠ n := by simp at hk; omega
      have hahn : aheadB ops k n = true := by
        have h3 := List.all_eq_true.1 hL k (by have := hi 0 (by simp); simpa using this)
        simp only [Bool.or_eq_true, beq_iff_eq] at h3
        rcases h3 with h3 | h3
        · exact absurd h3 hkn
        · exact h3
      have hLn : L n = false := hah n hahn
      have hJ' : Below w0.heap.size w0 w := by have := hJ.get hLn; simpa [StoreJ] using this
      rcases h.1 y w next (LayOK.of hD y a) hJ' hd fun v w' hb hv => hn v w' (fun _ => hb) (byFlag.put (Ne.symm hkn) hLn (by simpa [StoreJ] using below_then hJ' hb (Nat.le_refl _))) hv with ⟨h1, h2⟩ | ⟨h1, h2⟩
      · rw [if_pos h1]; exact h2.get
      · rw [if_neg (by rw [h1]; simp)]; exact h2, KStepsS.ok hD hL hK (l := p :: l) (k := k + 1) (by simp at hk ⊢; omega) (fun i hi2 => by have := hi (i + 1) (by simpa using hi2); omega) h.2⟩
theorem wp_region_known_store {P : Program} {l : List Oper} {Q : Exit → Act → World → Prop} {a : Act} {id : Nat} {w : World} (Ks : List VK) (After : World → Prop) (n : Nat) (hm : P.follows .mixedOrders = true) (hE : earlyB l = true) (hD : dstB l = true) (hL : lastB l n = true) (hn : l.length = n + 1)
    (hK : kindAt Ks n = .any) (hs : KStepsS P l Ks w a After l 0) (hend : ∀ y w', After w' → Q .normal (lay l 0 y a) w') : (Code.region id l.toArray true).wp P Q a w :=
  wp_region_rows [] (fun i => (kindAt Ks i).holds) (byFlag n (StoreJ w After)) (fun k w w' => k ≠ n → Below w.heap.size w w') hm hE hD (by simp)
    (fun k i v w1 w2 hne hl hM hS => by
      by_cases hk : k = n
      · subst hk; exact absurd (live_last hL hl) (by simp)
      · exact VK.below hS (hM hk))
    (by show StoreJ w After false w.drew; simpa [StoreJ] using below_drew (Below.refl _ _)) (hs.ok hD hL hK (by omega) (by omega))
    fun y L w' hall hJ _ => hend y w' (by have := hJ.got (hall n (by omega)); simpa [StoreJ] using this)
end Go.Proofs.YtbadpmghlclfkaaDoor
