/- A region that draws its order, as in Any, where what is known of the world may speak of the values that have come up. A region that draws its order, whose values are known, makes new memory, and ends with one store that comes last in every order; what holds behind it may speak of one of the values (where a box is that the region made). -/
import Derived.Test.YtbadpmghlclfkaaDoorAny
import Derived.RegionTactic
import Derived.Test.YtbadpmghlclfkaaDoorKnown
namespace Go.Proofs.YtbadpmghlclfkaaDoor
open Go.RowKit

/-- What is asked of one operation. -/
def StepOKY (P : Program) (ops : List Oper) (S : Nat → Value → World → Prop) (J : (Nat → Bool) → (Nat → Value) → World → Prop) (M : Nat → World → World → Prop) (a : Act) (k : Nat) (o : Oper) : Prop :=
  ∀ (y : Nat → Value) (w : World) (L : Nat → Bool) (next : Value → World → Prop), L k = false → (∀ j, aheadB ops k j = true → L j = false) → (∀ j, waits o j = true → L j = true) → J L y w → (∀ j, needs o j = true → S j (y j) w) →
    (∀ v w', M k w w' → J (more L k) (upd y k v) w' → S k v w' → next v w') →
    if Region.wanted o (yielded ops.toArray (lay ops 0 y a).tmps) = true then VUpon P next ((execOp (lay ops 0 y a).eval o).run P w) else next undef w
def StepsOKY (P : Program) (ops : List Oper) (S : Nat → Value → World → Prop) (J : (Nat → Bool) → (Nat → Value) → World → Prop) (M : Nat → World → World → Prop) (a : Act) : List Oper → Nat → Prop
  | [], _ => True
  | o :: l, k => StepOKY P ops S J M a k o ∧ StepsOKY P ops S J M a l (k + 1)
theorem StepsOKY.at {P : Program} {ops : List Oper} {S : Nat → Value → World → Prop} {J : (Nat → Bool) → (Nat → Value) → World → Prop} {M : Nat → World → World → Prop} {a : Act} :
    ∀ {l : List Oper} {k i : Nat} {o : Oper}, StepsOKY P ops S J M a l k → l[i]? = some o → StepOKY P ops S J M a (k + i) o
  | [], _, _, _, _, h => by simp at h
  | p :: l, k, 0, o, hs, h => by obtain rfl : p = o := by simpa using h
                                 exact hs.1
  | p :: l, k, i + 1, o, hs, h => by
    rw [show k + (i + 1) = k + 1 + i by omega]
    exact StepsOKY.at hs.2 (by simpa using h)
section
variable {P : Program} {l : List Oper} {Q : Exit → Act → World → Prop} {a : Act} {S : Nat → Value → World → Prop} {J : (Nat → Bool) → (Nat → Value) → World → Prop} {M : Nat → World → World → Prop} {kept : List Nat}
theorem ahead_listedY {listed : Array Bool} (hc : ∀ i j o, l[i]? = some o → waits o j = true → listed.getD i false = true → listed.getD j false = true) {k j : Nat} (h : aheadB l k j = true) (hk : listed.getD k false = false) : listed.getD j false = false := by
  cases hb : listed.getD j false with
  | false => rfl
  | true =>
    have h3 := waited_listed (ops := l) (L := fun k => listed.getD k false) (fun i j o a b c => hc i j o a b c) 8 [j] (by simpa using hb) k (by simpa [aheadB] using h)
    rw [hk] at h3; cases h3
theorem wpAny_rowsY (hE : earlyB l = true) (hD : dstB l = true) (hK : (kept.all fun i => decide (i < l.length)) = true) (hM : ∀ k i v w w', i ≠ k → liveB l kept k i = true → M k w w' → S i v w → S i v w') (hs : StepsOKY P l S J M a l 0)
    (hend : ∀ y L w', (∀ i, i < l.length → L i = true) → J L y w' → (∀ i ∈ kept, S i (y i) w') → Q .normal (lay l 0 y a) w') :
    ∀ (fuel : Nat) (listed : Array Bool) (y : Nat → Value) (w : World), listed.size = l.length → listed.toList.count false = fuel →
      (∀ i j o, l[i]? = some o → waits o j = true → listed.getD i false = true → listed.getD j false = true) → J (fun i => listed.getD i false) y w →
      (∀ i, listed.getD i false = true → (i ∈ kept ∨ ∃ k o, l[k]? = some o ∧ needs o i = true ∧ listed.getD k false = false) → S i (y i) w) →
      wpAny P .any l.toArray Q fuel listed (lay l 0 y a) w := by
  have hfin : ∀ (listed : Array Bool) (y : Nat → Value) (w : World), listed.size = l.length → J (fun i => listed.getD i false) y w →
      (∀ i, listed.getD i false = true → (i ∈ kept ∨ ∃ k o, l[k]? = some o ∧ needs o i = true ∧ listed.getD k false = false) → S i (y i) w) → Region.ready .any l.toArray listed = [] → Q .normal (lay l 0 y a) w := by
    intro listed y w hsz hJ hS hr
    have hall := all_ready hE hr hsz
    exact hend y _ w (fun i hi => hall i hi) hJ fun i hi => hS i (hall i (of_decide_eq_true (List.all_eq_true.1 hK i hi))) (.inl hi)
  intro fuel
  induction fuel with
  | zero =>
    intro listed y w hsz hcnt hc hJ hS
    have hr : Region.ready .any l.toArray listed = [] := by
      apply List.eq_nil_iff_forall_not_mem.2
      intro i hi
      have h1 := (ready_waits hi).1
      have := count_set h1
      omega
    exact ⟨hr, hfin listed y w hsz hJ hS hr⟩
  | succ fuel ih =>
    intro listed y w hsz hcnt hc hJ hS
    refine ⟨hfin listed y w hsz hJ hS, fun i hi => ?_⟩
    obtain ⟨h1, o, ho, hw⟩ := ready_waits hi
    have ho' : l[i]? = some o := by simpa using ho
    have hilt : i < l.length := (List.getElem?_eq_some_iff.1 ho').1
    have hilt2 : i < listed.size := by omega
    have h1' : listed.getD i false = false := by simp only [Array.getD, hilt2, dite_true] at h1 ⊢; exact h1
    have hgo := hs.at (i := i) ho'
    rw [Nat.zero_add] at hgo
    refine wpOp_step ho fun K' hK' => ?_
    have hput : ∀ v w', M i w w' → J (more (fun k => listed.getD k false) i) (upd y i v) w' → S i v w' → K' ((lay l 0 y a).put o.dst v) w' := by
      intro v w' hMw hJ' hSv
      refine hK' _ _ ?_
      rw [lay_put v l 0 i y a hD ho', Nat.zero_add]
      have hg := getD_set (l := listed) hilt2
      have hcl : ∀ i' j o, l[i']? = some o → waits o j = true → (listed.setIfInBounds i true).getD i' false = true → (listed.setIfInBounds i true).getD j false = true := by
        intro i2 j o' ho2 hw2 h3
        rw [hg] at h3 ⊢
        split at h3
        · rename_i e; subst e
          obtain rfl : o = o' := by rw [ho'] at ho2; exact Option.some.inj ho2
          split
          · rfl
          · exact hw j hw2
        · split
          · rfl
          · exact hc i2 j o' ho2 hw2 h3
      refine ih _ _ _ (by simpa using hsz) (by have := count_set h1; omega) hcl ?_ ?_
      · rw [getD_more hilt2]; exact hJ'
      · intro i' h3 h4
        by_cases he : i' = i
        · subst he; rw [upd_same]; exact hSv
        · rw [upd_ne _ _ he]
          rw [hg, if_neg he] at h3
          have hlive : liveB l kept i i' = true ∧ (i' ∈ kept ∨ ∃ k o, l[k]? = some o ∧ needs o i' = true ∧ listed.getD k false = false) := by
            rcases h4 with h4 | ⟨k, o', hk, hn, hl⟩
            · exact ⟨by simp [liveB, h4], .inl h4⟩
            · have hkl : k < l.length := (List.getElem?_eq_some_iff.1 hk).1
              have hl0 := hl
              have hna : aheadB l k i = false := by
                cases hb : aheadB l k i with
                | false => rfl
                | true =>
                  have := ahead_listedY hcl hb hl0
                  rw [hg, if_pos rfl] at this; cases this
              rw [hg] at hl
              split at hl
              · cases hl
              · rename_i hki
                exact ⟨by simp only [liveB, Bool.or_eq_true]; right; exact List.any_eq_true.2 ⟨k, by simpa using hkl, by simp [hk, hn, hki, hna]⟩, .inr ⟨k, o', hk, hn, hl⟩⟩
          exact hM i i' _ _ _ he hlive.1 hMw (hS i' h3 hlive.2)
    have := hgo y w (fun k => listed.getD k false) (fun v w' => K' ((lay l 0 y a).put o.dst v) w') h1' (fun j hj => ahead_listedY hc hj h1') hw hJ (fun j hj => hS j (hw j (needs_waits hj)) (.inr ⟨i, o, ho', hj, h1'⟩)) hput
    split
    · rename_i hwant
      rw [if_pos hwant] at this
      exact VUpon.wp (fun v w' h => h) this
    · rename_i hwant
      rw [if_neg hwant] at this
      exact this
/-- A region that draws its order: each operation by itself, in whatever world of the region. S: what is known of the value of each; J: what is known of the world, told by what has come up; M k: what number k leaves alone; kept: whose values are known behind the region. -/
theorem wp_region_rowsY {id : Nat} {w : World} (kept : List Nat) (S : Nat → Value → World → Prop) (J : (Nat → Bool) → (Nat → Value) → World → Prop) (M : Nat → World → World → Prop) (hm : P.follows .mixedOrders = true)
    (hE : earlyB l = true) (hD : dstB l = true) (hK : (kept.all fun i => decide (i < l.length)) = true) (hM : ∀ k i v w w', i ≠ k → liveB l kept k i = true → M k w w' → S i v w → S i v w') (h0 : ∀ y, J (fun _ => false) y w.drew) (hs : StepsOKY P l S J M a l 0)
    (hend : ∀ y L w', (∀ i, i < l.length → L i = true) → J L y w' → (∀ i ∈ kept, S i (y i) w') → Q .normal (lay l 0 y a) w') :
    (Code.region id l.toArray true).wp P Q a w := by
  refine wp_region_any hm ?_
  have h := wpAny_rowsY hE hD hK hM hs hend l.length (Array.replicate l.length false) (fun i => match l[i]? with | some o => (match o.dst with | some d => a.tmps.getD d undef | none => undef) | none => undef) w.drew (by simp) (by simp) ?_ ?_ ?_
  · rw [lay_self l 0 _ a fun i o ho => by simp only [Nat.zero_add, ho]; rfl] at h
    simpa using h
  · intro i j o ho hw h; simp [Array.getD] at h
  · have e : (fun i => (Array.replicate l.length false).getD i false) = fun _ => false := by funext i; simp [Array.getD]
    rw [e]; exact h0 _
  · intro i h; simp [Array.getD] at h
end
end Go.Proofs.YtbadpmghlclfkaaDoor
namespace Go.Proofs.YtbadpmghlclfkaaDoor
open Go.RowKit

/-- What is asked of the last operation. -/
def KLastY (P : Program) (ops : List Oper) (Ks : List VK) (w0 : World) (a : Act) (After : Value → World → Prop) (m : Nat) (o : Oper) : Prop :=
  ∀ (y : Nat → Value) (w : World), LayOK ops y a → Below w0.heap.size w0 w → (∀ j, needs o j = true → (kindAt Ks j).holds (y j) w) →
    Region.wanted o (yielded ops.toArray (lay ops 0 y a).tmps) = true ∧ EvOK P o (lay ops 0 y a).tmps (fun _ w' => After (y m) w') w
def KStepsSY (P : Program) (ops : List Oper) (Ks : List VK) (w0 : World) (a : Act) (After : Value → World → Prop) (m : Nat) : List Oper → Nat → Prop
  | [], _ => True
  | [o], _ => KLastY P ops Ks w0 a After m o
  | o :: p :: l, k => KStep P ops Ks w0 a k o ∧ KStepsSY P ops Ks w0 a After m (p :: l) (k + 1)
/-- The world, ahead of the store and behind it. -/
def StoreJY (w0 : World) (After : Value → World → Prop) (m n : Nat) (L : Nat → Bool) (y : Nat → Value) (w : World) : Prop := if L n = true then After (y m) w else Below w0.heap.size w0 w
theorem StoreJY.ahead {w0 w : World} {After : Value → World → Prop} {m n : Nat} {L : Nat → Bool} {y : Nat → Value} (h : StoreJY w0 After m n L y w) (e : L n = false) : Below w0.heap.size w0 w := by unfold StoreJY at h; rwa [if_neg (by rw [e]; simp)] at h
theorem StoreJY.got {w0 w : World} {After : Value → World → Prop} {m n : Nat} {L : Nat → Bool} {y : Nat → Value} (h : StoreJY w0 After m n L y w) (e : L n = true) : After (y m) w := by unfold StoreJY at h; rwa [if_pos e] at h
theorem StoreJY.put {w0 w : World} {After : Value → World → Prop} {m n k : Nat} {L : Nat → Bool} {y : Nat → Value} (hne : n ≠ k) (e : L n = false) (h : Below w0.heap.size w0 w) : StoreJY w0 After m n (more L k) y w := by unfold StoreJY; rwa [if_neg (by rw [more_ne hne, e]; simp)]
theorem StoreJY.done {w0 w : World} {After : Value → World → Prop} {m n : Nat} {L : Nat → Bool} {y : Nat → Value} {v : Value} (hne : m ≠ n) (h : After (y m) w) : StoreJY w0 After m n (more L n) (upd y n v) w := by unfold StoreJY; rw [if_pos (more_same L n), upd_ne _ _ hne]; exact h
theorem KStepsSY.ok {P : Program} {ops : List Oper} {Ks : List VK} {w0 : World} {a : Act} {After : Value → World → Prop} {m n : Nat} (hmn : m ≠ n) (hD : dstB ops = true) (hL : lastB ops n = true) (hK : kindAt Ks n = .any) :
    ∀ {l : List Oper} {k : Nat}, k + l.length = n + 1 → (∀ i, i < l.length → k + i < ops.length) → KStepsSY P ops Ks w0 a After m l k →
    StepsOKY P ops (fun i => (kindAt Ks i).holds) (StoreJY w0 After m n) (fun k w w' => k ≠ n → Below w.heap.size w w') a l k
  | [], _, _, _, _ => trivial
  | [o], k, hk, _, h => by
    refine ⟨fun y w L next hl0 hah _ hJ hd hn => ?_, trivial⟩
    have hkn : k = n := by simp at hk; omega
    subst hkn
    have hJ' := hJ.ahead hl0
    obtain ⟨h1, h2⟩ := h y w (LayOK.of hD y a) hJ' hd
    rw [if_pos h1]
    have h3 := h2.get
    have hnx : ∀ v w', After (y m) w' → next v w' := fun v w' hA => hn v w' (fun hne => absurd rfl hne) (StoreJY.done hmn hA) (by show (kindAt Ks k).holds v w'; rw [hK]; trivial)
    revert h3
    cases hr : (execOp (lay ops 0 y a).eval o).run P w with
    | ok x w' =>
      cases x with
      | value v => exact fun h3 => hnx _ _ h3
      | skip => exact fun h3 => hnx _ _ h3
      | enter f args =>
        intro h3
        refine Calls.mono h3 ?_
        rintro e w'' ⟨v, rfl, hv⟩
        exact ⟨v, rfl, hnx _ _ hv⟩
      | _ => exact fun h3 => h3.elim
    | halt x w' => exact fun h3 => h3.elim
  | o :: p :: l, k, hk, hi, h => ⟨fun y w L next hl0 hah hw hJ hd hn => by
      have hkn : k ≠ n := by simp at hk; omega
      have hahn : aheadB ops k n = true := by
        have h3 := List.all_eq_true.1 hL k (by have := hi 0 (by simp); simpa using this)
        simp only [Bool.or_eq_true, beq_iff_eq] at h3
        rcases h3 with h3 | h3
        · exact absurd h3 hkn
        · exact h3
      have hLn : L n = false := hah n hahn
      have hJ' := hJ.ahead hLn
      rcases h.1 y w next (LayOK.of hD y a) hJ' hd fun v w' hb hv => hn v w' (fun _ => hb) (StoreJY.put (Ne.symm hkn) hLn (below_then hJ' hb (Nat.le_refl _))) hv with ⟨h1, h2⟩ | ⟨h1, h2⟩
      · rw [if_pos h1]; exact h2.get
      · rw [if_neg (by rw [h1]; simp)]; exact h2, KStepsSY.ok hmn hD hL hK (l := p :: l) (k := k + 1) (by simp at hk ⊢; omega) (fun i hi2 => by have := hi (i + 1) (by simpa using hi2); omega) h.2⟩
theorem wp_region_known_storeY {P : Program} {l : List Oper} {Q : Exit → Act → World → Prop} {a : Act} {id : Nat} {w : World} (Ks : List VK) (After : Value → World → Prop) (m n : Nat) (hmn : m ≠ n) (hm : P.follows .mixedOrders = true) (hE : earlyB l = true) (hD : dstB l = true) (hL : lastB l n = true) (hn : l.length = n + 1)
    (hK : kindAt Ks n = .any) (hs : KStepsSY P l Ks w a After m l 0) (hend : ∀ y w', After (y m) w' → Q .normal (lay l 0 y a) w') : (Code.region id l.toArray true).wp P Q a w :=
  wp_region_rowsY [] (fun i => (kindAt Ks i).holds) (StoreJY w After m n) (fun k w w' => k ≠ n → Below w.heap.size w w') hm hE hD (by simp)
    (fun k i v w1 w2 hne hl hM hS => by
      by_cases hk : k = n
      · subst hk; exact absurd (live_last hL hl) (by simp)
      · exact VK.below hS (hM hk))
    (fun y => by unfold StoreJY; rw [if_neg (by simp)]; exact below_drew (Below.refl _ _)) (hs.ok hmn hD hL hK (by omega) (by omega))
    fun y L w' hall hJ _ => hend y w' (hJ.got (hall n (by omega)))
end Go.Proofs.YtbadpmghlclfkaaDoor
