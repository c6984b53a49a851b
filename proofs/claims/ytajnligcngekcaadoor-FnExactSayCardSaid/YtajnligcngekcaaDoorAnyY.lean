/- A region that draws its order, as in Any, where what is known of the world may speak of the values that have come up. -/
import Derived.Test.YtajnligcngekcaaDoorAny
import Derived.RegionTactic
namespace Go.Proofs.YtajnligcngekcaaDoor
open Go.RowKit

/-- What is asked of one operation. -/
def StepOKY (P : Program) (ops : List Oper) (S : Nat → Value → World → Prop) (J : (Nat → Bool) → (Nat → Value) → World → Prop) (M : Nat → World → World → Prop) (a : Act) (k : Nat) (o : Oper) : Prop :=
  ∀ (y : Nat → Value) (w : World) (L : Nat → Bool) (next : Value → World → Prop), L k = false → (∀ j, aheadB ops k j = true → L j = false) → (∀ j, waits o j = true → L j = true) → J L y w → (∀ j, needs o j = true → S j (y j) w) →
    (∀ v w', M k w w' → J (more L k) (upd y k v) w' → S k v w' → next v w') →
    if Region.wanted o (yielded ops.toArray (lay ops 0 y a).tmps) = true then VUpon P next ((execOp (lay ops 0 y a).eval o).run P w) else next undef w
def StepsOKY (P : Program) (ops : List Oper) (S : Nat → Value → World → Prop) (J : (Nat → Bool) → (Nat → Value) → World → Prop) (M : Nat → World → World → Prop) (a : Act) : List Oper → Nat → Prop
  | [], _ => True
  | o :: l, k => StepOKY P ops S J M a k o ∧ StepsOKY P ops S J M a l (k + 1)
theorem StepsOKY.at {P : Program} {ops : List Oper} {S : Nat → Value → World → Prop} {J : (Nat → Bool) → (Nat → Value) → World → Prop} {M : Nat → World → World → Prop} {a : Act} :
    ∀ {l : List Oper} {k i : Nat} {o : Oper}, StepsOKY P ops S J M a l k → l[i]? = some o → StepOKY P ops S J M a (k + i) o
  | [], _, _, _, _, h => by simp at h
  | p :: l, k, 0, o, hs, h => by obtain rfl : p = o := by simpa using h
                                 exact hs.1
  | p :: l, k, i + 1, o, hs, h => by
    rw [show k + (i + 1) = k + 1 + i by omega]
    exact StepsOKY.at hs.2 (by simpa using h)
section
variable {P : Program} {l : List Oper} {Q : Exit → Act → World → Prop} {a : Act} {S : Nat → Value → World → Prop} {J : (Nat → Bool) → (Nat → Value) → World → Prop} {M : Nat → World → World → Prop} {kept : List Nat}
theorem ahead_listedY {listed : Array Bool} (hc : ∀ i j o, l[i]? = some o → waits o j = true → listed.getD i false = true → listed.getD j false = true) {k j : Nat} (h : aheadB l k j = true) (hk : listed.getD k false = false) : listed.getD j false = false := by
  cases hb : listed.getD j false with
  | false => rfl
  | true =>
    have h3 := waited_listed (ops := l) (L := fun k => listed.getD k false) (fun i j o a b c => hc i j o a b c) 8 [j] (by simpa using hb) k (by simpa [aheadB] using h)
    rw [hk] at h3; cases h3
theorem wpAny_rowsY (hE : earlyB l = true) (hD : dstB l = true) (hK : (kept.all fun i => decide (i < l.length)) = true) (hM : ∀ k i v w w', i ≠ k → liveB l kept k i = true → M k w w' → S i v w → S i v w') (hs : StepsOKY P l S J M a l 0)
    (hend : ∀ y L w', (∀ i, i < l.length → L i = true) → J L y w' → (∀ i ∈ kept, S i (y i) w') → Q .normal (lay l 0 y a) w') :
    ∀ (fuel : Nat) (listed : Array Bool) (y : Nat → Value) (w : World), listed.size = l.length → listed.toList.count false = fuel →
      (∀ i j o, l[i]? = some o → waits o j = true → listed.getD i false = true → listed.getD j false = true) → J (fun i => listed.getD i false) y w →
      (∀ i, listed.getD i false = true → (i ∈ kept ∨ ∃ k o, l[k]? = some o ∧ needs o i = true ∧ listed.getD k false = false) → S i (y i) w) →
      wpAny P .any l.toArray Q fuel listed (lay l 0 y a) w := by
  have hfin : ∀ (listed : Array Bool) (y : Nat → Value) (w : World), listed.size = l.length → J (fun i => listed.getD i false) y w →
      (∀ i, listed.getD i false = true → (i ∈ kept ∨ ∃ k o, l[k]? = some o ∧ needs o i = true ∧ listed.getD k false = false) → S i (y i) w) → Region.ready .any l.toArray listed = [] → Q .normal (lay l 0 y a) w := by
    intro listed y w hsz hJ hS hr
    have hall := all_ready hE hr hsz
    exact hend y _ w (fun i hi => hall i hi) hJ fun i hi => hS i (hall i (of_decide_eq_true (List.all_eq_true.1 hK i hi))) (.inl hi)
  intro fuel
  induction fuel with
  | zero =>
    intro listed y w hsz hcnt hc hJ hS
    have hr : Region.ready .any l.toArray listed = [] := by
      apply List.eq_nil_iff_forall_not_mem.2
      intro i hi
      have h1 := (ready_waits hi).1
      have := count_set h1
      omega
    exact ⟨hr, hfin listed y w hsz hJ hS hr⟩
  | succ fuel ih =>
    intro listed y w hsz hcnt hc hJ hS
    refine ⟨hfin listed y w hsz hJ hS, fun i hi => ?_⟩
    obtain ⟨h1, o, ho, hw⟩ := ready_waits hi
    have ho' : l[i]? = some o := by simpa using ho
    have hilt : i < l.length := (List.getElem?_eq_some_iff.1 ho').1
    have hilt2 : i < listed.size := by omega
    have h1' : listed.getD i false = false := by simp only [Array.getD, hilt2, dite_true] at h1 ⊢; exact h1
    have hgo := hs.at (i := i) ho'
    rw [Nat.zero_add] at hgo
    refine wpOp_step ho fun K' hK' => ?_
    have hput : ∀ v w', M i w w' → J (more (fun k => listed.getD k false) i) (upd y i v) w' → S i v w' → K' ((lay l 0 y a).put o.dst v) w' := by
      intro v w' hMw hJ' hSv
      refine hK' _ _ ?_
      rw [lay_put v l 0 i y a hD ho', Nat.zero_add]
      have hg := getD_set (l := listed) hilt2
      have hcl : ∀ i' j o, l[i']? = some o → waits o j = true → (listed.setIfInBounds i true).getD i' false = true → (listed.setIfInBounds i true).getD j false = true := by
        intro i2 j o' ho2 hw2 h3
        rw [hg] at h3 ⊢
        split at h3
        · rename_i e; subst e
          obtain rfl : o = o' := by rw [ho'] at ho2; exact Option.some.inj ho2
          split
          · rfl
          · exact hw j hw2
        · split
          · rfl
          · exact hc i2 j o' ho2 hw2 h3
      refine ih _ _ _ (by simpa using hsz) (by have := count_set h1; omega) hcl ?_ ?_
      · rw [getD_more hilt2]; exact hJ'
      · intro i' h3 h4
        by_cases he : i' = i
        · subst he; rw [upd_same]; exact hSv
        · rw [upd_ne _ _ he]
          rw [hg, if_neg he] at h3
          have hlive : liveB l kept i i' = true ∧ (i' ∈ kept ∨ ∃ k o, l[k]? = some o ∧ needs o i' = true ∧ listed.getD k false = false) := by
            rcases h4 with h4 | ⟨k, o', hk, hn, hl⟩
            · exact ⟨by simp [liveB, h4], .inl h4⟩
            · have hkl : k < l.length := (List.getElem?_eq_some_iff.1 hk).1
              have hl0 := hl
              have hna : aheadB l k i = false := by
                cases hb : aheadB l k i with
                | false => rfl
                | true =>
                  have := ahead_listedY hcl hb hl0
                  rw [hg, if_pos rfl] at this; cases this
              rw [hg] at hl
              split at hl
              · cases hl
              · rename_i hki
                exact ⟨by simp only [liveB, Bool.or_eq_true]; right; exact List.any_eq_true.2 ⟨k, by simpa using hkl, by simp [hk, hn, hki, hna]⟩, .inr ⟨k, o', hk, hn, hl⟩⟩
          exact hM i i' _ _ _ he hlive.1 hMw (hS i' h3 hlive.2)
    have := hgo y w (fun k => listed.getD k false) (fun v w' => K' ((lay l 0 y a).put o.dst v) w') h1' (fun j hj => ahead_listedY hc hj h1') hw hJ (fun j hj => hS j (hw j (needs_waits hj)) (.inr ⟨i, o, ho', hj, h1'⟩)) hput
    split
    · rename_i hwant
      rw [if_pos hwant] at this
      exact VUpon.wp (fun v w' h => h) this
    · rename_i hwant
      rw [if_neg hwant] at this
      exact this
/-- A region that draws its order: each operation by itself, in whatever world of the region. S: what is known of the value of each; J: what is known of the world, told by what has come up; M k: what number k leaves alone; kept: whose values are known behind the region. -/
theorem wp_region_rowsY {id : Nat} {w : World} (kept : List Nat) (S : Nat → Value → World → Prop) (J : (Nat → Bool) → (Nat → Value) → World → Prop) (M : Nat → World → World → Prop) (hm : P.follows .mixedOrders = true)
    (hE : earlyB l = true) (hD : dstB l = true) (hK : (kept.all fun i => decide (i < l.length)) = true) (hM : ∀ k i v w w', i ≠ k → liveB l kept k i = true → M k w w' → S i v w → S i v w') (h0 : ∀ y, J (fun _ => false) y w.drew) (hs : StepsOKY P l S J M a l 0)
    (hend : ∀ y L w', (∀ i, i < l.length → L i = true) → J L y w' → (∀ i ∈ kept, S i (y i) w') → Q .normal (lay l 0 y a) w') :
    (Code.region id l.toArray true).wp P Q a w := by
  refine wp_region_any hm ?_
  have h := wpAny_rowsY hE hD hK hM hs hend l.length (Array.replicate l.length false) (fun i => match l[i]? with | some o => (match o.dst with | some d => a.tmps.getD d undef | none => undef) | none => undef) w.drew (by simp) (by simp) ?_ ?_ ?_
  · rw [lay_self l 0 _ a fun i o ho => by simp only [Nat.zero_add, ho]; rfl] at h
    simpa using h
  · intro i j o ho hw h; simp [Array.getD] at h
  · have e : (fun i => (Array.replicate l.length false).getD i false) = fun _ => false := by funext i; simp [Array.getD]
    rw [e]; exact h0 _
  · intro i h; simp [Array.getD] at h
end
end Go.Proofs.YtajnligcngekcaaDoor
