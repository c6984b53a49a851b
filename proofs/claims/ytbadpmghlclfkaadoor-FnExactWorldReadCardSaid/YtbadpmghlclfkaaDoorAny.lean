/- A region that draws its order, by what each operation may leave: one proof for each operation serves every order. -/
import Derived.Test.YtbadpmghlclfkaaDoorBase
import Derived.RegionTactic
namespace Go.Proofs.YtbadpmghlclfkaaDoor
open Go.RowKit

theorem below_then {b : Nat} {w w1 w2 : World} (h : Below b w w1) (k : Below w1.heap.size w1 w2) (hb : b ≤ w.heap.size) : Below b w w2 := h.trans (k.mono (Nat.le_trans hb h.size))
def upd (f : Nat → Value) (i : Nat) (v : Value) : Nat → Value := fun k => if k = i then v else f k
theorem upd_same (f : Nat → Value) (i : Nat) (v : Value) : upd f i v i = v := if_pos rfl
theorem upd_ne (f : Nat → Value) {i k : Nat} (v : Value) (h : k ≠ i) : upd f i v k = f k := if_neg h
/-- The frame a, with the values y of the operations l (numbered from k on) in their slots. -/
def lay : List Oper → Nat → (Nat → Value) → Act → Act
  | [], _, _, a => a
  | o :: l, k, y, a => lay l (k + 1) y (a.put o.dst (y k))
theorem lay_nil (k : Nat) (y : Nat → Value) (a : Act) : lay [] k y a = a := rfl
theorem lay_cons (o : Oper) (l : List Oper) (k : Nat) (y : Nat → Value) (a : Act) : lay (o :: l) k y a = lay l (k + 1) y (a.put o.dst (y k)) := rfl
def dstB : List Oper → Bool
  | [] => true
  | o :: l => (l.all fun p => match o.dst with | some d => p.dst != some d | none => true) && dstB l
theorem put_twice (a : Act) (d : Option Tmp) (v u : Value) : (a.put d v).put d u = a.put d u := by
  cases d with
  | none => rfl
  | some d =>
    unfold Act.put
    simp only [Array.setIfInBounds_setIfInBounds]
theorem lay_far : ∀ (l : List Oper) (k : Nat) (y y' : Nat → Value) (a : Act), (∀ j, k ≤ j → y j = y' j) → lay l k y a = lay l k y' a
  | [], _, _, _, _, _ => rfl
  | o :: l, k, y, y', a, h => by
    rw [lay_cons, lay_cons, h k (Nat.le_refl _)]
    exact lay_far l (k + 1) y y' _ fun j hj => h j (by omega)
theorem lay_put_apart (d : Option Tmp) (v : Value) : ∀ (l : List Oper) (k : Nat) (y : Nat → Value) (a : Act), (∀ p ∈ l, ∀ e, p.dst = some e → d ≠ some e) → (lay l k y a).put d v = lay l k y (a.put d v)
  | [], _, _, _, _ => rfl
  | o :: l, k, y, a, h => by
    rw [lay_cons, lay_cons, lay_put_apart d v l (k + 1) y _ fun p hp => h p (List.mem_cons_of_mem _ hp)]
    rw [Act.put_comm a (y k) v (h o (List.mem_cons_self ..))]
theorem lay_put {o : Oper} (v : Value) : ∀ (l : List Oper) (k i : Nat) (y : Nat → Value) (a : Act), dstB l = true → l[i]? = some o → (lay l k y a).put o.dst v = lay l k (upd y (k + i) v) a
  | [], _, _, _, _, _, h => by simp at h
  | p :: l, k, 0, y, a, hd, h => by
    obtain rfl : p = o := by simpa using h
    simp only [dstB, Bool.and_eq_true] at hd
    rw [lay_cons, lay_cons, lay_put_apart, put_twice]
    show lay l (k + 1) y (a.put p.dst v) = lay l (k + 1) (upd y k v) (a.put p.dst (upd y k v k))
    rw [upd_same]
    · exact lay_far l (k + 1) _ _ _ fun j hj => (upd_ne _ _ (by omega)).symm
    · intro q hq e he hpe
      have := List.all_eq_true.1 hd.1 q hq
      rw [hpe] at this
      simp [he] at this
  | p :: l, k, i + 1, y, a, hd, h => by
    simp only [dstB, Bool.and_eq_true] at hd
    rw [lay_cons, lay_cons, lay_put v l (k + 1) i y _ hd.2 (by simpa using h), upd_ne _ _ (by omega)]
    rw [show k + 1 + i = k + (i + 1) by omega]
theorem put_own (a : Act) (d : Option Tmp) : a.put d (match d with | some d => a.tmps.getD d undef | none => undef) = a := by
  cases d with
  | none => rfl
  | some d =>
    unfold Act.put
    cases a with
    | mk t f =>
      show Act.mk (t.setIfInBounds d (t.getD d undef)) f = _
      congr 1
      apply Array.ext
      · simp
      · intro i h1 h2
        rw [Array.getElem_setIfInBounds]
        split
        · rename_i e; subst e; simp [Array.getD, h2]
        · rfl
theorem lay_self : ∀ (l : List Oper) (k : Nat) (y : Nat → Value) (a : Act), (∀ i o, l[i]? = some o → y (k + i) = match o.dst with | some d => a.tmps.getD d undef | none => undef) → lay l k y a = a
  | [], _, _, _, _ => rfl
  | o :: l, k, y, a, h => by
    have h0 := h 0 o rfl
    rw [lay_cons, show y k = _ from h0, put_own]
    exact lay_self l (k + 1) y a fun i p hp => by rw [← h (i + 1) p (by simpa using hp)]; congr 1; omega
/-- What an operation is asked: what is to hold of the value that it yields, and of the world that it leaves. -/
def VUpon (P : Program) (next : Value → World → Prop) : Result Next → Prop
  | .ok (.value v) w' => next v w'
  | .ok .skip w' => next undef w'
  | .ok (.enter f args) w' => Calls P f args w' fun e w'' => ∃ v, e = .returned v ∧ next v w''
  | _ => False
section
variable {P : Program} {next : Value → World → Prop} {w : World}
theorem vupon_value (v : Value) : VUpon P next (.ok (.value v) w) = next v w := rfl
theorem vupon_skip : VUpon P next (.ok .skip w) = next undef w := rfl
theorem vupon_enter (f : FuncId) (args : Array Value) : VUpon P next (.ok (.enter f args) w) = Calls P f args w fun e w'' => ∃ v, e = .returned v ∧ next v w'' := rfl
end
theorem VUpon.wp {P : Program} {o : Oper} {a : Act} {w : World} {K : Act → World → Prop} {Q : Exit → Act → World → Prop} {next : Value → World → Prop}
    (hn : ∀ v w', next v w' → K (a.put o.dst v) w') (h : VUpon P next ((execOp a.eval o).run P w)) : Oper.wp P o a w K Q := by
  unfold Oper.wp
  generalize (execOp a.eval o).run P w = r at h
  cases r with
  | ok n w' =>
    cases n <;> simp only [Oper.upon, VUpon] at h ⊢
    case value v => exact hn _ _ h
    case skip => exact hn _ _ h
    case enter f args =>
      refine Calls.mono h ?_
      rintro e w'' ⟨v, rfl, hv⟩
      exact hn _ _ hv
  | halt x w' => cases h
/-- Operation o waits for number j. -/
def waits (o : Oper) (j : Nat) : Bool := o.after.any fun e => Region.binds .any e && e.on == j
/-- Operation o looks at the value of number j. -/
def needs (o : Oper) (j : Nat) : Bool := o.after.any fun e => Region.binds .any e && (e.ground == .data || e.ground == .guard) && e.on == j
theorem needs_waits {o : Oper} {j : Nat} (h : needs o j = true) : waits o j = true := by
  obtain ⟨e, he, hb⟩ := Array.any_eq_true'.1 h
  simp only [Bool.and_eq_true, beq_iff_eq] at hb
  exact Array.any_eq_true'.2 ⟨e, he, by simp [hb.1.1, hb.2]⟩
/-- The operations that are waited for, by those of a list, and by those in turn. -/
def waited (ops : List Oper) : Nat → List Nat → List Nat
  | 0, s => s
  | n + 1, s => waited ops n (s ++ (List.range ops.length).filter fun j => s.any fun i => match ops[i]? with | some o => waits o j | none => false)
/-- Number k has come up wherever number j has. -/
def aheadB (ops : List Oper) (k j : Nat) : Bool := (waited ops 8 [j]).contains k
/-- The value of number i is wanted behind number k: at the end, or by another one. -/
def liveB (ops : List Oper) (kept : List Nat) (k i : Nat) : Bool := kept.contains i || (List.range ops.length).any fun j => j != k && !aheadB ops j k && match ops[j]? with | some o => needs o i | none => false
def lastB (ops : List Oper) (k : Nat) : Bool := (List.range ops.length).all fun j => j == k || aheadB ops j k
/-- Behind the one that all others come ahead of, no value is wanted but those that are kept. -/
theorem live_last {ops : List Oper} {kept : List Nat} {k i : Nat} (h : lastB ops k = true) (hl : liveB ops kept k i = true) : i ∈ kept := by
  simp only [liveB, Bool.or_eq_true] at hl
  rcases hl with hl | hl
  · simpa using hl
  · exfalso
    obtain ⟨j, hj, h2⟩ := List.any_eq_true.1 hl
    have h3 := List.all_eq_true.1 h j hj
    simp only [Bool.or_eq_true, beq_iff_eq] at h3
    rcases h3 with rfl | h3
    · simp at h2
    · simp [h3] at h2
/-- The flags, with one more. -/
def more (L : Nat → Bool) (k : Nat) : Nat → Bool := fun i => if i = k then true else L i
theorem more_same (L : Nat → Bool) (k : Nat) : more L k k = true := if_pos rfl
theorem more_ne {L : Nat → Bool} {k i : Nat} (h : i ≠ k) : more L k i = L i := if_neg h
/-- The world, by whether number j has come up. -/
def byFlag (j : Nat) (F : Bool → World → Prop) (L : Nat → Bool) (w : World) : Prop := F (L j) w
theorem byFlag.get {j : Nat} {F : Bool → World → Prop} {L : Nat → Bool} {w : World} (h : byFlag j F L w) (e : L j = false) : F false w := by unfold byFlag at h; rw [e] at h; exact h
theorem byFlag.got {j : Nat} {F : Bool → World → Prop} {L : Nat → Bool} {w : World} (h : byFlag j F L w) (e : L j = true) : F true w := by unfold byFlag at h; rw [e] at h; exact h
theorem byFlag.put {j k : Nat} {F : Bool → World → Prop} {L : Nat → Bool} {w : World} (hne : j ≠ k) (e : L j = false) (h : F false w) : byFlag j F (more L k) w := by unfold byFlag; rw [more_ne hne, e]; exact h
theorem byFlag.done {j : Nat} {F : Bool → World → Prop} {L : Nat → Bool} {w : World} (h : F true w) : byFlag j F (more L j) w := by unfold byFlag; rw [more_same]; exact h
/-- What is asked of one operation. -/
def StepOK (P : Program) (ops : List Oper) (S : Nat → Value → World → Prop) (J : (Nat → Bool) → World → Prop) (M : Nat → World → World → Prop) (a : Act) (k : Nat) (o : Oper) : Prop :=
  ∀ (y : Nat → Value) (w : World) (L : Nat → Bool) (next : Value → World → Prop), L k = false → (∀ j, aheadB ops k j = true → L j = false) → (∀ j, waits o j = true → L j = true) → J L w → (∀ j, needs o j = true → S j (y j) w) →
    (∀ v w', M k w w' → J (more L k) w' → S k v w' → next v w') →
    if Region.wanted o (yielded ops.toArray (lay ops 0 y a).tmps) = true then VUpon P next ((execOp (lay ops 0 y a).eval o).run P w) else next undef w
def StepsOK (P : Program) (ops : List Oper) (S : Nat → Value → World → Prop) (J : (Nat → Bool) → World → Prop) (M : Nat → World → World → Prop) (a : Act) : List Oper → Nat → Prop
  | [], _ => True
  | o :: l, k => StepOK P ops S J M a k o ∧ StepsOK P ops S J M a l (k + 1)
theorem StepsOK.at {P : Program} {ops : List Oper} {S : Nat → Value → World → Prop} {J : (Nat → Bool) → World → Prop} {M : Nat → World → World → Prop} {a : Act} :
    ∀ {l : List Oper} {k i : Nat} {o : Oper}, StepsOK P ops S J M a l k → l[i]? = some o → StepOK P ops S J M a (k + i) o
  | [], _, _, _, _, h => by simp at h
  | p :: l, k, 0, o, hs, h => by obtain rfl : p = o := by simpa using h
                                 exact hs.1
  | p :: l, k, i + 1, o, hs, h => by
    rw [show k + (i + 1) = k + 1 + i by omega]
    exact StepsOK.at hs.2 (by simpa using h)
def earlyB (ops : List Oper) : Bool := (List.range ops.length).all fun i => match ops[i]? with | some o => o.after.all fun e => !Region.binds .any e || decide (e.on < i) | none => true
theorem waited_listed {ops : List Oper} {L : Nat → Bool} (hc : ∀ i j o, ops[i]? = some o → waits o j = true → L i = true → L j = true) :
    ∀ (n : Nat) (s : List Nat), (∀ i ∈ s, L i = true) → ∀ i ∈ waited ops n s, L i = true
  | 0, _, h, i, hi => h i hi
  | n + 1, s, h, i, hi => by
    refine waited_listed hc n _ (fun j hj => ?_) i hi
    rcases List.mem_append.1 hj with hj | hj
    · exact h j hj
    · have := (List.mem_filter.1 hj).2
      obtain ⟨i', hi', h2⟩ := List.any_eq_true.1 this
      split at h2
      · rename_i o ho; exact hc i' j o ho h2 (h i' hi')
      · cases h2
theorem ready_waits {ops : Array Oper} {listed : Array Bool} {i : Nat} (h : i ∈ Region.ready .any ops listed) :
    listed.getD i true = false ∧ ∃ o, ops[i]? = some o ∧ ∀ j, waits o j = true → listed.getD j false = true := by
  obtain ⟨h1, o, h2, h3⟩ := mem_ready.1 h
  refine ⟨h1, o, h2, fun j hj => ?_⟩
  obtain ⟨e, he, hb⟩ := Array.any_eq_true'.1 hj
  simp only [Bool.and_eq_true, beq_iff_eq] at hb
  rw [← hb.2]; exact h3 e he hb.1
theorem all_ready {ops : List Oper} {listed : Array Bool} (hE : earlyB ops = true) (hr : Region.ready .any ops.toArray listed = []) (hs : listed.size = ops.length) : ∀ i, i < ops.length → listed.getD i false = true := by
  intro i
  induction i using Nat.strongRecOn with
  | ind i ih =>
    intro hi
    cases hl : listed.getD i false with
    | true => rfl
    | false =>
      exfalso
      have : i ∈ Region.ready .any ops.toArray listed := by
        refine mem_ready.2 ⟨?_, ops[i], by simp [hi], fun e he hb => ?_⟩
        · have hi2 : i < listed.size := by omega
          simp only [Array.getD, hi2, dite_true] at hl ⊢; exact hl
        · have h1 := List.all_eq_true.1 hE i (by simpa using hi)
          rw [List.getElem?_eq_getElem hi] at h1
          have h2 := (Array.all_eq_true'.1 h1) e he
          simp only [hb, Bool.not_true, Bool.false_or, decide_eq_true_eq] at h2
          exact ih e.on h2 (by omega)
      rw [hr] at this; cases this
theorem count_set {l : Array Bool} {i : Nat} (h : l.getD i true = false) : (l.setIfInBounds i true).toList.count false + 1 = l.toList.count false := by
  have hi : i < l.size := by
    rcases Nat.lt_or_ge i l.size with h1 | h1
    · exact h1
    · simp [Array.getD, Nat.not_lt.2 h1] at h
  have hv : l[i] = false := by simpa [Array.getD, hi] using h
  rw [Array.toList_setIfInBounds, List.count_set (by simpa using hi)]
  have hpos : 0 < l.toList.count false := List.count_pos_iff.2 (by rw [← hv]; simp)
  have hv2 : l.toList[i]'(by simpa using hi) = false := by simpa using hv
  rw [hv2]
  simp only [beq_self_eq_true, if_true, show (true == false) = false from rfl, Bool.false_eq_true, if_false]
  omega
theorem getD_set {l : Array Bool} {i : Nat} (h : i < l.size) (k : Nat) : (l.setIfInBounds i true).getD k false = if k = i then true else l.getD k false := by
  simp only [Array.getD_eq_getD_getElem?, Array.getElem?_setIfInBounds]
  by_cases hk : i = k
  · subst hk; simp [h]
  · simp [hk, Ne.symm hk]
theorem getD_more {l : Array Bool} {i : Nat} (h : i < l.size) : (fun k => (l.setIfInBounds i true).getD k false) = more (fun k => l.getD k false) i := by
  funext k; rw [getD_set h]; rfl
section
variable {P : Program} {l : List Oper} {Q : Exit → Act → World → Prop} {a : Act} {S : Nat → Value → World → Prop} {J : (Nat → Bool) → World → Prop} {M : Nat → World → World → Prop} {kept : List Nat}
theorem ahead_listed {listed : Array Bool} (hc : ∀ i j o, l[i]? = some o → waits o j = true → listed.getD i false = true → listed.getD j false = true) {k j : Nat} (h : aheadB l k j = true) (hk : listed.getD k false = false) : listed.getD j false = false := by
  cases hb : listed.getD j false with
  | false => rfl
  | true =>
    have h3 := waited_listed (ops := l) (L := fun k => listed.getD k false) (fun i j o a b c => hc i j o a b c) 8 [j] (by simpa using hb) k (by simpa [aheadB] using h)
    rw [hk] at h3; cases h3
theorem wpAny_rows (hE : earlyB l = true) (hD : dstB l = true) (hK : (kept.all fun i => decide (i < l.length)) = true) (hM : ∀ k i v w w', i ≠ k → liveB l kept k i = true → M k w w' → S i v w → S i v w') (hs : StepsOK P l S J M a l 0)
    (hend : ∀ y L w', (∀ i, i < l.length → L i = true) → J L w' → (∀ i ∈ kept, S i (y i) w') → Q .normal (lay l 0 y a) w') :
    ∀ (fuel : Nat) (listed : Array Bool) (y : Nat → Value) (w : World), listed.size = l.length → listed.toList.count false = fuel →
      (∀ i j o, l[i]? = some o → waits o j = true → listed.getD i false = true → listed.getD j false = true) → J (fun i => listed.getD i false) w →
      (∀ i, listed.getD i false = true → (i ∈ kept ∨ ∃ k o, l[k]? = some o ∧ needs o i = true ∧ listed.getD k false = false) → S i (y i) w) →
      wpAny P .any l.toArray Q fuel listed (lay l 0 y a) w := by
  have hfin : ∀ (listed : Array Bool) (y : Nat → Value) (w : World), listed.size = l.length → J (fun i => listed.getD i false) w →
      (∀ i, listed.getD i false = true → (i ∈ kept ∨ ∃ k o, l[k]? = some o ∧ needs o i = true ∧ listed.getD k false = false) → S i (y i) w) → Region.ready .any l.toArray listed = [] → Q .normal (lay l 0 y a) w := by
    intro listed y w hsz hJ hS hr
    have hall := all_ready hE hr hsz
    exact hend y _ w (fun i hi => hall i hi) hJ fun i hi => hS i (hall i (of_decide_eq_true (List.all_eq_true.1 hK i hi))) (.inl hi)
  intro fuel
  induction fuel with
  | zero =>
    intro listed y w hsz hcnt hc hJ hS
    have hr : Region.ready .any l.toArray listed = [] := by
      apply List.eq_nil_iff_forall_not_mem.2
      intro i hi
      have h1 := (ready_waits hi).1
      have := count_set h1
      omega
    exact ⟨hr, hfin listed y w hsz hJ hS hr⟩
  | succ fuel ih =>
    intro listed y w hsz hcnt hc hJ hS
    refine ⟨hfin listed y w hsz hJ hS, fun i hi => ?_⟩
    obtain ⟨h1, o, ho, hw⟩ := ready_waits hi
    have ho' : l[i]? = some o := by simpa using ho
    have hilt : i < l.length := (List.getElem?_eq_some_iff.1 ho').1
    have hilt2 : i < listed.size := by omega
    have h1' : listed.getD i false = false := by simp only [Array.getD, hilt2, dite_true] at h1 ⊢; exact h1
    have hgo := hs.at (i := i) ho'
    rw [Nat.zero_add] at hgo
    refine wpOp_step ho fun K' hK' => ?_
    have hput : ∀ v w', M i w w' → J (more (fun k => listed.getD k false) i) w' → S i v w' → K' ((lay l 0 y a).put o.dst v) w' := by
      intro v w' hMw hJ' hSv
      refine hK' _ _ ?_
      rw [lay_put v l 0 i y a hD ho', Nat.zero_add]
      have hg := getD_set (l := listed) hilt2
      have hcl : ∀ i' j o, l[i']? = some o → waits o j = true → (listed.setIfInBounds i true).getD i' false = true → (listed.setIfInBounds i true).getD j false = true := by
        intro i2 j o' ho2 hw2 h3
        rw [hg] at h3 ⊢
        split at h3
        · rename_i e; subst e
          obtain rfl : o = o' := by rw [ho'] at ho2; exact Option.some.inj ho2
          split
          · rfl
          · exact hw j hw2
        · split
          · rfl
          · exact hc i2 j o' ho2 hw2 h3
      refine ih _ _ _ (by simpa using hsz) (by have := count_set h1; omega) hcl ?_ ?_
      · rw [getD_more hilt2]; exact hJ'
      · intro i' h3 h4
        by_cases he : i' = i
        · subst he; rw [upd_same]; exact hSv
        · rw [upd_ne _ _ he]
          rw [hg, if_neg he] at h3
          have hlive : liveB l kept i i' = true ∧ (i' ∈ kept ∨ ∃ k o, l[k]? = some o ∧ needs o i' = true ∧ listed.getD k false = false) := by
            rcases h4 with h4 | ⟨k, o', hk, hn, hl⟩
            · exact ⟨by simp [liveB, h4], .inl h4⟩
            · have hkl : k < l.length := (List.getElem?_eq_some_iff.1 hk).1
              have hl0 := hl
              have hna : aheadB l k i = false := by
                cases hb : aheadB l k i with
                | false => rfl
                | true =>
                  have := ahead_listed hcl hb hl0
                  rw [hg, if_pos rfl] at this; cases this
              rw [hg] at hl
              split at hl
              · cases hl
              · rename_i hki
                exact ⟨by simp only [liveB, Bool.or_eq_true]; right; exact List.any_eq_true.2 ⟨k, by simpa using hkl, by simp [hk, hn, hki, hna]⟩, .inr ⟨k, o', hk, hn, hl⟩⟩
          exact hM i i' _ _ _ he hlive.1 hMw (hS i' h3 hlive.2)
    have := hgo y w (fun k => listed.getD k false) (fun v w' => K' ((lay l 0 y a).put o.dst v) w') h1' (fun j hj => ahead_listed hc hj h1') hw hJ (fun j hj => hS j (hw j (needs_waits hj)) (.inr ⟨i, o, ho', hj, h1'⟩)) hput
    split
    · rename_i hwant
      rw [if_pos hwant] at this
      exact VUpon.wp (fun v w' h => h) this
    · rename_i hwant
      rw [if_neg hwant] at this
      exact this
/-- A region that draws its order: each operation by itself, in whatever world of the region. S: what is known of the value of each; J: what is known of the world, told by what has come up; M k: what number k leaves alone; kept: whose values are known behind the region. -/
theorem wp_region_rows {id : Nat} {w : World} (kept : List Nat) (S : Nat → Value → World → Prop) (J : (Nat → Bool) → World → Prop) (M : Nat → World → World → Prop) (hm : P.follows .mixedOrders = true)
    (hE : earlyB l = true) (hD : dstB l = true) (hK : (kept.all fun i => decide (i < l.length)) = true) (hM : ∀ k i v w w', i ≠ k → liveB l kept k i = true → M k w w' → S i v w → S i v w') (h0 : J (fun _ => false) w.drew) (hs : StepsOK P l S J M a l 0)
    (hend : ∀ y L w', (∀ i, i < l.length → L i = true) → J L w' → (∀ i ∈ kept, S i (y i) w') → Q .normal (lay l 0 y a) w') :
    (Code.region id l.toArray true).wp P Q a w := by
  refine wp_region_any hm ?_
  have h := wpAny_rows hE hD hK hM hs hend l.length (Array.replicate l.length false) (fun i => match l[i]? with | some o => (match o.dst with | some d => a.tmps.getD d undef | none => undef) | none => undef) w.drew (by simp) (by simp) ?_ ?_ ?_
  · rw [lay_self l 0 _ a fun i o ho => by simp only [Nat.zero_add, ho]] at h
    simpa using h
  · intro i j o ho hw h; simp [Array.getD] at h
  · have e : (fun i => (Array.replicate l.length false).getD i false) = fun _ => false := by funext i; simp [Array.getD]
    rw [e]; exact h0
  · intro i h; simp [Array.getD] at h
end
end Go.Proofs.YtbadpmghlclfkaaDoor
