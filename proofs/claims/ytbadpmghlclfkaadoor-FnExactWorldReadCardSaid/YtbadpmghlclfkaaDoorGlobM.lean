/- Globs, plainly: the parts of a glob, the pieces of a text that parts mean, and what one walk along the text with a place to come back to has found so far. -/
import Derived.Test.YtbadpmghlclfkaaDoorBase
namespace Go.Proofs.YtbadpmghlclfkaaDoor

inductive Pt where
  | star | any | byte (b : UInt8)
def Pt.isStar : Pt → Bool
  | .star => true
  | _ => false
def Pt.fits : Pt → UInt8 → Bool
  | .star, _ => false
  | .any, _ => true
  | .byte b, c => c == b

/-- The parts of a glob; none, if it ends with a backslash that has none behind it. -/
def parts : List UInt8 → Option (List Pt)
  | [] => some []
  | c :: r =>
    if c = 42 then (parts r).map (Pt.star :: ·)
    else if c = 63 then (parts r).map (Pt.any :: ·)
    else if c = 92 then
      match r with
      | [] => none
      | d :: r' => (parts r').map (Pt.byte d :: ·)
    else (parts r).map (Pt.byte c :: ·)
def globOk (l : List UInt8) : Bool := decide (1 ≤ l.length) && decide (l.length ≤ 40) && (parts l).isSome

theorem drop_at {l : List UInt8} {i : Nat} {c : UInt8} (h : l[i]? = some c) : l.drop i = c :: l.drop (i + 1) := by
  obtain ⟨hi, rfl⟩ := List.getElem?_eq_some_iff.1 h
  exact List.drop_eq_getElem_cons hi
theorem parts_cons (c : UInt8) (r : List UInt8) : parts (c :: r) = if c = 42 then (parts r).map (Pt.star :: ·) else if c = 63 then (parts r).map (Pt.any :: ·)
    else if c = 92 then (match r with | [] => none | d :: r' => (parts r').map (Pt.byte d :: ·)) else (parts r).map (Pt.byte c :: ·) := by cases r <;> rfl
theorem parts_end {l : List UInt8} {i : Nat} (h : l.length ≤ i) : parts (l.drop i) = some [] := by rw [List.drop_eq_nil_of_le h]; rfl
theorem parts_star {l : List UInt8} {i : Nat} (h : l[i]? = some 42) : parts (l.drop i) = (parts (l.drop (i + 1))).map (Pt.star :: ·) := by
  rw [drop_at h, parts_cons, if_pos rfl]
theorem parts_any {l : List UInt8} {i : Nat} (h : l[i]? = some 63) : parts (l.drop i) = (parts (l.drop (i + 1))).map (Pt.any :: ·) := by
  rw [drop_at h, parts_cons, if_neg (by decide), if_pos rfl]
theorem parts_back_end {l : List UInt8} {i : Nat} (h : l[i]? = some 92) (he : l.length ≤ i + 1) : parts (l.drop i) = none := by
  rw [drop_at h, parts_cons, if_neg (by decide), if_neg (by decide), if_pos rfl, List.drop_eq_nil_of_le he]
theorem parts_back {l : List UInt8} {i : Nat} {d : UInt8} (h : l[i]? = some 92) (hd : l[i + 1]? = some d) : parts (l.drop i) = (parts (l.drop (i + 2))).map (Pt.byte d :: ·) := by
  rw [drop_at h, parts_cons, if_neg (by decide), if_neg (by decide), if_pos rfl, drop_at hd]
theorem parts_byte {l : List UInt8} {i : Nat} {c : UInt8} (h : l[i]? = some c) (h1 : c ≠ 42) (h2 : c ≠ 63) (h3 : c ≠ 92) : parts (l.drop i) = (parts (l.drop (i + 1))).map (Pt.byte c :: ·) := by
  rw [drop_at h, parts_cons, if_neg h1, if_neg h2, if_neg h3]

/-! What parts mean, by places of the text. -/
def OneAt (t : List UInt8) (p : Pt) (i j : Nat) : Prop := (p.isStar = true ∧ i ≤ j) ∨ (p.isStar = false ∧ j = i + 1 ∧ ∃ c, t[i]? = some c ∧ p.fits c = true)
def At (t : List UInt8) : List Pt → Nat → Nat → Prop
  | [], i, k => i = k
  | p :: ps, i, k => ∃ j, OneAt t p i j ∧ At t ps j k
def Solid (ps : List Pt) : Prop := ∀ p ∈ ps, p.isStar = false
theorem oneAt_le {t : List UInt8} {p : Pt} {i j : Nat} (h : OneAt t p i j) : i ≤ j := by rcases h with ⟨_, h⟩ | ⟨_, h, _⟩ <;> omega
theorem at_le {t : List UInt8} {ps : List Pt} {i k : Nat} (h : At t ps i k) : i ≤ k := by
  induction ps generalizing i with
  | nil => exact Nat.le_of_eq h
  | cons p ps ih => obtain ⟨j, h1, h2⟩ := h; exact Nat.le_trans (oneAt_le h1) (ih h2)
theorem at_append {t : List UInt8} {ps qs : List Pt} {i k : Nat} : At t (ps ++ qs) i k ↔ ∃ j, At t ps i j ∧ At t qs j k := by
  induction ps generalizing i with
  | nil => exact ⟨fun h => ⟨i, rfl, h⟩, fun ⟨j, h1, h2⟩ => by cases h1; exact h2⟩
  | cons p ps ih =>
    constructor
    · rintro ⟨j, h1, h2⟩
      obtain ⟨m, h3, h4⟩ := ih.1 h2
      exact ⟨m, ⟨j, h1, h3⟩, h4⟩
    · rintro ⟨m, ⟨j, h1, h3⟩, h4⟩
      exact ⟨j, h1, ih.2 ⟨m, h3, h4⟩⟩
theorem at_one {t : List UInt8} {p : Pt} {i k : Nat} : At t [p] i k ↔ OneAt t p i k :=
  ⟨fun ⟨j, h1, h2⟩ => by cases h2; exact h1, fun h => ⟨k, h, rfl⟩⟩
theorem at_solid {t : List UInt8} {ps : List Pt} (hs : Solid ps) {i k : Nat} (h : At t ps i k) : k = i + ps.length := by
  induction ps generalizing i with
  | nil => cases h; rfl
  | cons p ps ih =>
    obtain ⟨j, h1, h2⟩ := h
    have := ih (fun q hq => hs q (List.mem_cons_of_mem _ hq)) h2
    rcases h1 with ⟨h1, _⟩ | ⟨_, h1, _⟩
    · rw [hs p List.mem_cons_self] at h1; cases h1
    · simp; omega
theorem solid_nil : Solid [] := fun p hp => by cases hp
theorem solid_snoc {ps : List Pt} {x : Pt} (h : Solid ps) (hx : x.isStar = false) : Solid (ps ++ [x]) := fun p hp => by
  rcases List.mem_append.1 hp with h' | h'
  · exact h p h'
  · simp at h'; subst h'; exact hx
/-- What is no star wants a byte. -/
theorem at_more {t : List UInt8} {ps : List Pt} {x : Pt} {qs : List Pt} (hs : Solid ps) (hx : x.isStar = false) {i k : Nat} (h : At t (ps ++ x :: qs) i k) :
    (∃ c, t[i + ps.length]? = some c ∧ x.fits c = true) ∧ i + ps.length + 1 ≤ k := by
  obtain ⟨j, h1, m, h2, h3⟩ := at_append.1 h
  have hj := at_solid hs h1
  have hm := at_le h3
  rcases h2 with ⟨h2, _⟩ | ⟨_, rfl, c, hc, hf⟩
  · rw [hx] at h2; cases h2
  · subst hj; exact ⟨⟨c, hc, hf⟩, hm⟩

/-- A piece of the text that the parts mean. -/
def Gs (t : List UInt8) (ps : List Pt) (x : Nat × Nat) : Prop := At t ps x.1 x.2 ∧ x.2 ≤ t.length
theorem Gs.le {t : List UInt8} {ps : List Pt} {x : Nat × Nat} (h : Gs t ps x) : x.1 ≤ x.2 := at_le h.1
def lex (x y : Nat × Nat) : Prop := x.1 < y.1 ∨ (x.1 = y.1 ∧ x.2 < y.2)

/-- Without a star so far: those that begin ahead of fr have come. -/
def K0 (t : List UInt8) (ps : List Pt) (xs : List (Nat × Nat)) (fr : Nat) : Prop :=
  (xs = [] ∨ Solid ps) ∧ (∀ x ∈ xs, Gs t ps x ∧ x.1 < fr) ∧ xs.Pairwise lex ∧ ∀ f k, Gs t ps (f, k) → fr ≤ f ∨ (f, k) ∈ xs
/-- Behind the last star: B is what stands behind it; those have come where B begins ahead of ag. -/
def K1 (t : List UInt8) (ps : List Pt) (xs : List (Nat × Nat)) (fr ag : Nat) (B : List Pt) : Prop :=
  (∃ A, ps = A ++ .star :: B ∧ ∀ a, ag ≤ a → At t (A ++ [.star]) fr a) ∧ (xs = [] ∨ Solid B) ∧ (∀ x ∈ xs, Gs t ps x ∧ x.1 = fr ∧ x.2 < ag + B.length) ∧ xs.Pairwise lex ∧
    ∀ f k, Gs t ps (f, k) → fr ≤ f ∧ ((∃ j, ag ≤ j ∧ At t B j k) ∨ (fr, k) ∈ xs)
def Core (t : List UInt8) (ps : List Pt) (xs : List (Nat × Nat)) (fr ag back : Nat) (B : List Pt) : Prop :=
  (back = 0 ∧ ag = fr ∧ B = ps ∧ K0 t ps xs fr) ∨ (0 < back ∧ K1 t ps xs fr ag B)
def CoreNext (t : List UInt8) (ps : List Pt) (xs : List (Nat × Nat)) (fr ag back : Nat) (B : List Pt) : Prop :=
  (back = 0 ∧ ag = fr ∧ B = ps ∧ K0 t ps xs (fr + 1)) ∨ (0 < back ∧ K1 t ps xs fr (ag + 1) B)
/-- How far the present try has come: the parts done are behind, rest is ahead. -/
def Try (t : List UInt8) (ps : List Pt) (xs : List (Nat × Nat)) (fr at_ ag back : Nat) (rest B : List Pt) : Prop :=
  Core t ps xs fr ag back B ∧ at_ ≤ t.length ∧ ∃ done, B = done ++ rest ∧ Solid done ∧ At t done ag at_
/-- All have come that can. -/
def AllCame (t : List UInt8) (ps : List Pt) (xs : List (Nat × Nat)) : Prop :=
  (∀ x ∈ xs, Gs t ps x) ∧ xs.Pairwise lex ∧ ∀ f k, Gs t ps (f, k) → ∃ f', f' ≤ f ∧ (f', k) ∈ xs
/-- A part has come: all that are ahead of its last one. -/
def PartCame (t : List UInt8) (ps : List Pt) (xs : List (Nat × Nat)) : Prop :=
  (∀ x ∈ xs, Gs t ps x) ∧ xs.Pairwise lex ∧ ∃ init z, xs = init ++ [z] ∧ ∀ y, Gs t ps y → lex y z → y ∈ init

theorem Try.start (t : List UInt8) (ps : List Pt) : Try t ps [] 0 0 0 0 ps ps :=
  ⟨.inl ⟨rfl, rfl, rfl, .inl rfl, fun x hx => by (cases hx), List.Pairwise.nil, fun f k _ => .inl (Nat.zero_le _)⟩, Nat.zero_le _, [], rfl, solid_nil, rfl⟩
theorem Core.next {t : List UInt8} {ps : List Pt} {xs : List (Nat × Nat)} {fr ag back : Nat} {B : List Pt} (h : CoreNext t ps xs fr ag back B) (hl : ag < t.length) :
    Try t ps xs (if back = 0 then ag + 1 else fr) (ag + 1) (ag + 1) back B B := by
  refine ⟨?_, by omega, [], rfl, solid_nil, rfl⟩
  rcases h with ⟨h1, h2, h3, h4⟩ | ⟨h1, h2⟩
  · subst h2; exact .inl ⟨h1, by rw [if_pos h1], h3, by rw [if_pos h1]; exact h4⟩
  · exact .inr ⟨h1, by rw [if_neg (by omega)]; exact h2⟩
theorem pairwise_snoc {xs : List (Nat × Nat)} {z : Nat × Nat} (h : xs.Pairwise lex) (hz : ∀ x ∈ xs, lex x z) : (xs ++ [z]).Pairwise lex := by
  rw [List.pairwise_append]
  exact ⟨h, List.pairwise_singleton _ _, fun a ha b hb => by simp at hb; subst hb; exact hz a ha⟩
theorem Try.found {t : List UInt8} {ps : List Pt} {xs : List (Nat × Nat)} {fr at_ ag back : Nat} {B : List Pt} (h : Try t ps xs fr at_ ag back [] B) :
    CoreNext t ps (xs ++ [(fr, at_)]) fr ag back B ∧ PartCame t ps (xs ++ [(fr, at_)]) := by
  obtain ⟨hc, hl, done, hB, hs, ha⟩ := h
  rw [List.append_nil] at hB
  subst hB
  have hat := at_solid hs ha
  rcases hc with ⟨h1, h2, h3, h4, h5, h6, h7⟩ | ⟨h1, ⟨A, hA, hst⟩, h4, h5, h6, h7⟩
  · subst h2 h3
    have hg : Gs t B (ag, at_) := ⟨ha, hl⟩
    have hp : (xs ++ [(ag, at_)]).Pairwise lex := pairwise_snoc h6 (fun x hx => .inl (h5 x hx).2)
    have hall : ∀ x ∈ xs ++ [(ag, at_)], Gs t B x := fun x hx => by
      rcases List.mem_append.1 hx with h | h
      · exact (h5 x h).1
      · simp at h; subst h; exact hg
    refine ⟨.inl ⟨h1, rfl, rfl, .inr hs, fun x hx => ⟨hall x hx, ?_⟩, hp, fun f k hfk => ?_⟩, hall, hp, xs, _, rfl, fun y hy hyz => ?_⟩
    · rcases List.mem_append.1 hx with h | h
      · have := (h5 x h).2; omega
      · simp at h; subst h; simp
    · rcases h7 f k hfk with h | h
      · by_cases e : f = ag
        · subst e
          have := at_solid hs hfk.1
          simp only at this
          exact .inr (List.mem_append_right _ (by simp; omega))
        · exact .inl (by omega)
      · exact .inr (List.mem_append_left _ h)
    · obtain ⟨f, k⟩ := y
      rcases h7 f k hy with h | h
      · rcases hyz with hyz | ⟨hyz, hyz2⟩
        · simp at hyz; omega
        · simp at hyz hyz2; subst hyz
          have := at_solid hs hy.1
          simp only at this
          omega
      · exact h
  · have hg : Gs t ps (fr, at_) := ⟨by rw [hA, show A ++ Pt.star :: B = (A ++ [.star]) ++ B by simp]; exact at_append.2 ⟨ag, hst ag (Nat.le_refl _), ha⟩, hl⟩
    have hp : (xs ++ [(fr, at_)]).Pairwise lex := pairwise_snoc h6 (fun x hx => .inr ⟨(h5 x hx).2.1, by have := (h5 x hx).2.2; simp; omega⟩)
    have hall : ∀ x ∈ xs ++ [(fr, at_)], Gs t ps x := fun x hx => by
      rcases List.mem_append.1 hx with h | h
      · exact (h5 x h).1
      · simp at h; subst h; exact hg
    refine ⟨.inr ⟨h1, ⟨A, hA, fun a ha' => hst a (by omega)⟩, .inr hs, fun x hx => ⟨hall x hx, ?_⟩, hp, fun f k hfk => ?_⟩, hall, hp, xs, _, rfl, fun y hy hyz => ?_⟩
    · rcases List.mem_append.1 hx with h | h
      · have := (h5 x h).2; exact ⟨this.1, by omega⟩
      · simp at h; subst h; exact ⟨rfl, by simp; omega⟩
    · obtain ⟨h8, h9⟩ := h7 f k hfk
      refine ⟨h8, ?_⟩
      rcases h9 with ⟨j, hj, hjk⟩ | h9
      · by_cases e : j = ag
        · subst e
          have := at_solid hs hjk
          exact .inr (List.mem_append_right _ (by simp; omega))
        · exact .inl ⟨j, by omega, hjk⟩
      · exact .inr (List.mem_append_left _ h9)
    · obtain ⟨f, k⟩ := y
      obtain ⟨h8, h9⟩ := h7 f k hy
      rcases hyz with hyz | ⟨hyz, hyz2⟩
      · simp at hyz; omega
      · simp at hyz hyz2; subst hyz
        rcases h9 with ⟨j, hj, hjk⟩ | h9
        · have := at_solid hs hjk
          omega
        · exact h9
theorem Try.miss {t : List UInt8} {ps : List Pt} {xs : List (Nat × Nat)} {fr at_ ag back : Nat} {x : Pt} {rest B : List Pt} (h : Try t ps xs fr at_ ag back (x :: rest) B) (hx : x.isStar = false)
    {c : UInt8} (hc : t[at_]? = some c) (hf : x.fits c = false) : CoreNext t ps xs fr ag back B := by
  obtain ⟨hcore, hl, done, hB, hs, ha⟩ := h
  have hat := at_solid hs ha
  have key : ∀ k, ¬ At t B ag k := fun k hk => by
    rw [hB] at hk
    obtain ⟨⟨c', hc', hf'⟩, _⟩ := at_more hs hx hk
    rw [← hat, hc] at hc'; cases hc'
    rw [hf] at hf'; cases hf'
  rcases hcore with ⟨h1, h2, h3, h4, h5, h6, h7⟩ | ⟨h1, ⟨A, hA, hst⟩, h4, h5, h6, h7⟩
  · subst h2 h3
    refine .inl ⟨h1, rfl, rfl, h4, fun x hx => ⟨(h5 x hx).1, by have := (h5 x hx).2; omega⟩, h6, fun f k hfk => ?_⟩
    rcases h7 f k hfk with h | h
    · by_cases e : f = ag
      · subst e; exact absurd hfk.1 (key _)
      · exact .inl (by omega)
    · exact .inr h
  · refine .inr ⟨h1, ⟨A, hA, fun a ha' => hst a (by omega)⟩, h4, fun x hx => ⟨(h5 x hx).1, (h5 x hx).2.1, by have := (h5 x hx).2.2; omega⟩, h6, fun f k hfk => ?_⟩
    obtain ⟨h8, h9⟩ := h7 f k hfk
    refine ⟨h8, ?_⟩
    rcases h9 with ⟨j, hj, hjk⟩ | h9
    · by_cases e : j = ag
      · subst e; exact absurd hjk (key _)
      · exact .inl ⟨j, by omega, hjk⟩
    · exact .inr h9
theorem Try.short {t : List UInt8} {ps : List Pt} {xs : List (Nat × Nat)} {fr at_ ag back : Nat} {x : Pt} {rest B : List Pt} (h : Try t ps xs fr at_ ag back (x :: rest) B) (hx : x.isStar = false)
    (hl : at_ = t.length) : AllCame t ps xs := by
  obtain ⟨hcore, _, done, hB, hs, ha⟩ := h
  have hat := at_solid hs ha
  have key : ∀ j k, ag ≤ j → k ≤ t.length → ¬ At t B j k := fun j k hj hkl hk => by
    rw [hB] at hk
    obtain ⟨_, h2⟩ := at_more hs hx hk
    omega
  rcases hcore with ⟨h1, h2, h3, h4, h5, h6, h7⟩ | ⟨h1, ⟨A, hA, hst⟩, h4, h5, h6, h7⟩
  · subst h2 h3
    refine ⟨fun x hx => (h5 x hx).1, h6, fun f k hfk => ?_⟩
    rcases h7 f k hfk with h | h
    · exact absurd hfk.1 (key _ _ h hfk.2)
    · exact ⟨f, Nat.le_refl _, h⟩
  · refine ⟨fun x hx => (h5 x hx).1, h6, fun f k hfk => ?_⟩
    obtain ⟨h8, h9⟩ := h7 f k hfk
    rcases h9 with ⟨j, hj, hjk⟩ | h9
    · exact absurd hjk (key _ _ hj hfk.2)
    · exact ⟨fr, h8, h9⟩
theorem Try.on {t : List UInt8} {ps : List Pt} {xs : List (Nat × Nat)} {fr at_ ag back : Nat} {x : Pt} {rest B : List Pt} (h : Try t ps xs fr at_ ag back (x :: rest) B) (hx : x.isStar = false)
    {c : UInt8} (hc : t[at_]? = some c) (hf : x.fits c = true) : Try t ps xs fr (at_ + 1) ag back rest B := by
  obtain ⟨hcore, hl, done, hB, hs, ha⟩ := h
  refine ⟨hcore, (List.getElem?_eq_some_iff.1 hc).1, done ++ [x], by rw [hB]; simp, solid_snoc hs hx, at_append.2 ⟨at_, ha, at_one.2 (.inr ⟨hx, rfl, c, hc, hf⟩)⟩⟩
theorem not_solid {ps qs : List Pt} (h : Solid (ps ++ .star :: qs)) : False := by
  have := h .star (List.mem_append_right _ List.mem_cons_self)
  cases this
theorem Try.star {t : List UInt8} {ps : List Pt} {xs : List (Nat × Nat)} {fr at_ ag back i : Nat} {rest B : List Pt} (h : Try t ps xs fr at_ ag back (.star :: rest) B) :
    Try t ps xs fr at_ at_ (i + 1) rest rest := by
  obtain ⟨hcore, hl, done, hB, hs, ha⟩ := h
  have hat := at_solid hs ha
  have split : ∀ j k, ag ≤ j → At t B j k → ∃ m, at_ ≤ m ∧ At t rest m k := fun j k hj hk => by
    rw [hB] at hk
    obtain ⟨m, h1, m', h2, h3⟩ := at_append.1 hk
    have := at_solid hs h1
    have := oneAt_le h2
    exact ⟨m', by omega, h3⟩
  refine ⟨.inr ⟨Nat.succ_pos _, ?_⟩, hl, [], rfl, solid_nil, rfl⟩
  rcases hcore with ⟨h1, h2, h3, h4, h5, h6, h7⟩ | ⟨h1, ⟨A, hA, hst⟩, h4, h5, h6, h7⟩
  · subst h2 h3
    obtain rfl : xs = [] := by
      rcases h4 with h | h
      · exact h
      · rw [hB] at h; exact (not_solid h).elim
    refine ⟨⟨done, hB, fun a ha' => at_append.2 ⟨at_, ha, at_one.2 (.inl ⟨rfl, ha'⟩)⟩⟩, .inl rfl, fun x hx => by (cases hx), List.Pairwise.nil, fun f k hfk => ?_⟩
    rcases h7 f k hfk with h | h
    · exact ⟨h, .inl (split f k h hfk.1)⟩
    · cases h
  · obtain rfl : xs = [] := by
      rcases h4 with h | h
      · exact h
      · rw [hB] at h; exact (not_solid h).elim
    refine ⟨⟨A ++ .star :: done, by rw [hA, hB]; simp, fun a ha' => ?_⟩, .inl rfl, fun x hx => by (cases hx), List.Pairwise.nil, fun f k hfk => ?_⟩
    · rw [show (A ++ Pt.star :: done) ++ [.star] = (A ++ [.star]) ++ (done ++ [.star]) by simp]
      exact at_append.2 ⟨ag, hst ag (Nat.le_refl _), at_append.2 ⟨at_, ha, at_one.2 (.inl ⟨rfl, ha'⟩)⟩⟩
    · obtain ⟨h8, h9⟩ := h7 f k hfk
      rcases h9 with ⟨j, hj, hjk⟩ | h9
      · exact ⟨h8, .inl (split j k hj hjk)⟩
      · cases h9
theorem CoreNext.done {t : List UInt8} {ps : List Pt} {xs : List (Nat × Nat)} {fr ag back : Nat} {B : List Pt} (h : CoreNext t ps xs fr ag back B) (hl : ag = t.length) : AllCame t ps xs := by
  rcases h with ⟨h1, h2, h3, h4, h5, h6, h7⟩ | ⟨h1, ⟨A, hA, hst⟩, h4, h5, h6, h7⟩
  · subst h2 h3
    refine ⟨fun x hx => (h5 x hx).1, h6, fun f k hfk => ?_⟩
    rcases h7 f k hfk with h | h
    · have h1 := hfk.le; have h2 := hfk.2; simp at h1 h2; omega
    · exact ⟨f, Nat.le_refl _, h⟩
  · refine ⟨fun x hx => (h5 x hx).1, h6, fun f k hfk => ?_⟩
    obtain ⟨h8, h9⟩ := h7 f k hfk
    rcases h9 with ⟨j, hj, hjk⟩ | h9
    · have h1 := at_le hjk; have h2 := hfk.2; simp at h2; omega
    · exact ⟨fr, h8, h9⟩
theorem AllCame.none (t : List UInt8) (ps : List Pt) (h : ∀ y, ¬ Gs t ps y) : AllCame t ps [] := ⟨fun x hx => by (cases hx), List.Pairwise.nil, fun f k hfk => (h _ hfk).elim⟩

/-- What is found: the piece that begins first, of these the longest. -/
def Finds (t : List UInt8) (ps : List Pt) : Option (Nat × Nat) → Prop
  | some z => Gs t ps z ∧ ∀ y, Gs t ps y → z.1 < y.1 ∨ (z.1 = y.1 ∧ y.2 ≤ z.2)
  | none => ∀ y, ¬ Gs t ps y
theorem Finds.unique {t : List UInt8} {ps : List Pt} {a b : Option (Nat × Nat)} (ha : Finds t ps a) (hb : Finds t ps b) : a = b := by
  cases a with
  | none => cases b with
    | none => rfl
    | some z => exact (ha z hb.1).elim
  | some y => cases b with
    | none => exact (hb y ha.1).elim
    | some z =>
      have h1 := ha.2 z hb.1
      have h2 := hb.2 y ha.1
      congr 1
      obtain ⟨y1, y2⟩ := y
      obtain ⟨z1, z2⟩ := z
      simp only at h1 h2
      have e1 : y1 = z1 := by omega
      have e2 : y2 = z2 := by omega
      rw [e1, e2]
/-- What stands in 'first' between two pieces. -/
def First (pre : List (Nat × Nat)) (r : Option (Nat × Nat)) : Prop :=
  (pre = [] ∧ r = none) ∨ ∃ init z, pre = init ++ [z] ∧ r = some z ∧ ∀ x ∈ pre, x.1 = z.1
theorem First.all {t : List UInt8} {ps : List Pt} {pre : List (Nat × Nat)} {r : Option (Nat × Nat)} (h : First pre r) (hall : AllCame t ps pre) : Finds t ps r := by
  obtain ⟨h1, h2, h3⟩ := hall
  rcases h with ⟨rfl, rfl⟩ | ⟨init, z, rfl, rfl, hz⟩
  · exact fun y hy => by obtain ⟨f', _, h⟩ := h3 y.1 y.2 hy; cases h
  · refine ⟨h1 z (by simp), fun y hy => ?_⟩
    obtain ⟨f', hf, hm⟩ := h3 y.1 y.2 hy
    have hf1 := hz _ hm
    simp only at hf1
    rcases Nat.lt_or_ge z.1 y.1 with h | h
    · exact .inl h
    · refine .inr ⟨by omega, ?_⟩
      rcases List.mem_append.1 hm with hm | hm
      · have := (List.pairwise_append.1 h2).2.2 _ hm z (by simp)
        rcases this with h | ⟨_, h⟩ <;> simp at h <;> omega
      · simp at hm; rw [← hm]; exact Nat.le_refl _
theorem First.part {t : List UInt8} {ps : List Pt} {pre : List (Nat × Nat)} {x z : Nat × Nat} (h : First pre (some z)) (hx : x.1 ≠ z.1) (hp : PartCame t ps (pre ++ [x])) : Finds t ps (some z) := by
  obtain ⟨h1, h2, init, x', he, h3⟩ := hp
  obtain ⟨rfl, e⟩ := List.append_inj' he rfl
  simp at e; subst e
  rcases h with ⟨_, h⟩ | ⟨init', z', rfl, hz', hz⟩
  · cases h
  · cases hz'
    have hzx : lex z x := (List.pairwise_append.1 h2).2.2 z (by simp) x (by simp)
    have hlt : z.1 < x.1 := by rcases hzx with h | ⟨h, _⟩ <;> omega
    refine ⟨h1 z (by simp), fun y hy => ?_⟩
    rcases Nat.lt_or_ge z.1 y.1 with h | h
    · exact .inl h
    · have hm := h3 y hy (.inl (by omega))
      have := hz y hm
      refine .inr ⟨this.symm, ?_⟩
      rcases List.mem_append.1 hm with hm | hm
      · have := (List.pairwise_append.1 (List.pairwise_append.1 h2).1).2.2 _ hm z (by simp)
        rcases this with h | ⟨_, h⟩ <;> omega
      · simp at hm; rw [← hm]; exact Nat.le_refl _
theorem First.next {pre : List (Nat × Nat)} {x : Nat × Nat} {r : Option (Nat × Nat)} (h : First pre r) (hx : ∀ z, r = some z → x.1 = z.1) : First (pre ++ [x]) (some x) := by
  refine .inr ⟨pre, x, rfl, rfl, fun y hy => ?_⟩
  rcases List.mem_append.1 hy with hy | hy
  · rcases h with ⟨rfl, _⟩ | ⟨init, z, rfl, rfl, hz⟩
    · cases hy
    · rw [hz y hy, hx z rfl]
  · simp at hy; rw [hy]

/-- A piece cut out of a text. -/
theorem at_drop {t : List UInt8} {ps : List Pt} {f i k : Nat} : At (t.drop f) ps i k ↔ At t ps (f + i) (f + k) := by
  induction ps generalizing i with
  | nil => simp [At]
  | cons p ps ih =>
    constructor
    · rintro ⟨j, h1, h2⟩
      refine ⟨f + j, ?_, ih.1 h2⟩
      rcases h1 with ⟨h1, h3⟩ | ⟨h1, rfl, c, hc, hf⟩
      · exact .inl ⟨h1, by omega⟩
      · exact .inr ⟨h1, by omega, c, by rw [List.getElem?_drop] at hc; exact hc, hf⟩
    · rintro ⟨j, h1, h2⟩
      have hj := oneAt_le h1
      obtain ⟨m, rfl⟩ : ∃ m, j = f + m := ⟨j - f, by omega⟩
      refine ⟨m, ?_, ih.2 h2⟩
      rcases h1 with ⟨h1, h3⟩ | ⟨h1, h3, c, hc, hf⟩
      · exact .inl ⟨h1, by omega⟩
      · exact .inr ⟨h1, by omega, c, by rw [List.getElem?_drop]; exact hc, hf⟩
theorem at_take {t : List UInt8} {ps : List Pt} {n i k : Nat} (hk : k ≤ n) : At (t.take n) ps i k ↔ At t ps i k := by
  induction ps generalizing i with
  | nil => exact Iff.rfl
  | cons p ps ih =>
    constructor
    · rintro ⟨j, h1, h2⟩
      refine ⟨j, ?_, ih.1 h2⟩
      rcases h1 with h1 | ⟨h1, h3, c, hc, hf⟩
      · exact .inl h1
      · have hjk := at_le h2
        exact .inr ⟨h1, h3, c, by rw [List.getElem?_take_of_lt (by omega)] at hc; exact hc, hf⟩
    · rintro ⟨j, h1, h2⟩
      refine ⟨j, ?_, ih.2 h2⟩
      rcases h1 with h1 | ⟨h1, h3, c, hc, hf⟩
      · exact .inl h1
      · have hjk := at_le h2
        exact .inr ⟨h1, h3, c, by rw [List.getElem?_take_of_lt (by omega)]; exact hc, hf⟩
end Go.Proofs.YtbadpmghlclfkaaDoor
