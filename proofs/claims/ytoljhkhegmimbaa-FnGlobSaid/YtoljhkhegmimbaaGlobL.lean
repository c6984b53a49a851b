/- What the law on globs wants, plainly: a text goes with its own glob alone; pieces are pieces; contracts whose answers are known. -/
import Derived.Test.YtoljhkhegmimbaaGlobE
import Derived.Test.YtoljhkhegmimbaaGlobQ
namespace Go.Proofs.Ytoljhkhegmimbaa
open Go.RowKit

theorem parts_quote (l : List UInt8) : parts (quoteL l) = some (l.map Pt.byte) := by
  induction l with
  | nil => rfl
  | cons c l ih =>
    have e : quoteL (c :: l) = quoteC c ++ quoteL l := rfl
    rw [e]
    unfold quoteC
    by_cases h : special c = true
    · rw [if_pos h]
      show parts (92 :: c :: quoteL l) = _
      rw [parts_cons, if_neg (by decide), if_neg (by decide), if_pos rfl]
      show (parts (quoteL l)).map (Pt.byte c :: ·) = _
      rw [ih]; rfl
    · rw [if_neg h]
      show parts (c :: quoteL l) = _
      have h' : special c = false := by simpa using h
      simp [special] at h'
      rw [parts_cons, if_neg h'.1.1, if_neg h'.1.2, if_neg h'.2, ih]; rfl
theorem at_bytes {v w : List UInt8} {i k : Nat} (h : At v (w.map Pt.byte) i k) : v.drop i = w ++ v.drop k := by
  induction w generalizing i with
  | nil => cases h; rfl
  | cons c w ih =>
    obtain ⟨j, h1, h2⟩ := h
    rcases h1 with ⟨h1, _⟩ | ⟨_, rfl, c', hc, hf⟩
    · cases h1
    · have e : c' = c := by simpa [Pt.fits] using hf
      subst e
      rw [drop_at hc, ih h2]; rfl
theorem at_itself (u w : List UInt8) : At (u ++ w) (w.map Pt.byte) u.length (u.length + w.length) := by
  induction w generalizing u with
  | nil => rfl
  | cons c w ih =>
    refine ⟨u.length + 1, .inr ⟨rfl, rfl, c, by simp, by simp [Pt.fits]⟩, ?_⟩
    have := ih (u ++ [c])
    simp only [List.length_append, List.length_singleton, List.append_assoc, List.singleton_append] at this
    rw [List.length_cons, show u.length + (w.length + 1) = u.length + 1 + w.length by omega]
    exact this
theorem quote_good {w : List UInt8} (h : quoteT w ≠ []) : quoteT w = quoteL w ∧ globOk (quoteL w) = true := by
  unfold quoteT at h ⊢
  by_cases hc : w.length ≤ 40 ∧ (quoteL w).length ≤ 40
  · rw [if_pos hc] at h ⊢
    refine ⟨rfl, ?_⟩
    have : 1 ≤ (quoteL w).length := by
      rcases Nat.eq_zero_or_pos (quoteL w).length with h0 | h0
      · exact (h (List.eq_nil_of_length_eq_zero h0)).elim
      · exact h0
    simp [globOk, parts_quote, hc.2]; omega
  · rw [if_neg hc] at h; exact (h rfl).elim
theorem quote_means {w v : List UInt8} (h : quoteT w ≠ []) (hv : v.length ≤ 8000) : Means (quoteT w) v ↔ v = w := by
  obtain ⟨e, hok⟩ := quote_good h
  rw [e]
  constructor
  · rintro ⟨_, _, ps, hps, hg, _⟩
    rw [parts_quote] at hps; cases hps
    have := at_bytes hg
    simpa using this
  · rintro rfl
    exact ⟨hok, hv, _, parts_quote _, by have := at_itself [] v; simpa using this, Nat.le_refl _⟩
/-- A piece from one place to another, and to the end. -/
theorem means_piece {pl tl : List UInt8} {f k : Nat} (hk : k ≤ tl.length) (hf : f ≤ k) (h8 : tl.length ≤ 8000) : Means pl ((tl.take k).drop f) ↔ globOk pl = true ∧ ∃ ps, parts pl = some ps ∧ Gs tl ps (f, k) := by
  have hl : ((tl.take k).drop f).length = k - f := by simp; omega
  have key : ∀ ps, Gs ((tl.take k).drop f) ps (0, ((tl.take k).drop f).length) ↔ Gs tl ps (f, k) := fun ps => by
    unfold Gs
    rw [hl]
    show At ((tl.take k).drop f) ps 0 (k - f) ∧ k - f ≤ _ ↔ At tl ps f k ∧ k ≤ _
    rw [at_drop, at_take (by omega), Nat.add_zero, show f + (k - f) = k by omega]
    exact ⟨fun h => ⟨h.1, hk⟩, fun h => ⟨h.1, Nat.le_refl _⟩⟩
  constructor
  · rintro ⟨h1, h2, ps, h3, h4⟩
    exact ⟨h1, ps, h3, (key ps).1 h4⟩
  · rintro ⟨h1, ps, h3, h4⟩
    exact ⟨h1, by rw [hl]; omega, ps, h3, (key ps).2 h4⟩
theorem ends_some {pl tl : List UInt8} (h8 : tl.length ≤ 8000) : EndsG pl tl ↔ ∃ f, f < tl.length + 1 ∧ Means pl (tl.drop f) := by
  have e : ∀ f, tl.drop f = (tl.take tl.length).drop f := fun f => by rw [List.take_length]
  constructor
  · rintro ⟨h1, _, ps, h2, f, h3⟩
    have hf := h3.le
    simp only at hf
    exact ⟨f, by omega, by rw [e]; exact (means_piece (Nat.le_refl _) hf h8).2 ⟨h1, ps, h2, h3⟩⟩
  · rintro ⟨f, hf, h⟩
    rw [e] at h
    obtain ⟨h1, ps, h2, h3⟩ := (means_piece (Nat.le_refl _) (by omega) h8).1 h
    exact ⟨h1, h8, ps, h2, f, h3⟩
theorem find_bound {pl tl : List UInt8} {r : Option (Nat × Nat)} (h : FindsG pl tl r) (h8 : tl.length ≤ 8000) {f k : Nat} (hk : k ≤ tl.length) (hf : f ≤ k) (hm : Means pl ((tl.take k).drop f)) :
    ∃ z, r = some z ∧ (z.1 < f ∨ (z.1 = f ∧ k ≤ z.2)) := by
  obtain ⟨h1, ps, h2, h3⟩ := (means_piece hk hf h8).1 hm
  obtain ⟨qs, h4, h5⟩ := h.1 ⟨h1, h8⟩
  rw [h2] at h4; cases h4
  cases r with
  | none => exact (h5 _ h3).elim
  | some z => exact ⟨z, rfl, h5.2 _ h3⟩
theorem find_means {pl tl : List UInt8} {z : Nat × Nat} (h : FindsG pl tl (some z)) (h8 : tl.length ≤ 8000) : z.1 ≤ z.2 ∧ z.2 ≤ tl.length ∧ Means pl ((tl.take z.2).drop z.1) := by
  by_cases hk : globOk pl = true ∧ tl.length ≤ 8000
  · obtain ⟨ps, h1, h2⟩ := h.1 hk
    have h3 := h2.1.le
    have h4 := h2.1.2
    exact ⟨h3, h4, (means_piece h4 h3 h8).2 ⟨hk.1, ps, h1, h2.1⟩⟩
  · have := h.2 hk; cases this
theorem bool_of (P : Prop) : ∃ b : Bool, b = true ↔ P := by
  by_cases h : P
  · exact ⟨true, ⟨fun _ => h, fun _ => rfl⟩⟩
  · exact ⟨false, ⟨fun h => (by cases h), fun h' => (h h').elim⟩⟩

/-! Contracts whose answers are known. -/
theorem specFind_is (p t : ByteArray) (hp : p.size ≤ 1048576) (ht : t.size ≤ maxLen) (r : Option (Nat × Nat)) (hr : FindsG p.data.toList t.data.toList r) {v : Value} (hv : spanV r = v) (w : World) :
    Calls Try.prog 15 #[.string p, .string t] w fun e w' => e = .returned v ∧ Below w.heap.size w w' :=
  (specFind_any p t hp ht w).mono fun e w' ⟨⟨r', h1, _, h2⟩, hb⟩ => ⟨by rw [h2, ← hv, FindsG.unique h1 hr], hb⟩
theorem specAll_is (p t : ByteArray) (hp : p.size ≤ 1048576) (ht : t.size ≤ maxLen) (b : Bool) (hb : b = true ↔ Means p.data.toList t.data.toList) (w : World) :
    Calls Try.prog 17 #[.string p, .string t] w fun e w' => e = .returned (.bool b) ∧ Below w.heap.size w w' :=
  (specAll_any p t hp ht w).mono fun e w' ⟨⟨b', h1, h2⟩, hb'⟩ => ⟨by rw [h2, SaysB.unique h1 hb], hb'⟩
theorem implAll_is (p t : ByteArray) (hp : p.size ≤ maxLen) (ht : t.size ≤ maxLen) (b : Bool) (hb : b = true ↔ Means p.data.toList t.data.toList) (w : World) :
    Calls Try.prog 16 #[.string p, .string t] w fun e w' => e = .returned (.bool b) ∧ Below w.heap.size w w' :=
  (implAll_any p t hp ht w).mono fun e w' ⟨⟨b', h1, h2⟩, hb'⟩ => ⟨by rw [h2, SaysB.unique h1 hb], hb'⟩
theorem specEnds_is (p t : ByteArray) (hp : p.size ≤ 1048576) (ht : t.size ≤ maxLen) (b : Bool) (hb : b = true ↔ EndsG p.data.toList t.data.toList) (w : World) :
    Calls Try.prog 18 #[.string p, .string t] w fun e w' => e = .returned (.bool b) ∧ Below w.heap.size w w' :=
  (specEnds_any p t hp ht w).mono fun e w' ⟨⟨b', h1, h2⟩, hb'⟩ => ⟨by rw [h2, SaysB.unique h1 hb], hb'⟩
theorem specQuote_is (s g : ByteArray) (hs : s.size ≤ 1048576) (hg : strV (quoteT s.data.toList) = .string g) (w : World) :
    Calls Try.prog 19 #[.string s] w fun e w' => e = .returned (.string g) ∧ Below w.heap.size w w' :=
  (specQuote_any s hs w).mono fun e w' ⟨h, hb⟩ => ⟨by rw [h, hg], hb⟩
theorem implRight_is (p : ByteArray) (hp : p.size ≤ maxLen) (b : Bool) (hb : globOk p.data.toList = b) (w : World) :
    Calls Try.prog 20 #[.string p] w fun e w' => e = .returned (.bool b) ∧ Below w.heap.size w w' :=
  (implRight_any p hp w).mono fun e w' ⟨h, hw⟩ => ⟨by rw [h, hb], by rw [← hw]; exact Below.refl _ _⟩
theorem specRight_is (p : ByteArray) (hp : p.size ≤ 1048576) (b : Bool) (hb : globOk p.data.toList = b) (w : World) :
    Calls Try.prog 21 #[.string p] w fun e w' => e = .returned (.bool b) ∧ Below w.heap.size w w' :=
  (specRight_any p hp w).mono fun e w' ⟨h, hw⟩ => ⟨by rw [h, hb], hw⟩
end Go.Proofs.Ytoljhkhegmimbaa
