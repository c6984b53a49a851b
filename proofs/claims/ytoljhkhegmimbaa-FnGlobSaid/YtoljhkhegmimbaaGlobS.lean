/- GlobAll, GlobFind and GlobEnds of the model. -/
import Derived.Test.YtoljhkhegmimbaaGlobD
namespace Go.Proofs.Ytoljhkhegmimbaa
open Go.RowKit

/-- A bool that tells whether P. -/
def SaysB (P : Prop) (e : Ending) : Prop := ∃ b : Bool, (b = true ↔ P) ∧ e = .returned (.bool b)
theorem SaysB.unique {P : Prop} {a b : Bool} (ha : a = true ↔ P) (hb : b = true ↔ P) : a = b := by
  rw [Bool.eq_iff_iff, ha, hb]
def Means (pl tl : List UInt8) : Prop := globOk pl = true ∧ tl.length ≤ 8000 ∧ ∃ ps, parts pl = some ps ∧ Gs tl ps (0, tl.length)
def EndsG (pl tl : List UInt8) : Prop := globOk pl = true ∧ tl.length ≤ 8000 ∧ ∃ ps, parts pl = some ps ∧ ∃ f, Gs tl ps (f, tl.length)
def FindsG (pl tl : List UInt8) (r : Option (Nat × Nat)) : Prop :=
  (globOk pl = true ∧ tl.length ≤ 8000 → ∃ ps, parts pl = some ps ∧ Finds tl ps r) ∧ (¬ (globOk pl = true ∧ tl.length ≤ 8000) → r = none)
theorem FindsG.unique {pl tl : List UInt8} {a b : Option (Nat × Nat)} (ha : FindsG pl tl a) (hb : FindsG pl tl b) : a = b := by
  by_cases h : globOk pl = true ∧ tl.length ≤ 8000
  · obtain ⟨ps, h1, h2⟩ := ha.1 h
    obtain ⟨qs, h3, h4⟩ := hb.1 h
    rw [h1] at h3; cases h3
    exact h2.unique h4
  · rw [ha.2 h, hb.2 h]
def spanV : Option (Nat × Nat) → Value
  | none => .agg #[.int .i64 0, .int .i64 0, .bool false]
  | some (f, k) => .agg #[.int .i64 (f : Int), .int .i64 (k : Int), .bool true]
def SpanEnd (pl tl : List UInt8) (e : Ending) : Prop := ∃ r, FindsG pl tl r ∧ (∀ z, r = some z → z.1 ≤ 8000 ∧ z.2 ≤ 8000) ∧ e = .returned (spanV r)
theorem Finds.small {t : List UInt8} {ps : List Pt} {r : Option (Nat × Nat)} (h : Finds t ps r) (ht : t.length ≤ 8000) : ∀ z, r = some z → z.1 ≤ 8000 ∧ z.2 ≤ 8000 := fun z hz => by
  subst hz
  have h1 := h.1.le
  have h2 := h.1.2
  omega

set_option maxRecDepth 20000 in
set_option maxHeartbeats 2000000 in
theorem specAll_any (p s : ByteArray) (hp : p.size ≤ 1048576) (hs : s.size ≤ maxLen) (w : World) :
    Calls Try.prog 17 #[.string p, .string s] w fun e w' => SaysB (Means p.data.toList s.data.toList) e ∧ Below w.heap.size w w' := by
  unfold maxLen at hs
  have hsz := Lib.hid (size_data s)
  by_cases hok : globOk p.data.toList = true
  · have hok := Lib.hid hok
    by_cases h8 : s.size ≤ 8000
    · go_enter Try.func17, Try.ntmps17
      go_wp2_with (first
        | (go_at_call 30; refine (specParts_any p hp _).mono ?_; rintro e w1 ⟨⟨v, rfl, ⟨A, len, cap, rfl⟩, hO⟩, hb⟩; rw [hok.out]; replace hO := Lib.hid (hO hok.out); replace hb := Lib.hid hb)
        | (go_at_call 32; obtain ⟨ps, hps, hown, hpl⟩ := hO.out; refine (specFrom_any _ ps s 0 _ (hown.in hpl) h8 (Nat.zero_le _)).mono ?_; rintro e w2 ⟨⟨g, L, rfl, hL, hRow, hg⟩, hb2⟩; have hb2' := Lib.hid (hb.out.trans (hb2.mono hb.out.size)); rw [hsz.out]; obtain ⟨b, hB⟩ := bool_at (L := L) (k := s.size) (by rw [hRow.1, hsz.out]; omega); have hc := hL.at_ s.size hB; have hR := Lib.hid (show (b = true ↔ Means p.data.toList s.data.toList) by (have := hRow.2 s.size (by rw [hsz.out]; exact Nat.le_refl _); rw [hB] at this; constructor; (intro hb; subst hb; exact ⟨hok.out, by (rw [hsz.out]; exact h8), ps, hps, by (rw [hsz.out]; exact this.1 rfl), Nat.le_refl _⟩); (rintro ⟨_, _, qs, hq, h1, _⟩; rw [hps] at hq; cases hq; rw [hsz.out] at h1; have h2 := this.2 h1; injection h2))); clear hown hL hRow hb2 hB hps))
      go_ret
      exact ⟨⟨b, hR.out, rfl⟩, hb2'.out⟩
    · have h8' : (8000 : Int) < (s.size : Int) := by omega
      have hR := Lib.hid (show ¬ Means p.data.toList s.data.toList from fun h => by have := h.2.1; rw [hsz.out] at this; omega)
      go_enter Try.func17, Try.ntmps17
      go_wp2_with (go_at_call 30; refine (specParts_any p hp _).mono ?_; rintro e w1 ⟨⟨v, rfl, ⟨A, len, cap, rfl⟩, hO⟩, hb⟩; rw [hok.out]; replace hb := Lib.hid hb; clear hO)
      go_ret
      exact ⟨⟨false, ⟨fun h => (by cases h), fun h => (hR.out h).elim⟩, rfl⟩, hb.out⟩
  · have hok' := Lib.hid (show globOk p.data.toList = false by simpa using hok)
    have hR := Lib.hid (show ¬ Means p.data.toList s.data.toList from fun h => hok h.1)
    clear hok
    go_enter Try.func17, Try.ntmps17
    go_wp2_with (go_at_call 30; refine (specParts_any p hp _).mono ?_; rintro e w1 ⟨⟨v, rfl, ⟨A, len, cap, rfl⟩, hO⟩, hb⟩; rw [hok'.out]; replace hb := Lib.hid hb; clear hO)
    go_ret
    exact ⟨⟨false, ⟨fun h => (by cases h), fun h => (hR.out h).elim⟩, rfl⟩, hb.out⟩

theorem ends_step {P : Nat → Prop} {f : Nat} (h : ∀ f', f' < f → ¬ P f') (hf : ¬ P f) : ∀ f', f' < f + 1 → ¬ P f' := fun f' hlt => by
  by_cases e : f' = f
  · subst e; exact hf
  · exact h f' (by omega)
set_option maxRecDepth 20000 in
set_option maxHeartbeats 2000000 in
theorem specEnds_any (p s : ByteArray) (hp : p.size ≤ 1048576) (hs : s.size ≤ maxLen) (w : World) :
    Calls Try.prog 18 #[.string p, .string s] w fun e w' => SaysB (EndsG p.data.toList s.data.toList) e ∧ Below w.heap.size w w' := by
  unfold maxLen at hs
  have hsz := Lib.hid (size_data s)
  by_cases hok : globOk p.data.toList = true
  · have hok := Lib.hid hok
    by_cases h8 : s.size ≤ 8000
    · go_enter Try.func18, Try.ntmps18
      go_wp2_with (go_at_call 30; refine (specParts_any p hp _).mono ?_; rintro e w1 ⟨⟨v, rfl, ⟨A, len, cap, rfl⟩, hO⟩, hb⟩; rw [hok.out]; replace hO := hO hok.out; obtain ⟨ps, hps, hown, hpl⟩ := hO; have hin := Lib.hid (hown.in hpl); have hps := Lib.hid hps; replace hb := Lib.hid hb; clear hown)
      go_loopw [7] (fun i wr => ∃ f : Nat, f ≤ s.size + 1 ∧ i = .int .i64 (f : Int) ∧ Hid (∀ f', f' < f → ¬ Gs s.data.toList ps (f', s.size)) ∧ Hid (Below w1.heap.size w1 wr)) (fun i _ => s.size + 1 - (intOf i).toNat)
      case atStart => exact ⟨0, by omega, rfl, Lib.hid (fun f' h => by omega), Lib.hid (Below.refl _ _)⟩
      case round =>
        obtain ⟨f, hf, rfl, hno, hb1⟩ := hrel
        by_cases hlt : f ≤ s.size
        · have hin2 := Lib.hid (hin.out.below hb1.out)
          go_wp2_with (go_at_call 32; refine (specFrom_any _ ps s f _ hin2.out h8 hlt).mono ?_; rintro e w2 ⟨⟨g, L, rfl, hL, hRow, hg⟩, hb2⟩; have hb2' := Lib.hid (hb1.out.trans (hb2.mono hb1.out.size)); rw [hsz.out]; obtain ⟨b, hB⟩ := bool_at (L := L) (k := s.size) (by rw [hRow.1, hsz.out]; omega); have hc := hL.at_ s.size hB; have hR := Lib.hid (show (b = true ↔ Gs s.data.toList ps (f, s.size)) by (have := hRow.2 s.size (by rw [hsz.out]; exact Nat.le_refl _); rw [hB] at this; rw [show (b = true ↔ some b = some true) by simp, this]; exact ⟨fun h => ⟨h, by rw [hsz.out]; exact Nat.le_refl _⟩, fun h => h.1⟩)); clear hL hRow hb2 hB; cases b)
          · go_roundw
            case rel => exact ⟨f + 1, by omega, by go_num, Lib.hid (ends_step (P := fun f' => Gs s.data.toList ps (f', s.size)) hno.out (fun h' => by have := hR.out.2 h'; cases this)), hb2'⟩
            case measure => simp [intOf]; omega
          · go_ret
            exact ⟨⟨true, ⟨fun _ => ⟨hok.out, by rw [hsz.out]; exact h8, ps, hps.out, f, by rw [hsz.out]; exact hR.out.1 (by first | rfl | trivial)⟩, fun _ => rfl⟩, rfl⟩, hb.out.trans (hb2'.out.mono hb.out.size)⟩
        · have hgt : (s.size : Int) < (f : Int) := by omega
          go_wp2
          go_ret
          refine ⟨⟨false, ⟨fun h => (by cases h), ?_⟩, rfl⟩, hb.out.trans (hb1.out.mono hb.out.size)⟩
          rintro ⟨_, _, qs, hq, f', h⟩
          rw [hps.out] at hq; cases hq
          rw [hsz.out] at h
          exact (hno.out f' (by have := h.le; simp at this; omega) h).elim
    · have h8' : (8000 : Int) < (s.size : Int) := by omega
      have hR := Lib.hid (show ¬ EndsG p.data.toList s.data.toList from fun h => by have := h.2.1; rw [hsz.out] at this; omega)
      go_enter Try.func18, Try.ntmps18
      go_wp2_with (go_at_call 30; refine (specParts_any p hp _).mono ?_; rintro e w1 ⟨⟨v, rfl, ⟨A, len, cap, rfl⟩, hO⟩, hb⟩; rw [hok.out]; replace hb := Lib.hid hb; clear hO)
      refine wp_loop_rounds 1 ?_
      rw [rounds_succ]
      go_wp2
      go_ret
      exact ⟨⟨false, ⟨fun h => (by cases h), fun h => (hR.out h).elim⟩, rfl⟩, hb.out⟩
  · have hok' := Lib.hid (show globOk p.data.toList = false by simpa using hok)
    have hR := Lib.hid (show ¬ EndsG p.data.toList s.data.toList from fun h => hok h.1)
    clear hok
    go_enter Try.func18, Try.ntmps18
    go_wp2_with (go_at_call 30; refine (specParts_any p hp _).mono ?_; rintro e w1 ⟨⟨v, rfl, ⟨A, len, cap, rfl⟩, hO⟩, hb⟩; rw [hok'.out]; replace hb := Lib.hid hb; clear hO)
    refine wp_loop_rounds 1 ?_
    rw [rounds_succ]
    go_wp2
    go_ret
    exact ⟨⟨false, ⟨fun h => (by cases h), fun h => (hR.out h).elim⟩, rfl⟩, hb.out⟩

/-- l03Find: of parts that are right. -/
def FoundEnd (t : List UInt8) (ps : List Pt) (e : Ending) : Prop := ∃ r, Finds t ps r ∧ e = .returned (spanV r)
set_option maxRecDepth 20000 in
set_option maxHeartbeats 4000000 in
theorem specFound_any (v : Value) (ps : List Pt) (s : ByteArray) (w : World) (hv : PartsIn w v ps) (hs : s.size ≤ 8000) :
    Calls Try.prog 31 #[v, .string s] w fun e w' => FoundEnd s.data.toList ps e ∧ Below w.heap.size w w' := by
  have hsz := Lib.hid (size_data s)
  obtain ⟨A, cap, rfl, hpl, hv3⟩ := hv
  have hv := Lib.hid (show PartsIn w (.slice A ps.length cap) ps from ⟨A, cap, rfl, hpl, hv3⟩)
  clear hv3
  have hT0 := Lib.hid (Trio.new w 26 (.int .i64 0) (.int .i64 0) (.bool false))
  go_enter Try.func31, Try.ntmps31
  go_wp2
  go_loopw [5] (fun i wr => ∃ f : Nat, f ≤ s.size + 1 ∧ i = .int .i64 (f : Int) ∧ Hid (∀ y, Gs s.data.toList ps y → f ≤ y.1) ∧ Hid (Trio wr w.heap.size 26 (.int .i64 0) (.int .i64 0) (.bool false)) ∧ Hid (Below w.heap.size w wr)) (fun i _ => s.size + 1 - (intOf i).toNat)
  case atStart => exact ⟨0, by omega, rfl, Lib.hid (fun y _ => Nat.zero_le _), hT0, Lib.hid ((Below.refl _ _).alloc (Nat.le_refl _) _)⟩
  case round =>
    obtain ⟨f, hf, rfl, hno, hT, hb⟩ := hrel
    obtain ⟨wo, rfl⟩ : ∃ wo : World, wo = wr := ⟨_, rfl⟩
    have hTl := Lib.hid (lt_of_block hT.out)
    by_cases hlt : f ≤ s.size
    · have hin := Lib.hid (hv.out.below hb.out)
      go_wp2_with (go_at_call 32; refine (specFrom_any _ ps s f _ hin.out hs hlt).mono ?_; rintro e w2 ⟨⟨g, L, rfl, hL, hRow, hg⟩, hb2⟩; have hTs := hTl.out; replace hT := Lib.hid (hT.out.below hb2 hTs); replace hb := Lib.hid (hb.out.trans (hb2.mono hb.out.size)); rw [hsz.out]; replace hL := Lib.hid hL; replace hRow := Lib.hid hRow; clear hb2)
      obtain ⟨d0, d1, d2, g0, g1, g2⟩ := hT.out.facts
      go_loop [7] (fun i => (∃ k : Nat, f ≤ k ∧ k ≤ s.size ∧ i = .int .i64 (k : Int) ∧ Hid (∀ k', k < k' → ¬ Gs s.data.toList ps (f, k'))) ∨ (i = .int .i64 ((f : Int) - 1) ∧ Hid (∀ k', ¬ Gs s.data.toList ps (f, k')))) (fun i => (intOf i + 1 - (f : Int)).toNat)
      case atStart => exact .inl ⟨s.size, hlt, Nat.le_refl _, rfl, Lib.hid (fun k' h h' => by have := h'.2; rw [hsz.out] at this; simp at this; omega)⟩
      case round =>
        rcases hrel with ⟨k, hk1, hk2, rfl, hnk⟩ | ⟨rfl, hnk⟩
        · obtain ⟨b, hB⟩ := bool_at (L := L) (k := k) (by rw [hRow.out.1, hsz.out]; omega)
          have hc := hL.out.at_ k hB
          have hR := Lib.hid (show (b = true ↔ Gs s.data.toList ps (f, k)) by
            have := hRow.out.2 k (by rw [hsz.out]; exact hk2)
            rw [hB] at this
            rw [show (b = true ↔ some b = some true) by simp, this]
            exact ⟨fun h => ⟨h, by rw [hsz.out]; exact hk2⟩, fun h => h.1⟩)
          have hB := Lib.hid hB
          cases b
          · have hnk2 := Lib.hid (show ∀ k', k ≤ k' → ¬ Gs s.data.toList ps (f, k') from fun k' h h' => by
              by_cases e : k' = k
              · subst e; have := hR.out.2 h'; cases this
              · exact hnk.out k' (by omega) h')
            by_cases hfk : k = f
            · obtain rfl := hfk
              go_wp2
              go_round
              case rel => exact .inr ⟨rfl, Lib.hid (fun k' h' => hnk2.out k' (by have := h'.le; simpa using this) h')⟩
              case measure => simp [intOf]
            · go_wp2
              go_round
              case rel => exact .inl ⟨k - 1, by omega, by omega, by go_num, Lib.hid (fun k' h => hnk2.out k' (by omega))⟩
              case measure => simp [intOf]; omega
          · have hF := Lib.hid (show Finds s.data.toList ps (some (f, k)) from ⟨hR.out.1 rfl, fun y hy => by
              have h1 := hno.out y hy
              rcases Nat.lt_or_ge f y.1 with h | h
              · exact .inl h
              · refine .inr ⟨show f = y.1 by omega, ?_⟩
                rcases Nat.lt_or_ge k y.2 with h2 | h2
                · obtain ⟨y1, y2⟩ := y
                  obtain rfl : y1 = f := by simp at h h1; omega
                  exact (hnk.out y2 h2 hy).elim
                · exact h2⟩)
            have hx := hT.out.set (.int .i64 (f : Int)) (.int .i64 (k : Int)) (.bool true)
            obtain ⟨z0, z1, z2, -, -, -⟩ := hx.facts
            clear hx
            go_wp2
            refine bodyPost_ret (v := .agg #[.int .i64 (f : Int), .int .i64 (k : Int), .bool true]) (by simp [results, Try.results31, go_sem, z0, z1, z2]) rfl ⟨⟨some (f, k), hF.out, rfl⟩, ((hb.out.setCell (p := ⟨w.heap.size, 0, none⟩) (Nat.le_refl _) _).setCell (p := ⟨w.heap.size, 1, none⟩) (Nat.le_refl _) _).setCell (p := ⟨w.heap.size, 2, none⟩) (Nat.le_refl _) _⟩
        · go_wp2
          go_roundw
          case rel => exact ⟨f + 1, by omega, by go_num, Lib.hid (fun y hy => by
            have h1 := hno.out y hy
            rcases Nat.lt_or_ge f y.1 with h | h
            · exact h
            · obtain ⟨y1, y2⟩ := y
              obtain rfl : y1 = f := by simp at h h1; omega
              exact (hnk.out y2 hy).elim), hT, hb⟩
          case measure => simp [intOf]; omega
    · obtain ⟨d0, d1, d2, g0, g1, g2⟩ := hT.out.facts
      have hgt : (s.size : Int) < (f : Int) := by omega
      have hF := Lib.hid (show Finds s.data.toList ps none from fun y hy => by
        have h1 := hno.out y hy
        have h2 := hy.le
        have h3 := hy.2
        rw [hsz.out] at h3
        omega)
      have hx := hT.out.set (.int .i64 0) (.int .i64 0) (.bool false)
      obtain ⟨z0, z1, z2, -, -, -⟩ := hx.facts
      clear hx
      go_wp2
      refine bodyPost_ret (v := .agg #[.int .i64 0, .int .i64 0, .bool false]) (by simp [results, Try.results31, go_sem, z0, z1, z2]) rfl ⟨⟨none, hF.out, rfl⟩, ((hb.out.setCell (p := ⟨w.heap.size, 0, none⟩) (Nat.le_refl _) _).setCell (p := ⟨w.heap.size, 1, none⟩) (Nat.le_refl _) _).setCell (p := ⟨w.heap.size, 2, none⟩) (Nat.le_refl _) _⟩

/-- GlobFind of the model: one of three ways out. -/
theorem found_at {pl tl : List UInt8} {ps : List Pt} {r : Option (Nat × Nat)} (hok : globOk pl = true) (h8 : tl.length ≤ 8000) (hps : parts pl = some ps) (h : Finds tl ps r) : FindsG pl tl r :=
  ⟨fun _ => ⟨ps, hps, h⟩, fun hn => (hn ⟨hok, h8⟩).elim⟩
theorem found_no {pl tl : List UInt8} (h : ¬ (globOk pl = true ∧ tl.length ≤ 8000)) : FindsG pl tl none := ⟨fun h' => (h h').elim, fun _ => rfl⟩
theorem spanV_form (r : Option (Nat × Nat)) : ∃ (a b : Int) (c : Bool), spanV r = .agg #[.int .i64 a, .int .i64 b, .bool c] := by
  cases r with
  | none => exact ⟨_, _, _, rfl⟩
  | some z => exact ⟨_, _, _, rfl⟩
set_option maxRecDepth 20000 in
set_option maxHeartbeats 4000000 in
theorem specFind_any (p s : ByteArray) (hp : p.size ≤ 1048576) (hs : s.size ≤ maxLen) (w : World) :
    Calls Try.prog 15 #[.string p, .string s] w fun e w' => SpanEnd p.data.toList s.data.toList e ∧ Below w.heap.size w w' := by
  unfold maxLen at hs
  have hsz := Lib.hid (size_data s)
  have hT := Lib.hid (Trio.new w 26 (.int .i64 0) (.int .i64 0) (.bool false))
  by_cases hok : globOk p.data.toList = true
  · have hok := Lib.hid hok
    by_cases h8 : s.size ≤ 8000
    · go_enter Try.func15, Try.ntmps15
      go_wp2_with (go_at_call 30; refine (specParts_any p hp _).mono ?_; rintro e w1 ⟨⟨v, rfl, ⟨A, len, cap, rfl⟩, hO⟩, hb⟩; rw [hok.out]; replace hT := Lib.hid (hT.out.below hb (by simp)); replace hb := Lib.hid (((Below.refl _ _).alloc (Nat.le_refl _) _).trans (hb.mono (by simp))); obtain ⟨d0, d1, d2, g0, g1, g2⟩ := hT.out.facts; have hx := hT.out.set (.int .i64 0) (.int .i64 0) (.bool false); obtain ⟨z0, z1, z2, -, -, -⟩ := hx.facts; clear hx; replace hO := hO hok.out; obtain ⟨ps, hps, hown, hpl⟩ := hO; have hin := Lib.hid (hown.in hpl); have hps := Lib.hid hps; clear hown)
      clear d0 d1 d2 g0 g1 g2 z0 z1 z2
      go_wp2_with (go_at_call 31; refine (specFound_any _ ps s _ hin.out h8).mono ?_; rintro e w2 ⟨⟨r, hF, rfl⟩, hb2⟩; obtain ⟨ra, rb, rc, hr⟩ := spanV_form r; rw [hr]; have hTl := lt_of_block hT.out; replace hT := Lib.hid (hT.out.below hb2 hTl); replace hb := Lib.hid (hb.out.trans (hb2.mono hb.out.size)); replace hr := Lib.hid hr; obtain ⟨d0, d1, d2, g0, g1, g2⟩ := hT.out.facts; have hx := hT.out.set (.int .i64 ra) (.int .i64 rb) (.bool rc); obtain ⟨z0, z1, z2, -, -, -⟩ := hx.facts; replace hF := Lib.hid hF; clear hx hb2)
      refine bodyPost_ret (v := .agg #[.int .i64 ra, .int .i64 rb, .bool rc]) (by simp [results, Try.results15, go_sem, z0, z1, z2]) rfl ⟨⟨r, found_at hok.out (by rw [hsz.out]; exact h8) hps.out hF.out, hF.out.small (by rw [hsz.out]; exact h8), by rw [hr.out]⟩, ((hb.out.setCell (p := ⟨w.heap.size, 0, none⟩) (Nat.le_refl _) _).setCell (p := ⟨w.heap.size, 1, none⟩) (Nat.le_refl _) _).setCell (p := ⟨w.heap.size, 2, none⟩) (Nat.le_refl _) _⟩
    · have h8' : (8000 : Int) < (s.size : Int) := by omega
      have hR := Lib.hid (found_no (pl := p.data.toList) (tl := s.data.toList) (fun h => by have := h.2; rw [hsz.out] at this; omega))
      go_enter Try.func15, Try.ntmps15
      go_wp2_with (go_at_call 30; refine (specParts_any p hp _).mono ?_; rintro e w1 ⟨⟨v, rfl, ⟨A, len, cap, rfl⟩, hO⟩, hb⟩; rw [hok.out]; replace hT := Lib.hid (hT.out.below hb (by simp)); replace hb := Lib.hid (((Below.refl _ _).alloc (Nat.le_refl _) _).trans (hb.mono (by simp))); obtain ⟨d0, d1, d2, g0, g1, g2⟩ := hT.out.facts; have hx := hT.out.set (.int .i64 0) (.int .i64 0) (.bool false); obtain ⟨z0, z1, z2, -, -, -⟩ := hx.facts; clear hx; clear hO)
      refine bodyPost_ret (v := .agg #[.int .i64 0, .int .i64 0, .bool false]) (by simp [results, Try.results15, go_sem, z0, z1, z2]) rfl ⟨⟨none, hR.out, fun z h => (by cases h), rfl⟩, ((hb.out.setCell (p := ⟨w.heap.size, 0, none⟩) (Nat.le_refl _) _).setCell (p := ⟨w.heap.size, 1, none⟩) (Nat.le_refl _) _).setCell (p := ⟨w.heap.size, 2, none⟩) (Nat.le_refl _) _⟩
  · have hok' := Lib.hid (show globOk p.data.toList = false by simpa using hok)
    have hR := Lib.hid (found_no (pl := p.data.toList) (tl := s.data.toList) (fun h => hok h.1))
    clear hok
    go_enter Try.func15, Try.ntmps15
    go_wp2_with (go_at_call 30; refine (specParts_any p hp _).mono ?_; rintro e w1 ⟨⟨v, rfl, ⟨A, len, cap, rfl⟩, hO⟩, hb⟩; rw [hok'.out]; replace hT := Lib.hid (hT.out.below hb (by simp)); replace hb := Lib.hid (((Below.refl _ _).alloc (Nat.le_refl _) _).trans (hb.mono (by simp))); obtain ⟨d0, d1, d2, g0, g1, g2⟩ := hT.out.facts; have hx := hT.out.set (.int .i64 0) (.int .i64 0) (.bool false); obtain ⟨z0, z1, z2, -, -, -⟩ := hx.facts; clear hx; clear hO)
    refine bodyPost_ret (v := .agg #[.int .i64 0, .int .i64 0, .bool false]) (by simp [results, Try.results15, go_sem, z0, z1, z2]) rfl ⟨⟨none, hR.out, fun z h => (by cases h), rfl⟩, ((hb.out.setCell (p := ⟨w.heap.size, 0, none⟩) (Nat.le_refl _) _).setCell (p := ⟨w.heap.size, 1, none⟩) (Nat.le_refl _) _).setCell (p := ⟨w.heap.size, 2, none⟩) (Nat.le_refl _) _⟩
end Go.Proofs.Ytoljhkhegmimbaa
