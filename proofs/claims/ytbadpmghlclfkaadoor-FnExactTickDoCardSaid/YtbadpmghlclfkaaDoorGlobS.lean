/- GlobAll, GlobFind and GlobEnds of the model. -/
import Derived.Test.YtbadpmghlclfkaaDoorGlobD
namespace Go.Proofs.YtbadpmghlclfkaaDoor
open Go.RowKit

/-- A bool that tells whether P. -/
def SaysB (P : Prop) (e : Ending) : Prop := ∃ b : Bool, (b = true ↔ P) ∧ e = .returned (.bool b)
theorem SaysB.unique {P : Prop} {a b : Bool} (ha : a = true ↔ P) (hb : b = true ↔ P) : a = b := by
  rw [Bool.eq_iff_iff, ha, hb]
def Means (pl tl : List UInt8) : Prop := globOk pl = true ∧ tl.length ≤ 8000 ∧ ∃ ps, parts pl = some ps ∧ Gs tl ps (0, tl.length)
def EndsG (pl tl : List UInt8) : Prop := globOk pl = true ∧ tl.length ≤ 8000 ∧ ∃ ps, parts pl = some ps ∧ ∃ f, Gs tl ps (f, tl.length)
def FindsG (pl tl : List UInt8) (r : Option (Nat × Nat)) : Prop :=
  (globOk pl = true ∧ tl.length ≤ 8000 → ∃ ps, parts pl = some ps ∧ Finds tl ps r) ∧ (¬ (globOk pl = true ∧ tl.length ≤ 8000) → r = none)
theorem FindsG.unique {pl tl : List UInt8} {a b : Option (Nat × Nat)} (ha : FindsG pl tl a) (hb : FindsG pl tl b) : a = b := by
  by_cases h : globOk pl = true ∧ tl.length ≤ 8000
  · obtain ⟨ps, h1, h2⟩ := ha.1 h
    obtain ⟨qs, h3, h4⟩ := hb.1 h
    rw [h1] at h3; cases h3
    exact h2.unique h4
  · rw [ha.2 h, hb.2 h]
def spanV : Option (Nat × Nat) → Value
  | none => .agg #[.int .i64 0, .int .i64 0, .bool false]
  | some (f, k) => .agg #[.int .i64 (f : Int), .int .i64 (k : Int), .bool true]
def SpanEnd (pl tl : List UInt8) (e : Ending) : Prop := ∃ r, FindsG pl tl r ∧ (∀ z, r = some z → z.1 ≤ 8000 ∧ z.2 ≤ 8000) ∧ e = .returned (spanV r)
theorem Finds.small {t : List UInt8} {ps : List Pt} {r : Option (Nat × Nat)} (h : Finds t ps r) (ht : t.length ≤ 8000) : ∀ z, r = some z → z.1 ≤ 8000 ∧ z.2 ≤ 8000 := fun z hz => by
  subst hz
  have h1 := h.1.le
  have h2 := h.1.2
  omega

theorem ends_step {P : Nat → Prop} {f : Nat} (h : ∀ f', f' < f → ¬ P f') (hf : ¬ P f) : ∀ f', f' < f + 1 → ¬ P f' := fun f' hlt => by
  by_cases e : f' = f
  · subst e; exact hf
  · exact h f' (by omega)
set_option maxRecDepth 20000 in
set_option maxHeartbeats 2000000 in
theorem specEnds_any (p s : ByteArray) (hp : p.size ≤ 1048576) (hs : s.size ≤ maxLen) (w : World) :
    Calls Tryd.prog 113 #[.string p, .string s] w fun e w' => SaysB (EndsG p.data.toList s.data.toList) e ∧ Below w.heap.size w w' := by
  unfold maxLen at hs
  have hsz := Lib.hid (size_data s)
  by_cases hok : globOk p.data.toList = true
  · have hok := Lib.hid hok
    by_cases h8 : s.size ≤ 8000
    · go_enter Tryd.func113, Tryd.ntmps113
      go_wp2_with (go_at_call 112; refine (specParts_any p hp _).mono ?_; rintro e w1 ⟨⟨v, rfl, ⟨A, len, cap, rfl⟩, hO⟩, hb⟩; rw [hok.out]; replace hO := hO hok.out; obtain ⟨ps, hps, hown, hpl⟩ := hO; have hin := Lib.hid (hown.in hpl); have hps := Lib.hid hps; replace hb := Lib.hid hb; clear hown)
      go_loopw [7] (fun i wr => ∃ f : Nat, f ≤ s.size + 1 ∧ i = .int .i64 (f : Int) ∧ Hid (∀ f', f' < f → ¬ Gs s.data.toList ps (f', s.size)) ∧ Hid (Below w1.heap.size w1 wr)) (fun i _ => s.size + 1 - (intOf i).toNat)
      case atStart => exact ⟨0, by omega, rfl, Lib.hid (fun f' h => by omega), Lib.hid (Below.refl _ _)⟩
      case round =>
        obtain ⟨f, hf, rfl, hno, hb1⟩ := hrel
        by_cases hlt : f ≤ s.size
        · have hin2 := Lib.hid (hin.out.below hb1.out)
          go_wp2_with (go_at_call 124; refine (specFrom_any _ ps s f _ hin2.out h8 hlt).mono ?_; rintro e w2 ⟨⟨g, L, rfl, hL, hRow, hg⟩, hb2⟩; have hb2' := Lib.hid (hb1.out.trans (hb2.mono hb1.out.size)); rw [hsz.out]; obtain ⟨b, hB⟩ := bool_at (L := L) (k := s.size) (by rw [hRow.1, hsz.out]; omega); have hc := hL.at_ s.size hB; have hR := Lib.hid (show (b = true ↔ Gs s.data.toList ps (f, s.size)) by (have := hRow.2 s.size (by rw [hsz.out]; exact Nat.le_refl _); rw [hB] at this; rw [show (b = true ↔ some b = some true) by simp, this]; exact ⟨fun h => ⟨h, by rw [hsz.out]; exact Nat.le_refl _⟩, fun h => h.1⟩)); clear hL hRow hb2 hB; cases b)
          · go_roundw
            case rel => exact ⟨f + 1, by omega, by go_num, Lib.hid (ends_step (P := fun f' => Gs s.data.toList ps (f', s.size)) hno.out (fun h' => by have := hR.out.2 h'; cases this)), hb2'⟩
            case measure => simp [intOf]; omega
          · go_ret
            exact ⟨⟨true, ⟨fun _ => ⟨hok.out, by rw [hsz.out]; exact h8, ps, hps.out, f, by rw [hsz.out]; exact hR.out.1 (by first | rfl | trivial)⟩, fun _ => rfl⟩, rfl⟩, hb.out.trans (hb2'.out.mono hb.out.size)⟩
        · have hgt : (s.size : Int) < (f : Int) := by omega
          go_wp2
          go_ret
          refine ⟨⟨false, ⟨fun h => (by cases h), ?_⟩, rfl⟩, hb.out.trans (hb1.out.mono hb.out.size)⟩
          rintro ⟨_, _, qs, hq, f', h⟩
          rw [hps.out] at hq; cases hq
          rw [hsz.out] at h
          exact (hno.out f' (by have := h.le; simp at this; omega) h).elim
    · have h8' : (8000 : Int) < (s.size : Int) := by omega
      have hR := Lib.hid (show ¬ EndsG p.data.toList s.data.toList from fun h => by have := h.2.1; rw [hsz.out] at this; omega)
      go_enter Tryd.func113, Tryd.ntmps113
      go_wp2_with (go_at_call 112; refine (specParts_any p hp _).mono ?_; rintro e w1 ⟨⟨v, rfl, ⟨A, len, cap, rfl⟩, hO⟩, hb⟩; rw [hok.out]; replace hb := Lib.hid hb; clear hO)
      refine wp_loop_rounds 1 ?_
      rw [rounds_succ]
      go_wp2
      go_ret
      exact ⟨⟨false, ⟨fun h => (by cases h), fun h => (hR.out h).elim⟩, rfl⟩, hb.out⟩
  · have hok' := Lib.hid (show globOk p.data.toList = false by simpa using hok)
    have hR := Lib.hid (show ¬ EndsG p.data.toList s.data.toList from fun h => hok h.1)
    clear hok
    go_enter Tryd.func113, Tryd.ntmps113
    go_wp2_with (go_at_call 112; refine (specParts_any p hp _).mono ?_; rintro e w1 ⟨⟨v, rfl, ⟨A, len, cap, rfl⟩, hO⟩, hb⟩; rw [hok'.out]; replace hb := Lib.hid hb; clear hO)
    refine wp_loop_rounds 1 ?_
    rw [rounds_succ]
    go_wp2
    go_ret
    exact ⟨⟨false, ⟨fun h => (by cases h), fun h => (hR.out h).elim⟩, rfl⟩, hb.out⟩

/-- l03Find: of parts that are right. -/
def FoundEnd (t : List UInt8) (ps : List Pt) (e : Ending) : Prop := ∃ r, Finds t ps r ∧ e = .returned (spanV r)
/-- GlobFind of the model: one of three ways out. -/
theorem found_at {pl tl : List UInt8} {ps : List Pt} {r : Option (Nat × Nat)} (hok : globOk pl = true) (h8 : tl.length ≤ 8000) (hps : parts pl = some ps) (h : Finds tl ps r) : FindsG pl tl r :=
  ⟨fun _ => ⟨ps, hps, h⟩, fun hn => (hn ⟨hok, h8⟩).elim⟩
theorem found_no {pl tl : List UInt8} (h : ¬ (globOk pl = true ∧ tl.length ≤ 8000)) : FindsG pl tl none := ⟨fun h' => (h h').elim, fun _ => rfl⟩
theorem spanV_form (r : Option (Nat × Nat)) : ∃ (a b : Int) (c : Bool), spanV r = .agg #[.int .i64 a, .int .i64 b, .bool c] := by
  cases r with
  | none => exact ⟨_, _, _, rfl⟩
  | some z => exact ⟨_, _, _, rfl⟩
end Go.Proofs.YtbadpmghlclfkaaDoor
