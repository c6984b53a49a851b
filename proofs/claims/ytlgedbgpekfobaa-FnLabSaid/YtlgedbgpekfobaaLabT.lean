/- The model's marked texts: compared. -/
import Derived.Test.YtlgedbgpekfobaaLabS
namespace Go.Proofs.Ytlgedbgpekfobaa
open Go.RowKit

theorem alike_len {t s : ByteArray} {l m : List Int} (h : ¬ l.length = m.length) : alikeB t s l m = false := by simp [alikeB, intsB_len h]
theorem alike_at {t s : ByteArray} {l m : List Int} (h : intsB l m = false) : alikeB t s l m = false := by simp [alikeB, h]
theorem alike_all {t : ByteArray} {l m : List Int} (h : intsB l m = true) : alikeB t t l m = true := by simp [alikeB, h]
set_option maxHeartbeats 2000000 in
theorem specLabSame_any (t s : ByteArray) (v u : Value) (l m : List Int) (w : World) (hv : Ints w v l) (hu : Ints w u m) :
    Calls Try.prog 30 #[.agg #[.string t, v], .agg #[.string s, u]] w (LookEnd (alikeB t s l m) w) := by
  have hbb := Lib.hid (fun (o1 o2 : Obj) => ((Below.refl w.heap.size w).alloc (Nat.le_refl _) o1).alloc (by simp) o2)
  have hl1 := hv.1
  have hm1 := hu.1
  obtain ⟨A, cap, rfl⟩ := hv.form
  obtain ⟨A2, cap2, rfl⟩ := hu.form
  obtain ⟨B1, B2⟩ := boxes2' w (.string t) (.slice A l.length cap) (.string s) (.slice A2 m.length cap2) 25 25
  replace B1 := Lib.hid B1
  replace B2 := Lib.hid B2
  have hva := Lib.hid ((hv.alloc (.cells #[.string t, .slice A l.length cap] 25)).alloc (.cells #[.string s, .slice A2 m.length cap2] 25))
  have hub := Lib.hid ((hu.alloc (.cells #[.string t, .slice A l.length cap] 25)).alloc (.cells #[.string s, .slice A2 m.length cap2] 25))
  clear hv hu
  by_cases h0 : t = s
  · subst h0
    by_cases h1 : l.length = m.length
    · have h1' : (((l.length : Nat) : Int) != (m.length : Int)) = false := by simp [h1]
      have h1'' : decide (((l.length : Nat) : Int) = (m.length : Int)) = true := by simp [h1]
      have hh := Lib.hid h1
      have e0 := Lib.hid (fun (h : intsB l m = true) => alike_all (t := t) h)
      have e1 := Lib.hid (fun (h : intsB l m = false) => alike_at (t := t) (s := t) h)
      clear h1
      go_enter Try.func30, Try.ntmps30
      go_wp2
      obtain ⟨W, hW⟩ : ∃ W, W = ((w.alloc (.cells #[.string t, .slice A l.length cap] 25)).alloc (.cells #[.string t, .slice A2 m.length cap2] 25)) := ⟨_, rfl⟩
      have hbW := hbb.out (.cells #[.string t, .slice A l.length cap] 25) (.cells #[.string t, .slice A2 m.length cap2] 25)
      rw [← hW] at B1 B2 hva hub hbW ⊢
      replace hW := Lib.hid hW
      replace hbW := Lib.hid hbW
      have hbr := Lib.hid (Below.refl W.heap.size W)
      go_loopw [5] (fun i wr => ∃ k : Nat, k ≤ l.length ∧ i = .int .i64 k ∧ (∀ i (h1 : i < l.length) (h2 : i < m.length), i < k → l[i] = m[i]) ∧ Below W.heap.size W wr) (fun i _ => l.length - (intOf i).toNat)
      case atStart => exact ⟨0, Nat.zero_le _, rfl, fun i _ _ h => absurd h (Nat.not_lt_zero _), hbr.out⟩
      case round =>
        obtain ⟨k, hk, rfl, hall, hb⟩ := hrel
        have hall' := Lib.hid hall
        have hb' := Lib.hid hb
        obtain ⟨x0, x1, xf0, xf1⟩ := (B1.out.up hb).two
        obtain ⟨y0, y1, yf0, yf1⟩ := (B2.out.up hb).two
        clear hall hb
        by_cases hlt : k < l.length
        · have hlt2 : k < m.length := by have := hh.out; omega
          obtain ⟨b, off, rfl, hbk, hck⟩ := (hva.out.below hb'.out).at_ k hlt
          obtain ⟨b2, off2, rfl, hbk2, hck2⟩ := (hub.out.below hb'.out).at_ k hlt2
          have hlt' : (k : Int) < (l.length : Int) := by omega
          have hlt2' : (k : Int) < (m.length : Int) := by omega
          have hge : (0 : Int) ≤ (k : Int) := by omega
          by_cases he : l[k] = m[k]
          · have he1 : (l[k] != m[k]) = false := by simp [he]
            have he2 := Lib.hid he
            clear he
            go_wp2
            go_region
            go_wp2
            go_roundw
            case rel => exact ⟨k + 1, by omega, by go_num, eq_step hlt hlt2 hall'.out he2.out, below_drew' hb'.out⟩
            case measure => simp [intOf]; omega
          · have he1 : (l[k] != m[k]) = true := by simp [he]
            have he2 := Lib.hid (e1.out (intsB_at k hlt hlt2 he))
            clear he
            go_wp2
            go_region
            go_wp2
            go_ret
            exact LookEnd.of he2.out.symm (Below.then_ hbW.out (below_drew' hb'.out) (Nat.le_refl _))
        · have hlt' : ¬ (k : Int) < (l.length : Int) := by omega
          go_wp2
          go_ret
          exact LookEnd.of (e0.out (intsB_all hh.out k hlt hall'.out)).symm (Below.then_ hbW.out hb'.out (Nat.le_refl _))
    · have h1' : (((l.length : Nat) : Int) != (m.length : Int)) = true := by simp; omega
      have e := Lib.hid (alike_len (t := t) (s := t) h1)
      clear h1
      go_enter Try.func30, Try.ntmps30
      go_wp2
      go_ret
      exact LookEnd.of e.out.symm (hbb.out _ _)
  · have h1 := str_ne h0
    have e := Lib.hid (alike_no (l := l) (m := m) h0)
    clear h0
    go_enter Try.func30, Try.ntmps30
    go_wp2
    go_ret
    exact LookEnd.of e.out.symm (hbb.out _ _)
/-- The first n places are alike: the marks, and the bytes whose mark has none of the bits k. -/
def eqN (t s : ByteArray) (l m : List Int) (k : Int) (n : Nat) : Prop := ∀ i (h1 : i < l.length) (h2 : i < m.length) (h3 : i < t.size) (h4 : i < s.size), i < n → l[i] = m[i] ∧ (andI l[i] k = 0 → t[i] = s[i])
theorem eqN_zero (t s : ByteArray) (l m : List Int) (k : Int) : eqN t s l m k 0 := fun _ _ _ _ _ h => absurd h (Nat.not_lt_zero _)
theorem eqN_step {t s : ByteArray} {l m : List Int} {k : Int} {n : Nat} (h : eqN t s l m k n) (h1 : n < l.length) (h2 : n < m.length) (h3 : n < t.size) (h4 : n < s.size) (e1 : l[n] = m[n]) (e : andI l[n] k = 0 → t[n] = s[n]) : eqN t s l m k (n + 1) := by
  intro i g1 g2 g3 g4 hi
  by_cases hin : i = n
  · subst hin; exact ⟨e1, e⟩
  · exact h i g1 g2 g3 g4 (by omega)
theorem eqN_all {t s : ByteArray} {l m : List Int} {k : Int} {n : Nat} (h1 : labB t l = true) (h2 : labB s m = true) (hts : t.size = s.size) (h : eqN t s l m k n) (hn : t.size ≤ n) : sameB t s l m k = true := by
  have a := (labB_parts h1).2.1
  have b := (labB_parts h2).2.1
  have e : l = m := List.ext_getElem (by omega) fun i g1 g2 => (h i g1 g2 (by omega) (by omega) (by omega)).1
  exact sameB_yes h1 h2 e fun i g1 g2 g3 _ h0 => (h i g1 (by omega) g2 g3 (by omega)).2 h0
theorem same_size {t s : ByteArray} {l m : List Int} {k : Int} (h : ¬ t.size = s.size) : sameB t s l m k = false := sameB_no fun ⟨h1, h2, h3, _⟩ => by
  have a := (labB_parts h1).2.1
  have b := (labB_parts h2).2.1
  subst h3; omega
set_option maxHeartbeats 8000000 in
theorem specSameBut_any (t s : ByteArray) (v u : Value) (l m : List Int) (mk : Int) (w : World) (ht : t.size ≤ 1048576) (hs : s.size ≤ 1048576) (hv : Ints w v l) (hu : Ints w u m) :
    Calls Try.prog 23 #[.agg #[.string t, v], .agg #[.string s, u], .int .i64 mk] w (LookEnd (sameB t s l m mk) w) := by
  have hbb := Lib.hid (fun (o1 o2 : Obj) => ((Below.refl w.heap.size w).alloc (Nat.le_refl _) o1).alloc (by simp) o2)
  have hl1 := hv.1
  obtain ⟨A, cap, rfl⟩ := hv.form
  obtain ⟨A2, cap2, rfl⟩ := hu.form
  obtain ⟨B1, B2⟩ := boxes2' w (.string t) (.slice A l.length cap) (.string s) (.slice A2 m.length cap2) 25 25
  replace B1 := Lib.hid B1
  replace B2 := Lib.hid B2
  have hva := Lib.hid ((hv.alloc (.cells #[.string t, .slice A l.length cap] 25)).alloc (.cells #[.string s, .slice A2 m.length cap2] 25))
  have hub := Lib.hid ((hu.alloc (.cells #[.string t, .slice A l.length cap] 25)).alloc (.cells #[.string s, .slice A2 m.length cap2] 25))
  clear hv hu
  by_cases h1 : labB t l = true
  · by_cases h2 : labB s m = true
    · by_cases h3 : t.size = s.size
      · have h3a : (((t.size : Nat) : Int) != (s.size : Int)) = false := by simp [h3]
        have h3b : decide (((t.size : Nat) : Int) = (s.size : Int)) = true := by simp [h3]
        have e1 := Lib.hid (fun (n : Nat) (h : eqN t s l m mk n) hn => eqN_all h1 h2 h3 h hn)
        have hq1 := (labB_parts h1).2.1
        have hq2 := (labB_parts h2).2.1
        replace hq1 := Lib.hid hq1
        replace hq2 := Lib.hid hq2
        replace h3 := Lib.hid h3
        go_enter Try.func23, Try.ntmps23
        go_wp2_with (first
        | (go_at_call_of 32 (Value.string t); refine (specLabRight_any t _ l _ ht hva.out).mono ?_; rintro e1 w1 ⟨rfl, hb1⟩; replace hva := Lib.hid (hva.out.below hb1); replace hub := Lib.hid (hub.out.below hb1); replace B1 := Lib.hid (B1.out.up hb1); replace B2 := Lib.hid (B2.out.up hb1); obtain ⟨x0, x1, xf0, xf1⟩ := B1.out.two; obtain ⟨y0, y1, yf0, yf1⟩ := B2.out.two; replace hb1 := Lib.hid hb1)
        | (go_at_call_of 32 (Value.string s); refine (specLabRight_any s _ m _ hs hub.out).mono ?_; rintro e1 w2 ⟨rfl, hb2⟩; replace hva := Lib.hid (hva.out.below hb2); replace hub := Lib.hid (hub.out.below hb2); replace B1 := Lib.hid (B1.out.up hb2); replace B2 := Lib.hid (B2.out.up hb2); clear x0 x1 xf0 xf1 y0 y1 yf0 yf1; obtain ⟨x0, x1, xf0, xf1⟩ := B1.out.two; obtain ⟨y0, y1, yf0, yf1⟩ := B2.out.two; replace hb2 := Lib.hid hb2))
        have hbw := Lib.hid (Below.then_ (Below.then_ (hbb.out _ _) hb1.out (Nat.le_refl _)) hb2.out (Nat.le_refl _))
        have hbr := Lib.hid (Below.refl w2.heap.size w2)
        clear x0 x1 xf0 xf1 y0 y1 yf0 yf1
        go_loopw [7] (fun i wr => ∃ k : Nat, k ≤ t.size ∧ i = .int .i64 k ∧ eqN t s l m mk k ∧ Below w2.heap.size w2 wr) (fun i _ => t.size - (intOf i).toNat)
        case atStart => exact ⟨0, Nat.zero_le _, rfl, eqN_zero _ _ _ _ _, hbr.out⟩
        case round =>
          obtain ⟨k, hk, rfl, hall, hb⟩ := hrel
          have hall' := Lib.hid hall
          obtain ⟨x0, x1, xf0, xf1⟩ := (B1.out.up hb).two
          obtain ⟨y0, y1, yf0, yf1⟩ := (B2.out.up hb).two
          by_cases hlt : k < t.size
          · have hk1 : k < l.length := by have := hq1.out; omega
            have hk3 : k < s.size := by have := h3.out; omega
            have hk2 : k < m.length := by have := hq2.out; omega
            obtain ⟨b, off, rfl, hbk, hck⟩ := (hva.out.below hb).at_ k hk1
            obtain ⟨b2, off2, rfl, hbk2, hck2⟩ := (hub.out.below hb).at_ k hk2
            have hlt' : (k : Int) < (t.size : Int) := by omega
            have hk1' : (k : Int) < (l.length : Int) := by omega
            have hk2' : (k : Int) < (m.length : Int) := by omega
            have hk3' : (k : Int) < (s.size : Int) := by omega
            have hge : (0 : Int) ≤ (k : Int) := by omega
            replace hb := Lib.hid hb
            clear hall
            by_cases hlm : l[k] = m[k]
            · have hlm1 : (l[k] != m[k]) = false := by simp [hlm]
              have hlm2 := Lib.hid hlm
              clear hlm
              by_cases ha : andI l[k] mk = 0
              · have ha1 : (bits .and .i64 l[k] mk == 0) = true := by simpa [andI] using ha
                have ha2 : decide (bits .and .i64 l[k] mk = 0) = true := by simpa [andI] using ha
                by_cases he : t[k] = s[k]
                · have hn := Lib.hid (eqN_step hall'.out hk1 hk2 hlt hk3 hlm2.out (fun _ => he))
                  have he1 : ((t[k].toNat : Int) != (s[k].toNat : Int)) = false := by simp [he]
                  replace he := Lib.hid he
                  replace ha := Lib.hid ha
                  go_wp2
                  go_region
                  go_wp2
                  go_roundw
                  case rel => exact ⟨k + 1, by omega, by go_num, hn.out, below_drew' hb.out⟩
                  case measure => simp [intOf]; omega
                · have hn := Lib.hid (sameB_no (t := t) (s := s) (l := l) (m := m) (k := mk) (fun h => he (h.2.2.2 k hk1 hlt hk3 hk1 ha)))
                  obtain ⟨he1, he2⟩ := int_ne _ _ he
                  clear he
                  replace ha := Lib.hid ha
                  go_wp2
                  go_region
                  go_wp2
                  go_ret
                  exact LookEnd.of hn.out.symm (Below.then_ hbw.out (below_drew' hb.out) (Nat.le_refl _))
              · have hn := Lib.hid (eqN_step hall'.out hk1 hk2 hlt hk3 hlm2.out (fun h => absurd h ha))
                have ha1 : (bits .and .i64 l[k] mk == 0) = false := by simpa [andI] using ha
                have ha2 : decide (bits .and .i64 l[k] mk = 0) = false := by simpa [andI] using ha
                replace ha := Lib.hid ha
                go_wp2
                go_region
                go_wp2
                go_roundw
                case rel => exact ⟨k + 1, by omega, by go_num, hn.out, below_drew' hb.out⟩
                case measure => simp [intOf]; omega
            · have hlm1 : (l[k] != m[k]) = true := by simp [hlm]
              have hn := Lib.hid (sameB_no (t := t) (s := s) (l := l) (m := m) (k := mk) (fun h => hlm (by have h3 := h.2.2.1; subst h3; rfl)))
              clear hlm
              go_wp2
              go_region
              go_wp2
              go_ret
              exact LookEnd.of hn.out.symm (Below.then_ hbw.out (below_drew' hb.out) (Nat.le_refl _))
          · have hlt' : ¬ (k : Int) < (t.size : Int) := by omega
            replace hb := Lib.hid hb
            clear hall
            go_wp2
            go_ret
            exact LookEnd.of (e1.out k hall'.out (by omega)).symm (Below.then_ hbw.out hb.out (Nat.le_refl _))
      · have h3a : (((t.size : Nat) : Int) != (s.size : Int)) = true := by simp; omega
        have e := Lib.hid (same_size (l := l) (m := m) (k := mk) h3)
        clear h3
        go_enter Try.func23, Try.ntmps23
        go_wp2_with (first
        | (go_at_call_of 32 (Value.string t); refine (specLabRight_any t _ l _ ht hva.out).mono ?_; rintro e1 w1 ⟨rfl, hb1⟩; replace hva := Lib.hid (hva.out.below hb1); replace hub := Lib.hid (hub.out.below hb1); replace B1 := Lib.hid (B1.out.up hb1); replace B2 := Lib.hid (B2.out.up hb1); obtain ⟨x0, x1, xf0, xf1⟩ := B1.out.two; obtain ⟨y0, y1, yf0, yf1⟩ := B2.out.two; replace hb1 := Lib.hid hb1)
        | (go_at_call_of 32 (Value.string s); refine (specLabRight_any s _ m _ hs hub.out).mono ?_; rintro e1 w2 ⟨rfl, hb2⟩; replace hva := Lib.hid (hva.out.below hb2); replace hub := Lib.hid (hub.out.below hb2); replace B1 := Lib.hid (B1.out.up hb2); replace B2 := Lib.hid (B2.out.up hb2); clear x0 x1 xf0 xf1 y0 y1 yf0 yf1; obtain ⟨x0, x1, xf0, xf1⟩ := B1.out.two; obtain ⟨y0, y1, yf0, yf1⟩ := B2.out.two; replace hb2 := Lib.hid hb2))
        go_ret
        exact LookEnd.of e.out.symm (Below.then_ (Below.then_ (hbb.out _ _) hb1.out (Nat.le_refl _)) hb2.out (Nat.le_refl _))
    · have h2' : labB s m = false := by simpa using h2
      have e := Lib.hid (sameB_no (t := t) (s := s) (l := l) (m := m) (k := mk) (fun h => h2 h.2.1))
      clear h2
      go_enter Try.func23, Try.ntmps23
      go_wp2_with (first
        | (go_at_call_of 32 (Value.string t); refine (specLabRight_any t _ l _ ht hva.out).mono ?_; rintro e1 w1 ⟨rfl, hb1⟩; replace hva := Lib.hid (hva.out.below hb1); replace hub := Lib.hid (hub.out.below hb1); replace B1 := Lib.hid (B1.out.up hb1); replace B2 := Lib.hid (B2.out.up hb1); obtain ⟨x0, x1, xf0, xf1⟩ := B1.out.two; obtain ⟨y0, y1, yf0, yf1⟩ := B2.out.two; replace hb1 := Lib.hid hb1)
        | (go_at_call_of 32 (Value.string s); refine (specLabRight_any s _ m _ hs hub.out).mono ?_; rintro e1 w2 ⟨rfl, hb2⟩; replace hva := Lib.hid (hva.out.below hb2); replace hub := Lib.hid (hub.out.below hb2); replace B1 := Lib.hid (B1.out.up hb2); replace B2 := Lib.hid (B2.out.up hb2); clear x0 x1 xf0 xf1 y0 y1 yf0 yf1; obtain ⟨x0, x1, xf0, xf1⟩ := B1.out.two; obtain ⟨y0, y1, yf0, yf1⟩ := B2.out.two; replace hb2 := Lib.hid hb2))
      go_ret
      exact LookEnd.of e.out.symm (Below.then_ (Below.then_ (hbb.out _ _) hb1.out (Nat.le_refl _)) hb2.out (Nat.le_refl _))
  · have h1' : labB t l = false := by simpa using h1
    have e := Lib.hid (sameB_no (t := t) (s := s) (l := l) (m := m) (k := mk) (fun h => h1 h.1))
    clear h1
    go_enter Try.func23, Try.ntmps23
    go_wp2_with (first
        | (go_at_call_of 32 (Value.string t); refine (specLabRight_any t _ l _ ht hva.out).mono ?_; rintro e1 w1 ⟨rfl, hb1⟩; replace hva := Lib.hid (hva.out.below hb1); replace hub := Lib.hid (hub.out.below hb1); replace B1 := Lib.hid (B1.out.up hb1); replace B2 := Lib.hid (B2.out.up hb1); obtain ⟨x0, x1, xf0, xf1⟩ := B1.out.two; obtain ⟨y0, y1, yf0, yf1⟩ := B2.out.two; replace hb1 := Lib.hid hb1)
        | (go_at_call_of 32 (Value.string s); refine (specLabRight_any s _ m _ hs hub.out).mono ?_; rintro e1 w2 ⟨rfl, hb2⟩; replace hva := Lib.hid (hva.out.below hb2); replace hub := Lib.hid (hub.out.below hb2); replace B1 := Lib.hid (B1.out.up hb2); replace B2 := Lib.hid (B2.out.up hb2); clear x0 x1 xf0 xf1 y0 y1 yf0 yf1; obtain ⟨x0, x1, xf0, xf1⟩ := B1.out.two; obtain ⟨y0, y1, yf0, yf1⟩ := B2.out.two; replace hb2 := Lib.hid hb2))
    go_ret
    exact LookEnd.of e.out.symm (Below.then_ (hbb.out _ _) hb1.out (Nat.le_refl _))
end Go.Proofs.Ytlgedbgpekfobaa
