/- The program's marked texts: the same but for some marks. -/
import Derived.Test.YtlgedbgpekfobaaLabH
namespace Go.Proofs.Ytlgedbgpekfobaa
open Go.RowKit

def andI (a b : Int) : Int := bits .and .i64 a b
/-- The first n bytes are the same, but for those whose mark has one of the bits k. -/
def butN (t s : ByteArray) (l : List Int) (k : Int) (n : Nat) : Prop := ∀ i (h1 : i < l.length) (h2 : i < t.size) (h3 : i < s.size), i < n → andI l[i] k = 0 → t[i] = s[i]
noncomputable def sameB (t s : ByteArray) (l m : List Int) (k : Int) : Bool := @decide (labB t l = true ∧ labB s m = true ∧ l = m ∧ butN t s l k l.length) (Classical.propDecidable _)
theorem sameB_yes {t s : ByteArray} {l m : List Int} {k : Int} (h1 : labB t l = true) (h2 : labB s m = true) (h3 : l = m) (h4 : butN t s l k l.length) : sameB t s l m k = true := by exact @decide_eq_true _ (Classical.propDecidable _) ⟨h1, h2, h3, h4⟩
theorem sameB_no {t s : ByteArray} {l m : List Int} {k : Int} (h : ¬ (labB t l = true ∧ labB s m = true ∧ l = m ∧ butN t s l k l.length)) : sameB t s l m k = false := by exact @decide_eq_false _ (Classical.propDecidable _) h
theorem but_zero (t s : ByteArray) (l : List Int) (k : Int) : butN t s l k 0 := fun _ _ _ _ h _ => absurd h (Nat.not_lt_zero _)
theorem but_step {t s : ByteArray} {l : List Int} {k : Int} {n : Nat} (h : butN t s l k n) (h1 : n < l.length) (h2 : n < t.size) (h3 : n < s.size) (e : andI l[n] k = 0 → t[n] = s[n]) : butN t s l k (n + 1) := by
  intro i g1 g2 g3 hi h0
  by_cases hin : i = n
  · subst hin; exact e h0
  · exact h i g1 g2 g3 (by omega) h0
theorem but_more {t s : ByteArray} {l : List Int} {k : Int} {n : Nat} (h : butN t s l k n) (hn : l.length ≤ n) : butN t s l k l.length := fun i g1 g2 g3 _ h0 => h i g1 g2 g3 (by omega) h0
theorem int_ne (a b : UInt8) (h : ¬ a = b) : ((a.toNat : Int) == (b.toNat : Int)) = false ∧ ((a.toNat : Int) != (b.toNat : Int)) = true := by
  have : ¬ (a.toNat : Int) = (b.toNat : Int) := fun e => h (UInt8.toNat_inj.1 (by omega))
  simp [this]
theorem boxes2' (w : World) (x y x' y' : Value) (t1 t2 : TypeId) :
    Blk ((w.alloc (.cells #[x, y] t1)).alloc (.cells #[x', y'] t2)) w.heap.size t1 [x, y] ∧ Blk ((w.alloc (.cells #[x, y] t1)).alloc (.cells #[x', y'] t2)) (w.heap.size + 1) t2 [x', y'] := boxes2 w [x, y] [x', y'] t1 t2
set_option maxHeartbeats 4000000 in
theorem implSameBut_any (t s : ByteArray) (v u : Value) (l m : List Int) (mk : Int) (w : World) (ht : t.size ≤ 1048576) (hs : s.size ≤ 1048576) (hv : Ints w v l) (hu : Ints w u m) :
    Calls Try.prog 22 #[.agg #[.string t, v], .agg #[.string s, u], .int .i64 mk] w (LookEnd (sameB t s l m mk) w) := by
  have hbb := Lib.hid (fun (o1 o2 : Obj) => ((Below.refl w.heap.size w).alloc (Nat.le_refl _) o1).alloc (by simp) o2)
  have hl1 := hv.1
  obtain ⟨A, cap, rfl⟩ := hv.form
  obtain ⟨A2, cap2, rfl⟩ := hu.form
  obtain ⟨B1, B2⟩ := boxes2' w (.string t) (.slice A l.length cap) (.string s) (.slice A2 m.length cap2) 25 25
  replace B1 := Lib.hid B1
  replace B2 := Lib.hid B2
  have hva := Lib.hid ((hv.alloc (.cells #[.string t, .slice A l.length cap] 25)).alloc (.cells #[.string s, .slice A2 m.length cap2] 25))
  have hub := Lib.hid ((hu.alloc (.cells #[.string t, .slice A l.length cap] 25)).alloc (.cells #[.string s, .slice A2 m.length cap2] 25))
  clear hv hu
  by_cases h1 : labB t l = true
  · by_cases h2 : labB s m = true
    · by_cases h3 : intsB l m = true
      · have hlm : l = m := of_decide_eq_true h3
        have e1 := Lib.hid (fun h4 => sameB_yes (k := mk) h1 h2 hlm h4)
        have e2 := Lib.hid (fun (h4 : ¬ butN t s l mk l.length) => sameB_no (k := mk) (fun h => h4 h.2.2.2 : ¬ (labB t l = true ∧ labB s m = true ∧ l = m ∧ butN t s l mk l.length)))
        have hq1 := (labB_parts h1).2.1
        have hq2 := (labB_parts h2).2.1
        rw [← hlm] at hq2
        replace hq1 := Lib.hid hq1
        replace hq2 := Lib.hid hq2
        replace hlm := Lib.hid hlm
        go_enter Try.func22, Try.ntmps22
        go_wp2_with (first
        | (go_at_call_of 31 (Value.string t); refine (implLabRight_any t _ l _ ht hva.out).mono ?_; rintro e1 w1 ⟨rfl, hb1⟩; replace hva := Lib.hid (hva.out.below hb1); replace hub := Lib.hid (hub.out.below hb1); replace B1 := Lib.hid (B1.out.up hb1); replace B2 := Lib.hid (B2.out.up hb1); obtain ⟨x0, x1, xf0, xf1⟩ := B1.out.two; obtain ⟨y0, y1, yf0, yf1⟩ := B2.out.two; replace hb1 := Lib.hid hb1)
        | (go_at_call_of 31 (Value.string s); refine (implLabRight_any s _ m _ hs hub.out).mono ?_; rintro e1 w2 ⟨rfl, hb2⟩; replace hva := Lib.hid (hva.out.below hb2); replace hub := Lib.hid (hub.out.below hb2); replace B1 := Lib.hid (B1.out.up hb2); replace B2 := Lib.hid (B2.out.up hb2); clear x0 x1 xf0 xf1 y0 y1 yf0 yf1; obtain ⟨x0, x1, xf0, xf1⟩ := B1.out.two; obtain ⟨y0, y1, yf0, yf1⟩ := B2.out.two; replace hb2 := Lib.hid hb2)
        | (go_at_call 50; refine (equal_any _ _ l m _ hva.out hub.out).mono ?_; rintro e1 w3 ⟨rfl, hb3⟩; replace hva := Lib.hid (hva.out.below hb3); replace hub := Lib.hid (hub.out.below hb3); replace B1 := Lib.hid (B1.out.up hb3); replace B2 := Lib.hid (B2.out.up hb3); clear x0 x1 xf0 xf1 y0 y1 yf0 yf1; obtain ⟨x0, x1, xf0, xf1⟩ := B1.out.two; obtain ⟨y0, y1, yf0, yf1⟩ := B2.out.two; replace hb3 := Lib.hid hb3))
        have hbw := Lib.hid (Below.then_ (Below.then_ (Below.then_ (hbb.out _ _) hb1.out (Nat.le_refl _)) hb2.out (Nat.le_refl _)) hb3.out (Nat.le_refl _))
        have hbr := Lib.hid (Below.refl w3.heap.size w3)
        clear x0 x1 xf0 xf1 y0 y1 yf0 yf1
        go_loopw [28] (fun i wr => ∃ k : Nat, k ≤ l.length ∧ i = .int .i64 k ∧ butN t s l mk k ∧ Below w3.heap.size w3 wr) (fun i _ => l.length - (intOf i).toNat)
        case atStart => exact ⟨0, Nat.zero_le _, rfl, but_zero _ _ _ _, hbr.out⟩
        case round =>
          obtain ⟨k, hk, rfl, hall, hb⟩ := hrel
          have hall' := Lib.hid hall
          obtain ⟨x0, x1, xf0, xf1⟩ := (B1.out.up hb).two
          obtain ⟨y0, y1, yf0, yf1⟩ := (B2.out.up hb).two
          by_cases hlt : k < l.length
          · have hk1 : k < t.size := by have := hq1.out; omega
            have hk2 : k < s.size := by have := hq2.out; omega
            obtain ⟨b, off, rfl, hbk, hck⟩ := (hva.out.below hb).at_ k hlt
            have hlt' : (k : Int) < (l.length : Int) := by omega
            have hk1' : (k : Int) < (t.size : Int) := by omega
            have hk2' : (k : Int) < (s.size : Int) := by omega
            have hge : (0 : Int) ≤ (k : Int) := by omega
            replace hb := Lib.hid hb
            clear hall
            by_cases ha : andI l[k] mk = 0
            · have ha1 : (bits .and .i64 l[k] mk == 0) = true := by simpa [andI] using ha
              have ha2 : decide (bits .and .i64 l[k] mk = 0) = true := by simpa [andI] using ha
              by_cases he : t[k] = s[k]
              · have hn := Lib.hid (but_step hall'.out hlt hk1 hk2 (fun _ => he))
                have he1 : ((t[k].toNat : Int) != (s[k].toNat : Int)) = false := by simp [he]
                replace he := Lib.hid he
                replace ha := Lib.hid ha
                go_wp2
                go_region
                go_wp2
                go_roundw
                case rel => exact ⟨k + 1, by omega, by go_num, hn.out, below_drew' hb.out⟩
                case measure => simp [intOf]; omega
              · have hn := Lib.hid (e2.out (fun h => he (h k hlt hk1 hk2 hlt ha)))
                obtain ⟨he1, he2⟩ := int_ne _ _ he
                clear he
                replace ha := Lib.hid ha
                go_wp2
                go_region
                go_wp2
                go_ret
                exact LookEnd.of hn.out.symm (Below.then_ hbw.out (below_drew' hb.out) (Nat.le_refl _))
            · have hn := Lib.hid (but_step hall'.out hlt hk1 hk2 (fun h => absurd h ha))
              have ha1 : (bits .and .i64 l[k] mk == 0) = false := by simpa [andI] using ha
              have ha2 : decide (bits .and .i64 l[k] mk = 0) = false := by simpa [andI] using ha
              replace ha := Lib.hid ha
              go_wp2
              go_region
              go_wp2
              go_roundw
              case rel => exact ⟨k + 1, by omega, by go_num, hn.out, below_drew' hb.out⟩
              case measure => simp [intOf]; omega
          · have hlt' : ¬ (k : Int) < (l.length : Int) := by omega
            replace hb := Lib.hid hb
            clear hall
            go_wp2
            go_ret
            exact LookEnd.of (e1.out (but_more hall'.out (by omega))).symm (Below.then_ hbw.out hb.out (Nat.le_refl _))
      · have h3' : intsB l m = false := by simpa using h3
        have e := Lib.hid (sameB_no (t := t) (s := s) (l := l) (m := m) (k := mk) (fun h => by rw [intsB, decide_eq_false_iff_not] at h3'; exact h3' h.2.2.1))
        clear h3
        go_enter Try.func22, Try.ntmps22
        go_wp2_with (first
        | (go_at_call_of 31 (Value.string t); refine (implLabRight_any t _ l _ ht hva.out).mono ?_; rintro e1 w1 ⟨rfl, hb1⟩; replace hva := Lib.hid (hva.out.below hb1); replace hub := Lib.hid (hub.out.below hb1); replace B1 := Lib.hid (B1.out.up hb1); replace B2 := Lib.hid (B2.out.up hb1); obtain ⟨x0, x1, xf0, xf1⟩ := B1.out.two; obtain ⟨y0, y1, yf0, yf1⟩ := B2.out.two; replace hb1 := Lib.hid hb1)
        | (go_at_call_of 31 (Value.string s); refine (implLabRight_any s _ m _ hs hub.out).mono ?_; rintro e1 w2 ⟨rfl, hb2⟩; replace hva := Lib.hid (hva.out.below hb2); replace hub := Lib.hid (hub.out.below hb2); replace B1 := Lib.hid (B1.out.up hb2); replace B2 := Lib.hid (B2.out.up hb2); clear x0 x1 xf0 xf1 y0 y1 yf0 yf1; obtain ⟨x0, x1, xf0, xf1⟩ := B1.out.two; obtain ⟨y0, y1, yf0, yf1⟩ := B2.out.two; replace hb2 := Lib.hid hb2)
        | (go_at_call 50; refine (equal_any _ _ l m _ hva.out hub.out).mono ?_; rintro e1 w3 ⟨rfl, hb3⟩; replace hva := Lib.hid (hva.out.below hb3); replace hub := Lib.hid (hub.out.below hb3); replace B1 := Lib.hid (B1.out.up hb3); replace B2 := Lib.hid (B2.out.up hb3); clear x0 x1 xf0 xf1 y0 y1 yf0 yf1; obtain ⟨x0, x1, xf0, xf1⟩ := B1.out.two; obtain ⟨y0, y1, yf0, yf1⟩ := B2.out.two; replace hb3 := Lib.hid hb3))
        go_ret
        exact LookEnd.of e.out.symm (Below.then_ (Below.then_ (Below.then_ (hbb.out _ _) hb1.out (Nat.le_refl _)) hb2.out (Nat.le_refl _)) hb3.out (Nat.le_refl _))
    · have h2' : labB s m = false := by simpa using h2
      have e := Lib.hid (sameB_no (t := t) (s := s) (l := l) (m := m) (k := mk) (fun h => h2 h.2.1))
      clear h2
      go_enter Try.func22, Try.ntmps22
      go_wp2_with (first
        | (go_at_call_of 31 (Value.string t); refine (implLabRight_any t _ l _ ht hva.out).mono ?_; rintro e1 w1 ⟨rfl, hb1⟩; replace hva := Lib.hid (hva.out.below hb1); replace hub := Lib.hid (hub.out.below hb1); replace B1 := Lib.hid (B1.out.up hb1); replace B2 := Lib.hid (B2.out.up hb1); obtain ⟨x0, x1, xf0, xf1⟩ := B1.out.two; obtain ⟨y0, y1, yf0, yf1⟩ := B2.out.two; replace hb1 := Lib.hid hb1)
        | (go_at_call_of 31 (Value.string s); refine (implLabRight_any s _ m _ hs hub.out).mono ?_; rintro e1 w2 ⟨rfl, hb2⟩; replace hva := Lib.hid (hva.out.below hb2); replace hub := Lib.hid (hub.out.below hb2); replace B1 := Lib.hid (B1.out.up hb2); replace B2 := Lib.hid (B2.out.up hb2); clear x0 x1 xf0 xf1 y0 y1 yf0 yf1; obtain ⟨x0, x1, xf0, xf1⟩ := B1.out.two; obtain ⟨y0, y1, yf0, yf1⟩ := B2.out.two; replace hb2 := Lib.hid hb2)
        | (go_at_call 50; refine (equal_any _ _ l m _ hva.out hub.out).mono ?_; rintro e1 w3 ⟨rfl, hb3⟩; replace hva := Lib.hid (hva.out.below hb3); replace hub := Lib.hid (hub.out.below hb3); replace B1 := Lib.hid (B1.out.up hb3); replace B2 := Lib.hid (B2.out.up hb3); clear x0 x1 xf0 xf1 y0 y1 yf0 yf1; obtain ⟨x0, x1, xf0, xf1⟩ := B1.out.two; obtain ⟨y0, y1, yf0, yf1⟩ := B2.out.two; replace hb3 := Lib.hid hb3))
      go_ret
      exact LookEnd.of e.out.symm (Below.then_ (Below.then_ (hbb.out _ _) hb1.out (Nat.le_refl _)) hb2.out (Nat.le_refl _))
  · have h1' : labB t l = false := by simpa using h1
    have e := Lib.hid (sameB_no (t := t) (s := s) (l := l) (m := m) (k := mk) (fun h => h1 h.1))
    clear h1
    go_enter Try.func22, Try.ntmps22
    go_wp2_with (first
        | (go_at_call_of 31 (Value.string t); refine (implLabRight_any t _ l _ ht hva.out).mono ?_; rintro e1 w1 ⟨rfl, hb1⟩; replace hva := Lib.hid (hva.out.below hb1); replace hub := Lib.hid (hub.out.below hb1); replace B1 := Lib.hid (B1.out.up hb1); replace B2 := Lib.hid (B2.out.up hb1); obtain ⟨x0, x1, xf0, xf1⟩ := B1.out.two; obtain ⟨y0, y1, yf0, yf1⟩ := B2.out.two; replace hb1 := Lib.hid hb1)
        | (go_at_call_of 31 (Value.string s); refine (implLabRight_any s _ m _ hs hub.out).mono ?_; rintro e1 w2 ⟨rfl, hb2⟩; replace hva := Lib.hid (hva.out.below hb2); replace hub := Lib.hid (hub.out.below hb2); replace B1 := Lib.hid (B1.out.up hb2); replace B2 := Lib.hid (B2.out.up hb2); clear x0 x1 xf0 xf1 y0 y1 yf0 yf1; obtain ⟨x0, x1, xf0, xf1⟩ := B1.out.two; obtain ⟨y0, y1, yf0, yf1⟩ := B2.out.two; replace hb2 := Lib.hid hb2)
        | (go_at_call 50; refine (equal_any _ _ l m _ hva.out hub.out).mono ?_; rintro e1 w3 ⟨rfl, hb3⟩; replace hva := Lib.hid (hva.out.below hb3); replace hub := Lib.hid (hub.out.below hb3); replace B1 := Lib.hid (B1.out.up hb3); replace B2 := Lib.hid (B2.out.up hb3); clear x0 x1 xf0 xf1 y0 y1 yf0 yf1; obtain ⟨x0, x1, xf0, xf1⟩ := B1.out.two; obtain ⟨y0, y1, yf0, yf1⟩ := B2.out.two; replace hb3 := Lib.hid hb3))
    go_ret
    exact LookEnd.of e.out.symm (Below.then_ (hbb.out _ _) hb1.out (Nat.le_refl _))
end Go.Proofs.Ytlgedbgpekfobaa
