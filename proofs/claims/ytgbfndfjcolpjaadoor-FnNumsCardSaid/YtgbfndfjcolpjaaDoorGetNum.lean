/- GetNum: the program's and the model's. The premise 'Handle': the variable errors.errorType reads as its handle. -/
import Derived.Test.YtgbfndfjcolpjaaDoorGet
namespace Go.Proofs.YtgbfndfjcolpjaaDoor
open Go.RowKit

def getNumR (s : ByteArray) (at_ : Int) : Nat × Nat × Nat := if 8000 < s.size then (2, 0, 0) else if at_ < 0 then (1, 0, 0) else scan s at_.toNat 10 0 0
def Handle (w : World) : Prop := w.cell? ⟨0, 0, none⟩ = some (.iface 76 (.agg #[.pointer (some ⟨1, 45, none⟩)]))
theorem Handle.pos {w : World} (h : Handle w) : 0 < w.heap.size := by
  rcases Nat.eq_zero_or_pos w.heap.size with h0 | hp
  · unfold Handle at h; simp [World.cell?, h0] at h
  · exact hp
theorem Handle.below {B : Nat} {w w' : World} (h : Handle w) (hb : Below B w w') (hB : 0 < B) : Handle w' := by
  unfold Handle at h ⊢; rw [hb.cell (p := ⟨0, 0, none⟩) hB]; exact h
theorem Handle.alloc {w : World} (h : Handle w) (o : Obj) : Handle (w.alloc o) := h.below ((Below.refl w.heap.size w).alloc (Nat.le_refl _) o) h.pos

set_option maxRecDepth 100000 in
set_option maxHeartbeats 1000000 in
theorem readNum_any (s : ByteArray) (at_ : Int) (hs : s.size ≤ maxLen) (ha : (Lit.int .i64 at_).wf = true) (w : World) :
    Calls Tryd.prog 22 #[.string s, .int .i64 at_] w fun e w' => e = .returned (numV (getNumR s at_)) ∧ w = w' := by
  unfold maxLen at hs
  have hwf := wf_i64 ha
  unfold getNumR
  by_cases h1 : 8000 < s.size
  · have h1' : (8000 : Int) < (s.size : Int) := by omega
    rw [if_pos h1]
    clear hwf
    go_enter Tryd.func22, Tryd.ntmps22
    go_wp2
    apply wp_scope_straight
    go_wp2
    rw [Exit.noGoto_ret]
    go_ret3
    exact ⟨rfl, rfl⟩
  · rw [if_neg h1]
    by_cases h2 : at_ < 0
    · have h1' : ¬ (8000 : Int) < (s.size : Int) := by omega
      rw [if_pos h2]
      clear hwf
      go_enter Tryd.func22, Tryd.ntmps22
      go_wp2
      apply wp_scope_straight
      go_wp2
      rw [Exit.noGoto_ret]
      go_ret3
      exact ⟨rfl, rfl⟩
    · rw [if_neg h2]
      obtain ⟨a, rfl⟩ : ∃ a : Nat, at_ = (a : Int) := ⟨at_.toNat, by omega⟩
      rw [Int.toNat_natCast]
      exact readNum_good s a (by omega) (by omega) w

theorem new_at (w : World) (o : Obj) (n : Nat) (hn : n = w.heap.size) : (w.alloc o).heap[n]? = some o := by subst hn; exact heap_alloc_new w o
theorem trio_grown {w w' : World} {g k : Nat} {t : TypeId} {x y z : Value} (h : Trio w g t x y z) (hg : w.grownBy w' (some k)) (hk : g ≠ k) : Trio w' g t x y z :=
  (hg.block g (lt_of_block h) (fun e => hk (Option.some.inj e))).trans h
theorem below_set3 {B g : Nat} {w w' : World} (h : Below B w w') (hg : B ≤ g) (x y z : Value) : Below B w (((w'.setCell ⟨g, 0, none⟩ x).setCell ⟨g, 1, none⟩ y).setCell ⟨g, 2, none⟩ z) :=
  ((h.setCell (p := ⟨g, 0, none⟩) hg x).setCell (p := ⟨g, 1, none⟩) hg y).setCell (p := ⟨g, 2, none⟩) hg z
def numOutV (r : Nat × Nat × Nat) : Value := if r.1 = 0 then .agg #[.int .i64 (unfoldN r.2.1), .int .i64 (r.2.2 : Int), .int .i64 0] else .agg #[.int .i64 0, .int .i64 0, .int .i64 (r.1 : Int)]
set_option maxRecDepth 100000 in
set_option maxHeartbeats 1000000 in
theorem implGetNum_any (s : ByteArray) (at_ : Int) (hs : s.size ≤ maxLen) (ha : (Lit.int .i64 at_).wf = true) (w : World) (hg : Handle w) :
    Calls Tryd.prog 9 #[.string s, .int .i64 at_] w fun e w' => e = .returned (numOutV (getNumR s at_)) ∧ Below w.heap.size w w' := by
  have hG := Lib.hid hg
  by_cases h0 : (getNumR s at_).1 = 0
  · have hv := Lib.hid (show numV (getNumR s at_) = _ from if_pos h0)
    have ho := Lib.hid (show numOutV (getNumR s at_) = _ from if_pos h0)
    clear hg
    go_enter Tryd.func9, Tryd.ntmps9
    go_wp2_with (first
      | (go_at_call 22; refine (readNum_any s at_ hs ha _).mono ?_; rintro e w' ⟨rfl, rfl⟩; rw [hv.out])
      | (go_at_call 23; refine (as_nil _ _).mono ?_; rintro e w' ⟨rfl, rfl⟩))
    exact bodyPost_ret (v := numOutV (getNumR s at_)) (by rw [ho.out]; simp [results, Tryd.results9, go_sem]) rfl ⟨rfl, ((Below.refl _ _).alloc (Nat.le_refl _) _).alloc (by simp) _⟩
  · have hv := Lib.hid (show numV (getNumR s at_) = _ from if_neg h0)
    have ho := Lib.hid (show numOutV (getNumR s at_) = _ from if_neg h0)
    go_enter Tryd.func9, Tryd.ntmps9
    go_wp2_with (first
      | (go_at_call 22; refine (readNum_any s at_ hs ha _).mono ?_; rintro e w' ⟨rfl, rfl⟩; rw [hv.out])
      | (go_at_call 23; refine (as_got _ _ (w.heap.size + 1) 49 (.int .i64 0) _ ((hG.out.alloc _).alloc _) (new_at _ _ _ (by simp))).mono ?_; rintro e w1 ⟨rfl, hF, hgr⟩; have hT1 := trio_grown ((Trio.new w 26 (.int .i64 0) (.int .i64 0) (.int .i64 0)).alloc (.cells #[.int .i64 0] 49)) hgr (by simp); obtain ⟨c0, c1, c2, f0, f1, f2⟩ := hT1.facts; have cF := cell_of_one hF; replace hT1 := Lib.hid hT1; replace hF := Lib.hid hF; replace hgr := Lib.hid hgr))
    obtain ⟨d0, d1, d2, _⟩ := (hT1.out.set (.int .i64 0) (.int .i64 0) (.int .i64 (getNumR s at_).1)).facts
    exact bodyPost_ret (v := numOutV (getNumR s at_)) (by rw [ho.out]; simp [results, Tryd.results9, go_sem, d0, d1, d2]) rfl ⟨rfl, below_set3 ((((Below.refl _ _).alloc (Nat.le_refl _) _).alloc (by simp) _).grown hgr.out (by simp; omega) (fun k hk => by simp at hk; omega)) (Nat.le_refl _) _ _ _⟩

/-! ## the model's -/
theorem St.bit {s : ByteArray} {a p i u b : Nat} (h : St s a p i u b) : b = 7 * i ∧ p = a + i ∧ i ≤ 9 ∧ u < 2 ^ b := ⟨h.2.1, h.1, h.2.2.1, h.2.2.2.1⟩

theorem gath_sum {u b c : Nat} (h1 : gath u c b < 18446744073709551616) (h2 : c % 128 * 2 ^ b < 18446744073709551616) :
    IntKind.u64.wrap ((u : Int) + IntKind.u64.wrap ((c : Int) % 128 * 2 ^ b)) = ((gath u c b : Nat) : Int) := by
  have e : (c : Int) % 128 * 2 ^ b = ((c % 128 * 2 ^ b : Nat) : Int) := by rw [Int.natCast_mul, Int.natCast_pow]; rfl
  unfold gath at h1 ⊢
  rw [e]
  simp only [IntKind.wrap_u64]
  omega
theorem num_odd {g p : Nat} (h : ((g : Int) % 2 == 1) = true) : Value.agg #[.int .i64 (-((g : Int) / 2) - 1), .int .i64 ((p : Int) + 1), .int .i64 0] = numOutV (0, g, p + 1) := by
  have h' : ¬ g % 2 = 0 := by simp at h; omega
  show _ = Value.agg #[.int .i64 (unfoldN g), .int .i64 ((p + 1 : Nat) : Int), .int .i64 0]
  rw [unfoldN, if_neg h']; rfl
theorem num_even {g p : Nat} (h : ((g : Int) % 2 == 1) = false) : Value.agg #[.int .i64 ((g : Int) / 2), .int .i64 ((p : Int) + 1), .int .i64 0] = numOutV (0, g, p + 1) := by
  have h' : g % 2 = 0 := by simp at h; omega
  show _ = Value.agg #[.int .i64 (unfoldN g), .int .i64 ((p + 1 : Nat) : Int), .int .i64 0]
  rw [unfoldN, if_pos h']; rfl
set_option maxRecDepth 100000 in
set_option maxHeartbeats 8000000 in
theorem specGetNum_good (s : ByteArray) (a : Nat) (h8 : s.size ≤ 8000) (ha : a ≤ 9223372036854775807) (w : World) :
    Calls Tryd.prog 14 #[.string s, .int .i64 a] w fun e w' => e = .returned (numOutV (scan s a 10 0 0)) ∧ Below w.heap.size w w' := by
  have h8' : ¬ (8000 : Int) < (s.size : Int) := by omega
  have h0' : ¬ (a : Int) < 0 := by omega
  have haI : (a : Int) ≤ 9223372036854775807 := by omega
  go_enter Tryd.func14, Tryd.ntmps14
  go_wp2
  go_loop [5, 6] (fun u' i' => ∃ (p i u b : Nat), Hid (St s a p i u b) ∧ u' = .int .u64 (u : Int) ∧ i' = .int .i64 (i : Int)) (fun _ i' => 10 - (intOf i').toNat)
  case atStart => exact ⟨a, 0, 0, 0, Lib.hid (St.start s a), rfl, rfl⟩
  case round =>
    obtain ⟨p, i, u, b, hH, rfl, rfl⟩ := hrel
    have hi9 : i ≤ 9 := hH.out.bit.2.2.1
    have hi10 : (i : Int) < 10 := by omega
    have hb := Lib.hid hH.out.bit
    by_cases hp : s.size ≤ p
    · have hp' : (s.size : Int) - (i : Int) ≤ (a : Int) := by have := hH.out.bit; omega
      have hE := Lib.hid (hH.out.short hp)
      go_wp2
      exact bodyPost_ret (v := numOutV (4, 0, 0)) (by simp [results, Tryd.results14, go_sem]; rfl) rfl ⟨ret_val (congrArg numOutV hE.out).symm, (Below.refl _ _).alloc (Nat.le_refl _) _⟩
    · have hp' : p < s.size := by omega
      have hp2 : ¬ (s.size : Int) - (i : Int) ≤ (a : Int) := by have := hH.out.bit; omega
      have hpI : (a : Int) + (i : Int) = (p : Int) := by have := hH.out.bit; omega
      have hc256 : s[p].toNat < 256 := s[p].toNat_lt
      by_cases hi : i = 9
      · have hi' : ((i : Int) == 9) = true := by simp; omega
        have hie := Lib.hid hi
        clear hi
        by_cases hc1 : 1 < s[p].toNat
        · have hc1' : (1 : Int) < (s[p].toNat : Int) := by omega
          have hE := Lib.hid (hH.out.ten hp' (by have := hb.out; have := hie.out; omega) hc1)
          go_wp2
          exact bodyPost_ret (v := numOutV (3, 0, 0)) (by simp [results, Tryd.results14, go_sem]; rfl) rfl ⟨ret_val (congrArg numOutV hE.out).symm, (Below.refl _ _).alloc (Nat.le_refl _) _⟩
        · have hc1' : ¬ (1 : Int) < (s[p].toNat : Int) := by omega
          have hc128 : (s[p].toNat : Int) < 128 := by omega
          have hL := Lib.hid (hH.out.last hp' (fun _ => by omega) (by omega))
          obtain ⟨g, hg0⟩ : ∃ g, g = gath u s[p].toNat b := ⟨_, rfl⟩
          have hG : IntKind.u64.wrap ((u : Int) + IntKind.u64.wrap ((s[p].toNat : Int) % 128 * 2 ^ (7 * i))) = (g : Int) := by
            rw [hg0, ← hb.out.1]; exact gath_sum hL.out.2.1 hL.out.2.2.1
          have hg1 : (g : Int) ≤ 18446744073709551615 := by have := hL.out.2.1; rw [← hg0] at this; omega
          replace hg0 := Lib.hid hg0
          by_cases hz : s[p].toNat = 0 ∧ 0 < i
          · have hz' : ((s[p].toNat : Int) == 0) = true := by simp; omega
            have hi0' : (0 : Int) < ((i : Nat) : Int) := by omega
            have hE := Lib.hid (hL.out.1.trans (if_pos ⟨hz.1, by have := hb.out.1; omega⟩))
            replace hz := Lib.hid hz
            go_wp2
            exact bodyPost_ret (v := numOutV (3, 0, 0)) (by simp [results, Tryd.results14, go_sem]; rfl) rfl ⟨ret_val (congrArg numOutV hE.out).symm, (Below.refl _ _).alloc (Nat.le_refl _) _⟩
          · have hE := Lib.hid (hL.out.1.trans (if_neg (fun e => hz ⟨e.1, by have := hb.out.1; omega⟩)))
            have hE2 := Lib.hid (show scan s a 10 0 0 = (0, g, p + 1) by rw [hg0.out]; exact hE.out)
            have hz2 : ((s[p].toNat : Int) == 0) = false ∨ (((s[p].toNat : Int) == 0) = true ∧ ¬ (0 : Int) < ((i : Nat) : Int)) := by
              by_cases e : s[p].toNat = 0
              · exact .inr ⟨by simp; omega, by have : ¬ 0 < i := fun h => hz ⟨e, h⟩
                                               omega⟩
              · exact .inl (by simp; omega)
            replace hz := Lib.hid hz
            rcases hz2 with hz2 | ⟨hz2, hz3⟩
            all_goals
              go_wp2
              all_goals first | (exact bodyPost_ret (v := .agg #[.int .i64 (-((g : Int) / 2) - 1), .int .i64 ((p : Int) + 1), .int .i64 0]) (by simp [results, Tryd.results14, go_sem]) rfl ⟨ret_val ((num_odd ‹_›).trans (congrArg numOutV hE2.out.symm)), (Below.refl _ _).alloc (Nat.le_refl _) _⟩) | (exact bodyPost_ret (v := .agg #[.int .i64 ((g : Int) / 2), .int .i64 ((p : Int) + 1), .int .i64 0]) (by simp [results, Tryd.results14, go_sem]) rfl ⟨ret_val ((num_even ‹_›).trans (congrArg numOutV hE2.out.symm)), (Below.refl _ _).alloc (Nat.le_refl _) _⟩)
      · have hi' : ((i : Int) == 9) = false := by simp; omega
        by_cases hc1 : s[p].toNat < 128
        · have hc128 : (s[p].toNat : Int) < 128 := by omega
          have hL := Lib.hid (hH.out.last hp' (fun e => by have := hb.out; omega) (by omega))
          obtain ⟨g, hg0⟩ : ∃ g, g = gath u s[p].toNat b := ⟨_, rfl⟩
          have hG : IntKind.u64.wrap ((u : Int) + IntKind.u64.wrap ((s[p].toNat : Int) % 128 * 2 ^ (7 * i))) = (g : Int) := by
            rw [hg0, ← hb.out.1]; exact gath_sum hL.out.2.1 hL.out.2.2.1
          have hg1 : (g : Int) ≤ 18446744073709551615 := by have := hL.out.2.1; rw [← hg0] at this; omega
          replace hg0 := Lib.hid hg0
          by_cases hz : s[p].toNat = 0 ∧ 0 < i
          · have hz' : ((s[p].toNat : Int) == 0) = true := by simp; omega
            have hi0' : (0 : Int) < ((i : Nat) : Int) := by omega
            have hE := Lib.hid (hL.out.1.trans (if_pos ⟨hz.1, by have := hb.out.1; omega⟩))
            replace hz := Lib.hid hz
            go_wp2
            exact bodyPost_ret (v := numOutV (3, 0, 0)) (by simp [results, Tryd.results14, go_sem]; rfl) rfl ⟨ret_val (congrArg numOutV hE.out).symm, (Below.refl _ _).alloc (Nat.le_refl _) _⟩
          · have hE := Lib.hid (hL.out.1.trans (if_neg (fun e => hz ⟨e.1, by have := hb.out.1; omega⟩)))
            have hE2 := Lib.hid (show scan s a 10 0 0 = (0, g, p + 1) by rw [hg0.out]; exact hE.out)
            have hz2 : ((s[p].toNat : Int) == 0) = false ∨ (((s[p].toNat : Int) == 0) = true ∧ ¬ (0 : Int) < ((i : Nat) : Int)) := by
              by_cases e : s[p].toNat = 0
              · exact .inr ⟨by simp; omega, by have : ¬ 0 < i := fun h => hz ⟨e, h⟩
                                               omega⟩
              · exact .inl (by simp; omega)
            replace hz := Lib.hid hz
            rcases hz2 with hz2 | ⟨hz2, hz3⟩
            all_goals
              go_wp2
              all_goals first | (exact bodyPost_ret (v := .agg #[.int .i64 (-((g : Int) / 2) - 1), .int .i64 ((p : Int) + 1), .int .i64 0]) (by simp [results, Tryd.results14, go_sem]) rfl ⟨ret_val ((num_odd ‹_›).trans (congrArg numOutV hE2.out.symm)), (Below.refl _ _).alloc (Nat.le_refl _) _⟩) | (exact bodyPost_ret (v := .agg #[.int .i64 ((g : Int) / 2), .int .i64 ((p : Int) + 1), .int .i64 0]) (by simp [results, Tryd.results14, go_sem]) rfl ⟨ret_val ((num_even ‹_›).trans (congrArg numOutV hE2.out.symm)), (Below.refl _ _).alloc (Nat.le_refl _) _⟩)
        · have hc128 : ¬ (s[p].toNat : Int) < 128 := by omega
          have hL := Lib.hid (hH.out.next hp' (by have := hb.out; omega) (by omega))
          obtain ⟨g, hg0⟩ : ∃ g, g = gath u s[p].toNat b := ⟨_, rfl⟩
          have hG : IntKind.u64.wrap ((u : Int) + IntKind.u64.wrap ((s[p].toNat : Int) % 128 * 2 ^ (7 * i))) = (g : Int) := by
            rw [hg0, ← hb.out.1]; exact gath_sum (gath_lt (by have := hL.out.2.2.2; omega) hL.out.2.2.1 (.inl hL.out.2.2.2)).2 hL.out.2.1
          replace hg0 := Lib.hid hg0
          go_wp2
          go_round
          case rel => exact ⟨p + 1, i + 1, g, b + 7, Lib.hid (by rw [hg0.out]; exact hL.out.1), rfl, by go_num⟩
          case measure => simp [intOf]; omega

set_option maxRecDepth 100000 in
set_option maxHeartbeats 1000000 in
theorem specGetNum_any (s : ByteArray) (at_ : Int) (hs : s.size ≤ maxLen) (ha : (Lit.int .i64 at_).wf = true) (w : World) :
    Calls Tryd.prog 14 #[.string s, .int .i64 at_] w fun e w' => e = .returned (numOutV (getNumR s at_)) ∧ Below w.heap.size w w' := by
  unfold maxLen at hs
  have hwf := wf_i64 ha
  unfold getNumR
  by_cases h1 : 8000 < s.size
  · have h1' : (8000 : Int) < (s.size : Int) := by omega
    rw [if_pos h1]
    clear hwf
    go_enter Tryd.func14, Tryd.ntmps14
    go_wp2
    exact bodyPost_ret (v := numOutV (2, 0, 0)) (by simp [results, Tryd.results14, go_sem]; rfl) rfl ⟨rfl, (Below.refl _ _).alloc (Nat.le_refl _) _⟩
  · rw [if_neg h1]
    by_cases h2 : at_ < 0
    · have h1' : ¬ (8000 : Int) < (s.size : Int) := by omega
      rw [if_pos h2]
      clear hwf
      go_enter Tryd.func14, Tryd.ntmps14
      go_wp2
      exact bodyPost_ret (v := numOutV (1, 0, 0)) (by simp [results, Tryd.results14, go_sem]; rfl) rfl ⟨rfl, (Below.refl _ _).alloc (Nat.le_refl _) _⟩
    · rw [if_neg h2]
      obtain ⟨a, rfl⟩ : ∃ a : Nat, at_ = (a : Int) := ⟨at_.toNat, by omega⟩
      rw [Int.toNat_natCast]
      exact specGetNum_good s a (by omega) (by omega) w
theorem numOutV_form (r : Nat × Nat × Nat) : ∃ n a c : Int, numOutV r = .agg #[.int .i64 n, .int .i64 a, .int .i64 c] := by
  unfold numOutV
  split
  · exact ⟨_, _, _, rfl⟩
  · exact ⟨_, _, _, rfl⟩
set_option maxHeartbeats 1000000 in
theorem eqNumOut_same (n a c : Int) (w : World) :
    Calls Tryd.prog 15 #[.agg #[.int .i64 n, .int .i64 a, .int .i64 c], .agg #[.int .i64 n, .int .i64 a, .int .i64 c]] w fun e w' => e = .returned (.bool true) ∧ Below w.heap.size w w' := by
  go_enter Tryd.func15, Tryd.ntmps15
  go_wp2
  go_ret
  exact ⟨rfl, ((Below.refl _ _).alloc (Nat.le_refl _) _).alloc (by simp) _⟩
theorem below_new2 {w w1 : World} {o : Obj} (h1 : Below (w.alloc o).heap.size (w.alloc o) w1) : Below w.heap.size w w1 := by
  have e : (w.alloc o).heap.size = w.heap.size + 1 := by simp
  exact ((Below.refl _ _).alloc (Nat.le_refl _) o).trans (h1.mono (by omega))
theorem below_in {B : Nat} {w w1 : World} {o : Obj} (h1 : Below (w.alloc o).heap.size (w.alloc o) w1) (hB : B ≤ w.heap.size) : Below B w w1 := (below_new2 h1).mono hB
end Go.Proofs.YtgbfndfjcolpjaaDoor
