/- GetText: the program's and the model's. -/
import Derived.Test.YtgbfndfjcolpjaaDoorGetNum
namespace Go.Proofs.YtgbfndfjcolpjaaDoor
open Go.RowKit

/-- The code, where the text begins, and where it ends. -/
def getTextR (s : ByteArray) (at_ : Int) : Nat × Nat × Nat :=
  if (getNumR s at_).1 ≠ 0 then ((getNumR s at_).1, 0, 0)
  else if unfoldN (getNumR s at_).2.1 < 0 ∨ 8000 < unfoldN (getNumR s at_).2.1 then (3, 0, 0)
  else if s.size < (getNumR s at_).2.2 + (unfoldN (getNumR s at_).2.1).toNat then (4, 0, 0)
  else (0, (getNumR s at_).2.2, (getNumR s at_).2.2 + (unfoldN (getNumR s at_).2.1).toNat)
def textOutV (s : ByteArray) (r : Nat × Nat × Nat) : Value := if r.1 = 0 then .agg #[.string (s.extract r.2.1 r.2.2), .int .i64 (r.2.2 : Int), .int .i64 0] else .agg #[.string { data := #[] }, .int .i64 0, .int .i64 (r.1 : Int)]
def textV (s : ByteArray) (r : Nat × Nat × Nat) : Value := if r.1 = 0 then .tuple #[.string (s.extract r.2.1 r.2.2), .int .i64 (r.2.2 : Int), .nilIface] else .tuple #[.string { data := #[] }, .int .i64 0, .iface 49 (.agg #[.int .i64 (r.1 : Int)])]
theorem scan_place {s : ByteArray} {a : Nat} : ∀ f i u, (scan s a f i u).1 = 0 → (scan s a f i u).2.2 ≤ s.size := by
  intro f
  induction f with
  | zero => intro i u h; simp [scan] at h
  | succ f ih =>
    intro i u
    rw [scan]
    split
    · intro h; simp at h
    · split
      · intro h; simp at h
      · split
        · split
          · intro h; simp at h
          · intro _; simp; omega
        · exact ih _ _
theorem getNumR_place {s : ByteArray} {at_ : Int} (h : (getNumR s at_).1 = 0) : (getNumR s at_).2.2 ≤ s.size ∧ s.size ≤ 8000 := by
  unfold getNumR at h ⊢
  by_cases h1 : 8000 < s.size
  · rw [if_pos h1] at h; simp at h
  · rw [if_neg h1] at h ⊢
    by_cases h2 : at_ < 0
    · rw [if_pos h2] at h; simp at h
    · rw [if_neg h2] at h ⊢
      exact ⟨scan_place _ _ _ h, by omega⟩

set_option maxRecDepth 100000 in
set_option maxHeartbeats 2000000 in
theorem readText_any (s : ByteArray) (at_ : Int) (hs : s.size ≤ maxLen) (ha : (Lit.int .i64 at_).wf = true) (w : World) :
    Calls Tryd.prog 28 #[.string s, .int .i64 at_] w fun e w' => e = .returned (textV s (getTextR s at_)) ∧ Below w.heap.size w w' := by
  by_cases h0 : (getNumR s at_).1 = 0
  · obtain ⟨hp1, hp2⟩ := getNumR_place h0
    have hv0 := show numV (getNumR s at_) = _ from if_pos h0
    obtain ⟨n, hn⟩ : ∃ n, n = unfoldN (getNumR s at_).2.1 := ⟨_, rfl⟩
    obtain ⟨p, hp⟩ : ∃ p, p = (getNumR s at_).2.2 := ⟨_, rfl⟩
    rw [← hp] at hp1
    rw [← hn, ← hp] at hv0
    have hR : getTextR s at_ = if n < 0 ∨ 8000 < n then (3, 0, 0) else if s.size < p + n.toNat then (4, 0, 0) else (0, p, p + n.toNat) := by
      unfold getTextR; rw [if_neg (by simpa using h0), ← hn, ← hp]
    replace hn := Lib.hid hn
    replace hp := Lib.hid hp
    replace h0 := Lib.hid h0
    have hv := Lib.hid hv0
    clear hv0
    by_cases hn1 : n < 0 ∨ 8000 < n
    · have hE := Lib.hid (hR.trans (if_pos hn1))
      clear hR
      rcases hn1 with hn1 | hn1
      all_goals
        go_enter Tryd.func28, Tryd.ntmps28
        go_wp2_with (go_at_call 22; refine (readNum_any s at_ hs ha _).mono ?_; rintro e w' ⟨rfl, rfl⟩; rw [hv.out])
        go_ret3
        exact ⟨ret_val (congrArg (textV s) hE.out).symm, Below.refl _ _⟩
    · have hn2 : ¬ n < 0 := fun h => hn1 (.inl h)
      have hn3 : ¬ 8000 < n := fun h => hn1 (.inr h)
      obtain ⟨m, rfl⟩ : ∃ m : Nat, n = (m : Int) := ⟨n.toNat, by omega⟩
      rw [if_neg hn1, Int.toNat_natCast] at hR
      by_cases hl : s.size < p + m
      · have hE := Lib.hid (hR.trans (if_pos hl))
        have hl' : (s.size : Int) - (p : Int) < (m : Int) := by omega
        clear hR
        go_enter Tryd.func28, Tryd.ntmps28
        go_wp2_with (go_at_call 22; refine (readNum_any s at_ hs ha _).mono ?_; rintro e w' ⟨rfl, rfl⟩; rw [hv.out])
        go_ret3
        exact ⟨ret_val (congrArg (textV s) hE.out).symm, Below.refl _ _⟩
      · have hE := Lib.hid (hR.trans (if_neg hl))
        have hl' : ¬ (s.size : Int) - (p : Int) < (m : Int) := by omega
        clear hR
        go_enter Tryd.func28, Tryd.ntmps28
        go_wp2_with (first
          | (go_at_call 22; refine (readNum_any s at_ hs ha _).mono ?_; rintro e w' ⟨rfl, rfl⟩; rw [hv.out])
          | (go_at_call 35; refine (piece_at _ _ _ p (p + m) (by omega) (by omega) (by omega) (by omega) (by omega) _).mono ?_; rintro e w1 ⟨rfl, hb1⟩; replace hb1 := Lib.hid hb1))
        go_ret3
        exact ⟨ret_val (congrArg (textV s) hE.out).symm, hb1.out⟩
  · have hv := Lib.hid (show numV (getNumR s at_) = _ from if_neg h0)
    have hE := Lib.hid (show getTextR s at_ = ((getNumR s at_).1, 0, 0) from if_pos h0)
    have hw := Lib.hid (show textV s ((getNumR s at_).1, 0, 0) = _ from if_neg h0)
    replace h0 := Lib.hid h0
    go_enter Tryd.func28, Tryd.ntmps28
    go_wp2_with (go_at_call 22; refine (readNum_any s at_ hs ha _).mono ?_; rintro e w' ⟨rfl, rfl⟩; rw [hv.out])
    go_ret3
    exact ⟨ret_val ((congrArg (textV s) hE.out).trans hw.out).symm, Below.refl _ _⟩

theorem Trio.lt {w : World} {g : Nat} {t : TypeId} {x y z : Value} (h : Trio w g t x y z) : g < w.heap.size := lt_of_block h
theorem textV_form (s : ByteArray) (r : Nat × Nat × Nat) (h : r.1 = 0) : textV s r = .tuple #[.string (s.extract r.2.1 r.2.2), .int .i64 (r.2.2 : Int), .nilIface] := if_pos h
set_option maxRecDepth 100000 in
set_option maxHeartbeats 1000000 in
theorem implGetText_any (s : ByteArray) (at_ : Int) (hs : s.size ≤ maxLen) (ha : (Lit.int .i64 at_).wf = true) (w : World) (hg : Handle w) :
    Calls Tryd.prog 13 #[.string s, .int .i64 at_] w fun e w' => e = .returned (textOutV s (getTextR s at_)) ∧ Below w.heap.size w w' := by
  replace hg := Lib.hid hg
  by_cases h0 : (getTextR s at_).1 = 0
  · obtain ⟨x, hx⟩ : ∃ x, x = s.extract (getTextR s at_).2.1 (getTextR s at_).2.2 := ⟨_, rfl⟩
    have hv0 := textV_form s _ h0
    have ho0 := show textOutV s (getTextR s at_) = _ from if_pos h0
    rw [← hx] at hv0 ho0
    have hv := Lib.hid hv0
    have ho := Lib.hid ho0
    replace hx := Lib.hid hx
    clear hv0 ho0
    go_enter Tryd.func13, Tryd.ntmps13
    go_wp2_with (first
      | (go_at_call 28; refine (readText_any s at_ hs ha _).mono ?_; rintro e w1 ⟨rfl, hb1⟩; rw [hv.out]; have hT1 := (Trio.new w 31 (.string { data := #[] }) (.int .i64 0) (.int .i64 0)).below hb1 (by simp); have hlt1 := hT1.lt; have hT1a := (hT1.alloc (.cells #[.int .i64 0] 49)).facts; obtain ⟨c0, c1, c2, f0, f1, f2⟩ := hT1.facts; replace hT1 := Lib.hid hT1; clear hT1a; replace hb1 := Lib.hid hb1)
      | (go_at_call 23; refine (as_nil _ _).mono ?_; rintro e w' ⟨rfl, rfl⟩))
    obtain ⟨d0, d1, d2, _⟩ := ((hT1.out.set (.string x) (.int .i64 (getTextR s at_).2.2) (.int .i64 0)).alloc (.cells #[.int .i64 0] 49)).facts
    exact bodyPost_ret (v := textOutV s (getTextR s at_)) (by rw [ho.out]; simp [results, Tryd.results13, go_sem, d0, d1, d2]) rfl ⟨rfl, (below_set3 (below_new2 hb1.out) (Nat.le_refl _) _ _ _).alloc (by simp [World.setCell]; omega) _⟩
  · have hv := Lib.hid (show textV s (getTextR s at_) = _ from if_neg h0)
    have ho := Lib.hid (show textOutV s (getTextR s at_) = _ from if_neg h0)
    go_enter Tryd.func13, Tryd.ntmps13
    go_wp2_with (first
      | (go_at_call 28; refine (readText_any s at_ hs ha _).mono ?_; rintro e w1 ⟨rfl, hb1⟩; rw [hv.out]; have hT1 := (Trio.new w 31 (.string { data := #[] }) (.int .i64 0) (.int .i64 0)).below hb1 (by simp); have hlt1 := hT1.lt; have hg1 := Lib.hid ((hg.out.alloc (.cells #[.string { data := #[] }, .int .i64 0, .int .i64 0] 31)).below hb1 (by simp)); obtain ⟨c0, c1, c2, f0, f1, f2⟩ := hT1.facts; replace hT1 := Lib.hid hT1; replace hb1 := Lib.hid hb1)
      | (go_at_call 23; refine (as_got _ _ w1.heap.size 49 (.int .i64 0) _ (hg1.out.alloc _) (new_at _ _ _ rfl)).mono ?_; rintro e w2 ⟨rfl, hF, hgr⟩; have hT2 := trio_grown (hT1.out.alloc (.cells #[.int .i64 0] 49)) hgr (Nat.ne_of_lt hlt1); obtain ⟨d0, d1, d2, e0, e1, e2⟩ := hT2.facts; have cF := cell_of_one hF; replace hT2 := Lib.hid hT2; replace hF := Lib.hid hF; replace hgr := Lib.hid hgr))
    obtain ⟨g0, g1, g2, _⟩ := (hT2.out.set (.string { data := #[] }) (.int .i64 0) (.int .i64 (getTextR s at_).1)).facts
    exact bodyPost_ret (v := textOutV s (getTextR s at_)) (by rw [ho.out]; simp [results, Tryd.results13, go_sem, g0, g1, g2]) rfl ⟨rfl, below_set3 (((below_new2 hb1.out).alloc (by omega) _).grown hgr.out (by simp; omega) (fun k hk => by have := Option.some.inj hk; omega)) (Nat.le_refl _) _ _ _⟩

set_option maxRecDepth 100000 in
set_option maxHeartbeats 2000000 in
theorem specGetText_any (s : ByteArray) (at_ : Int) (hs : s.size ≤ maxLen) (ha : (Lit.int .i64 at_).wf = true) (w : World) :
    Calls Tryd.prog 16 #[.string s, .int .i64 at_] w fun e w' => e = .returned (textOutV s (getTextR s at_)) ∧ Below w.heap.size w w' := by
  by_cases h0 : (getNumR s at_).1 = 0
  · obtain ⟨hp1, hp2⟩ := getNumR_place h0
    have hv0 := show numOutV (getNumR s at_) = _ from if_pos h0
    obtain ⟨n, hn⟩ : ∃ n, n = unfoldN (getNumR s at_).2.1 := ⟨_, rfl⟩
    obtain ⟨p, hp⟩ : ∃ p, p = (getNumR s at_).2.2 := ⟨_, rfl⟩
    rw [← hp] at hp1
    rw [← hn, ← hp] at hv0
    have hR : getTextR s at_ = if n < 0 ∨ 8000 < n then (3, 0, 0) else if s.size < p + n.toNat then (4, 0, 0) else (0, p, p + n.toNat) := by
      unfold getTextR; rw [if_neg (by simpa using h0), ← hn, ← hp]
    replace hn := Lib.hid hn
    replace hp := Lib.hid hp
    replace h0 := Lib.hid h0
    have hv := Lib.hid hv0
    clear hv0
    by_cases hn1 : n < 0 ∨ 8000 < n
    · have hE := Lib.hid (hR.trans (if_pos hn1))
      clear hR
      rcases hn1 with hn1 | hn1
      all_goals
        go_enter Tryd.func16, Tryd.ntmps16
        go_wp2_with (go_at_call 14; refine (specGetNum_any s at_ hs ha _).mono ?_; rintro e w1 ⟨rfl, hb1⟩; rw [hv.out]; have hT1 := (Trio.new w 31 (.string { data := #[] }) (.int .i64 0) (.int .i64 0)).below hb1 (by simp); have hlt1 := hT1.lt; obtain ⟨c0, c1, c2, f0, f1, f2⟩ := hT1.facts; replace hT1 := Lib.hid hT1; replace hb1 := Lib.hid hb1)
        obtain ⟨d0, d1, d2, _⟩ := ((hT1.out.set (.string { data := #[] }) (.int .i64 0) (.int .i64 3)).alloc (.cells #[.int .i64 n, .int .i64 p, .int .i64 0] 26)).facts
        exact bodyPost_ret (v := textOutV s (3, 0, 0)) (by simp [results, Tryd.results16, go_sem, d0, d1, d2]; rfl) rfl ⟨ret_val (congrArg (textOutV s) hE.out).symm, (below_set3 (below_new2 hb1.out) (Nat.le_refl _) _ _ _).alloc (by simp [World.setCell]; omega) _⟩
    · have hn2 : ¬ n < 0 := fun h => hn1 (.inl h)
      have hn3 : ¬ 8000 < n := fun h => hn1 (.inr h)
      obtain ⟨m, rfl⟩ : ∃ m : Nat, n = (m : Int) := ⟨n.toNat, by omega⟩
      rw [if_neg hn1, Int.toNat_natCast] at hR
      by_cases hl : s.size < p + m
      · have hE := Lib.hid (hR.trans (if_pos hl))
        have hl' : (s.size : Int) - (m : Int) < (p : Int) := by omega
        clear hR
        go_enter Tryd.func16, Tryd.ntmps16
        go_wp2_with (go_at_call 14; refine (specGetNum_any s at_ hs ha _).mono ?_; rintro e w1 ⟨rfl, hb1⟩; rw [hv.out]; have hT1 := (Trio.new w 31 (.string { data := #[] }) (.int .i64 0) (.int .i64 0)).below hb1 (by simp); have hlt1 := hT1.lt; obtain ⟨c0, c1, c2, f0, f1, f2⟩ := hT1.facts; replace hT1 := Lib.hid hT1; replace hb1 := Lib.hid hb1)
        obtain ⟨d0, d1, d2, _⟩ := ((hT1.out.set (.string { data := #[] }) (.int .i64 0) (.int .i64 4)).alloc (.cells #[.int .i64 m, .int .i64 p, .int .i64 0] 26)).facts
        exact bodyPost_ret (v := textOutV s (4, 0, 0)) (by simp [results, Tryd.results16, go_sem, d0, d1, d2]; rfl) rfl ⟨ret_val (congrArg (textOutV s) hE.out).symm, (below_set3 (below_new2 hb1.out) (Nat.le_refl _) _ _ _).alloc (by simp [World.setCell]; omega) _⟩
      · have hE := Lib.hid (hR.trans (if_neg hl))
        have hl' : ¬ (s.size : Int) - (m : Int) < (p : Int) := by omega
        clear hR
        go_enter Tryd.func16, Tryd.ntmps16
        go_wp2_with (go_at_call 14; refine (specGetNum_any s at_ hs ha _).mono ?_; rintro e w1 ⟨rfl, hb1⟩; rw [hv.out]; have hT1 := (Trio.new w 31 (.string { data := #[] }) (.int .i64 0) (.int .i64 0)).below hb1 (by simp); have hlt1 := hT1.lt; obtain ⟨c0, c1, c2, f0, f1, f2⟩ := hT1.facts; replace hT1 := Lib.hid hT1; replace hb1 := Lib.hid hb1)
        have hw1 : IntKind.i64.wrap ((p : Int) + (m : Int)) = (p : Int) + (m : Int) := IntWalk.i64_in _ (by omega)
        have hw2 : (p : Int) + (m : Int) ≤ (s.size : Int) := by clear hw1; omega
        have hw3 : ((p : Int) + (m : Int)).toNat = p + m := by clear hw1; omega
        have hw4 : (p : Int) ≤ (p : Int) + (m : Int) := by clear hw1; omega
        have hw5 : (0 : Int) ≤ (p : Int) + (m : Int) := by clear hw1; omega
        go_region
        clear hw1 hw2 hw3 hw4 hw5
        go_wp2
        obtain ⟨d0, d1, d2, _⟩ := ((hT1.out.set (.string (s.extract p (p + m))) (.int .i64 ((p : Int) + (m : Int))) (.int .i64 0)).alloc (.cells #[.int .i64 m, .int .i64 p, .int .i64 0] 26)).drew.facts
        exact bodyPost_ret (v := textOutV s (0, p, p + m)) (by simp [results, Tryd.results16, go_sem, d0, d1, d2]; rfl) rfl ⟨ret_val (congrArg (textOutV s) hE.out).symm, ((below_set3 (below_new2 hb1.out) (Nat.le_refl _) _ _ _).alloc (by simp [World.setCell]; omega) _).drew⟩
  · have hv := Lib.hid (show numOutV (getNumR s at_) = _ from if_neg h0)
    have hE := Lib.hid (show getTextR s at_ = ((getNumR s at_).1, 0, 0) from if_pos h0)
    have h0' : (((getNumR s at_).1 : Int) != 0) = true := by simp; omega
    have hw := Lib.hid (show textOutV s ((getNumR s at_).1, 0, 0) = _ from if_neg h0)
    replace h0 := Lib.hid h0
    go_enter Tryd.func16, Tryd.ntmps16
    go_wp2_with (go_at_call 14; refine (specGetNum_any s at_ hs ha _).mono ?_; rintro e w1 ⟨rfl, hb1⟩; rw [hv.out]; have hT1 := (Trio.new w 31 (.string { data := #[] }) (.int .i64 0) (.int .i64 0)).below hb1 (by simp); have hlt1 := hT1.lt; obtain ⟨c0, c1, c2, f0, f1, f2⟩ := hT1.facts; replace hT1 := Lib.hid hT1; replace hb1 := Lib.hid hb1)
    obtain ⟨d0, d1, d2, _⟩ := ((hT1.out.set (.string { data := #[] }) (.int .i64 0) (.int .i64 (getNumR s at_).1)).alloc (.cells #[.int .i64 0, .int .i64 0, .int .i64 (getNumR s at_).1] 26)).facts
    exact bodyPost_ret (v := textOutV s ((getNumR s at_).1, 0, 0)) (by rw [hw.out]; simp [results, Tryd.results16, go_sem, d0, d1, d2]) rfl ⟨ret_val (congrArg (textOutV s) hE.out).symm, (below_set3 (below_new2 hb1.out) (Nat.le_refl _) _ _ _).alloc (by simp [World.setCell]; omega) _⟩
theorem textOutV_form (s : ByteArray) (r : Nat × Nat × Nat) : ∃ (t : ByteArray) (a c : Int), textOutV s r = .agg #[.string t, .int .i64 a, .int .i64 c] := by
  unfold textOutV
  split
  · exact ⟨_, _, _, rfl⟩
  · exact ⟨_, _, _, rfl⟩
set_option maxHeartbeats 1000000 in
theorem eqTextOut_same (t : ByteArray) (a c : Int) (w : World) :
    Calls Tryd.prog 17 #[.agg #[.string t, .int .i64 a, .int .i64 c], .agg #[.string t, .int .i64 a, .int .i64 c]] w fun e w' => e = .returned (.bool true) ∧ Below w.heap.size w w' := by
  go_enter Tryd.func17, Tryd.ntmps17
  go_wp2
  go_ret
  exact ⟨rfl, ((Below.refl _ _).alloc (Nat.le_refl _) _).alloc (by simp) _⟩
end Go.Proofs.YtgbfndfjcolpjaaDoor
