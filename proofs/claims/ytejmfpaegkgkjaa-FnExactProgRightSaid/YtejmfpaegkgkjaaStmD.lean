/- What each kind of statement asks of that which it has. -/
import Derived.Test.YtejmfpaegkgkjaaStmC
namespace Go.Proofs.Ytejmfpaegkgkjaa
open Go.RowKit

theorem Blk.one {w : World} {g : Nat} {t : TypeId} {x : Value} (h : Blk w g t [x]) : w.cell? ⟨g, 0, none⟩ = some x ∧ w.frozen? ⟨g, 0, none⟩ = false := ⟨h.cell 0 (by simp), h.free 0⟩
def right1 (x : Stm) : Bool := (wordB x.name.data.toList && partsB x.parts)
set_option maxHeartbeats 4000000 in
theorem right1_any (x : Stm) (A : Option Addr) (n cap : Nat) (w : World) (wf : StmWf x) (hv : Prts w (.slice A n cap) x.parts) : Calls Try.prog 72 #[kind1 x (.slice A n cap)] w (Gives (.bool (right1 x)) w) := by
  have hb := Lib.hid ((Below.refl w.heap.size w).alloc (Nat.le_refl _) (.cells #[.string x.name, .slice A n cap] 72))
  have hk := Lib.hid (show Blk (w.alloc (.cells #[.string x.name, .slice A n cap] 72)) w.heap.size 72 [.string x.name, .slice A n cap] from heap_alloc_new w _)
  replace hv := Lib.hid (hv.alloc (.cells #[.string x.name, .slice A n cap] 72))
  obtain ⟨hm, ht, -⟩ := wf
  have hmi : (x.name.size : Int) ≤ 9223372036854775807 := by unfold maxLen at hm; omega
  have hti : (x.text.size : Int) ≤ 9223372036854775807 := by unfold maxLen at ht; omega
  replace hm := Lib.hid hm
  replace ht := Lib.hid ht
  unfold kind1
  cases hw : wordB x.name.data.toList with
  | false =>
    have e2 := Lib.hid (show right1 x = false from by unfold right1; simp [hw])
    go_enter Try.func72, Try.ntmps72
    go_wp2_with (first | (go_at_call_of 31 (Value.string x.name); refine (implWord_any x.name hm.out _).mono ?_; rintro e w1 ⟨rfl, hb1⟩; rw [hw]; replace hv := Lib.hid (hv.out.below hb1); obtain ⟨d0, d1, f0, f1⟩ := (hk.out.up hb1).two; replace hk := Lib.hid (hk.out.up hb1); replace hb := Lib.hid (Below.then_ hb.out hb1 (Nat.le_refl _)); clear hb1))
    go_ret
    exact ⟨by rw [e2.out]; (first | rfl | exact ret_bool (by simp; omega)), hb.out⟩
  | true =>
    cases hp : partsB x.parts with
    | false =>
      have e2 := Lib.hid (show right1 x = false from by unfold right1; simp [hw, hp])
      go_enter Try.func72, Try.ntmps72
      go_wp2_with (first | (go_at_call_of 31 (Value.string x.name); refine (implWord_any x.name hm.out _).mono ?_; rintro e w1 ⟨rfl, hb1⟩; rw [hw]; replace hv := Lib.hid (hv.out.below hb1); obtain ⟨d0, d1, f0, f1⟩ := (hk.out.up hb1).two; replace hk := Lib.hid (hk.out.up hb1); replace hb := Lib.hid (Below.then_ hb.out hb1 (Nat.le_refl _)); clear hb1) | (go_at_call 74; refine (implParts_any _ x.parts _ hv.out).mono ?_; rintro e w1 ⟨rfl, hb1⟩; rw [hp]; replace hv := Lib.hid (hv.out.below hb1); clear d0 d1 f0 f1; obtain ⟨d0, d1, f0, f1⟩ := (hk.out.up hb1).two; replace hk := Lib.hid (hk.out.up hb1); replace hb := Lib.hid (Below.then_ hb.out hb1 (Nat.le_refl _)); clear hb1))
      go_ret
      exact ⟨by rw [e2.out]; (first | rfl | exact ret_bool (by simp; omega)), hb.out⟩
    | true =>
      have e2 := Lib.hid (show right1 x = true from by unfold right1; simp [hw, hp])
      go_enter Try.func72, Try.ntmps72
      go_wp2_with (first | (go_at_call_of 31 (Value.string x.name); refine (implWord_any x.name hm.out _).mono ?_; rintro e w1 ⟨rfl, hb1⟩; rw [hw]; replace hv := Lib.hid (hv.out.below hb1); obtain ⟨d0, d1, f0, f1⟩ := (hk.out.up hb1).two; replace hk := Lib.hid (hk.out.up hb1); replace hb := Lib.hid (Below.then_ hb.out hb1 (Nat.le_refl _)); clear hb1) | (go_at_call 74; refine (implParts_any _ x.parts _ hv.out).mono ?_; rintro e w1 ⟨rfl, hb1⟩; rw [hp]; replace hv := Lib.hid (hv.out.below hb1); clear d0 d1 f0 f1; obtain ⟨d0, d1, f0, f1⟩ := (hk.out.up hb1).two; replace hk := Lib.hid (hk.out.up hb1); replace hb := Lib.hid (Below.then_ hb.out hb1 (Nat.le_refl _)); clear hb1))
      go_ret
      exact ⟨by rw [e2.out]; (first | rfl | exact ret_bool (by simp; omega)), hb.out⟩
def right2 (x : Stm) : Bool := (wordB x.name.data.toList && wordB x.text.data.toList)
set_option maxHeartbeats 4000000 in
theorem right2_any (x : Stm) (A : Option Addr) (n cap : Nat) (w : World) (wf : StmWf x) (hv : Prts w (.slice A n cap) x.parts) : Calls Try.prog 91 #[kind2 x (.slice A n cap)] w (Gives (.bool (right2 x)) w) := by
  have hb := Lib.hid ((Below.refl w.heap.size w).alloc (Nat.le_refl _) (.cells #[.string x.name, .string x.text] 74))
  have hk := Lib.hid (show Blk (w.alloc (.cells #[.string x.name, .string x.text] 74)) w.heap.size 74 [.string x.name, .string x.text] from heap_alloc_new w _)
  replace hv := Lib.hid (hv.alloc (.cells #[.string x.name, .string x.text] 74))
  obtain ⟨hm, ht, -⟩ := wf
  have hmi : (x.name.size : Int) ≤ 9223372036854775807 := by unfold maxLen at hm; omega
  have hti : (x.text.size : Int) ≤ 9223372036854775807 := by unfold maxLen at ht; omega
  replace hm := Lib.hid hm
  replace ht := Lib.hid ht
  unfold kind2
  cases hw : wordB x.name.data.toList with
  | false =>
    have e2 := Lib.hid (show right2 x = false from by unfold right2; simp [hw])
    go_enter Try.func91, Try.ntmps91
    go_wp2_with (first | (go_at_call_of 31 (Value.string x.name); refine (implWord_any x.name hm.out _).mono ?_; rintro e w1 ⟨rfl, hb1⟩; rw [hw]; replace hv := Lib.hid (hv.out.below hb1); obtain ⟨d0, d1, f0, f1⟩ := (hk.out.up hb1).two; replace hk := Lib.hid (hk.out.up hb1); replace hb := Lib.hid (Below.then_ hb.out hb1 (Nat.le_refl _)); clear hb1))
    go_ret
    exact ⟨by rw [e2.out]; (first | rfl | exact ret_bool (by simp; omega)), hb.out⟩
  | true =>
    cases hw2 : wordB x.text.data.toList with
    | false =>
      have e2 := Lib.hid (show right2 x = false from by unfold right2; simp [hw, hw2])
      go_enter Try.func91, Try.ntmps91
      go_wp2_with (first | (go_at_call_of 31 (Value.string x.name); refine (implWord_any x.name hm.out _).mono ?_; rintro e w1 ⟨rfl, hb1⟩; rw [hw]; replace hv := Lib.hid (hv.out.below hb1); obtain ⟨d0, d1, f0, f1⟩ := (hk.out.up hb1).two; replace hk := Lib.hid (hk.out.up hb1); replace hb := Lib.hid (Below.then_ hb.out hb1 (Nat.le_refl _)); clear hb1) | (go_at_call_of 31 (Value.string x.text); refine (implWord_any x.text ht.out _).mono ?_; rintro e w1 ⟨rfl, hb1⟩; rw [hw2]; replace hv := Lib.hid (hv.out.below hb1); clear d0 d1 f0 f1; obtain ⟨d0, d1, f0, f1⟩ := (hk.out.up hb1).two; replace hk := Lib.hid (hk.out.up hb1); replace hb := Lib.hid (Below.then_ hb.out hb1 (Nat.le_refl _)); clear hb1))
      go_ret
      exact ⟨by rw [e2.out]; (first | rfl | exact ret_bool (by simp; omega)), hb.out⟩
    | true =>
      have e2 := Lib.hid (show right2 x = true from by unfold right2; simp [hw, hw2])
      go_enter Try.func91, Try.ntmps91
      go_wp2_with (first | (go_at_call_of 31 (Value.string x.name); refine (implWord_any x.name hm.out _).mono ?_; rintro e w1 ⟨rfl, hb1⟩; rw [hw]; replace hv := Lib.hid (hv.out.below hb1); obtain ⟨d0, d1, f0, f1⟩ := (hk.out.up hb1).two; replace hk := Lib.hid (hk.out.up hb1); replace hb := Lib.hid (Below.then_ hb.out hb1 (Nat.le_refl _)); clear hb1) | (go_at_call_of 31 (Value.string x.text); refine (implWord_any x.text ht.out _).mono ?_; rintro e w1 ⟨rfl, hb1⟩; rw [hw2]; replace hv := Lib.hid (hv.out.below hb1); clear d0 d1 f0 f1; obtain ⟨d0, d1, f0, f1⟩ := (hk.out.up hb1).two; replace hk := Lib.hid (hk.out.up hb1); replace hb := Lib.hid (Below.then_ hb.out hb1 (Nat.le_refl _)); clear hb1))
      go_ret
      exact ⟨by rw [e2.out]; (first | rfl | exact ret_bool (by simp; omega)), hb.out⟩
def right3 (x : Stm) : Bool := (rng x.num 0 2 && partsB x.parts)
set_option maxHeartbeats 4000000 in
theorem right3_any (x : Stm) (A : Option Addr) (n cap : Nat) (w : World) (wf : StmWf x) (hv : Prts w (.slice A n cap) x.parts) : Calls Try.prog 93 #[kind3 x (.slice A n cap)] w (Gives (.bool (right3 x)) w) := by
  have hb := Lib.hid ((Below.refl w.heap.size w).alloc (Nat.le_refl _) (.cells #[.int .i64 x.num, .slice A n cap] 76))
  have hk := Lib.hid (show Blk (w.alloc (.cells #[.int .i64 x.num, .slice A n cap] 76)) w.heap.size 76 [.int .i64 x.num, .slice A n cap] from heap_alloc_new w _)
  replace hv := Lib.hid (hv.alloc (.cells #[.int .i64 x.num, .slice A n cap] 76))
  obtain ⟨hm, ht, -⟩ := wf
  have hmi : (x.name.size : Int) ≤ 9223372036854775807 := by unfold maxLen at hm; omega
  have hti : (x.text.size : Int) ≤ 9223372036854775807 := by unfold maxLen at ht; omega
  replace hm := Lib.hid hm
  replace ht := Lib.hid ht
  unfold kind3
  cases hn : rng x.num 0 2 with
  | false =>
    have e2 := Lib.hid (show right3 x = false from by unfold right3; simp [hn])
    go_enter Try.func93, Try.ntmps93
    go_wp2_with (first | (go_at_call 95; refine (seatPlace_any x.num _).mono ?_; rintro e w1 ⟨rfl, rfl⟩; rw [← rng_isB, hn]))
    go_ret
    exact ⟨by rw [e2.out]; (first | rfl | exact ret_bool (by simp; omega)), hb.out⟩
  | true =>
    cases hp : partsB x.parts with
    | false =>
      have e2 := Lib.hid (show right3 x = false from by unfold right3; simp [hn, hp])
      go_enter Try.func93, Try.ntmps93
      go_wp2_with (first | (go_at_call 95; refine (seatPlace_any x.num _).mono ?_; rintro e w1 ⟨rfl, rfl⟩; rw [← rng_isB, hn]) | (go_at_call 74; refine (implParts_any _ x.parts _ hv.out).mono ?_; rintro e w1 ⟨rfl, hb1⟩; rw [hp]; replace hv := Lib.hid (hv.out.below hb1); obtain ⟨d0, d1, f0, f1⟩ := (hk.out.up hb1).two; replace hk := Lib.hid (hk.out.up hb1); replace hb := Lib.hid (Below.then_ hb.out hb1 (Nat.le_refl _)); clear hb1))
      go_ret
      exact ⟨by rw [e2.out]; (first | rfl | exact ret_bool (by simp; omega)), hb.out⟩
    | true =>
      have e2 := Lib.hid (show right3 x = true from by unfold right3; simp [hn, hp])
      go_enter Try.func93, Try.ntmps93
      go_wp2_with (first | (go_at_call 95; refine (seatPlace_any x.num _).mono ?_; rintro e w1 ⟨rfl, rfl⟩; rw [← rng_isB, hn]) | (go_at_call 74; refine (implParts_any _ x.parts _ hv.out).mono ?_; rintro e w1 ⟨rfl, hb1⟩; rw [hp]; replace hv := Lib.hid (hv.out.below hb1); obtain ⟨d0, d1, f0, f1⟩ := (hk.out.up hb1).two; replace hk := Lib.hid (hk.out.up hb1); replace hb := Lib.hid (Below.then_ hb.out hb1 (Nat.le_refl _)); clear hb1))
      go_ret
      exact ⟨by rw [e2.out]; (first | rfl | exact ret_bool (by simp; omega)), hb.out⟩
def right4 (x : Stm) : Bool := (rng x.num 0 2 && (globOk x.text.data.toList && (plainB 33 x.text.data.toList && (wordB x.name.data.toList && rng x.dest 0 40))))
set_option maxHeartbeats 4000000 in
theorem right4_any (x : Stm) (A : Option Addr) (n cap : Nat) (w : World) (wf : StmWf x) (hv : Prts w (.slice A n cap) x.parts) : Calls Try.prog 96 #[kind4 x (.slice A n cap)] w (Gives (.bool (right4 x)) w) := by
  have hb := Lib.hid ((Below.refl w.heap.size w).alloc (Nat.le_refl _) (.cells #[.int .i64 x.num, .string x.text, .string x.name, .int .i64 x.dest] 78))
  have hk := Lib.hid (show Blk (w.alloc (.cells #[.int .i64 x.num, .string x.text, .string x.name, .int .i64 x.dest] 78)) w.heap.size 78 [.int .i64 x.num, .string x.text, .string x.name, .int .i64 x.dest] from heap_alloc_new w _)
  replace hv := Lib.hid (hv.alloc (.cells #[.int .i64 x.num, .string x.text, .string x.name, .int .i64 x.dest] 78))
  obtain ⟨hm, ht, -⟩ := wf
  have hmi : (x.name.size : Int) ≤ 9223372036854775807 := by unfold maxLen at hm; omega
  have hti : (x.text.size : Int) ≤ 9223372036854775807 := by unfold maxLen at ht; omega
  replace hm := Lib.hid hm
  replace ht := Lib.hid ht
  unfold kind4
  cases hn : rng x.num 0 2 with
  | false =>
    have e2 := Lib.hid (show right4 x = false from by unfold right4; simp [hn])
    go_enter Try.func96, Try.ntmps96
    go_wp2_with (first | (go_at_call 95; refine (seatPlace_any x.num _).mono ?_; rintro e w1 ⟨rfl, rfl⟩; rw [← rng_isB, hn]))
    go_ret
    exact ⟨by rw [e2.out]; (first | rfl | exact ret_bool (by simp; omega)), hb.out⟩
  | true =>
    cases hg : globOk x.text.data.toList with
    | false =>
      have e2 := Lib.hid (show right4 x = false from by unfold right4; simp [hn, hg])
      go_enter Try.func96, Try.ntmps96
      go_wp2_with (first | (go_at_call 95; refine (seatPlace_any x.num _).mono ?_; rintro e w1 ⟨rfl, rfl⟩; rw [← rng_isB, hn]) | (go_at_call 98; refine (implRight_any x.text ht.out _).mono ?_; rintro e w1 ⟨rfl, rfl⟩; rw [hg]))
      go_ret
      exact ⟨by rw [e2.out]; (first | rfl | exact ret_bool (by simp; omega)), hb.out⟩
    | true =>
      cases hq : plainB 33 x.text.data.toList with
      | false =>
        have e2 := Lib.hid (show right4 x = false from by unfold right4; simp [hn, hg, hq])
        go_enter Try.func96, Try.ntmps96
        go_wp2_with (first | (go_at_call 95; refine (seatPlace_any x.num _).mono ?_; rintro e w1 ⟨rfl, rfl⟩; rw [← rng_isB, hn]) | (go_at_call 98; refine (implRight_any x.text ht.out _).mono ?_; rintro e w1 ⟨rfl, rfl⟩; rw [hg]) | (go_at_call 30; refine (implPlain_any x.text 33 ht.out _).mono ?_; rintro e w1 ⟨rfl, rfl⟩; rw [hq]))
        go_ret
        exact ⟨by rw [e2.out]; (first | rfl | exact ret_bool (by simp; omega)), hb.out⟩
      | true =>
        cases hw : wordB x.name.data.toList with
        | false =>
          have e2 := Lib.hid (show right4 x = false from by unfold right4; simp [hn, hg, hq, hw])
          go_enter Try.func96, Try.ntmps96
          go_wp2_with (first | (go_at_call 95; refine (seatPlace_any x.num _).mono ?_; rintro e w1 ⟨rfl, rfl⟩; rw [← rng_isB, hn]) | (go_at_call 98; refine (implRight_any x.text ht.out _).mono ?_; rintro e w1 ⟨rfl, rfl⟩; rw [hg]) | (go_at_call 30; refine (implPlain_any x.text 33 ht.out _).mono ?_; rintro e w1 ⟨rfl, rfl⟩; rw [hq]) | (go_at_call_of 31 (Value.string x.name); refine (implWord_any x.name hm.out _).mono ?_; rintro e w1 ⟨rfl, hb1⟩; rw [hw]; replace hv := Lib.hid (hv.out.below hb1); obtain ⟨d0, d1, d2, d3⟩ := (hk.out.up hb1).four; replace hk := Lib.hid (hk.out.up hb1); replace hb := Lib.hid (Below.then_ hb.out hb1 (Nat.le_refl _)); clear hb1))
          go_ret
          exact ⟨by rw [e2.out]; (first | rfl | exact ret_bool (by simp; omega)), hb.out⟩
        | true =>
          cases hd : rng x.dest 0 40 with
          | false =>
            have e2 := Lib.hid (show right4 x = false from by unfold right4; simp [hn, hg, hq, hw, hd])
            go_enter Try.func96, Try.ntmps96
            go_wp2_with (first | (go_at_call 95; refine (seatPlace_any x.num _).mono ?_; rintro e w1 ⟨rfl, rfl⟩; rw [← rng_isB, hn]) | (go_at_call 98; refine (implRight_any x.text ht.out _).mono ?_; rintro e w1 ⟨rfl, rfl⟩; rw [hg]) | (go_at_call 30; refine (implPlain_any x.text 33 ht.out _).mono ?_; rintro e w1 ⟨rfl, rfl⟩; rw [hq]) | (go_at_call_of 31 (Value.string x.name); refine (implWord_any x.name hm.out _).mono ?_; rintro e w1 ⟨rfl, hb1⟩; rw [hw]; replace hv := Lib.hid (hv.out.below hb1); obtain ⟨d0, d1, d2, d3⟩ := (hk.out.up hb1).four; replace hk := Lib.hid (hk.out.up hb1); replace hb := Lib.hid (Below.then_ hb.out hb1 (Nat.le_refl _)); clear hb1) | (go_at_call 99; refine (stmtPlace_any x.dest _).mono ?_; rintro e w1 ⟨rfl, rfl⟩; rw [hd]))
            go_ret
            exact ⟨by rw [e2.out]; (first | rfl | exact ret_bool (by simp; omega)), hb.out⟩
          | true =>
            have e2 := Lib.hid (show right4 x = true from by unfold right4; simp [hn, hg, hq, hw, hd])
            go_enter Try.func96, Try.ntmps96
            go_wp2_with (first | (go_at_call 95; refine (seatPlace_any x.num _).mono ?_; rintro e w1 ⟨rfl, rfl⟩; rw [← rng_isB, hn]) | (go_at_call 98; refine (implRight_any x.text ht.out _).mono ?_; rintro e w1 ⟨rfl, rfl⟩; rw [hg]) | (go_at_call 30; refine (implPlain_any x.text 33 ht.out _).mono ?_; rintro e w1 ⟨rfl, rfl⟩; rw [hq]) | (go_at_call_of 31 (Value.string x.name); refine (implWord_any x.name hm.out _).mono ?_; rintro e w1 ⟨rfl, hb1⟩; rw [hw]; replace hv := Lib.hid (hv.out.below hb1); obtain ⟨d0, d1, d2, d3⟩ := (hk.out.up hb1).four; replace hk := Lib.hid (hk.out.up hb1); replace hb := Lib.hid (Below.then_ hb.out hb1 (Nat.le_refl _)); clear hb1) | (go_at_call 99; refine (stmtPlace_any x.dest _).mono ?_; rintro e w1 ⟨rfl, rfl⟩; rw [hd]))
            go_ret
            exact ⟨by rw [e2.out]; (first | rfl | exact ret_bool (by simp; omega)), hb.out⟩
def right5 (x : Stm) : Bool := (partsB x.parts)
set_option maxHeartbeats 4000000 in
theorem right5_any (x : Stm) (A : Option Addr) (n cap : Nat) (w : World) (wf : StmWf x) (hv : Prts w (.slice A n cap) x.parts) : Calls Try.prog 101 #[kind5 x (.slice A n cap)] w (Gives (.bool (right5 x)) w) := by
  have hb := Lib.hid ((Below.refl w.heap.size w).alloc (Nat.le_refl _) (.cells #[.slice A n cap] 80))
  have hk := Lib.hid (show Blk (w.alloc (.cells #[.slice A n cap] 80)) w.heap.size 80 [.slice A n cap] from heap_alloc_new w _)
  replace hv := Lib.hid (hv.alloc (.cells #[.slice A n cap] 80))
  obtain ⟨hm, ht, -⟩ := wf
  have hmi : (x.name.size : Int) ≤ 9223372036854775807 := by unfold maxLen at hm; omega
  have hti : (x.text.size : Int) ≤ 9223372036854775807 := by unfold maxLen at ht; omega
  replace hm := Lib.hid hm
  replace ht := Lib.hid ht
  unfold kind5
  cases hp : partsB x.parts with
  | false =>
    have e2 := Lib.hid (show right5 x = false from by unfold right5; simp [hp])
    go_enter Try.func101, Try.ntmps101
    go_wp2_with (first | (go_at_call 74; refine (implParts_any _ x.parts _ hv.out).mono ?_; rintro e w1 ⟨rfl, hb1⟩; rw [hp]; replace hv := Lib.hid (hv.out.below hb1); obtain ⟨d0, f0⟩ := (hk.out.up hb1).one; replace hk := Lib.hid (hk.out.up hb1); replace hb := Lib.hid (Below.then_ hb.out hb1 (Nat.le_refl _)); clear hb1))
    go_ret
    exact ⟨by rw [e2.out]; (first | rfl | exact ret_bool (by simp; omega)), hb.out⟩
  | true =>
    have e2 := Lib.hid (show right5 x = true from by unfold right5; simp [hp])
    go_enter Try.func101, Try.ntmps101
    go_wp2_with (first | (go_at_call 74; refine (implParts_any _ x.parts _ hv.out).mono ?_; rintro e w1 ⟨rfl, hb1⟩; rw [hp]; replace hv := Lib.hid (hv.out.below hb1); obtain ⟨d0, f0⟩ := (hk.out.up hb1).one; replace hk := Lib.hid (hk.out.up hb1); replace hb := Lib.hid (Below.then_ hb.out hb1 (Nat.le_refl _)); clear hb1))
    go_ret
    exact ⟨by rw [e2.out]; (first | rfl | exact ret_bool (by simp; omega)), hb.out⟩
def right6 (x : Stm) : Bool := (wordB x.name.data.toList && (decide (x.text.size ≤ 30) && (plainB 33 x.text.data.toList && (!decide (x.text.data.toList = [46]) && rng x.dest 0 40))))
set_option maxHeartbeats 4000000 in
theorem right6_any (x : Stm) (A : Option Addr) (n cap : Nat) (w : World) (wf : StmWf x) (hv : Prts w (.slice A n cap) x.parts) : Calls Try.prog 103 #[kind6 x (.slice A n cap)] w (Gives (.bool (right6 x)) w) := by
  have hb := Lib.hid ((Below.refl w.heap.size w).alloc (Nat.le_refl _) (.cells #[.string x.name, .string x.text, .int .i64 x.dest] 82))
  have hk := Lib.hid (show Blk (w.alloc (.cells #[.string x.name, .string x.text, .int .i64 x.dest] 82)) w.heap.size 82 [.string x.name, .string x.text, .int .i64 x.dest] from heap_alloc_new w _)
  replace hv := Lib.hid (hv.alloc (.cells #[.string x.name, .string x.text, .int .i64 x.dest] 82))
  obtain ⟨hm, ht, -⟩ := wf
  have hmi : (x.name.size : Int) ≤ 9223372036854775807 := by unfold maxLen at hm; omega
  have hti : (x.text.size : Int) ≤ 9223372036854775807 := by unfold maxLen at ht; omega
  replace hm := Lib.hid hm
  replace ht := Lib.hid ht
  unfold kind6
  cases hw : wordB x.name.data.toList with
  | false =>
    have e2 := Lib.hid (show right6 x = false from by unfold right6; simp [hw])
    go_enter Try.func103, Try.ntmps103
    go_wp2_with (first | (go_at_call_of 31 (Value.string x.name); refine (implWord_any x.name hm.out _).mono ?_; rintro e w1 ⟨rfl, hb1⟩; rw [hw]; replace hv := Lib.hid (hv.out.below hb1); obtain ⟨d0, d1, d2, f0, f1, f2⟩ := (hk.out.up hb1).three; replace hk := Lib.hid (hk.out.up hb1); replace hb := Lib.hid (Below.then_ hb.out hb1 (Nat.le_refl _)); clear hb1))
    go_ret
    exact ⟨by rw [e2.out]; (first | rfl | exact ret_bool (by simp; omega)), hb.out⟩
  | true =>
    by_cases hs : x.text.size ≤ 30
    · have hs' : (x.text.size : Int) ≤ 30 := by omega
      cases hq : plainB 33 x.text.data.toList with
      | false =>
        have e2 := Lib.hid (show right6 x = false from by unfold right6; simp [hw, hs, hq])
        go_enter Try.func103, Try.ntmps103
        go_wp2_with (first | (go_at_call_of 31 (Value.string x.name); refine (implWord_any x.name hm.out _).mono ?_; rintro e w1 ⟨rfl, hb1⟩; rw [hw]; replace hv := Lib.hid (hv.out.below hb1); obtain ⟨d0, d1, d2, f0, f1, f2⟩ := (hk.out.up hb1).three; replace hk := Lib.hid (hk.out.up hb1); replace hb := Lib.hid (Below.then_ hb.out hb1 (Nat.le_refl _)); clear hb1) | (go_at_call 30; refine (implPlain_any x.text 33 ht.out _).mono ?_; rintro e w1 ⟨rfl, rfl⟩; rw [hq]))
        go_ret
        exact ⟨by rw [e2.out]; (first | rfl | exact ret_bool (by simp; omega)), hb.out⟩
      | true =>
        by_cases ho : ¬ x.text.data.toList = [46]
        · have ho' : (x.text.toList == [46]) = false := by rw [ByteArray.toList_eq]; simpa using ho
          cases hd : rng x.dest 0 40 with
          | false =>
            have e2 := Lib.hid (show right6 x = false from by unfold right6; simp [hw, hs, hq, ho, hd])
            clear ho
            go_enter Try.func103, Try.ntmps103
            go_wp2_with (first | (go_at_call_of 31 (Value.string x.name); refine (implWord_any x.name hm.out _).mono ?_; rintro e w1 ⟨rfl, hb1⟩; rw [hw]; replace hv := Lib.hid (hv.out.below hb1); obtain ⟨d0, d1, d2, f0, f1, f2⟩ := (hk.out.up hb1).three; replace hk := Lib.hid (hk.out.up hb1); replace hb := Lib.hid (Below.then_ hb.out hb1 (Nat.le_refl _)); clear hb1) | (go_at_call 30; refine (implPlain_any x.text 33 ht.out _).mono ?_; rintro e w1 ⟨rfl, rfl⟩; rw [hq]) | (go_at_call 99; refine (stmtPlace_any x.dest _).mono ?_; rintro e w1 ⟨rfl, rfl⟩; rw [hd]))
            go_ret
            exact ⟨by rw [e2.out]; (first | rfl | exact ret_bool (by simp; omega)), hb.out⟩
          | true =>
            have e2 := Lib.hid (show right6 x = true from by unfold right6; simp [hw, hs, hq, ho, hd])
            clear ho
            go_enter Try.func103, Try.ntmps103
            go_wp2_with (first | (go_at_call_of 31 (Value.string x.name); refine (implWord_any x.name hm.out _).mono ?_; rintro e w1 ⟨rfl, hb1⟩; rw [hw]; replace hv := Lib.hid (hv.out.below hb1); obtain ⟨d0, d1, d2, f0, f1, f2⟩ := (hk.out.up hb1).three; replace hk := Lib.hid (hk.out.up hb1); replace hb := Lib.hid (Below.then_ hb.out hb1 (Nat.le_refl _)); clear hb1) | (go_at_call 30; refine (implPlain_any x.text 33 ht.out _).mono ?_; rintro e w1 ⟨rfl, rfl⟩; rw [hq]) | (go_at_call 99; refine (stmtPlace_any x.dest _).mono ?_; rintro e w1 ⟨rfl, rfl⟩; rw [hd]))
            go_ret
            exact ⟨by rw [e2.out]; (first | rfl | exact ret_bool (by simp; omega)), hb.out⟩
        · have ho' : (x.text.toList == [46]) = true := by rw [ByteArray.toList_eq]; simpa using ho
          have e2 := Lib.hid (show right6 x = false from by unfold right6; simp [hw, hs, hq, ho])
          clear ho
          go_enter Try.func103, Try.ntmps103
          go_wp2_with (first | (go_at_call_of 31 (Value.string x.name); refine (implWord_any x.name hm.out _).mono ?_; rintro e w1 ⟨rfl, hb1⟩; rw [hw]; replace hv := Lib.hid (hv.out.below hb1); obtain ⟨d0, d1, d2, f0, f1, f2⟩ := (hk.out.up hb1).three; replace hk := Lib.hid (hk.out.up hb1); replace hb := Lib.hid (Below.then_ hb.out hb1 (Nat.le_refl _)); clear hb1) | (go_at_call 30; refine (implPlain_any x.text 33 ht.out _).mono ?_; rintro e w1 ⟨rfl, rfl⟩; rw [hq]))
          go_ret
          exact ⟨by rw [e2.out]; (first | rfl | exact ret_bool (by simp; omega)), hb.out⟩
    · have hs' : ¬ (x.text.size : Int) ≤ 30 := by omega
      have e2 := Lib.hid (show right6 x = false from by unfold right6; simp [hw, hs])
      go_enter Try.func103, Try.ntmps103
      go_wp2_with (first | (go_at_call_of 31 (Value.string x.name); refine (implWord_any x.name hm.out _).mono ?_; rintro e w1 ⟨rfl, hb1⟩; rw [hw]; replace hv := Lib.hid (hv.out.below hb1); obtain ⟨d0, d1, d2, f0, f1, f2⟩ := (hk.out.up hb1).three; replace hk := Lib.hid (hk.out.up hb1); replace hb := Lib.hid (Below.then_ hb.out hb1 (Nat.le_refl _)); clear hb1))
      go_ret
      exact ⟨by rw [e2.out]; (first | rfl | exact ret_bool (by simp; omega)), hb.out⟩
def right7 (x : Stm) : Bool := (rng x.dest 0 40)
set_option maxHeartbeats 4000000 in
theorem right7_any (x : Stm) (A : Option Addr) (n cap : Nat) (w : World) (wf : StmWf x) (hv : Prts w (.slice A n cap) x.parts) : Calls Try.prog 105 #[kind7 x (.slice A n cap)] w (Gives (.bool (right7 x)) w) := by
  have hb := Lib.hid ((Below.refl w.heap.size w).alloc (Nat.le_refl _) (.cells #[.int .i64 x.dest] 84))
  have hk := Lib.hid (show Blk (w.alloc (.cells #[.int .i64 x.dest] 84)) w.heap.size 84 [.int .i64 x.dest] from heap_alloc_new w _)
  replace hv := Lib.hid (hv.alloc (.cells #[.int .i64 x.dest] 84))
  obtain ⟨hm, ht, -⟩ := wf
  have hmi : (x.name.size : Int) ≤ 9223372036854775807 := by unfold maxLen at hm; omega
  have hti : (x.text.size : Int) ≤ 9223372036854775807 := by unfold maxLen at ht; omega
  replace hm := Lib.hid hm
  replace ht := Lib.hid ht
  unfold kind7
  cases hd : rng x.dest 0 40 with
  | false =>
    have e2 := Lib.hid (show right7 x = false from by unfold right7; simp [hd])
    go_enter Try.func105, Try.ntmps105
    go_wp2_with (first | (go_at_call 99; refine (stmtPlace_any x.dest _).mono ?_; rintro e w1 ⟨rfl, rfl⟩; rw [hd]))
    go_ret
    exact ⟨by rw [e2.out]; (first | rfl | exact ret_bool (by simp; omega)), hb.out⟩
  | true =>
    have e2 := Lib.hid (show right7 x = true from by unfold right7; simp [hd])
    go_enter Try.func105, Try.ntmps105
    go_wp2_with (first | (go_at_call 99; refine (stmtPlace_any x.dest _).mono ?_; rintro e w1 ⟨rfl, rfl⟩; rw [hd]))
    go_ret
    exact ⟨by rw [e2.out]; (first | rfl | exact ret_bool (by simp; omega)), hb.out⟩
def right8 (x : Stm) : Bool := (rng x.num 0 99)
set_option maxHeartbeats 4000000 in
theorem right8_any (x : Stm) (A : Option Addr) (n cap : Nat) (w : World) (wf : StmWf x) (hv : Prts w (.slice A n cap) x.parts) : Calls Try.prog 107 #[kind8 x (.slice A n cap)] w (Gives (.bool (right8 x)) w) := by
  have hb := Lib.hid ((Below.refl w.heap.size w).alloc (Nat.le_refl _) (.cells #[.int .i64 x.num] 86))
  have hk := Lib.hid (show Blk (w.alloc (.cells #[.int .i64 x.num] 86)) w.heap.size 86 [.int .i64 x.num] from heap_alloc_new w _)
  replace hv := Lib.hid (hv.alloc (.cells #[.int .i64 x.num] 86))
  obtain ⟨hm, ht, -⟩ := wf
  have hmi : (x.name.size : Int) ≤ 9223372036854775807 := by unfold maxLen at hm; omega
  have hti : (x.text.size : Int) ≤ 9223372036854775807 := by unfold maxLen at ht; omega
  replace hm := Lib.hid hm
  replace ht := Lib.hid ht
  unfold kind8
  by_cases h0 : 0 ≤ x.num
  · by_cases h9 : x.num ≤ 99
    · have e2 := Lib.hid (show right8 x = true from by unfold right8 rng; exact decide_eq_true ⟨h0, h9⟩)
      go_enter Try.func107, Try.ntmps107
      go_wp2
      go_ret
      exact ⟨by rw [e2.out]; (first | rfl | exact ret_bool (by simp; omega)), hb.out⟩
    · have e2 := Lib.hid (show right8 x = false from by unfold right8 rng; exact decide_eq_false (by omega))
      go_enter Try.func107, Try.ntmps107
      go_wp2
      go_ret
      exact ⟨by rw [e2.out]; (first | rfl | exact ret_bool (by simp; omega)), hb.out⟩
  · have e2 := Lib.hid (show right8 x = false from by unfold right8 rng; exact decide_eq_false (by omega))
    go_enter Try.func107, Try.ntmps107
    go_wp2
    go_ret
    exact ⟨by rw [e2.out]; (first | rfl | exact ret_bool (by simp; omega)), hb.out⟩
end Go.Proofs.Ytejmfpaegkgkjaa
