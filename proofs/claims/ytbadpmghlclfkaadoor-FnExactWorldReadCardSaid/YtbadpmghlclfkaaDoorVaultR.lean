/- VaultRight of the program and of the model. -/
import Derived.Test.YtbadpmghlclfkaaDoorVaultT
import Derived.Test.YtbadpmghlclfkaaDoorGlobP
import Derived.Test.YtbadpmghlclfkaaDoorIs
namespace Go.Proofs.YtbadpmghlclfkaaDoor
open Go.RowKit

theorem seatPlace_any (n : Int) (w : World) :
    Calls Tryd.prog 54 #[.int .i64 n] w fun e w' => e = .returned (.bool (isB n 0 2)) ∧ w = w' := by
  by_cases h0 : 0 ≤ n
  · by_cases h2 : n < 3
    · have e := Lib.hid (isB_yes (lo := 0) (hi := 2) h0 (show n ≤ 2 by omega))
      go_enter Tryd.func54, Tryd.ntmps54
      go_wp2
      go_ret
      exact ⟨ret_bool e.out.symm, rfl⟩
    · have e := Lib.hid (isB_no (n := n) (lo := 0) (hi := 2) (by omega))
      go_enter Tryd.func54, Tryd.ntmps54
      go_wp2
      go_ret
      exact ⟨ret_bool e.out.symm, rfl⟩
  · have e := Lib.hid (isB_no (n := n) (lo := 0) (hi := 2) (by omega))
    go_enter Tryd.func54, Tryd.ntmps54
    go_wp2
    go_ret
    exact ⟨ret_bool e.out.symm, rfl⟩
theorem secOk_eq (x : Sec) : secOk x = (wordB x.name.data.toList && (isB x.seat 0 2 && (wordB x.word.data.toList && globOk x.prompt.data.toList))) := by
  unfold secOk isB
  simp only [Bool.decide_and, Bool.and_assoc]
/-- What is known, by and by, of a box of four cells. -/
theorem box4 {w : World} (x : Sec) (t : TypeId) : Blk (w.alloc (.cells #[.string x.name, .int .i64 x.seat, .string x.word, .string x.prompt] t)) w.heap.size t (secV x) := heap_alloc_new w _
set_option maxHeartbeats 1000000 in
theorem secretRight_any (x : Sec) (hx : SecWf x) (w : World) :
    Calls Tryd.prog 98 #[secA x] w (Gives (.bool (secOk x)) w) := by
  have hb := Lib.hid ((Below.refl w.heap.size w).alloc (Nat.le_refl _) (.cells #[.string x.name, .int .i64 x.seat, .string x.word, .string x.prompt] 100))
  have hk := Lib.hid (box4 (w := w) x 100)
  obtain ⟨n1, n2, n3, -⟩ := hx
  have e := Lib.hid (secOk_eq x)
  unfold secA
  cases c1 : wordB x.name.data.toList with
  | false =>
    have e2 := Lib.hid (show secOk x = false by rw [e.out, c1]; rfl)
    go_enter Tryd.func98, Tryd.ntmps98
    go_wp2_with (go_at_call_of 114 (Value.string x.name); refine (implWord_any x.name n1 _).mono ?_; rintro e w1 ⟨rfl, hb1⟩; rw [c1]; obtain ⟨d0, d1, d2, d3⟩ := (hk.out.up hb1).four; replace hb := Lib.hid (Below.then_ hb.out hb1 (Nat.le_refl _)); clear hb1)
    go_ret
    exact ⟨by rw [e2.out]; rfl, hb.out⟩
  | true =>
    cases c2 : isB x.seat 0 2 with
    | false =>
      have e2 := Lib.hid (show secOk x = false by rw [e.out, c1, c2]; rfl)
      have hs := Lib.hid (fun w => seatPlace_any x.seat w)
      rw [c2] at hs
      clear c2
      go_enter Tryd.func98, Tryd.ntmps98
      go_wp2_with (first
        | (go_at_call_of 114 (Value.string x.name); refine (implWord_any x.name n1 _).mono ?_; rintro e w1 ⟨rfl, hb1⟩; rw [c1]; obtain ⟨d0, d1, d2, d3⟩ := (hk.out.up hb1).four; replace hb := Lib.hid (Below.then_ hb.out hb1 (Nat.le_refl _)); clear hb1)
        | (go_at_call 54; refine (hs.out _).mono ?_; rintro e w2 ⟨rfl, rfl⟩))
      go_ret
      exact ⟨by rw [e2.out]; rfl, hb.out⟩
    | true =>
      have hs := Lib.hid (fun w => seatPlace_any x.seat w)
      rw [c2] at hs
      cases c3 : wordB x.word.data.toList with
      | false =>
        have e2 := Lib.hid (show secOk x = false by rw [e.out, c1, c2, c3]; rfl)
        clear c2
        go_enter Tryd.func98, Tryd.ntmps98
        go_wp2_with (first
          | (go_at_call_of 114 (Value.string x.name); refine (implWord_any x.name n1 _).mono ?_; rintro e w1 ⟨rfl, hb1⟩; rw [c1]; replace hk := Lib.hid (hk.out.up hb1); obtain ⟨d0, d1, d2, d3⟩ := hk.out.four; replace hb := Lib.hid (Below.then_ hb.out hb1 (Nat.le_refl _)); clear hb1)
          | (go_at_call 54; refine (hs.out _).mono ?_; rintro e w2 ⟨rfl, rfl⟩))
        go_wp2_with (go_at_call_of 114 (Value.string x.word); refine (implWord_any x.word n2 _).mono ?_; rintro e w3 ⟨rfl, hb1⟩; rw [c3]; obtain ⟨b0, b1, b2, b3⟩ := (hk.out.up hb1).four; replace hb := Lib.hid (Below.then_ hb.out hb1 (Nat.le_refl _)); clear hb1 d0 d1 d2 d3)
        go_ret
        exact ⟨by rw [e2.out]; rfl, hb.out⟩
      | true =>
        have e2 := Lib.hid (show secOk x = globOk x.prompt.data.toList by rw [e.out, c1, c2, c3]; rfl)
        clear c2
        go_enter Tryd.func98, Tryd.ntmps98
        go_wp2_with (first
          | (go_at_call_of 114 (Value.string x.name); refine (implWord_any x.name n1 _).mono ?_; rintro e w1 ⟨rfl, hb1⟩; rw [c1]; replace hk := Lib.hid (hk.out.up hb1); obtain ⟨d0, d1, d2, d3⟩ := hk.out.four; replace hb := Lib.hid (Below.then_ hb.out hb1 (Nat.le_refl _)); clear hb1)
          | (go_at_call 54; refine (hs.out _).mono ?_; rintro e w2 ⟨rfl, rfl⟩))
        go_wp2_with (first
          | (go_at_call_of 114 (Value.string x.word); refine (implWord_any x.word n2 _).mono ?_; rintro e w3 ⟨rfl, hb1⟩; rw [c3]; obtain ⟨b0, b1, b2, b3⟩ := (hk.out.up hb1).four; replace hb := Lib.hid (Below.then_ hb.out hb1 (Nat.le_refl _)); clear hb1 d0 d1 d2 d3)
          | (go_at_call 115; refine (implRight_any x.prompt n3 _).mono ?_; rintro e w4 ⟨rfl, rfl⟩))
        go_ret
        exact ⟨by rw [e2.out]; rfl, hb.out⟩
end Go.Proofs.YtbadpmghlclfkaaDoor
