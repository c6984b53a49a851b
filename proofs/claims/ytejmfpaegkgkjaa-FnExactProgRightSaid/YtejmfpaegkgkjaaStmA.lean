/- PartRight of the program and of the model. -/
import Derived.Test.YtejmfpaegkgkjaaStmP
import Derived.Test.YtejmfpaegkgkjaaVaultT
namespace Go.Proofs.Ytejmfpaegkgkjaa
open Go.RowKit

def prtA (p : Prt) : Value := .agg #[.int .i64 p.kind, .string p.text, .int .i64 p.lo, .int .i64 p.hi]
theorem isB_t {n lo hi : Int} (h : isB n lo hi = true) : lo ≤ n ∧ n ≤ hi := of_decide_eq_true h
theorem isB_f {n lo hi : Int} (h : isB n lo hi = false) : ¬ (lo ≤ n ∧ n ≤ hi) := of_decide_eq_false h
def prtV (p : Prt) : List Value := [.int .i64 p.kind, .string p.text, .int .i64 p.lo, .int .i64 p.hi]
theorem prt_box {w : World} (p : Prt) (t : TypeId) : Blk (w.alloc (.cells #[.int .i64 p.kind, .string p.text, .int .i64 p.lo, .int .i64 p.hi] t)) w.heap.size t (prtV p) := heap_alloc_new w _
set_option maxHeartbeats 4000000 in
theorem implPart_any (p : Prt) (ht : p.text.size ≤ maxLen) (w : World) :
    Calls Try.prog 11 #[prtA p] w (Gives (.bool (partOk p)) w) := by
  have hb := Lib.hid ((Below.refl w.heap.size w).alloc (Nat.le_refl _) (.cells #[.int .i64 p.kind, .string p.text, .int .i64 p.lo, .int .i64 p.hi] 26))
  have hk := Lib.hid (prt_box (w := w) p 26)
  have ht' := Lib.hid ht
  have hm : (p.text.size : Int) ≤ 9223372036854775807 := by unfold maxLen at ht; omega
  clear ht
  unfold prtA
  by_cases hkd : p.kind = 1
  · have k1 : (p.kind == 1) = true := by simpa using hkd
    by_cases hs : p.text.size ≤ 30
    · have hs' : (p.text.size : Int) ≤ 30 := by omega
      cases hp : plainB 32 p.text.data.toList with
      | false =>
        have e2 := Lib.hid (show partOk p = false by unfold partOk; simp [hkd, hs, hp])
        clear hkd 
        go_enter Try.func11, Try.ntmps11
        go_wp2_with (first | (go_at_call 30; refine (implPlain_any p.text 32 ht'.out _).mono ?_; rintro e w1 ⟨rfl, rfl⟩; rw [hp]))
        go_ret
        exact ⟨by rw [e2.out]; (first | rfl | exact ret_bool (by simp; omega)), hb.out⟩
      | true =>
        by_cases hl : p.lo = 0
        · have hl' : (p.lo == 0) = true := by simpa using hl
          by_cases hh : p.hi = 0
          · have hh' : (p.hi == 0) = true := by simpa using hh
            have e2 := Lib.hid (show partOk p = true by unfold partOk; simp [hkd, hs, hp, hl, hh])
            clear hkd hl hh
            go_enter Try.func11, Try.ntmps11
            go_wp2_with (first | (go_at_call 30; refine (implPlain_any p.text 32 ht'.out _).mono ?_; rintro e w1 ⟨rfl, rfl⟩; rw [hp]))
            go_ret
            exact ⟨by rw [e2.out]; (first | rfl | exact ret_bool (by simp; omega)), hb.out⟩
          · have hh' : (p.hi == 0) = false := by simpa using hh
            have e2 := Lib.hid (show partOk p = false by unfold partOk; simp [hkd, hs, hp, hl, hh])
            clear hkd hl
            go_enter Try.func11, Try.ntmps11
            go_wp2_with (first | (go_at_call 30; refine (implPlain_any p.text 32 ht'.out _).mono ?_; rintro e w1 ⟨rfl, rfl⟩; rw [hp]))
            go_ret
            exact ⟨by rw [e2.out]; (first | rfl | exact ret_bool (by simp; omega)), hb.out⟩
        · have hl' : (p.lo == 0) = false := by simpa using hl
          have e2 := Lib.hid (show partOk p = false by unfold partOk; simp [hkd, hs, hp, hl])
          clear hkd 
          go_enter Try.func11, Try.ntmps11
          go_wp2_with (first | (go_at_call 30; refine (implPlain_any p.text 32 ht'.out _).mono ?_; rintro e w1 ⟨rfl, rfl⟩; rw [hp]))
          go_ret
          exact ⟨by rw [e2.out]; (first | rfl | exact ret_bool (by simp; omega)), hb.out⟩
    · have hs' : ¬ (p.text.size : Int) ≤ 30 := by omega
      have e2 := Lib.hid (show partOk p = false by unfold partOk; simp [hkd, hs])
      clear hkd 
      go_enter Try.func11, Try.ntmps11
      go_wp2
      go_ret
      exact ⟨by rw [e2.out]; (first | rfl | exact ret_bool (by simp; omega)), hb.out⟩
  · have hk1 := hkd; clear hkd
    by_cases hkd : p.kind = 2
    · have k1 : (p.kind == 1) = false := by simp; omega
      have k2 : (p.kind == 2) = true := by simpa using hkd
      cases hw : wordB p.text.data.toList with
      | false =>
        have e2 := Lib.hid (show partOk p = false by unfold partOk; simp [hkd, hw])
        clear hkd 
        go_enter Try.func11, Try.ntmps11
        go_wp2_with (first | (go_at_call 31; refine (implWord_any p.text ht'.out _).mono ?_; rintro e w1 ⟨rfl, hb1⟩; rw [hw]; obtain ⟨d0, d1, d2, d3⟩ := (hk.out.up hb1).four; replace hb := Lib.hid (Below.then_ hb.out hb1 (Nat.le_refl _)); clear hb1))
        go_ret
        exact ⟨by rw [e2.out]; (first | rfl | exact ret_bool (by simp; omega)), hb.out⟩
      | true =>
        by_cases hl : p.lo = 0
        · have hl' : (p.lo == 0) = true := by simpa using hl
          by_cases hh : p.hi = 0
          · have hh' : (p.hi == 0) = true := by simpa using hh
            have e2 := Lib.hid (show partOk p = true by unfold partOk; simp [hkd, hw, hl, hh])
            clear hkd hl hh
            go_enter Try.func11, Try.ntmps11
            go_wp2_with (first | (go_at_call 31; refine (implWord_any p.text ht'.out _).mono ?_; rintro e w1 ⟨rfl, hb1⟩; rw [hw]; obtain ⟨d0, d1, d2, d3⟩ := (hk.out.up hb1).four; replace hb := Lib.hid (Below.then_ hb.out hb1 (Nat.le_refl _)); clear hb1))
            go_ret
            exact ⟨by rw [e2.out]; (first | rfl | exact ret_bool (by simp; omega)), hb.out⟩
          · have hh' : (p.hi == 0) = false := by simpa using hh
            have e2 := Lib.hid (show partOk p = false by unfold partOk; simp [hkd, hw, hl, hh])
            clear hkd hl
            go_enter Try.func11, Try.ntmps11
            go_wp2_with (first | (go_at_call 31; refine (implWord_any p.text ht'.out _).mono ?_; rintro e w1 ⟨rfl, hb1⟩; rw [hw]; obtain ⟨d0, d1, d2, d3⟩ := (hk.out.up hb1).four; replace hb := Lib.hid (Below.then_ hb.out hb1 (Nat.le_refl _)); clear hb1))
            go_ret
            exact ⟨by rw [e2.out]; (first | rfl | exact ret_bool (by simp; omega)), hb.out⟩
        · have hl' : (p.lo == 0) = false := by simpa using hl
          have e2 := Lib.hid (show partOk p = false by unfold partOk; simp [hkd, hw, hl])
          clear hkd 
          go_enter Try.func11, Try.ntmps11
          go_wp2_with (first | (go_at_call 31; refine (implWord_any p.text ht'.out _).mono ?_; rintro e w1 ⟨rfl, hb1⟩; rw [hw]; obtain ⟨d0, d1, d2, d3⟩ := (hk.out.up hb1).four; replace hb := Lib.hid (Below.then_ hb.out hb1 (Nat.le_refl _)); clear hb1))
          go_ret
          exact ⟨by rw [e2.out]; (first | rfl | exact ret_bool (by simp; omega)), hb.out⟩
    · have hk2 := hkd; clear hkd
      by_cases hkd : p.kind = 3
      · have k1 : (p.kind == 1) = false := by simp; omega
        have k2 : (p.kind == 2) = false := by simp; omega
        have k3 : (p.kind == 3) = true := by simpa using hkd
        cases hw : wordB p.text.data.toList with
        | false =>
          have e2 := Lib.hid (show partOk p = false by unfold partOk; simp [hkd, hw])
          clear hkd 
          go_enter Try.func11, Try.ntmps11
          go_wp2_with (first | (go_at_call 31; refine (implWord_any p.text ht'.out _).mono ?_; rintro e w1 ⟨rfl, hb1⟩; rw [hw]; obtain ⟨d0, d1, d2, d3⟩ := (hk.out.up hb1).four; replace hb := Lib.hid (Below.then_ hb.out hb1 (Nat.le_refl _)); clear hb1))
          go_ret
          exact ⟨by rw [e2.out]; (first | rfl | exact ret_bool (by simp; omega)), hb.out⟩
        | true =>
          by_cases hl : 0 ≤ p.lo
          · by_cases hh : p.lo ≤ p.hi
            · by_cases hm2 : p.hi ≤ 200
              · have e2 := Lib.hid (show partOk p = true by unfold partOk; simp [hkd, hw, hl, hh, hm2])
                clear hkd 
                go_enter Try.func11, Try.ntmps11
                go_wp2_with (first | (go_at_call 31; refine (implWord_any p.text ht'.out _).mono ?_; rintro e w1 ⟨rfl, hb1⟩; rw [hw]; obtain ⟨d0, d1, d2, d3⟩ := (hk.out.up hb1).four; replace hb := Lib.hid (Below.then_ hb.out hb1 (Nat.le_refl _)); clear hb1))
                go_ret
                exact ⟨by rw [e2.out]; (first | rfl | exact ret_bool (by simp; omega)), hb.out⟩
              · have e2 := Lib.hid (show partOk p = false by unfold partOk; simp [hkd, hw, hl, hh, hm2])
                clear hkd 
                go_enter Try.func11, Try.ntmps11
                go_wp2_with (first | (go_at_call 31; refine (implWord_any p.text ht'.out _).mono ?_; rintro e w1 ⟨rfl, hb1⟩; rw [hw]; obtain ⟨d0, d1, d2, d3⟩ := (hk.out.up hb1).four; replace hb := Lib.hid (Below.then_ hb.out hb1 (Nat.le_refl _)); clear hb1))
                go_ret
                exact ⟨by rw [e2.out]; (first | rfl | exact ret_bool (by simp; omega)), hb.out⟩
            · have e2 := Lib.hid (show partOk p = false by unfold partOk; simp [hkd, hw, hl, hh])
              clear hkd 
              go_enter Try.func11, Try.ntmps11
              go_wp2_with (first | (go_at_call 31; refine (implWord_any p.text ht'.out _).mono ?_; rintro e w1 ⟨rfl, hb1⟩; rw [hw]; obtain ⟨d0, d1, d2, d3⟩ := (hk.out.up hb1).four; replace hb := Lib.hid (Below.then_ hb.out hb1 (Nat.le_refl _)); clear hb1))
              go_ret
              exact ⟨by rw [e2.out]; (first | rfl | exact ret_bool (by simp; omega)), hb.out⟩
          · have e2 := Lib.hid (show partOk p = false by unfold partOk; simp [hkd, hw, hl])
            clear hkd 
            go_enter Try.func11, Try.ntmps11
            go_wp2_with (first | (go_at_call 31; refine (implWord_any p.text ht'.out _).mono ?_; rintro e w1 ⟨rfl, hb1⟩; rw [hw]; obtain ⟨d0, d1, d2, d3⟩ := (hk.out.up hb1).four; replace hb := Lib.hid (Below.then_ hb.out hb1 (Nat.le_refl _)); clear hb1))
            go_ret
            exact ⟨by rw [e2.out]; (first | rfl | exact ret_bool (by simp; omega)), hb.out⟩
      · have k1 : (p.kind == 1) = false := by simp; omega
        have k2 : (p.kind == 2) = false := by simp; omega
        have k3 : (p.kind == 3) = false := by simp; omega
        have e2 := Lib.hid (show partOk p = false by unfold partOk; simp [hk1, hk2, hkd])
        go_enter Try.func11, Try.ntmps11
        go_wp2
        go_ret
        exact ⟨by rw [e2.out]; rfl, hb.out⟩
set_option maxHeartbeats 4000000 in
theorem specPart_any (p : Prt) (ht : p.text.size ≤ maxLen) (w : World) :
    Calls Try.prog 9 #[prtA p] w (Gives (.bool (partOk p)) w) := by
  have hb := Lib.hid ((Below.refl w.heap.size w).alloc (Nat.le_refl _) (.cells #[.int .i64 p.kind, .string p.text, .int .i64 p.lo, .int .i64 p.hi] 26))
  have hk := Lib.hid (prt_box (w := w) p 26)
  have ht' := Lib.hid ht
  have hm : (p.text.size : Int) ≤ 9223372036854775807 := by unfold maxLen at ht; omega
  clear ht
  unfold prtA
  by_cases hkd : p.kind = 1
  · have k1 : (p.kind == 1) = true := by simpa using hkd
    cases hp : rangeB 32 p.text.data.toList with
    | false =>
      have e2 := Lib.hid (show partOk p = false by unfold partOk; simp [hkd, hp, plain_split])
      clear hkd 
      go_enter Try.func9, Try.ntmps9
      go_wp2_with (first | (go_at_call 26; refine (specPlain_any p.text 32 30 ht'.out _).mono ?_; rintro e w1 ⟨rfl, rfl⟩; rw [hp]))
      go_ret
      exact ⟨by rw [e2.out]; (first | rfl | exact ret_bool (by simp; omega)), hb.out⟩
    | true =>
      by_cases hs : p.text.size ≤ 30
      · have hs' : (p.text.size : Int) ≤ 30 := by omega
        cases hq : hasB 34 p.text.data.toList with
        | true =>
          have e2 := Lib.hid (show partOk p = false by unfold partOk; simp [hkd, hp, hs, hq, plain_split])
          clear hkd 
          go_enter Try.func9, Try.ntmps9
          go_wp2_with (first | (go_at_call 27; refine (specHas_any p.text 34 ht'.out _).mono ?_; rintro e w1 ⟨rfl, rfl⟩; rw [hq]) | (go_at_call 26; refine (specPlain_any p.text 32 30 ht'.out _).mono ?_; rintro e w1 ⟨rfl, rfl⟩; rw [hp]))
          go_ret
          exact ⟨by rw [e2.out]; (first | rfl | exact ret_bool (by simp; omega)), hb.out⟩
        | false =>
          by_cases hl : p.lo = 0
          · have hl' : (p.lo == 0) = true := by simpa using hl
            by_cases hh : p.hi = 0
            · have hh' : (p.hi == 0) = true := by simpa using hh
              have e2 := Lib.hid (show partOk p = true by unfold partOk; simp [hkd, hp, hs, hq, hl, hh, plain_split])
              clear hkd hl hh
              go_enter Try.func9, Try.ntmps9
              go_wp2_with (first | (go_at_call 27; refine (specHas_any p.text 34 ht'.out _).mono ?_; rintro e w1 ⟨rfl, rfl⟩; rw [hq]) | (go_at_call 26; refine (specPlain_any p.text 32 30 ht'.out _).mono ?_; rintro e w1 ⟨rfl, rfl⟩; rw [hp]))
              go_ret
              exact ⟨by rw [e2.out]; (first | rfl | exact ret_bool (by simp; omega)), hb.out⟩
            · have hh' : (p.hi == 0) = false := by simpa using hh
              have e2 := Lib.hid (show partOk p = false by unfold partOk; simp [hkd, hp, hs, hq, hl, hh, plain_split])
              clear hkd hl
              go_enter Try.func9, Try.ntmps9
              go_wp2_with (first | (go_at_call 27; refine (specHas_any p.text 34 ht'.out _).mono ?_; rintro e w1 ⟨rfl, rfl⟩; rw [hq]) | (go_at_call 26; refine (specPlain_any p.text 32 30 ht'.out _).mono ?_; rintro e w1 ⟨rfl, rfl⟩; rw [hp]))
              go_ret
              exact ⟨by rw [e2.out]; (first | rfl | exact ret_bool (by simp; omega)), hb.out⟩
          · have hl' : (p.lo == 0) = false := by simpa using hl
            have e2 := Lib.hid (show partOk p = false by unfold partOk; simp [hkd, hp, hs, hq, hl, plain_split])
            clear hkd 
            go_enter Try.func9, Try.ntmps9
            go_wp2_with (first | (go_at_call 27; refine (specHas_any p.text 34 ht'.out _).mono ?_; rintro e w1 ⟨rfl, rfl⟩; rw [hq]) | (go_at_call 26; refine (specPlain_any p.text 32 30 ht'.out _).mono ?_; rintro e w1 ⟨rfl, rfl⟩; rw [hp]))
            go_ret
            exact ⟨by rw [e2.out]; (first | rfl | exact ret_bool (by simp; omega)), hb.out⟩
      · have hs' : ¬ (p.text.size : Int) ≤ 30 := by omega
        have e2 := Lib.hid (show partOk p = false by unfold partOk; simp [hkd, hp, hs, plain_split])
        clear hkd 
        go_enter Try.func9, Try.ntmps9
        go_wp2_with (first | (go_at_call 26; refine (specPlain_any p.text 32 30 ht'.out _).mono ?_; rintro e w1 ⟨rfl, rfl⟩; rw [hp]))
        go_ret
        exact ⟨by rw [e2.out]; (first | rfl | exact ret_bool (by simp; omega)), hb.out⟩
  · have hk1 := hkd; clear hkd
    by_cases hkd : p.kind = 2
    · have k1 : (p.kind == 1) = false := by simp; omega
      have k2 : (p.kind == 2) = true := by simpa using hkd
      cases hw : wordB p.text.data.toList with
      | false =>
        have e2 := Lib.hid (show partOk p = false by unfold partOk; simp [hkd, hw])
        clear hkd 
        go_enter Try.func9, Try.ntmps9
        go_wp2_with (first | (go_at_call 28; refine (specWord_any p.text ht'.out _).mono ?_; rintro e w1 ⟨rfl, rfl⟩; rw [hw]))
        go_ret
        exact ⟨by rw [e2.out]; (first | rfl | exact ret_bool (by simp; omega)), hb.out⟩
      | true =>
        by_cases hl : p.lo = 0
        · have hl' : (p.lo == 0) = true := by simpa using hl
          by_cases hh : p.hi = 0
          · have hh' : (p.hi == 0) = true := by simpa using hh
            have e2 := Lib.hid (show partOk p = true by unfold partOk; simp [hkd, hw, hl, hh])
            clear hkd hl hh
            go_enter Try.func9, Try.ntmps9
            go_wp2_with (first | (go_at_call 28; refine (specWord_any p.text ht'.out _).mono ?_; rintro e w1 ⟨rfl, rfl⟩; rw [hw]))
            go_ret
            exact ⟨by rw [e2.out]; (first | rfl | exact ret_bool (by simp; omega)), hb.out⟩
          · have hh' : (p.hi == 0) = false := by simpa using hh
            have e2 := Lib.hid (show partOk p = false by unfold partOk; simp [hkd, hw, hl, hh])
            clear hkd hl
            go_enter Try.func9, Try.ntmps9
            go_wp2_with (first | (go_at_call 28; refine (specWord_any p.text ht'.out _).mono ?_; rintro e w1 ⟨rfl, rfl⟩; rw [hw]))
            go_ret
            exact ⟨by rw [e2.out]; (first | rfl | exact ret_bool (by simp; omega)), hb.out⟩
        · have hl' : (p.lo == 0) = false := by simpa using hl
          have e2 := Lib.hid (show partOk p = false by unfold partOk; simp [hkd, hw, hl])
          clear hkd 
          go_enter Try.func9, Try.ntmps9
          go_wp2_with (first | (go_at_call 28; refine (specWord_any p.text ht'.out _).mono ?_; rintro e w1 ⟨rfl, rfl⟩; rw [hw]))
          go_ret
          exact ⟨by rw [e2.out]; (first | rfl | exact ret_bool (by simp; omega)), hb.out⟩
    · have hk2 := hkd; clear hkd
      by_cases hkd : p.kind = 3
      · have k1 : (p.kind == 1) = false := by simp; omega
        have k2 : (p.kind == 2) = false := by simp; omega
        have k3 : (p.kind == 3) = true := by simpa using hkd
        cases hw : wordB p.text.data.toList with
        | false =>
          have e2 := Lib.hid (show partOk p = false by unfold partOk; simp [hkd, hw])
          clear hkd 
          go_enter Try.func9, Try.ntmps9
          go_wp2_with (first | (go_at_call 28; refine (specWord_any p.text ht'.out _).mono ?_; rintro e w1 ⟨rfl, rfl⟩; rw [hw]))
          go_ret
          exact ⟨by rw [e2.out]; (first | rfl | exact ret_bool (by simp; omega)), hb.out⟩
        | true =>
          cases hl : isB p.lo 0 200 with
          | false =>
            have e2 := Lib.hid (show partOk p = false by have hl0 := isB_f hl; unfold partOk; simp [hkd, hw]; omega)
            clear hkd 
            go_enter Try.func9, Try.ntmps9
            go_wp2_with (first | (go_at_call_of 29 (Value.int .i64 p.lo); refine (is_any p.lo 0 200 _).mono ?_; rintro e w1 ⟨rfl, rfl⟩; rw [hl]) | (go_at_call 28; refine (specWord_any p.text ht'.out _).mono ?_; rintro e w1 ⟨rfl, rfl⟩; rw [hw]))
            go_ret
            exact ⟨by rw [e2.out]; (first | rfl | exact ret_bool (by simp; omega)), hb.out⟩
          | true =>
            cases hh : isB p.hi p.lo 200 with
            | false =>
              have e2 := Lib.hid (show partOk p = false by have hl0 := isB_t hl; have hh0 := isB_f hh; unfold partOk; simp [hkd, hw]; omega)
              clear hkd 
              go_enter Try.func9, Try.ntmps9
              go_wp2_with (first | (go_at_call_of 29 (Value.int .i64 p.hi); refine (is_any p.hi p.lo 200 _).mono ?_; rintro e w1 ⟨rfl, rfl⟩; rw [hh]) | (go_at_call_of 29 (Value.int .i64 p.lo); refine (is_any p.lo 0 200 _).mono ?_; rintro e w1 ⟨rfl, rfl⟩; rw [hl]) | (go_at_call 28; refine (specWord_any p.text ht'.out _).mono ?_; rintro e w1 ⟨rfl, rfl⟩; rw [hw]))
              go_ret
              exact ⟨by rw [e2.out]; (first | rfl | exact ret_bool (by simp; omega)), hb.out⟩
            | true =>
              have e2 := Lib.hid (show partOk p = true by have hl0 := isB_t hl; have hh0 := isB_t hh; unfold partOk; simp [hkd, hw]; omega)
              clear hkd 
              go_enter Try.func9, Try.ntmps9
              go_wp2_with (first | (go_at_call_of 29 (Value.int .i64 p.hi); refine (is_any p.hi p.lo 200 _).mono ?_; rintro e w1 ⟨rfl, rfl⟩; rw [hh]) | (go_at_call_of 29 (Value.int .i64 p.lo); refine (is_any p.lo 0 200 _).mono ?_; rintro e w1 ⟨rfl, rfl⟩; rw [hl]) | (go_at_call 28; refine (specWord_any p.text ht'.out _).mono ?_; rintro e w1 ⟨rfl, rfl⟩; rw [hw]))
              go_ret
              exact ⟨by rw [e2.out]; (first | rfl | exact ret_bool (by simp; omega)), hb.out⟩
      · have k1 : (p.kind == 1) = false := by simp; omega
        have k2 : (p.kind == 2) = false := by simp; omega
        have k3 : (p.kind == 3) = false := by simp; omega
        have e2 := Lib.hid (show partOk p = false by unfold partOk; simp [hk1, hk2, hkd])
        go_enter Try.func9, Try.ntmps9
        go_wp2
        go_ret
        exact ⟨by rw [e2.out]; rfl, hb.out⟩
end Go.Proofs.Ytejmfpaegkgkjaa
