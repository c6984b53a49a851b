/- printable of the program; TickRight of the program and of the model. -/
import Derived.Test.YtbadpmghlclfkaaDoorTckM
import Derived.Test.YtbadpmghlclfkaaDoorStmP
import Derived.Test.YtbadpmghlclfkaaDoorVaultT
import Derived.Test.YtbadpmghlclfkaaDoorVaultR
namespace Go.Proofs.YtbadpmghlclfkaaDoor
open Go.RowKit

def tikA (x : Tik) : Value := .agg #[.int .i64 x.kind, .int .i64 x.seat, .string x.text]
def tikV (x : Tik) : List Value := [.int .i64 x.kind, .int .i64 x.seat, .string x.text]
theorem tik_box {w : World} (x : Tik) (t : TypeId) : Blk (w.alloc (.cells #[.int .i64 x.kind, .int .i64 x.seat, .string x.text] t)) w.heap.size t (tikV x) := heap_alloc_new w _
set_option maxHeartbeats 1000000 in
theorem printable_any (t : ByteArray) (ht : t.size ≤ maxLen) (w : World) :
    Calls Tryd.prog 55 #[.string t] w fun e w' => e = .returned (.bool (rangeB 32 t.data.toList)) ∧ w = w' := by
  have hlen := Lib.hid (str_len t)
  unfold maxLen at ht
  go_enter Tryd.func55, Tryd.ntmps55
  go_wp2
  go_loop [6] (fun i => ∃ k : Nat, k ≤ t.size ∧ i = .int .i64 (k : Int) ∧ Hid (∀ j (hj : j < k) (h : j < t.size), rangeC 32 t[j] = true)) (fun i => t.size - (intOf i).toNat)
  case atStart => exact ⟨0, by omega, rfl, Lib.hid (fun j hj => by omega)⟩
  case round =>
    obtain ⟨k, hk, rfl, hall⟩ := hrel
    by_cases hlt : k < t.size
    · have hlt' : (k : Int) < (t.size : Int) := by omega
      cases hl : rangeC 32 t[k] with
      | true =>
        have hb : 32 ≤ t[k].toNat ∧ t[k].toNat ≤ 126 := by simpa [rangeC] using hl
        have c1 : ¬ (t[k].toNat : Int) < 32 := by omega
        have c2 : ¬ (126 : Int) < (t[k].toNat : Int) := by omega
        have hall2 := Lib.hid (fun j (hj : j < k + 1) (h : j < t.size) => (show rangeC 32 t[j] = true from by
          by_cases e : j = k
          · subst e; exact hl
          · exact hall.out j (by omega) h))
        clear hb hl hall
        go_wp2
        go_round
        case rel => exact ⟨k + 1, by omega, by go_num, hall2⟩
        case measure => simp [intOf]; omega
      | false =>
        have hbad := Lib.hid (show rangeB 32 t.data.toList = false from all_bad (k := k) (by rw [hlen.out]; exact hlt) hl)
        rcases rangeC_no hl with c1 | ⟨c1, c2⟩
        · have c1' : (t[k].toNat : Int) < 32 := by omega
          clear hl hall
          go_wp2
          go_ret
          exact ⟨by rw [hbad.out]; rfl, rfl⟩
        · have c1' : ¬ (t[k].toNat : Int) < 32 := by omega
          have c2' : (126 : Int) < (t[k].toNat : Int) := by omega
          clear hl hall
          go_wp2
          go_ret
          exact ⟨by rw [hbad.out]; rfl, rfl⟩
    · have hlt' : ¬ (k : Int) < (t.size : Int) := by omega
      have hyes := Lib.hid (show rangeB 32 t.data.toList = true from all_yes fun j hj => hall.out j (by rw [hlen.out] at hj; omega) (by rw [hlen.out] at hj; omega))
      go_wp2
      go_ret
      exact ⟨by rw [hyes.out]; rfl, rfl⟩
set_option maxHeartbeats 8000000 in
theorem implTick_any (x : Tik) (ht : x.text.size ≤ maxLen) (w : World) :
    Calls Tryd.prog 15 #[tikA x] w (Gives (.bool (tikOk x)) w) := by
  obtain ⟨kd, st, tt⟩ := x
  have ht' := Lib.hid (show tt.size ≤ maxLen from ht)
  have hm : (tt.size : Int) ≤ 9223372036854775807 := by have := ht'.out; unfold maxLen at this; omega
  clear ht
  unfold tikA
  dsimp only
  by_cases hn1 : kd = 1
  · subst hn1
    have hb := Lib.hid ((Below.refl w.heap.size w).alloc (Nat.le_refl _) (.cells #[.int .i64 1, .int .i64 st, .string tt] 31))
    cases c2 : isB st 0 2 with
    | false =>
      have e2 := Lib.hid (show tikOk ⟨1, st, tt⟩ = false by rw [tikOk1, c2]; rfl)
      go_enter Tryd.func15, Tryd.ntmps15
      go_wp2_with (first | (go_at_call 54; refine (seatPlace_any st _).mono ?_; rintro e w1 ⟨rfl, rfl⟩; rw [c2]))
      go_ret
      exact ⟨by rw [e2.out]; (first | rfl | exact ret_bool (by simp; omega) | simp), hb.out⟩
    | true =>
      by_cases c3 : tt.size ≤ 60
      · have c3' : (tt.size : Int) ≤ 60 := by omega
        cases c4 : rangeB 32 tt.data.toList with
        | false =>
          have e2 := Lib.hid (show tikOk ⟨1, st, tt⟩ = false by rw [tikOk1, c2, c4, decide_eq_true c3]; rfl)
          clear c3
          go_enter Tryd.func15, Tryd.ntmps15
          go_wp2_with (first | (go_at_call 54; refine (seatPlace_any st _).mono ?_; rintro e w1 ⟨rfl, rfl⟩; rw [c2]) | (go_at_call 55; refine (printable_any tt ht'.out _).mono ?_; rintro e w1 ⟨rfl, rfl⟩; rw [c4]))
          go_ret
          exact ⟨by rw [e2.out]; (first | rfl | exact ret_bool (by simp; omega) | simp), hb.out⟩
        | true =>
          have e2 := Lib.hid (show tikOk ⟨1, st, tt⟩ = true by rw [tikOk1, c2, c4, decide_eq_true c3]; rfl)
          clear c3
          go_enter Tryd.func15, Tryd.ntmps15
          go_wp2_with (first | (go_at_call 54; refine (seatPlace_any st _).mono ?_; rintro e w1 ⟨rfl, rfl⟩; rw [c2]) | (go_at_call 55; refine (printable_any tt ht'.out _).mono ?_; rintro e w1 ⟨rfl, rfl⟩; rw [c4]))
          go_ret
          exact ⟨by rw [e2.out]; (first | rfl | exact ret_bool (by simp; omega) | simp), hb.out⟩
      · have c3' : ¬ (tt.size : Int) ≤ 60 := by omega
        have e2 := Lib.hid (show tikOk ⟨1, st, tt⟩ = false by rw [tikOk1, c2, decide_eq_false c3]; rfl)
        clear c3
        go_enter Tryd.func15, Tryd.ntmps15
        go_wp2_with (first | (go_at_call 54; refine (seatPlace_any st _).mono ?_; rintro e w1 ⟨rfl, rfl⟩; rw [c2]))
        go_ret
        exact ⟨by rw [e2.out]; (first | rfl | exact ret_bool (by simp; omega) | simp), hb.out⟩
  · have q1 : (kd == 1) = false := by simpa using hn1
    by_cases hn2 : kd = 2
    · subst hn2
      have hb := Lib.hid ((Below.refl w.heap.size w).alloc (Nat.le_refl _) (.cells #[.int .i64 2, .int .i64 st, .string tt] 31))
      cases c2 : isB st 0 2 with
      | false =>
        have e2 := Lib.hid (show tikOk ⟨2, st, tt⟩ = false by rw [tikOk2, c2]; rfl)
        go_enter Tryd.func15, Tryd.ntmps15
        go_wp2_with (first | (go_at_call 54; refine (seatPlace_any st _).mono ?_; rintro e w1 ⟨rfl, rfl⟩; rw [c2]))
        go_ret
        exact ⟨by rw [e2.out]; (first | rfl | exact ret_bool (by simp; omega) | simp), hb.out⟩
      | true =>
        by_cases c3 : tt = ByteArray.empty
        · have c3' : tt.toList = [] := by rw [c3]; simp
          have e2 := Lib.hid (show tikOk ⟨2, st, tt⟩ = true by rw [tikOk2, c2, emptyL_yes c3]; rfl)
          clear c3
          go_enter Tryd.func15, Tryd.ntmps15
          go_wp2_with (first | (go_at_call 54; refine (seatPlace_any st _).mono ?_; rintro e w1 ⟨rfl, rfl⟩; rw [c2]))
          go_ret
          exact ⟨by rw [e2.out]; (first | rfl | exact ret_bool (by simp; omega) | simp), hb.out⟩
        · have c3' : ¬ tt.toList = [] := list_ne c3
          have e2 := Lib.hid (show tikOk ⟨2, st, tt⟩ = false by rw [tikOk2, c2, emptyL_no c3]; rfl)
          clear c3
          go_enter Tryd.func15, Tryd.ntmps15
          go_wp2_with (first | (go_at_call 54; refine (seatPlace_any st _).mono ?_; rintro e w1 ⟨rfl, rfl⟩; rw [c2]))
          go_ret
          exact ⟨by rw [e2.out]; (first | rfl | exact ret_bool (by simp; omega) | simp), hb.out⟩
    · have q2 : (kd == 2) = false := by simpa using hn2
      by_cases hn3 : kd = 3
      · subst hn3
        have hb := Lib.hid ((Below.refl w.heap.size w).alloc (Nat.le_refl _) (.cells #[.int .i64 3, .int .i64 st, .string tt] 31))
        cases c2 : isB st 0 2 with
        | false =>
          have e2 := Lib.hid (show tikOk ⟨3, st, tt⟩ = false by rw [tikOk3, c2]; rfl)
          go_enter Tryd.func15, Tryd.ntmps15
          go_wp2_with (first | (go_at_call 54; refine (seatPlace_any st _).mono ?_; rintro e w1 ⟨rfl, rfl⟩; rw [c2]))
          go_ret
          exact ⟨by rw [e2.out]; (first | rfl | exact ret_bool (by simp; omega) | simp), hb.out⟩
        | true =>
          by_cases c3 : tt = ByteArray.empty
          · have c3' : tt.toList = [] := by rw [c3]; simp
            have e2 := Lib.hid (show tikOk ⟨3, st, tt⟩ = true by rw [tikOk3, c2, emptyL_yes c3]; rfl)
            clear c3
            go_enter Tryd.func15, Tryd.ntmps15
            go_wp2_with (first | (go_at_call 54; refine (seatPlace_any st _).mono ?_; rintro e w1 ⟨rfl, rfl⟩; rw [c2]))
            go_ret
            exact ⟨by rw [e2.out]; (first | rfl | exact ret_bool (by simp; omega) | simp), hb.out⟩
          · have c3' : ¬ tt.toList = [] := list_ne c3
            have e2 := Lib.hid (show tikOk ⟨3, st, tt⟩ = false by rw [tikOk3, c2, emptyL_no c3]; rfl)
            clear c3
            go_enter Tryd.func15, Tryd.ntmps15
            go_wp2_with (first | (go_at_call 54; refine (seatPlace_any st _).mono ?_; rintro e w1 ⟨rfl, rfl⟩; rw [c2]))
            go_ret
            exact ⟨by rw [e2.out]; (first | rfl | exact ret_bool (by simp; omega) | simp), hb.out⟩
      · have q3 : (kd == 3) = false := by simpa using hn3
        by_cases hn4 : kd = 4
        · subst hn4
          have hb := Lib.hid ((Below.refl w.heap.size w).alloc (Nat.le_refl _) (.cells #[.int .i64 4, .int .i64 st, .string tt] 31))
          cases c2 : isB st 0 2 with
          | false =>
            have e2 := Lib.hid (show tikOk ⟨4, st, tt⟩ = false by rw [tikOk4, c2]; rfl)
            go_enter Tryd.func15, Tryd.ntmps15
            go_wp2_with (first | (go_at_call 54; refine (seatPlace_any st _).mono ?_; rintro e w1 ⟨rfl, rfl⟩; rw [c2]))
            go_ret
            exact ⟨by rw [e2.out]; (first | rfl | exact ret_bool (by simp; omega) | simp), hb.out⟩
          | true =>
            by_cases c3 : tt = ByteArray.empty
            · have c3' : tt.toList = [] := by rw [c3]; simp
              have e2 := Lib.hid (show tikOk ⟨4, st, tt⟩ = true by rw [tikOk4, c2, emptyL_yes c3]; rfl)
              clear c3
              go_enter Tryd.func15, Tryd.ntmps15
              go_wp2_with (first | (go_at_call 54; refine (seatPlace_any st _).mono ?_; rintro e w1 ⟨rfl, rfl⟩; rw [c2]))
              go_ret
              exact ⟨by rw [e2.out]; (first | rfl | exact ret_bool (by simp; omega) | simp), hb.out⟩
            · have c3' : ¬ tt.toList = [] := list_ne c3
              have e2 := Lib.hid (show tikOk ⟨4, st, tt⟩ = false by rw [tikOk4, c2, emptyL_no c3]; rfl)
              clear c3
              go_enter Tryd.func15, Tryd.ntmps15
              go_wp2_with (first | (go_at_call 54; refine (seatPlace_any st _).mono ?_; rintro e w1 ⟨rfl, rfl⟩; rw [c2]))
              go_ret
              exact ⟨by rw [e2.out]; (first | rfl | exact ret_bool (by simp; omega) | simp), hb.out⟩
        · have q4 : (kd == 4) = false := by simpa using hn4
          by_cases hn5 : kd = 5
          · subst hn5
            have hb := Lib.hid ((Below.refl w.heap.size w).alloc (Nat.le_refl _) (.cells #[.int .i64 5, .int .i64 st, .string tt] 31))
            by_cases c2s : st = 0
            · have c2' : (st == 0) = true := by simpa using c2s
              by_cases c3 : tt = ByteArray.empty
              · have c3' : tt.toList = [] := by rw [c3]; simp
                have e2 := Lib.hid (show tikOk ⟨5, st, tt⟩ = true by rw [tikOk5, decide_eq_true c2s, emptyL_yes c3]; rfl)
                clear c3 c2s
                go_enter Tryd.func15, Tryd.ntmps15
                go_wp2
                go_ret
                exact ⟨by rw [e2.out]; (first | rfl | exact ret_bool (by simp; omega) | simp), hb.out⟩
              · have c3' : ¬ tt.toList = [] := list_ne c3
                have e2 := Lib.hid (show tikOk ⟨5, st, tt⟩ = false by rw [tikOk5, decide_eq_true c2s, emptyL_no c3]; rfl)
                clear c3 c2s
                go_enter Tryd.func15, Tryd.ntmps15
                go_wp2
                go_ret
                exact ⟨by rw [e2.out]; (first | rfl | exact ret_bool (by simp; omega) | simp), hb.out⟩
            · have c2' : (st == 0) = false := by simpa using c2s
              have e2 := Lib.hid (show tikOk ⟨5, st, tt⟩ = false by rw [tikOk5, decide_eq_false c2s]; rfl)
              clear c2s
              go_enter Tryd.func15, Tryd.ntmps15
              go_wp2
              go_ret
              exact ⟨by rw [e2.out]; (first | rfl | exact ret_bool (by simp; omega) | simp), hb.out⟩
          · have q5 : (kd == 5) = false := by simpa using hn5
            have hb := Lib.hid ((Below.refl w.heap.size w).alloc (Nat.le_refl _) (.cells #[.int .i64 kd, .int .i64 st, .string tt] 31))
            have e2 := Lib.hid (show tikOk ⟨kd, st, tt⟩ = false by exact tikOk0 hn1 hn2 hn3 hn4 hn5 st tt)
            clear hn1 hn2 hn3 hn4 hn5
            go_enter Tryd.func15, Tryd.ntmps15
            go_wp2
            go_ret
            exact ⟨by rw [e2.out]; (first | rfl | exact ret_bool (by simp; omega) | simp), hb.out⟩
set_option maxHeartbeats 8000000 in
theorem specTick_any (x : Tik) (ht : x.text.size ≤ maxLen) (w : World) :
    Calls Tryd.prog 16 #[tikA x] w (Gives (.bool (tikOk x)) w) := by
  obtain ⟨kd, st, tt⟩ := x
  have ht' := Lib.hid (show tt.size ≤ maxLen from ht)
  have hm : (tt.size : Int) ≤ 9223372036854775807 := by have := ht'.out; unfold maxLen at this; omega
  clear ht
  unfold tikA
  dsimp only
  by_cases hn1 : kd = 1
  · subst hn1
    have hb := Lib.hid ((Below.refl w.heap.size w).alloc (Nat.le_refl _) (.cells #[.int .i64 1, .int .i64 st, .string tt] 31))
    have hI := Lib.hid (fun w => is_any 1 1 5 w)
    have c6 : isB 1 1 5 = true := by decide
    cases c2 : isB st 0 2 with
    | false =>
      have e2 := Lib.hid (show tikOk ⟨1, st, tt⟩ = false by rw [tikOk1, c2]; rfl)
      go_enter Tryd.func16, Tryd.ntmps16
      go_wp2_with (first | (go_at_call 56; refine (there_any st _).mono ?_; rintro e w1 ⟨rfl, rfl⟩; rw [c2]))
      go_ret
      exact ⟨by rw [e2.out]; (first | rfl | exact ret_bool (by simp; omega) | simp), hb.out⟩
    | true =>
      have c5 : decide ((tt.size : Int) ≤ 60) = decide (tt.size ≤ 60) := by apply decide_eq_decide.2; omega
      cases c4 : rangeB 32 tt.data.toList with
      | false =>
        have e2 := Lib.hid (show tikOk ⟨1, st, tt⟩ = false by rw [tikOk1, c2, c4]; simp)
        clear c5
        go_enter Tryd.func16, Tryd.ntmps16
        go_wp2_with (first | (go_at_call 56; refine (there_any st _).mono ?_; rintro e w1 ⟨rfl, rfl⟩; rw [c2]) | (go_at_call 58; refine (specPlain_any tt 32 60 ht'.out _).mono ?_; rintro e w1 ⟨rfl, rfl⟩; rw [c4]) | (go_at_call 57; refine (hI.out _).mono ?_; rintro e w1 ⟨rfl, rfl⟩; rw [c6]))
        go_ret
        exact ⟨by rw [e2.out]; (first | rfl | exact ret_bool (by simp; omega) | simp), hb.out⟩
      | true =>
        have e2 := Lib.hid (show tikOk ⟨1, st, tt⟩ = decide ((tt.size : Int) ≤ 60) by rw [tikOk1, c2, c4, c5]; simp)
        clear c5
        go_enter Tryd.func16, Tryd.ntmps16
        go_wp2_with (first | (go_at_call 56; refine (there_any st _).mono ?_; rintro e w1 ⟨rfl, rfl⟩; rw [c2]) | (go_at_call 58; refine (specPlain_any tt 32 60 ht'.out _).mono ?_; rintro e w1 ⟨rfl, rfl⟩; rw [c4]) | (go_at_call 57; refine (hI.out _).mono ?_; rintro e w1 ⟨rfl, rfl⟩; rw [c6]))
        go_ret
        exact ⟨by rw [e2.out]; (first | rfl | exact ret_bool (by simp; omega) | simp), hb.out⟩
  · have q1 : (kd == 1) = false := by simpa using hn1
    by_cases hn2 : kd = 2
    · subst hn2
      have hb := Lib.hid ((Below.refl w.heap.size w).alloc (Nat.le_refl _) (.cells #[.int .i64 2, .int .i64 st, .string tt] 31))
      have hI := Lib.hid (fun w => is_any 2 1 5 w)
      have c6 : isB 2 1 5 = true := by decide
      cases c2 : isB st 0 2 with
      | false =>
        have e2 := Lib.hid (show tikOk ⟨2, st, tt⟩ = false by rw [tikOk2, c2]; rfl)
        go_enter Tryd.func16, Tryd.ntmps16
        go_wp2_with (first | (go_at_call 56; refine (there_any st _).mono ?_; rintro e w1 ⟨rfl, rfl⟩; rw [c2]))
        go_ret
        exact ⟨by rw [e2.out]; (first | rfl | exact ret_bool (by simp; omega) | simp), hb.out⟩
      | true =>
        by_cases c3 : tt = ByteArray.empty
        · have c3' : tt.toList = [] := by rw [c3]; simp
          have c4 : rangeB 32 tt.data.toList = true := by rw [c3]; rfl
          have c5 : decide ((tt.size : Int) ≤ 60) = true := by rw [c3]; rfl
          have e2 := Lib.hid (show tikOk ⟨2, st, tt⟩ = true by rw [tikOk2, c2, emptyL_yes c3]; rfl)
          clear c3
          go_enter Tryd.func16, Tryd.ntmps16
          go_wp2_with (first | (go_at_call 56; refine (there_any st _).mono ?_; rintro e w1 ⟨rfl, rfl⟩; rw [c2]) | (go_at_call 58; refine (specPlain_any tt 32 60 ht'.out _).mono ?_; rintro e w1 ⟨rfl, rfl⟩; rw [c4, c5]) | (go_at_call 57; refine (hI.out _).mono ?_; rintro e w1 ⟨rfl, rfl⟩; rw [c6]))
          go_ret
          exact ⟨by rw [e2.out]; (first | rfl | exact ret_bool (by simp; omega) | simp), hb.out⟩
        · have c3' : ¬ tt.toList = [] := list_ne c3
          have c3b : tt.toList.isEmpty = false := by simpa using c3'
          clear c3'
          have e2 := Lib.hid (show tikOk ⟨2, st, tt⟩ = false by rw [tikOk2, c2, emptyL_no c3]; rfl)
          clear c3
          go_enter Tryd.func16, Tryd.ntmps16
          go_wp2_with (first | (go_at_call 56; refine (there_any st _).mono ?_; rintro e w1 ⟨rfl, rfl⟩; rw [c2]))
          go_ret
          exact ⟨by rw [e2.out]; (first | rfl | exact ret_bool (by simp; omega) | simp), hb.out⟩
    · have q2 : (kd == 2) = false := by simpa using hn2
      by_cases hn3 : kd = 3
      · subst hn3
        have hb := Lib.hid ((Below.refl w.heap.size w).alloc (Nat.le_refl _) (.cells #[.int .i64 3, .int .i64 st, .string tt] 31))
        have hI := Lib.hid (fun w => is_any 3 1 5 w)
        have c6 : isB 3 1 5 = true := by decide
        cases c2 : isB st 0 2 with
        | false =>
          have e2 := Lib.hid (show tikOk ⟨3, st, tt⟩ = false by rw [tikOk3, c2]; rfl)
          go_enter Tryd.func16, Tryd.ntmps16
          go_wp2_with (first | (go_at_call 56; refine (there_any st _).mono ?_; rintro e w1 ⟨rfl, rfl⟩; rw [c2]))
          go_ret
          exact ⟨by rw [e2.out]; (first | rfl | exact ret_bool (by simp; omega) | simp), hb.out⟩
        | true =>
          by_cases c3 : tt = ByteArray.empty
          · have c3' : tt.toList = [] := by rw [c3]; simp
            have c4 : rangeB 32 tt.data.toList = true := by rw [c3]; rfl
            have c5 : decide ((tt.size : Int) ≤ 60) = true := by rw [c3]; rfl
            have e2 := Lib.hid (show tikOk ⟨3, st, tt⟩ = true by rw [tikOk3, c2, emptyL_yes c3]; rfl)
            clear c3
            go_enter Tryd.func16, Tryd.ntmps16
            go_wp2_with (first | (go_at_call 56; refine (there_any st _).mono ?_; rintro e w1 ⟨rfl, rfl⟩; rw [c2]) | (go_at_call 58; refine (specPlain_any tt 32 60 ht'.out _).mono ?_; rintro e w1 ⟨rfl, rfl⟩; rw [c4, c5]) | (go_at_call 57; refine (hI.out _).mono ?_; rintro e w1 ⟨rfl, rfl⟩; rw [c6]))
            go_ret
            exact ⟨by rw [e2.out]; (first | rfl | exact ret_bool (by simp; omega) | simp), hb.out⟩
          · have c3' : ¬ tt.toList = [] := list_ne c3
            have c3b : tt.toList.isEmpty = false := by simpa using c3'
            clear c3'
            have e2 := Lib.hid (show tikOk ⟨3, st, tt⟩ = false by rw [tikOk3, c2, emptyL_no c3]; rfl)
            clear c3
            go_enter Tryd.func16, Tryd.ntmps16
            go_wp2_with (first | (go_at_call 56; refine (there_any st _).mono ?_; rintro e w1 ⟨rfl, rfl⟩; rw [c2]))
            go_ret
            exact ⟨by rw [e2.out]; (first | rfl | exact ret_bool (by simp; omega) | simp), hb.out⟩
      · have q3 : (kd == 3) = false := by simpa using hn3
        by_cases hn4 : kd = 4
        · subst hn4
          have hb := Lib.hid ((Below.refl w.heap.size w).alloc (Nat.le_refl _) (.cells #[.int .i64 4, .int .i64 st, .string tt] 31))
          have hI := Lib.hid (fun w => is_any 4 1 5 w)
          have c6 : isB 4 1 5 = true := by decide
          cases c2 : isB st 0 2 with
          | false =>
            have e2 := Lib.hid (show tikOk ⟨4, st, tt⟩ = false by rw [tikOk4, c2]; rfl)
            go_enter Tryd.func16, Tryd.ntmps16
            go_wp2_with (first | (go_at_call 56; refine (there_any st _).mono ?_; rintro e w1 ⟨rfl, rfl⟩; rw [c2]))
            go_ret
            exact ⟨by rw [e2.out]; (first | rfl | exact ret_bool (by simp; omega) | simp), hb.out⟩
          | true =>
            by_cases c3 : tt = ByteArray.empty
            · have c3' : tt.toList = [] := by rw [c3]; simp
              have c4 : rangeB 32 tt.data.toList = true := by rw [c3]; rfl
              have c5 : decide ((tt.size : Int) ≤ 60) = true := by rw [c3]; rfl
              have e2 := Lib.hid (show tikOk ⟨4, st, tt⟩ = true by rw [tikOk4, c2, emptyL_yes c3]; rfl)
              clear c3
              go_enter Tryd.func16, Tryd.ntmps16
              go_wp2_with (first | (go_at_call 56; refine (there_any st _).mono ?_; rintro e w1 ⟨rfl, rfl⟩; rw [c2]) | (go_at_call 58; refine (specPlain_any tt 32 60 ht'.out _).mono ?_; rintro e w1 ⟨rfl, rfl⟩; rw [c4, c5]) | (go_at_call 57; refine (hI.out _).mono ?_; rintro e w1 ⟨rfl, rfl⟩; rw [c6]))
              go_ret
              exact ⟨by rw [e2.out]; (first | rfl | exact ret_bool (by simp; omega) | simp), hb.out⟩
            · have c3' : ¬ tt.toList = [] := list_ne c3
              have c3b : tt.toList.isEmpty = false := by simpa using c3'
              clear c3'
              have e2 := Lib.hid (show tikOk ⟨4, st, tt⟩ = false by rw [tikOk4, c2, emptyL_no c3]; rfl)
              clear c3
              go_enter Tryd.func16, Tryd.ntmps16
              go_wp2_with (first | (go_at_call 56; refine (there_any st _).mono ?_; rintro e w1 ⟨rfl, rfl⟩; rw [c2]))
              go_ret
              exact ⟨by rw [e2.out]; (first | rfl | exact ret_bool (by simp; omega) | simp), hb.out⟩
        · have q4 : (kd == 4) = false := by simpa using hn4
          by_cases hn5 : kd = 5
          · subst hn5
            have hb := Lib.hid ((Below.refl w.heap.size w).alloc (Nat.le_refl _) (.cells #[.int .i64 5, .int .i64 st, .string tt] 31))
            have hI := Lib.hid (fun w => is_any 5 1 5 w)
            have c6 : isB 5 1 5 = true := by decide
            by_cases c2s : st = 0
            · subst c2s
              have c2 : isB 0 0 2 = true := by decide
              have hS := Lib.hid (fun w => there_any 0 w)
              by_cases c3 : tt = ByteArray.empty
              · have c3' : tt.toList = [] := by rw [c3]; simp
                have c4 : rangeB 32 tt.data.toList = true := by rw [c3]; rfl
                have c5 : decide ((tt.size : Int) ≤ 60) = true := by rw [c3]; rfl
                have e2 := Lib.hid (show tikOk ⟨5, 0, tt⟩ = true by rw [tikOk5, emptyL_yes c3]; rfl)
                clear c3
                go_enter Tryd.func16, Tryd.ntmps16
                go_wp2_with (first | (go_at_call 56; refine (hS.out _).mono ?_; rintro e w1 ⟨rfl, rfl⟩; rw [c2]) | (go_at_call 58; refine (specPlain_any tt 32 60 ht'.out _).mono ?_; rintro e w1 ⟨rfl, rfl⟩; rw [c4, c5]) | (go_at_call 57; refine (hI.out _).mono ?_; rintro e w1 ⟨rfl, rfl⟩; rw [c6]))
                go_ret
                exact ⟨by rw [e2.out]; (first | rfl | exact ret_bool (by simp; omega) | simp), hb.out⟩
              · have c3' : ¬ tt.toList = [] := list_ne c3
                have c3b : tt.toList.isEmpty = false := by simpa using c3'
                clear c3'
                have e2 := Lib.hid (show tikOk ⟨5, 0, tt⟩ = false by rw [tikOk5, emptyL_no c3]; rfl)
                clear c3
                go_enter Tryd.func16, Tryd.ntmps16
                go_wp2_with (first | (go_at_call 56; refine (hS.out _).mono ?_; rintro e w1 ⟨rfl, rfl⟩; rw [c2]))
                go_ret
                exact ⟨by rw [e2.out]; (first | rfl | exact ret_bool (by simp; omega) | simp), hb.out⟩
            · have c2' : (st != 0) = true := by simpa using c2s
              cases c2 : isB st 0 2 with
              | false =>
                have e2 := Lib.hid (show tikOk ⟨5, st, tt⟩ = false by rw [tikOk5, decide_eq_false c2s]; rfl)
                clear c2s
                go_enter Tryd.func16, Tryd.ntmps16
                go_wp2_with (first | (go_at_call 56; refine (there_any st _).mono ?_; rintro e w1 ⟨rfl, rfl⟩; rw [c2]))
                go_ret
                exact ⟨by rw [e2.out]; (first | rfl | exact ret_bool (by simp; omega) | simp), hb.out⟩
              | true =>
                have e2 := Lib.hid (show tikOk ⟨5, st, tt⟩ = false by rw [tikOk5, decide_eq_false c2s]; rfl)
                clear c2s
                go_enter Tryd.func16, Tryd.ntmps16
                go_wp2_with (first | (go_at_call 56; refine (there_any st _).mono ?_; rintro e w1 ⟨rfl, rfl⟩; rw [c2]))
                go_ret
                exact ⟨by rw [e2.out]; (first | rfl | exact ret_bool (by simp; omega) | simp), hb.out⟩
          · have q5 : (kd == 5) = false := by simpa using hn5
            have hb := Lib.hid ((Below.refl w.heap.size w).alloc (Nat.le_refl _) (.cells #[.int .i64 kd, .int .i64 st, .string tt] 31))
            have hI := Lib.hid (fun w => is_any kd 1 5 w)
            have c6 : isB kd 1 5 = false := isB_no (by omega)
            cases c2 : isB st 0 2 with
            | false =>
              have e2 := Lib.hid (show tikOk ⟨kd, st, tt⟩ = false by exact tikOk0 hn1 hn2 hn3 hn4 hn5 st tt)
              clear hn2 hn3 hn4
              go_enter Tryd.func16, Tryd.ntmps16
              go_wp2_with (first | (go_at_call 56; refine (there_any st _).mono ?_; rintro e w1 ⟨rfl, rfl⟩; rw [c2]))
              go_ret
              exact ⟨by rw [e2.out]; (first | rfl | exact ret_bool (by simp; omega) | simp), hb.out⟩
            | true =>
              by_cases c3 : tt = ByteArray.empty
              · have c3' : tt.toList = [] := by rw [c3]; simp
                have c4 : rangeB 32 tt.data.toList = true := by rw [c3]; rfl
                have c5 : decide ((tt.size : Int) ≤ 60) = true := by rw [c3]; rfl
                have e2 := Lib.hid (show tikOk ⟨kd, st, tt⟩ = false by exact tikOk0 hn1 hn2 hn3 hn4 hn5 st tt)
                clear hn2 hn3 hn4 c3
                go_enter Tryd.func16, Tryd.ntmps16
                go_wp2_with (first | (go_at_call 56; refine (there_any st _).mono ?_; rintro e w1 ⟨rfl, rfl⟩; rw [c2]) | (go_at_call 57; refine (hI.out _).mono ?_; rintro e w1 ⟨rfl, rfl⟩; rw [c6]))
                go_ret
                exact ⟨by rw [e2.out]; (first | rfl | exact ret_bool (by simp; omega) | simp), hb.out⟩
              · have c3' : ¬ tt.toList = [] := list_ne c3
                have c3b : tt.toList.isEmpty = false := by simpa using c3'
                clear c3'
                have e2 := Lib.hid (show tikOk ⟨kd, st, tt⟩ = false by exact tikOk0 hn1 hn2 hn3 hn4 hn5 st tt)
                clear hn2 hn3 hn4 c3
                go_enter Tryd.func16, Tryd.ntmps16
                go_wp2_with (first | (go_at_call 56; refine (there_any st _).mono ?_; rintro e w1 ⟨rfl, rfl⟩; rw [c2]))
                go_ret
                exact ⟨by rw [e2.out]; (first | rfl | exact ret_bool (by simp; omega) | simp), hb.out⟩
end Go.Proofs.YtbadpmghlclfkaaDoor
