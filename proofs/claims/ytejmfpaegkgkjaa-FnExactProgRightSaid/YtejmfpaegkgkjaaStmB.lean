/- Parts of a statement: right? of the program and of the model; two lists of parts compared. -/
import Derived.Test.YtejmfpaegkgkjaaStmT
import Derived.Test.YtejmfpaegkgkjaaVaultR
import Derived.Laws.StructEq
import Derived.Deep.QuietTactic
import Derived.BigQuiet
namespace Go.Proofs.Ytejmfpaegkgkjaa
open Go.RowKit

theorem stmtPlace_any (n : Int) (w : World) :
    Calls Try.prog 99 #[.int .i64 n] w fun e w' => e = .returned (.bool (rng n 0 40)) ∧ w = w' := by
  by_cases h0 : 0 ≤ n
  · have e := Lib.hid (show rng n 0 40 = decide (n ≤ 40) by simp [rng, h0])
    go_enter Try.func99, Try.ntmps99
    go_wp2
    go_ret
    exact ⟨ret_bool (by rw [e.out]), rfl⟩
  · have e := Lib.hid (show rng n 0 40 = false by simp [rng, h0])
    go_enter Try.func99, Try.ntmps99
    go_wp2
    go_ret
    exact ⟨ret_bool (by rw [e.out]), rfl⟩
theorem rng_isB (n lo hi : Int) : rng n lo hi = isB n lo hi := rfl
set_option maxHeartbeats 2000000 in
theorem implParts_any (v : Value) (l : List Prt) (w : World) (hv : Prts w v l) :
    Calls Try.prog 74 #[v] w (Gives (.bool (partsB l)) w) := by
  obtain ⟨A, cap, rfl⟩ := hv.form
  have hl := hv.1
  unfold maxLen at hl
  have hv' := Lib.hid hv
  clear hv
  by_cases h6 : l.length ≤ 6
  · have h6' : ¬ (6 : Int) < (l.length : Int) := by omega
    go_enter Try.func74, Try.ntmps74
    go_wp2
    go_loopw [10] (fun i wr => ∃ k : Nat, k ≤ l.length ∧ i = .int .i64 (k : Int) ∧ Hid (∀ j (hj : j < k) (h : j < l.length), partOk l[j] = true) ∧ Hid (Below w.heap.size w wr)) (fun i _ => l.length - (intOf i).toNat)
    case atStart => exact ⟨0, Nat.zero_le _, rfl, Lib.hid (fun j hj => by omega), Lib.hid (Below.refl _ _)⟩
    case round =>
      obtain ⟨k, hk, rfl, hall, hb⟩ := hrel
      by_cases hlt : k < l.length
      · have hlt' : (k : Int) < (l.length : Int) := by omega
        have hp := Lib.hid (hv'.out.below hb.out)
        obtain ⟨b, off, rfl, hbk, c0, c1, c2, c3⟩ := hp.out.four k hlt
        have hwf := Lib.hid (hp.out.wf hlt)
        replace hb := Lib.hid (hb.out.alloc hb.out.size (.cells #[.int .i64 l[k].kind, .string l[k].text, .int .i64 l[k].lo, .int .i64 l[k].hi] 26))
        cases ho : partOk l[k] with
        | true =>
          have hall2 := Lib.hid (fun j (hj : j < k + 1) (h : j < l.length) => (show partOk l[j] = true from by
            by_cases e : j = k
            · subst e; exact ho
            · exact hall.out j (by omega) h))
          clear hall
          go_wp2_with (go_at_call 11; refine (implPart_any l[k] hwf.out.1 _).mono ?_; rintro e w1 ⟨rfl, hb1⟩; rw [ho]; replace hb := Lib.hid (Below.then_ hb.out hb1 (Nat.le_refl _)); clear hb1 c0 c1 c2 c3)
          go_roundw
          case rel => exact ⟨k + 1, by omega, by go_num, hall2, hb⟩
          case measure => simp [intOf]; omega
        | false =>
          have hbad := Lib.hid (partsB_bad hlt ho)
          go_wp2_with (go_at_call 11; refine (implPart_any l[k] hwf.out.1 _).mono ?_; rintro e w1 ⟨rfl, hb1⟩; rw [ho]; replace hb := Lib.hid (Below.then_ hb.out hb1 (Nat.le_refl _)); clear hb1 c0 c1 c2 c3)
          go_ret
          exact ⟨by rw [hbad.out]; rfl, hb.out⟩
      · have hlt' : ¬ (k : Int) < (l.length : Int) := by omega
        have hyes := Lib.hid (partsB_yes h6 fun j hj => hall.out j (by omega) hj)
        go_wp2
        go_ret
        exact ⟨by rw [hyes.out]; rfl, hb.out⟩
  · have hbad := Lib.hid (partsB_long h6)
    have h6' : (6 : Int) < (l.length : Int) := by omega
    go_enter Try.func74, Try.ntmps74
    go_wp2
    go_ret
    exact ⟨by rw [hbad.out]; rfl, Below.refl _ _⟩
set_option maxHeartbeats 2000000 in
theorem specPartsB_any (v : Value) (l : List Prt) (w : World) (hv : Prts w v l) :
    Calls Try.prog 34 #[v] w (Gives (.bool (partsB l)) w) := by
  obtain ⟨A, cap, rfl⟩ := hv.form
  have hl := hv.1
  unfold maxLen at hl
  have hv' := Lib.hid hv
  clear hv
  go_enter Try.func34, Try.ntmps34
  go_wp2
  go_loopw [3] (fun i wr => ∃ k : Nat, k ≤ l.length ∧ i = .int .i64 (k : Int) ∧ Hid (∀ j (hj : j < k) (h : j < l.length), partOk l[j] = true) ∧ Hid (Below w.heap.size w wr)) (fun i _ => l.length - (intOf i).toNat)
  case atStart => exact ⟨0, Nat.zero_le _, rfl, Lib.hid (fun j hj => by omega), Lib.hid (Below.refl _ _)⟩
  case round =>
    obtain ⟨k, hk, rfl, hall, hb⟩ := hrel
    by_cases hlt : k < l.length
    · have hlt' : (k : Int) < (l.length : Int) := by omega
      have hp := Lib.hid (hv'.out.below hb.out)
      obtain ⟨b, off, rfl, hbk, c0, c1, c2, c3⟩ := hp.out.four k hlt
      have hwf := Lib.hid (hp.out.wf hlt)
      cases ho : partOk l[k] with
      | true =>
        have hall2 := Lib.hid (fun j (hj : j < k + 1) (h : j < l.length) => (show partOk l[j] = true from by
          by_cases e : j = k
          · subst e; exact ho
          · exact hall.out j (by omega) h))
        clear hall
        go_wp2_with (go_at_call 9; refine (specPart_any l[k] hwf.out.1 _).mono ?_; rintro e w1 ⟨rfl, hb1⟩; rw [ho]; replace hb := Lib.hid (Below.then_ hb.out hb1 (Nat.le_refl _)); clear hb1 c0 c1 c2 c3)
        go_roundw
        case rel => exact ⟨k + 1, by omega, by go_num, hall2, hb⟩
        case measure => simp [intOf]; omega
      | false =>
        have hbad := Lib.hid (partsB_bad hlt ho)
        go_wp2_with (go_at_call 9; refine (specPart_any l[k] hwf.out.1 _).mono ?_; rintro e w1 ⟨rfl, hb1⟩; rw [ho]; replace hb := Lib.hid (Below.then_ hb.out hb1 (Nat.le_refl _)); clear hb1 c0 c1 c2 c3)
        go_ret
        exact ⟨by rw [hbad.out]; rfl, hb.out⟩
    · have hlt' : ¬ (k : Int) < (l.length : Int) := by omega
      by_cases h6 : l.length ≤ 6
      · have h6' : (l.length : Int) ≤ 6 := by omega
        have hyes := Lib.hid (partsB_yes h6 fun j hj => hall.out j (by omega) hj)
        go_wp2
        go_ret
        exact ⟨by rw [hyes.out]; rfl, hb.out⟩
      · have h6' : ¬ (l.length : Int) ≤ 6 := by omega
        have hbad := Lib.hid (partsB_long h6)
        go_wp2
        go_ret
        exact ⟨by rw [hbad.out]; rfl, hb.out⟩
theorem prt_neq (x y : Prt) (w : World) : (binOp .neq 26 (.agg #[.int .i64 x.kind, .string x.text, .int .i64 x.lo, .int .i64 x.hi]) (.agg #[.int .i64 y.kind, .string y.text, .int .i64 y.lo, .int .i64 y.hi])).run Try.prog w = .ok (.bool (!samePrt x y)) w := by
  have h1 : (Op.equalIn 10000 26 (.agg #[.int .i64 x.kind, .string x.text, .int .i64 x.lo, .int .i64 x.hi]) (.agg #[.int .i64 y.kind, .string y.text, .int .i64 y.lo, .int .i64 y.hi])).run Try.prog w = .ok (samePrt x y) w := by
    go_simp
    unfold samePrt
    by_cases h1 : x.kind = y.kind <;> by_cases h2 : x.text.toList = y.text.toList <;> by_cases h3 : x.lo = y.lo <;> by_cases h4 : x.hi = y.hi <;> simp [h1, h2, h3, h4]
  rw [run_neq_struct, h1]
  rfl
set_option maxHeartbeats 2000000 in
theorem equalParts_any (v u : Value) (l m : List Prt) (w : World) (hv : Prts w v l) (hu : Prts w u m) :
    Calls Try.prog 45 #[v, u] w fun e w' => e = .returned (.bool (sameP l m)) ∧ ∃ n, w' = w.drewN n := by
  obtain ⟨A, cap, rfl⟩ := hv.form
  obtain ⟨A2, cap2, rfl⟩ := hu.form
  have hl := hv.1
  have hl2 := hu.1
  unfold maxLen at hl hl2
  have hv' := Lib.hid hv
  have hu' := Lib.hid hu
  clear hv hu
  by_cases hn : l.length = m.length
  · have hn' : ((l.length : Int) != (m.length : Int)) = false := by simp; omega
    have hn2 := Lib.hid hn
    clear hn
    go_enter Try.func45, Try.ntmps45
    go_wp2
    go_loopw [13] (fun i wr => ∃ (k n : Nat), k ≤ l.length ∧ i = .int .i64 (k : Int) ∧ Hid (∀ j (hj : j < k) (h : j < l.length) (h2 : j < m.length), l[j] = m[j]) ∧ wr = w.drewN n) (fun i _ => l.length - (intOf i).toNat)
    case atStart => exact ⟨0, 0, Nat.zero_le _, rfl, Lib.hid (fun j hj => by omega), rfl⟩
    case round =>
      obtain ⟨k, n, hk, rfl, hall, rfl⟩ := hrel
      by_cases hlt : k < l.length
      · have hlt' : (k : Int) < (l.length : Int) := by omega
        have hlm : k < m.length := by rw [← hn2.out]; exact hlt
        have hlm' : (k : Int) < (m.length : Int) := by omega
        obtain ⟨b, off, rfl, hbk, c0, c1, c2, c3⟩ := hv'.out.four k hlt
        obtain ⟨b2, off2, rfl, hbk2, d0, d1, d2, d3⟩ := hu'.out.four k hlm
        have hq := prt_neq l[k] m[k]
        cases hs : samePrt l[k] m[k] with
        | true =>
          have hall2 := Lib.hid (fun j (hj : j < k + 1) (h : j < l.length) (h2 : j < m.length) => (show l[j] = m[j] from by
            by_cases e : j = k
            · subst e; exact samePrt_eq hs
            · exact hall.out j (by omega) h h2))
          rw [hs] at hq
          clear hall hs
          go_wp2
          go_quiet (fail)
          go_wp2
          go_roundw
          case rel => exact ⟨k + 1, n + nq, by omega, by go_num, hall2, by simp⟩
          case measure => simp [intOf]; omega
        | false =>
          have hbad := Lib.hid (show sameP l m = false from decide_eq_false (fun e => by
            subst e
            rw [samePrt_self] at hs
            cases hs))
          rw [hs] at hq
          clear hall hs
          go_wp2
          go_quiet (fail)
          go_wp2
          go_ret
          exact ⟨by rw [hbad.out]; rfl, n + nq, by simp⟩
      · have hlt' : ¬ (k : Int) < (l.length : Int) := by omega
        have hyes := Lib.hid (show sameP l m = true from decide_eq_true (List.ext_getElem hn2.out fun j h1 h2 => hall.out j (by omega) h1 h2))
        go_wp2
        go_ret
        exact ⟨by rw [hyes.out]; rfl, n, rfl⟩
  · have hn' : ((l.length : Int) != (m.length : Int)) = true := by simp; omega
    have hbad := Lib.hid (show sameP l m = false from decide_eq_false (fun e => hn (by rw [e])))
    clear hn
    go_enter Try.func45, Try.ntmps45
    go_wp2
    go_ret
    exact ⟨by rw [hbad.out]; rfl, 0, rfl⟩
end Go.Proofs.Ytejmfpaegkgkjaa
