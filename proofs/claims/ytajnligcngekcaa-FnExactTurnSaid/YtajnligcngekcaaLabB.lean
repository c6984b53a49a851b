/- Slices of int64 and marked texts compared; what is looked at, and how large it is. -/
import Derived.Test.YtajnligcngekcaaLabA
import Derived.RegionTactic
import Derived.ChangeAlike
namespace Go.Proofs.Ytajnligcngekcaa
open Go.RowKit

def intsB (l m : List Int) : Bool := decide (l = m)
theorem intsB_len {l m : List Int} (h : ¬ l.length = m.length) : intsB l m = false := by
  unfold intsB; rw [decide_eq_false_iff_not]; intro e; subst e; exact h rfl
theorem intsB_at {l m : List Int} (k : Nat) (h1 : k < l.length) (h2 : k < m.length) (h : ¬ l[k] = m[k]) : intsB l m = false := by
  unfold intsB; rw [decide_eq_false_iff_not]; intro e; subst e; exact h rfl
theorem intsB_all {l m : List Int} (h0 : l.length = m.length) (k : Nat) (hk : ¬ k < l.length) (h : ∀ i (h1 : i < l.length) (h2 : i < m.length), i < k → l[i] = m[i]) : intsB l m = true := by
  unfold intsB; rw [decide_eq_true_iff]
  exact List.ext_getElem h0 fun i h1 h2 => h i h1 h2 (by omega)
theorem eq_step {l m : List Int} {k : Nat} (hk1 : k < l.length) (hk2 : k < m.length) (h : ∀ i (h1 : i < l.length) (h2 : i < m.length), i < k → l[i] = m[i]) (e : l[k] = m[k]) : ∀ i (h1 : i < l.length) (h2 : i < m.length), i < k + 1 → l[i] = m[i] := by
  intro i h1 h2 hi
  by_cases hik : i = k
  · subst hik; exact e
  · exact h i h1 h2 (by omega)
set_option maxHeartbeats 1000000 in
theorem eqInts_any (v u : Value) (l m : List Int) (w : World) (hv : Ints w v l) (hu : Ints w u m) :
    Calls Try.prog 38 #[v, u] w (LookEnd (intsB l m) w) := by
  have hl1 := hv.1
  have hm1 := hu.1
  obtain ⟨A, cap, rfl⟩ := hv.form
  obtain ⟨A2, cap2, rfl⟩ := hu.form
  have hv' := Lib.hid hv
  have hu' := Lib.hid hu
  clear hv hu
  by_cases h0 : l.length = m.length
  · have h0' : (((l.length : Nat) : Int) != (m.length : Int)) = false := by simp [h0]
    have h0'' : decide (((l.length : Nat) : Int) = (m.length : Int)) = true := by simp [h0]
    have hh := Lib.hid h0
    have hbel := Lib.hid (Below.refl w.heap.size w)
    clear h0
    go_enter Try.func38, Try.ntmps38
    go_wp2
    go_loopw [5] (fun i wr => ∃ k : Nat, k ≤ l.length ∧ i = .int .i64 k ∧ (∀ i (h1 : i < l.length) (h2 : i < m.length), i < k → l[i] = m[i]) ∧ Below w.heap.size w wr) (fun i _ => l.length - (intOf i).toNat)
    case atStart => exact ⟨0, Nat.zero_le _, rfl, fun i _ _ h => absurd h (Nat.not_lt_zero _), hbel.out⟩
    case round =>
      obtain ⟨k, hk, rfl, hall, hb⟩ := hrel
      have hall' := Lib.hid hall
      have hb' := Lib.hid hb
      clear hall hb
      by_cases hlt : k < l.length
      · have hlt2 : k < m.length := by have := hh.out; omega
        obtain ⟨b, off, rfl, hbk, hck⟩ := (hv'.out.below hb'.out).at_ k hlt
        obtain ⟨b2, off2, rfl, hbk2, hck2⟩ := (hu'.out.below hb'.out).at_ k hlt2
        have hlt' : (k : Int) < (l.length : Int) := by omega
        have hlt2' : (k : Int) < (m.length : Int) := by omega
        have hge : (0 : Int) ≤ (k : Int) := by omega
        by_cases he : l[k] = m[k]
        · have he1 : (l[k] != m[k]) = false := by simp [he]
          have he2 := Lib.hid he
          clear he
          go_wp2
          go_region
          go_wp2
          go_roundw
          case rel => exact ⟨k + 1, by omega, by go_num, eq_step hlt hlt2 hall'.out he2.out, below_drew' hb'.out⟩
          case measure => simp [intOf]; omega
        · have he1 : (l[k] != m[k]) = true := by simp [he]
          have he2 := Lib.hid (intsB_at k hlt hlt2 he)
          clear he
          go_wp2
          go_region
          go_wp2
          go_ret
          exact LookEnd.of he2.out.symm (below_drew' hb'.out)
      · have hlt' : ¬ (k : Int) < (l.length : Int) := by omega
        go_wp2
        go_ret
        exact LookEnd.of (intsB_all hh.out k hlt hall'.out).symm hb'.out
  · have h0' : (((l.length : Nat) : Int) != (m.length : Int)) = true := by simp; omega
    have hb := Lib.hid (intsB_len h0)
    clear h0
    go_enter Try.func38, Try.ntmps38
    go_wp2
    go_ret
    exact LookEnd.of hb.out.symm (Below.refl _ _)
end Go.Proofs.Ytajnligcngekcaa
