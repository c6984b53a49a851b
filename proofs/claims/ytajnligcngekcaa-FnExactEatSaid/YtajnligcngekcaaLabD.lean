/- What the laws do with marked texts: marked and looked at again. -/
import Derived.Test.YtajnligcngekcaaLabC
namespace Go.Proofs.Ytajnligcngekcaa
open Go.RowKit

def HeldEnd (n : Nat) (w : World) (e : Ending) (w' : World) : Prop := e = .returned (.int .i64 (n : Int)) ∧ Below w.heap.size w w'
set_option maxHeartbeats 1000000 in
theorem heldInts_any (v : Value) (n k : Nat) (w : World) (hk : k ≤ 4000000) (hv : Ints w v (seqI k n)) :
    Calls Try.prog 40 #[v, .int .i64 (k : Int)] w (HeldEnd (k + n) w) := by
  have hl1 := hv.1
  obtain ⟨A, cap, rfl⟩ := hv.form
  rw [seqI_len] at hl1
  have hat : ∀ i, i < n → ∃ b off, A = some ⟨b, off, none⟩ ∧ b < w.heap.size ∧ w.cell? ⟨b, off + i, none⟩ = some (.int .i64 ((k + i : Nat) : Int)) := by
    intro i hi
    obtain ⟨b, off, h1, h2, h3⟩ := hv.at_ i (by rw [seqI_len]; exact hi)
    rw [seqI_at] at h3
    exact ⟨b, off, h1, h2, h3⟩
  rw [seqI_len] at hv ⊢
  have hat' := Lib.hid hat
  clear hat hv
  go_enter Try.func40, Try.ntmps40
  go_wp2
  go_loop [1, 5] (fun i j => ∃ m : Nat, m ≤ n ∧ i = .int .i64 ((k + m : Nat) : Int) ∧ j = .int .i64 (m : Int)) (fun _ j => n - (intOf j).toNat)
  case atStart => exact ⟨0, Nat.zero_le _, rfl, rfl⟩
  case round =>
    obtain ⟨m, hm, rfl, rfl⟩ := hrel
    by_cases hlt : m < n
    · have hlt' : (m : Int) < (n : Int) := by omega
      obtain ⟨b, off, rfl, hbk, hck⟩ := hat'.out m hlt
      go_wp2
      go_round
      case rel => exact ⟨m + 1, by omega, by go_num, by go_num⟩
      case measure => simp [intOf]; omega
    · have hlt' : ¬ (m : Int) < (n : Int) := by omega
      obtain rfl : m = n := by omega
      go_wp2
      go_ret
      exact ⟨rfl, Below.refl _ _⟩
theorem grown_alloc {w w' : World} {o : Obj} {row : Option Nat} (h : (w.alloc o).grownBy w' row) : w.grownBy w' row := (World.grownBy_alloc w o row).trans h
theorem OwnInts.alloc {w : World} {base : Nat} {v : Value} {l : List Int} (h : OwnInts w base v l) (o : Obj) : OwnInts (w.alloc o) base v l := h.below ((Below.refl _ _).alloc (Nat.le_refl _) _)
theorem OwnInts.form {w : World} {base : Nat} {v : Value} {l : List Int} (h : OwnInts w base v l) : ∃ A cap, v = .slice A l.length cap := h.ints.form
set_option maxHeartbeats 1000000 in
theorem markLab_any (t : ByteArray) (v : Value) (l : List Int) (k base : Nat) (w : World) (hk : k ≤ 4000000) (hv : OwnInts w base v l) :
    Calls Try.prog 30 #[.agg #[.string t, v], .int .i64 (k : Int)] w (MarkEnd base k l.length v w) := by
  obtain ⟨A, cap, rfl⟩ := hv.form
  have hv' := Lib.hid hv
  clear hv
  go_enter Try.func30, Try.ntmps30
  go_wp2_with (go_at_call 39; refine (markInts_any _ l k base _ hk (hv'.out.alloc _)).mono ?_; rintro e w1 ⟨rfl, ho, hg⟩; replace ho := Lib.hid ho; replace hg := Lib.hid hg)
  go_ret
  exact ⟨rfl, ho.out, grown_alloc hg.out⟩
set_option maxHeartbeats 1000000 in
theorem heldLab_any (t : ByteArray) (v : Value) (n : Nat) (k : Nat) (w : World) (hk : k ≤ 4000000) (hv : Ints w v (seqI k n)) :
    Calls Try.prog 31 #[.agg #[.string t, v], .int .i64 (k : Int)] w (HeldEnd (k + n) w) := by
  obtain ⟨A, cap, rfl⟩ := hv.form
  have hl1 := hv.1
  rw [seqI_len] at hl1
  have hv' := Lib.hid hv
  clear hv
  have hbb := Lib.hid (fun (o1 : Obj) => ((Below.refl w.heap.size w).alloc (Nat.le_refl _) o1))
  go_enter Try.func31, Try.ntmps31
  go_wp2_with (go_at_call 40; refine (heldInts_any _ n k _ hk (hv'.out.alloc _)).mono ?_; rintro e w1 ⟨rfl, hb⟩; replace hb := Lib.hid hb)
  go_ret
  exact ⟨rfl, Below.then_ (hbb.out _) hb.out (Nat.le_refl _)⟩
end Go.Proofs.Ytajnligcngekcaa
