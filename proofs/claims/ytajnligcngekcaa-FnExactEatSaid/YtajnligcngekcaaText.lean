/- Texts put together and cut: PutText's bytes, the program's joined and piece. -/
import Derived.Test.YtajnligcngekcaaPut
namespace Go.Proofs.Ytajnligcngekcaa
open Go.RowKit

theorem Try.size5 : (Try.prog.info? 5).map (·.size) = some 1 := by kernel_rfl

theorem len_data (x : ByteArray) : x.data.toList.length = x.size := by simp
theorem at_full {b : ByteArray} (hp : 0 < b.size) {α : Type} (x y z : α) (h : y = z) : (if b = ByteArray.empty then x else y) = z := by
  rw [if_neg, h]
  intro e; subst e; simp at hp
set_option maxRecDepth 20000 in
set_option maxHeartbeats 1000000 in
theorem piece_any (a : ByteArray) (f t : Nat) (hf : f ≤ t) (ht : t ≤ a.size) (ha : a.size ≤ 1048576) (w : World) :
    Calls Try.prog 35 #[.string a, .int .i64 f, .int .i64 t] w fun e w' => e = .returned (.string (a.extract f t)) ∧ Below w.heap.size w w' := by
  obtain ⟨i0, hi, hz0, hz1, hz2⟩ := info_parts Try.info5
  have h0a : (0 : Int) ≤ (t : Int) - (f : Int) := by omega
  have h1a : (t : Int) - (f : Int) ≤ 1048576 := by omega
  have h2a : (t : Int) ≤ (a.size : Int) := by omega
  have hbel := Lib.hid (Below.refl w.heap.size w)
  have hxs : (a.extract f t).size = t - f := by rw [ByteArray.size_extract]; omega
  obtain ⟨m, hm⟩ : ∃ m, m = t - f := ⟨_, rfl⟩
  have hxm := Lib.hid (hxs.trans hm.symm)
  have hml : m ≤ 1048576 := by omega
  have hmI : (t : Int) - (f : Int) = (m : Int) := by omega
  replace hm := Lib.hid hm
  replace hmI := Lib.hid hmI
  clear hxs
  go_enter Try.func35, Try.ntmps35
  go_wp2_with (first
    | (at_make; refine wpList_make_bytes rfl (.tmp 10) (.tmp 10) 60 rfl w.heap.size 5 i0 Try.underlying60 hi hz0 hz1 hz2 _ _ _ _ m rfl rfl hmI.out hmI.out (by omega) hbel.out (Nat.le_refl _) ?_; intro w1 hr1 hb1; replace hr1 := Lib.hid hr1; replace hb1 := Lib.hid hb1)
    | ((with_reducible show wpList _ _ _ (⟨some 17, _, _, _, _, _⟩ :: _) _ _); refine wpList_copy_fill rfl (.tmp 12) (.tmp 16) 60 9 rfl 5 Try.underlying60 Try.size5 _ _ _ (a.extract f t) rfl rfl w.heap.size m 5 [] hr1.out (Nat.le_of_eq hxm.out) (Nat.le_of_eq ((Nat.zero_add _).trans hxm.out)) (fun _ => rfl) w.heap.size hb1.out (Nat.le_refl _) ?_; intro w2 hr2 hb2; rw [List.nil_append] at hr2; have hconv := hr2.string (P := Try.prog) (cap := m) (k := m) Try.underlying60 Try.underlying5 Try.underlying9 ((len_data _).trans hxm.out); rw [strV_data] at hconv; replace hb2 := Lib.hid hb2; clear hr2))
  all_goals
    go_ret
    exact ⟨rfl, hb2.out⟩
theorem piece_at (a : ByteArray) (lo hi : Int) (f t : Nat) (h1 : lo = f) (h2 : hi = t) (hf : f ≤ t) (ht : t ≤ a.size) (ha : a.size ≤ 1048576) (w : World) :
    Calls Try.prog 35 #[.string a, .int .i64 lo, .int .i64 hi] w fun e w' => e = .returned (.string (a.extract f t)) ∧ Below w.heap.size w w' := by
  subst h1 h2; exact piece_any a f t hf ht ha w
theorem varF_len (f u : Nat) : (varF f u).length ≤ f + 1 := by
  induction f generalizing u with
  | zero => simp [varF]
  | succ f ih =>
    rw [varF]; split
    · simp
    · have := ih (u / 128); simp; omega
theorem wf_small {n : Int} (h : -9223372036854775808 ≤ n ∧ n ≤ 9223372036854775807) : (Lit.int .i64 n).wf = true := by
  simpa [Lit.wf, show IntKind.i64.min = -9223372036854775808 from by decide] using h
def textBytes (s : ByteArray) : List UInt8 := if 8000 < s.size then [] else numBytes s.size ++ s.data.toList
theorem textBytes_long (s : ByteArray) (h : 8000 < s.size) : textBytes s = [] := by rw [textBytes, if_pos h]
theorem textBytes_fits (s : ByteArray) (h : s.size ≤ 8000) : textBytes s = numBytes s.size ++ s.data.toList := by rw [textBytes, if_neg (by omega)]
theorem add_strV (l : List UInt8) (s : ByteArray) : Value.string ((⟨l.toArray⟩ : ByteArray) ++ s) = strV (l ++ s.data.toList) := by
  unfold strV
  congr 1
theorem strV_nil : strV [] = .string { data := #[] } := rfl

end Go.Proofs.Ytajnligcngekcaa
