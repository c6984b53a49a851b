/- Texts put together and cut: PutText's bytes, the program's joined and piece. -/
import Derived.Test.YtbadpmghlclfkaaDoorPut
namespace Go.Proofs.YtbadpmghlclfkaaDoor
open Go.RowKit

theorem Tryd.size5 : (Tryd.prog.info? 5).map (·.size) = some 1 := by kernel_rfl

theorem len_data (x : ByteArray) : x.data.toList.length = x.size := by simp
theorem at_full {b : ByteArray} (hp : 0 < b.size) {α : Type} (x y z : α) (h : y = z) : (if b = ByteArray.empty then x else y) = z := by
  rw [if_neg, h]
  intro e; subst e; simp at hp
set_option maxRecDepth 20000 in
set_option maxHeartbeats 1000000 in
theorem joined_any (a b : ByteArray) (ha : a.size ≤ 1048576) (hb : b.size ≤ 1048576) (w : World) :
    Calls Tryd.prog 99 #[.string a, .string b] w fun e w' => e = .returned (strV (a.data.toList ++ b.data.toList)) ∧ Below w.heap.size w w' := by
  obtain ⟨i0, hi, hz0, hz1, hz2⟩ := info_parts Tryd.info5
  have h0a : (0 : Int) ≤ (a.size : Int) := by omega
  have h0b : (0 : Int) ≤ (b.size : Int) := by omega
  have h1a : (a.size : Int) ≤ 1048576 := by omega
  have h1b : (b.size : Int) ≤ 1048576 := by omega
  have hbel := Lib.hid (Below.refl w.heap.size w)
  go_enter Tryd.func99, Tryd.ntmps99
  go_wp2_with (first
    | (at_make; refine wpList_make_bytes rfl (.tmp 11) (.tmp 11) 22 rfl w.heap.size 5 i0 Tryd.underlying22 hi hz0 hz1 hz2 _ _ _ _ (a.size + b.size) rfl rfl (by first | rfl | omega) (by first | rfl | omega) (by omega) hbel.out (Nat.le_refl _) ?_; intro w1 hr1 hb1; replace hr1 := Lib.hid hr1; replace hb1 := Lib.hid hb1)
    | ((with_reducible show wpList _ _ _ (⟨some 15, _, _, _, _, _⟩ :: _) _ _); refine wpList_copy_fill rfl (.tmp 13) (.tmp 14) 22 9 rfl 5 Tryd.underlying22 Tryd.size5 _ _ _ a rfl rfl w.heap.size (a.size + b.size) 5 [] hr1.out (by omega) (by simp) (fun _ => rfl) w.heap.size hb1.out (Nat.le_refl _) ?_; intro w2 hr2 hb2; rw [List.nil_append] at hr2; replace hr2 := Lib.hid hr2; replace hb2 := Lib.hid hb2)
    | ((with_reducible show wpList _ _ _ (⟨some 20, _, _, _, _, _⟩ :: _) _ _); refine wpList_copy_fill rfl (.tmp 18) (.tmp 19) 22 9 rfl 5 Tryd.underlying22 Tryd.size5 _ _ _ b rfl rfl w.heap.size (a.size + b.size) 5 a.data.toList hr2.out (Nat.le_refl _) (by simp) (fun hp => at_full hp _ _ _ (by simp)) w.heap.size hb2.out (Nat.le_refl _) ?_; intro w3 hr3 hb3; have hconv := hr3.string (P := Tryd.prog) (cap := a.size + b.size) (k := a.size + b.size) Tryd.underlying22 Tryd.underlying5 Tryd.underlying9 (by simp); replace hb3 := Lib.hid hb3; clear hr3))
  all_goals
    go_ret
    exact ⟨rfl, hb3.out⟩

theorem varF_len (f u : Nat) : (varF f u).length ≤ f + 1 := by
  induction f generalizing u with
  | zero => simp [varF]
  | succ f ih =>
    rw [varF]; split
    · simp
    · have := ih (u / 128); simp; omega
theorem wf_small {n : Int} (h : -9223372036854775808 ≤ n ∧ n ≤ 9223372036854775807) : (Lit.int .i64 n).wf = true := by
  simpa [Lit.wf, show IntKind.i64.min = -9223372036854775808 from by decide] using h
def textBytes (s : ByteArray) : List UInt8 := if 8000 < s.size then [] else numBytes s.size ++ s.data.toList
theorem textBytes_long (s : ByteArray) (h : 8000 < s.size) : textBytes s = [] := by rw [textBytes, if_pos h]
theorem textBytes_fits (s : ByteArray) (h : s.size ≤ 8000) : textBytes s = numBytes s.size ++ s.data.toList := by rw [textBytes, if_neg (by omega)]
theorem add_strV (l : List UInt8) (s : ByteArray) : Value.string ((⟨l.toArray⟩ : ByteArray) ++ s) = strV (l ++ s.data.toList) := by
  unfold strV
  congr 1
theorem strV_nil : strV [] = .string { data := #[] } := rfl

end Go.Proofs.YtbadpmghlclfkaaDoor
