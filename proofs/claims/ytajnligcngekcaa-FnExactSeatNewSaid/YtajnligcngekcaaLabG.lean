/- The program's marked texts: redacted, all marks, compared. -/
import Derived.Test.YtajnligcngekcaaLabF
import Derived.Test.YtajnligcngekcaaBuf
import Derived.Lib.SlBytesConst
namespace Go.Proofs.Ytajnligcngekcaa
open Go.RowKit

/-- A text of which the first k bytes are redacted. -/
def redK (T : List UInt8) (l : List Int) (k : Nat) : List UInt8 := List.zipWith (fun c m => if m = 0 then c else 42) (T.take k) (l.take k) ++ T.drop k
def redL (T : List UInt8) (l : List Int) : List UInt8 := List.zipWith (fun c m => if m = 0 then c else 42) T l
theorem redK_zero (T : List UInt8) (l : List Int) : redK T l 0 = T := by simp [redK]
theorem redK_len (T : List UInt8) (l : List Int) (k : Nat) (h : T.length = l.length) : (redK T l k).length = T.length := by simp [redK, h]; omega
theorem redK_all (T : List UInt8) (l : List Int) (k : Nat) (h : T.length = l.length) (hk : l.length ≤ k) : redK T l k = redL T l := by
  unfold redK redL; rw [List.take_of_length_le (by omega), List.take_of_length_le hk, List.drop_eq_nil_of_le (by omega), List.append_nil]
theorem redK_succ (T : List UInt8) (l : List Int) (k : Nat) (h : T.length = l.length) (hk : k < l.length) (hk2 : k < T.length) : redK T l (k + 1) = (redK T l k).set k (if l[k] = 0 then T[k] else 42) := by
  unfold redK
  have e : (List.zipWith (fun c m => if m = 0 then c else 42) (T.take k) (l.take k) : List UInt8).length = k := by simp; omega
  have e3 : k - (List.zipWith (fun c m => if m = 0 then c else 42) (T.take k) (l.take k) : List UInt8).length = 0 := by omega
  rw [List.take_succ_eq_append_getElem hk, List.take_succ_eq_append_getElem hk2, List.zipWith_append (by simp; omega), List.set_append, if_neg (by omega), e3, List.drop_eq_getElem_cons hk2, List.set_cons_zero, List.append_assoc]
  rfl
theorem redK_at (T : List UInt8) (l : List Int) (k : Nat) (h : T.length = l.length) (hk2 : k < T.length) (hk3 : k < (redK T l k).length) : (redK T l k)[k] = T[k] := by
  unfold redK at hk3 ⊢
  have e : (List.zipWith (fun c m => if m = 0 then c else 42) (T.take k) (l.take k) : List UInt8).length = k := by simp; omega
  rw [List.getElem_append_right (by omega)]
  simp [e]
theorem redK_skip (T : List UInt8) (l : List Int) (k : Nat) (h : T.length = l.length) (hk : k < l.length) (h0 : l[k] = 0) : redK T l (k + 1) = redK T l k := by
  rw [redK_succ T l k h hk (by omega), if_pos h0]
  apply List.ext_getElem (by simp)
  intro i h1 h2
  rw [List.getElem_set]
  split
  · rename_i e; subst e; rw [redK_at T l k h (by omega)]
  · rfl
theorem redK_star (T : List UInt8) (l : List Int) (k : Nat) (h : T.length = l.length) (hk : k < l.length) (h0 : ¬ l[k] = 0) : redK T l (k + 1) = (redK T l k).set k 42 := by rw [redK_succ T l k h hk (by omega), if_neg h0]
theorem Buf.set' {w : World} {g v : Nat} {l : List UInt8} (h : Buf w g l) (hv : v < l.length) : Buf (w.setCell ⟨g, v, none⟩ (.int .u8 42)) g (l.set v 42) := h.set hv 42
/-- Redacted: of what is not right, nothing. -/
def redT (t : ByteArray) (l : List Int) : ByteArray := if labB t l = true then bytesOf (redL t.data.toList l) else ⟨#[]⟩
theorem redT_no {t : ByteArray} {l : List Int} (h : labB t l = false) : redT t l = ⟨#[]⟩ := by rw [redT, if_neg (by rw [h]; simp)]
theorem redT_ok {t : ByteArray} {l : List Int} (h : labB t l = true) : redT t l = bytesOf (redL t.data.toList l) := by rw [redT, if_pos h]
def TextIs (s : ByteArray) (w : World) (e : Ending) (w' : World) : Prop := e = .returned (.string s) ∧ Below w.heap.size w w'
theorem TextIs.of {s r : ByteArray} {w w' : World} (h : r = s) (k : Below w.heap.size w w') : TextIs s w (.returned (.string r)) w' := by subst h; exact ⟨rfl, k⟩
end Go.Proofs.Ytajnligcngekcaa
