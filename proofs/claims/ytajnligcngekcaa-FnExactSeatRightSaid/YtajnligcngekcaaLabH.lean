/- The program's marked texts: all marks, compared. -/
import Derived.Test.YtajnligcngekcaaLabG
namespace Go.Proofs.Ytajnligcngekcaa
open Go.RowKit

/-- All bits of the marks together. -/
def orI (a b : Int) : Int := bits .or .i64 a b
def markL (l : List Int) : Int := l.foldl orI 0
theorem markL_succ (l : List Int) (k : Nat) (hk : k < l.length) : markL (l.take (k + 1)) = orI (markL (l.take k)) l[k] := by
  unfold markL; rw [List.take_succ_eq_append_getElem hk, List.foldl_append]; rfl
def markT (t : ByteArray) (l : List Int) : Int := if labB t l = true then markL l else 0
theorem markT_no {t : ByteArray} {l : List Int} (h : labB t l = false) : markT t l = 0 := by rw [markT, if_neg (by rw [h]; simp)]
theorem markT_ok {t : ByteArray} {l : List Int} (h : labB t l = true) : markT t l = markL l := by rw [markT, if_pos h]
def IntIs (n : Int) (w : World) (e : Ending) (w' : World) : Prop := e = .returned (.int .i64 n) ∧ Below w.heap.size w w'
theorem IntIs.of {n m : Int} {w w' : World} (h : m = n) (k : Below w.heap.size w w') : IntIs n w (.returned (.int .i64 m)) w' := by subst h; exact ⟨rfl, k⟩
end Go.Proofs.Ytajnligcngekcaa
