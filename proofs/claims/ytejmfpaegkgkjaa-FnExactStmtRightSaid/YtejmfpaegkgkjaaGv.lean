/- A value that is there only where it is wanted: for drawn regions whose tests stay Boolean variables. -/
import Derived.Test.YtejmfpaegkgkjaaKnown
namespace Go.Proofs.Ytejmfpaegkgkjaa
open Go.RowKit

def gv (b : Bool) (v : Value) : Value := if b = true then v else undef
theorem gv_t {b : Bool} {v : Value} (h : b = true) : gv b v = v := by unfold gv; rw [if_pos h]
theorem gv_f {b : Bool} {v : Value} (h : b = false) : gv b v = undef := by unfold gv; rw [h]; rfl
theorem gv_one (v : Value) : gv true v = v := gv_t rfl
theorem gv_t' {b : Bool} {u v : Value} (h : b = true) (e : u = v) : u = gv b v := e.trans (gv_t h).symm
theorem wanted_gv_yes {o : Oper} {ops : List Oper} {t : Array Value} {j d : Nat} {b x z : Bool} {oj : Oper} (h : o.guard = some (j, b)) (h1 : ops[j]? = some oj) (h2 : oj.dst = some d) (h3 : t[d]? = some (gv x (.bool z))) (hw : (x && (z == b)) = true) : Region.wanted o (yielded ops.toArray t) = true := by
  rw [Bool.and_eq_true, beq_iff_eq] at hw
  obtain ⟨hx, hz⟩ := hw
  subst hz
  exact wanted_of h h1 h2 (by rw [h3, gv_t hx])
theorem wanted_gv_no {o : Oper} {ops : List Oper} {t : Array Value} {j d : Nat} {b x z : Bool} {oj : Oper} (h : o.guard = some (j, b)) (h1 : ops[j]? = some oj) (h2 : oj.dst = some d) (h3 : t[d]? = some (gv x (.bool z))) (hw : (x && (z == b)) = false) : Region.wanted o (yielded ops.toArray t) = false := by
  cases x with
  | false => exact wanted_undef h h1 h2 (by rw [h3, gv_f rfl])
  | true =>
    have hz : z = !b := by cases z <;> cases b <;> first | rfl | cases hw
    exact wanted_not h h1 h2 (by rw [h3, gv_t rfl, hz])
end Go.Proofs.Ytejmfpaegkgkjaa
