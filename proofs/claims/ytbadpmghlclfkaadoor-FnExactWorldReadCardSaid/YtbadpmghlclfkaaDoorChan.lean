/- A send, a receive inside a walk of one goroutine: the region that holds it, taken operation by operation. -/
import Derived.Test.YtbadpmghlclfkaaDoorBlk
import Derived.Conc.LoneCalls
namespace Go.Proofs.YtbadpmghlclfkaaDoor
open Go.RowKit Go.Conc

section
variable {P : Program} {ops : Array Oper} {Q : Exit → Act → World → Prop} {a : Act} {w : World} {o : Oper} {i : Nat} {rest : List Nat}
/-- What is left of a region, from whatever frame it runs in. -/
def InReg (P : Program) (ops : Array Oper) (Q : Exit → Act → World → Prop) (l : List Nat) (a : Act) (w : World) : Prop :=
  ∀ (b : Frame) (k : List Item) (cs : List Frame), ∃ e a' w', Q e a' w' ∧ Arrives P (lone (b.at a (.inRegion ops l :: k)) cs w) b k cs e a' w'
theorem InReg.region {id : Nat} (h : InReg P ops Q (List.range ops.size) a w) : (Code.region id ops false).wp P Q a w :=
  fun b k cs => let ⟨e, a', w', q, r⟩ := h b k cs; ⟨e, a', w', q, .of_steps (.one step_region) r⟩
theorem InReg.plain (h : wpOps P ops Q rest a w) : InReg P ops Q rest a w := wp_ops rest a w h
theorem InReg.done (h : Q .normal a w) : InReg P ops Q [] a w := fun _ _ _ => ⟨.normal, a, w, h, .one step_region_end⟩
theorem InReg.value {v : Value} {w' : World} (ho : ops[i]? = some o) (hg : o.guard = none) (hr : (execOp a.eval o).run P w = .ok (.value v) w') (h : InReg P ops Q rest (a.put o.dst v) w') : InReg P ops Q (i :: rest) a w := by
  intro b k cs
  have hw : Region.wanted o (yielded ops a.tmps) = true := by simp [Region.wanted, hg]
  have hq := stepG_op (P := P) (b := b) (k := k) (cs := cs) (w := w) (rest := rest) ho hw
  have hfin : (b.at a (.inRegion ops (i :: rest) :: k)).finish v = b.at (a.put o.dst v) (.inRegion ops rest :: k) := by rw [Frame.finish_at, ho]; rfl
  obtain ⟨e, a', w'', hQ, harr⟩ := h b k cs
  refine ⟨e, a', w'', hQ, .of_steps (.one (step_lone_go ?_)) harr⟩
  rw [hq, ← hfin]; simp [stepG.apply, hr]
theorem comm_step {cases : Array CommCase} {bl : Bool} {sh : CommShape} {w' : World} (b : Frame) (k : List Item) (cs : List Frame) (ho : ops[i]? = some o) (hg : o.guard = none) (hr : (execOp a.eval o).run P w = .ok (.comm cases bl sh) w') :
    ∃ es, stepG P true (G (b.at a (.inRegion ops (i :: rest) :: k)) cs) w = .comm (G (b.at a (.inRegion ops (i :: rest) :: k)) cs) cases bl sh w' es := by
  have hw : Region.wanted o (yielded ops a.tmps) = true := by simp [Region.wanted, hg]
  have hq := stepG_op (P := P) (b := b) (k := k) (cs := cs) (w := w) (rest := rest) ho hw
  unfold G
  rw [hq]
  simp [stepG.apply, hr, GStep.after]
/-- A send into a buffer that has room. -/
theorem InReg.send {c cap s r : Nat} {buf : Array Value} {v z : Value} {tm : Bool} {w' : World} (ho : ops[i]? = some o) (hg : o.guard = none) (hr : (execOp a.eval o).run P w = .ok (.comm #[scase c v z] true .send) w')
    (hc : w'.heap[c]? = some (.chan cap buf false s r tm)) (hroom : buf.size < cap) (h : InReg P ops Q rest (a.put o.dst undef) (w'.setChan c cap (buf.push v) false (s + 1) r tm)) : InReg P ops Q (i :: rest) a w := by
  intro b k cs
  obtain ⟨es, hs⟩ := comm_step (P := P) (rest := rest) b k cs ho hg hr
  have hfin : (b.at a (.inRegion ops (i :: rest) :: k)).finish undef = b.at (a.put o.dst undef) (.inRegion ops rest :: k) := by rw [Frame.finish_at, ho]; rfl
  have st := step_lone_send_room (P := P) hs hc hroom
  rw [hfin] at st
  obtain ⟨e, a', w'', hQ, harr⟩ := h b k cs
  exact ⟨e, a', w'', hQ, .of_steps (.one st) harr⟩
/-- A receive from a buffer that holds something. -/
theorem InReg.recv {c cap s r : Nat} {buf : Array Value} {z : Value} {closed tm ok : Bool} {w' : World} (ho : ops[i]? = some o) (hg : o.guard = none) (hr : (execOp a.eval o).run P w = .ok (.comm #[rcase c z] true (.recv ok)) w')
    (hc : w'.heap[c]? = some (.chan cap buf closed s r tm)) (hsome : 0 < buf.size) (h : InReg P ops Q rest (a.put o.dst (got ok (buf.getD 0 undef) true)) (w'.setChan c cap (buf.extract 1 buf.size) closed s (r + 1) tm)) : InReg P ops Q (i :: rest) a w := by
  intro b k cs
  obtain ⟨es, hs⟩ := comm_step (P := P) (rest := rest) b k cs ho hg hr
  have hfin : ∀ v, (b.at a (.inRegion ops (i :: rest) :: k)).finish v = b.at (a.put o.dst v) (.inRegion ops rest :: k) := by intro v; rw [Frame.finish_at, ho]; rfl
  have st := step_lone_recv_buf (P := P) ok hs hc hsome
  rw [hfin] at st
  obtain ⟨e, a', w'', hQ, harr⟩ := h b k cs
  exact ⟨e, a', w'', hQ, .of_steps (.one st) harr⟩
/-- A receive from a channel that is closed, and holds nothing. -/
theorem InReg.shut {c cap s r : Nat} {z : Value} {tm ok : Bool} {w' : World} (ho : ops[i]? = some o) (hg : o.guard = none) (hr : (execOp a.eval o).run P w = .ok (.comm #[rcase c z] true (.recv ok)) w')
    (hc : w'.heap[c]? = some (.chan cap #[] true s r tm)) (h : InReg P ops Q rest (a.put o.dst (got ok z false)) w') : InReg P ops Q (i :: rest) a w := by
  intro b k cs
  obtain ⟨es, hs⟩ := comm_step (P := P) (rest := rest) b k cs ho hg hr
  have hfin : ∀ v, (b.at a (.inRegion ops (i :: rest) :: k)).finish v = b.at (a.put o.dst v) (.inRegion ops rest :: k) := by intro v; rw [Frame.finish_at, ho]; rfl
  have st := step_lone_recv_shut (P := P) ok hs hc
  rw [hfin] at st
  obtain ⟨e, a', w'', hQ, harr⟩ := h b k cs
  exact ⟨e, a', w'', hQ, .of_steps (.one st) harr⟩
/-- A call of a function that returns. -/
theorem InReg.call {f : FuncId} {args : Array Value} {w' : World} (ho : ops[i]? = some o) (hg : o.guard = none) (hr : (execOp a.eval o).run P w = .ok (.enter f args) w')
    (h : Calls P f args w' fun e w'' => ∃ v, e = .returned v ∧ InReg P ops Q rest (a.put o.dst v) w'') : InReg P ops Q (i :: rest) a w := by
  intro b k cs
  have hw : Region.wanted o (yielded ops a.tmps) = true := by simp [Region.wanted, hg]
  have hq := stepG_op (P := P) (b := b) (k := k) (cs := cs) (w := w) (rest := rest) ho hw
  have hfin : ∀ v, (b.at a (.inRegion ops (i :: rest) :: k)).finish v = b.at (a.put o.dst v) (.inRegion ops rest :: k) := by intro v; rw [Frame.finish_at, ho]; rfl
  obtain ⟨e, w'', fr, hR, hsteps, _, hleave⟩ := h (b.at a (.inRegion ops (i :: rest) :: k) :: cs)
  have henter : step P (lone (b.at a (.inRegion ops (i :: rest) :: k)) cs w) = .next (lone (Frame.enter P f args .normal) (b.at a (.inRegion ops (i :: rest) :: k) :: cs) w') :=
    step_lone_go (by rw [hq]; simp [stepG.apply, hr, Frame.at])
  obtain ⟨v, rfl, hI⟩ := hR
  obtain ⟨e, a', w₃, hQ, harr⟩ := hI b k cs
  refine ⟨e, a', w₃, hQ, .of_steps (.head henter (hsteps.trans (.one ?_))) harr⟩
  rw [← hfin]; exact step_leave_returned hleave
end
end Go.Proofs.YtbadpmghlclfkaaDoor
