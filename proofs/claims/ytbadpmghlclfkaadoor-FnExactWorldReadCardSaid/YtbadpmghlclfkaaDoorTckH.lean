/- The ticks of a list by a channel that is closed behind the last one. -/
import Derived.Test.YtbadpmghlclfkaaDoorTckG
import Derived.Test.YtbadpmghlclfkaaDoorChan
import Derived.Conc.SmallLaws
import Derived.Conc.LoneSelectN
import Derived.Deep.Cut
namespace Go.Proofs.YtbadpmghlclfkaaDoor
open Go.RowKit Go.Conc

/-- A channel that holds these ticks, in order: how many were sent, whether it is closed. -/
def ChanHas (w : World) (c cap : Nat) (l : List Tik) (closed : Bool) (s r : Nat) : Prop := w.heap[c]? = some (.chan cap (l.map tikA).toArray closed s r false)
theorem ChanHas.lt {w : World} {c cap : Nat} {l : List Tik} {closed : Bool} {s r : Nat} (h : ChanHas w c cap l closed s r) : c < w.heap.size := (Array.getElem?_eq_some_iff.1 h).1
theorem ChanHas.below {w w' : World} {c cap B : Nat} {l : List Tik} {closed : Bool} {s r : Nat} (h : ChanHas w c cap l closed s r) (k : Below B w w') (hc : c < B) : ChanHas w' c cap l closed s r := (k.block c hc).trans h
theorem ChanHas.alloc {w : World} {c cap : Nat} {l : List Tik} {closed : Bool} {s r : Nat} (h : ChanHas w c cap l closed s r) (o : Obj) : ChanHas (w.alloc o) c cap l closed s r := (Below.heap_alloc w o c h.lt).trans h
theorem map_push (l : List Tik) (k : Nat) (hk : k < l.length) : ((l.take k).map tikA).toArray.push (tikA l[k]) = ((l.take (k + 1)).map tikA).toArray := by
  rw [List.take_succ_eq_append_getElem hk, List.map_append]; simp
/-- What ticksOf answers. -/
def ChanEnd (l : List Tik) (w : World) (e : Ending) (w' : World) : Prop := ∃ c, e = .returned (.chan (some c)) ∧ w.heap.size ≤ c ∧ ChanHas w' c l.length l true l.length 0 ∧ Below w.heap.size w w'
theorem make_ticks (n : Nat) (h : n ≤ 1048576) (w : World) : (Instr.makeChan 110 (.int .i64 (n : Int))).run Tryd.prog w = .ok (.chan (some w.heap.size)) (w.alloc (.chan n #[] false 0 0 false)) := by
  obtain ⟨i0, hi, hz0, hz1, hz2⟩ := info_parts Tryd.info31
  exact run_makeChan (P := Tryd.prog) Tryd.underlying110 hi .i64 n (by omega) (by rw [hz2]; omega)
set_option maxHeartbeats 8000000 in
theorem ticksOf_any (v : Value) (l : List Tik) (w : World) (hv : Tiks w v l) (hl : l.length ≤ 1048576) :
    Calls Tryd.prog 41 #[v] w (ChanEnd l w) := by
  obtain ⟨A, cap, rfl⟩ := hv.form
  have hv' := Lib.hid hv
  clear hv
  have hmk := make_ticks l.length hl w
  go_enter Tryd.func41, Tryd.ntmps41
  go_wp2
  clear hmk
  go_loopw [11] (fun i wr => ∃ k : Nat, k ≤ l.length ∧ i = .int .i64 (k : Int) ∧ Hid (ChanHas wr w.heap.size l.length (l.take k) false k 0) ∧ Hid (Below w.heap.size w wr)) (fun i _ => l.length - (intOf i).toNat)
  case atStart => exact ⟨0, Nat.zero_le _, rfl, Lib.hid (heap_alloc_new w _), Lib.hid ((Below.refl _ _).alloc (Nat.le_refl _) _)⟩
  case round =>
    obtain ⟨k, hk, rfl, hC, hb⟩ := hrel
    by_cases hlt : k < l.length
    · have hlt' : (k : Int) < (l.length : Int) := by omega
      have hs := Lib.hid (hv'.out.below hb.out)
      obtain ⟨b, off, rfl, hbk, c0, c1, c2⟩ := hs.out.three k hlt
      have ha := Lib.hid (hC.out.alloc (.cells #[.int .i64 l[k].kind, .int .i64 l[k].seat, .string l[k].text] 31))
      have hbx := Lib.hid (show Blk (wr.alloc (.cells #[.int .i64 l[k].kind, .int .i64 l[k].seat, .string l[k].text] 31)) wr.heap.size 31 [.int .i64 l[k].kind, .int .i64 l[k].seat, .string l[k].text] from heap_alloc_new wr _)
      have hb2 := Lib.hid (hb.out.alloc hb.out.size (.cells #[.int .i64 l[k].kind, .int .i64 l[k].seat, .string l[k].text] 31))
      go_upto_region 5 with fail
      refine InReg.region ?_
      show InReg _ _ _ [0, 1, 2] _ _
      obtain ⟨x0, x1, x2, -⟩ := hbx.out.three
      refine InReg.value (v := .chan (some w.heap.size)) rfl rfl (by go_simp; rfl) ?_
      refine InReg.value (v := tikA l[k]) rfl rfl (by unfold tikA; go_simp; rfl) ?_
      refine InReg.send (c := w.heap.size) (v := tikA l[k]) (z := .tuple #[]) rfl rfl (by rfl) ha.out (by simp; omega) ?_
      rw [map_push l k hlt]
      have hC3 := Lib.hid (show ChanHas ((wr.alloc (.cells #[.int .i64 l[k].kind, .int .i64 l[k].seat, .string l[k].text] 31)).setChan w.heap.size l.length ((l.take (k + 1)).map tikA).toArray false (k + 1) 0 false) w.heap.size l.length (l.take (k + 1)) false (k + 1) 0 from heap_setChan _ _ _ _ _ _ _ _ ha.out.lt)
      have hb3 := Lib.hid (below_setChan hb2.out (Nat.le_refl w.heap.size) l.length ((l.take (k + 1)).map tikA).toArray false (k + 1) 0 false)
      clear x0 x1 x2 hbx ha hb2 hC hb c0 c1 c2
      generalize (wr.alloc (.cells #[.int .i64 l[k].kind, .int .i64 l[k].seat, .string l[k].text] 31)).setChan w.heap.size l.length ((l.take (k + 1)).map tikA).toArray false (k + 1) 0 false = W at hC3 hb3 ⊢
      refine InReg.done ?_
      go_wp2
      go_roundw
      case rel => exact ⟨k + 1, by omega, by go_num, hC3, hb3⟩
      case measure => simp [intOf]; omega
    · have hlt' : ¬ (k : Int) < (l.length : Int) := by omega
      obtain rfl : k = l.length := by omega
      have hcl := fun ats ty => run_close_open (P := Tryd.prog) (w := wr) ats ty hC.out
      rw [List.take_length] at hcl
      have hfin := Lib.hid (show ChanHas (wr.setChan w.heap.size l.length (l.map tikA).toArray true l.length 0 false) w.heap.size l.length l true l.length 0 from heap_setChan _ _ _ _ _ _ _ _ hC.out.lt)
      have hbel := Lib.hid (below_setChan hb.out (Nat.le_refl w.heap.size) l.length (l.map tikA).toArray true l.length 0 false)
      clear hC
      go_wp2
      go_ret
      exact ⟨_, rfl, Nat.le_refl _, hfin.out, hbel.out⟩
end Go.Proofs.YtbadpmghlclfkaaDoor
