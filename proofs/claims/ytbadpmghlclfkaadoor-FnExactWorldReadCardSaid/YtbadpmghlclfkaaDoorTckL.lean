/- The ticks of lines by a channel; rows of ticks that grow. -/
import Derived.Test.YtbadpmghlclfkaaDoorTckK
import Derived.Test.YtbadpmghlclfkaaDoorTckI
namespace Go.Proofs.YtbadpmghlclfkaaDoor
open Go.RowKit Go.Conc

theorem call_read (a : Act) (o : Oper) (s : Nat) (t : ByteArray) (w : World) (ho : o.op = Op.call { callee := .value (Operand.func 85), args := #[.tmp s], argTypes := #[9] }) (hs : a.eval (.tmp s) = .string t) :
    (execOp a.eval o).run Tryd.prog w = .ok (.enter 85 #[.string t]) w := by
  have hs' : a.tmps[s]?.getD undef = .string t := by simpa [Act.eval] using hs
  simp [execOp, ho, resolve, invoke, hs', go_sem]
set_option maxHeartbeats 8000000 in
theorem ticksIn_any (v : Value) (ls : List (List UInt8)) (w : World) (hv : Txts w v (piecesT ls)) (hl : ls.length ≤ 8001) (hs : ∀ x ∈ ls, x.length ≤ 8000) (hE : Env w) (hT : TWords w) :
    Calls Tryd.prog 49 #[v] w (ChanEnd (ls.map readI) w) := by
  obtain ⟨A, cap, rfl⟩ := hv.form
  have hv' := Lib.hid hv
  have hE' := Lib.hid hE
  have hT' := Lib.hid hT
  replace hs := Lib.hid hs
  clear hv hE hT
  have hpl := Lib.hid (piecesT_len ls)
  have hmk := make_ticks (piecesT ls).length (by have := hpl.out; omega) w
  go_enter Tryd.func49, Tryd.ntmps49
  go_wp2
  clear hmk
  go_loopw [11] (fun i wr => ∃ k : Nat, k ≤ (piecesT ls).length ∧ i = .int .i64 (k : Int) ∧ Hid (ChanHas wr w.heap.size (piecesT ls).length ((ls.map readI).take k) false k 0) ∧ Hid (Below w.heap.size w wr)) (fun i _ => (piecesT ls).length - (intOf i).toNat)
  case atStart => exact ⟨0, Nat.zero_le _, rfl, Lib.hid (heap_alloc_new w _), Lib.hid ((Below.refl _ _).alloc (Nat.le_refl _) _)⟩
  case round =>
    obtain ⟨k, hk, rfl, hC, hb⟩ := hrel
    by_cases hlt : k < (piecesT ls).length
    · have hlt' : (k : Int) < ((piecesT ls).length : Int) := by omega
      have hlL : k < ls.length := by have := hpl.out; omega
      have hlM : k < (ls.map readI).length := by rw [List.length_map]; exact hlL
      have htx := Lib.hid (hv'.out.below hb.out)
      obtain ⟨b, off, rfl, hbk, c0⟩ := htx.out.at_ k hlt
      obtain ⟨t, ht⟩ : ∃ t, t = (piecesT ls)[k] := ⟨_, rfl⟩
      have htb := Lib.hid (show t = bytesOf ls[k] by rw [ht]; simp [piecesT])
      have hts := Lib.hid (show t.size ≤ 8000 by rw [htb.out, bytesOf_size]; exact hs.out _ (List.getElem_mem hlL))
      have hrd := Lib.hid (show readI (tx t) = (ls.map readI)[k] by rw [htb.out, tx_bytes, List.getElem_map])
      rw [← ht] at c0
      clear ht
      go_upto_region 5 with fail
      refine InReg.region ?_
      show InReg _ _ _ [0, 1, 2, 3] _ _
      refine InReg.value (v := .chan (some w.heap.size)) rfl rfl (by go_simp; rfl) ?_
      refine InReg.value (v := .string t) rfl rfl (by go_simp; rfl) ?_
      refine InReg.call rfl rfl (call_read _ _ 16 t _ rfl rfl) ?_
      refine (readTick_any t _ hts.out (hE'.out.below hb.out) (hT'.out.below hb.out)).mono ?_
      rintro e1 w1 ⟨rfl, hb1⟩
      refine ⟨_, rfl, ?_⟩
      rw [hrd.out]
      have ha := Lib.hid (hC.out.below hb1 hC.out.lt)
      have hb2 := Lib.hid (Below.then_ hb.out hb1 (Nat.le_refl _))
      refine InReg.send (c := w.heap.size) (v := tikA (ls.map readI)[k]) (z := .tuple #[]) rfl rfl (by rfl) ha.out (by simp; have := hpl.out; omega) ?_
      rw [map_push (ls.map readI) k hlM]
      have hC3 := Lib.hid (show ChanHas (w1.setChan w.heap.size (piecesT ls).length (((ls.map readI).take (k + 1)).map tikA).toArray false (k + 1) 0 false) w.heap.size (piecesT ls).length ((ls.map readI).take (k + 1)) false (k + 1) 0 from heap_setChan _ _ _ _ _ _ _ _ ha.out.lt)
      have hb3 := Lib.hid (below_setChan hb2.out (Nat.le_refl w.heap.size) (piecesT ls).length (((ls.map readI).take (k + 1)).map tikA).toArray false (k + 1) 0 false)
      clear ha hb2 hC hb c0 hb1
      generalize w1.setChan w.heap.size (piecesT ls).length (((ls.map readI).take (k + 1)).map tikA).toArray false (k + 1) 0 false = W at hC3 hb3 ⊢
      generalize tikA (ls.map readI)[k] = X
      refine InReg.done ?_
      go_wp2
      go_roundw
      case rel => exact ⟨k + 1, by omega, by go_num, hC3, hb3⟩
      case measure => simp [intOf]; omega
    · have hlt' : ¬ (k : Int) < ((piecesT ls).length : Int) := by omega
      obtain rfl : k = (piecesT ls).length := by omega
      have hcl := fun ats ty => run_close_open (P := Tryd.prog) (w := wr) ats ty hC.out
      rw [List.take_of_length_le (by rw [List.length_map]; have := hpl.out; omega)] at hcl
      have hfin := Lib.hid (show ChanHas (wr.setChan w.heap.size (piecesT ls).length ((ls.map readI).map tikA).toArray true (piecesT ls).length 0 false) w.heap.size (piecesT ls).length (ls.map readI) true (piecesT ls).length 0 from heap_setChan _ _ _ _ _ _ _ _ hC.out.lt)
      have hbel := Lib.hid (below_setChan hb.out (Nat.le_refl w.heap.size) (piecesT ls).length ((ls.map readI).map tikA).toArray true (piecesT ls).length 0 false)
      have hnl := Lib.hid (show (ls.map readI).length = (piecesT ls).length by rw [List.length_map, hpl.out])
      clear hC
      generalize ((ls.map readI).map tikA).toArray = BUF at hcl hfin hbel
      go_wp2
      go_ret
      exact ⟨_, rfl, Nat.le_refl _, by rw [hnl.out]; exact hfin.out, hbel.out⟩
/-- A row of ticks that grows. -/
def OwnTRow (w : World) (base : Nat) (v : Value) (l : List Tik) : Prop := w.ownsRow base 31 3 v l.length (tikRow l)
theorem OwnTRow.alloc {w : World} {base : Nat} {v : Value} {l : List Tik} (h : OwnTRow w base v l) (o : Obj) : OwnTRow (w.alloc o) base v l := World.ownsRow.alloc h o
theorem OwnTRow.below {w w' : World} {base : Nat} {v : Value} {l : List Tik} (h : OwnTRow w base v l) (k : Below w.heap.size w w') : OwnTRow w' base v l := World.ownsRow.kept h (grown_of_below k (Nat.le_refl _)) (by
  rcases h.2 with ⟨rfl, _⟩ | ⟨g, cap, cur, rfl, _⟩
  · exact .inl rfl
  · exact .inr (by simp [Value.ownBlock]))
theorem OwnTRow.setOther {w : World} {base g : Nat} {v : Value} {l : List Tik} (h : OwnTRow w base v l) (hg : v.ownBlock ≠ some g) (i : Nat) (u : Value) : OwnTRow (w.setCell ⟨g, i, none⟩ u) base v l :=
  World.ownsRow.kept h (grown_put (World.grownBy.refl w (some g)) i u) (.inr hg)
theorem OwnTRow.tiks {w : World} {base : Nat} {v : Value} {l : List Tik} (h : OwnTRow w base v l) (hl : l.length ≤ 1048576) (hwf : ∀ x ∈ l, TikWf x) : Tiks w v l := by
  have h' := h
  rcases h.2 with ⟨rfl, h0⟩ | ⟨g, cap, cur, rfl, hb, hg, hnc, hcm, hcs, ht⟩
  · exact ⟨by unfold maxLen; omega, hwf, none, 0, by rw [h0], fun h => by omega⟩
  · refine ⟨by unfold maxLen; omega, hwf, _, cap, rfl, fun h0 => ⟨g, 0, rfl, lt_of_block hg, fun j hj m hm => ?_⟩⟩
    rw [Nat.zero_add, ← tikRow_at l j m hm hj]
    exact World.ownsRow.cellAt h' (j * 3 + m) (by omega)
theorem new_tik (w : World) (y : Tik) (t : TypeId) (j : Nat) (u : Value) (h : (tikV y)[j]? = some u) : (w.alloc (.cells (tikV y).toArray t)).cell? ((⟨w.heap.size, 0, none⟩ : Addr).add j) = some u := by
  have e1 : (⟨w.heap.size, 0, none⟩ : Addr).add j = ⟨w.heap.size, j, none⟩ := by unfold Addr.add; split <;> simp_all
  rw [e1, cell_of_row _ _ _ _ _ _ (heap_alloc_new w _), List.getElem?_toArray, h]
/-- One tick appended; what else may have turned. -/
theorem wpList_append_tik {w : World} {ops : Array Oper} {rest : List Oper} {o : Oper} {a : Act} {Q : Exit → Act → World → Prop} (hgd : o.guard = none) (s x : Operand)
    (ho : o.op = .call { callee := .builtin .append, args := #[s, x], argTypes := #[23, 23] })
    (base : Nat) (v : Value) (l : List Tik) (y : Tik) (t : TypeId) (hs : a.eval s = v) (hown : OwnTRow w base v l) (z : Nat) (hz : z = w.heap.size) (hx : a.eval x = .slice (some ⟨z, 0, none⟩) 1 1)
    (hlen : l.length < 1048576) (hB : base ≤ w.heap.size)
    (h : ∀ v' w', OwnTRow w' base v' (l ++ [y]) → (w.alloc (.cells (tikV y).toArray t)).grownBy w' v.ownBlock → wpList Tryd.prog ops Q rest (a.put o.dst v') w') : wpList Tryd.prog ops Q (o :: rest) a (w.alloc (.cells (tikV y).toArray t)) := by
  subst hz
  obtain ⟨i0, hi, hz0, hz1, hz2⟩ := info_parts Tryd.info31
  refine wpList_append_own _ hgd s x 23 ho base 31 i0 _ 3 32 Tryd.underlying23 hi hz0 hz1 hz2 rfl (by decide) v l.length _ hs (hown.alloc _) ⟨w.heap.size, 0, none⟩ 1 1 (tikV y) hx rfl (fun j u hj => new_tik w y t j u hj) ?_ (by unfold maxLen; omega) (by omega) (by simp; omega) ?_
  · intro u hu
    simp [tikV] at hu
    rcases hu with rfl | rfl | rfl <;> rfl
  · intro v' w' ho' hg _
    refine h v' w' ?_ hg
    unfold OwnTRow tikRow
    rw [List.flatMap_append, List.length_append]
    rw [List.flatMap_cons, List.flatMap_nil, List.append_nil]
    exact ho'
end Go.Proofs.YtbadpmghlclfkaaDoor
