/- WorldText of the program: the ticks come by a channel. -/
import Derived.Test.YtbadpmghlclfkaaDoorTckH
import Derived.Test.YtbadpmghlclfkaaDoorVaultC
namespace Go.Proofs.YtbadpmghlclfkaaDoor
open Go.RowKit Go.Conc

/-- How many values lie in a channel's buffer. -/
def chanLeft (w : World) (c : Nat) : Nat := match w.heap[c]? with
  | some (.chan _ buf _ _ _ _) => buf.size
  | _ => 0
theorem ChanHas.left {w : World} {c cap : Nat} {l : List Tik} {closed : Bool} {s r : Nat} (h : ChanHas w c cap l closed s r) : chanLeft w c = l.length := by
  unfold chanLeft; unfold ChanHas at h; rw [h]; simp
theorem ChanHas.grown {w w' : World} {c cap base : Nat} {l : List Tik} {closed : Bool} {s r : Nat} {e : TypeId} {v : Value} {m : List UInt8} (h : ChanHas w c cap l closed s r) (ho : OwnBytes w base e v m) (hg : w.grownBy w' v.ownBlock) : ChanHas w' c cap l closed s r := by
  refine (hg.block c h.lt (fun hv => ?_)).trans h
  rcases ho.2 with ⟨rfl, _⟩ | ⟨g, cap', cur, rfl, _, hh, _⟩
  · simp [Value.ownBlock] at hv
  · simp [Value.ownBlock] at hv
    subst hv
    unfold ChanHas at h
    rw [hh] at h
    cases h
theorem OwnBytes.chan {w : World} {c cap base : Nat} {l : List Tik} {closed : Bool} {s r : Nat} {e : TypeId} {v : Value} {m : List UInt8} (ho : OwnBytes w base e v m) (h : ChanHas w c cap l closed s r) (cap' : Nat) (buf : Array Value) (cl : Bool) (s' r' : Nat) (tm : Bool) : OwnBytes (w.setChan c cap' buf cl s' r' tm) base e v m := by
  have hg : w.grownBy (w.setChan c cap' buf cl s' r' tm) (some c) := ⟨rfl, rfl, rfl, by rw [size_setChan]; exact Nat.le_refl _, fun b _ hne => by
    simp only [World.setChan]
    rw [Array.getElem?_setIfInBounds_ne (fun e => hne (by rw [e]))]⟩
  refine World.ownsRow.kept ho hg (.inr fun hv => ?_)
  rcases ho.2 with ⟨rfl, _⟩ | ⟨g, cap', cur, rfl, _, hh, _⟩
  · simp [Value.ownBlock] at hv
  · simp [Value.ownBlock] at hv
    subst hv
    unfold ChanHas at h
    rw [hh] at h
    cases h
theorem chan_first (l : List Tik) (k : Nat) (hk : k < l.length) : (((l.drop k).map tikA).toArray).getD 0 undef = tikA l[k] := by
  rw [List.drop_eq_getElem_cons hk]; simp [List.getElem?_eq_getElem hk]
theorem chan_rest (l : List Tik) (k : Nat) (hk : k < l.length) : (((l.drop k).map tikA).toArray).extract 1 (((l.drop k).map tikA).toArray).size = ((l.drop (k + 1)).map tikA).toArray := by
  rw [List.drop_eq_getElem_cons hk]
  apply Array.ext'
  simp [List.extract_eq_take_drop]
  rw [List.take_of_length_le (by simp; omega)]
theorem recv_tick (a : Act) (o : Oper) (c s : Nat) (w : World) (ho : o.op = Op.recv 71 (Operand.tmp s) true) (hs : a.eval (.tmp s) = .chan (some c)) :
    (execOp a.eval o).run Tryd.prog w = .ok (.comm #[rcase c (.agg #[.int .i64 0, .int .i64 0, .string ByteArray.empty])] true (.recv true)) w := by
  have hz : (zeroValue 31).run Tryd.prog w = .ok (.agg #[.int .i64 0, .int .i64 0, .string ByteArray.empty]) w := by
    obtain ⟨i0, hi, hz0, hz1, hz2⟩ := info_parts Tryd.info31
    simp [zeroValue, typeInfo, hi, hz0]
  simp [execOp, ho, run_underlying Tryd.underlying71, hz, hs, rcase]
set_option maxRecDepth 20000 in
set_option maxHeartbeats 16000000 in
theorem implWorldText_any (v : Value) (l : List Tik) (w : World) (hv : Tiks w v l) (hE : Pow w) (hT : TWords w) :
    Calls Tryd.prog 8 #[v] w (Gives (.string (textW l)) w) := by
  obtain ⟨A, cap, rfl⟩ := hv.form
  have hv' := Lib.hid hv
  have hE' := Lib.hid hE
  have hT' := Lib.hid hT
  clear hv hE hT
  cases hok : worldB l with
  | false =>
    have e := Lib.hid (textW_no hok)
    go_enter Tryd.func8, Tryd.ntmps8
    go_wp2_with (go_at_call 17; refine (implWorld_any _ l _ hv'.out).mono ?_; rintro e1 w1 ⟨rfl, hb1⟩; rw [hok]; replace hb1 := Lib.hid hb1)
    go_ret
    exact ⟨by rw [e.out]; rfl, hb1.out⟩
  | true =>
    have hp := worldB_parts hok
    have h60 := hp.1
    have hall := Lib.hid hp.2
    have e := Lib.hid (textW_yes hok)
    obtain ⟨i0, hi, hz0, hz1, hz2⟩ := info_parts Tryd.infoC5
    clear hp
    go_enter Tryd.func8, Tryd.ntmps8
    go_wp2_with (first
      | (go_at_call 17; refine (implWorld_any _ l _ hv'.out).mono ?_; rintro e1 w1 ⟨rfl, hb1⟩; rw [hok]; replace hb1 := Lib.hid hb1)
      | (go_at_call 41; refine (ticksOf_any _ l _ (hv'.out.below hb1.out) (by omega)).mono ?_; rintro e2 w2 ⟨c, rfl, hc, hC, hb2⟩; have hC0 := Lib.hid hC; have hc0 := Lib.hid (Nat.le_trans hb1.out.size hc); have hbW := Lib.hid (Below.then_ hb1.out hb2 (Nat.le_refl _)); clear hb2 hC hc))
    go_loopw [3] (fun u wr => ∃ k : Nat, k ≤ l.length ∧ Hid (OwnBytes wr w.heap.size 5 u (worldT (l.take k))) ∧ Hid (ChanHas wr c l.length (l.drop k) true l.length k) ∧ Hid (Below w.heap.size w wr)) (fun _ wr => chanLeft wr c)
    case atStart => exact ⟨0, Nat.zero_le _, Lib.hid (World.ownsRow_nil _ _ _ 1), Lib.hid hC0.out, hbW⟩
    case round =>
      obtain ⟨k, hk, hO, hC, hb⟩ := hrel
      have hcB := hc0.out
      by_cases hlt : k < l.length
      · have hleft := Lib.hid hC.out.left
        go_upto_region 5 with fail
        refine InReg.region ?_
        show InReg _ _ _ [0, 1] _ _
        refine InReg.recv (c := c) rfl rfl (recv_tick _ _ c 9 _ rfl rfl) hC.out (by simp; omega) ?_
        rw [chan_first l k hlt, chan_rest l k hlt]
        have hC2 := Lib.hid (show ChanHas (wr.setChan c l.length ((l.drop (k + 1)).map tikA).toArray true l.length (k + 1) false) c l.length (l.drop (k + 1)) true l.length (k + 1) from heap_setChan _ _ _ _ _ _ _ _ hC.out.lt)
        have hb2 := Lib.hid (below_setChan hb.out hcB l.length ((l.drop (k + 1)).map tikA).toArray true l.length (k + 1) false)
        have hO2 := Lib.hid (OwnBytes.chan hO.out hC.out l.length ((l.drop (k + 1)).map tikA).toArray true l.length (k + 1) false)
        clear hO hC hb
        generalize wr.setChan c l.length ((l.drop (k + 1)).map tikA).toArray true l.length (k + 1) false = W at hC2 hb2 hO2 ⊢
        refine InReg.value (v := .bool true) rfl rfl (by unfold got tikA; go_simp; rfl) ?_
        refine InReg.done ?_
        have ok := Lib.hid (hall.out l[k] (List.getElem_mem hlt))
        have hln := Lib.hid (show (worldT (l.take k)).length + 87 ≤ 1048576 by
          have := worldT_len (l.take k) (take_ok hall.out k)
          rw [List.length_take] at this
          omega)
        have htl := Lib.hid (tickT_len ok.out)
        obtain ⟨t, ht⟩ : ∃ t, t = bytesOf (tickT l[k]) := ⟨_, rfl⟩
        have hts := Lib.hid (show t.size ≤ 86 by rw [ht, bytesOf_size]; exact htl.out)
        have hCT := Lib.hid (fun w (hE : Pow w) (hT : TWords w) => show Calls Tryd.prog 42 #[tikA l[k]] w (Gives (.string t) w) from by rw [ht]; exact tickText_any l[k] ok.out w hE hT)
        have hsn := Lib.hid (show (worldT (l.take k) ++ t.data.toList) ++ [10] = worldT (l.take (k + 1)) by rw [worldT_snoc l k hlt, ht]; simp [bytesOf])
        have hl2 := Lib.hid (show (worldT (l.take k) ++ t.data.toList).length ≤ 1048576 by
          rw [List.length_append, str_len]; have := hln.out; have := hts.out; omega)
        have hC := Lib.hid (hC2.out.alloc (.cells #[.int .i64 l[k].kind, .int .i64 l[k].seat, .string l[k].text] 31))
        have hO := Lib.hid (OwnBytes.alloc hO2.out (.cells #[.int .i64 l[k].kind, .int .i64 l[k].seat, .string l[k].text] 31))
        have hb := Lib.hid (hb2.out.alloc hb2.out.size (.cells #[.int .i64 l[k].kind, .int .i64 l[k].seat, .string l[k].text] 31))
        have hx := Lib.hid (show Blk (W.alloc (.cells #[.int .i64 l[k].kind, .int .i64 l[k].seat, .string l[k].text] 31)) W.heap.size 31 [.int .i64 l[k].kind, .int .i64 l[k].seat, .string l[k].text] from heap_alloc_new W _)
        clear ht htl hC2 hO2 hb2
        obtain ⟨x0, x1, x2, -⟩ := hx.out.three
        unfold got tikA
        go_wp2_with (first
          | (go_at_call 42; refine (hCT.out _ (hE'.out.below hb.out) (hT'.out.below hb.out)).mono ?_; rintro e3 w3 ⟨rfl, hb2⟩; replace hO := Lib.hid (hO.out.below hb2); replace hC := Lib.hid (hC.out.below hb2 hC.out.lt); replace hb := Lib.hid (Below.then_ hb.out hb2 (Nat.le_refl _)); clear hb2)
          | (at_builtin; refine wpList_append_str rfl (.tmp 13) (.tmp 15) rfl w.heap.size _ (worldT (l.take k)) t rfl hO.out rfl (by have := hln.out; have := hts.out; omega) hb.out.size ?_; intro v4 w4 ho4 hg4; have hC4 := Lib.hid (hC.out.grown hO.out hg4); have hb4 := Lib.hid (own_kept hO.out hb.out hg4 hb.out.size); have hO4 := Lib.hid ho4; have hO5 := Lib.hid (OwnBytes.alloc ho4 (.cells #[.int .u8 10] 5)); have hC5 := Lib.hid (hC4.out.alloc (.cells #[.int .u8 10] 5)); have hb5 := Lib.hid (hb4.out.alloc hb4.out.size (.cells #[.int .u8 10] 5)); clear hg4 ho4)
          | (at_builtin; refine wpList_append_byteG rfl (.tmp 17) (.tmp 18) 22 rfl w.heap.size 5 i0 Tryd.underlying22 hi hz0 hz1 hz2 _ (worldT (l.take k) ++ t.data.toList) rfl hO5.out _ 10 rfl (new_byte _ _ _ _ rfl) (by have := hl2.out; omega) hb5.out.size ?_; intro v6 w6 ho6 hg6; rw [hsn.out] at ho6; have hC6 := Lib.hid (hC5.out.grown hO5.out hg6); have hb6 := Lib.hid (own_kept hO5.out hb5.out hg6 hb5.out.size); have hO6 := Lib.hid ho6; clear hg6 ho6))
        go_roundw
        case rel => exact ⟨k + 1, by omega, hO6, hC6, hb6⟩
        case measure => rw [hC6.out.left, hleft.out, List.length_drop, List.length_drop]; omega
      · obtain rfl : k = l.length := by omega
        go_upto_region 5 with fail
        refine InReg.region ?_
        show InReg _ _ _ [0, 1] _ _
        have hsh : wr.heap[c]? = some (.chan l.length #[] true l.length l.length false) := by have := hC.out; unfold ChanHas at this; rwa [List.drop_length] at this
        refine InReg.shut (c := c) rfl rfl (recv_tick _ _ c 9 _ rfl rfl) hsh ?_
        refine InReg.value (v := .bool false) rfl rfl (by unfold got; go_simp; rfl) ?_
        refine InReg.done ?_
        have hcv := own_string (P := Tryd.prog) Tryd.underlying22 Tryd.underlying5 Tryd.underlying9 (show OwnBytes wr w.heap.size 5 u3 (worldT l) by have := hO.out; rw [List.take_length] at this; exact this)
        clear hO hsh hC
        unfold got
        go_wp2
        go_ret
        exact ⟨by rw [e.out]; rfl, hb.out⟩
end Go.Proofs.YtbadpmghlclfkaaDoor
