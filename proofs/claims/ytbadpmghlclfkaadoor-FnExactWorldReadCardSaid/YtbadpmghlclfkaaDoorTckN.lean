/- WorldRead of the program. -/
import Derived.Test.YtbadpmghlclfkaaDoorTckL
import Derived.Lib.ParseIntBTie
namespace Go.Proofs.YtbadpmghlclfkaaDoor
open Go.RowKit Go.Conc

theorem readD_64 (l : List UInt8) : int64B (readD l) := by
  unfold readD int64B
  rcases hp : Lib.parseIntB 64 l with v | _ | _
  · have := Lib.parseIntB_bounds hp
    simp only
    omega
  · simp
  · simp only
    unfold Lib.intSat
    split <;> omega
theorem kindT_64 (l : List UInt8) : int64B (kindT l) := by
  unfold kindT int64B
  repeat' split
  all_goals omega
theorem readI_wf {l : List UInt8} (h : l.length ≤ 8000) : TikWf (readI l) := by
  refine ⟨?_, kindT_64 _, readD_64 _⟩
  unfold readI
  dsimp only
  rw [bytesOf_size]
  have h1 := (cut_len l [32]).2
  have h2 := (cut_len (Lib.cut l [32]).2.1 [32]).2
  unfold maxLen
  omega
theorem split_piece (b : UInt8) : ∀ (l cur : List UInt8), ∀ x ∈ splitB b cur l, x.length ≤ cur.length + l.length
  | [], cur, x, hx => by simp [splitB] at hx; subst hx; simp
  | c :: l, cur, x, hx => by
    rw [splitB] at hx
    split at hx
    · rcases List.mem_cons.1 hx with rfl | hx
      · omega
      · have := split_piece b l [] x hx
        simp at this ⊢
        omega
    · have := split_piece b l (cur ++ [c]) x hx
      simp at this ⊢
      omega
theorem splitB_len (b : UInt8) : ∀ (l cur : List UInt8), (splitB b cur l).length ≤ l.length + 1
  | [], cur => by simp [splitB]
  | c :: l, cur => by
    rw [splitB]
    split
    · have := splitB_len b l []; simp; omega
    · have := splitB_len b l (cur ++ [c]); simp; omega
theorem lines_len {t : List UInt8} (h : t.length ≤ 8000) : (linesT t).length ≤ 8000 ∧ ∀ x ∈ linesT t, x.length ≤ 8000 := by
  unfold linesT
  refine ⟨?_, fun x hx => ?_⟩
  · rw [List.length_dropLast]
    have := splitB_len 10 t []
    omega
  · have := split_piece 10 t [] x (List.dropLast_subset _ hx)
    simp at this
    omega
theorem worldI_wf {t : List UInt8} (h : t.length ≤ 8000) : (worldI t).length ≤ 8000 ∧ ∀ x ∈ worldI t, TikWf x := by
  have hl := lines_len h
  unfold worldI
  refine ⟨by rw [List.length_map]; exact hl.1, fun x hx => ?_⟩
  obtain ⟨y, hy, rfl⟩ := List.mem_map.1 hx
  exact readI_wf (hl.2 y hy)
/-- What WorldRead hands back, in new memory. -/
def WorldEnd (base : Nat) (R : WoR) (w : World) (e : Ending) (w' : World) : Prop := ∃ A cap, e = .returned (.agg #[.slice A R.l.length cap, .int .i64 R.c]) ∧ OwnTRow w' base (.slice A R.l.length cap) R.l ∧ Below base w w'
theorem OwnTRow.nil (w : World) (base : Nat) : OwnTRow w base (.slice none 0 0) [] := World.ownsRow_nil w base _ 3
theorem WorldEnd.none_ {base : Nat} {w w' : World} {c : Int} (k : Below base w w') : WorldEnd base ⟨[], c⟩ w (.returned (.agg #[.slice none 0 0, .int .i64 c])) w' := ⟨none, 0, rfl, OwnTRow.nil _ _, k⟩
theorem OwnTRow.low {w : World} {b c : Nat} {v : Value} {l : List Tik} (h : OwnTRow w c v l) (hb : b ≤ c) : OwnTRow w b v l := by
  refine ⟨h.1, ?_⟩
  rcases h.2 with h | ⟨g, cap, cur, h1, h2, h3⟩
  · exact .inl h
  · exact .inr ⟨g, cap, cur, h1, Nat.le_trans hb h2, h3⟩
theorem OwnTRow.base {w : World} {base k : Nat} {v : Value} {l : List Tik} (h : OwnTRow w base v l) (e : v.ownBlock = some k) : base ≤ k := own_base h e
theorem OwnTRow.set2 {w : World} {base g : Nat} {v : Value} {l : List Tik} (h : OwnTRow w base v l) (hg : g < base) (x y : Value) : OwnTRow ((w.setCell ⟨g, 0, none⟩ x).setCell ⟨g, 1, none⟩ y) base v l :=
  (h.setOther (fun e => by have := h.base e; omega) 0 x).setOther (fun e => by have := h.base e; omega) 1 y
theorem OwnTRow.form {w : World} {base : Nat} {v : Value} {l : List Tik} (h : OwnTRow w base v l) : ∃ A cap, v = .slice A l.length cap := by
  rcases h.2 with ⟨rfl, hn⟩ | ⟨g, cap, cur, rfl, _⟩
  · exact ⟨none, 0, by rw [hn]⟩
  · exact ⟨_, cap, rfl⟩
theorem below_pair {w w' : World} {b g : Nat} (h : Below b w w') (hg : b ≤ g) (x y : Value) : Below b w ((w'.setCell ⟨g, 0, none⟩ x).setCell ⟨g, 1, none⟩ y) := (h.setCell (p := ⟨g, 0, none⟩) hg x).setCell (p := ⟨g, 1, none⟩) hg y
theorem ChanHas.grownT {w w' : World} {c cap base : Nat} {l : List Tik} {closed : Bool} {s r : Nat} {v : Value} {m : List Tik} (h : ChanHas w c cap l closed s r) (ho : OwnTRow w base v m) (hg : w.grownBy w' v.ownBlock) : ChanHas w' c cap l closed s r := by
  refine (hg.block c h.lt (fun hv => ?_)).trans h
  rcases ho.2 with ⟨rfl, _⟩ | ⟨g, cap', cur, rfl, _, hh, _⟩
  · simp [Value.ownBlock] at hv
  · simp [Value.ownBlock] at hv
    subst hv
    unfold ChanHas at h
    rw [hh] at h
    cases h
theorem OwnTRow.chan {w : World} {c cap base : Nat} {l : List Tik} {closed : Bool} {s r : Nat} {v : Value} {m : List Tik} (ho : OwnTRow w base v m) (h : ChanHas w c cap l closed s r) (cap' : Nat) (buf : Array Value) (cl : Bool) (s' r' : Nat) (tm : Bool) : OwnTRow (w.setChan c cap' buf cl s' r' tm) base v m := by
  have hg : w.grownBy (w.setChan c cap' buf cl s' r' tm) (some c) := ⟨rfl, rfl, rfl, by rw [size_setChan]; exact Nat.le_refl _, fun b _ hne => by
    simp only [World.setChan]
    rw [Array.getElem?_setIfInBounds_ne (fun e => hne (by rw [e]))]⟩
  refine World.ownsRow.kept ho hg (.inr fun hv => ?_)
  rcases ho.2 with ⟨rfl, _⟩ | ⟨g, cap', cur, rfl, _, hh, _⟩
  · simp [Value.ownBlock] at hv
  · simp [Value.ownBlock] at hv
    subst hv
    unfold ChanHas at h
    rw [hh] at h
    cases h
theorem Blk.chan {w : World} {c cap g : Nat} {t : TypeId} {cs : List Value} (h : Blk w g t cs) (hne : g ≠ c) (buf : Array Value) (cl : Bool) (s' r' : Nat) (tm : Bool) : Blk (w.setChan c cap buf cl s' r' tm) g t cs := by
  unfold Blk at h ⊢
  simp only [World.setChan]
  rw [Array.getElem?_setIfInBounds_ne (fun e => hne e.symm)]
  exact h
set_option maxRecDepth 20000 in
set_option maxHeartbeats 16000000 in
theorem implWorldRead_any (s : ByteArray) (w : World) (hs : s.size ≤ 1048576) (hE : Env w) (hT : TWords w) :
    Calls Tryd.prog 10 #[.string s] w (WorldEnd w.heap.size (if 8000 < s.size then ⟨[], 2⟩ else readW (tx s)) w) := by
  have hb0 := Lib.hid ((Below.refl w.heap.size w).alloc (Nat.le_refl _) (.cells #[.slice none 0 0, .int .i64 0] 28))
  have hx0 := Lib.hid (show Blk (w.alloc (.cells #[.slice none 0 0, .int .i64 0] 28)) w.heap.size 28 [.slice none 0 0, .int .i64 0] from heap_alloc_new w _)
  have hE' := Lib.hid hE
  have hT' := Lib.hid hT
  clear hE hT
  by_cases h8 : 8000 < s.size
  · have h8' : (8000 : Int) < (s.size : Int) := by omega
    rw [if_pos h8]
    clear h8
    go_enter Tryd.func10, Tryd.ntmps10
    go_wp2
    refine bodyPost_ret (v := .agg #[.slice none 0 0, .int .i64 2]) (by simp [results, Tryd.results10, go_sem]) rfl ?_
    exact WorldEnd.none_ ((Below.refl _ _).alloc (Nat.le_refl _) _)
  · have h8' : ¬ (8000 : Int) < (s.size : Int) := by omega
    rw [if_neg h8]
    have hln := Lib.hid (tx_size s)
    have hW := Lib.hid (worldI_wf (t := tx s) (by have := hln.out; omega))
    have hLn := Lib.hid (lines_len (t := tx s) (by have := hln.out; omega))
    have hmap := Lib.hid (show (linesT (tx s)).map readI = worldI (tx s) from rfl)
    go_enter Tryd.func10, Tryd.ntmps10
    go_wp2_with (first
      | (go_at_call 48; refine (linesOf_any s _ (by omega)).mono ?_; rintro e1 w1 ⟨v, rfl, hO1, hb1⟩; have hb := Lib.hid (Below.then_ hb0.out hb1 (Nat.le_refl _)); have hx := Lib.hid (hx0.out.up hb1); have hV := Lib.hid hO1.txts; have zs := Lib.hid (show w.heap.size + 1 ≤ w1.heap.size from Nat.le_trans (by simp) hb1.size); clear hb1 hO1)
      | (go_at_call 49; refine (ticksIn_any v (linesT (tx s)) _ hV.out (by have := hLn.out.1; omega) hLn.out.2 (hE'.out.below hb.out) (hT'.out.below hb.out)).mono ?_; rintro e2 w2 ⟨c, rfl, hc, hC, hb1⟩; rw [hmap.out] at hC; replace hx := Lib.hid (hx.out.up hb1); replace hb := Lib.hid (Below.then_ hb.out hb1 (Nat.le_refl _)); have hC0 := Lib.hid hC; have hc0 := Lib.hid (Nat.le_trans zs.out hc); clear hb1 hC hc))
    go_loopw [5] (fun u wr => ∃ k : Nat, k ≤ (worldI (tx s)).length ∧ Hid (OwnTRow wr (w.heap.size + 1) u ((worldI (tx s)).take k)) ∧ Hid (ChanHas wr c (worldI (tx s)).length ((worldI (tx s)).drop k) true (worldI (tx s)).length k) ∧ Hid (Blk wr w.heap.size 28 [.slice none 0 0, .int .i64 0]) ∧ Hid (Below w.heap.size w wr)) (fun _ wr => chanLeft wr c)
    case atStart => exact ⟨0, Nat.zero_le _, Lib.hid (OwnTRow.nil _ _), hC0, hx, hb⟩
    case round =>
      clear hb hx hV zs hC0
      obtain ⟨k, hk, hO, hC, hx, hb⟩ := hrel
      have hcB := hc0.out
      by_cases hlt : k < (worldI (tx s)).length
      · have hleft := Lib.hid hC.out.left
        go_upto_region 6 with fail
        refine InReg.region ?_
        show InReg _ _ _ [0, 1] _ _
        refine InReg.recv (c := c) rfl rfl (recv_tick _ _ c 17 _ rfl rfl) hC.out (by simp; omega) ?_
        rw [chan_first (worldI (tx s)) k hlt, chan_rest (worldI (tx s)) k hlt]
        have hC2 := Lib.hid (show ChanHas (wr.setChan c (worldI (tx s)).length (((worldI (tx s)).drop (k + 1)).map tikA).toArray true (worldI (tx s)).length (k + 1) false) c (worldI (tx s)).length ((worldI (tx s)).drop (k + 1)) true (worldI (tx s)).length (k + 1) from heap_setChan _ _ _ _ _ _ _ _ hC.out.lt)
        have hb2 := Lib.hid (below_setChan hb.out (show w.heap.size ≤ c by omega) (worldI (tx s)).length (((worldI (tx s)).drop (k + 1)).map tikA).toArray true (worldI (tx s)).length (k + 1) false)
        have hO2 := Lib.hid (hO.out.chan hC.out (worldI (tx s)).length (((worldI (tx s)).drop (k + 1)).map tikA).toArray true (worldI (tx s)).length (k + 1) false)
        have hx2 := Lib.hid (hx.out.chan (cap := (worldI (tx s)).length) (show w.heap.size ≠ c by omega) (((worldI (tx s)).drop (k + 1)).map tikA).toArray true (worldI (tx s)).length (k + 1) false)
        clear hO hC hb hx
        generalize wr.setChan c (worldI (tx s)).length (((worldI (tx s)).drop (k + 1)).map tikA).toArray true (worldI (tx s)).length (k + 1) false = W at hC2 hb2 hO2 hx2 ⊢
        refine InReg.value (v := .bool true) rfl rfl (by unfold got tikA; go_simp; rfl) ?_
        refine InReg.done ?_
        have hO := Lib.hid (hO2.out.alloc (.cells #[.int .i64 (worldI (tx s))[k].kind, .int .i64 (worldI (tx s))[k].seat, .string (worldI (tx s))[k].text] 31))
        have hC := Lib.hid (hC2.out.alloc (.cells #[.int .i64 (worldI (tx s))[k].kind, .int .i64 (worldI (tx s))[k].seat, .string (worldI (tx s))[k].text] 31))
        have hx := Lib.hid (hx2.out.alloc (.cells #[.int .i64 (worldI (tx s))[k].kind, .int .i64 (worldI (tx s))[k].seat, .string (worldI (tx s))[k].text] 31))
        have hb := Lib.hid (hb2.out.alloc hb2.out.size (.cells #[.int .i64 (worldI (tx s))[k].kind, .int .i64 (worldI (tx s))[k].seat, .string (worldI (tx s))[k].text] 31))
        have hC4 := Lib.hid (hC.out.alloc (.cells #[.int .i64 (worldI (tx s))[k].kind, .int .i64 (worldI (tx s))[k].seat, .string (worldI (tx s))[k].text] 31))
        have hx4 := Lib.hid (hx.out.alloc (.cells #[.int .i64 (worldI (tx s))[k].kind, .int .i64 (worldI (tx s))[k].seat, .string (worldI (tx s))[k].text] 31))
        have hO4 := Lib.hid (hO.out.alloc (.cells #[.int .i64 (worldI (tx s))[k].kind, .int .i64 (worldI (tx s))[k].seat, .string (worldI (tx s))[k].text] 31))
        have hb4 := Lib.hid (hb.out.alloc hb.out.size (.cells #[.int .i64 (worldI (tx s))[k].kind, .int .i64 (worldI (tx s))[k].seat, .string (worldI (tx s))[k].text] 31))
        have hzB := Lib.hid (show w.heap.size + 1 ≤ (W.alloc (.cells #[.int .i64 (worldI (tx s))[k].kind, .int .i64 (worldI (tx s))[k].seat, .string (worldI (tx s))[k].text] 31)).heap.size by have := hb2.out.size; simp; omega)
        have hlen := Lib.hid (show ((worldI (tx s)).take k).length < 1048576 by rw [List.length_take]; have := hW.out.1; omega)
        have hsn := Lib.hid (show (worldI (tx s)).take k ++ [(worldI (tx s))[k]] = (worldI (tx s)).take (k + 1) from (List.take_succ_eq_append_getElem hlt).symm)
        clear hC2 hb2 hO2 hx2
        unfold got tikA
        go_wp2_with (at_builtin; refine wpList_append_tik rfl (.tmp 21) (.tmp 23) rfl (w.heap.size + 1) _ ((worldI (tx s)).take k) (worldI (tx s))[k] 31 rfl hO.out (W.heap.size + 1) (by simp) rfl hlen.out hzB.out ?_; intro v5 w5 ho5 hg5; rw [hsn.out] at ho5; have hC5 := Lib.hid (hC4.out.grownT hO4.out hg5); have hb5 := Lib.hid (hb4.out.grown hg5 hb4.out.size (fun j e => by have := hO4.out.base e; omega)); have hx5 := Lib.hid ((hg5.block w.heap.size hx4.out.lt (fun e => by have := hO4.out.base e.symm; omega)).trans hx4.out); have hO5 := Lib.hid ho5; clear hg5 ho5)
        go_roundw
        case rel => exact ⟨k + 1, by omega, hO5, hC5, hx5, hb5⟩
        case measure => rw [hC5.out.left, hleft.out, List.length_drop, List.length_drop]; omega
      · obtain rfl : k = (worldI (tx s)).length := by omega
        go_upto_region 6 with fail
        refine InReg.region ?_
        show InReg _ _ _ [0, 1] _ _
        have hsh : wr.heap[c]? = some (.chan (worldI (tx s)).length #[] true (worldI (tx s)).length (worldI (tx s)).length false) := by have := hC.out; unfold ChanHas at this; rwa [List.drop_length] at this
        refine InReg.shut (c := c) rfl rfl (recv_tick _ _ c 17 _ rfl rfl) hsh ?_
        refine InReg.value (v := .bool false) rfl rfl (by unfold got; go_simp; rfl) ?_
        refine InReg.done ?_
        unfold got
        obtain ⟨R, hR⟩ : ∃ R, R = worldI (tx s) := ⟨_, rfl⟩
        have hO3 := Lib.hid (show OwnTRow wr (w.heap.size + 1) u5 R by rw [hR]; have := hO.out; rwa [List.take_length] at this)
        have hti := Lib.hid (show Tiks wr u5 R by rw [hR]; refine OwnTRow.tiks (base := w.heap.size + 1) (by rw [← hR]; exact hO3.out) (by have := hW.out.1; omega) hW.out.2)
        obtain ⟨A, cap, rfl⟩ := hO3.out.form
        obtain ⟨t, ht⟩ : ∃ t, t = textW R := ⟨_, rfl⟩
        have hCT := Lib.hid (fun w (h : Tiks w (.slice A R.length cap) R) (hE : Pow w) (hT : TWords w) => show Calls Tryd.prog 8 #[.slice A R.length cap] w (Gives (.string t) w) from by rw [ht]; exact implWorldText_any _ R w h hE hT)
        have hrd := Lib.hid (show readW (tx s) = if t = s then ⟨R, 0⟩ else ⟨[], 3⟩ by unfold readW; rw [ht, hR, bytes_tx])
        clear hO hsh hC hR ht hW hLn hmap
        by_cases hts : t = s
        · have hrd2 := Lib.hid (show readW (tx s) = ⟨R, 0⟩ by rw [hrd.out, if_pos hts])
          have hn : t.toList = s.toList := by rw [hts]
          clear hts hrd
          go_wp2_with (go_at_call 8; refine (hCT.out _ hti.out (hE'.out.below hb.out).pow (hT'.out.below hb.out)).mono ?_; rintro e6 w6 ⟨rfl, hb1⟩; replace hO3 := Lib.hid (hO3.out.below hb1); replace hx := Lib.hid (hx.out.up hb1); replace hb := Lib.hid (Below.then_ hb.out hb1 (Nat.le_refl _)); clear hb1; obtain ⟨y0, y1, yf0, yf1⟩ := hx.out.two; have hly := hx.out.lt)
          refine bodyPost_ret (v := .agg #[.slice A R.length cap, .int .i64 0]) (by simp [results, Tryd.results10, go_sem, y0, y1]) rfl ?_
          rw [hrd2.out]
          exact ⟨A, cap, rfl, (hO3.out.set2 (by omega) _ _).low (by omega), below_pair hb.out (Nat.le_refl _) _ _⟩
        · have hrd2 := Lib.hid (show readW (tx s) = ⟨[], 3⟩ by rw [hrd.out, if_neg hts])
          have hn := str_ne hts
          clear hts hrd
          go_wp2_with (go_at_call 8; refine (hCT.out _ hti.out (hE'.out.below hb.out).pow (hT'.out.below hb.out)).mono ?_; rintro e6 w6 ⟨rfl, hb1⟩; replace hx := Lib.hid (hx.out.up hb1); replace hb := Lib.hid (Below.then_ hb.out hb1 (Nat.le_refl _)); clear hb1; obtain ⟨y0, y1, yf0, yf1⟩ := hx.out.two; have hly := hx.out.lt)
          refine bodyPost_ret (v := .agg #[.slice none 0 0, .int .i64 3]) (by simp [results, Tryd.results10, go_sem, y0, y1]) rfl ?_
          rw [hrd2.out]
          exact WorldEnd.none_ (below_pair hb.out (Nat.le_refl _) _ _)
end Go.Proofs.YtbadpmghlclfkaaDoor
