/- The texts of ticks: the program's and the model's. -/
import Derived.Test.YtbadpmghlclfkaaDoorTxtE
import Derived.Test.YtbadpmghlclfkaaDoorTxts
import Derived.Test.YtbadpmghlclfkaaDoorTckT
import Derived.Test.YtbadpmghlclfkaaDoorTxtJ
namespace Go.Proofs.YtbadpmghlclfkaaDoor
open Go.RowKit

def wSays : List UInt8 := [115, 97, 121, 115]
def wShow : List UInt8 := [115, 104, 111, 119]
def wHide : List UInt8 := [104, 105, 100, 101]
def wOver : List UInt8 := [111, 118, 101, 114]
def wTime : List UInt8 := [116, 105, 109, 101]
/-- The words of a tick. -/
def wordsK (x : Tik) : List (List UInt8) :=
  if x.kind = 1 then [wSays, Lib.itoa x.seat, tx x.text]
  else if x.kind = 2 then [wShow, Lib.itoa x.seat]
  else if x.kind = 3 then [wHide, Lib.itoa x.seat]
  else if x.kind = 4 then [wOver, Lib.itoa x.seat]
  else [wTime]
/-- The line of a tick, without its line feed. -/
def tickT (x : Tik) : List UInt8 := Lib.join (wordsK x) [32]
/-- The words with which the lines begin. -/
def TWords (w : World) : Prop := ∀ k (_ : k < 6), w.cell? ⟨0, k, none⟩ = some (.string (bytesOf ([[], wSays, wShow, wHide, wOver, wTime].getD k [])))
theorem TWords.pos {w : World} (h : TWords w) : 0 < w.heap.size := World.block_lt_of_cell? w _ (h 0 (by omega))
theorem TWords.below {w w' : World} (h : TWords w) (hb : Below w.heap.size w w') : TWords w' := fun k hk => (hb.cell (p := ⟨0, k, none⟩) h.pos).trans (h k hk)
theorem own_one (w : World) (x : ByteArray) : OwnTxts (w.alloc (.cells #[.string x] 9)) w.heap.size (.slice (some ⟨w.heap.size, 0, none⟩) 1 1) [x] :=
  ⟨by simp, by simp, .inr ⟨w.heap.size, 1, #[.string x], rfl, Nat.le_refl _, heap_alloc_new w _, Nat.le_refl _, by unfold maxLen; omega, rfl, rfl⟩⟩
theorem one_txts (w : World) (x : ByteArray) : Txts (w.alloc (.cells #[.string x] 9)) (.slice (some ⟨w.heap.size, 0, none⟩) 1 1) [x] := (own_one w x).txts
theorem itoa_le (n : Int) (h0 : 0 ≤ n) (h2 : n ≤ 2) : (Lib.itoa n).length ≤ 20 := by
  rw [itoa_digs n h0 (by omega)]
  unfold digs3
  split <;> (try split) <;> simp
theorem tik_parts {x : Tik} (h : tikOk x = true) : (x.kind = 1 ∧ 0 ≤ x.seat ∧ x.seat ≤ 2 ∧ x.text.size ≤ 60) ∨ (x.kind = 2 ∧ 0 ≤ x.seat ∧ x.seat ≤ 2) ∨ (x.kind = 3 ∧ 0 ≤ x.seat ∧ x.seat ≤ 2) ∨ (x.kind = 4 ∧ 0 ≤ x.seat ∧ x.seat ≤ 2) ∨ x.kind = 5 := by
  unfold tikOk isB at h
  by_cases h1 : x.kind = 1
  · rw [if_pos h1] at h
    simp only [Bool.and_eq_true, decide_eq_true_eq] at h
    exact .inl ⟨h1, h.1.1, h.1.2, h.2.1⟩
  · rw [if_neg h1] at h
    by_cases h2 : 2 ≤ x.kind ∧ x.kind ≤ 4
    · rw [if_pos h2] at h
      simp only [Bool.and_eq_true, decide_eq_true_eq] at h
      have := h.1
      omega
    · rw [if_neg h2] at h
      by_cases h5 : x.kind = 5
      · omega
      · rw [if_neg h5] at h; cases h
set_option maxRecDepth 20000 in
set_option maxHeartbeats 4000000 in
theorem tickText1_any (st : Int) (tt : ByteArray) (h0 : 0 ≤ st) (h2 : st ≤ 2) (hs : tt.size ≤ 60) (w : World) (hE : Pow w) (hT : TWords w) :
    Calls Tryd.prog 42 #[.agg #[.int .i64 1, .int .i64 st, .string tt]] w (Gives (.string (bytesOf (tickT ⟨1, st, tt⟩))) w) := by
  have hw := Lib.hid ((hT.below ((Below.refl w.heap.size w).alloc (Nat.le_refl _) (.cells #[.int .i64 1, .int .i64 st, .string tt] 31))) 1 (by omega))
  have c0 : (w.alloc (.cells #[.int .i64 1, .int .i64 st, .string tt] 31)).cell? ⟨0, 1, none⟩ = some (.string (bytesOf wSays)) := hw.out
  have hb0 := Lib.hid ((Below.refl w.heap.size w).alloc (Nat.le_refl _) (.cells #[.int .i64 1, .int .i64 st, .string tt] 31))
  have hk := Lib.hid (heap_alloc_new w (.cells #[.int .i64 1, .int .i64 st, .string tt] 31))
  have hk2 := Lib.hid (show Blk (w.alloc (.cells #[.int .i64 1, .int .i64 st, .string tt] 31)) w.heap.size 31 [.int .i64 1, .int .i64 st, .string tt] from hk.out)
  have hbW := Lib.hid (hb0.out.alloc hb0.out.size (.cells #[.string (bytesOf wSays)] 9))
  have hk3 := Lib.hid (hk2.out.alloc (.cells #[.string (bytesOf wSays)] 9))
  have hO := Lib.hid (show OwnTxts ((w.alloc (.cells #[.int .i64 1, .int .i64 st, .string tt] 31)).alloc (.cells #[.string (bytesOf wSays)] 9)) (w.heap.size + 1) (.slice (some ⟨w.heap.size + 1, 0, none⟩) 1 1) [bytesOf wSays] by have := own_one (w.alloc (.cells #[.int .i64 1, .int .i64 st, .string tt] 31)) (bytesOf wSays); rwa [World.size_alloc] at this)
  have hE1 := Lib.hid ((hE.alloc (.cells #[.int .i64 1, .int .i64 st, .string tt] 31)).alloc (.cells #[.string (bytesOf wSays)] 9))
  have hB0 := Lib.hid (show w.heap.size + 1 ≤ ((w.alloc (.cells #[.int .i64 1, .int .i64 st, .string tt] 31)).alloc (.cells #[.string (bytesOf wSays)] 9)).heap.size by simp)
  have hws := Lib.hid (show wordsK ⟨1, st, tt⟩ = [wSays, (Lib.itoa st), (tx tt)] from rfl)
  have hjl := Lib.hid (show (Lib.join [wSays, (Lib.itoa st), (tx tt)] [32]).length ≤ 1048576 by
    rw [join_cons2, join_cons2, join_one]
    have a := itoa_le st h0 h2
    have b : (tx tt).length = tt.size := str_len tt
    simp only [List.length_append, List.length_cons, List.length_nil, wSays]
    omega)
  clear hw hk hb0 hE hT
  go_enter Tryd.func42, Tryd.ntmps42
  go_wp2_with (first | (go_at_call 81; refine (digits_pow st (by omega) (by omega) _ hE1.out).mono ?_; rintro e1 w1 ⟨rfl, hb1⟩; obtain ⟨d0, d1, d2, -⟩ := (hk3.out.up hb1).three; replace hk3 := Lib.hid (hk3.out.up hb1); replace hO := Lib.hid (hO.out.below hb1); replace hbW := Lib.hid (Below.then_ hbW.out hb1 (Nat.le_refl _)); replace hB0 := Lib.hid (Nat.le_trans hB0.out hb1.size); have ht1 := Lib.hid (one_txts w1 (bytesOf (Lib.itoa st))); have hO2 := Lib.hid (hO.out.below ((Below.refl _ _).alloc (Nat.le_refl _) (.cells #[.string (bytesOf (Lib.itoa st))] 9))); have hbW2 := Lib.hid (hbW.out.alloc hbW.out.size (.cells #[.string (bytesOf (Lib.itoa st))] 9)); have hB2 := Lib.hid (Nat.le_trans hB0.out (show w1.heap.size ≤ (w1.alloc (.cells #[.string (bytesOf (Lib.itoa st))] 9)).heap.size by simp)); have hk4 := Lib.hid (hk3.out.alloc (.cells #[.string (bytesOf (Lib.itoa st))] 9)); clear hb1) | (at_builtin; refine wpList_append_txts rfl (.tmp 12) (.tmp 16) rfl (w.heap.size + 1) _ _ [bytesOf wSays] [bytesOf (Lib.itoa st)] rfl hO2.out rfl ht1.out (by simp) (show Below (w.heap.size + 1) _ _ from Below.refl _ _) hB2.out ?_; intro v2 w2 ho2 hb2; obtain ⟨A2, cap2, rfl⟩ := ho2.txts.form; have hO3 := Lib.hid ho2; have hk5 := Lib.hid (hk4.out.below hb2 (Nat.lt_succ_self _)); obtain ⟨f0, f1, f2, -⟩ := hk5.out.three; have hbW3 := Lib.hid (hbW2.out.trans (hb2.mono (Nat.le_succ _))); have hB3 := Lib.hid (Nat.le_trans hB2.out hb2.size); clear hb2; have ht3 := Lib.hid (one_txts w2 tt); have hO4 := Lib.hid (hO3.out.below ((Below.refl _ _).alloc (Nat.le_refl _) (.cells #[.string tt] 9))); have hbW4 := Lib.hid (hbW3.out.alloc hbW3.out.size (.cells #[.string tt] 9)); have hB4 := Lib.hid (Nat.le_trans hB3.out (show w2.heap.size ≤ (w2.alloc (.cells #[.string tt] 9)).heap.size by simp))) | (at_builtin; refine wpList_append_txts rfl (.tmp 21) (.tmp 24) rfl (w.heap.size + 1) _ _ [bytesOf wSays, bytesOf (Lib.itoa st)] [tt] rfl hO4.out rfl ht3.out (by simp) (show Below (w.heap.size + 1) _ _ from Below.refl _ _) hB4.out ?_; intro v4 w4 ho4 hb4; have hF := Lib.hid (show Txts w4 v4 (List.map bytesOf [wSays, (Lib.itoa st), (tx tt)]) from (by have := ho4.txts; rw [← bytes_tx tt] at this; exact this)); have hbF := Lib.hid (hbW4.out.trans (hb4.mono (Nat.le_succ _))); clear hb4) | (go_at_call 82; refine (join_txts _ [wSays, (Lib.itoa st), (tx tt)] _ hF.out (by simp) hjl.out).mono ?_; rintro e9 w9 ⟨rfl, hb9⟩; have hR := Lib.hid (Below.then_ hbF.out hb9 (Nat.le_refl _)); clear hb9))
  go_ret
  exact ⟨by unfold tickT; rw [hws.out]; rfl, hR.out⟩
set_option maxRecDepth 20000 in
set_option maxHeartbeats 4000000 in
theorem tickText2_any (st : Int) (tt : ByteArray) (h0 : 0 ≤ st) (h2 : st ≤ 2) (w : World) (hE : Pow w) (hT : TWords w) :
    Calls Tryd.prog 42 #[.agg #[.int .i64 2, .int .i64 st, .string tt]] w (Gives (.string (bytesOf (tickT ⟨2, st, tt⟩))) w) := by
  have hw := Lib.hid ((hT.below ((Below.refl w.heap.size w).alloc (Nat.le_refl _) (.cells #[.int .i64 2, .int .i64 st, .string tt] 31))) 2 (by omega))
  have c0 : (w.alloc (.cells #[.int .i64 2, .int .i64 st, .string tt] 31)).cell? ⟨0, 2, none⟩ = some (.string (bytesOf wShow)) := hw.out
  have hb0 := Lib.hid ((Below.refl w.heap.size w).alloc (Nat.le_refl _) (.cells #[.int .i64 2, .int .i64 st, .string tt] 31))
  have hk := Lib.hid (heap_alloc_new w (.cells #[.int .i64 2, .int .i64 st, .string tt] 31))
  have hk2 := Lib.hid (show Blk (w.alloc (.cells #[.int .i64 2, .int .i64 st, .string tt] 31)) w.heap.size 31 [.int .i64 2, .int .i64 st, .string tt] from hk.out)
  have hbW := Lib.hid (hb0.out.alloc hb0.out.size (.cells #[.string (bytesOf wShow)] 9))
  have hk3 := Lib.hid (hk2.out.alloc (.cells #[.string (bytesOf wShow)] 9))
  have hO := Lib.hid (show OwnTxts ((w.alloc (.cells #[.int .i64 2, .int .i64 st, .string tt] 31)).alloc (.cells #[.string (bytesOf wShow)] 9)) (w.heap.size + 1) (.slice (some ⟨w.heap.size + 1, 0, none⟩) 1 1) [bytesOf wShow] by have := own_one (w.alloc (.cells #[.int .i64 2, .int .i64 st, .string tt] 31)) (bytesOf wShow); rwa [World.size_alloc] at this)
  have hE1 := Lib.hid ((hE.alloc (.cells #[.int .i64 2, .int .i64 st, .string tt] 31)).alloc (.cells #[.string (bytesOf wShow)] 9))
  have hB0 := Lib.hid (show w.heap.size + 1 ≤ ((w.alloc (.cells #[.int .i64 2, .int .i64 st, .string tt] 31)).alloc (.cells #[.string (bytesOf wShow)] 9)).heap.size by simp)
  have hws := Lib.hid (show wordsK ⟨2, st, tt⟩ = [wShow, (Lib.itoa st)] from rfl)
  have hjl := Lib.hid (show (Lib.join [wShow, (Lib.itoa st)] [32]).length ≤ 1048576 by
    rw [join_cons2, join_one]
    have a := itoa_le st h0 h2
    simp only [List.length_append, List.length_cons, List.length_nil, wShow]
    omega)
  clear hw hk hb0 hE hT
  go_enter Tryd.func42, Tryd.ntmps42
  go_wp2_with (first | (go_at_call 81; refine (digits_pow st (by omega) (by omega) _ hE1.out).mono ?_; rintro e1 w1 ⟨rfl, hb1⟩; obtain ⟨d0, d1, d2, -⟩ := (hk3.out.up hb1).three; replace hk3 := Lib.hid (hk3.out.up hb1); replace hO := Lib.hid (hO.out.below hb1); replace hbW := Lib.hid (Below.then_ hbW.out hb1 (Nat.le_refl _)); replace hB0 := Lib.hid (Nat.le_trans hB0.out hb1.size); have ht1 := Lib.hid (one_txts w1 (bytesOf (Lib.itoa st))); have hO2 := Lib.hid (hO.out.below ((Below.refl _ _).alloc (Nat.le_refl _) (.cells #[.string (bytesOf (Lib.itoa st))] 9))); have hbW2 := Lib.hid (hbW.out.alloc hbW.out.size (.cells #[.string (bytesOf (Lib.itoa st))] 9)); have hB2 := Lib.hid (Nat.le_trans hB0.out (show w1.heap.size ≤ (w1.alloc (.cells #[.string (bytesOf (Lib.itoa st))] 9)).heap.size by simp)); have hk4 := Lib.hid (hk3.out.alloc (.cells #[.string (bytesOf (Lib.itoa st))] 9)); clear hb1) | (at_builtin; refine wpList_append_txts rfl (.tmp 12) (.tmp 16) rfl (w.heap.size + 1) _ _ [bytesOf wShow] [bytesOf (Lib.itoa st)] rfl hO2.out rfl ht1.out (by simp) (show Below (w.heap.size + 1) _ _ from Below.refl _ _) hB2.out ?_; intro v2 w2 ho2 hb2; obtain ⟨A2, cap2, rfl⟩ := ho2.txts.form; have hO3 := Lib.hid ho2; have hk5 := Lib.hid (hk4.out.below hb2 (Nat.lt_succ_self _)); obtain ⟨f0, f1, f2, -⟩ := hk5.out.three; have hbW3 := Lib.hid (hbW2.out.trans (hb2.mono (Nat.le_succ _))); have hB3 := Lib.hid (Nat.le_trans hB2.out hb2.size); clear hb2) | (go_at_call 82; refine (join_txts _ [wShow, (Lib.itoa st)] _ hO3.out.txts (by simp) hjl.out).mono ?_; rintro e9 w9 ⟨rfl, hb9⟩; have hR := Lib.hid (Below.then_ hbW3.out hb9 (Nat.le_refl _)); clear hb9))
  go_ret
  exact ⟨by unfold tickT; rw [hws.out]; rfl, hR.out⟩
set_option maxRecDepth 20000 in
set_option maxHeartbeats 4000000 in
theorem tickText3_any (st : Int) (tt : ByteArray) (h0 : 0 ≤ st) (h2 : st ≤ 2) (w : World) (hE : Pow w) (hT : TWords w) :
    Calls Tryd.prog 42 #[.agg #[.int .i64 3, .int .i64 st, .string tt]] w (Gives (.string (bytesOf (tickT ⟨3, st, tt⟩))) w) := by
  have hw := Lib.hid ((hT.below ((Below.refl w.heap.size w).alloc (Nat.le_refl _) (.cells #[.int .i64 3, .int .i64 st, .string tt] 31))) 3 (by omega))
  have c0 : (w.alloc (.cells #[.int .i64 3, .int .i64 st, .string tt] 31)).cell? ⟨0, 3, none⟩ = some (.string (bytesOf wHide)) := hw.out
  have hb0 := Lib.hid ((Below.refl w.heap.size w).alloc (Nat.le_refl _) (.cells #[.int .i64 3, .int .i64 st, .string tt] 31))
  have hk := Lib.hid (heap_alloc_new w (.cells #[.int .i64 3, .int .i64 st, .string tt] 31))
  have hk2 := Lib.hid (show Blk (w.alloc (.cells #[.int .i64 3, .int .i64 st, .string tt] 31)) w.heap.size 31 [.int .i64 3, .int .i64 st, .string tt] from hk.out)
  have hbW := Lib.hid (hb0.out.alloc hb0.out.size (.cells #[.string (bytesOf wHide)] 9))
  have hk3 := Lib.hid (hk2.out.alloc (.cells #[.string (bytesOf wHide)] 9))
  have hO := Lib.hid (show OwnTxts ((w.alloc (.cells #[.int .i64 3, .int .i64 st, .string tt] 31)).alloc (.cells #[.string (bytesOf wHide)] 9)) (w.heap.size + 1) (.slice (some ⟨w.heap.size + 1, 0, none⟩) 1 1) [bytesOf wHide] by have := own_one (w.alloc (.cells #[.int .i64 3, .int .i64 st, .string tt] 31)) (bytesOf wHide); rwa [World.size_alloc] at this)
  have hE1 := Lib.hid ((hE.alloc (.cells #[.int .i64 3, .int .i64 st, .string tt] 31)).alloc (.cells #[.string (bytesOf wHide)] 9))
  have hB0 := Lib.hid (show w.heap.size + 1 ≤ ((w.alloc (.cells #[.int .i64 3, .int .i64 st, .string tt] 31)).alloc (.cells #[.string (bytesOf wHide)] 9)).heap.size by simp)
  have hws := Lib.hid (show wordsK ⟨3, st, tt⟩ = [wHide, (Lib.itoa st)] from rfl)
  have hjl := Lib.hid (show (Lib.join [wHide, (Lib.itoa st)] [32]).length ≤ 1048576 by
    rw [join_cons2, join_one]
    have a := itoa_le st h0 h2
    simp only [List.length_append, List.length_cons, List.length_nil, wHide]
    omega)
  clear hw hk hb0 hE hT
  go_enter Tryd.func42, Tryd.ntmps42
  go_wp2_with (first | (go_at_call 81; refine (digits_pow st (by omega) (by omega) _ hE1.out).mono ?_; rintro e1 w1 ⟨rfl, hb1⟩; obtain ⟨d0, d1, d2, -⟩ := (hk3.out.up hb1).three; replace hk3 := Lib.hid (hk3.out.up hb1); replace hO := Lib.hid (hO.out.below hb1); replace hbW := Lib.hid (Below.then_ hbW.out hb1 (Nat.le_refl _)); replace hB0 := Lib.hid (Nat.le_trans hB0.out hb1.size); have ht1 := Lib.hid (one_txts w1 (bytesOf (Lib.itoa st))); have hO2 := Lib.hid (hO.out.below ((Below.refl _ _).alloc (Nat.le_refl _) (.cells #[.string (bytesOf (Lib.itoa st))] 9))); have hbW2 := Lib.hid (hbW.out.alloc hbW.out.size (.cells #[.string (bytesOf (Lib.itoa st))] 9)); have hB2 := Lib.hid (Nat.le_trans hB0.out (show w1.heap.size ≤ (w1.alloc (.cells #[.string (bytesOf (Lib.itoa st))] 9)).heap.size by simp)); have hk4 := Lib.hid (hk3.out.alloc (.cells #[.string (bytesOf (Lib.itoa st))] 9)); clear hb1) | (at_builtin; refine wpList_append_txts rfl (.tmp 12) (.tmp 16) rfl (w.heap.size + 1) _ _ [bytesOf wHide] [bytesOf (Lib.itoa st)] rfl hO2.out rfl ht1.out (by simp) (show Below (w.heap.size + 1) _ _ from Below.refl _ _) hB2.out ?_; intro v2 w2 ho2 hb2; obtain ⟨A2, cap2, rfl⟩ := ho2.txts.form; have hO3 := Lib.hid ho2; have hk5 := Lib.hid (hk4.out.below hb2 (Nat.lt_succ_self _)); obtain ⟨f0, f1, f2, -⟩ := hk5.out.three; have hbW3 := Lib.hid (hbW2.out.trans (hb2.mono (Nat.le_succ _))); have hB3 := Lib.hid (Nat.le_trans hB2.out hb2.size); clear hb2) | (go_at_call 82; refine (join_txts _ [wHide, (Lib.itoa st)] _ hO3.out.txts (by simp) hjl.out).mono ?_; rintro e9 w9 ⟨rfl, hb9⟩; have hR := Lib.hid (Below.then_ hbW3.out hb9 (Nat.le_refl _)); clear hb9))
  go_ret
  exact ⟨by unfold tickT; rw [hws.out]; rfl, hR.out⟩
set_option maxRecDepth 20000 in
set_option maxHeartbeats 4000000 in
theorem tickText4_any (st : Int) (tt : ByteArray) (h0 : 0 ≤ st) (h2 : st ≤ 2) (w : World) (hE : Pow w) (hT : TWords w) :
    Calls Tryd.prog 42 #[.agg #[.int .i64 4, .int .i64 st, .string tt]] w (Gives (.string (bytesOf (tickT ⟨4, st, tt⟩))) w) := by
  have hw := Lib.hid ((hT.below ((Below.refl w.heap.size w).alloc (Nat.le_refl _) (.cells #[.int .i64 4, .int .i64 st, .string tt] 31))) 4 (by omega))
  have c0 : (w.alloc (.cells #[.int .i64 4, .int .i64 st, .string tt] 31)).cell? ⟨0, 4, none⟩ = some (.string (bytesOf wOver)) := hw.out
  have hb0 := Lib.hid ((Below.refl w.heap.size w).alloc (Nat.le_refl _) (.cells #[.int .i64 4, .int .i64 st, .string tt] 31))
  have hk := Lib.hid (heap_alloc_new w (.cells #[.int .i64 4, .int .i64 st, .string tt] 31))
  have hk2 := Lib.hid (show Blk (w.alloc (.cells #[.int .i64 4, .int .i64 st, .string tt] 31)) w.heap.size 31 [.int .i64 4, .int .i64 st, .string tt] from hk.out)
  have hbW := Lib.hid (hb0.out.alloc hb0.out.size (.cells #[.string (bytesOf wOver)] 9))
  have hk3 := Lib.hid (hk2.out.alloc (.cells #[.string (bytesOf wOver)] 9))
  have hO := Lib.hid (show OwnTxts ((w.alloc (.cells #[.int .i64 4, .int .i64 st, .string tt] 31)).alloc (.cells #[.string (bytesOf wOver)] 9)) (w.heap.size + 1) (.slice (some ⟨w.heap.size + 1, 0, none⟩) 1 1) [bytesOf wOver] by have := own_one (w.alloc (.cells #[.int .i64 4, .int .i64 st, .string tt] 31)) (bytesOf wOver); rwa [World.size_alloc] at this)
  have hE1 := Lib.hid ((hE.alloc (.cells #[.int .i64 4, .int .i64 st, .string tt] 31)).alloc (.cells #[.string (bytesOf wOver)] 9))
  have hB0 := Lib.hid (show w.heap.size + 1 ≤ ((w.alloc (.cells #[.int .i64 4, .int .i64 st, .string tt] 31)).alloc (.cells #[.string (bytesOf wOver)] 9)).heap.size by simp)
  have hws := Lib.hid (show wordsK ⟨4, st, tt⟩ = [wOver, (Lib.itoa st)] from rfl)
  have hjl := Lib.hid (show (Lib.join [wOver, (Lib.itoa st)] [32]).length ≤ 1048576 by
    rw [join_cons2, join_one]
    have a := itoa_le st h0 h2
    simp only [List.length_append, List.length_cons, List.length_nil, wOver]
    omega)
  clear hw hk hb0 hE hT
  go_enter Tryd.func42, Tryd.ntmps42
  go_wp2_with (first | (go_at_call 81; refine (digits_pow st (by omega) (by omega) _ hE1.out).mono ?_; rintro e1 w1 ⟨rfl, hb1⟩; obtain ⟨d0, d1, d2, -⟩ := (hk3.out.up hb1).three; replace hk3 := Lib.hid (hk3.out.up hb1); replace hO := Lib.hid (hO.out.below hb1); replace hbW := Lib.hid (Below.then_ hbW.out hb1 (Nat.le_refl _)); replace hB0 := Lib.hid (Nat.le_trans hB0.out hb1.size); have ht1 := Lib.hid (one_txts w1 (bytesOf (Lib.itoa st))); have hO2 := Lib.hid (hO.out.below ((Below.refl _ _).alloc (Nat.le_refl _) (.cells #[.string (bytesOf (Lib.itoa st))] 9))); have hbW2 := Lib.hid (hbW.out.alloc hbW.out.size (.cells #[.string (bytesOf (Lib.itoa st))] 9)); have hB2 := Lib.hid (Nat.le_trans hB0.out (show w1.heap.size ≤ (w1.alloc (.cells #[.string (bytesOf (Lib.itoa st))] 9)).heap.size by simp)); have hk4 := Lib.hid (hk3.out.alloc (.cells #[.string (bytesOf (Lib.itoa st))] 9)); clear hb1) | (at_builtin; refine wpList_append_txts rfl (.tmp 12) (.tmp 16) rfl (w.heap.size + 1) _ _ [bytesOf wOver] [bytesOf (Lib.itoa st)] rfl hO2.out rfl ht1.out (by simp) (show Below (w.heap.size + 1) _ _ from Below.refl _ _) hB2.out ?_; intro v2 w2 ho2 hb2; obtain ⟨A2, cap2, rfl⟩ := ho2.txts.form; have hO3 := Lib.hid ho2; have hk5 := Lib.hid (hk4.out.below hb2 (Nat.lt_succ_self _)); obtain ⟨f0, f1, f2, -⟩ := hk5.out.three; have hbW3 := Lib.hid (hbW2.out.trans (hb2.mono (Nat.le_succ _))); have hB3 := Lib.hid (Nat.le_trans hB2.out hb2.size); clear hb2) | (go_at_call 82; refine (join_txts _ [wOver, (Lib.itoa st)] _ hO3.out.txts (by simp) hjl.out).mono ?_; rintro e9 w9 ⟨rfl, hb9⟩; have hR := Lib.hid (Below.then_ hbW3.out hb9 (Nat.le_refl _)); clear hb9))
  go_ret
  exact ⟨by unfold tickT; rw [hws.out]; rfl, hR.out⟩
set_option maxRecDepth 20000 in
set_option maxHeartbeats 4000000 in
theorem tickText5_any (st : Int) (tt : ByteArray) (w : World) (hE : Pow w) (hT : TWords w) :
    Calls Tryd.prog 42 #[.agg #[.int .i64 5, .int .i64 st, .string tt]] w (Gives (.string (bytesOf (tickT ⟨5, st, tt⟩))) w) := by
  have hw := Lib.hid ((hT.below ((Below.refl w.heap.size w).alloc (Nat.le_refl _) (.cells #[.int .i64 5, .int .i64 st, .string tt] 31))) 5 (by omega))
  have c0 : (w.alloc (.cells #[.int .i64 5, .int .i64 st, .string tt] 31)).cell? ⟨0, 5, none⟩ = some (.string (bytesOf wTime)) := hw.out
  have hb0 := Lib.hid ((Below.refl w.heap.size w).alloc (Nat.le_refl _) (.cells #[.int .i64 5, .int .i64 st, .string tt] 31))
  have hk := Lib.hid (heap_alloc_new w (.cells #[.int .i64 5, .int .i64 st, .string tt] 31))
  have hk2 := Lib.hid (show Blk (w.alloc (.cells #[.int .i64 5, .int .i64 st, .string tt] 31)) w.heap.size 31 [.int .i64 5, .int .i64 st, .string tt] from hk.out)
  have hbW := Lib.hid (hb0.out.alloc hb0.out.size (.cells #[.string (bytesOf wTime)] 9))
  have hk3 := Lib.hid (hk2.out.alloc (.cells #[.string (bytesOf wTime)] 9))
  have hO := Lib.hid (show OwnTxts ((w.alloc (.cells #[.int .i64 5, .int .i64 st, .string tt] 31)).alloc (.cells #[.string (bytesOf wTime)] 9)) (w.heap.size + 1) (.slice (some ⟨w.heap.size + 1, 0, none⟩) 1 1) [bytesOf wTime] by have := own_one (w.alloc (.cells #[.int .i64 5, .int .i64 st, .string tt] 31)) (bytesOf wTime); rwa [World.size_alloc] at this)
  have hE1 := Lib.hid ((hE.alloc (.cells #[.int .i64 5, .int .i64 st, .string tt] 31)).alloc (.cells #[.string (bytesOf wTime)] 9))
  have hB0 := Lib.hid (show w.heap.size + 1 ≤ ((w.alloc (.cells #[.int .i64 5, .int .i64 st, .string tt] 31)).alloc (.cells #[.string (bytesOf wTime)] 9)).heap.size by simp)
  have hws := Lib.hid (show wordsK ⟨5, st, tt⟩ = [wTime] from rfl)
  have hjl := Lib.hid (show (Lib.join [wTime] [32]).length ≤ 1048576 by
    rw [join_one]; show 4 ≤ 1048576; omega)
  clear hw hk hb0 hE hT
  go_enter Tryd.func42, Tryd.ntmps42
  go_wp2_with (first | (go_at_call 82; refine (join_txts _ [wTime] _ hO.out.txts (by simp) hjl.out).mono ?_; rintro e9 w9 ⟨rfl, hb9⟩; have hR := Lib.hid (Below.then_ hbW.out hb9 (Nat.le_refl _)); clear hb9))
  go_ret
  exact ⟨by unfold tickT; rw [hws.out]; rfl, hR.out⟩
theorem tickText_any (x : Tik) (hx : tikOk x = true) (w : World) (hE : Pow w) (hT : TWords w) :
    Calls Tryd.prog 42 #[tikA x] w (Gives (.string (bytesOf (tickT x))) w) := by
  have hs := tik_parts hx
  obtain ⟨kd, st, tt⟩ := x
  unfold tikA
  dsimp only at hs ⊢
  rcases hs with ⟨rfl, h0, h2, h6⟩ | ⟨rfl, h0, h2⟩ | ⟨rfl, h0, h2⟩ | ⟨rfl, h0, h2⟩ | rfl
  · exact tickText1_any st tt h0 h2 h6 w hE hT
  · exact tickText2_any st tt h0 h2 w hE hT
  · exact tickText3_any st tt h0 h2 w hE hT
  · exact tickText4_any st tt h0 h2 w hE hT
  · exact tickText5_any st tt w hE hT
end Go.Proofs.YtbadpmghlclfkaaDoor
