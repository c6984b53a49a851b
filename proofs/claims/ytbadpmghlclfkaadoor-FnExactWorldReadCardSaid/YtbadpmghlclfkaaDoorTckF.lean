/- The model's texts of ticks. -/
import Derived.Test.YtbadpmghlclfkaaDoorTckE
namespace Go.Proofs.YtbadpmghlclfkaaDoor
open Go.RowKit

set_option maxHeartbeats 1000000 in
theorem specWord1_any (w : World) : Calls Tryd.prog 86 #[.int .i64 1] w (Gives (.string (bytesOf wSays)) w) := by
  go_enter Tryd.func86, Tryd.ntmps86
  go_wp2
  go_ret
  exact ⟨rfl, (Below.refl _ _).alloc (Nat.le_refl _) _⟩
set_option maxHeartbeats 1000000 in
theorem specWord2_any (w : World) : Calls Tryd.prog 86 #[.int .i64 2] w (Gives (.string (bytesOf wShow)) w) := by
  go_enter Tryd.func86, Tryd.ntmps86
  go_wp2
  go_ret
  exact ⟨rfl, (Below.refl _ _).alloc (Nat.le_refl _) _⟩
set_option maxHeartbeats 1000000 in
theorem specWord3_any (w : World) : Calls Tryd.prog 86 #[.int .i64 3] w (Gives (.string (bytesOf wHide)) w) := by
  go_enter Tryd.func86, Tryd.ntmps86
  go_wp2
  go_ret
  exact ⟨rfl, (Below.refl _ _).alloc (Nat.le_refl _) _⟩
set_option maxHeartbeats 1000000 in
theorem specWord4_any (w : World) : Calls Tryd.prog 86 #[.int .i64 4] w (Gives (.string (bytesOf wOver)) w) := by
  go_enter Tryd.func86, Tryd.ntmps86
  go_wp2
  go_ret
  exact ⟨rfl, (Below.refl _ _).alloc (Nat.le_refl _) _⟩
set_option maxHeartbeats 1000000 in
theorem specWord5_any (w : World) : Calls Tryd.prog 86 #[.int .i64 5] w (Gives (.string (bytesOf wTime)) w) := by
  go_enter Tryd.func86, Tryd.ntmps86
  go_wp2
  go_ret
  exact ⟨rfl, (Below.refl _ _).alloc (Nat.le_refl _) _⟩
theorem tick_text1 (st : Int) (tt : ByteArray) : ((((bytesOf wSays ++ ⟨#[32]⟩) ++ bytesOf (Lib.itoa st)) ++ ⟨#[32]⟩) ++ tt : ByteArray) = bytesOf (tickT ⟨1, st, tt⟩) := by
  have e : wordsK ⟨1, st, tt⟩ = [wSays, Lib.itoa st, tx tt] := rfl
  unfold tickT
  rw [e]
  rw [join_cons2, join_cons2, join_one]
  have b : tt = bytesOf (tx tt) := (bytes_tx tt).symm
  generalize tx tt = u at b ⊢
  subst b
  have s : (⟨#[32]⟩ : ByteArray) = bytesOf [32] := rfl
  rw [s, bytesOf_append, bytesOf_append, bytesOf_append, bytesOf_append]
  simp
set_option maxHeartbeats 2000000 in
theorem specTick1_text (st : Int) (tt : ByteArray) (h0 : 0 ≤ st) (h2 : st ≤ 2) (hs : tt.size ≤ 60) (w : World) : Calls Tryd.prog 53 #[.agg #[.int .i64 1, .int .i64 st, .string tt]] w (Gives (.string (bytesOf (tickT ⟨1, st, tt⟩))) w) := by
  have hb := Lib.hid ((Below.refl w.heap.size w).alloc (Nat.le_refl _) (.cells #[.int .i64 1, .int .i64 st, .string tt] 31))
  have hk0 := Lib.hid (heap_alloc_new w (.cells #[.int .i64 1, .int .i64 st, .string tt] 31))
  have hk := Lib.hid (show Blk (w.alloc (.cells #[.int .i64 1, .int .i64 st, .string tt] 31)) w.heap.size 31 [.int .i64 1, .int .i64 st, .string tt] from hk0.out)
  have hT := Lib.hid (tick_text1 st tt)
  obtain ⟨n, rfl⟩ : ∃ n : Nat, st = (n : Int) := ⟨st.toNat, by omega⟩
  have hD := Lib.hid (fun w => specDec_any n w (by omega))
  obtain ⟨u, hu⟩ : ∃ u, u = bytesOf (Lib.itoa (n : Int)) := ⟨_, rfl⟩
  have hul : u.size ≤ 20 := by rw [hu, bytesOf_size]; exact itoa_le _ h0 h2
  have hwl : (bytesOf wSays).size = 4 := rfl
  rw [← hu] at hD hT
  have s1 : ¬ 9223372036854775807 < 4 + 1 + u.size := by omega
  clear hu hk0
  have s2 : ¬ 9223372036854775807 < 4 + 1 + u.size + 1 := by omega
  have s3 : ¬ 9223372036854775807 < 4 + 1 + u.size + 1 + tt.size := by omega
  go_enter Tryd.func53, Tryd.ntmps53
  go_wp2_with (first | (go_at_call 86; refine (specWord1_any _).mono ?_; rintro e1 w1 ⟨rfl, hb1⟩; obtain ⟨d0, d1, d2, -⟩ := (hk.out.up hb1).three; replace hk := Lib.hid (hk.out.up hb1); replace hb := Lib.hid (Below.then_ hb.out hb1 (Nat.le_refl _)); clear hb1) | (go_at_call 88; refine (hD.out _).mono ?_; rintro e2 w2 ⟨rfl, hb1⟩; clear d0 d1 d2; obtain ⟨d0, d1, d2, -⟩ := (hk.out.up hb1).three; replace hk := Lib.hid (hk.out.up hb1); replace hb := Lib.hid (Below.then_ hb.out hb1 (Nat.le_refl _)); clear hb1))
  go_ret
  exact ⟨by first | (rw [← hT.out]; rfl) | rw [← hT.out], hb.out⟩
theorem tick_text2 (st : Int) (tt : ByteArray) : ((bytesOf wShow ++ ⟨#[32]⟩) ++ bytesOf (Lib.itoa st) : ByteArray) = bytesOf (tickT ⟨2, st, tt⟩) := by
  have e : wordsK ⟨2, st, tt⟩ = [wShow, Lib.itoa st] := rfl
  unfold tickT
  rw [e]
  rw [join_cons2, join_one]
  have s : (⟨#[32]⟩ : ByteArray) = bytesOf [32] := rfl
  rw [s, bytesOf_append, bytesOf_append]
  simp
set_option maxHeartbeats 2000000 in
theorem specTick2_text (st : Int) (tt : ByteArray) (h0 : 0 ≤ st) (h2 : st ≤ 2) (w : World) : Calls Tryd.prog 53 #[.agg #[.int .i64 2, .int .i64 st, .string tt]] w (Gives (.string (bytesOf (tickT ⟨2, st, tt⟩))) w) := by
  have hb := Lib.hid ((Below.refl w.heap.size w).alloc (Nat.le_refl _) (.cells #[.int .i64 2, .int .i64 st, .string tt] 31))
  have hk0 := Lib.hid (heap_alloc_new w (.cells #[.int .i64 2, .int .i64 st, .string tt] 31))
  have hk := Lib.hid (show Blk (w.alloc (.cells #[.int .i64 2, .int .i64 st, .string tt] 31)) w.heap.size 31 [.int .i64 2, .int .i64 st, .string tt] from hk0.out)
  have hT := Lib.hid (tick_text2 st tt)
  obtain ⟨n, rfl⟩ : ∃ n : Nat, st = (n : Int) := ⟨st.toNat, by omega⟩
  have hD := Lib.hid (fun w => specDec_any n w (by omega))
  obtain ⟨u, hu⟩ : ∃ u, u = bytesOf (Lib.itoa (n : Int)) := ⟨_, rfl⟩
  have hul : u.size ≤ 20 := by rw [hu, bytesOf_size]; exact itoa_le _ h0 h2
  have hwl : (bytesOf wShow).size = 4 := rfl
  rw [← hu] at hD hT
  have s1 : ¬ 9223372036854775807 < 4 + 1 + u.size := by omega
  clear hu hk0
  go_enter Tryd.func53, Tryd.ntmps53
  go_wp2_with (first | (go_at_call 86; refine (specWord2_any _).mono ?_; rintro e1 w1 ⟨rfl, hb1⟩; obtain ⟨d0, d1, d2, -⟩ := (hk.out.up hb1).three; replace hk := Lib.hid (hk.out.up hb1); replace hb := Lib.hid (Below.then_ hb.out hb1 (Nat.le_refl _)); clear hb1) | (go_at_call 88; refine (hD.out _).mono ?_; rintro e2 w2 ⟨rfl, hb1⟩; clear d0 d1 d2; obtain ⟨d0, d1, d2, -⟩ := (hk.out.up hb1).three; replace hk := Lib.hid (hk.out.up hb1); replace hb := Lib.hid (Below.then_ hb.out hb1 (Nat.le_refl _)); clear hb1))
  go_ret
  exact ⟨by first | (rw [← hT.out]; rfl) | rw [← hT.out], hb.out⟩
theorem tick_text3 (st : Int) (tt : ByteArray) : ((bytesOf wHide ++ ⟨#[32]⟩) ++ bytesOf (Lib.itoa st) : ByteArray) = bytesOf (tickT ⟨3, st, tt⟩) := by
  have e : wordsK ⟨3, st, tt⟩ = [wHide, Lib.itoa st] := rfl
  unfold tickT
  rw [e]
  rw [join_cons2, join_one]
  have s : (⟨#[32]⟩ : ByteArray) = bytesOf [32] := rfl
  rw [s, bytesOf_append, bytesOf_append]
  simp
set_option maxHeartbeats 2000000 in
theorem specTick3_text (st : Int) (tt : ByteArray) (h0 : 0 ≤ st) (h2 : st ≤ 2) (w : World) : Calls Tryd.prog 53 #[.agg #[.int .i64 3, .int .i64 st, .string tt]] w (Gives (.string (bytesOf (tickT ⟨3, st, tt⟩))) w) := by
  have hb := Lib.hid ((Below.refl w.heap.size w).alloc (Nat.le_refl _) (.cells #[.int .i64 3, .int .i64 st, .string tt] 31))
  have hk0 := Lib.hid (heap_alloc_new w (.cells #[.int .i64 3, .int .i64 st, .string tt] 31))
  have hk := Lib.hid (show Blk (w.alloc (.cells #[.int .i64 3, .int .i64 st, .string tt] 31)) w.heap.size 31 [.int .i64 3, .int .i64 st, .string tt] from hk0.out)
  have hT := Lib.hid (tick_text3 st tt)
  obtain ⟨n, rfl⟩ : ∃ n : Nat, st = (n : Int) := ⟨st.toNat, by omega⟩
  have hD := Lib.hid (fun w => specDec_any n w (by omega))
  obtain ⟨u, hu⟩ : ∃ u, u = bytesOf (Lib.itoa (n : Int)) := ⟨_, rfl⟩
  have hul : u.size ≤ 20 := by rw [hu, bytesOf_size]; exact itoa_le _ h0 h2
  have hwl : (bytesOf wHide).size = 4 := rfl
  rw [← hu] at hD hT
  have s1 : ¬ 9223372036854775807 < 4 + 1 + u.size := by omega
  clear hu hk0
  go_enter Tryd.func53, Tryd.ntmps53
  go_wp2_with (first | (go_at_call 86; refine (specWord3_any _).mono ?_; rintro e1 w1 ⟨rfl, hb1⟩; obtain ⟨d0, d1, d2, -⟩ := (hk.out.up hb1).three; replace hk := Lib.hid (hk.out.up hb1); replace hb := Lib.hid (Below.then_ hb.out hb1 (Nat.le_refl _)); clear hb1) | (go_at_call 88; refine (hD.out _).mono ?_; rintro e2 w2 ⟨rfl, hb1⟩; clear d0 d1 d2; obtain ⟨d0, d1, d2, -⟩ := (hk.out.up hb1).three; replace hk := Lib.hid (hk.out.up hb1); replace hb := Lib.hid (Below.then_ hb.out hb1 (Nat.le_refl _)); clear hb1))
  go_ret
  exact ⟨by first | (rw [← hT.out]; rfl) | rw [← hT.out], hb.out⟩
theorem tick_text4 (st : Int) (tt : ByteArray) : ((bytesOf wOver ++ ⟨#[32]⟩) ++ bytesOf (Lib.itoa st) : ByteArray) = bytesOf (tickT ⟨4, st, tt⟩) := by
  have e : wordsK ⟨4, st, tt⟩ = [wOver, Lib.itoa st] := rfl
  unfold tickT
  rw [e]
  rw [join_cons2, join_one]
  have s : (⟨#[32]⟩ : ByteArray) = bytesOf [32] := rfl
  rw [s, bytesOf_append, bytesOf_append]
  simp
set_option maxHeartbeats 2000000 in
theorem specTick4_text (st : Int) (tt : ByteArray) (h0 : 0 ≤ st) (h2 : st ≤ 2) (w : World) : Calls Tryd.prog 53 #[.agg #[.int .i64 4, .int .i64 st, .string tt]] w (Gives (.string (bytesOf (tickT ⟨4, st, tt⟩))) w) := by
  have hb := Lib.hid ((Below.refl w.heap.size w).alloc (Nat.le_refl _) (.cells #[.int .i64 4, .int .i64 st, .string tt] 31))
  have hk0 := Lib.hid (heap_alloc_new w (.cells #[.int .i64 4, .int .i64 st, .string tt] 31))
  have hk := Lib.hid (show Blk (w.alloc (.cells #[.int .i64 4, .int .i64 st, .string tt] 31)) w.heap.size 31 [.int .i64 4, .int .i64 st, .string tt] from hk0.out)
  have hT := Lib.hid (tick_text4 st tt)
  obtain ⟨n, rfl⟩ : ∃ n : Nat, st = (n : Int) := ⟨st.toNat, by omega⟩
  have hD := Lib.hid (fun w => specDec_any n w (by omega))
  obtain ⟨u, hu⟩ : ∃ u, u = bytesOf (Lib.itoa (n : Int)) := ⟨_, rfl⟩
  have hul : u.size ≤ 20 := by rw [hu, bytesOf_size]; exact itoa_le _ h0 h2
  have hwl : (bytesOf wOver).size = 4 := rfl
  rw [← hu] at hD hT
  have s1 : ¬ 9223372036854775807 < 4 + 1 + u.size := by omega
  clear hu hk0
  go_enter Tryd.func53, Tryd.ntmps53
  go_wp2_with (first | (go_at_call 86; refine (specWord4_any _).mono ?_; rintro e1 w1 ⟨rfl, hb1⟩; obtain ⟨d0, d1, d2, -⟩ := (hk.out.up hb1).three; replace hk := Lib.hid (hk.out.up hb1); replace hb := Lib.hid (Below.then_ hb.out hb1 (Nat.le_refl _)); clear hb1) | (go_at_call 88; refine (hD.out _).mono ?_; rintro e2 w2 ⟨rfl, hb1⟩; clear d0 d1 d2; obtain ⟨d0, d1, d2, -⟩ := (hk.out.up hb1).three; replace hk := Lib.hid (hk.out.up hb1); replace hb := Lib.hid (Below.then_ hb.out hb1 (Nat.le_refl _)); clear hb1))
  go_ret
  exact ⟨by first | (rw [← hT.out]; rfl) | rw [← hT.out], hb.out⟩
theorem tick_text5 (st : Int) (tt : ByteArray) : (bytesOf wTime : ByteArray) = bytesOf (tickT ⟨5, st, tt⟩) := by
  have e : wordsK ⟨5, st, tt⟩ = [wTime] := rfl
  unfold tickT
  rw [e]
  rw [join_one]
set_option maxHeartbeats 2000000 in
theorem specTick5_text (st : Int) (tt : ByteArray) (w : World) : Calls Tryd.prog 53 #[.agg #[.int .i64 5, .int .i64 st, .string tt]] w (Gives (.string (bytesOf (tickT ⟨5, st, tt⟩))) w) := by
  have hb := Lib.hid ((Below.refl w.heap.size w).alloc (Nat.le_refl _) (.cells #[.int .i64 5, .int .i64 st, .string tt] 31))
  have hk0 := Lib.hid (heap_alloc_new w (.cells #[.int .i64 5, .int .i64 st, .string tt] 31))
  have hk := Lib.hid (show Blk (w.alloc (.cells #[.int .i64 5, .int .i64 st, .string tt] 31)) w.heap.size 31 [.int .i64 5, .int .i64 st, .string tt] from hk0.out)
  have hT := Lib.hid (tick_text5 st tt)
  clear hk0
  go_enter Tryd.func53, Tryd.ntmps53
  go_wp2_with (first | (go_at_call 86; refine (specWord5_any _).mono ?_; rintro e1 w1 ⟨rfl, hb1⟩; obtain ⟨d0, d1, d2, -⟩ := (hk.out.up hb1).three; replace hk := Lib.hid (hk.out.up hb1); replace hb := Lib.hid (Below.then_ hb.out hb1 (Nat.le_refl _)); clear hb1))
  go_ret
  exact ⟨by first | (rw [← hT.out]; rfl) | rw [← hT.out], hb.out⟩
theorem specTickText_any (x : Tik) (hx : tikOk x = true) (w : World) :
    Calls Tryd.prog 53 #[tikA x] w (Gives (.string (bytesOf (tickT x))) w) := by
  have hs := tik_parts hx
  obtain ⟨kd, st, tt⟩ := x
  unfold tikA
  dsimp only at hs ⊢
  rcases hs with ⟨rfl, h0, h2, h6⟩ | ⟨rfl, h0, h2⟩ | ⟨rfl, h0, h2⟩ | ⟨rfl, h0, h2⟩ | rfl
  · exact specTick1_text st tt h0 h2 h6 w
  · exact specTick2_text st tt h0 h2 w
  · exact specTick3_text st tt h0 h2 w
  · exact specTick4_text st tt h0 h2 w
  · exact specTick5_text st tt w
end Go.Proofs.YtbadpmghlclfkaaDoor
