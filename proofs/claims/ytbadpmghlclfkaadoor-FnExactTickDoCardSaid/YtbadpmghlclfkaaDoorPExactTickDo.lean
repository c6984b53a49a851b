/- TickDo of the program answers as that of the model, at every seat, number, list of secrets and tick; its answer owns its memory, and no argument is written. One condition, tied to the program's text by the card: the package variable secretMarks holds 1, 2, 4, 8. -/
import Derived.Test.YtbadpmghlclfkaaDoorRows
import Derived.Test.YtbadpmghlclfkaaDoorCards
import Derived.Test.YtbadpmghlclfkaaDoorTie
import Derived.WalkKit
import Derived.ProofKit
import Derived.OpenShut
import Derived.ShutString
import Derived.ChangeOld
import Derived.Below
import Derived.ChangeSame
import Derived.ChangeVars
import Derived.JoinedOf
import Derived.RowKit
import Derived.RowKitTokens
import Derived.LaidLaws
import Derived.LaidHandle
import Derived.WalkSmall
import Derived.Stop.Joined
import Derived.SevenTiedAt
import Derived.Lib.SmallJoins
import Derived.Deep.RegionHeld3
import Derived.Test.YtbadpmghlclfkaaDoorTckD
import Derived.Test.YtbadpmghlclfkaaDoorTckO
import Derived.Test.YtbadpmghlclfkaaDoorSeatV
import Derived.Test.YtbadpmghlclfkaaDoorKnownY
namespace Go.Proofs.YtbadpmghlclfkaaDoor.fnExactTickDo
open Go.ChangeShapes Go.WideShapes Go.ChangeAt Go.RowKit
open Go.ChangeMaps (open_string shut_string)
set_option linter.unusedVariables false

set_option maxHeartbeats 4000000 in
theorem walk_big (b o : Bool) (s : ByteArray) (q : Int) (t : ByteArray) (hs : s.size ≤ maxLen) (ht : t.size ≤ maxLen) (A : Option Addr) (len cap : Nat) (hl : len ≤ maxLen) (n : Int) (A2 : Option Addr) (len2 cap2 : Nat) (kd st : Int) (tt : ByteArray) (w : World) (hbig : ¬ s.size + (t.size + len) ≤ 1048576) :
    Calls Tryd.prog 6 #[.agg #[.bool b, .bool o, .string s, .int .i64 q, .string t, .slice A len cap], .int .i64 n, .slice A2 len2 cap2, .agg #[.int .i64 kd, .int .i64 st, .string tt]] w fun e w' => e = .returned (.bool true) ∧ Below w.heap.size w w' := by
  have hbb := Lib.hid (fun (o1 o2 : Obj) => ((Below.refl w.heap.size w).alloc (Nat.le_refl _) o1).alloc (by simp) o2)
  have hbig' : ¬ (s.size : Int) + (t.size + len) ≤ 1048576 := by omega
  clear hbig
  go_enter Tryd.func6, Tryd.ntmps6
  go_wp2_with (go_at_call 25; refine (szSeat_out b o s q t A len cap _ _ hbig' (by decide) (by decide) hl ht hs).mono ?_; rintro e w1 ⟨rfl, hb⟩; replace hb := Lib.hid hb)
  go_ret
  exact ⟨rfl, Below.then_ (hbb.out _ _) hb.out (Nat.le_refl _)⟩
set_option maxRecDepth 100000 in
set_option maxHeartbeats 64000000 in
theorem walkIn (b o : Bool) (s : ByteArray) (q : Int) (t : ByteArray) (A : Option Addr) (l : List Int) (cap : Nat) (n : Int) (A2 : Option Addr) (m : List Sec) (cap2 : Nat) (kd st : Int) (tt : ByteArray) (hxm : tt.size ≤ maxLen) (w : World) (hin : s.size + (t.size + l.length) ≤ 1048576) (hv : Ints w (.slice A l.length cap) l) (hu : Secs w (.slice A2 m.length cap2) m) (hg : Four w) :
    Calls Tryd.prog 6 #[.agg #[.bool b, .bool o, .string s, .int .i64 q, .string t, .slice A l.length cap], .int .i64 n, .slice A2 m.length cap2, .agg #[.int .i64 kd, .int .i64 st, .string tt]] w fun e w' => e = .returned (.bool true) ∧ Below w.heap.size w w' := by
  have hsz := Lib.hid (show (s.size : Int) + (t.size + l.length) ≤ 1048576 by omega)
  have hleft : ¬ (1048576 : Int) - s.size - t.size - l.length < 0 := by omega
  have hbx := boxes2 w [.bool b, .bool o, .string s, .int .i64 q, .string t, .slice A l.length cap] [.int .i64 kd, .int .i64 st, .string tt] 48 50
  have hB := Lib.hid hbx.1
  have hC := Lib.hid hbx.2
  have hW := Lib.hid (((Below.refl w.heap.size w).alloc (Nat.le_refl _) (.cells #[.bool b, .bool o, .string s, .int .i64 q, .string t, .slice A l.length cap] 48)).alloc (by simp) (.cells #[.int .i64 kd, .int .i64 st, .string tt] 50))
  have hv0 := Lib.hid hv
  have hu0 := Lib.hid hu
  have hg0 := Lib.hid hg
  have htm := Lib.hid hxm
  have ht : t.size ≤ 1048576 := by omega
  have hs : s.size ≤ 1048576 := by omega
  clear hv hu hg hin hbx hxm
  go_enter Tryd.func6, Tryd.ntmps6
  go_wp2_with (go_at_call 25; refine (szSeat_in b o s q t A l.length cap _ _ hsz.out (by omega)).mono ?_; rintro e1 w1 ⟨rfl, hb1⟩; replace hW := Lib.hid (Below.then_ hW.out hb1 (Nat.le_refl _)); replace hB := Lib.hid (hB.out.up hb1); replace hC := Lib.hid (hC.out.up hb1); obtain ⟨hB0, hB1, hB2, hB3, hB4, hB5, -, -, -, -, -, -⟩ := hB.out.six; have hBl := hB.out.lt; obtain ⟨hC0, hC1, hC2, -, -, -⟩ := hC.out.three; have hCl := hC.out.lt; have z1 := Lib.hid (show w.heap.size + 1 + 1 ≤ w1.heap.size from Nat.le_trans (by simp) hb1.size); replace hb1 := Lib.hid hb1)
  go_wp2_with (go_at_call 26; refine (szSecs_any _ m (1048576 - s.size - t.size - l.length) _ (hu0.out.below hW.out) (by have := hsz.out; omega) (by omega)).mono ?_; rintro e2 w2 ⟨rr, rfl, hrr, hb2⟩; replace hW := Lib.hid (Below.then_ hW.out hb2 (Nat.le_refl _)); replace hB := Lib.hid (hB.out.up hb2); replace hC := Lib.hid (hC.out.up hb2); clear hB0 hB1 hB2 hB3 hB4 hB5 hBl; obtain ⟨hB0, hB1, hB2, hB3, hB4, hB5, -, -, -, -, -, -⟩ := hB.out.six; have hBl := hB.out.lt; clear hC0 hC1 hC2 hCl; obtain ⟨hC0, hC1, hC2, -, -, -⟩ := hC.out.three; have hCl := hC.out.lt; have z2 := Lib.hid (show w1.heap.size ≤ w2.heap.size from Nat.le_trans (Nat.le_refl _) hb2.size); replace hb2 := Lib.hid hb2; rcases hrr with rfl | ⟨r0, r1, hsm⟩)
  · go_wp2
    go_ret
    exact ⟨rfl, hW.out⟩
  · have hml := hsm.1
    have hsml := hsm.2
    clear hsm
    go_wp2_with (go_at_call 27; refine (szTick_any ⟨kd, st, tt⟩ rr _ htm.out (by omega) (by omega)).mono ?_; rintro e3 w3 ⟨rt, rfl, hrt, hb3⟩; replace hW := Lib.hid (Below.then_ hW.out hb3 (Nat.le_refl _)); replace hB := Lib.hid (hB.out.up hb3); replace hC := Lib.hid (hC.out.up hb3); clear hB0 hB1 hB2 hB3 hB4 hB5 hBl; obtain ⟨hB0, hB1, hB2, hB3, hB4, hB5, -, -, -, -, -, -⟩ := hB.out.six; have hBl := hB.out.lt; clear hC0 hC1 hC2 hCl; obtain ⟨hC0, hC1, hC2, -, -, -⟩ := hC.out.three; have hCl := hC.out.lt; have z3 := Lib.hid (show w2.heap.size ≤ w3.heap.size from Nat.le_trans (Nat.le_refl _) hb3.size); replace hb3 := Lib.hid hb3; rcases hrt with rfl | ⟨rt0, rt1, hsmt⟩)
    · go_wp2
      go_ret
      exact ⟨rfl, hW.out⟩
    have htt : tt.size ≤ 1048576 := hsmt
    have hrt2 : ¬ rt < 0 := by omega
    clear hsmt
    obtain ⟨R, hR⟩ : ∃ R, R = doR b o s q t l n m ⟨kd, st, tt⟩ := ⟨_, rfl⟩
    have hSP := Lib.hid (fun w v u (h : Ints w v l) (k : Secs w u m) => show Calls Tryd.prog 28 #[.agg #[.bool b, .bool o, .string s, .int .i64 q, .string t, v], .int .i64 n, u, .agg #[.int .i64 kd, .int .i64 st, .string tt]] w (SeatOutEnd w.heap.size R w) by rw [hR]; exact specTickDo_any b o s q t v l n u m kd st tt w hs ht htt hsml h k)
    have hIM := Lib.hid (fun w v u (h : Ints w v l) (k : Secs w u m) (g : Four w) => show Calls Tryd.prog 32 #[.agg #[.bool b, .bool o, .string s, .int .i64 q, .string t, v], .int .i64 n, u, .agg #[.int .i64 kd, .int .i64 st, .string tt]] w (SeatOutEnd w.heap.size R w) by rw [hR]; exact implTickDo_any b o s q t v l n u m kd st tt w hs ht htt g h k)
    have hTo := Lib.hid (fun w => show Calls Tryd.prog 31 #[.agg #[.int .i64 kd, .int .i64 st, .string tt]] w (Gives (.agg #[.int .i64 kd, .int .i64 st, .string tt]) w) from toTick_any ⟨kd, st, tt⟩ w)
    obtain ⟨K1, hK1⟩ : ∃ K1, K1 = 1 + l.length := ⟨_, rfl⟩
    obtain ⟨K2, hK2⟩ : ∃ K2, K2 = K1 + 4 * m.length := ⟨_, rfl⟩
    obtain ⟨MM, hMM⟩ : ∃ MM, MM = 1 + R.l.length := ⟨_, rfl⟩
    have hK3 := Lib.hid (show K1 + 4 * m.length ≤ 10000000 by have := hsz.out; omega)
    have hK4 := Lib.hid (show 1 ≤ K1 by omega)
    replace hK1 := Lib.hid hK1
    replace hK2 := Lib.hid hK2
    replace hMM := Lib.hid hMM
    clear hR hsml
    go_wp2
    refine wp_region_known_storeY [(.is (.agg #[.bool b, .bool o, .string s, .int .i64 q, .string t, .slice A l.length cap])), (.that (SeatAt b o s q t l) SeatAt.keep), (.is (.int .i64 n)), (.is (.slice A2 m.length cap2)), (.that (SecsAt m) SecsAt.keep), (.is (.agg #[.int .i64 kd, .int .i64 st, .string tt])), (.is (.agg #[.int .i64 kd, .int .i64 st, .string tt])), (.that (OutAt (w3.heap.size) R) OutAt.keep), (.that (BoxAt (w3.heap.size) 58 [.bool false, .bool false, .string ⟨#[]⟩, .int .i64 0, .string ⟨#[]⟩, .slice none 0 0, .int .i64 0, .int .i64 0]) BoxAt.keep)] (fun v W => OutCut (w3.heap.size) R (w3) v W) 8 9 (by decide) (by kernel_rfl) (by kernel_rfl) (by kernel_rfl) (by kernel_rfl) rfl rfl ⟨?_, ?_, ?_, ?_, ?_, ?_, ?_, ?_, ?_, ?_⟩ ?_
    · intro y W next hl hJ hd hn
      refine Or.inl ⟨wanted_free rfl, fun ev ec ef hev => ?_⟩
      have e4 : ev (.tmp 4) = .pointer (some ⟨w.heap.size, 0, none⟩) := hev 4 _ ((hl.2 4 (by kernel_rfl)).trans (by kernel_rfl))
      clear hd hl hev
      obtain ⟨u0, u1, u2, u3, u4, u5, -⟩ := (hB.out.below hJ hB.out.lt).six
      replace hJ := Lib.hid hJ
      go_simp
      exact hn _ _ (Below.refl _ _) rfl
    · intro y W next hl hJ hd hn
      refine Or.inl ⟨wanted_free rfl, fun ev ec ef hev => ?_⟩
      have e33 : ev (.tmp 33) = .agg #[.bool b, .bool o, .string s, .int .i64 q, .string t, .slice A l.length cap] := hev 33 _ ((hl.1 0 33 (by kernel_rfl) (by kernel_rfl)).trans (congrArg some (show y 0 = .agg #[.bool b, .bool o, .string s, .int .i64 q, .string t, .slice A l.length cap] from hd 0 (by kernel_rfl))))
      clear hd hl hev
      replace hJ := Lib.hid hJ
      go_simp
      refine (toSeat_any b o s q t _ l _ (hv0.out.below (Below.then_ hW.out hJ.out (Nat.le_refl _)))).mono ?_
      rintro e w' ⟨A, cap, rfl, ho, hb⟩
      exact ⟨_, rfl, hn _ _ hb ⟨A, cap, rfl, ho.ints⟩⟩
    · intro y W next hl hJ hd hn
      refine Or.inl ⟨wanted_free rfl, fun ev ec ef hev => ?_⟩
      have e1 : ev (.tmp 1) = .int .i64 n := hev 1 _ ((hl.2 1 (by kernel_rfl)).trans (by kernel_rfl))
      clear hd hl hev
      replace hJ := Lib.hid hJ
      go_simp
      exact hn _ _ (Below.refl _ _) rfl
    · intro y W next hl hJ hd hn
      refine Or.inl ⟨wanted_free rfl, fun ev ec ef hev => ?_⟩
      have e2 : ev (.tmp 2) = .slice A2 m.length cap2 := hev 2 _ ((hl.2 2 (by kernel_rfl)).trans (by kernel_rfl))
      clear hd hl hev
      replace hJ := Lib.hid hJ
      go_simp
      exact hn _ _ (Below.refl _ _) rfl
    · intro y W next hl hJ hd hn
      refine Or.inl ⟨wanted_free rfl, fun ev ec ef hev => ?_⟩
      have e36 : ev (.tmp 36) = .slice A2 m.length cap2 := hev 36 _ ((hl.1 3 36 (by kernel_rfl) (by kernel_rfl)).trans (congrArg some (show y 3 = .slice A2 m.length cap2 from hd 3 (by kernel_rfl))))
      clear hd hl hev
      replace hJ := Lib.hid hJ
      go_simp
      refine (toSecs_any _ m _ (hu0.out.below (Below.then_ hW.out hJ.out (Nat.le_refl _))) hml).mono ?_
      rintro e w' ⟨V4, rfl, ho, hb⟩
      exact ⟨_, rfl, hn _ _ hb ho.secs⟩
    · intro y W next hl hJ hd hn
      refine Or.inl ⟨wanted_free rfl, fun ev ec ef hev => ?_⟩
      have e7 : ev (.tmp 7) = .pointer (some ⟨w.heap.size + 1, 0, none⟩) := hev 7 _ ((hl.2 7 (by kernel_rfl)).trans (by kernel_rfl))
      clear hd hl hev
      obtain ⟨u0, u1, u2, -⟩ := (hC.out.below hJ hC.out.lt).three
      replace hJ := Lib.hid hJ
      go_simp
      exact hn _ _ (Below.refl _ _) rfl
    · intro y W next hl hJ hd hn
      refine Or.inl ⟨wanted_free rfl, fun ev ec ef hev => ?_⟩
      have e38 : ev (.tmp 38) = .agg #[.int .i64 kd, .int .i64 st, .string tt] := hev 38 _ ((hl.1 5 38 (by kernel_rfl) (by kernel_rfl)).trans (congrArg some (show y 5 = .agg #[.int .i64 kd, .int .i64 st, .string tt] from hd 5 (by kernel_rfl))))
      clear hd hl hev
      replace hJ := Lib.hid hJ
      go_simp
      refine (hTo.out _).mono ?_
      rintro e w' ⟨rfl, hb⟩
      exact ⟨_, rfl, hn _ _ hb rfl⟩
    · intro y W next hl hJ hd hn
      refine Or.inl ⟨wanted_free rfl, fun ev ec ef hev => ?_⟩
      have d34 : SeatAt b o s q t l (y 1) W := hd 1 (by kernel_rfl)
      have e34 := hev 34 _ (hl.1 1 34 (by kernel_rfl) (by kernel_rfl))
      obtain ⟨A34, c34, f34, i34⟩ := d34
      rw [f34] at e34
      have e35 : ev (.tmp 35) = .int .i64 n := hev 35 _ ((hl.1 2 35 (by kernel_rfl) (by kernel_rfl)).trans (congrArg some (show y 2 = .int .i64 n from hd 2 (by kernel_rfl))))
      have d37 : SecsAt m (y 4) W := hd 4 (by kernel_rfl)
      have e37 := hev 37 _ (hl.1 4 37 (by kernel_rfl) (by kernel_rfl))
      have e39 : ev (.tmp 39) = .agg #[.int .i64 kd, .int .i64 st, .string tt] := hev 39 _ ((hl.1 6 39 (by kernel_rfl) (by kernel_rfl)).trans (congrArg some (show y 6 = .agg #[.int .i64 kd, .int .i64 st, .string tt] from hd 6 (by kernel_rfl))))
      clear hd hl hev
      replace hJ := Lib.hid hJ
      go_simp
      refine (hSP.out _ _ _ i34 d37).mono ?_
      rintro e w' ⟨A, cap, rfl, ho, hb⟩
      exact ⟨_, rfl, hn _ _ hb ⟨A, cap, rfl, ho.mono hJ.out.size⟩⟩
    · intro y W next hl hJ hd hn
      refine Or.inl ⟨wanted_free rfl, fun ev ec ef hev => ?_⟩
      clear hd hl hev
      replace hJ := Lib.hid hJ
      go_simp
      exact hn _ _ ((Below.refl _ _).alloc (Nat.le_refl _) _) ⟨_, rfl, hJ.out.size, heap_alloc_new W _⟩
    · intro y W hl hJ hd
      refine ⟨wanted_free rfl, fun ev ec ef hev => ?_⟩
      have d10 : BoxAt (w3.heap.size) 58 [.bool false, .bool false, .string ⟨#[]⟩, .int .i64 0, .string ⟨#[]⟩, .slice none 0 0, .int .i64 0, .int .i64 0] (y 8) W := hd 8 (by kernel_rfl)
      have e10 := hev 10 _ (hl.1 8 10 (by kernel_rfl) (by kernel_rfl))
      obtain ⟨gb, f10, gl, hbx⟩ := d10
      rw [f10] at e10
      have d40 : OutAt (w3.heap.size) R (y 7) W := hd 7 (by kernel_rfl)
      have e40 := hev 40 _ (hl.1 7 40 (by kernel_rfl) (by kernel_rfl))
      obtain ⟨A40, c40, f40, i40⟩ := d40
      rw [f40] at e40
      clear hd hl hev
      obtain ⟨u0, u1, u2, u3, u4, u5, u6, u7, uf0, uf1, uf2, uf3, uf4, uf5, uf6, uf7⟩ := hbx.eight
      have gx := hbx.lt
      have hfin := Lib.hid (OutCut.of gl hbx rfl i40 hJ (own_not_box i40 hbx (by decide)) hJ.size)
      replace hJ := Lib.hid hJ
      replace i40 := Lib.hid i40
      go_simp
      exact hfin.out
    intro y w4 hA
    obtain ⟨g0, A0, cap0, hy, hgl0, bw, ow, hb4⟩ := hA
    have zg0 := Lib.hid hgl0
    have z4 := Lib.hid (show w3.heap.size ≤ w4.heap.size from Nat.le_trans (Nat.le_refl _) hb4.size)
    replace hW := Lib.hid (Below.then_ hW.out hb4 (Nat.le_refl _))
    replace hB := Lib.hid (hB.out.up hb4)
    replace hC := Lib.hid (hC.out.up hb4)
    replace bw := Lib.hid bw
    replace ow := Lib.hid ow
    clear hb4 hgl0
    simp only [lay_cons, lay_nil]
    rw [hy]
    clear hy
    simp only [Act.put, List.setIfInBounds_toArray]
    simp only [List.set_cons_succ, List.set_cons_zero]
    clear hB0 hB1 hB2 hB3 hB4 hB5 hBl
    obtain ⟨hB0, hB1, hB2, hB3, hB4, hB5, -, -, -, -, -, -⟩ := hB.out.six; have hBl := hB.out.lt
    clear hC0 hC1 hC2 hCl
    obtain ⟨hC0, hC1, hC2, -, -, -⟩ := hC.out.three; have hCl := hC.out.lt
    obtain ⟨bw0, bw1, bw2, bw3, bw4, bw5, bw6, bw7, -, -, -, -, -, -, -, -⟩ := bw.out.eight; have bwl := bw.out.lt
    go_wp2_with (go_at_call 29; refine (toSeat_any b o s q t _ l _ (hv0.out.below hW.out)).mono ?_; rintro e5 w5 ⟨A4, cap4, rfl, ho4, hb5⟩; replace hW := Lib.hid (Below.then_ hW.out hb5 (Nat.le_refl _)); replace hB := Lib.hid (hB.out.up hb5); replace hC := Lib.hid (hC.out.up hb5); replace bw := Lib.hid (bw.out.up hb5); replace ow := Lib.hid (ow.out.below hb5); clear hB0 hB1 hB2 hB3 hB4 hB5 hBl; obtain ⟨hB0, hB1, hB2, hB3, hB4, hB5, -, -, -, -, -, -⟩ := hB.out.six; have hBl := hB.out.lt; clear hC0 hC1 hC2 hCl; obtain ⟨hC0, hC1, hC2, -, -, -⟩ := hC.out.three; have hCl := hC.out.lt; clear bw0 bw1 bw2 bw3 bw4 bw5 bw6 bw7 bwl; obtain ⟨bw0, bw1, bw2, bw3, bw4, bw5, bw6, bw7, -, -, -, -, -, -, -, -⟩ := bw.out.eight; have bwl := bw.out.lt; have z5 := Lib.hid (show w4.heap.size ≤ w5.heap.size from Nat.le_trans (Nat.le_refl _) hb5.size); have o4 := Lib.hid (show Own2 w5 (w4.heap.size) w5.heap.size (.slice A4 l.length cap4) l from Own2.new ho4 (Nat.le_refl _)); clear ho4; replace hb5 := Lib.hid hb5)
    replace hW := Lib.hid (hW.out.alloc hW.out.size (.cells #[.bool b, .bool o, .string s, .int .i64 q, .string t, .slice A4 l.length cap4] 56))
    replace hB := Lib.hid (hB.out.alloc (.cells #[.bool b, .bool o, .string s, .int .i64 q, .string t, .slice A4 l.length cap4] 56))
    replace hC := Lib.hid (hC.out.alloc (.cells #[.bool b, .bool o, .string s, .int .i64 q, .string t, .slice A4 l.length cap4] 56))
    replace bw := Lib.hid (bw.out.alloc (.cells #[.bool b, .bool o, .string s, .int .i64 q, .string t, .slice A4 l.length cap4] 56))
    replace ow := Lib.hid (ow.out.alloc (.cells #[.bool b, .bool o, .string s, .int .i64 q, .string t, .slice A4 l.length cap4] 56))
    replace o4 := Lib.hid (o4.out.alloc (.cells #[.bool b, .bool o, .string s, .int .i64 q, .string t, .slice A4 l.length cap4] 56))
    have hx := Lib.hid (show Blk (w5.alloc (.cells #[.bool b, .bool o, .string s, .int .i64 q, .string t, .slice A4 l.length cap4] 56)) w5.heap.size 56 [.bool b, .bool o, .string s, .int .i64 q, .string t, .slice A4 l.length cap4] from heap_alloc_new w5 (.cells #[.bool b, .bool o, .string s, .int .i64 q, .string t, .slice A4 l.length cap4] 56))
    clear hB0 hB1 hB2 hB3 hB4 hB5 hBl
    obtain ⟨hB0, hB1, hB2, hB3, hB4, hB5, -, -, -, -, -, -⟩ := hB.out.six; have hBl := hB.out.lt
    clear hC0 hC1 hC2 hCl
    obtain ⟨hC0, hC1, hC2, -, -, -⟩ := hC.out.three; have hCl := hC.out.lt
    clear bw0 bw1 bw2 bw3 bw4 bw5 bw6 bw7 bwl
    obtain ⟨bw0, bw1, bw2, bw3, bw4, bw5, bw6, bw7, -, -, -, -, -, -, -, -⟩ := bw.out.eight; have bwl := bw.out.lt
    obtain ⟨hx0, hx1, hx2, hx3, hx4, hx5, -, -, -, -, -, -⟩ := hx.out.six; have hxl := hx.out.lt
    go_wp2_with (go_at_call 30; refine (toSecs_any _ m _ (hu0.out.below hW.out) hml).mono ?_; rintro e6 w6 ⟨V4, rfl, ho4, hb6⟩; replace hW := Lib.hid (Below.then_ hW.out hb6 (Nat.le_refl _)); replace hB := Lib.hid (hB.out.up hb6); replace hC := Lib.hid (hC.out.up hb6); replace bw := Lib.hid (bw.out.up hb6); replace hx := Lib.hid (hx.out.up hb6); replace ow := Lib.hid (ow.out.below hb6); replace o4 := Lib.hid (o4.out.below hb6); clear hB0 hB1 hB2 hB3 hB4 hB5 hBl; obtain ⟨hB0, hB1, hB2, hB3, hB4, hB5, -, -, -, -, -, -⟩ := hB.out.six; have hBl := hB.out.lt; clear hC0 hC1 hC2 hCl; obtain ⟨hC0, hC1, hC2, -, -, -⟩ := hC.out.three; have hCl := hC.out.lt; clear bw0 bw1 bw2 bw3 bw4 bw5 bw6 bw7 bwl; obtain ⟨bw0, bw1, bw2, bw3, bw4, bw5, bw6, bw7, -, -, -, -, -, -, -, -⟩ := bw.out.eight; have bwl := bw.out.lt; clear hx0 hx1 hx2 hx3 hx4 hx5 hxl; obtain ⟨hx0, hx1, hx2, hx3, hx4, hx5, -, -, -, -, -, -⟩ := hx.out.six; have hxl := hx.out.lt; have z6 := Lib.hid (show w5.heap.size + 1 ≤ w6.heap.size from Nat.le_trans (by simp) hb6.size); have p4 := Lib.hid (show OwnV w6 (w5.heap.size + 1) w6.heap.size V4 m from OwnV.new ho4 (by simp)); clear ho4; replace hb6 := Lib.hid hb6)
    go_wp2
    refine wp_region_known_storeY [(.is (.agg #[.bool b, .bool o, .string s, .int .i64 q, .string t, .slice A4 l.length cap4])), (.is (.int .i64 n)), (.is (V4)), (.is (.agg #[.int .i64 kd, .int .i64 st, .string tt])), (.is (.agg #[.int .i64 kd, .int .i64 st, .string tt])), (.that (OutAt (w6.heap.size) R) OutAt.keep), (.that (BoxAt (w6.heap.size) 58 [.bool false, .bool false, .string ⟨#[]⟩, .int .i64 0, .string ⟨#[]⟩, .slice none 0 0, .int .i64 0, .int .i64 0]) BoxAt.keep)] (fun v W => OutCut (w6.heap.size) R (w6) v W) 6 7 (by decide) (by kernel_rfl) (by kernel_rfl) (by kernel_rfl) (by kernel_rfl) rfl rfl ⟨?_, ?_, ?_, ?_, ?_, ?_, ?_, ?_⟩ ?_
    · intro y W next hl hJ hd hn
      refine Or.inl ⟨wanted_free rfl, fun ev ec ef hev => ?_⟩
      have e11 : ev (.tmp 11) = .pointer (some ⟨w5.heap.size, 0, none⟩) := hev 11 _ ((hl.2 11 (by kernel_rfl)).trans (by kernel_rfl))
      clear hd hl hev
      obtain ⟨u0, u1, u2, u3, u4, u5, -⟩ := (hx.out.below hJ hx.out.lt).six
      replace hJ := Lib.hid hJ
      go_simp
      exact hn _ _ (Below.refl _ _) rfl
    · intro y W next hl hJ hd hn
      refine Or.inl ⟨wanted_free rfl, fun ev ec ef hev => ?_⟩
      have e1 : ev (.tmp 1) = .int .i64 n := hev 1 _ ((hl.2 1 (by kernel_rfl)).trans (by kernel_rfl))
      clear hd hl hev
      replace hJ := Lib.hid hJ
      go_simp
      exact hn _ _ (Below.refl _ _) rfl
    · intro y W next hl hJ hd hn
      refine Or.inl ⟨wanted_free rfl, fun ev ec ef hev => ?_⟩
      have e12 : ev (.tmp 12) = V4 := hev 12 _ ((hl.2 12 (by kernel_rfl)).trans (by kernel_rfl))
      clear hd hl hev
      replace hJ := Lib.hid hJ
      go_simp
      exact hn _ _ (Below.refl _ _) rfl
    · intro y W next hl hJ hd hn
      refine Or.inl ⟨wanted_free rfl, fun ev ec ef hev => ?_⟩
      have e7 : ev (.tmp 7) = .pointer (some ⟨w.heap.size + 1, 0, none⟩) := hev 7 _ ((hl.2 7 (by kernel_rfl)).trans (by kernel_rfl))
      clear hd hl hev
      obtain ⟨u0, u1, u2, -⟩ := (hC.out.below hJ hC.out.lt).three
      replace hJ := Lib.hid hJ
      go_simp
      exact hn _ _ (Below.refl _ _) rfl
    · intro y W next hl hJ hd hn
      refine Or.inl ⟨wanted_free rfl, fun ev ec ef hev => ?_⟩
      have e48 : ev (.tmp 48) = .agg #[.int .i64 kd, .int .i64 st, .string tt] := hev 48 _ ((hl.1 3 48 (by kernel_rfl) (by kernel_rfl)).trans (congrArg some (show y 3 = .agg #[.int .i64 kd, .int .i64 st, .string tt] from hd 3 (by kernel_rfl))))
      clear hd hl hev
      replace hJ := Lib.hid hJ
      go_simp
      refine (hTo.out _).mono ?_
      rintro e w' ⟨rfl, hb⟩
      exact ⟨_, rfl, hn _ _ hb rfl⟩
    · intro y W next hl hJ hd hn
      refine Or.inl ⟨wanted_free rfl, fun ev ec ef hev => ?_⟩
      have e45 : ev (.tmp 45) = .agg #[.bool b, .bool o, .string s, .int .i64 q, .string t, .slice A4 l.length cap4] := hev 45 _ ((hl.1 0 45 (by kernel_rfl) (by kernel_rfl)).trans (congrArg some (show y 0 = .agg #[.bool b, .bool o, .string s, .int .i64 q, .string t, .slice A4 l.length cap4] from hd 0 (by kernel_rfl))))
      have e46 : ev (.tmp 46) = .int .i64 n := hev 46 _ ((hl.1 1 46 (by kernel_rfl) (by kernel_rfl)).trans (congrArg some (show y 1 = .int .i64 n from hd 1 (by kernel_rfl))))
      have e47 : ev (.tmp 47) = V4 := hev 47 _ ((hl.1 2 47 (by kernel_rfl) (by kernel_rfl)).trans (congrArg some (show y 2 = V4 from hd 2 (by kernel_rfl))))
      have e49 : ev (.tmp 49) = .agg #[.int .i64 kd, .int .i64 st, .string tt] := hev 49 _ ((hl.1 4 49 (by kernel_rfl) (by kernel_rfl)).trans (congrArg some (show y 4 = .agg #[.int .i64 kd, .int .i64 st, .string tt] from hd 4 (by kernel_rfl))))
      clear hd hl hev
      have ii := (o4.out.below hJ).ints
      have kk := (p4.out.below hJ).secs
      replace hJ := Lib.hid hJ
      go_simp
      refine (hIM.out _ _ _ ii kk (hg0.out.below (Below.then_ hW.out hJ.out (Nat.le_refl _)))).mono ?_
      rintro e w' ⟨A, cap, rfl, ho, hb⟩
      exact ⟨_, rfl, hn _ _ hb ⟨A, cap, rfl, ho.mono hJ.out.size⟩⟩
    · intro y W next hl hJ hd hn
      refine Or.inl ⟨wanted_free rfl, fun ev ec ef hev => ?_⟩
      clear hd hl hev
      replace hJ := Lib.hid hJ
      go_simp
      exact hn _ _ ((Below.refl _ _).alloc (Nat.le_refl _) _) ⟨_, rfl, hJ.out.size, heap_alloc_new W _⟩
    · intro y W hl hJ hd
      refine ⟨wanted_free rfl, fun ev ec ef hev => ?_⟩
      have d13 : BoxAt (w6.heap.size) 58 [.bool false, .bool false, .string ⟨#[]⟩, .int .i64 0, .string ⟨#[]⟩, .slice none 0 0, .int .i64 0, .int .i64 0] (y 6) W := hd 6 (by kernel_rfl)
      have e13 := hev 13 _ (hl.1 6 13 (by kernel_rfl) (by kernel_rfl))
      obtain ⟨gb, f13, gl, hbx⟩ := d13
      rw [f13] at e13
      have d50 : OutAt (w6.heap.size) R (y 5) W := hd 5 (by kernel_rfl)
      have e50 := hev 50 _ (hl.1 5 50 (by kernel_rfl) (by kernel_rfl))
      obtain ⟨A50, c50, f50, i50⟩ := d50
      rw [f50] at e50
      clear hd hl hev
      obtain ⟨u0, u1, u2, u3, u4, u5, u6, u7, uf0, uf1, uf2, uf3, uf4, uf5, uf6, uf7⟩ := hbx.eight
      have gx := hbx.lt
      have hfin := Lib.hid (OutCut.of gl hbx rfl i50 hJ (own_not_box i50 hbx (by decide)) hJ.size)
      replace hJ := Lib.hid hJ
      replace i50 := Lib.hid i50
      go_simp
      exact hfin.out
    intro y w7 hA
    obtain ⟨g1, A1, cap1, hy, hgl1, bg, og, hb7⟩ := hA
    have zg1 := Lib.hid hgl1
    have z7 := Lib.hid (show w6.heap.size ≤ w7.heap.size from Nat.le_trans (Nat.le_refl _) hb7.size)
    replace hW := Lib.hid (Below.then_ hW.out hb7 (Nat.le_refl _))
    replace hB := Lib.hid (hB.out.up hb7)
    replace hC := Lib.hid (hC.out.up hb7)
    replace bw := Lib.hid (bw.out.up hb7)
    replace hx := Lib.hid (hx.out.up hb7)
    replace ow := Lib.hid (ow.out.below hb7)
    replace o4 := Lib.hid (o4.out.below hb7)
    replace p4 := Lib.hid (p4.out.below hb7)
    replace bg := Lib.hid bg
    replace og := Lib.hid og
    clear hb7 hgl1
    simp only [lay_cons, lay_nil]
    rw [hy]
    clear hy
    simp only [Act.put, List.setIfInBounds_toArray]
    simp only [List.set_cons_succ, List.set_cons_zero]
    clear hB0 hB1 hB2 hB3 hB4 hB5 hBl
    obtain ⟨hB0, hB1, hB2, hB3, hB4, hB5, -, -, -, -, -, -⟩ := hB.out.six; have hBl := hB.out.lt
    clear hC0 hC1 hC2 hCl
    obtain ⟨hC0, hC1, hC2, -, -, -⟩ := hC.out.three; have hCl := hC.out.lt
    clear bw0 bw1 bw2 bw3 bw4 bw5 bw6 bw7 bwl
    obtain ⟨bw0, bw1, bw2, bw3, bw4, bw5, bw6, bw7, -, -, -, -, -, -, -, -⟩ := bw.out.eight; have bwl := bw.out.lt
    clear hx0 hx1 hx2 hx3 hx4 hx5 hxl
    obtain ⟨hx0, hx1, hx2, hx3, hx4, hx5, -, -, -, -, -, -⟩ := hx.out.six; have hxl := hx.out.lt
    obtain ⟨bg0, bg1, bg2, bg3, bg4, bg5, bg6, bg7, -, -, -, -, -, -, -, -⟩ := bg.out.eight; have bgl := bg.out.lt
    go_wp2_with (go_at_call 33; refine (eqSeatOut_same R.b R.o R.s R.q R.t _ _ R.l R.d R.c _ og.out.ints ow.out.ints).mono ?_; rintro e8 w8 ⟨rfl, hb8⟩; replace hW := Lib.hid (Below.then_ hW.out hb8 (Nat.le_refl _)); replace hB := Lib.hid (hB.out.up hb8); replace hC := Lib.hid (hC.out.up hb8); replace bw := Lib.hid (bw.out.up hb8); replace hx := Lib.hid (hx.out.up hb8); replace bg := Lib.hid (bg.out.up hb8); replace ow := Lib.hid (ow.out.below hb8); replace o4 := Lib.hid (o4.out.below hb8); replace p4 := Lib.hid (p4.out.below hb8); replace og := Lib.hid (og.out.below hb8); clear hB0 hB1 hB2 hB3 hB4 hB5 hBl; obtain ⟨hB0, hB1, hB2, hB3, hB4, hB5, -, -, -, -, -, -⟩ := hB.out.six; have hBl := hB.out.lt; clear hC0 hC1 hC2 hCl; obtain ⟨hC0, hC1, hC2, -, -, -⟩ := hC.out.three; have hCl := hC.out.lt; clear bw0 bw1 bw2 bw3 bw4 bw5 bw6 bw7 bwl; obtain ⟨bw0, bw1, bw2, bw3, bw4, bw5, bw6, bw7, -, -, -, -, -, -, -, -⟩ := bw.out.eight; have bwl := bw.out.lt; clear hx0 hx1 hx2 hx3 hx4 hx5 hxl; obtain ⟨hx0, hx1, hx2, hx3, hx4, hx5, -, -, -, -, -, -⟩ := hx.out.six; have hxl := hx.out.lt; clear bg0 bg1 bg2 bg3 bg4 bg5 bg6 bg7 bgl; obtain ⟨bg0, bg1, bg2, bg3, bg4, bg5, bg6, bg7, -, -, -, -, -, -, -, -⟩ := bg.out.eight; have bgl := bg.out.lt; have z8 := Lib.hid (show w7.heap.size ≤ w8.heap.size from Nat.le_trans (Nat.le_refl _) hb8.size); replace hb8 := Lib.hid hb8)
    replace hW := Lib.hid (below_drew' hW.out)
    replace hB := Lib.hid hB.out.drew
    replace hC := Lib.hid hC.out.drew
    replace bw := Lib.hid bw.out.drew
    replace hx := Lib.hid hx.out.drew
    replace bg := Lib.hid bg.out.drew
    replace ow := Lib.hid ow.out.drew
    replace o4 := Lib.hid o4.out.drew
    replace p4 := Lib.hid p4.out.drew
    replace og := Lib.hid og.out.drew
    clear hB0 hB1 hB2 hB3 hB4 hB5 hBl
    obtain ⟨hB0, hB1, hB2, hB3, hB4, hB5, -, -, -, -, -, -⟩ := hB.out.six; have hBl := hB.out.lt
    clear hC0 hC1 hC2 hCl
    obtain ⟨hC0, hC1, hC2, -, -, -⟩ := hC.out.three; have hCl := hC.out.lt
    clear bw0 bw1 bw2 bw3 bw4 bw5 bw6 bw7 bwl
    obtain ⟨bw0, bw1, bw2, bw3, bw4, bw5, bw6, bw7, -, -, -, -, -, -, -, -⟩ := bw.out.eight; have bwl := bw.out.lt
    clear hx0 hx1 hx2 hx3 hx4 hx5 hxl
    obtain ⟨hx0, hx1, hx2, hx3, hx4, hx5, -, -, -, -, -, -⟩ := hx.out.six; have hxl := hx.out.lt
    clear bg0 bg1 bg2 bg3 bg4 bg5 bg6 bg7 bgl
    obtain ⟨bg0, bg1, bg2, bg3, bg4, bg5, bg6, bg7, -, -, -, -, -, -, -, -⟩ := bg.out.eight; have bgl := bg.out.lt
    go_region_held3 (fun w' => w'.cell? ⟨w.heap.size, 0, none⟩ = some (.bool b) ∧ w'.cell? ⟨w.heap.size, 1, none⟩ = some (.bool o) ∧ w'.cell? ⟨w.heap.size, 2, none⟩ = some (.string s) ∧ w'.cell? ⟨w.heap.size, 3, none⟩ = some (.int .i64 q) ∧ w'.cell? ⟨w.heap.size, 4, none⟩ = some (.string t) ∧ w'.cell? ⟨w.heap.size, 5, none⟩ = some (.slice A l.length cap) ∧ w'.cell? ⟨w5.heap.size, 0, none⟩ = some (.bool b) ∧ w'.cell? ⟨w5.heap.size, 1, none⟩ = some (.bool o) ∧ w'.cell? ⟨w5.heap.size, 2, none⟩ = some (.string s) ∧ w'.cell? ⟨w5.heap.size, 3, none⟩ = some (.int .i64 q) ∧ w'.cell? ⟨w5.heap.size, 4, none⟩ = some (.string t) ∧ w'.cell? ⟨w5.heap.size, 5, none⟩ = some (.slice A4 l.length cap4)) (first | exact ⟨hB0, hB1, hB2, hB3, hB4, hB5, hx0, hx1, hx2, hx3, hx4, hx5⟩ | go_keep)
        (first
          | (go_at_call 29; refine (toSeat_any b o s q t _ l _ (hv0.out.below hW.out)).mono ?_; rintro e9 w9 ⟨A6, cap6, rfl, ho6, hb9⟩; replace hW := Lib.hid (Below.then_ hW.out hb9 (Nat.le_refl _)); replace hB := Lib.hid (hB.out.up hb9); replace hC := Lib.hid (hC.out.up hb9); replace bw := Lib.hid (bw.out.up hb9); replace hx := Lib.hid (hx.out.up hb9); replace bg := Lib.hid (bg.out.up hb9); replace ow := Lib.hid (ow.out.below hb9); replace o4 := Lib.hid (o4.out.below hb9); replace p4 := Lib.hid (p4.out.below hb9); replace og := Lib.hid (og.out.below hb9); clear hB0 hB1 hB2 hB3 hB4 hB5 hBl; obtain ⟨hB0, hB1, hB2, hB3, hB4, hB5, -, -, -, -, -, -⟩ := hB.out.six; have hBl := hB.out.lt; clear hC0 hC1 hC2 hCl; obtain ⟨hC0, hC1, hC2, -, -, -⟩ := hC.out.three; have hCl := hC.out.lt; clear bw0 bw1 bw2 bw3 bw4 bw5 bw6 bw7 bwl; obtain ⟨bw0, bw1, bw2, bw3, bw4, bw5, bw6, bw7, -, -, -, -, -, -, -, -⟩ := bw.out.eight; have bwl := bw.out.lt; clear hx0 hx1 hx2 hx3 hx4 hx5 hxl; obtain ⟨hx0, hx1, hx2, hx3, hx4, hx5, -, -, -, -, -, -⟩ := hx.out.six; have hxl := hx.out.lt; clear bg0 bg1 bg2 bg3 bg4 bg5 bg6 bg7 bgl; obtain ⟨bg0, bg1, bg2, bg3, bg4, bg5, bg6, bg7, -, -, -, -, -, -, -, -⟩ := bg.out.eight; have bgl := bg.out.lt; have z9 := Lib.hid (show w8.heap.size ≤ w9.heap.size from Nat.le_trans (Nat.le_refl _) hb9.size); have o6 := Lib.hid (show Own2 w9 (w8.heap.size) w9.heap.size (.slice A6 l.length cap6) l from Own2.new ho6 (Nat.le_refl _)); clear ho6; replace hb9 := Lib.hid hb9)
          | (go_at_call 34; refine (eqSeat_same b o s q t _ _ l _ o4.out.ints o6.out.ints).mono ?_; rintro e10 w10 ⟨rfl, hb10⟩; replace hW := Lib.hid (Below.then_ hW.out hb10 (Nat.le_refl _)); replace hB := Lib.hid (hB.out.up hb10); replace hC := Lib.hid (hC.out.up hb10); replace bw := Lib.hid (bw.out.up hb10); replace hx := Lib.hid (hx.out.up hb10); replace bg := Lib.hid (bg.out.up hb10); replace ow := Lib.hid (ow.out.below hb10); replace o4 := Lib.hid (o4.out.below hb10); replace p4 := Lib.hid (p4.out.below hb10); replace og := Lib.hid (og.out.below hb10); replace o6 := Lib.hid (o6.out.below hb10); clear hB0 hB1 hB2 hB3 hB4 hB5 hBl; obtain ⟨hB0, hB1, hB2, hB3, hB4, hB5, -, -, -, -, -, -⟩ := hB.out.six; have hBl := hB.out.lt; clear hC0 hC1 hC2 hCl; obtain ⟨hC0, hC1, hC2, -, -, -⟩ := hC.out.three; have hCl := hC.out.lt; clear bw0 bw1 bw2 bw3 bw4 bw5 bw6 bw7 bwl; obtain ⟨bw0, bw1, bw2, bw3, bw4, bw5, bw6, bw7, -, -, -, -, -, -, -, -⟩ := bw.out.eight; have bwl := bw.out.lt; clear hx0 hx1 hx2 hx3 hx4 hx5 hxl; obtain ⟨hx0, hx1, hx2, hx3, hx4, hx5, -, -, -, -, -, -⟩ := hx.out.six; have hxl := hx.out.lt; clear bg0 bg1 bg2 bg3 bg4 bg5 bg6 bg7 bgl; obtain ⟨bg0, bg1, bg2, bg3, bg4, bg5, bg6, bg7, -, -, -, -, -, -, -, -⟩ := bg.out.eight; have bgl := bg.out.lt; have z10 := Lib.hid (show w9.heap.size ≤ w10.heap.size from Nat.le_trans (Nat.le_refl _) hb10.size); replace hb10 := Lib.hid hb10))
    clear o6
    go_wp2_with (go_at_call 30; refine (toSecs_any _ m _ (hu0.out.below hW.out) hml).mono ?_; rintro e11 w11 ⟨V6, rfl, ho6, hb11⟩; replace hW := Lib.hid (Below.then_ hW.out hb11 (Nat.le_refl _)); replace hB := Lib.hid (hB.out.up hb11); replace hC := Lib.hid (hC.out.up hb11); replace bw := Lib.hid (bw.out.up hb11); replace hx := Lib.hid (hx.out.up hb11); replace bg := Lib.hid (bg.out.up hb11); replace ow := Lib.hid (ow.out.below hb11); replace o4 := Lib.hid (o4.out.below hb11); replace p4 := Lib.hid (p4.out.below hb11); replace og := Lib.hid (og.out.below hb11); clear hB0 hB1 hB2 hB3 hB4 hB5 hBl; obtain ⟨hB0, hB1, hB2, hB3, hB4, hB5, -, -, -, -, -, -⟩ := hB.out.six; have hBl := hB.out.lt; clear hC0 hC1 hC2 hCl; obtain ⟨hC0, hC1, hC2, -, -, -⟩ := hC.out.three; have hCl := hC.out.lt; clear bw0 bw1 bw2 bw3 bw4 bw5 bw6 bw7 bwl; obtain ⟨bw0, bw1, bw2, bw3, bw4, bw5, bw6, bw7, -, -, -, -, -, -, -, -⟩ := bw.out.eight; have bwl := bw.out.lt; clear hx0 hx1 hx2 hx3 hx4 hx5 hxl; obtain ⟨hx0, hx1, hx2, hx3, hx4, hx5, -, -, -, -, -, -⟩ := hx.out.six; have hxl := hx.out.lt; clear bg0 bg1 bg2 bg3 bg4 bg5 bg6 bg7 bgl; obtain ⟨bg0, bg1, bg2, bg3, bg4, bg5, bg6, bg7, -, -, -, -, -, -, -, -⟩ := bg.out.eight; have bgl := bg.out.lt; have z11 := Lib.hid (show w10.heap.size ≤ w11.heap.size from Nat.le_trans (Nat.le_refl _) hb11.size); have p6 := Lib.hid (show OwnV w11 (w10.heap.size) w11.heap.size V6 m from OwnV.new ho6 (Nat.le_refl _)); clear ho6; replace hb11 := Lib.hid hb11)
    go_wp2_with (go_at_call 35; refine (eqSecs_same _ _ m _ p4.out.secs p6.out.secs).mono ?_; rintro e12 w12 ⟨rfl, hb12⟩; replace hW := Lib.hid (Below.then_ hW.out hb12 (Nat.le_refl _)); replace hB := Lib.hid (hB.out.up hb12); replace hC := Lib.hid (hC.out.up hb12); replace bw := Lib.hid (bw.out.up hb12); replace hx := Lib.hid (hx.out.up hb12); replace bg := Lib.hid (bg.out.up hb12); replace ow := Lib.hid (ow.out.below hb12); replace o4 := Lib.hid (o4.out.below hb12); replace p4 := Lib.hid (p4.out.below hb12); replace og := Lib.hid (og.out.below hb12); replace p6 := Lib.hid (p6.out.below hb12); clear hB0 hB1 hB2 hB3 hB4 hB5 hBl; obtain ⟨hB0, hB1, hB2, hB3, hB4, hB5, -, -, -, -, -, -⟩ := hB.out.six; have hBl := hB.out.lt; clear hC0 hC1 hC2 hCl; obtain ⟨hC0, hC1, hC2, -, -, -⟩ := hC.out.three; have hCl := hC.out.lt; clear bw0 bw1 bw2 bw3 bw4 bw5 bw6 bw7 bwl; obtain ⟨bw0, bw1, bw2, bw3, bw4, bw5, bw6, bw7, -, -, -, -, -, -, -, -⟩ := bw.out.eight; have bwl := bw.out.lt; clear hx0 hx1 hx2 hx3 hx4 hx5 hxl; obtain ⟨hx0, hx1, hx2, hx3, hx4, hx5, -, -, -, -, -, -⟩ := hx.out.six; have hxl := hx.out.lt; clear bg0 bg1 bg2 bg3 bg4 bg5 bg6 bg7 bgl; obtain ⟨bg0, bg1, bg2, bg3, bg4, bg5, bg6, bg7, -, -, -, -, -, -, -, -⟩ := bg.out.eight; have bgl := bg.out.lt; have z12 := Lib.hid (show w11.heap.size ≤ w12.heap.size from Nat.le_trans (Nat.le_refl _) hb12.size); replace hb12 := Lib.hid hb12)
    clear p6
    go_wp2_with (go_at_call 36; refine (markSeat_one b o s q t _ l _ _ o4.out.1).mono ?_; rintro e13 w13 ⟨rfl, ho, hg⟩; replace hW := Lib.hid (o4.out.stays hg hW.out (by have := z1.out; have := z2.out; have := z3.out; have := z4.out; have := zg0.out; have := z5.out; have := z6.out; have := z7.out; have := zg1.out; have := z8.out; have := z9.out; have := z10.out; have := z11.out; have := z12.out; omega)); replace hB := Lib.hid (o4.out.box hg hB.out (by decide)); replace hC := Lib.hid (o4.out.box hg hC.out (by decide)); replace bw := Lib.hid (o4.out.box hg bw.out (by decide)); replace hx := Lib.hid (o4.out.box hg hx.out (by decide)); replace bg := Lib.hid (o4.out.box hg bg.out (by decide)); replace ow := Lib.hid (ow.out.apart hg o4.out (by have := z1.out; have := z2.out; have := z3.out; have := z4.out; have := zg0.out; have := z5.out; have := z6.out; have := z7.out; have := zg1.out; have := z8.out; have := z9.out; have := z10.out; have := z11.out; have := z12.out; omega)); replace p4 := Lib.hid (p4.out.apart hg o4.out (by have := z1.out; have := z2.out; have := z3.out; have := z4.out; have := zg0.out; have := z5.out; have := z6.out; have := z7.out; have := zg1.out; have := z8.out; have := z9.out; have := z10.out; have := z11.out; have := z12.out; omega)); replace og := Lib.hid (og.out.apart hg o4.out (by have := z1.out; have := z2.out; have := z3.out; have := z4.out; have := zg0.out; have := z5.out; have := z6.out; have := z7.out; have := zg1.out; have := z8.out; have := z9.out; have := z10.out; have := z11.out; have := z12.out; omega)); have z13 := Lib.hid (show w12.heap.size ≤ w13.heap.size from Nat.le_trans (Nat.le_refl _) hg.size); replace o4 := Lib.hid (o4.out.marked ho); clear ho hg; rw [← hK1.out]; clear hB0 hB1 hB2 hB3 hB4 hB5 hBl; obtain ⟨hB0, hB1, hB2, hB3, hB4, hB5, -, -, -, -, -, -⟩ := hB.out.six; have hBl := hB.out.lt; clear hC0 hC1 hC2 hCl; obtain ⟨hC0, hC1, hC2, -, -, -⟩ := hC.out.three; have hCl := hC.out.lt; clear bw0 bw1 bw2 bw3 bw4 bw5 bw6 bw7 bwl; obtain ⟨bw0, bw1, bw2, bw3, bw4, bw5, bw6, bw7, -, -, -, -, -, -, -, -⟩ := bw.out.eight; have bwl := bw.out.lt; clear hx0 hx1 hx2 hx3 hx4 hx5 hxl; obtain ⟨hx0, hx1, hx2, hx3, hx4, hx5, -, -, -, -, -, -⟩ := hx.out.six; have hxl := hx.out.lt; clear bg0 bg1 bg2 bg3 bg4 bg5 bg6 bg7 bgl; obtain ⟨bg0, bg1, bg2, bg3, bg4, bg5, bg6, bg7, -, -, -, -, -, -, -, -⟩ := bg.out.eight; have bgl := bg.out.lt)
    go_wp2_with (go_at_call 37; refine (markSecs_any _ m K1 _ _ hK3.out hK4.out p4.out.1).mono ?_; rintro e14 w14 ⟨rfl, ho, hg⟩; replace hW := Lib.hid (p4.out.stays hg hW.out (by have := z1.out; have := z2.out; have := z3.out; have := z4.out; have := zg0.out; have := z5.out; have := z6.out; have := z7.out; have := zg1.out; have := z8.out; have := z9.out; have := z10.out; have := z11.out; have := z12.out; have := z13.out; omega)); replace hB := Lib.hid (p4.out.blk hg hB.out (by have := z1.out; have := z2.out; have := z3.out; have := z4.out; have := zg0.out; have := z5.out; have := z6.out; have := z7.out; have := zg1.out; have := z8.out; have := z9.out; have := z10.out; have := z11.out; have := z12.out; have := z13.out; omega)); replace hC := Lib.hid (p4.out.blk hg hC.out (by have := z1.out; have := z2.out; have := z3.out; have := z4.out; have := zg0.out; have := z5.out; have := z6.out; have := z7.out; have := zg1.out; have := z8.out; have := z9.out; have := z10.out; have := z11.out; have := z12.out; have := z13.out; omega)); replace bw := Lib.hid (p4.out.blk hg bw.out (by have := z1.out; have := z2.out; have := z3.out; have := z4.out; have := zg0.out; have := z5.out; have := z6.out; have := z7.out; have := zg1.out; have := z8.out; have := z9.out; have := z10.out; have := z11.out; have := z12.out; have := z13.out; omega)); replace hx := Lib.hid (p4.out.blk hg hx.out (by have := z1.out; have := z2.out; have := z3.out; have := z4.out; have := zg0.out; have := z5.out; have := z6.out; have := z7.out; have := zg1.out; have := z8.out; have := z9.out; have := z10.out; have := z11.out; have := z12.out; have := z13.out; omega)); replace bg := Lib.hid (p4.out.blk hg bg.out (by have := z1.out; have := z2.out; have := z3.out; have := z4.out; have := zg0.out; have := z5.out; have := z6.out; have := z7.out; have := zg1.out; have := z8.out; have := z9.out; have := z10.out; have := z11.out; have := z12.out; have := z13.out; omega)); replace ow := Lib.hid (ow.out.apartV hg p4.out (by have := z1.out; have := z2.out; have := z3.out; have := z4.out; have := zg0.out; have := z5.out; have := z6.out; have := z7.out; have := zg1.out; have := z8.out; have := z9.out; have := z10.out; have := z11.out; have := z12.out; have := z13.out; omega)); replace o4 := Lib.hid (o4.out.apartV hg p4.out (by have := z1.out; have := z2.out; have := z3.out; have := z4.out; have := zg0.out; have := z5.out; have := z6.out; have := z7.out; have := zg1.out; have := z8.out; have := z9.out; have := z10.out; have := z11.out; have := z12.out; have := z13.out; omega)); replace og := Lib.hid (og.out.apartV hg p4.out (by have := z1.out; have := z2.out; have := z3.out; have := z4.out; have := zg0.out; have := z5.out; have := z6.out; have := z7.out; have := zg1.out; have := z8.out; have := z9.out; have := z10.out; have := z11.out; have := z12.out; have := z13.out; omega)); have z14 := Lib.hid (show w13.heap.size ≤ w14.heap.size from Nat.le_trans (Nat.le_refl _) hg.size); replace p4 := Lib.hid (p4.out.marked ho); clear ho hg; rw [← hK2.out]; clear hB0 hB1 hB2 hB3 hB4 hB5 hBl; obtain ⟨hB0, hB1, hB2, hB3, hB4, hB5, -, -, -, -, -, -⟩ := hB.out.six; have hBl := hB.out.lt; clear hC0 hC1 hC2 hCl; obtain ⟨hC0, hC1, hC2, -, -, -⟩ := hC.out.three; have hCl := hC.out.lt; clear bw0 bw1 bw2 bw3 bw4 bw5 bw6 bw7 bwl; obtain ⟨bw0, bw1, bw2, bw3, bw4, bw5, bw6, bw7, -, -, -, -, -, -, -, -⟩ := bw.out.eight; have bwl := bw.out.lt; clear hx0 hx1 hx2 hx3 hx4 hx5 hxl; obtain ⟨hx0, hx1, hx2, hx3, hx4, hx5, -, -, -, -, -, -⟩ := hx.out.six; have hxl := hx.out.lt; clear bg0 bg1 bg2 bg3 bg4 bg5 bg6 bg7 bgl; obtain ⟨bg0, bg1, bg2, bg3, bg4, bg5, bg6, bg7, -, -, -, -, -, -, -, -⟩ := bg.out.eight; have bgl := bg.out.lt)
    go_wp2_with (go_at_call 33; refine (eqSeatOut_same R.b R.o R.s R.q R.t _ _ R.l R.d R.c _ og.out.ints ow.out.ints).mono ?_; rintro e15 w15 ⟨rfl, hb15⟩; replace hW := Lib.hid (Below.then_ hW.out hb15 (Nat.le_refl _)); replace hB := Lib.hid (hB.out.up hb15); replace hC := Lib.hid (hC.out.up hb15); replace bw := Lib.hid (bw.out.up hb15); replace hx := Lib.hid (hx.out.up hb15); replace bg := Lib.hid (bg.out.up hb15); replace ow := Lib.hid (ow.out.below hb15); replace o4 := Lib.hid (o4.out.below hb15); replace p4 := Lib.hid (p4.out.below hb15); replace og := Lib.hid (og.out.below hb15); clear hB0 hB1 hB2 hB3 hB4 hB5 hBl; obtain ⟨hB0, hB1, hB2, hB3, hB4, hB5, -, -, -, -, -, -⟩ := hB.out.six; have hBl := hB.out.lt; clear hC0 hC1 hC2 hCl; obtain ⟨hC0, hC1, hC2, -, -, -⟩ := hC.out.three; have hCl := hC.out.lt; clear bw0 bw1 bw2 bw3 bw4 bw5 bw6 bw7 bwl; obtain ⟨bw0, bw1, bw2, bw3, bw4, bw5, bw6, bw7, -, -, -, -, -, -, -, -⟩ := bw.out.eight; have bwl := bw.out.lt; clear hx0 hx1 hx2 hx3 hx4 hx5 hxl; obtain ⟨hx0, hx1, hx2, hx3, hx4, hx5, -, -, -, -, -, -⟩ := hx.out.six; have hxl := hx.out.lt; clear bg0 bg1 bg2 bg3 bg4 bg5 bg6 bg7 bgl; obtain ⟨bg0, bg1, bg2, bg3, bg4, bg5, bg6, bg7, -, -, -, -, -, -, -, -⟩ := bg.out.eight; have bgl := bg.out.lt; have z15 := Lib.hid (show w14.heap.size ≤ w15.heap.size from Nat.le_trans (Nat.le_refl _) hb15.size); replace hb15 := Lib.hid hb15)
    go_wp2_with (go_at_call 38; refine (markSeatOut_one R.b R.o R.s R.q R.t _ R.l R.d R.c _ _ og.out.1).mono ?_; rintro e16 w16 ⟨rfl, ho, hg⟩; replace hW := Lib.hid (og.out.stays hg hW.out (by have := z1.out; have := z2.out; have := z3.out; have := z4.out; have := zg0.out; have := z5.out; have := z6.out; have := z7.out; have := zg1.out; have := z8.out; have := z9.out; have := z10.out; have := z11.out; have := z12.out; have := z13.out; have := z14.out; have := z15.out; omega)); replace hB := Lib.hid (og.out.box hg hB.out (by decide)); replace hC := Lib.hid (og.out.box hg hC.out (by decide)); replace bw := Lib.hid (og.out.box hg bw.out (by decide)); replace hx := Lib.hid (og.out.box hg hx.out (by decide)); replace bg := Lib.hid (og.out.box hg bg.out (by decide)); replace ow := Lib.hid (ow.out.apart hg og.out (by have := z1.out; have := z2.out; have := z3.out; have := z4.out; have := zg0.out; have := z5.out; have := z6.out; have := z7.out; have := zg1.out; have := z8.out; have := z9.out; have := z10.out; have := z11.out; have := z12.out; have := z13.out; have := z14.out; have := z15.out; omega)); replace o4 := Lib.hid (o4.out.apart hg og.out (by have := z1.out; have := z2.out; have := z3.out; have := z4.out; have := zg0.out; have := z5.out; have := z6.out; have := z7.out; have := zg1.out; have := z8.out; have := z9.out; have := z10.out; have := z11.out; have := z12.out; have := z13.out; have := z14.out; have := z15.out; omega)); replace p4 := Lib.hid (p4.out.apart hg og.out (by have := z1.out; have := z2.out; have := z3.out; have := z4.out; have := zg0.out; have := z5.out; have := z6.out; have := z7.out; have := zg1.out; have := z8.out; have := z9.out; have := z10.out; have := z11.out; have := z12.out; have := z13.out; have := z14.out; have := z15.out; omega)); have z16 := Lib.hid (show w15.heap.size ≤ w16.heap.size from Nat.le_trans (Nat.le_refl _) hg.size); replace og := Lib.hid (og.out.marked ho); clear ho hg; rw [← hMM.out]; clear hB0 hB1 hB2 hB3 hB4 hB5 hBl; obtain ⟨hB0, hB1, hB2, hB3, hB4, hB5, -, -, -, -, -, -⟩ := hB.out.six; have hBl := hB.out.lt; clear hC0 hC1 hC2 hCl; obtain ⟨hC0, hC1, hC2, -, -, -⟩ := hC.out.three; have hCl := hC.out.lt; clear bw0 bw1 bw2 bw3 bw4 bw5 bw6 bw7 bwl; obtain ⟨bw0, bw1, bw2, bw3, bw4, bw5, bw6, bw7, -, -, -, -, -, -, -, -⟩ := bw.out.eight; have bwl := bw.out.lt; clear hx0 hx1 hx2 hx3 hx4 hx5 hxl; obtain ⟨hx0, hx1, hx2, hx3, hx4, hx5, -, -, -, -, -, -⟩ := hx.out.six; have hxl := hx.out.lt; clear bg0 bg1 bg2 bg3 bg4 bg5 bg6 bg7 bgl; obtain ⟨bg0, bg1, bg2, bg3, bg4, bg5, bg6, bg7, -, -, -, -, -, -, -, -⟩ := bg.out.eight; have bgl := bg.out.lt)
    go_wp2_with (go_at_call 39; refine (heldSeatOut_one R.b R.o R.s R.q R.t _ R.l.length R.d R.c _ og.out.ints).mono ?_; rintro e17 w17 ⟨rfl, hb17⟩; replace hW := Lib.hid (Below.then_ hW.out hb17 (Nat.le_refl _)); replace hB := Lib.hid (hB.out.up hb17); replace hC := Lib.hid (hC.out.up hb17); replace bw := Lib.hid (bw.out.up hb17); replace hx := Lib.hid (hx.out.up hb17); replace bg := Lib.hid (bg.out.up hb17); replace ow := Lib.hid (ow.out.below hb17); replace o4 := Lib.hid (o4.out.below hb17); replace p4 := Lib.hid (p4.out.below hb17); replace og := Lib.hid (og.out.below hb17); clear hB0 hB1 hB2 hB3 hB4 hB5 hBl; obtain ⟨hB0, hB1, hB2, hB3, hB4, hB5, -, -, -, -, -, -⟩ := hB.out.six; have hBl := hB.out.lt; clear hC0 hC1 hC2 hCl; obtain ⟨hC0, hC1, hC2, -, -, -⟩ := hC.out.three; have hCl := hC.out.lt; clear bw0 bw1 bw2 bw3 bw4 bw5 bw6 bw7 bwl; obtain ⟨bw0, bw1, bw2, bw3, bw4, bw5, bw6, bw7, -, -, -, -, -, -, -, -⟩ := bw.out.eight; have bwl := bw.out.lt; clear hx0 hx1 hx2 hx3 hx4 hx5 hxl; obtain ⟨hx0, hx1, hx2, hx3, hx4, hx5, -, -, -, -, -, -⟩ := hx.out.six; have hxl := hx.out.lt; clear bg0 bg1 bg2 bg3 bg4 bg5 bg6 bg7 bgl; obtain ⟨bg0, bg1, bg2, bg3, bg4, bg5, bg6, bg7, -, -, -, -, -, -, -, -⟩ := bg.out.eight; have bgl := bg.out.lt; have z17 := Lib.hid (show w16.heap.size ≤ w17.heap.size from Nat.le_trans (Nat.le_refl _) hb17.size); rw [← hMM.out]; replace hb17 := Lib.hid hb17)
    go_wp2
    refine wp_region_known_storeY [(.is (.agg #[.bool b, .bool o, .string s, .int .i64 q, .string t, .slice A l.length cap])), (.that (SeatAt b o s q t l) SeatAt.keep), (.is (.int .i64 n)), (.is (.slice A2 m.length cap2)), (.that (SecsAt m) SecsAt.keep), (.is (.agg #[.int .i64 kd, .int .i64 st, .string tt])), (.is (.agg #[.int .i64 kd, .int .i64 st, .string tt])), (.that (OutAt (w17.heap.size) R) OutAt.keep), (.that (BoxAt (w17.heap.size) 58 [.bool false, .bool false, .string ⟨#[]⟩, .int .i64 0, .string ⟨#[]⟩, .slice none 0 0, .int .i64 0, .int .i64 0]) BoxAt.keep)] (fun v W => OutCut (w17.heap.size) R (w17) v W) 8 9 (by decide) (by kernel_rfl) (by kernel_rfl) (by kernel_rfl) (by kernel_rfl) rfl rfl ⟨?_, ?_, ?_, ?_, ?_, ?_, ?_, ?_, ?_, ?_⟩ ?_
    · intro y W next hl hJ hd hn
      refine Or.inl ⟨wanted_free rfl, fun ev ec ef hev => ?_⟩
      have e4 : ev (.tmp 4) = .pointer (some ⟨w.heap.size, 0, none⟩) := hev 4 _ ((hl.2 4 (by kernel_rfl)).trans (by kernel_rfl))
      clear hd hl hev
      obtain ⟨u0, u1, u2, u3, u4, u5, -⟩ := (hB.out.below hJ hB.out.lt).six
      replace hJ := Lib.hid hJ
      go_simp
      exact hn _ _ (Below.refl _ _) rfl
    · intro y W next hl hJ hd hn
      refine Or.inl ⟨wanted_free rfl, fun ev ec ef hev => ?_⟩
      have e90 : ev (.tmp 90) = .agg #[.bool b, .bool o, .string s, .int .i64 q, .string t, .slice A l.length cap] := hev 90 _ ((hl.1 0 90 (by kernel_rfl) (by kernel_rfl)).trans (congrArg some (show y 0 = .agg #[.bool b, .bool o, .string s, .int .i64 q, .string t, .slice A l.length cap] from hd 0 (by kernel_rfl))))
      clear hd hl hev
      replace hJ := Lib.hid hJ
      go_simp
      refine (toSeat_any b o s q t _ l _ (hv0.out.below (Below.then_ hW.out hJ.out (Nat.le_refl _)))).mono ?_
      rintro e w' ⟨A, cap, rfl, ho, hb⟩
      exact ⟨_, rfl, hn _ _ hb ⟨A, cap, rfl, ho.ints⟩⟩
    · intro y W next hl hJ hd hn
      refine Or.inl ⟨wanted_free rfl, fun ev ec ef hev => ?_⟩
      have e1 : ev (.tmp 1) = .int .i64 n := hev 1 _ ((hl.2 1 (by kernel_rfl)).trans (by kernel_rfl))
      clear hd hl hev
      replace hJ := Lib.hid hJ
      go_simp
      exact hn _ _ (Below.refl _ _) rfl
    · intro y W next hl hJ hd hn
      refine Or.inl ⟨wanted_free rfl, fun ev ec ef hev => ?_⟩
      have e2 : ev (.tmp 2) = .slice A2 m.length cap2 := hev 2 _ ((hl.2 2 (by kernel_rfl)).trans (by kernel_rfl))
      clear hd hl hev
      replace hJ := Lib.hid hJ
      go_simp
      exact hn _ _ (Below.refl _ _) rfl
    · intro y W next hl hJ hd hn
      refine Or.inl ⟨wanted_free rfl, fun ev ec ef hev => ?_⟩
      have e93 : ev (.tmp 93) = .slice A2 m.length cap2 := hev 93 _ ((hl.1 3 93 (by kernel_rfl) (by kernel_rfl)).trans (congrArg some (show y 3 = .slice A2 m.length cap2 from hd 3 (by kernel_rfl))))
      clear hd hl hev
      replace hJ := Lib.hid hJ
      go_simp
      refine (toSecs_any _ m _ (hu0.out.below (Below.then_ hW.out hJ.out (Nat.le_refl _))) hml).mono ?_
      rintro e w' ⟨V4, rfl, ho, hb⟩
      exact ⟨_, rfl, hn _ _ hb ho.secs⟩
    · intro y W next hl hJ hd hn
      refine Or.inl ⟨wanted_free rfl, fun ev ec ef hev => ?_⟩
      have e7 : ev (.tmp 7) = .pointer (some ⟨w.heap.size + 1, 0, none⟩) := hev 7 _ ((hl.2 7 (by kernel_rfl)).trans (by kernel_rfl))
      clear hd hl hev
      obtain ⟨u0, u1, u2, -⟩ := (hC.out.below hJ hC.out.lt).three
      replace hJ := Lib.hid hJ
      go_simp
      exact hn _ _ (Below.refl _ _) rfl
    · intro y W next hl hJ hd hn
      refine Or.inl ⟨wanted_free rfl, fun ev ec ef hev => ?_⟩
      have e95 : ev (.tmp 95) = .agg #[.int .i64 kd, .int .i64 st, .string tt] := hev 95 _ ((hl.1 5 95 (by kernel_rfl) (by kernel_rfl)).trans (congrArg some (show y 5 = .agg #[.int .i64 kd, .int .i64 st, .string tt] from hd 5 (by kernel_rfl))))
      clear hd hl hev
      replace hJ := Lib.hid hJ
      go_simp
      refine (hTo.out _).mono ?_
      rintro e w' ⟨rfl, hb⟩
      exact ⟨_, rfl, hn _ _ hb rfl⟩
    · intro y W next hl hJ hd hn
      refine Or.inl ⟨wanted_free rfl, fun ev ec ef hev => ?_⟩
      have d91 : SeatAt b o s q t l (y 1) W := hd 1 (by kernel_rfl)
      have e91 := hev 91 _ (hl.1 1 91 (by kernel_rfl) (by kernel_rfl))
      obtain ⟨A91, c91, f91, i91⟩ := d91
      rw [f91] at e91
      have e92 : ev (.tmp 92) = .int .i64 n := hev 92 _ ((hl.1 2 92 (by kernel_rfl) (by kernel_rfl)).trans (congrArg some (show y 2 = .int .i64 n from hd 2 (by kernel_rfl))))
      have d94 : SecsAt m (y 4) W := hd 4 (by kernel_rfl)
      have e94 := hev 94 _ (hl.1 4 94 (by kernel_rfl) (by kernel_rfl))
      have e96 : ev (.tmp 96) = .agg #[.int .i64 kd, .int .i64 st, .string tt] := hev 96 _ ((hl.1 6 96 (by kernel_rfl) (by kernel_rfl)).trans (congrArg some (show y 6 = .agg #[.int .i64 kd, .int .i64 st, .string tt] from hd 6 (by kernel_rfl))))
      clear hd hl hev
      replace hJ := Lib.hid hJ
      go_simp
      refine (hIM.out _ _ _ i91 d94 (hg0.out.below (Below.then_ hW.out hJ.out (Nat.le_refl _)))).mono ?_
      rintro e w' ⟨A, cap, rfl, ho, hb⟩
      exact ⟨_, rfl, hn _ _ hb ⟨A, cap, rfl, ho.mono hJ.out.size⟩⟩
    · intro y W next hl hJ hd hn
      refine Or.inl ⟨wanted_free rfl, fun ev ec ef hev => ?_⟩
      clear hd hl hev
      replace hJ := Lib.hid hJ
      go_simp
      exact hn _ _ ((Below.refl _ _).alloc (Nat.le_refl _) _) ⟨_, rfl, hJ.out.size, heap_alloc_new W _⟩
    · intro y W hl hJ hd
      refine ⟨wanted_free rfl, fun ev ec ef hev => ?_⟩
      have d17 : BoxAt (w17.heap.size) 58 [.bool false, .bool false, .string ⟨#[]⟩, .int .i64 0, .string ⟨#[]⟩, .slice none 0 0, .int .i64 0, .int .i64 0] (y 8) W := hd 8 (by kernel_rfl)
      have e17 := hev 17 _ (hl.1 8 17 (by kernel_rfl) (by kernel_rfl))
      obtain ⟨gb, f17, gl, hbx⟩ := d17
      rw [f17] at e17
      have d97 : OutAt (w17.heap.size) R (y 7) W := hd 7 (by kernel_rfl)
      have e97 := hev 97 _ (hl.1 7 97 (by kernel_rfl) (by kernel_rfl))
      obtain ⟨A97, c97, f97, i97⟩ := d97
      rw [f97] at e97
      clear hd hl hev
      obtain ⟨u0, u1, u2, u3, u4, u5, u6, u7, uf0, uf1, uf2, uf3, uf4, uf5, uf6, uf7⟩ := hbx.eight
      have gx := hbx.lt
      have hfin := Lib.hid (OutCut.of gl hbx rfl i97 hJ (own_not_box i97 hbx (by decide)) hJ.size)
      replace hJ := Lib.hid hJ
      replace i97 := Lib.hid i97
      go_simp
      exact hfin.out
    intro y w18 hA
    obtain ⟨g8, A8, cap8, hy, hgl8, bh, oh, hb18⟩ := hA
    have zg8 := Lib.hid hgl8
    have z18 := Lib.hid (show w17.heap.size ≤ w18.heap.size from Nat.le_trans (Nat.le_refl _) hb18.size)
    replace hW := Lib.hid (Below.then_ hW.out hb18 (Nat.le_refl _))
    replace hB := Lib.hid (hB.out.up hb18)
    replace hC := Lib.hid (hC.out.up hb18)
    replace bw := Lib.hid (bw.out.up hb18)
    replace hx := Lib.hid (hx.out.up hb18)
    replace bg := Lib.hid (bg.out.up hb18)
    replace ow := Lib.hid (ow.out.below hb18)
    replace o4 := Lib.hid (o4.out.below hb18)
    replace p4 := Lib.hid (p4.out.below hb18)
    replace og := Lib.hid (og.out.below hb18)
    replace bh := Lib.hid bh
    replace oh := Lib.hid oh
    clear hb18 hgl8
    simp only [lay_cons, lay_nil]
    rw [hy]
    clear hy
    simp only [Act.put, List.setIfInBounds_toArray]
    simp only [List.set_cons_succ, List.set_cons_zero]
    clear hB0 hB1 hB2 hB3 hB4 hB5 hBl
    obtain ⟨hB0, hB1, hB2, hB3, hB4, hB5, -, -, -, -, -, -⟩ := hB.out.six; have hBl := hB.out.lt
    clear hC0 hC1 hC2 hCl
    obtain ⟨hC0, hC1, hC2, -, -, -⟩ := hC.out.three; have hCl := hC.out.lt
    clear bw0 bw1 bw2 bw3 bw4 bw5 bw6 bw7 bwl
    obtain ⟨bw0, bw1, bw2, bw3, bw4, bw5, bw6, bw7, -, -, -, -, -, -, -, -⟩ := bw.out.eight; have bwl := bw.out.lt
    clear hx0 hx1 hx2 hx3 hx4 hx5 hxl
    obtain ⟨hx0, hx1, hx2, hx3, hx4, hx5, -, -, -, -, -, -⟩ := hx.out.six; have hxl := hx.out.lt
    clear bg0 bg1 bg2 bg3 bg4 bg5 bg6 bg7 bgl
    obtain ⟨bg0, bg1, bg2, bg3, bg4, bg5, bg6, bg7, -, -, -, -, -, -, -, -⟩ := bg.out.eight; have bgl := bg.out.lt
    obtain ⟨bh0, bh1, bh2, bh3, bh4, bh5, bh6, bh7, -, -, -, -, -, -, -, -⟩ := bh.out.eight; have bhl := bh.out.lt
    go_wp2_with (go_at_call 33; refine (eqSeatOut_same R.b R.o R.s R.q R.t _ _ R.l R.d R.c _ oh.out.ints ow.out.ints).mono ?_; rintro e19 w19 ⟨rfl, hb19⟩; replace hW := Lib.hid (Below.then_ hW.out hb19 (Nat.le_refl _)); replace hB := Lib.hid (hB.out.up hb19); replace hC := Lib.hid (hC.out.up hb19); replace bw := Lib.hid (bw.out.up hb19); replace hx := Lib.hid (hx.out.up hb19); replace bg := Lib.hid (bg.out.up hb19); replace bh := Lib.hid (bh.out.up hb19); replace ow := Lib.hid (ow.out.below hb19); replace o4 := Lib.hid (o4.out.below hb19); replace p4 := Lib.hid (p4.out.below hb19); replace og := Lib.hid (og.out.below hb19); replace oh := Lib.hid (oh.out.below hb19); clear hB0 hB1 hB2 hB3 hB4 hB5 hBl; obtain ⟨hB0, hB1, hB2, hB3, hB4, hB5, -, -, -, -, -, -⟩ := hB.out.six; have hBl := hB.out.lt; clear hC0 hC1 hC2 hCl; obtain ⟨hC0, hC1, hC2, -, -, -⟩ := hC.out.three; have hCl := hC.out.lt; clear bw0 bw1 bw2 bw3 bw4 bw5 bw6 bw7 bwl; obtain ⟨bw0, bw1, bw2, bw3, bw4, bw5, bw6, bw7, -, -, -, -, -, -, -, -⟩ := bw.out.eight; have bwl := bw.out.lt; clear hx0 hx1 hx2 hx3 hx4 hx5 hxl; obtain ⟨hx0, hx1, hx2, hx3, hx4, hx5, -, -, -, -, -, -⟩ := hx.out.six; have hxl := hx.out.lt; clear bg0 bg1 bg2 bg3 bg4 bg5 bg6 bg7 bgl; obtain ⟨bg0, bg1, bg2, bg3, bg4, bg5, bg6, bg7, -, -, -, -, -, -, -, -⟩ := bg.out.eight; have bgl := bg.out.lt; clear bh0 bh1 bh2 bh3 bh4 bh5 bh6 bh7 bhl; obtain ⟨bh0, bh1, bh2, bh3, bh4, bh5, bh6, bh7, -, -, -, -, -, -, -, -⟩ := bh.out.eight; have bhl := bh.out.lt; have z19 := Lib.hid (show w18.heap.size ≤ w19.heap.size from Nat.le_trans (Nat.le_refl _) hb19.size); replace hb19 := Lib.hid hb19)
    go_wp2_with (go_at_call 39; refine (heldSeatOut_one R.b R.o R.s R.q R.t _ R.l.length R.d R.c _ og.out.ints).mono ?_; rintro e20 w20 ⟨rfl, hb20⟩; replace hW := Lib.hid (Below.then_ hW.out hb20 (Nat.le_refl _)); replace hB := Lib.hid (hB.out.up hb20); replace hC := Lib.hid (hC.out.up hb20); replace bw := Lib.hid (bw.out.up hb20); replace hx := Lib.hid (hx.out.up hb20); replace bg := Lib.hid (bg.out.up hb20); replace bh := Lib.hid (bh.out.up hb20); replace ow := Lib.hid (ow.out.below hb20); replace o4 := Lib.hid (o4.out.below hb20); replace p4 := Lib.hid (p4.out.below hb20); replace og := Lib.hid (og.out.below hb20); replace oh := Lib.hid (oh.out.below hb20); clear hB0 hB1 hB2 hB3 hB4 hB5 hBl; obtain ⟨hB0, hB1, hB2, hB3, hB4, hB5, -, -, -, -, -, -⟩ := hB.out.six; have hBl := hB.out.lt; clear hC0 hC1 hC2 hCl; obtain ⟨hC0, hC1, hC2, -, -, -⟩ := hC.out.three; have hCl := hC.out.lt; clear bw0 bw1 bw2 bw3 bw4 bw5 bw6 bw7 bwl; obtain ⟨bw0, bw1, bw2, bw3, bw4, bw5, bw6, bw7, -, -, -, -, -, -, -, -⟩ := bw.out.eight; have bwl := bw.out.lt; clear hx0 hx1 hx2 hx3 hx4 hx5 hxl; obtain ⟨hx0, hx1, hx2, hx3, hx4, hx5, -, -, -, -, -, -⟩ := hx.out.six; have hxl := hx.out.lt; clear bg0 bg1 bg2 bg3 bg4 bg5 bg6 bg7 bgl; obtain ⟨bg0, bg1, bg2, bg3, bg4, bg5, bg6, bg7, -, -, -, -, -, -, -, -⟩ := bg.out.eight; have bgl := bg.out.lt; clear bh0 bh1 bh2 bh3 bh4 bh5 bh6 bh7 bhl; obtain ⟨bh0, bh1, bh2, bh3, bh4, bh5, bh6, bh7, -, -, -, -, -, -, -, -⟩ := bh.out.eight; have bhl := bh.out.lt; have z20 := Lib.hid (show w19.heap.size ≤ w20.heap.size from Nat.le_trans (Nat.le_refl _) hb20.size); rw [← hMM.out]; replace hb20 := Lib.hid hb20)
    go_ret
    exact ⟨rfl, hW.out⟩
theorem walk (b o : Bool) (s : ByteArray) (hs : s.size ≤ maxLen) (q : Int) (_hq : -9223372036854775808 ≤ q ∧ q ≤ 9223372036854775807) (t : ByteArray) (ht : t.size ≤ maxLen) (A : Option Addr) (len cap : Nat) (hl : len ≤ maxLen) (n : Int) (_hn : (Lit.int .i64 n).wf = true) (A2 : Option Addr) (len2 cap2 : Nat) (m : List Sec) (x : Tik) (hx : TikWf x) (w : World) (hI : len ≤ 1048576 → ∃ l : List Int, l.length = len ∧ Ints w (.slice A len cap) l) (el : m.length = len2) (hu : Secs w (.slice A2 len2 cap2) m) (hg : Four w) :
    Calls Tryd.prog 6 #[.agg #[.bool b, .bool o, .string s, .int .i64 q, .string t, .slice A len cap], .int .i64 n, .slice A2 len2 cap2, tikA x] w fun e w' => e = .returned (.bool true) ∧ Below w.heap.size w w' := by
  obtain ⟨kd, st, tt⟩ := x
  unfold tikA
  dsimp only
  by_cases h : s.size + (t.size + len) ≤ 1048576
  · obtain ⟨l, rfl, hv⟩ := hI (by omega)
    subst el
    exact walkIn b o s q t A l cap n A2 m cap2 kd st tt hx.1 w h hv hu hg
  · exact walk_big b o s q t hs ht A len cap hl n A2 len2 cap2 kd st tt w h

theorem own : ownKnob Tryd.prog.godebug = none := by kernel_rfl
theorem laidOut : laidOutB Tryd.prog = true := by kernel_rfl
theorem tabAt : Tryd.prog.globalNamed "loop.example/g00752/impl.secretMarks" = some 1 := by kernel_rfl
theorem tabType : (Tryd.prog.globals[1]?).map (·.type) = some 142 := by kernel_rfl
theorem tabCells : Tryd.prog.cellsOf 142 = 4 := by kernel_rfl
theorem oneCell : Tryd.prog.cellsOf 2 = 1 := by kernel_rfl
/-- What the variable's cells hold. -/
def tabRow : Array Value := #[.int .i64 1, .int .i64 2, .int .i64 4, .int .i64 8]
abbrev tabData {H : Type} : DataW H := .agg [.lit (.int .i64 1), .lit (.int .i64 2), .lit (.int .i64 4), .lit (.int .i64 8)]
theorem tab_reads {H : Type} (enc : TypeId × Value → H) (W : World) (sp : Nat → Bool) : DataW.trod enc Tryd.prog W 0 sp true 3 142 tabRow.toList = some (tabData, []) := by kernel_rfl
/-- An array of 4 numbers that reads as the table holds just those. -/
theorem tab_of_trod {H : Type} {enc : TypeId × Value → H} {W : World} {base : Nat} {sp : Nat → Bool} {held : Bool} {fuel : Nat} {cs : List Value} {p : List MemPlace}
    (h : DataW.trod enc Tryd.prog W base sp held fuel 142 cs = some (tabData, p)) : cs = tabRow.toList := by
  cases fuel with
  | zero => simp [DataW.trod] at h
  | succ fuel =>
    simp only [DataW.trod, Tryd.underlying142, tabCells, oneCell] at h
    split at h
    · rename_i hl
      obtain ⟨c0, c1, c2, c3, rfl⟩ : ∃ c0 c1 c2 c3, cs = [c0, c1, c2, c3] := by
        match cs, hl with
        | [x0, x1, x2, x3], _ => exact ⟨x0, x1, x2, x3, rfl⟩
      have e : List.range 4 = [0, 1, 2, 3] := rfl
      rw [e] at h
      simp only [Option.map_eq_some_iff, List.mapM_cons, List.mapM_nil, Option.bind_eq_bind, Option.bind_eq_some_iff, Option.pure_def, Option.some.injEq] at h
      obtain ⟨xs, ⟨y0, h0, _, ⟨y1, h1, _, ⟨y2, h2, _, ⟨y3, h3, _, rfl, rfl⟩, rfl⟩, rfl⟩, rfl⟩, hx⟩ := h
      obtain ⟨n0, e0, z0, _⟩ := DataW.trod_int Tryd.underlying2 h0
      obtain ⟨n1, e1, z1, _⟩ := DataW.trod_int Tryd.underlying2 h1
      obtain ⟨n2, e2, z2, _⟩ := DataW.trod_int Tryd.underlying2 h2
      obtain ⟨n3, e3, z3, _⟩ := DataW.trod_int Tryd.underlying2 h3
      simp [tabData, z0, z1, z2, z3] at hx
      simp at e0 e1 e2 e3
      obtain ⟨⟨rfl, rfl, rfl, rfl⟩, _⟩ := hx
      subst e0 e1 e2 e3
      rfl
    · cases h
theorem tab_of_laid {W : World} (h : laidMetH Tryd.prog Rows.fnExactTickDoRow.laid W) : W.var? Tryd.prog "loop.example/g00752/impl.secretMarks" = some tabRow := by
  have h' : laidMet Tryd.prog [("loop.example/g00752/impl.secretMarks", tabData)] W := h
  obtain ⟨ps, ⟨g, t, cs, fuel, p, q, hg, ht, hvar, hd, _, _⟩, _⟩ := h'
  obtain rfl := Option.some.inj (tabAt.symm.trans hg)
  obtain rfl := Option.some.inj (tabType.symm.trans ht)
  rw [hvar]
  congr 1
  obtain ⟨l⟩ := cs
  exact congrArg List.toArray (tab_of_trod hd)
/-- A world that meets the condition: the settled one, the variable's cells laid. -/
noncomputable def laidWorld (os : Os) : World :=
  let w0 := World.holding Tryd.prog os ⟨#[], #[], []⟩
  { w0 with heap := w0.heap.modify 1 fun
      | .cells _ t frozen => .cells tabRow t frozen
      | o => o }
theorem laidWorld_met (os : Os) (args : Array Value) : laidMetH Tryd.prog Rows.fnExactTickDoRow.laid ((laidWorld os).forCall (fun _ _ => 0) ⟨#[], args, []⟩).memory :=
  show laidMet Tryd.prog [("loop.example/g00752/impl.secretMarks", tabData)] _ from laidMet_of_run' 8 (by kernel_rfl) (by kernel_rfl)

set_option maxRecDepth 100000 in
theorem lifted (os : Os) (started : os.Started) (H : Type) (enc : TypeId × Value → H) :
    ReturnsInHanded {} Tryd.checked os 6 .any (fun w args => (Rows.fnExactTickDoSpec.pre enc Tryd.prog Tryd.f6 [] false w args ∧ laidMetH Tryd.prog Rows.fnExactTickDoRow.laid w) ∧ sizedMet enc Tryd.prog Tryd.f6 (OpenSpec.ofChange Rows.fnExactTickDoSpec) false w args)
      (Rows.fnExactTickDoSpec.post enc Tryd.prog Tryd.f6 false true false false) := by
  refine returnsInHanded_of_change_and (C := Tryd.checked) (X := fun w _ => laidMetH Tryd.prog Rows.fnExactTickDoRow.laid w) (fun _ _ _ hh h => h.of_heap hh) own started (by kernel_rfl) Tryd.func6
    (ChangeSpec.witness_at (enc := enc) (C := Tryd.checked) (os := os) (X := fun w _ => laidMetH Tryd.prog Rows.fnExactTickDoRow.laid w) false (laidWorld os) #[.agg #[.bool false, .bool false, .string ByteArray.empty, .int .i64 0, .string ByteArray.empty, .slice none 0 0], .int .i64 0, .slice none 0 0, .agg #[.int .i64 0, .int .i64 0, .string ByteArray.empty]] 8 rfl (by kernel_rfl) (by kernel_rfl) (by kernel_rfl) (by kernel_rfl) (by kernel_rfl) (laidWorld_met os _)) ?_
  intro W base args ds gs before hval0 hW _ _ hL _
  have hval : ∀ (j : Nat) t v, Tryd.f6.params[j]? = some t → args[j]? = some v → Value.okWide Tryd.prog W .any base t v := hval0
  have hW' := hW
  obtain ⟨p, q, hA0, hV0, rfl, hfz, hnd⟩ := hW
  have hA : DataW.TrodAll enc Tryd.prog W 0 (fun _ => true) true Tryd.f6.params.toList args.toList ds p := hA0
  have hV : DataW.TrodVars enc Tryd.prog W (fun _ => true) ["loop.example/g00752/impl.secretMarks"] gs q := hV0
  rw [Tryd.params6] at hA hval
  obtain ⟨v0, vs0, d0, ds0, p0, q0, hargs, rfl, rfl, h0, r0⟩ := trodAll_cons hA
  obtain ⟨v1, vs1, d1, ds1, p1, q1, rfl, rfl, rfl, h1, r1⟩ := trodAll_cons r0
  obtain ⟨v2, vs2, d2, ds2, p2, q2, rfl, rfl, rfl, h2, r2⟩ := trodAll_cons r1
  obtain ⟨v3, vs3, d3, ds3, p3, q3, rfl, rfl, rfl, h3, r3⟩ := trodAll_cons r2
  obtain ⟨rfl, rfl, rfl⟩ := trodAll_nil r3
  obtain rfl : args = #[v0, v1, v2, v3] := by cases args; simp_all
  obtain ⟨g, t, cs, fuel, d, p', rfl, hgn, htn, hvar, hd, rfl⟩ := trodVars_one hV
  obtain rfl := Option.some.inj (tabAt.symm.trans hgn)
  obtain rfl := Option.some.inj (tabType.symm.trans htn)
  obtain rfl : cs = tabRow := Option.some.inj (hvar.symm.trans (tab_of_laid hL))
  obtain ⟨rfl, rfl⟩ := DataW.Trod.unique (v := .agg tabRow) ⟨fuel, hd⟩ ⟨3, tab_reads enc W _⟩
  have k0 := h0
  have lt0 : ∀ x ∈ p0, x.block < W.heap.size := by obtain ⟨m, hm⟩ := k0; exact DataW.trod_lt m _ _ _ hm
  obtain ⟨b0, o0, s0, n0, t0, A0, len0, cap0, rfl, w0, z0, u0, hm0, hI0⟩ := seat_open (hval 0 48 v0 rfl rfl) h0
  obtain ⟨a1, rfl, rfl, rfl, w1⟩ := open_int Tryd.underlying2 (hval 1 2 v1 rfl rfl) h1
  obtain ⟨a2, len2, cap2, rfl⟩ := okWide_slice Tryd.underlying49 (hval 2 49 v2 rfl rfl)
  have k2 := h2
  have lt2 : ∀ x ∈ p2, x.block < W.heap.size := by obtain ⟨m, hm⟩ := k2; exact DataW.trod_lt m _ _ _ hm
  obtain ⟨l2, e2, w2⟩ := secs_open h2
  have k3 := h3
  have lt3 : ∀ x ∈ p3, x.block < W.heap.size := by obtain ⟨m, hm⟩ := k3; exact DataW.trod_lt m _ _ _ hm
  obtain ⟨x3, rfl, w3⟩ := tik_open (hval 3 50 v3 rfl rfl) h3
  have hg : Four W := ⟨World.var?_cell tabAt hvar 0, World.var?_cell tabAt hvar 1, World.var?_cell tabAt hvar 2, World.var?_cell tabAt hvar 3⟩
  clear hA0 hval0
  refine (walk b0 o0 s0 w0 n0 z0 t0 u0 A0 len0 cap0 hm0 a1 w1 a2 len2 cap2 l2 x3 w3 W hI0 e2 w2 hg).mono fun e W' ⟨he, bel⟩ => ?_
  subst he
  have hvar' : W'.var? Tryd.prog "loop.example/g00752/impl.secretMarks" = some tabRow := var?_below bel tabAt hg.pos hvar
  exact ⟨_, rfl, _, _, _, [], _, _, hW', trodAll_mk1 (shut_bool Tryd.underlying4 _), (trodAll_cons_mk (Below.trod laidOut (by kernel_rfl) (of_decide_eq_true (by kernel_rfl)) k0 bel lt0) (trodAll_cons_mk (shut_int Tryd.underlying2 w1) (trodAll_cons_mk (Below.trod laidOut (by kernel_rfl) (of_decide_eq_true (by kernel_rfl)) k2 bel lt2) (trodAll_cons_mk (Below.trod laidOut (by kernel_rfl) (of_decide_eq_true (by kernel_rfl)) k3 bel lt3) trodAll_mk0)))), trodVars_mk1 tabAt tabType hvar' (tab_reads enc W' _), bel.frame _, fun h => by cases h⟩

theorem over : Rows.fnExactTickDoRow.holds Tryd.pinned (OpenSpec.ofChange Rows.fnExactTickDoSpec) :=
  OpenClaim.holds_of_wide 6 Tryd.f6 rfl rfl rfl rfl rfl rfl rfl ⟨rfl, rfl, rfl, rfl, rfl⟩ rfl rfl rfl rfl rfl (by kernel_rfl) Tryd.func6 (by kernel_rfl)
    (of_decide_eq_true (by kernel_rfl)) (by unfold Func.isWrapper; first | (rw [if_pos (by decide +kernel)]; kernel_rfl) | (rw [if_neg (by decide +kernel)]; exact ⟨rfl, rfl⟩))
    (fun os started H enc _ => lifted os started H enc)

theorem wants (j : Nat) (t : TypeId) (ht : Tryd.f6.params[j]? = some t) : Tryd.prog.wantsStandIn t = false := by
  rw [Tryd.params6] at ht
  match j, ht with
  | 0, ht => exact (show t = 48 from (Option.some.inj ht).symm) ▸ (show Tryd.prog.wantsStandIn 48 = false by kernel_rfl)
  | 1, ht => exact (show t = 2 from (Option.some.inj ht).symm) ▸ (show Tryd.prog.wantsStandIn 2 = false by kernel_rfl)
  | 2, ht => exact (show t = 49 from (Option.some.inj ht).symm) ▸ (show Tryd.prog.wantsStandIn 49 = false by kernel_rfl)
  | 3, ht => exact (show t = 50 from (Option.some.inj ht).symm) ▸ (show Tryd.prog.wantsStandIn 50 = false by kernel_rfl)
  | j + 4, ht => simp at ht
theorem proved : Rows.FnExactTickDoCardSaid :=
  Claim7.holds_tied_plain_at .later [] _ _ _ _
    over (fun _ h => by cases h) (by kernel_rfl) (fun _ h => by cases h) fnExactTickDo_row_tie rfl ⟨rfl, rfl⟩ (by kernel_rfl) rfl
    (fun f fn hf hfn => by
      obtain rfl : f = 6 := Option.some.inj ((show Tryd.prog.funcNamed "loop.example/g00752/laws.FnExactTickDo" = some 6 by kernel_rfl).symm.trans hf) |>.symm
      obtain rfl : fn = Tryd.f6 := (Option.some.inj (Tryd.func6.symm.trans hfn)).symm
      exact ⟨by kernel_rfl, wants⟩)
    (by kernel_rfl)
#print axioms proved

end Go.Proofs.YtbadpmghlclfkaaDoor.fnExactTickDo
