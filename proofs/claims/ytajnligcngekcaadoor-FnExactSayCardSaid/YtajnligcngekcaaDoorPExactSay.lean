/- Say of the program answers as that of the model, at every seat, number, list of secrets and Lab; its answer owns its memory, and no argument is written. Two conditions, tied to the program's text by the card: the package variable secretMarks holds 1, 2, 4, 8, and errors.errorType is the type of errors. -/
import Derived.Test.YtajnligcngekcaaDoorRows
import Derived.Test.YtajnligcngekcaaDoorCards
import Derived.Test.YtajnligcngekcaaDoorTie
import Derived.WalkKit
import Derived.ProofKit
import Derived.OpenShut
import Derived.ShutString
import Derived.ChangeOld
import Derived.Below
import Derived.ChangeSame
import Derived.ChangeVars
import Derived.JoinedOf
import Derived.RowKit
import Derived.RowKitTokens
import Derived.LaidLaws
import Derived.LaidHandle
import Derived.WalkSmall
import Derived.Stop.Joined
import Derived.SevenTiedAt
import Derived.Lib.SmallJoins
import Derived.Deep.RegionHeld3
import Derived.Test.YtajnligcngekcaaDoorSeatN
import Derived.Test.YtajnligcngekcaaDoorSeatV
import Derived.Test.YtajnligcngekcaaDoorKnownY
namespace Go.Proofs.YtajnligcngekcaaDoor.fnExactSay
open Go.ChangeShapes Go.WideShapes Go.ChangeAt Go.RowKit
open Go.ChangeMaps (open_string shut_string)
set_option linter.unusedVariables false

set_option maxHeartbeats 4000000 in
theorem walk_big (b o : Bool) (s : ByteArray) (q : Int) (t : ByteArray) (hs : s.size ≤ maxLen) (ht : t.size ≤ maxLen) (A : Option Addr) (len cap : Nat) (hl : len ≤ maxLen) (n : Int) (A2 : Option Addr) (len2 cap2 : Nat) (x : ByteArray) (A3 : Option Addr) (len3 cap3 : Nat) (w : World) (hbig : ¬ s.size + (t.size + len) ≤ 1048576) :
    Calls Tryd.prog 4 #[.agg #[.bool b, .bool o, .string s, .int .i64 q, .string t, .slice A len cap], .int .i64 n, .slice A2 len2 cap2, .agg #[.string x, .slice A3 len3 cap3]] w fun e w' => e = .returned (.bool true) ∧ Below w.heap.size w w' := by
  have hbb := Lib.hid (fun (o1 o2 : Obj) => ((Below.refl w.heap.size w).alloc (Nat.le_refl _) o1).alloc (by simp) o2)
  have hbig' : ¬ (s.size : Int) + (t.size + len) ≤ 1048576 := by omega
  clear hbig
  go_enter Tryd.func4, Tryd.ntmps4
  go_wp2_with (go_at_call 5; refine (szSeat_out b o s q t A len cap _ _ hbig' (by decide) (by decide) hl ht hs).mono ?_; rintro e w1 ⟨rfl, hb⟩; replace hb := Lib.hid hb)
  go_ret
  exact ⟨rfl, Below.then_ (hbb.out _ _) hb.out (Nat.le_refl _)⟩
set_option maxRecDepth 100000 in
set_option maxHeartbeats 64000000 in
theorem walkIn (b o : Bool) (s : ByteArray) (q : Int) (t : ByteArray) (A : Option Addr) (l : List Int) (cap : Nat) (n : Int) (A2 : Option Addr) (m : List Sec) (cap2 : Nat) (x : ByteArray) (hxm : x.size ≤ maxLen) (A3 : Option Addr) (len3 cap3 : Nat) (hl3 : len3 ≤ maxLen) (w : World) (hin : s.size + (t.size + l.length) ≤ 1048576) (hv : Ints w (.slice A l.length cap) l) (hu : Secs w (.slice A2 m.length cap2) m) (hI3 : len3 ≤ 1048576 → ∃ r : List Int, r.length = len3 ∧ Ints w (.slice A3 len3 cap3) r) (hg : Four w) (hh : HandleAt 1 w) :
    Calls Tryd.prog 4 #[.agg #[.bool b, .bool o, .string s, .int .i64 q, .string t, .slice A l.length cap], .int .i64 n, .slice A2 m.length cap2, .agg #[.string x, .slice A3 len3 cap3]] w fun e w' => e = .returned (.bool true) ∧ Below w.heap.size w w' := by
  have hsz := Lib.hid (show (s.size : Int) + (t.size + l.length) ≤ 1048576 by omega)
  have hleft : ¬ (1048576 : Int) - s.size - t.size - l.length < 0 := by omega
  have hbx := boxes2 w [.bool b, .bool o, .string s, .int .i64 q, .string t, .slice A l.length cap] [.string x, .slice A3 len3 cap3] 26 24
  have hB := Lib.hid hbx.1
  have hC := Lib.hid hbx.2
  have hW := Lib.hid (((Below.refl w.heap.size w).alloc (Nat.le_refl _) (.cells #[.bool b, .bool o, .string s, .int .i64 q, .string t, .slice A l.length cap] 26)).alloc (by simp) (.cells #[.string x, .slice A3 len3 cap3] 24))
  have hv0 := Lib.hid hv
  have hu0 := Lib.hid hu
  have hg0 := Lib.hid hg
  have hh0 := Lib.hid hh
  have ht : t.size ≤ 1048576 := by omega
  have hs : s.size ≤ 1048576 := by omega
  replace hI3 := Lib.hid hI3
  clear hv hu hg hh hin hbx
  go_enter Tryd.func4, Tryd.ntmps4
  go_wp2_with (go_at_call 5; refine (szSeat_in b o s q t A l.length cap _ _ hsz.out (by omega)).mono ?_; rintro e1 w1 ⟨rfl, hb1⟩; replace hW := Lib.hid (Below.then_ hW.out hb1 (Nat.le_refl _)); replace hB := Lib.hid (hB.out.up hb1); replace hC := Lib.hid (hC.out.up hb1); obtain ⟨hB0, hB1, hB2, hB3, hB4, hB5, -, -, -, -, -, -⟩ := hB.out.six; have hBl := hB.out.lt; obtain ⟨hC0, hC1, -, -⟩ := hC.out.two; have hCl := hC.out.lt; have z1 := Lib.hid (show w.heap.size + 1 + 1 ≤ w1.heap.size from Nat.le_trans (by simp) hb1.size); replace hb1 := Lib.hid hb1)
  go_wp2_with (go_at_call 6; refine (szSecs_any _ m (1048576 - s.size - t.size - l.length) _ (hu0.out.below hW.out) (by have := hsz.out; omega) (by omega)).mono ?_; rintro e2 w2 ⟨rr, rfl, hrr, hb2⟩; replace hW := Lib.hid (Below.then_ hW.out hb2 (Nat.le_refl _)); replace hB := Lib.hid (hB.out.up hb2); replace hC := Lib.hid (hC.out.up hb2); clear hB0 hB1 hB2 hB3 hB4 hB5 hBl; obtain ⟨hB0, hB1, hB2, hB3, hB4, hB5, -, -, -, -, -, -⟩ := hB.out.six; have hBl := hB.out.lt; clear hC0 hC1 hCl; obtain ⟨hC0, hC1, -, -⟩ := hC.out.two; have hCl := hC.out.lt; have z2 := Lib.hid (show w1.heap.size ≤ w2.heap.size from Nat.le_trans (Nat.le_refl _) hb2.size); replace hb2 := Lib.hid hb2; rcases hrr with rfl | ⟨r0, r1, hsm⟩)
  · go_wp2
    go_ret
    exact ⟨rfl, hW.out⟩
  · have hml := hsm.1
    have hsml := hsm.2
    clear hsm
    by_cases hin2 : (x.size : Int) + len3 ≤ rr
    · obtain ⟨r, hrl, hr0⟩ := hI3.out (by omega)
      subst hrl
      replace hr0 := Lib.hid hr0
      have hleft2 : ¬ (rr : Int) - x.size - r.length < 0 := by omega
      have hx : x.size ≤ 1048576 := by omega
      obtain ⟨R, hR⟩ : ∃ R, R = sayR b o s q t l n m x r := ⟨_, rfl⟩
      have hSP := Lib.hid (fun w v u v3 (h : Ints w v l) (k : Secs w u m) (h3 : Ints w v3 r) => show Calls Tryd.prog 19 #[.agg #[.bool b, .bool o, .string s, .int .i64 q, .string t, v], .int .i64 n, u, .agg #[.string x, v3]] w (SeatOutEnd w.heap.size R w) by rw [hR]; exact specSay_any b o s q t v l n u m x v3 r w hs ht hx hsml h k h3)
      have hIM := Lib.hid (fun w v u v3 (h : Ints w v l) (k : Secs w u m) (h3 : Ints w v3 r) (g : Four w) (hh : HandleAt 1 w) => show Calls Tryd.prog 21 #[.agg #[.bool b, .bool o, .string s, .int .i64 q, .string t, v], .int .i64 n, u, .agg #[.string x, v3]] w (SeatOutEnd w.heap.size R w) by rw [hR]; exact implSay_any b o s q t v l n u m x v3 r w hs ht hx g hh h k h3)
      obtain ⟨K1, hK1⟩ : ∃ K1, K1 = 1 + l.length := ⟨_, rfl⟩
      obtain ⟨K2, hK2⟩ : ∃ K2, K2 = K1 + 4 * m.length := ⟨_, rfl⟩
      obtain ⟨K6, hK6⟩ : ∃ K6, K6 = K2 + r.length := ⟨_, rfl⟩
      obtain ⟨MM, hMM⟩ : ∃ MM, MM = 1 + R.l.length := ⟨_, rfl⟩
      have hK3 := Lib.hid (show K1 + 4 * m.length ≤ 10000000 by have := hsz.out; omega)
      have hK4 := Lib.hid (show 1 ≤ K1 by omega)
      have hm4 : m.length ≤ 1048576 := hml
      have hrs : r.length ≤ 1048576 := hr0.out.1
      have hK5 := Lib.hid (show K2 ≤ 40000000 by have := hsz.out; omega)
      replace hK1 := Lib.hid hK1
      replace hK2 := Lib.hid hK2
      replace hK6 := Lib.hid hK6
      replace hMM := Lib.hid hMM
      clear hR hsml hm4 hrs
      go_wp2_with (go_at_call 18; refine (szLab_in x A3 r.length cap3 rr _ hin2 (by omega)).mono ?_; rintro e3 w3 ⟨rfl, hb3⟩; replace hW := Lib.hid (Below.then_ hW.out hb3 (Nat.le_refl _)); replace hB := Lib.hid (hB.out.up hb3); replace hC := Lib.hid (hC.out.up hb3); clear hB0 hB1 hB2 hB3 hB4 hB5 hBl; obtain ⟨hB0, hB1, hB2, hB3, hB4, hB5, -, -, -, -, -, -⟩ := hB.out.six; have hBl := hB.out.lt; clear hC0 hC1 hCl; obtain ⟨hC0, hC1, -, -⟩ := hC.out.two; have hCl := hC.out.lt; have z3 := Lib.hid (show w2.heap.size ≤ w3.heap.size from Nat.le_trans (Nat.le_refl _) hb3.size); replace hb3 := Lib.hid hb3)
      go_wp2
      refine wp_region_known_storeY [(.is (.agg #[.bool b, .bool o, .string s, .int .i64 q, .string t, .slice A l.length cap])), (.that (SeatAt b o s q t l) SeatAt.keep), (.is (.int .i64 n)), (.is (.slice A2 m.length cap2)), (.that (SecsAt m) SecsAt.keep), (.is (.agg #[.string x, .slice A3 r.length cap3])), (.that (LabAt x r) LabAt.keep), (.that (OutAt (w3.heap.size) R) OutAt.keep), (.that (BoxAt (w3.heap.size) 34 [.bool false, .bool false, .string ⟨#[]⟩, .int .i64 0, .string ⟨#[]⟩, .slice none 0 0, .int .i64 0, .int .i64 0]) BoxAt.keep)] (fun v W => OutCut (w3.heap.size) R (w3) v W) 8 9 (by decide) (by kernel_rfl) (by kernel_rfl) (by kernel_rfl) (by kernel_rfl) rfl rfl ⟨?_, ?_, ?_, ?_, ?_, ?_, ?_, ?_, ?_, ?_⟩ ?_
      · intro y W next hl hJ hd hn
        refine Or.inl ⟨wanted_free rfl, fun ev ec ef hev => ?_⟩
        have e4 : ev (.tmp 4) = .pointer (some ⟨w.heap.size, 0, none⟩) := hev 4 _ ((hl.2 4 (by kernel_rfl)).trans (by kernel_rfl))
        clear hd hl hev
        obtain ⟨u0, u1, u2, u3, u4, u5, -⟩ := (hB.out.below hJ hB.out.lt).six
        replace hJ := Lib.hid hJ
        go_simp
        exact hn _ _ (Below.refl _ _) rfl
      · intro y W next hl hJ hd hn
        refine Or.inl ⟨wanted_free rfl, fun ev ec ef hev => ?_⟩
        have e34 : ev (.tmp 34) = .agg #[.bool b, .bool o, .string s, .int .i64 q, .string t, .slice A l.length cap] := hev 34 _ ((hl.1 0 34 (by kernel_rfl) (by kernel_rfl)).trans (congrArg some (show y 0 = .agg #[.bool b, .bool o, .string s, .int .i64 q, .string t, .slice A l.length cap] from hd 0 (by kernel_rfl))))
        clear hd hl hev
        replace hJ := Lib.hid hJ
        go_simp
        refine (toSeat_any b o s q t _ l _ (hv0.out.below (Below.then_ hW.out hJ.out (Nat.le_refl _)))).mono ?_
        rintro e w' ⟨A, cap, rfl, ho, hb⟩
        exact ⟨_, rfl, hn _ _ hb ⟨A, cap, rfl, ho.ints⟩⟩
      · intro y W next hl hJ hd hn
        refine Or.inl ⟨wanted_free rfl, fun ev ec ef hev => ?_⟩
        have e1 : ev (.tmp 1) = .int .i64 n := hev 1 _ ((hl.2 1 (by kernel_rfl)).trans (by kernel_rfl))
        clear hd hl hev
        replace hJ := Lib.hid hJ
        go_simp
        exact hn _ _ (Below.refl _ _) rfl
      · intro y W next hl hJ hd hn
        refine Or.inl ⟨wanted_free rfl, fun ev ec ef hev => ?_⟩
        have e2 : ev (.tmp 2) = .slice A2 m.length cap2 := hev 2 _ ((hl.2 2 (by kernel_rfl)).trans (by kernel_rfl))
        clear hd hl hev
        replace hJ := Lib.hid hJ
        go_simp
        exact hn _ _ (Below.refl _ _) rfl
      · intro y W next hl hJ hd hn
        refine Or.inl ⟨wanted_free rfl, fun ev ec ef hev => ?_⟩
        have e37 : ev (.tmp 37) = .slice A2 m.length cap2 := hev 37 _ ((hl.1 3 37 (by kernel_rfl) (by kernel_rfl)).trans (congrArg some (show y 3 = .slice A2 m.length cap2 from hd 3 (by kernel_rfl))))
        clear hd hl hev
        replace hJ := Lib.hid hJ
        go_simp
        refine (toSecs_any _ m _ (hu0.out.below (Below.then_ hW.out hJ.out (Nat.le_refl _))) hml).mono ?_
        rintro e w' ⟨V4, rfl, ho, hb⟩
        exact ⟨_, rfl, hn _ _ hb ho.secs⟩
      · intro y W next hl hJ hd hn
        refine Or.inl ⟨wanted_free rfl, fun ev ec ef hev => ?_⟩
        have e7 : ev (.tmp 7) = .pointer (some ⟨w.heap.size + 1, 0, none⟩) := hev 7 _ ((hl.2 7 (by kernel_rfl)).trans (by kernel_rfl))
        clear hd hl hev
        obtain ⟨u0, u1, -⟩ := (hC.out.below hJ hC.out.lt).two
        replace hJ := Lib.hid hJ
        go_simp
        exact hn _ _ (Below.refl _ _) rfl
      · intro y W next hl hJ hd hn
        refine Or.inl ⟨wanted_free rfl, fun ev ec ef hev => ?_⟩
        have e39 : ev (.tmp 39) = .agg #[.string x, .slice A3 r.length cap3] := hev 39 _ ((hl.1 5 39 (by kernel_rfl) (by kernel_rfl)).trans (congrArg some (show y 5 = .agg #[.string x, .slice A3 r.length cap3] from hd 5 (by kernel_rfl))))
        clear hd hl hev
        replace hJ := Lib.hid hJ
        go_simp
        refine (toLab_any x _ r _ (hr0.out.below (Below.then_ hW.out hJ.out (Nat.le_refl _)))).mono ?_
        rintro e w' ⟨A, cap, rfl, ho, hb⟩
        exact ⟨_, rfl, hn _ _ hb ⟨A, cap, rfl, ho.ints⟩⟩
      · intro y W next hl hJ hd hn
        refine Or.inl ⟨wanted_free rfl, fun ev ec ef hev => ?_⟩
        have d35 : SeatAt b o s q t l (y 1) W := hd 1 (by kernel_rfl)
        have e35 := hev 35 _ (hl.1 1 35 (by kernel_rfl) (by kernel_rfl))
        obtain ⟨A35, c35, f35, i35⟩ := d35
        rw [f35] at e35
        have e36 : ev (.tmp 36) = .int .i64 n := hev 36 _ ((hl.1 2 36 (by kernel_rfl) (by kernel_rfl)).trans (congrArg some (show y 2 = .int .i64 n from hd 2 (by kernel_rfl))))
        have d38 : SecsAt m (y 4) W := hd 4 (by kernel_rfl)
        have e38 := hev 38 _ (hl.1 4 38 (by kernel_rfl) (by kernel_rfl))
        have d40 : LabAt x r (y 6) W := hd 6 (by kernel_rfl)
        have e40 := hev 40 _ (hl.1 6 40 (by kernel_rfl) (by kernel_rfl))
        obtain ⟨A40, c40, f40, i40⟩ := d40
        rw [f40] at e40
        clear hd hl hev
        replace hJ := Lib.hid hJ
        go_simp
        refine (hSP.out _ _ _ _ i35 d38 i40).mono ?_
        rintro e w' ⟨A, cap, rfl, ho, hb⟩
        exact ⟨_, rfl, hn _ _ hb ⟨A, cap, rfl, ho.mono hJ.out.size⟩⟩
      · intro y W next hl hJ hd hn
        refine Or.inl ⟨wanted_free rfl, fun ev ec ef hev => ?_⟩
        clear hd hl hev
        replace hJ := Lib.hid hJ
        go_simp
        exact hn _ _ ((Below.refl _ _).alloc (Nat.le_refl _) _) ⟨_, rfl, hJ.out.size, heap_alloc_new W _⟩
      · intro y W hl hJ hd
        refine ⟨wanted_free rfl, fun ev ec ef hev => ?_⟩
        have d10 : BoxAt (w3.heap.size) 34 [.bool false, .bool false, .string ⟨#[]⟩, .int .i64 0, .string ⟨#[]⟩, .slice none 0 0, .int .i64 0, .int .i64 0] (y 8) W := hd 8 (by kernel_rfl)
        have e10 := hev 10 _ (hl.1 8 10 (by kernel_rfl) (by kernel_rfl))
        obtain ⟨gb, f10, gl, hbx⟩ := d10
        rw [f10] at e10
        have d41 : OutAt (w3.heap.size) R (y 7) W := hd 7 (by kernel_rfl)
        have e41 := hev 41 _ (hl.1 7 41 (by kernel_rfl) (by kernel_rfl))
        obtain ⟨A41, c41, f41, i41⟩ := d41
        rw [f41] at e41
        clear hd hl hev
        obtain ⟨u0, u1, u2, u3, u4, u5, u6, u7, uf0, uf1, uf2, uf3, uf4, uf5, uf6, uf7⟩ := hbx.eight
        have gx := hbx.lt
        have hfin := Lib.hid (OutCut.of gl hbx rfl i41 hJ (own_not_box i41 hbx (by decide)) hJ.size)
        replace hJ := Lib.hid hJ
        replace i41 := Lib.hid i41
        go_simp
        exact hfin.out
      intro y w4 hA
      obtain ⟨g0, A0, cap0, hy, hgl0, bw, ow, hb4⟩ := hA
      have zg0 := Lib.hid hgl0
      have z4 := Lib.hid (show w3.heap.size ≤ w4.heap.size from Nat.le_trans (Nat.le_refl _) hb4.size)
      replace hW := Lib.hid (Below.then_ hW.out hb4 (Nat.le_refl _))
      replace hB := Lib.hid (hB.out.up hb4)
      replace hC := Lib.hid (hC.out.up hb4)
      replace bw := Lib.hid bw
      replace ow := Lib.hid ow
      clear hb4 hgl0
      simp only [lay_cons, lay_nil]
      rw [hy]
      clear hy
      simp only [Act.put, List.setIfInBounds_toArray]
      simp only [List.set_cons_succ, List.set_cons_zero]
      clear hB0 hB1 hB2 hB3 hB4 hB5 hBl
      obtain ⟨hB0, hB1, hB2, hB3, hB4, hB5, -, -, -, -, -, -⟩ := hB.out.six; have hBl := hB.out.lt
      clear hC0 hC1 hCl
      obtain ⟨hC0, hC1, -, -⟩ := hC.out.two; have hCl := hC.out.lt
      obtain ⟨bw0, bw1, bw2, bw3, bw4, bw5, bw6, bw7, -, -, -, -, -, -, -, -⟩ := bw.out.eight; have bwl := bw.out.lt
      go_wp2_with (go_at_call 8; refine (toSeat_any b o s q t _ l _ (hv0.out.below hW.out)).mono ?_; rintro e5 w5 ⟨A4, cap4, rfl, ho4, hb5⟩; replace hW := Lib.hid (Below.then_ hW.out hb5 (Nat.le_refl _)); replace hB := Lib.hid (hB.out.up hb5); replace hC := Lib.hid (hC.out.up hb5); replace bw := Lib.hid (bw.out.up hb5); replace ow := Lib.hid (ow.out.below hb5); clear hB0 hB1 hB2 hB3 hB4 hB5 hBl; obtain ⟨hB0, hB1, hB2, hB3, hB4, hB5, -, -, -, -, -, -⟩ := hB.out.six; have hBl := hB.out.lt; clear hC0 hC1 hCl; obtain ⟨hC0, hC1, -, -⟩ := hC.out.two; have hCl := hC.out.lt; clear bw0 bw1 bw2 bw3 bw4 bw5 bw6 bw7 bwl; obtain ⟨bw0, bw1, bw2, bw3, bw4, bw5, bw6, bw7, -, -, -, -, -, -, -, -⟩ := bw.out.eight; have bwl := bw.out.lt; have z5 := Lib.hid (show w4.heap.size ≤ w5.heap.size from Nat.le_trans (Nat.le_refl _) hb5.size); have o4 := Lib.hid (show Own2 w5 (w4.heap.size) w5.heap.size (.slice A4 l.length cap4) l from Own2.new ho4 (Nat.le_refl _)); clear ho4; replace hb5 := Lib.hid hb5)
      replace hW := Lib.hid (hW.out.alloc hW.out.size (.cells #[.bool b, .bool o, .string s, .int .i64 q, .string t, .slice A4 l.length cap4] 32))
      replace hB := Lib.hid (hB.out.alloc (.cells #[.bool b, .bool o, .string s, .int .i64 q, .string t, .slice A4 l.length cap4] 32))
      replace hC := Lib.hid (hC.out.alloc (.cells #[.bool b, .bool o, .string s, .int .i64 q, .string t, .slice A4 l.length cap4] 32))
      replace bw := Lib.hid (bw.out.alloc (.cells #[.bool b, .bool o, .string s, .int .i64 q, .string t, .slice A4 l.length cap4] 32))
      replace ow := Lib.hid (ow.out.alloc (.cells #[.bool b, .bool o, .string s, .int .i64 q, .string t, .slice A4 l.length cap4] 32))
      replace o4 := Lib.hid (o4.out.alloc (.cells #[.bool b, .bool o, .string s, .int .i64 q, .string t, .slice A4 l.length cap4] 32))
      have hx := Lib.hid (show Blk (w5.alloc (.cells #[.bool b, .bool o, .string s, .int .i64 q, .string t, .slice A4 l.length cap4] 32)) w5.heap.size 32 [.bool b, .bool o, .string s, .int .i64 q, .string t, .slice A4 l.length cap4] from heap_alloc_new w5 (.cells #[.bool b, .bool o, .string s, .int .i64 q, .string t, .slice A4 l.length cap4] 32))
      clear hB0 hB1 hB2 hB3 hB4 hB5 hBl
      obtain ⟨hB0, hB1, hB2, hB3, hB4, hB5, -, -, -, -, -, -⟩ := hB.out.six; have hBl := hB.out.lt
      clear hC0 hC1 hCl
      obtain ⟨hC0, hC1, -, -⟩ := hC.out.two; have hCl := hC.out.lt
      clear bw0 bw1 bw2 bw3 bw4 bw5 bw6 bw7 bwl
      obtain ⟨bw0, bw1, bw2, bw3, bw4, bw5, bw6, bw7, -, -, -, -, -, -, -, -⟩ := bw.out.eight; have bwl := bw.out.lt
      obtain ⟨hx0, hx1, hx2, hx3, hx4, hx5, -, -, -, -, -, -⟩ := hx.out.six; have hxl := hx.out.lt
      go_wp2_with (go_at_call 9; refine (toSecs_any _ m _ (hu0.out.below hW.out) hml).mono ?_; rintro e6 w6 ⟨V4, rfl, ho4, hb6⟩; replace hW := Lib.hid (Below.then_ hW.out hb6 (Nat.le_refl _)); replace hB := Lib.hid (hB.out.up hb6); replace hC := Lib.hid (hC.out.up hb6); replace bw := Lib.hid (bw.out.up hb6); replace hx := Lib.hid (hx.out.up hb6); replace ow := Lib.hid (ow.out.below hb6); replace o4 := Lib.hid (o4.out.below hb6); clear hB0 hB1 hB2 hB3 hB4 hB5 hBl; obtain ⟨hB0, hB1, hB2, hB3, hB4, hB5, -, -, -, -, -, -⟩ := hB.out.six; have hBl := hB.out.lt; clear hC0 hC1 hCl; obtain ⟨hC0, hC1, -, -⟩ := hC.out.two; have hCl := hC.out.lt; clear bw0 bw1 bw2 bw3 bw4 bw5 bw6 bw7 bwl; obtain ⟨bw0, bw1, bw2, bw3, bw4, bw5, bw6, bw7, -, -, -, -, -, -, -, -⟩ := bw.out.eight; have bwl := bw.out.lt; clear hx0 hx1 hx2 hx3 hx4 hx5 hxl; obtain ⟨hx0, hx1, hx2, hx3, hx4, hx5, -, -, -, -, -, -⟩ := hx.out.six; have hxl := hx.out.lt; have z6 := Lib.hid (show w5.heap.size + 1 ≤ w6.heap.size from Nat.le_trans (by simp) hb6.size); have p4 := Lib.hid (show OwnV w6 (w5.heap.size + 1) w6.heap.size V4 m from OwnV.new ho4 (by simp)); clear ho4; replace hb6 := Lib.hid hb6)
      go_wp2_with (go_at_call 20; refine (toLab_any x _ r _ (hr0.out.below hW.out)).mono ?_; rintro e7 w7 ⟨Aq4, capq4, rfl, hoq4, hb7⟩; replace hW := Lib.hid (Below.then_ hW.out hb7 (Nat.le_refl _)); replace hB := Lib.hid (hB.out.up hb7); replace hC := Lib.hid (hC.out.up hb7); replace bw := Lib.hid (bw.out.up hb7); replace hx := Lib.hid (hx.out.up hb7); replace ow := Lib.hid (ow.out.below hb7); replace o4 := Lib.hid (o4.out.below hb7); replace p4 := Lib.hid (p4.out.below hb7); clear hB0 hB1 hB2 hB3 hB4 hB5 hBl; obtain ⟨hB0, hB1, hB2, hB3, hB4, hB5, -, -, -, -, -, -⟩ := hB.out.six; have hBl := hB.out.lt; clear hC0 hC1 hCl; obtain ⟨hC0, hC1, -, -⟩ := hC.out.two; have hCl := hC.out.lt; clear bw0 bw1 bw2 bw3 bw4 bw5 bw6 bw7 bwl; obtain ⟨bw0, bw1, bw2, bw3, bw4, bw5, bw6, bw7, -, -, -, -, -, -, -, -⟩ := bw.out.eight; have bwl := bw.out.lt; clear hx0 hx1 hx2 hx3 hx4 hx5 hxl; obtain ⟨hx0, hx1, hx2, hx3, hx4, hx5, -, -, -, -, -, -⟩ := hx.out.six; have hxl := hx.out.lt; have z7 := Lib.hid (show w6.heap.size ≤ w7.heap.size from Nat.le_trans (Nat.le_refl _) hb7.size); have q4 := Lib.hid (show Own2 w7 (w6.heap.size) w7.heap.size (.slice Aq4 r.length capq4) r from Own2.new hoq4 (Nat.le_refl _)); clear hoq4; replace hb7 := Lib.hid hb7)
      replace hW := Lib.hid (hW.out.alloc hW.out.size (.cells #[.string x, .slice Aq4 r.length capq4] 30))
      replace hB := Lib.hid (hB.out.alloc (.cells #[.string x, .slice Aq4 r.length capq4] 30))
      replace hC := Lib.hid (hC.out.alloc (.cells #[.string x, .slice Aq4 r.length capq4] 30))
      replace bw := Lib.hid (bw.out.alloc (.cells #[.string x, .slice Aq4 r.length capq4] 30))
      replace hx := Lib.hid (hx.out.alloc (.cells #[.string x, .slice Aq4 r.length capq4] 30))
      replace ow := Lib.hid (ow.out.alloc (.cells #[.string x, .slice Aq4 r.length capq4] 30))
      replace o4 := Lib.hid (o4.out.alloc (.cells #[.string x, .slice Aq4 r.length capq4] 30))
      replace p4 := Lib.hid (p4.out.alloc (.cells #[.string x, .slice Aq4 r.length capq4] 30))
      replace q4 := Lib.hid (q4.out.alloc (.cells #[.string x, .slice Aq4 r.length capq4] 30))
      have hz := Lib.hid (show Blk (w7.alloc (.cells #[.string x, .slice Aq4 r.length capq4] 30)) w7.heap.size 30 [.string x, .slice Aq4 r.length capq4] from heap_alloc_new w7 (.cells #[.string x, .slice Aq4 r.length capq4] 30))
      clear hB0 hB1 hB2 hB3 hB4 hB5 hBl
      obtain ⟨hB0, hB1, hB2, hB3, hB4, hB5, -, -, -, -, -, -⟩ := hB.out.six; have hBl := hB.out.lt
      clear hC0 hC1 hCl
      obtain ⟨hC0, hC1, -, -⟩ := hC.out.two; have hCl := hC.out.lt
      clear bw0 bw1 bw2 bw3 bw4 bw5 bw6 bw7 bwl
      obtain ⟨bw0, bw1, bw2, bw3, bw4, bw5, bw6, bw7, -, -, -, -, -, -, -, -⟩ := bw.out.eight; have bwl := bw.out.lt
      clear hx0 hx1 hx2 hx3 hx4 hx5 hxl
      obtain ⟨hx0, hx1, hx2, hx3, hx4, hx5, -, -, -, -, -, -⟩ := hx.out.six; have hxl := hx.out.lt
      obtain ⟨hz0, hz1, -, -⟩ := hz.out.two; have hzl := hz.out.lt
      go_wp2_with (go_at_call 21; refine (hIM.out _ _ _ _ o4.out.ints p4.out.secs q4.out.ints (hg0.out.below hW.out) (hh0.out.below hW.out)).mono ?_; rintro e8 w8 ⟨A1, cap1, rfl, ho1, hb8⟩; replace hW := Lib.hid (Below.then_ hW.out hb8 (Nat.le_refl _)); replace hB := Lib.hid (hB.out.up hb8); replace hC := Lib.hid (hC.out.up hb8); replace bw := Lib.hid (bw.out.up hb8); replace hx := Lib.hid (hx.out.up hb8); replace hz := Lib.hid (hz.out.up hb8); replace ow := Lib.hid (ow.out.below hb8); replace o4 := Lib.hid (o4.out.below hb8); replace p4 := Lib.hid (p4.out.below hb8); replace q4 := Lib.hid (q4.out.below hb8); clear hB0 hB1 hB2 hB3 hB4 hB5 hBl; obtain ⟨hB0, hB1, hB2, hB3, hB4, hB5, -, -, -, -, -, -⟩ := hB.out.six; have hBl := hB.out.lt; clear hC0 hC1 hCl; obtain ⟨hC0, hC1, -, -⟩ := hC.out.two; have hCl := hC.out.lt; clear bw0 bw1 bw2 bw3 bw4 bw5 bw6 bw7 bwl; obtain ⟨bw0, bw1, bw2, bw3, bw4, bw5, bw6, bw7, -, -, -, -, -, -, -, -⟩ := bw.out.eight; have bwl := bw.out.lt; clear hx0 hx1 hx2 hx3 hx4 hx5 hxl; obtain ⟨hx0, hx1, hx2, hx3, hx4, hx5, -, -, -, -, -, -⟩ := hx.out.six; have hxl := hx.out.lt; clear hz0 hz1 hzl; obtain ⟨hz0, hz1, -, -⟩ := hz.out.two; have hzl := hz.out.lt; have z8 := Lib.hid (show w7.heap.size + 1 ≤ w8.heap.size from Nat.le_trans (by simp) hb8.size); have og := Lib.hid (show Own2 w8 (w7.heap.size + 1) w8.heap.size (.slice A1 R.l.length cap1) R.l from Own2.new ho1 (by simp)); clear ho1; replace hb8 := Lib.hid hb8)
      replace hW := Lib.hid (hW.out.alloc hW.out.size (.cells #[.bool R.b, .bool R.o, .string R.s, .int .i64 R.q, .string R.t, .slice A1 R.l.length cap1, .int .i64 R.d, .int .i64 R.c] 34))
      replace hB := Lib.hid (hB.out.alloc (.cells #[.bool R.b, .bool R.o, .string R.s, .int .i64 R.q, .string R.t, .slice A1 R.l.length cap1, .int .i64 R.d, .int .i64 R.c] 34))
      replace hC := Lib.hid (hC.out.alloc (.cells #[.bool R.b, .bool R.o, .string R.s, .int .i64 R.q, .string R.t, .slice A1 R.l.length cap1, .int .i64 R.d, .int .i64 R.c] 34))
      replace bw := Lib.hid (bw.out.alloc (.cells #[.bool R.b, .bool R.o, .string R.s, .int .i64 R.q, .string R.t, .slice A1 R.l.length cap1, .int .i64 R.d, .int .i64 R.c] 34))
      replace hx := Lib.hid (hx.out.alloc (.cells #[.bool R.b, .bool R.o, .string R.s, .int .i64 R.q, .string R.t, .slice A1 R.l.length cap1, .int .i64 R.d, .int .i64 R.c] 34))
      replace hz := Lib.hid (hz.out.alloc (.cells #[.bool R.b, .bool R.o, .string R.s, .int .i64 R.q, .string R.t, .slice A1 R.l.length cap1, .int .i64 R.d, .int .i64 R.c] 34))
      replace ow := Lib.hid (ow.out.alloc (.cells #[.bool R.b, .bool R.o, .string R.s, .int .i64 R.q, .string R.t, .slice A1 R.l.length cap1, .int .i64 R.d, .int .i64 R.c] 34))
      replace o4 := Lib.hid (o4.out.alloc (.cells #[.bool R.b, .bool R.o, .string R.s, .int .i64 R.q, .string R.t, .slice A1 R.l.length cap1, .int .i64 R.d, .int .i64 R.c] 34))
      replace p4 := Lib.hid (p4.out.alloc (.cells #[.bool R.b, .bool R.o, .string R.s, .int .i64 R.q, .string R.t, .slice A1 R.l.length cap1, .int .i64 R.d, .int .i64 R.c] 34))
      replace q4 := Lib.hid (q4.out.alloc (.cells #[.bool R.b, .bool R.o, .string R.s, .int .i64 R.q, .string R.t, .slice A1 R.l.length cap1, .int .i64 R.d, .int .i64 R.c] 34))
      replace og := Lib.hid (og.out.alloc (.cells #[.bool R.b, .bool R.o, .string R.s, .int .i64 R.q, .string R.t, .slice A1 R.l.length cap1, .int .i64 R.d, .int .i64 R.c] 34))
      have bg := Lib.hid (show Blk (w8.alloc (.cells #[.bool R.b, .bool R.o, .string R.s, .int .i64 R.q, .string R.t, .slice A1 R.l.length cap1, .int .i64 R.d, .int .i64 R.c] 34)) w8.heap.size 34 [.bool R.b, .bool R.o, .string R.s, .int .i64 R.q, .string R.t, .slice A1 R.l.length cap1, .int .i64 R.d, .int .i64 R.c] from heap_alloc_new w8 (.cells #[.bool R.b, .bool R.o, .string R.s, .int .i64 R.q, .string R.t, .slice A1 R.l.length cap1, .int .i64 R.d, .int .i64 R.c] 34))
      clear hB0 hB1 hB2 hB3 hB4 hB5 hBl
      obtain ⟨hB0, hB1, hB2, hB3, hB4, hB5, -, -, -, -, -, -⟩ := hB.out.six; have hBl := hB.out.lt
      clear hC0 hC1 hCl
      obtain ⟨hC0, hC1, -, -⟩ := hC.out.two; have hCl := hC.out.lt
      clear bw0 bw1 bw2 bw3 bw4 bw5 bw6 bw7 bwl
      obtain ⟨bw0, bw1, bw2, bw3, bw4, bw5, bw6, bw7, -, -, -, -, -, -, -, -⟩ := bw.out.eight; have bwl := bw.out.lt
      clear hx0 hx1 hx2 hx3 hx4 hx5 hxl
      obtain ⟨hx0, hx1, hx2, hx3, hx4, hx5, -, -, -, -, -, -⟩ := hx.out.six; have hxl := hx.out.lt
      clear hz0 hz1 hzl
      obtain ⟨hz0, hz1, -, -⟩ := hz.out.two; have hzl := hz.out.lt
      obtain ⟨bg0, bg1, bg2, bg3, bg4, bg5, bg6, bg7, -, -, -, -, -, -, -, -⟩ := bg.out.eight; have bgl := bg.out.lt
      go_wp2_with (go_at_call 11; refine (eqSeatOut_same R.b R.o R.s R.q R.t _ _ R.l R.d R.c _ og.out.ints ow.out.ints).mono ?_; rintro e9 w9 ⟨rfl, hb9⟩; replace hW := Lib.hid (Below.then_ hW.out hb9 (Nat.le_refl _)); replace hB := Lib.hid (hB.out.up hb9); replace hC := Lib.hid (hC.out.up hb9); replace bw := Lib.hid (bw.out.up hb9); replace hx := Lib.hid (hx.out.up hb9); replace hz := Lib.hid (hz.out.up hb9); replace bg := Lib.hid (bg.out.up hb9); replace ow := Lib.hid (ow.out.below hb9); replace o4 := Lib.hid (o4.out.below hb9); replace p4 := Lib.hid (p4.out.below hb9); replace q4 := Lib.hid (q4.out.below hb9); replace og := Lib.hid (og.out.below hb9); clear hB0 hB1 hB2 hB3 hB4 hB5 hBl; obtain ⟨hB0, hB1, hB2, hB3, hB4, hB5, -, -, -, -, -, -⟩ := hB.out.six; have hBl := hB.out.lt; clear hC0 hC1 hCl; obtain ⟨hC0, hC1, -, -⟩ := hC.out.two; have hCl := hC.out.lt; clear bw0 bw1 bw2 bw3 bw4 bw5 bw6 bw7 bwl; obtain ⟨bw0, bw1, bw2, bw3, bw4, bw5, bw6, bw7, -, -, -, -, -, -, -, -⟩ := bw.out.eight; have bwl := bw.out.lt; clear hx0 hx1 hx2 hx3 hx4 hx5 hxl; obtain ⟨hx0, hx1, hx2, hx3, hx4, hx5, -, -, -, -, -, -⟩ := hx.out.six; have hxl := hx.out.lt; clear hz0 hz1 hzl; obtain ⟨hz0, hz1, -, -⟩ := hz.out.two; have hzl := hz.out.lt; clear bg0 bg1 bg2 bg3 bg4 bg5 bg6 bg7 bgl; obtain ⟨bg0, bg1, bg2, bg3, bg4, bg5, bg6, bg7, -, -, -, -, -, -, -, -⟩ := bg.out.eight; have bgl := bg.out.lt; have z9 := Lib.hid (show w8.heap.size + 1 ≤ w9.heap.size from Nat.le_trans (by simp) hb9.size); replace hb9 := Lib.hid hb9)
      replace hW := Lib.hid (below_drew' hW.out)
      replace hB := Lib.hid hB.out.drew
      replace hC := Lib.hid hC.out.drew
      replace bw := Lib.hid bw.out.drew
      replace hx := Lib.hid hx.out.drew
      replace hz := Lib.hid hz.out.drew
      replace bg := Lib.hid bg.out.drew
      replace ow := Lib.hid ow.out.drew
      replace o4 := Lib.hid o4.out.drew
      replace p4 := Lib.hid p4.out.drew
      replace q4 := Lib.hid q4.out.drew
      replace og := Lib.hid og.out.drew
      clear hB0 hB1 hB2 hB3 hB4 hB5 hBl
      obtain ⟨hB0, hB1, hB2, hB3, hB4, hB5, -, -, -, -, -, -⟩ := hB.out.six; have hBl := hB.out.lt
      clear hC0 hC1 hCl
      obtain ⟨hC0, hC1, -, -⟩ := hC.out.two; have hCl := hC.out.lt
      clear bw0 bw1 bw2 bw3 bw4 bw5 bw6 bw7 bwl
      obtain ⟨bw0, bw1, bw2, bw3, bw4, bw5, bw6, bw7, -, -, -, -, -, -, -, -⟩ := bw.out.eight; have bwl := bw.out.lt
      clear hx0 hx1 hx2 hx3 hx4 hx5 hxl
      obtain ⟨hx0, hx1, hx2, hx3, hx4, hx5, -, -, -, -, -, -⟩ := hx.out.six; have hxl := hx.out.lt
      clear hz0 hz1 hzl
      obtain ⟨hz0, hz1, -, -⟩ := hz.out.two; have hzl := hz.out.lt
      clear bg0 bg1 bg2 bg3 bg4 bg5 bg6 bg7 bgl
      obtain ⟨bg0, bg1, bg2, bg3, bg4, bg5, bg6, bg7, -, -, -, -, -, -, -, -⟩ := bg.out.eight; have bgl := bg.out.lt
      go_region_held3 (fun w' => w'.cell? ⟨w.heap.size, 0, none⟩ = some (.bool b) ∧ w'.cell? ⟨w.heap.size, 1, none⟩ = some (.bool o) ∧ w'.cell? ⟨w.heap.size, 2, none⟩ = some (.string s) ∧ w'.cell? ⟨w.heap.size, 3, none⟩ = some (.int .i64 q) ∧ w'.cell? ⟨w.heap.size, 4, none⟩ = some (.string t) ∧ w'.cell? ⟨w.heap.size, 5, none⟩ = some (.slice A l.length cap) ∧ w'.cell? ⟨w5.heap.size, 0, none⟩ = some (.bool b) ∧ w'.cell? ⟨w5.heap.size, 1, none⟩ = some (.bool o) ∧ w'.cell? ⟨w5.heap.size, 2, none⟩ = some (.string s) ∧ w'.cell? ⟨w5.heap.size, 3, none⟩ = some (.int .i64 q) ∧ w'.cell? ⟨w5.heap.size, 4, none⟩ = some (.string t) ∧ w'.cell? ⟨w5.heap.size, 5, none⟩ = some (.slice A4 l.length cap4)) (first | exact ⟨hB0, hB1, hB2, hB3, hB4, hB5, hx0, hx1, hx2, hx3, hx4, hx5⟩ | go_keep)
          (first
            | (go_at_call 8; refine (toSeat_any b o s q t _ l _ (hv0.out.below hW.out)).mono ?_; rintro e10 w10 ⟨A6, cap6, rfl, ho6, hb10⟩; replace hW := Lib.hid (Below.then_ hW.out hb10 (Nat.le_refl _)); replace hB := Lib.hid (hB.out.up hb10); replace hC := Lib.hid (hC.out.up hb10); replace bw := Lib.hid (bw.out.up hb10); replace hx := Lib.hid (hx.out.up hb10); replace hz := Lib.hid (hz.out.up hb10); replace bg := Lib.hid (bg.out.up hb10); replace ow := Lib.hid (ow.out.below hb10); replace o4 := Lib.hid (o4.out.below hb10); replace p4 := Lib.hid (p4.out.below hb10); replace q4 := Lib.hid (q4.out.below hb10); replace og := Lib.hid (og.out.below hb10); clear hB0 hB1 hB2 hB3 hB4 hB5 hBl; obtain ⟨hB0, hB1, hB2, hB3, hB4, hB5, -, -, -, -, -, -⟩ := hB.out.six; have hBl := hB.out.lt; clear hC0 hC1 hCl; obtain ⟨hC0, hC1, -, -⟩ := hC.out.two; have hCl := hC.out.lt; clear bw0 bw1 bw2 bw3 bw4 bw5 bw6 bw7 bwl; obtain ⟨bw0, bw1, bw2, bw3, bw4, bw5, bw6, bw7, -, -, -, -, -, -, -, -⟩ := bw.out.eight; have bwl := bw.out.lt; clear hx0 hx1 hx2 hx3 hx4 hx5 hxl; obtain ⟨hx0, hx1, hx2, hx3, hx4, hx5, -, -, -, -, -, -⟩ := hx.out.six; have hxl := hx.out.lt; clear hz0 hz1 hzl; obtain ⟨hz0, hz1, -, -⟩ := hz.out.two; have hzl := hz.out.lt; clear bg0 bg1 bg2 bg3 bg4 bg5 bg6 bg7 bgl; obtain ⟨bg0, bg1, bg2, bg3, bg4, bg5, bg6, bg7, -, -, -, -, -, -, -, -⟩ := bg.out.eight; have bgl := bg.out.lt; have z10 := Lib.hid (show w9.heap.size ≤ w10.heap.size from Nat.le_trans (Nat.le_refl _) hb10.size); have o6 := Lib.hid (show Own2 w10 (w9.heap.size) w10.heap.size (.slice A6 l.length cap6) l from Own2.new ho6 (Nat.le_refl _)); clear ho6; replace hb10 := Lib.hid hb10)
            | (go_at_call 12; refine (eqSeat_same b o s q t _ _ l _ o4.out.ints o6.out.ints).mono ?_; rintro e11 w11 ⟨rfl, hb11⟩; replace hW := Lib.hid (Below.then_ hW.out hb11 (Nat.le_refl _)); replace hB := Lib.hid (hB.out.up hb11); replace hC := Lib.hid (hC.out.up hb11); replace bw := Lib.hid (bw.out.up hb11); replace hx := Lib.hid (hx.out.up hb11); replace hz := Lib.hid (hz.out.up hb11); replace bg := Lib.hid (bg.out.up hb11); replace ow := Lib.hid (ow.out.below hb11); replace o4 := Lib.hid (o4.out.below hb11); replace p4 := Lib.hid (p4.out.below hb11); replace q4 := Lib.hid (q4.out.below hb11); replace og := Lib.hid (og.out.below hb11); replace o6 := Lib.hid (o6.out.below hb11); clear hB0 hB1 hB2 hB3 hB4 hB5 hBl; obtain ⟨hB0, hB1, hB2, hB3, hB4, hB5, -, -, -, -, -, -⟩ := hB.out.six; have hBl := hB.out.lt; clear hC0 hC1 hCl; obtain ⟨hC0, hC1, -, -⟩ := hC.out.two; have hCl := hC.out.lt; clear bw0 bw1 bw2 bw3 bw4 bw5 bw6 bw7 bwl; obtain ⟨bw0, bw1, bw2, bw3, bw4, bw5, bw6, bw7, -, -, -, -, -, -, -, -⟩ := bw.out.eight; have bwl := bw.out.lt; clear hx0 hx1 hx2 hx3 hx4 hx5 hxl; obtain ⟨hx0, hx1, hx2, hx3, hx4, hx5, -, -, -, -, -, -⟩ := hx.out.six; have hxl := hx.out.lt; clear hz0 hz1 hzl; obtain ⟨hz0, hz1, -, -⟩ := hz.out.two; have hzl := hz.out.lt; clear bg0 bg1 bg2 bg3 bg4 bg5 bg6 bg7 bgl; obtain ⟨bg0, bg1, bg2, bg3, bg4, bg5, bg6, bg7, -, -, -, -, -, -, -, -⟩ := bg.out.eight; have bgl := bg.out.lt; have z11 := Lib.hid (show w10.heap.size ≤ w11.heap.size from Nat.le_trans (Nat.le_refl _) hb11.size); replace hb11 := Lib.hid hb11))
      clear o6
      go_wp2_with (go_at_call 9; refine (toSecs_any _ m _ (hu0.out.below hW.out) hml).mono ?_; rintro e12 w12 ⟨V6, rfl, ho6, hb12⟩; replace hW := Lib.hid (Below.then_ hW.out hb12 (Nat.le_refl _)); replace hB := Lib.hid (hB.out.up hb12); replace hC := Lib.hid (hC.out.up hb12); replace bw := Lib.hid (bw.out.up hb12); replace hx := Lib.hid (hx.out.up hb12); replace hz := Lib.hid (hz.out.up hb12); replace bg := Lib.hid (bg.out.up hb12); replace ow := Lib.hid (ow.out.below hb12); replace o4 := Lib.hid (o4.out.below hb12); replace p4 := Lib.hid (p4.out.below hb12); replace q4 := Lib.hid (q4.out.below hb12); replace og := Lib.hid (og.out.below hb12); clear hB0 hB1 hB2 hB3 hB4 hB5 hBl; obtain ⟨hB0, hB1, hB2, hB3, hB4, hB5, -, -, -, -, -, -⟩ := hB.out.six; have hBl := hB.out.lt; clear hC0 hC1 hCl; obtain ⟨hC0, hC1, -, -⟩ := hC.out.two; have hCl := hC.out.lt; clear bw0 bw1 bw2 bw3 bw4 bw5 bw6 bw7 bwl; obtain ⟨bw0, bw1, bw2, bw3, bw4, bw5, bw6, bw7, -, -, -, -, -, -, -, -⟩ := bw.out.eight; have bwl := bw.out.lt; clear hx0 hx1 hx2 hx3 hx4 hx5 hxl; obtain ⟨hx0, hx1, hx2, hx3, hx4, hx5, -, -, -, -, -, -⟩ := hx.out.six; have hxl := hx.out.lt; clear hz0 hz1 hzl; obtain ⟨hz0, hz1, -, -⟩ := hz.out.two; have hzl := hz.out.lt; clear bg0 bg1 bg2 bg3 bg4 bg5 bg6 bg7 bgl; obtain ⟨bg0, bg1, bg2, bg3, bg4, bg5, bg6, bg7, -, -, -, -, -, -, -, -⟩ := bg.out.eight; have bgl := bg.out.lt; have z12 := Lib.hid (show w11.heap.size ≤ w12.heap.size from Nat.le_trans (Nat.le_refl _) hb12.size); have p6 := Lib.hid (show OwnV w12 (w11.heap.size) w12.heap.size V6 m from OwnV.new ho6 (Nat.le_refl _)); clear ho6; replace hb12 := Lib.hid hb12)
      go_wp2_with (go_at_call 13; refine (eqSecs_same _ _ m _ p4.out.secs p6.out.secs).mono ?_; rintro e13 w13 ⟨rfl, hb13⟩; replace hW := Lib.hid (Below.then_ hW.out hb13 (Nat.le_refl _)); replace hB := Lib.hid (hB.out.up hb13); replace hC := Lib.hid (hC.out.up hb13); replace bw := Lib.hid (bw.out.up hb13); replace hx := Lib.hid (hx.out.up hb13); replace hz := Lib.hid (hz.out.up hb13); replace bg := Lib.hid (bg.out.up hb13); replace ow := Lib.hid (ow.out.below hb13); replace o4 := Lib.hid (o4.out.below hb13); replace p4 := Lib.hid (p4.out.below hb13); replace q4 := Lib.hid (q4.out.below hb13); replace og := Lib.hid (og.out.below hb13); replace p6 := Lib.hid (p6.out.below hb13); clear hB0 hB1 hB2 hB3 hB4 hB5 hBl; obtain ⟨hB0, hB1, hB2, hB3, hB4, hB5, -, -, -, -, -, -⟩ := hB.out.six; have hBl := hB.out.lt; clear hC0 hC1 hCl; obtain ⟨hC0, hC1, -, -⟩ := hC.out.two; have hCl := hC.out.lt; clear bw0 bw1 bw2 bw3 bw4 bw5 bw6 bw7 bwl; obtain ⟨bw0, bw1, bw2, bw3, bw4, bw5, bw6, bw7, -, -, -, -, -, -, -, -⟩ := bw.out.eight; have bwl := bw.out.lt; clear hx0 hx1 hx2 hx3 hx4 hx5 hxl; obtain ⟨hx0, hx1, hx2, hx3, hx4, hx5, -, -, -, -, -, -⟩ := hx.out.six; have hxl := hx.out.lt; clear hz0 hz1 hzl; obtain ⟨hz0, hz1, -, -⟩ := hz.out.two; have hzl := hz.out.lt; clear bg0 bg1 bg2 bg3 bg4 bg5 bg6 bg7 bgl; obtain ⟨bg0, bg1, bg2, bg3, bg4, bg5, bg6, bg7, -, -, -, -, -, -, -, -⟩ := bg.out.eight; have bgl := bg.out.lt; have z13 := Lib.hid (show w12.heap.size ≤ w13.heap.size from Nat.le_trans (Nat.le_refl _) hb13.size); replace hb13 := Lib.hid hb13)
      clear p6
      go_wp2
      replace hW := Lib.hid (below_drew' hW.out)
      replace hB := Lib.hid hB.out.drew
      replace hC := Lib.hid hC.out.drew
      replace bw := Lib.hid bw.out.drew
      replace hx := Lib.hid hx.out.drew
      replace hz := Lib.hid hz.out.drew
      replace bg := Lib.hid bg.out.drew
      replace ow := Lib.hid ow.out.drew
      replace o4 := Lib.hid o4.out.drew
      replace p4 := Lib.hid p4.out.drew
      replace q4 := Lib.hid q4.out.drew
      replace og := Lib.hid og.out.drew
      clear hB0 hB1 hB2 hB3 hB4 hB5 hBl
      obtain ⟨hB0, hB1, hB2, hB3, hB4, hB5, -, -, -, -, -, -⟩ := hB.out.six; have hBl := hB.out.lt
      clear hC0 hC1 hCl
      obtain ⟨hC0, hC1, -, -⟩ := hC.out.two; have hCl := hC.out.lt
      clear bw0 bw1 bw2 bw3 bw4 bw5 bw6 bw7 bwl
      obtain ⟨bw0, bw1, bw2, bw3, bw4, bw5, bw6, bw7, -, -, -, -, -, -, -, -⟩ := bw.out.eight; have bwl := bw.out.lt
      clear hx0 hx1 hx2 hx3 hx4 hx5 hxl
      obtain ⟨hx0, hx1, hx2, hx3, hx4, hx5, -, -, -, -, -, -⟩ := hx.out.six; have hxl := hx.out.lt
      clear hz0 hz1 hzl
      obtain ⟨hz0, hz1, -, -⟩ := hz.out.two; have hzl := hz.out.lt
      clear bg0 bg1 bg2 bg3 bg4 bg5 bg6 bg7 bgl
      obtain ⟨bg0, bg1, bg2, bg3, bg4, bg5, bg6, bg7, -, -, -, -, -, -, -, -⟩ := bg.out.eight; have bgl := bg.out.lt
      go_region_held3 (fun w' => w'.cell? ⟨w.heap.size + 1, 0, none⟩ = some (.string x) ∧ w'.cell? ⟨w.heap.size + 1, 1, none⟩ = some (.slice A3 r.length cap3) ∧ w'.cell? ⟨w7.heap.size, 0, none⟩ = some (.string x) ∧ w'.cell? ⟨w7.heap.size, 1, none⟩ = some (.slice Aq4 r.length capq4)) (first | exact ⟨hC0, hC1, hz0, hz1⟩ | go_keep)
          (first
            | (go_at_call 20; refine (toLab_any x _ r _ (hr0.out.below hW.out)).mono ?_; rintro e14 w14 ⟨A6, cap6, rfl, ho6, hb14⟩; replace hW := Lib.hid (Below.then_ hW.out hb14 (Nat.le_refl _)); replace hB := Lib.hid (hB.out.up hb14); replace hC := Lib.hid (hC.out.up hb14); replace bw := Lib.hid (bw.out.up hb14); replace hx := Lib.hid (hx.out.up hb14); replace hz := Lib.hid (hz.out.up hb14); replace bg := Lib.hid (bg.out.up hb14); replace ow := Lib.hid (ow.out.below hb14); replace o4 := Lib.hid (o4.out.below hb14); replace p4 := Lib.hid (p4.out.below hb14); replace q4 := Lib.hid (q4.out.below hb14); replace og := Lib.hid (og.out.below hb14); clear hB0 hB1 hB2 hB3 hB4 hB5 hBl; obtain ⟨hB0, hB1, hB2, hB3, hB4, hB5, -, -, -, -, -, -⟩ := hB.out.six; have hBl := hB.out.lt; clear hC0 hC1 hCl; obtain ⟨hC0, hC1, -, -⟩ := hC.out.two; have hCl := hC.out.lt; clear bw0 bw1 bw2 bw3 bw4 bw5 bw6 bw7 bwl; obtain ⟨bw0, bw1, bw2, bw3, bw4, bw5, bw6, bw7, -, -, -, -, -, -, -, -⟩ := bw.out.eight; have bwl := bw.out.lt; clear hx0 hx1 hx2 hx3 hx4 hx5 hxl; obtain ⟨hx0, hx1, hx2, hx3, hx4, hx5, -, -, -, -, -, -⟩ := hx.out.six; have hxl := hx.out.lt; clear hz0 hz1 hzl; obtain ⟨hz0, hz1, -, -⟩ := hz.out.two; have hzl := hz.out.lt; clear bg0 bg1 bg2 bg3 bg4 bg5 bg6 bg7 bgl; obtain ⟨bg0, bg1, bg2, bg3, bg4, bg5, bg6, bg7, -, -, -, -, -, -, -, -⟩ := bg.out.eight; have bgl := bg.out.lt; have z14 := Lib.hid (show w13.heap.size ≤ w14.heap.size from Nat.le_trans (Nat.le_refl _) hb14.size); have q6 := Lib.hid (show Own2 w14 (w13.heap.size) w14.heap.size (.slice A6 r.length cap6) r from Own2.new ho6 (Nat.le_refl _)); clear ho6; replace hb14 := Lib.hid hb14)
            | (go_at_call 22; refine (eqLab_any x x _ _ r r _ q4.out.ints q6.out.ints).mono ?_; rintro e15 w15 ⟨rfl, hb15⟩; replace hW := Lib.hid (Below.then_ hW.out hb15 (Nat.le_refl _)); replace hB := Lib.hid (hB.out.up hb15); replace hC := Lib.hid (hC.out.up hb15); replace bw := Lib.hid (bw.out.up hb15); replace hx := Lib.hid (hx.out.up hb15); replace hz := Lib.hid (hz.out.up hb15); replace bg := Lib.hid (bg.out.up hb15); replace ow := Lib.hid (ow.out.below hb15); replace o4 := Lib.hid (o4.out.below hb15); replace p4 := Lib.hid (p4.out.below hb15); replace q4 := Lib.hid (q4.out.below hb15); replace og := Lib.hid (og.out.below hb15); replace q6 := Lib.hid (q6.out.below hb15); clear hB0 hB1 hB2 hB3 hB4 hB5 hBl; obtain ⟨hB0, hB1, hB2, hB3, hB4, hB5, -, -, -, -, -, -⟩ := hB.out.six; have hBl := hB.out.lt; clear hC0 hC1 hCl; obtain ⟨hC0, hC1, -, -⟩ := hC.out.two; have hCl := hC.out.lt; clear bw0 bw1 bw2 bw3 bw4 bw5 bw6 bw7 bwl; obtain ⟨bw0, bw1, bw2, bw3, bw4, bw5, bw6, bw7, -, -, -, -, -, -, -, -⟩ := bw.out.eight; have bwl := bw.out.lt; clear hx0 hx1 hx2 hx3 hx4 hx5 hxl; obtain ⟨hx0, hx1, hx2, hx3, hx4, hx5, -, -, -, -, -, -⟩ := hx.out.six; have hxl := hx.out.lt; clear hz0 hz1 hzl; obtain ⟨hz0, hz1, -, -⟩ := hz.out.two; have hzl := hz.out.lt; clear bg0 bg1 bg2 bg3 bg4 bg5 bg6 bg7 bgl; obtain ⟨bg0, bg1, bg2, bg3, bg4, bg5, bg6, bg7, -, -, -, -, -, -, -, -⟩ := bg.out.eight; have bgl := bg.out.lt; have z15 := Lib.hid (show w14.heap.size ≤ w15.heap.size from Nat.le_trans (Nat.le_refl _) hb15.size); rw [alike_same]; replace hb15 := Lib.hid hb15))
      clear q6
      go_wp2_with (go_at_call 14; refine (markSeat_one b o s q t _ l _ _ o4.out.1).mono ?_; rintro e16 w16 ⟨rfl, ho, hg⟩; replace hW := Lib.hid (o4.out.stays hg hW.out (by have := z1.out; have := z2.out; have := z3.out; have := z4.out; have := zg0.out; have := z5.out; have := z6.out; have := z7.out; have := z8.out; have := z9.out; have := z10.out; have := z11.out; have := z12.out; have := z13.out; have := z14.out; have := z15.out; omega)); replace hB := Lib.hid (o4.out.blk hg hB.out (by have := z1.out; have := z2.out; have := z3.out; have := z4.out; have := zg0.out; have := z5.out; have := z6.out; have := z7.out; have := z8.out; have := z9.out; have := z10.out; have := z11.out; have := z12.out; have := z13.out; have := z14.out; have := z15.out; omega)); replace hC := Lib.hid (o4.out.blk hg hC.out (by have := z1.out; have := z2.out; have := z3.out; have := z4.out; have := zg0.out; have := z5.out; have := z6.out; have := z7.out; have := z8.out; have := z9.out; have := z10.out; have := z11.out; have := z12.out; have := z13.out; have := z14.out; have := z15.out; omega)); replace bw := Lib.hid (o4.out.blk hg bw.out (by have := z1.out; have := z2.out; have := z3.out; have := z4.out; have := zg0.out; have := z5.out; have := z6.out; have := z7.out; have := z8.out; have := z9.out; have := z10.out; have := z11.out; have := z12.out; have := z13.out; have := z14.out; have := z15.out; omega)); replace hx := Lib.hid (o4.out.blk hg hx.out (by have := z1.out; have := z2.out; have := z3.out; have := z4.out; have := zg0.out; have := z5.out; have := z6.out; have := z7.out; have := z8.out; have := z9.out; have := z10.out; have := z11.out; have := z12.out; have := z13.out; have := z14.out; have := z15.out; omega)); replace hz := Lib.hid (o4.out.blk hg hz.out (by have := z1.out; have := z2.out; have := z3.out; have := z4.out; have := zg0.out; have := z5.out; have := z6.out; have := z7.out; have := z8.out; have := z9.out; have := z10.out; have := z11.out; have := z12.out; have := z13.out; have := z14.out; have := z15.out; omega)); replace bg := Lib.hid (o4.out.blk hg bg.out (by have := z1.out; have := z2.out; have := z3.out; have := z4.out; have := zg0.out; have := z5.out; have := z6.out; have := z7.out; have := z8.out; have := z9.out; have := z10.out; have := z11.out; have := z12.out; have := z13.out; have := z14.out; have := z15.out; omega)); replace ow := Lib.hid (ow.out.apart hg o4.out (by have := z1.out; have := z2.out; have := z3.out; have := z4.out; have := zg0.out; have := z5.out; have := z6.out; have := z7.out; have := z8.out; have := z9.out; have := z10.out; have := z11.out; have := z12.out; have := z13.out; have := z14.out; have := z15.out; omega)); replace p4 := Lib.hid (p4.out.apart hg o4.out (by have := z1.out; have := z2.out; have := z3.out; have := z4.out; have := zg0.out; have := z5.out; have := z6.out; have := z7.out; have := z8.out; have := z9.out; have := z10.out; have := z11.out; have := z12.out; have := z13.out; have := z14.out; have := z15.out; omega)); replace q4 := Lib.hid (q4.out.apart hg o4.out (by have := z1.out; have := z2.out; have := z3.out; have := z4.out; have := zg0.out; have := z5.out; have := z6.out; have := z7.out; have := z8.out; have := z9.out; have := z10.out; have := z11.out; have := z12.out; have := z13.out; have := z14.out; have := z15.out; omega)); replace og := Lib.hid (og.out.apart hg o4.out (by have := z1.out; have := z2.out; have := z3.out; have := z4.out; have := zg0.out; have := z5.out; have := z6.out; have := z7.out; have := z8.out; have := z9.out; have := z10.out; have := z11.out; have := z12.out; have := z13.out; have := z14.out; have := z15.out; omega)); have z16 := Lib.hid (show w15.heap.size ≤ w16.heap.size from Nat.le_trans (Nat.le_refl _) hg.size); replace o4 := Lib.hid (o4.out.marked ho); clear ho hg; rw [← hK1.out]; clear hB0 hB1 hB2 hB3 hB4 hB5 hBl; obtain ⟨hB0, hB1, hB2, hB3, hB4, hB5, -, -, -, -, -, -⟩ := hB.out.six; have hBl := hB.out.lt; clear hC0 hC1 hCl; obtain ⟨hC0, hC1, -, -⟩ := hC.out.two; have hCl := hC.out.lt; clear bw0 bw1 bw2 bw3 bw4 bw5 bw6 bw7 bwl; obtain ⟨bw0, bw1, bw2, bw3, bw4, bw5, bw6, bw7, -, -, -, -, -, -, -, -⟩ := bw.out.eight; have bwl := bw.out.lt; clear hx0 hx1 hx2 hx3 hx4 hx5 hxl; obtain ⟨hx0, hx1, hx2, hx3, hx4, hx5, -, -, -, -, -, -⟩ := hx.out.six; have hxl := hx.out.lt; clear hz0 hz1 hzl; obtain ⟨hz0, hz1, -, -⟩ := hz.out.two; have hzl := hz.out.lt; clear bg0 bg1 bg2 bg3 bg4 bg5 bg6 bg7 bgl; obtain ⟨bg0, bg1, bg2, bg3, bg4, bg5, bg6, bg7, -, -, -, -, -, -, -, -⟩ := bg.out.eight; have bgl := bg.out.lt)
      go_wp2_with (go_at_call 15; refine (markSecs_any _ m K1 _ _ hK3.out hK4.out p4.out.1).mono ?_; rintro e17 w17 ⟨rfl, ho, hg⟩; replace hW := Lib.hid (p4.out.stays hg hW.out (by have := z1.out; have := z2.out; have := z3.out; have := z4.out; have := zg0.out; have := z5.out; have := z6.out; have := z7.out; have := z8.out; have := z9.out; have := z10.out; have := z11.out; have := z12.out; have := z13.out; have := z14.out; have := z15.out; have := z16.out; omega)); replace hB := Lib.hid (p4.out.blk hg hB.out (by have := z1.out; have := z2.out; have := z3.out; have := z4.out; have := zg0.out; have := z5.out; have := z6.out; have := z7.out; have := z8.out; have := z9.out; have := z10.out; have := z11.out; have := z12.out; have := z13.out; have := z14.out; have := z15.out; have := z16.out; omega)); replace hC := Lib.hid (p4.out.blk hg hC.out (by have := z1.out; have := z2.out; have := z3.out; have := z4.out; have := zg0.out; have := z5.out; have := z6.out; have := z7.out; have := z8.out; have := z9.out; have := z10.out; have := z11.out; have := z12.out; have := z13.out; have := z14.out; have := z15.out; have := z16.out; omega)); replace bw := Lib.hid (p4.out.blk hg bw.out (by have := z1.out; have := z2.out; have := z3.out; have := z4.out; have := zg0.out; have := z5.out; have := z6.out; have := z7.out; have := z8.out; have := z9.out; have := z10.out; have := z11.out; have := z12.out; have := z13.out; have := z14.out; have := z15.out; have := z16.out; omega)); replace hx := Lib.hid (p4.out.blk hg hx.out (by have := z1.out; have := z2.out; have := z3.out; have := z4.out; have := zg0.out; have := z5.out; have := z6.out; have := z7.out; have := z8.out; have := z9.out; have := z10.out; have := z11.out; have := z12.out; have := z13.out; have := z14.out; have := z15.out; have := z16.out; omega)); replace hz := Lib.hid (p4.out.blk hg hz.out (by have := z1.out; have := z2.out; have := z3.out; have := z4.out; have := zg0.out; have := z5.out; have := z6.out; have := z7.out; have := z8.out; have := z9.out; have := z10.out; have := z11.out; have := z12.out; have := z13.out; have := z14.out; have := z15.out; have := z16.out; omega)); replace bg := Lib.hid (p4.out.blk hg bg.out (by have := z1.out; have := z2.out; have := z3.out; have := z4.out; have := zg0.out; have := z5.out; have := z6.out; have := z7.out; have := z8.out; have := z9.out; have := z10.out; have := z11.out; have := z12.out; have := z13.out; have := z14.out; have := z15.out; have := z16.out; omega)); replace ow := Lib.hid (ow.out.apartV hg p4.out (by have := z1.out; have := z2.out; have := z3.out; have := z4.out; have := zg0.out; have := z5.out; have := z6.out; have := z7.out; have := z8.out; have := z9.out; have := z10.out; have := z11.out; have := z12.out; have := z13.out; have := z14.out; have := z15.out; have := z16.out; omega)); replace o4 := Lib.hid (o4.out.apartV hg p4.out (by have := z1.out; have := z2.out; have := z3.out; have := z4.out; have := zg0.out; have := z5.out; have := z6.out; have := z7.out; have := z8.out; have := z9.out; have := z10.out; have := z11.out; have := z12.out; have := z13.out; have := z14.out; have := z15.out; have := z16.out; omega)); replace q4 := Lib.hid (q4.out.apartV hg p4.out (by have := z1.out; have := z2.out; have := z3.out; have := z4.out; have := zg0.out; have := z5.out; have := z6.out; have := z7.out; have := z8.out; have := z9.out; have := z10.out; have := z11.out; have := z12.out; have := z13.out; have := z14.out; have := z15.out; have := z16.out; omega)); replace og := Lib.hid (og.out.apartV hg p4.out (by have := z1.out; have := z2.out; have := z3.out; have := z4.out; have := zg0.out; have := z5.out; have := z6.out; have := z7.out; have := z8.out; have := z9.out; have := z10.out; have := z11.out; have := z12.out; have := z13.out; have := z14.out; have := z15.out; have := z16.out; omega)); have z17 := Lib.hid (show w16.heap.size ≤ w17.heap.size from Nat.le_trans (Nat.le_refl _) hg.size); replace p4 := Lib.hid (p4.out.marked ho); clear ho hg; rw [← hK2.out]; clear hB0 hB1 hB2 hB3 hB4 hB5 hBl; obtain ⟨hB0, hB1, hB2, hB3, hB4, hB5, -, -, -, -, -, -⟩ := hB.out.six; have hBl := hB.out.lt; clear hC0 hC1 hCl; obtain ⟨hC0, hC1, -, -⟩ := hC.out.two; have hCl := hC.out.lt; clear bw0 bw1 bw2 bw3 bw4 bw5 bw6 bw7 bwl; obtain ⟨bw0, bw1, bw2, bw3, bw4, bw5, bw6, bw7, -, -, -, -, -, -, -, -⟩ := bw.out.eight; have bwl := bw.out.lt; clear hx0 hx1 hx2 hx3 hx4 hx5 hxl; obtain ⟨hx0, hx1, hx2, hx3, hx4, hx5, -, -, -, -, -, -⟩ := hx.out.six; have hxl := hx.out.lt; clear hz0 hz1 hzl; obtain ⟨hz0, hz1, -, -⟩ := hz.out.two; have hzl := hz.out.lt; clear bg0 bg1 bg2 bg3 bg4 bg5 bg6 bg7 bgl; obtain ⟨bg0, bg1, bg2, bg3, bg4, bg5, bg6, bg7, -, -, -, -, -, -, -, -⟩ := bg.out.eight; have bgl := bg.out.lt)
      go_wp2_with (go_at_call 23; refine (markLab_any x _ r K2 _ _ hK5.out q4.out.1).mono ?_; rintro e18 w18 ⟨rfl, ho, hg⟩; replace hW := Lib.hid (q4.out.stays hg hW.out (by have := z1.out; have := z2.out; have := z3.out; have := z4.out; have := zg0.out; have := z5.out; have := z6.out; have := z7.out; have := z8.out; have := z9.out; have := z10.out; have := z11.out; have := z12.out; have := z13.out; have := z14.out; have := z15.out; have := z16.out; have := z17.out; omega)); replace hB := Lib.hid (q4.out.blk hg hB.out (by have := z1.out; have := z2.out; have := z3.out; have := z4.out; have := zg0.out; have := z5.out; have := z6.out; have := z7.out; have := z8.out; have := z9.out; have := z10.out; have := z11.out; have := z12.out; have := z13.out; have := z14.out; have := z15.out; have := z16.out; have := z17.out; omega)); replace hC := Lib.hid (q4.out.blk hg hC.out (by have := z1.out; have := z2.out; have := z3.out; have := z4.out; have := zg0.out; have := z5.out; have := z6.out; have := z7.out; have := z8.out; have := z9.out; have := z10.out; have := z11.out; have := z12.out; have := z13.out; have := z14.out; have := z15.out; have := z16.out; have := z17.out; omega)); replace bw := Lib.hid (q4.out.blk hg bw.out (by have := z1.out; have := z2.out; have := z3.out; have := z4.out; have := zg0.out; have := z5.out; have := z6.out; have := z7.out; have := z8.out; have := z9.out; have := z10.out; have := z11.out; have := z12.out; have := z13.out; have := z14.out; have := z15.out; have := z16.out; have := z17.out; omega)); replace hx := Lib.hid (q4.out.blk hg hx.out (by have := z1.out; have := z2.out; have := z3.out; have := z4.out; have := zg0.out; have := z5.out; have := z6.out; have := z7.out; have := z8.out; have := z9.out; have := z10.out; have := z11.out; have := z12.out; have := z13.out; have := z14.out; have := z15.out; have := z16.out; have := z17.out; omega)); replace hz := Lib.hid (q4.out.blk hg hz.out (by have := z1.out; have := z2.out; have := z3.out; have := z4.out; have := zg0.out; have := z5.out; have := z6.out; have := z7.out; have := z8.out; have := z9.out; have := z10.out; have := z11.out; have := z12.out; have := z13.out; have := z14.out; have := z15.out; have := z16.out; have := z17.out; omega)); replace bg := Lib.hid (q4.out.blk hg bg.out (by have := z1.out; have := z2.out; have := z3.out; have := z4.out; have := zg0.out; have := z5.out; have := z6.out; have := z7.out; have := z8.out; have := z9.out; have := z10.out; have := z11.out; have := z12.out; have := z13.out; have := z14.out; have := z15.out; have := z16.out; have := z17.out; omega)); replace ow := Lib.hid (ow.out.apart hg q4.out (by have := z1.out; have := z2.out; have := z3.out; have := z4.out; have := zg0.out; have := z5.out; have := z6.out; have := z7.out; have := z8.out; have := z9.out; have := z10.out; have := z11.out; have := z12.out; have := z13.out; have := z14.out; have := z15.out; have := z16.out; have := z17.out; omega)); replace o4 := Lib.hid (o4.out.apart hg q4.out (by have := z1.out; have := z2.out; have := z3.out; have := z4.out; have := zg0.out; have := z5.out; have := z6.out; have := z7.out; have := z8.out; have := z9.out; have := z10.out; have := z11.out; have := z12.out; have := z13.out; have := z14.out; have := z15.out; have := z16.out; have := z17.out; omega)); replace p4 := Lib.hid (p4.out.apart hg q4.out (by have := z1.out; have := z2.out; have := z3.out; have := z4.out; have := zg0.out; have := z5.out; have := z6.out; have := z7.out; have := z8.out; have := z9.out; have := z10.out; have := z11.out; have := z12.out; have := z13.out; have := z14.out; have := z15.out; have := z16.out; have := z17.out; omega)); replace og := Lib.hid (og.out.apart hg q4.out (by have := z1.out; have := z2.out; have := z3.out; have := z4.out; have := zg0.out; have := z5.out; have := z6.out; have := z7.out; have := z8.out; have := z9.out; have := z10.out; have := z11.out; have := z12.out; have := z13.out; have := z14.out; have := z15.out; have := z16.out; have := z17.out; omega)); have z18 := Lib.hid (show w17.heap.size ≤ w18.heap.size from Nat.le_trans (Nat.le_refl _) hg.size); replace q4 := Lib.hid (q4.out.marked ho); clear ho hg; rw [← hK6.out]; clear hB0 hB1 hB2 hB3 hB4 hB5 hBl; obtain ⟨hB0, hB1, hB2, hB3, hB4, hB5, -, -, -, -, -, -⟩ := hB.out.six; have hBl := hB.out.lt; clear hC0 hC1 hCl; obtain ⟨hC0, hC1, -, -⟩ := hC.out.two; have hCl := hC.out.lt; clear bw0 bw1 bw2 bw3 bw4 bw5 bw6 bw7 bwl; obtain ⟨bw0, bw1, bw2, bw3, bw4, bw5, bw6, bw7, -, -, -, -, -, -, -, -⟩ := bw.out.eight; have bwl := bw.out.lt; clear hx0 hx1 hx2 hx3 hx4 hx5 hxl; obtain ⟨hx0, hx1, hx2, hx3, hx4, hx5, -, -, -, -, -, -⟩ := hx.out.six; have hxl := hx.out.lt; clear hz0 hz1 hzl; obtain ⟨hz0, hz1, -, -⟩ := hz.out.two; have hzl := hz.out.lt; clear bg0 bg1 bg2 bg3 bg4 bg5 bg6 bg7 bgl; obtain ⟨bg0, bg1, bg2, bg3, bg4, bg5, bg6, bg7, -, -, -, -, -, -, -, -⟩ := bg.out.eight; have bgl := bg.out.lt)
      go_wp2_with (go_at_call 11; refine (eqSeatOut_same R.b R.o R.s R.q R.t _ _ R.l R.d R.c _ og.out.ints ow.out.ints).mono ?_; rintro e19 w19 ⟨rfl, hb19⟩; replace hW := Lib.hid (Below.then_ hW.out hb19 (Nat.le_refl _)); replace hB := Lib.hid (hB.out.up hb19); replace hC := Lib.hid (hC.out.up hb19); replace bw := Lib.hid (bw.out.up hb19); replace hx := Lib.hid (hx.out.up hb19); replace hz := Lib.hid (hz.out.up hb19); replace bg := Lib.hid (bg.out.up hb19); replace ow := Lib.hid (ow.out.below hb19); replace o4 := Lib.hid (o4.out.below hb19); replace p4 := Lib.hid (p4.out.below hb19); replace q4 := Lib.hid (q4.out.below hb19); replace og := Lib.hid (og.out.below hb19); clear hB0 hB1 hB2 hB3 hB4 hB5 hBl; obtain ⟨hB0, hB1, hB2, hB3, hB4, hB5, -, -, -, -, -, -⟩ := hB.out.six; have hBl := hB.out.lt; clear hC0 hC1 hCl; obtain ⟨hC0, hC1, -, -⟩ := hC.out.two; have hCl := hC.out.lt; clear bw0 bw1 bw2 bw3 bw4 bw5 bw6 bw7 bwl; obtain ⟨bw0, bw1, bw2, bw3, bw4, bw5, bw6, bw7, -, -, -, -, -, -, -, -⟩ := bw.out.eight; have bwl := bw.out.lt; clear hx0 hx1 hx2 hx3 hx4 hx5 hxl; obtain ⟨hx0, hx1, hx2, hx3, hx4, hx5, -, -, -, -, -, -⟩ := hx.out.six; have hxl := hx.out.lt; clear hz0 hz1 hzl; obtain ⟨hz0, hz1, -, -⟩ := hz.out.two; have hzl := hz.out.lt; clear bg0 bg1 bg2 bg3 bg4 bg5 bg6 bg7 bgl; obtain ⟨bg0, bg1, bg2, bg3, bg4, bg5, bg6, bg7, -, -, -, -, -, -, -, -⟩ := bg.out.eight; have bgl := bg.out.lt; have z19 := Lib.hid (show w18.heap.size ≤ w19.heap.size from Nat.le_trans (Nat.le_refl _) hb19.size); replace hb19 := Lib.hid hb19)
      go_wp2_with (go_at_call 16; refine (markSeatOut_one R.b R.o R.s R.q R.t _ R.l R.d R.c _ _ og.out.1).mono ?_; rintro e20 w20 ⟨rfl, ho, hg⟩; replace hW := Lib.hid (og.out.stays hg hW.out (by have := z1.out; have := z2.out; have := z3.out; have := z4.out; have := zg0.out; have := z5.out; have := z6.out; have := z7.out; have := z8.out; have := z9.out; have := z10.out; have := z11.out; have := z12.out; have := z13.out; have := z14.out; have := z15.out; have := z16.out; have := z17.out; have := z18.out; have := z19.out; omega)); replace hB := Lib.hid (og.out.blk hg hB.out (by have := z1.out; have := z2.out; have := z3.out; have := z4.out; have := zg0.out; have := z5.out; have := z6.out; have := z7.out; have := z8.out; have := z9.out; have := z10.out; have := z11.out; have := z12.out; have := z13.out; have := z14.out; have := z15.out; have := z16.out; have := z17.out; have := z18.out; have := z19.out; omega)); replace hC := Lib.hid (og.out.blk hg hC.out (by have := z1.out; have := z2.out; have := z3.out; have := z4.out; have := zg0.out; have := z5.out; have := z6.out; have := z7.out; have := z8.out; have := z9.out; have := z10.out; have := z11.out; have := z12.out; have := z13.out; have := z14.out; have := z15.out; have := z16.out; have := z17.out; have := z18.out; have := z19.out; omega)); replace bw := Lib.hid (og.out.blk hg bw.out (by have := z1.out; have := z2.out; have := z3.out; have := z4.out; have := zg0.out; have := z5.out; have := z6.out; have := z7.out; have := z8.out; have := z9.out; have := z10.out; have := z11.out; have := z12.out; have := z13.out; have := z14.out; have := z15.out; have := z16.out; have := z17.out; have := z18.out; have := z19.out; omega)); replace hx := Lib.hid (og.out.blk hg hx.out (by have := z1.out; have := z2.out; have := z3.out; have := z4.out; have := zg0.out; have := z5.out; have := z6.out; have := z7.out; have := z8.out; have := z9.out; have := z10.out; have := z11.out; have := z12.out; have := z13.out; have := z14.out; have := z15.out; have := z16.out; have := z17.out; have := z18.out; have := z19.out; omega)); replace hz := Lib.hid (og.out.blk hg hz.out (by have := z1.out; have := z2.out; have := z3.out; have := z4.out; have := zg0.out; have := z5.out; have := z6.out; have := z7.out; have := z8.out; have := z9.out; have := z10.out; have := z11.out; have := z12.out; have := z13.out; have := z14.out; have := z15.out; have := z16.out; have := z17.out; have := z18.out; have := z19.out; omega)); replace bg := Lib.hid (og.out.blk hg bg.out (by have := z1.out; have := z2.out; have := z3.out; have := z4.out; have := zg0.out; have := z5.out; have := z6.out; have := z7.out; have := z8.out; have := z9.out; have := z10.out; have := z11.out; have := z12.out; have := z13.out; have := z14.out; have := z15.out; have := z16.out; have := z17.out; have := z18.out; have := z19.out; omega)); replace ow := Lib.hid (ow.out.apart hg og.out (by have := z1.out; have := z2.out; have := z3.out; have := z4.out; have := zg0.out; have := z5.out; have := z6.out; have := z7.out; have := z8.out; have := z9.out; have := z10.out; have := z11.out; have := z12.out; have := z13.out; have := z14.out; have := z15.out; have := z16.out; have := z17.out; have := z18.out; have := z19.out; omega)); replace o4 := Lib.hid (o4.out.apart hg og.out (by have := z1.out; have := z2.out; have := z3.out; have := z4.out; have := zg0.out; have := z5.out; have := z6.out; have := z7.out; have := z8.out; have := z9.out; have := z10.out; have := z11.out; have := z12.out; have := z13.out; have := z14.out; have := z15.out; have := z16.out; have := z17.out; have := z18.out; have := z19.out; omega)); replace p4 := Lib.hid (p4.out.apart hg og.out (by have := z1.out; have := z2.out; have := z3.out; have := z4.out; have := zg0.out; have := z5.out; have := z6.out; have := z7.out; have := z8.out; have := z9.out; have := z10.out; have := z11.out; have := z12.out; have := z13.out; have := z14.out; have := z15.out; have := z16.out; have := z17.out; have := z18.out; have := z19.out; omega)); replace q4 := Lib.hid (q4.out.apart hg og.out (by have := z1.out; have := z2.out; have := z3.out; have := z4.out; have := zg0.out; have := z5.out; have := z6.out; have := z7.out; have := z8.out; have := z9.out; have := z10.out; have := z11.out; have := z12.out; have := z13.out; have := z14.out; have := z15.out; have := z16.out; have := z17.out; have := z18.out; have := z19.out; omega)); have z20 := Lib.hid (show w19.heap.size ≤ w20.heap.size from Nat.le_trans (Nat.le_refl _) hg.size); replace og := Lib.hid (og.out.marked ho); clear ho hg; rw [← hMM.out]; clear hB0 hB1 hB2 hB3 hB4 hB5 hBl; obtain ⟨hB0, hB1, hB2, hB3, hB4, hB5, -, -, -, -, -, -⟩ := hB.out.six; have hBl := hB.out.lt; clear hC0 hC1 hCl; obtain ⟨hC0, hC1, -, -⟩ := hC.out.two; have hCl := hC.out.lt; clear bw0 bw1 bw2 bw3 bw4 bw5 bw6 bw7 bwl; obtain ⟨bw0, bw1, bw2, bw3, bw4, bw5, bw6, bw7, -, -, -, -, -, -, -, -⟩ := bw.out.eight; have bwl := bw.out.lt; clear hx0 hx1 hx2 hx3 hx4 hx5 hxl; obtain ⟨hx0, hx1, hx2, hx3, hx4, hx5, -, -, -, -, -, -⟩ := hx.out.six; have hxl := hx.out.lt; clear hz0 hz1 hzl; obtain ⟨hz0, hz1, -, -⟩ := hz.out.two; have hzl := hz.out.lt; clear bg0 bg1 bg2 bg3 bg4 bg5 bg6 bg7 bgl; obtain ⟨bg0, bg1, bg2, bg3, bg4, bg5, bg6, bg7, -, -, -, -, -, -, -, -⟩ := bg.out.eight; have bgl := bg.out.lt)
      go_wp2_with (go_at_call 17; refine (heldSeatOut_one R.b R.o R.s R.q R.t _ R.l.length R.d R.c _ og.out.ints).mono ?_; rintro e21 w21 ⟨rfl, hb21⟩; replace hW := Lib.hid (Below.then_ hW.out hb21 (Nat.le_refl _)); replace hB := Lib.hid (hB.out.up hb21); replace hC := Lib.hid (hC.out.up hb21); replace bw := Lib.hid (bw.out.up hb21); replace hx := Lib.hid (hx.out.up hb21); replace hz := Lib.hid (hz.out.up hb21); replace bg := Lib.hid (bg.out.up hb21); replace ow := Lib.hid (ow.out.below hb21); replace o4 := Lib.hid (o4.out.below hb21); replace p4 := Lib.hid (p4.out.below hb21); replace q4 := Lib.hid (q4.out.below hb21); replace og := Lib.hid (og.out.below hb21); clear hB0 hB1 hB2 hB3 hB4 hB5 hBl; obtain ⟨hB0, hB1, hB2, hB3, hB4, hB5, -, -, -, -, -, -⟩ := hB.out.six; have hBl := hB.out.lt; clear hC0 hC1 hCl; obtain ⟨hC0, hC1, -, -⟩ := hC.out.two; have hCl := hC.out.lt; clear bw0 bw1 bw2 bw3 bw4 bw5 bw6 bw7 bwl; obtain ⟨bw0, bw1, bw2, bw3, bw4, bw5, bw6, bw7, -, -, -, -, -, -, -, -⟩ := bw.out.eight; have bwl := bw.out.lt; clear hx0 hx1 hx2 hx3 hx4 hx5 hxl; obtain ⟨hx0, hx1, hx2, hx3, hx4, hx5, -, -, -, -, -, -⟩ := hx.out.six; have hxl := hx.out.lt; clear hz0 hz1 hzl; obtain ⟨hz0, hz1, -, -⟩ := hz.out.two; have hzl := hz.out.lt; clear bg0 bg1 bg2 bg3 bg4 bg5 bg6 bg7 bgl; obtain ⟨bg0, bg1, bg2, bg3, bg4, bg5, bg6, bg7, -, -, -, -, -, -, -, -⟩ := bg.out.eight; have bgl := bg.out.lt; have z21 := Lib.hid (show w20.heap.size ≤ w21.heap.size from Nat.le_trans (Nat.le_refl _) hb21.size); rw [← hMM.out]; replace hb21 := Lib.hid hb21)
      go_wp2
      refine wp_region_known_storeY [(.is (.agg #[.bool b, .bool o, .string s, .int .i64 q, .string t, .slice A l.length cap])), (.that (SeatAt b o s q t l) SeatAt.keep), (.is (.int .i64 n)), (.is (.slice A2 m.length cap2)), (.that (SecsAt m) SecsAt.keep), (.is (.agg #[.string x, .slice A3 r.length cap3])), (.that (LabAt x r) LabAt.keep), (.that (OutAt (w21.heap.size) R) OutAt.keep), (.that (BoxAt (w21.heap.size) 34 [.bool false, .bool false, .string ⟨#[]⟩, .int .i64 0, .string ⟨#[]⟩, .slice none 0 0, .int .i64 0, .int .i64 0]) BoxAt.keep)] (fun v W => OutCut (w21.heap.size) R (w21) v W) 8 9 (by decide) (by kernel_rfl) (by kernel_rfl) (by kernel_rfl) (by kernel_rfl) rfl rfl ⟨?_, ?_, ?_, ?_, ?_, ?_, ?_, ?_, ?_, ?_⟩ ?_
      · intro y W next hl hJ hd hn
        refine Or.inl ⟨wanted_free rfl, fun ev ec ef hev => ?_⟩
        have e4 : ev (.tmp 4) = .pointer (some ⟨w.heap.size, 0, none⟩) := hev 4 _ ((hl.2 4 (by kernel_rfl)).trans (by kernel_rfl))
        clear hd hl hev
        obtain ⟨u0, u1, u2, u3, u4, u5, -⟩ := (hB.out.below hJ hB.out.lt).six
        replace hJ := Lib.hid hJ
        go_simp
        exact hn _ _ (Below.refl _ _) rfl
      · intro y W next hl hJ hd hn
        refine Or.inl ⟨wanted_free rfl, fun ev ec ef hev => ?_⟩
        have e100 : ev (.tmp 100) = .agg #[.bool b, .bool o, .string s, .int .i64 q, .string t, .slice A l.length cap] := hev 100 _ ((hl.1 0 100 (by kernel_rfl) (by kernel_rfl)).trans (congrArg some (show y 0 = .agg #[.bool b, .bool o, .string s, .int .i64 q, .string t, .slice A l.length cap] from hd 0 (by kernel_rfl))))
        clear hd hl hev
        replace hJ := Lib.hid hJ
        go_simp
        refine (toSeat_any b o s q t _ l _ (hv0.out.below (Below.then_ hW.out hJ.out (Nat.le_refl _)))).mono ?_
        rintro e w' ⟨A, cap, rfl, ho, hb⟩
        exact ⟨_, rfl, hn _ _ hb ⟨A, cap, rfl, ho.ints⟩⟩
      · intro y W next hl hJ hd hn
        refine Or.inl ⟨wanted_free rfl, fun ev ec ef hev => ?_⟩
        have e1 : ev (.tmp 1) = .int .i64 n := hev 1 _ ((hl.2 1 (by kernel_rfl)).trans (by kernel_rfl))
        clear hd hl hev
        replace hJ := Lib.hid hJ
        go_simp
        exact hn _ _ (Below.refl _ _) rfl
      · intro y W next hl hJ hd hn
        refine Or.inl ⟨wanted_free rfl, fun ev ec ef hev => ?_⟩
        have e2 : ev (.tmp 2) = .slice A2 m.length cap2 := hev 2 _ ((hl.2 2 (by kernel_rfl)).trans (by kernel_rfl))
        clear hd hl hev
        replace hJ := Lib.hid hJ
        go_simp
        exact hn _ _ (Below.refl _ _) rfl
      · intro y W next hl hJ hd hn
        refine Or.inl ⟨wanted_free rfl, fun ev ec ef hev => ?_⟩
        have e103 : ev (.tmp 103) = .slice A2 m.length cap2 := hev 103 _ ((hl.1 3 103 (by kernel_rfl) (by kernel_rfl)).trans (congrArg some (show y 3 = .slice A2 m.length cap2 from hd 3 (by kernel_rfl))))
        clear hd hl hev
        replace hJ := Lib.hid hJ
        go_simp
        refine (toSecs_any _ m _ (hu0.out.below (Below.then_ hW.out hJ.out (Nat.le_refl _))) hml).mono ?_
        rintro e w' ⟨V4, rfl, ho, hb⟩
        exact ⟨_, rfl, hn _ _ hb ho.secs⟩
      · intro y W next hl hJ hd hn
        refine Or.inl ⟨wanted_free rfl, fun ev ec ef hev => ?_⟩
        have e7 : ev (.tmp 7) = .pointer (some ⟨w.heap.size + 1, 0, none⟩) := hev 7 _ ((hl.2 7 (by kernel_rfl)).trans (by kernel_rfl))
        clear hd hl hev
        obtain ⟨u0, u1, -⟩ := (hC.out.below hJ hC.out.lt).two
        replace hJ := Lib.hid hJ
        go_simp
        exact hn _ _ (Below.refl _ _) rfl
      · intro y W next hl hJ hd hn
        refine Or.inl ⟨wanted_free rfl, fun ev ec ef hev => ?_⟩
        have e105 : ev (.tmp 105) = .agg #[.string x, .slice A3 r.length cap3] := hev 105 _ ((hl.1 5 105 (by kernel_rfl) (by kernel_rfl)).trans (congrArg some (show y 5 = .agg #[.string x, .slice A3 r.length cap3] from hd 5 (by kernel_rfl))))
        clear hd hl hev
        replace hJ := Lib.hid hJ
        go_simp
        refine (toLab_any x _ r _ (hr0.out.below (Below.then_ hW.out hJ.out (Nat.le_refl _)))).mono ?_
        rintro e w' ⟨A, cap, rfl, ho, hb⟩
        exact ⟨_, rfl, hn _ _ hb ⟨A, cap, rfl, ho.ints⟩⟩
      · intro y W next hl hJ hd hn
        refine Or.inl ⟨wanted_free rfl, fun ev ec ef hev => ?_⟩
        have d101 : SeatAt b o s q t l (y 1) W := hd 1 (by kernel_rfl)
        have e101 := hev 101 _ (hl.1 1 101 (by kernel_rfl) (by kernel_rfl))
        obtain ⟨A101, c101, f101, i101⟩ := d101
        rw [f101] at e101
        have e102 : ev (.tmp 102) = .int .i64 n := hev 102 _ ((hl.1 2 102 (by kernel_rfl) (by kernel_rfl)).trans (congrArg some (show y 2 = .int .i64 n from hd 2 (by kernel_rfl))))
        have d104 : SecsAt m (y 4) W := hd 4 (by kernel_rfl)
        have e104 := hev 104 _ (hl.1 4 104 (by kernel_rfl) (by kernel_rfl))
        have d106 : LabAt x r (y 6) W := hd 6 (by kernel_rfl)
        have e106 := hev 106 _ (hl.1 6 106 (by kernel_rfl) (by kernel_rfl))
        obtain ⟨A106, c106, f106, i106⟩ := d106
        rw [f106] at e106
        clear hd hl hev
        replace hJ := Lib.hid hJ
        go_simp
        refine (hIM.out _ _ _ _ i101 d104 i106 (hg0.out.below (Below.then_ hW.out hJ.out (Nat.le_refl _))) (hh0.out.below (Below.then_ hW.out hJ.out (Nat.le_refl _)))).mono ?_
        rintro e w' ⟨A, cap, rfl, ho, hb⟩
        exact ⟨_, rfl, hn _ _ hb ⟨A, cap, rfl, ho.mono hJ.out.size⟩⟩
      · intro y W next hl hJ hd hn
        refine Or.inl ⟨wanted_free rfl, fun ev ec ef hev => ?_⟩
        clear hd hl hev
        replace hJ := Lib.hid hJ
        go_simp
        exact hn _ _ ((Below.refl _ _).alloc (Nat.le_refl _) _) ⟨_, rfl, hJ.out.size, heap_alloc_new W _⟩
      · intro y W hl hJ hd
        refine ⟨wanted_free rfl, fun ev ec ef hev => ?_⟩
        have d18 : BoxAt (w21.heap.size) 34 [.bool false, .bool false, .string ⟨#[]⟩, .int .i64 0, .string ⟨#[]⟩, .slice none 0 0, .int .i64 0, .int .i64 0] (y 8) W := hd 8 (by kernel_rfl)
        have e18 := hev 18 _ (hl.1 8 18 (by kernel_rfl) (by kernel_rfl))
        obtain ⟨gb, f18, gl, hbx⟩ := d18
        rw [f18] at e18
        have d107 : OutAt (w21.heap.size) R (y 7) W := hd 7 (by kernel_rfl)
        have e107 := hev 107 _ (hl.1 7 107 (by kernel_rfl) (by kernel_rfl))
        obtain ⟨A107, c107, f107, i107⟩ := d107
        rw [f107] at e107
        clear hd hl hev
        obtain ⟨u0, u1, u2, u3, u4, u5, u6, u7, uf0, uf1, uf2, uf3, uf4, uf5, uf6, uf7⟩ := hbx.eight
        have gx := hbx.lt
        have hfin := Lib.hid (OutCut.of gl hbx rfl i107 hJ (own_not_box i107 hbx (by decide)) hJ.size)
        replace hJ := Lib.hid hJ
        replace i107 := Lib.hid i107
        go_simp
        exact hfin.out
      intro y w22 hA
      obtain ⟨g8, A8, cap8, hy, hgl8, bh, oh, hb22⟩ := hA
      have zg8 := Lib.hid hgl8
      have z22 := Lib.hid (show w21.heap.size ≤ w22.heap.size from Nat.le_trans (Nat.le_refl _) hb22.size)
      replace hW := Lib.hid (Below.then_ hW.out hb22 (Nat.le_refl _))
      replace hB := Lib.hid (hB.out.up hb22)
      replace hC := Lib.hid (hC.out.up hb22)
      replace bw := Lib.hid (bw.out.up hb22)
      replace hx := Lib.hid (hx.out.up hb22)
      replace hz := Lib.hid (hz.out.up hb22)
      replace bg := Lib.hid (bg.out.up hb22)
      replace ow := Lib.hid (ow.out.below hb22)
      replace o4 := Lib.hid (o4.out.below hb22)
      replace p4 := Lib.hid (p4.out.below hb22)
      replace q4 := Lib.hid (q4.out.below hb22)
      replace og := Lib.hid (og.out.below hb22)
      replace bh := Lib.hid bh
      replace oh := Lib.hid oh
      clear hb22 hgl8
      simp only [lay_cons, lay_nil]
      rw [hy]
      clear hy
      simp only [Act.put, List.setIfInBounds_toArray]
      simp only [List.set_cons_succ, List.set_cons_zero]
      clear hB0 hB1 hB2 hB3 hB4 hB5 hBl
      obtain ⟨hB0, hB1, hB2, hB3, hB4, hB5, -, -, -, -, -, -⟩ := hB.out.six; have hBl := hB.out.lt
      clear hC0 hC1 hCl
      obtain ⟨hC0, hC1, -, -⟩ := hC.out.two; have hCl := hC.out.lt
      clear bw0 bw1 bw2 bw3 bw4 bw5 bw6 bw7 bwl
      obtain ⟨bw0, bw1, bw2, bw3, bw4, bw5, bw6, bw7, -, -, -, -, -, -, -, -⟩ := bw.out.eight; have bwl := bw.out.lt
      clear hx0 hx1 hx2 hx3 hx4 hx5 hxl
      obtain ⟨hx0, hx1, hx2, hx3, hx4, hx5, -, -, -, -, -, -⟩ := hx.out.six; have hxl := hx.out.lt
      clear hz0 hz1 hzl
      obtain ⟨hz0, hz1, -, -⟩ := hz.out.two; have hzl := hz.out.lt
      clear bg0 bg1 bg2 bg3 bg4 bg5 bg6 bg7 bgl
      obtain ⟨bg0, bg1, bg2, bg3, bg4, bg5, bg6, bg7, -, -, -, -, -, -, -, -⟩ := bg.out.eight; have bgl := bg.out.lt
      obtain ⟨bh0, bh1, bh2, bh3, bh4, bh5, bh6, bh7, -, -, -, -, -, -, -, -⟩ := bh.out.eight; have bhl := bh.out.lt
      go_wp2_with (go_at_call 11; refine (eqSeatOut_same R.b R.o R.s R.q R.t _ _ R.l R.d R.c _ oh.out.ints ow.out.ints).mono ?_; rintro e23 w23 ⟨rfl, hb23⟩; replace hW := Lib.hid (Below.then_ hW.out hb23 (Nat.le_refl _)); replace hB := Lib.hid (hB.out.up hb23); replace hC := Lib.hid (hC.out.up hb23); replace bw := Lib.hid (bw.out.up hb23); replace hx := Lib.hid (hx.out.up hb23); replace hz := Lib.hid (hz.out.up hb23); replace bg := Lib.hid (bg.out.up hb23); replace bh := Lib.hid (bh.out.up hb23); replace ow := Lib.hid (ow.out.below hb23); replace o4 := Lib.hid (o4.out.below hb23); replace p4 := Lib.hid (p4.out.below hb23); replace q4 := Lib.hid (q4.out.below hb23); replace og := Lib.hid (og.out.below hb23); replace oh := Lib.hid (oh.out.below hb23); clear hB0 hB1 hB2 hB3 hB4 hB5 hBl; obtain ⟨hB0, hB1, hB2, hB3, hB4, hB5, -, -, -, -, -, -⟩ := hB.out.six; have hBl := hB.out.lt; clear hC0 hC1 hCl; obtain ⟨hC0, hC1, -, -⟩ := hC.out.two; have hCl := hC.out.lt; clear bw0 bw1 bw2 bw3 bw4 bw5 bw6 bw7 bwl; obtain ⟨bw0, bw1, bw2, bw3, bw4, bw5, bw6, bw7, -, -, -, -, -, -, -, -⟩ := bw.out.eight; have bwl := bw.out.lt; clear hx0 hx1 hx2 hx3 hx4 hx5 hxl; obtain ⟨hx0, hx1, hx2, hx3, hx4, hx5, -, -, -, -, -, -⟩ := hx.out.six; have hxl := hx.out.lt; clear hz0 hz1 hzl; obtain ⟨hz0, hz1, -, -⟩ := hz.out.two; have hzl := hz.out.lt; clear bg0 bg1 bg2 bg3 bg4 bg5 bg6 bg7 bgl; obtain ⟨bg0, bg1, bg2, bg3, bg4, bg5, bg6, bg7, -, -, -, -, -, -, -, -⟩ := bg.out.eight; have bgl := bg.out.lt; clear bh0 bh1 bh2 bh3 bh4 bh5 bh6 bh7 bhl; obtain ⟨bh0, bh1, bh2, bh3, bh4, bh5, bh6, bh7, -, -, -, -, -, -, -, -⟩ := bh.out.eight; have bhl := bh.out.lt; have z23 := Lib.hid (show w22.heap.size ≤ w23.heap.size from Nat.le_trans (Nat.le_refl _) hb23.size); replace hb23 := Lib.hid hb23)
      go_wp2_with (go_at_call 17; refine (heldSeatOut_one R.b R.o R.s R.q R.t _ R.l.length R.d R.c _ og.out.ints).mono ?_; rintro e24 w24 ⟨rfl, hb24⟩; replace hW := Lib.hid (Below.then_ hW.out hb24 (Nat.le_refl _)); replace hB := Lib.hid (hB.out.up hb24); replace hC := Lib.hid (hC.out.up hb24); replace bw := Lib.hid (bw.out.up hb24); replace hx := Lib.hid (hx.out.up hb24); replace hz := Lib.hid (hz.out.up hb24); replace bg := Lib.hid (bg.out.up hb24); replace bh := Lib.hid (bh.out.up hb24); replace ow := Lib.hid (ow.out.below hb24); replace o4 := Lib.hid (o4.out.below hb24); replace p4 := Lib.hid (p4.out.below hb24); replace q4 := Lib.hid (q4.out.below hb24); replace og := Lib.hid (og.out.below hb24); replace oh := Lib.hid (oh.out.below hb24); clear hB0 hB1 hB2 hB3 hB4 hB5 hBl; obtain ⟨hB0, hB1, hB2, hB3, hB4, hB5, -, -, -, -, -, -⟩ := hB.out.six; have hBl := hB.out.lt; clear hC0 hC1 hCl; obtain ⟨hC0, hC1, -, -⟩ := hC.out.two; have hCl := hC.out.lt; clear bw0 bw1 bw2 bw3 bw4 bw5 bw6 bw7 bwl; obtain ⟨bw0, bw1, bw2, bw3, bw4, bw5, bw6, bw7, -, -, -, -, -, -, -, -⟩ := bw.out.eight; have bwl := bw.out.lt; clear hx0 hx1 hx2 hx3 hx4 hx5 hxl; obtain ⟨hx0, hx1, hx2, hx3, hx4, hx5, -, -, -, -, -, -⟩ := hx.out.six; have hxl := hx.out.lt; clear hz0 hz1 hzl; obtain ⟨hz0, hz1, -, -⟩ := hz.out.two; have hzl := hz.out.lt; clear bg0 bg1 bg2 bg3 bg4 bg5 bg6 bg7 bgl; obtain ⟨bg0, bg1, bg2, bg3, bg4, bg5, bg6, bg7, -, -, -, -, -, -, -, -⟩ := bg.out.eight; have bgl := bg.out.lt; clear bh0 bh1 bh2 bh3 bh4 bh5 bh6 bh7 bhl; obtain ⟨bh0, bh1, bh2, bh3, bh4, bh5, bh6, bh7, -, -, -, -, -, -, -, -⟩ := bh.out.eight; have bhl := bh.out.lt; have z24 := Lib.hid (show w23.heap.size ≤ w24.heap.size from Nat.le_trans (Nat.le_refl _) hb24.size); rw [← hMM.out]; replace hb24 := Lib.hid hb24)
      go_ret
      exact ⟨rfl, hW.out⟩
    · have hW2 := hW
      go_wp2_with (go_at_call 18; refine (szLab_out x A3 len3 cap3 rr _ hin2 r0 (by omega) hl3 hxm).mono ?_; rintro e3 w3 ⟨rfl, hb3⟩; replace hW := Lib.hid (Below.then_ hW.out hb3 (Nat.le_refl _)); clear hb3)
      go_ret
      exact ⟨rfl, hW.out⟩
theorem walk (b o : Bool) (s : ByteArray) (hs : s.size ≤ maxLen) (q : Int) (_hq : -9223372036854775808 ≤ q ∧ q ≤ 9223372036854775807) (t : ByteArray) (ht : t.size ≤ maxLen) (A : Option Addr) (len cap : Nat) (hl : len ≤ maxLen) (n : Int) (_hn : (Lit.int .i64 n).wf = true) (A2 : Option Addr) (len2 cap2 : Nat) (m : List Sec) (x : ByteArray) (hx : x.size ≤ maxLen) (A3 : Option Addr) (len3 cap3 : Nat) (hl3 : len3 ≤ maxLen) (w : World) (hI : len ≤ 1048576 → ∃ l : List Int, l.length = len ∧ Ints w (.slice A len cap) l) (el : m.length = len2) (hu : Secs w (.slice A2 len2 cap2) m) (hI3 : len3 ≤ 1048576 → ∃ r : List Int, r.length = len3 ∧ Ints w (.slice A3 len3 cap3) r) (hg : Four w) (hh : HandleAt 1 w) :
    Calls Tryd.prog 4 #[.agg #[.bool b, .bool o, .string s, .int .i64 q, .string t, .slice A len cap], .int .i64 n, .slice A2 len2 cap2, .agg #[.string x, .slice A3 len3 cap3]] w fun e w' => e = .returned (.bool true) ∧ Below w.heap.size w w' := by
  by_cases h : s.size + (t.size + len) ≤ 1048576
  · obtain ⟨l, rfl, hv⟩ := hI (by omega)
    subst el
    exact walkIn b o s q t A l cap n A2 m cap2 x hx A3 len3 cap3 hl3 w h hv hu hI3 hg hh
  · exact walk_big b o s q t hs ht A len cap hl n A2 len2 cap2 x A3 len3 cap3 w h

theorem own : ownKnob Tryd.prog.godebug = none := by kernel_rfl
theorem laidOut : laidOutB Tryd.prog = true := by kernel_rfl
theorem tabAt : Tryd.prog.globalNamed "loop.example/g00752/impl.secretMarks" = some 0 := by kernel_rfl
theorem tabType : (Tryd.prog.globals[0]?).map (·.type) = some 89 := by kernel_rfl
theorem tabCells : Tryd.prog.cellsOf 89 = 4 := by kernel_rfl
theorem oneCell : Tryd.prog.cellsOf 2 = 1 := by kernel_rfl
/-- What the variable's cells hold. -/
def tabRow : Array Value := #[.int .i64 1, .int .i64 2, .int .i64 4, .int .i64 8]
abbrev tabData {H : Type} : DataW H := .agg [.lit (.int .i64 1), .lit (.int .i64 2), .lit (.int .i64 4), .lit (.int .i64 8)]
theorem tab_reads {H : Type} (enc : TypeId × Value → H) (W : World) (sp : Nat → Bool) : DataW.trod enc Tryd.prog W 0 sp true 3 89 tabRow.toList = some (tabData, []) := by kernel_rfl
/-- An array of 4 numbers that reads as the table holds just those. -/
theorem tab_of_trod {H : Type} {enc : TypeId × Value → H} {W : World} {base : Nat} {sp : Nat → Bool} {held : Bool} {fuel : Nat} {cs : List Value} {p : List MemPlace}
    (h : DataW.trod enc Tryd.prog W base sp held fuel 89 cs = some (tabData, p)) : cs = tabRow.toList := by
  cases fuel with
  | zero => simp [DataW.trod] at h
  | succ fuel =>
    simp only [DataW.trod, Tryd.underlying89, tabCells, oneCell] at h
    split at h
    · rename_i hl
      obtain ⟨c0, c1, c2, c3, rfl⟩ : ∃ c0 c1 c2 c3, cs = [c0, c1, c2, c3] := by
        match cs, hl with
        | [x0, x1, x2, x3], _ => exact ⟨x0, x1, x2, x3, rfl⟩
      have e : List.range 4 = [0, 1, 2, 3] := rfl
      rw [e] at h
      simp only [Option.map_eq_some_iff, List.mapM_cons, List.mapM_nil, Option.bind_eq_bind, Option.bind_eq_some_iff, Option.pure_def, Option.some.injEq] at h
      obtain ⟨xs, ⟨y0, h0, _, ⟨y1, h1, _, ⟨y2, h2, _, ⟨y3, h3, _, rfl, rfl⟩, rfl⟩, rfl⟩, rfl⟩, hx⟩ := h
      obtain ⟨n0, e0, z0, _⟩ := DataW.trod_int Tryd.underlying2 h0
      obtain ⟨n1, e1, z1, _⟩ := DataW.trod_int Tryd.underlying2 h1
      obtain ⟨n2, e2, z2, _⟩ := DataW.trod_int Tryd.underlying2 h2
      obtain ⟨n3, e3, z3, _⟩ := DataW.trod_int Tryd.underlying2 h3
      simp [tabData, z0, z1, z2, z3] at hx
      simp at e0 e1 e2 e3
      obtain ⟨⟨rfl, rfl, rfl, rfl⟩, _⟩ := hx
      subst e0 e1 e2 e3
      rfl
    · cases h
theorem tab_of_laid {W : World} (h : laidMetH Tryd.prog Rows.fnExactSayRow.laid W) : W.var? Tryd.prog "loop.example/g00752/impl.secretMarks" = some tabRow := by
  have h' : laidMet Tryd.prog [("loop.example/g00752/impl.secretMarks", tabData)] W ∧ handlesMet Tryd.prog [("errors.errorType", Rows.laid_errors_errorType)] W := h
  obtain ⟨ps, ⟨g, t, cs, fuel, p, q, hg, ht, hvar, hd, _, _⟩, _⟩ := h'.1
  obtain rfl := Option.some.inj (tabAt.symm.trans hg)
  obtain rfl := Option.some.inj (tabType.symm.trans ht)
  rw [hvar]
  congr 1
  obtain ⟨l⟩ := cs
  exact congrArg List.toArray (tab_of_trod hd)
theorem et : Tryd.prog.globalNamed "errors.errorType" = some 1 := by kernel_rfl
theorem rt : (Tryd.prog.cutTypes.find? (·.1 == "internal/reflectlite.rtype")).map (·.2) = some 121 := by kernel_rfl
theorem oneRow : ((List.range 172).filter fun t => Tryd.prog.rowNamed t [101, 114, 114, 111, 114]) = [72] := by kernel_rfl
theorem size : Tryd.prog.types.size = 172 := by kernel_rfl
/-- What the condition gives a walk: the variable's one cell. -/
theorem handle_of_laid {W : World} (h : laidMetH Tryd.prog Rows.fnExactSayRow.laid W) : HandleAt 1 W := by
  have h' : laidMet Tryd.prog [("loop.example/g00752/impl.secretMarks", tabData)] W ∧ handlesMet Tryd.prog [("errors.errorType", Rows.laid_errors_errorType)] W := h
  obtain ⟨name, u, ty, e1, e2, e3, e4, e5⟩ := h'.2 _ (List.mem_singleton.2 rfl)
  have en : name = [101, 114, 114, 111, 114] := (Option.some.inj e1).symm
  subst en
  obtain rfl := Option.some.inj (rt.symm.trans e2)
  have hm : ty ∈ (List.range 172).filter fun t => Tryd.prog.rowNamed t [101, 114, 114, 111, 114] := List.mem_filter.2 ⟨List.mem_range.2 (by rw [← size]; exact e3), e4⟩
  rw [oneRow] at hm
  obtain rfl := List.mem_singleton.1 hm
  have hh : typeHandle Tryd.prog 72 = .pointer (some ⟨2, 72, none⟩) := by kernel_rfl
  rw [hh] at e5
  simpa [HandleAt] using World.var?_cell et e5 0
/-- A world that meets the condition: the settled one, the variables' cells laid. -/
noncomputable def laidWorld (os : Os) : World :=
  let w0 := World.holding Tryd.prog os ⟨#[], #[], []⟩
  { w0 with heap := (w0.heap.modify 0 fun
      | .cells _ t frozen => .cells tabRow t frozen
      | o => o).modify 1 fun
      | .cells _ t frozen => .cells #[.iface 121 (.agg #[.pointer (some ⟨2, 72, none⟩)])] t frozen
      | o => o }
theorem laidWorld_met (os : Os) (args : Array Value) : laidMetH Tryd.prog Rows.fnExactSayRow.laid ((laidWorld os).forCall (fun _ _ => 0) ⟨#[], args, []⟩).memory :=
  laidMetH_of_parts (show laidMet Tryd.prog [("loop.example/g00752/impl.secretMarks", tabData)] _ from laidMet_of_run' 8 (by kernel_rfl) (by kernel_rfl)) (by kernel_rfl)

set_option maxRecDepth 100000 in
theorem lifted (os : Os) (started : os.Started) (H : Type) (enc : TypeId × Value → H) :
    ReturnsInHanded {} Tryd.checked os 4 .any (fun w args => (Rows.fnExactSaySpec.pre enc Tryd.prog Tryd.f4 [] false w args ∧ laidMetH Tryd.prog Rows.fnExactSayRow.laid w) ∧ sizedMet enc Tryd.prog Tryd.f4 (OpenSpec.ofChange Rows.fnExactSaySpec) false w args)
      (Rows.fnExactSaySpec.post enc Tryd.prog Tryd.f4 false true false false) := by
  refine returnsInHanded_of_change_and (C := Tryd.checked) (X := fun w _ => laidMetH Tryd.prog Rows.fnExactSayRow.laid w) (fun _ _ _ hh h => h.of_heap hh) own started (by kernel_rfl) Tryd.func4
    (ChangeSpec.witness_at (enc := enc) (C := Tryd.checked) (os := os) (X := fun w _ => laidMetH Tryd.prog Rows.fnExactSayRow.laid w) false (laidWorld os) #[.agg #[.bool false, .bool false, .string ByteArray.empty, .int .i64 0, .string ByteArray.empty, .slice none 0 0], .int .i64 0, .slice none 0 0, .agg #[.string ByteArray.empty, .slice none 0 0]] 8 rfl (by kernel_rfl) (by kernel_rfl) (by kernel_rfl) (by kernel_rfl) (by kernel_rfl) (laidWorld_met os _)) ?_
  intro W base args ds gs before hval0 hW _ _ hL _
  have hval : ∀ (j : Nat) t v, Tryd.f4.params[j]? = some t → args[j]? = some v → Value.okWide Tryd.prog W .any base t v := hval0
  have hW' := hW
  obtain ⟨p, q, hA0, hV0, rfl, hfz, hnd⟩ := hW
  have hA : DataW.TrodAll enc Tryd.prog W 0 (fun _ => true) true Tryd.f4.params.toList args.toList ds p := hA0
  have hV : DataW.TrodVars enc Tryd.prog W (fun _ => true) ["loop.example/g00752/impl.secretMarks"] gs q := hV0
  rw [Tryd.params4] at hA hval
  obtain ⟨v0, vs0, d0, ds0, p0, q0, hargs, rfl, rfl, h0, r0⟩ := trodAll_cons hA
  obtain ⟨v1, vs1, d1, ds1, p1, q1, rfl, rfl, rfl, h1, r1⟩ := trodAll_cons r0
  obtain ⟨v2, vs2, d2, ds2, p2, q2, rfl, rfl, rfl, h2, r2⟩ := trodAll_cons r1
  obtain ⟨v3, vs3, d3, ds3, p3, q3, rfl, rfl, rfl, h3, r3⟩ := trodAll_cons r2
  obtain ⟨rfl, rfl, rfl⟩ := trodAll_nil r3
  obtain rfl : args = #[v0, v1, v2, v3] := by cases args; simp_all
  obtain ⟨g, t, cs, fuel, d, p', rfl, hgn, htn, hvar, hd, rfl⟩ := trodVars_one hV
  obtain rfl := Option.some.inj (tabAt.symm.trans hgn)
  obtain rfl := Option.some.inj (tabType.symm.trans htn)
  obtain rfl : cs = tabRow := Option.some.inj (hvar.symm.trans (tab_of_laid hL))
  obtain ⟨rfl, rfl⟩ := DataW.Trod.unique (v := .agg tabRow) ⟨fuel, hd⟩ ⟨3, tab_reads enc W _⟩
  have k0 := h0
  have lt0 : ∀ x ∈ p0, x.block < W.heap.size := by obtain ⟨m, hm⟩ := k0; exact DataW.trod_lt m _ _ _ hm
  obtain ⟨b0, o0, s0, n0, t0, A0, len0, cap0, rfl, w0, z0, u0, hm0, hI0⟩ := seat_open (hval 0 26 v0 rfl rfl) h0
  obtain ⟨a1, rfl, rfl, rfl, w1⟩ := open_int Tryd.underlying2 (hval 1 2 v1 rfl rfl) h1
  obtain ⟨a2, len2, cap2, rfl⟩ := okWide_slice Tryd.underlying27 (hval 2 27 v2 rfl rfl)
  have k2 := h2
  have lt2 : ∀ x ∈ p2, x.block < W.heap.size := by obtain ⟨m, hm⟩ := k2; exact DataW.trod_lt m _ _ _ hm
  obtain ⟨l2, e2, w2⟩ := secs_open h2
  have k3 := h3
  have lt3 : ∀ x ∈ p3, x.block < W.heap.size := by obtain ⟨m, hm⟩ := k3; exact DataW.trod_lt m _ _ _ hm
  obtain ⟨c3a, c3b, y3a, y3b, m3, rfl, rfl, rfl, hy3a, hy3b⟩ := Joins.open_agg2 Tryd.underlying24 (by kernel_rfl) (by kernel_rfl) (hval 3 24 v3 rfl rfl) h3
  obtain ⟨a3, e3, _, w3⟩ := DataW.trod_string Tryd.underlying9 hy3a
  simp at e3
  subst e3
  obtain ⟨A3, len3, cap3, eb3, hm3, hI3⟩ : ∃ A len cap, c3b = .slice A len cap ∧ len ≤ maxLen ∧ (len ≤ 1048576 → ∃ l, l.length = len ∧ Ints W (.slice A len cap) l) := by
    rcases open_ints Tryd.underlying22 Tryd.underlying2 (by kernel_rfl) hy3b with ⟨hcs, _⟩ | ⟨x, l, c, zs, hcs, _, hl, hm, hz, _, hcell, hwz⟩
    · simp at hcs
      exact ⟨none, 0, 0, hcs, Nat.zero_le _, fun _ => ⟨[], rfl, (OwnInts.nil W 0).ints⟩⟩
    · simp at hcs
      refine ⟨some x, l, c, hcs, Nat.le_trans hl hm, fun h => ⟨zs.take l, ?_, ints_of_row ?_ hl hcell h⟩⟩
      · rw [List.length_take]; simp at hz; omega
      · simp at hz; omega
  subst eb3
  have hg : Four W := ⟨World.var?_cell tabAt hvar 0, World.var?_cell tabAt hvar 1, World.var?_cell tabAt hvar 2, World.var?_cell tabAt hvar 3⟩
  have hh := handle_of_laid hL
  clear hA0 hval0
  refine (walk b0 o0 s0 w0 n0 z0 t0 u0 A0 len0 cap0 hm0 a1 w1 a2 len2 cap2 l2 a3 w3 A3 len3 cap3 hm3 W hI0 e2 w2 hI3 hg hh).mono fun e W' ⟨he, bel⟩ => ?_
  subst he
  have hvar' : W'.var? Tryd.prog "loop.example/g00752/impl.secretMarks" = some tabRow := var?_below bel tabAt hg.pos hvar
  exact ⟨_, rfl, _, _, _, [], _, _, hW', trodAll_mk1 (shut_bool Tryd.underlying4 _), (trodAll_cons_mk (Below.trod laidOut (by kernel_rfl) (of_decide_eq_true (by kernel_rfl)) k0 bel lt0) (trodAll_cons_mk (shut_int Tryd.underlying2 w1) (trodAll_cons_mk (Below.trod laidOut (by kernel_rfl) (of_decide_eq_true (by kernel_rfl)) k2 bel lt2) (trodAll_cons_mk (Below.trod laidOut (by kernel_rfl) (of_decide_eq_true (by kernel_rfl)) k3 bel lt3) trodAll_mk0)))), trodVars_mk1 tabAt tabType hvar' (tab_reads enc W' _), bel.frame _, fun h => by cases h⟩

theorem over : Rows.fnExactSayRow.holds Tryd.pinned (OpenSpec.ofChange Rows.fnExactSaySpec) :=
  OpenClaim.holds_of_wide 4 Tryd.f4 rfl rfl rfl rfl rfl rfl rfl ⟨rfl, rfl, rfl, rfl, rfl⟩ rfl rfl rfl rfl rfl (by kernel_rfl) Tryd.func4 (by kernel_rfl)
    (of_decide_eq_true (by kernel_rfl)) (by unfold Func.isWrapper; first | (rw [if_pos (by decide +kernel)]; kernel_rfl) | (rw [if_neg (by decide +kernel)]; exact ⟨rfl, rfl⟩))
    (fun os started H enc _ => lifted os started H enc)

theorem wants (j : Nat) (t : TypeId) (ht : Tryd.f4.params[j]? = some t) : Tryd.prog.wantsStandIn t = false := by
  rw [Tryd.params4] at ht
  match j, ht with
  | 0, ht => exact (show t = 26 from (Option.some.inj ht).symm) ▸ (show Tryd.prog.wantsStandIn 26 = false by kernel_rfl)
  | 1, ht => exact (show t = 2 from (Option.some.inj ht).symm) ▸ (show Tryd.prog.wantsStandIn 2 = false by kernel_rfl)
  | 2, ht => exact (show t = 27 from (Option.some.inj ht).symm) ▸ (show Tryd.prog.wantsStandIn 27 = false by kernel_rfl)
  | 3, ht => exact (show t = 24 from (Option.some.inj ht).symm) ▸ (show Tryd.prog.wantsStandIn 24 = false by kernel_rfl)
  | j + 4, ht => simp at ht
theorem proved : Rows.FnExactSayCardSaid :=
  Claim7.holds_tied_plain_at .later [] _ _ _ _
    over (fun _ h => by cases h) (by kernel_rfl) (fun _ h => by cases h) fnExactSay_row_tie rfl ⟨rfl, rfl⟩ (by kernel_rfl) rfl
    (fun f fn hf hfn => by
      obtain rfl : f = 4 := Option.some.inj ((show Tryd.prog.funcNamed "loop.example/g00752/laws.FnExactSay" = some 4 by kernel_rfl).symm.trans hf) |>.symm
      obtain rfl : fn = Tryd.f4 := (Option.some.inj (Tryd.func4.symm.trans hfn)).symm
      exact ⟨by kernel_rfl, wants⟩)
    (by kernel_rfl)
#print axioms proved

end Go.Proofs.YtajnligcngekcaaDoor.fnExactSay
