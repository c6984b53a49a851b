/- Hear of the program answers as that of the model, at every seat, number, list of secrets and text; its answer owns its memory, and no argument is written. One condition, tied to the program's text by the card: the package variable secretMarks holds 1, 2, 4, 8. -/
import Derived.Test.YtajnligcngekcaaDoorRows
import Derived.Test.YtajnligcngekcaaDoorCards
import Derived.Test.YtajnligcngekcaaDoorTie
import Derived.WalkKit
import Derived.ProofKit
import Derived.OpenShut
import Derived.ShutString
import Derived.ChangeOld
import Derived.Below
import Derived.ChangeSame
import Derived.ChangeVars
import Derived.JoinedOf
import Derived.RowKit
import Derived.RowKitTokens
import Derived.LaidLaws
import Derived.LaidHandle
import Derived.WalkSmall
import Derived.Stop.Joined
import Derived.SevenTiedAt
import Derived.Lib.SmallJoins
import Derived.Deep.RegionHeld3
import Derived.Test.YtajnligcngekcaaDoorSeatJ
import Derived.Test.YtajnligcngekcaaDoorSeatV
namespace Go.Proofs.YtajnligcngekcaaDoor.fnExactHear
open Go.ChangeShapes Go.WideShapes Go.ChangeAt Go.RowKit
open Go.ChangeMaps (open_string shut_string)
set_option linter.unusedVariables false

set_option maxHeartbeats 4000000 in
theorem walk_long (b o : Bool) (s : ByteArray) (q : Int) (t : ByteArray) (A : Option Addr) (len cap : Nat) (n : Int) (A2 : Option Addr) (len2 cap2 : Nat) (x : ByteArray) (hx : x.size ≤ maxLen) (w : World) (hbig : ¬ x.size ≤ 1048576) :
    Calls Tryd.prog 3 #[.agg #[.bool b, .bool o, .string s, .int .i64 q, .string t, .slice A len cap], .int .i64 n, .slice A2 len2 cap2, .string x] w fun e w' => e = .returned (.bool true) ∧ Below w.heap.size w w' := by
  have hb1 : (1048576 : Int) < (x.size : Int) := by omega
  have hb2 : (x.size : Int) ≤ 9223372036854775807 := by unfold maxLen at hx; omega
  clear hbig
  go_enter Tryd.func3, Tryd.ntmps3
  go_wp2
  go_ret
  exact ⟨rfl, (Below.refl _ _).alloc (Nat.le_refl _) _⟩
set_option maxHeartbeats 4000000 in
theorem walk_big (b o : Bool) (s : ByteArray) (q : Int) (t : ByteArray) (hs : s.size ≤ maxLen) (ht : t.size ≤ maxLen) (A : Option Addr) (len cap : Nat) (hl : len ≤ maxLen) (n : Int) (A2 : Option Addr) (len2 cap2 : Nat) (x : ByteArray) (hx : x.size ≤ 1048576) (w : World) (hbig : ¬ s.size + (t.size + len) ≤ 1048576) :
    Calls Tryd.prog 3 #[.agg #[.bool b, .bool o, .string s, .int .i64 q, .string t, .slice A len cap], .int .i64 n, .slice A2 len2 cap2, .string x] w fun e w' => e = .returned (.bool true) ∧ Below w.heap.size w w' := by
  have hbb := Lib.hid (fun (o1 : Obj) => (Below.refl w.heap.size w).alloc (Nat.le_refl _) o1)
  have hbig' : ¬ (s.size : Int) + (t.size + len) ≤ 1048576 := by omega
  have hx' : ¬ (1048576 : Int) < (x.size : Int) := by omega
  clear hbig
  go_enter Tryd.func3, Tryd.ntmps3
  go_wp2_with (go_at_call 5; refine (szSeat_out b o s q t A len cap _ _ hbig' (by decide) (by decide) hl ht hs).mono ?_; rintro e w1 ⟨rfl, hb⟩; replace hb := Lib.hid hb)
  go_ret
  exact ⟨rfl, Below.then_ (hbb.out _) hb.out (Nat.le_refl _)⟩
set_option maxRecDepth 100000 in
set_option maxHeartbeats 64000000 in
theorem walkIn (b o : Bool) (s : ByteArray) (q : Int) (t : ByteArray) (A : Option Addr) (l : List Int) (cap : Nat) (n : Int) (A2 : Option Addr) (m : List Sec) (cap2 : Nat) (x : ByteArray) (hx : x.size ≤ 1048576) (w : World) (hin : s.size + (t.size + l.length) ≤ 1048576) (hv : Ints w (.slice A l.length cap) l) (hu : Secs w (.slice A2 m.length cap2) m) (hg : Four w) :
    Calls Tryd.prog 3 #[.agg #[.bool b, .bool o, .string s, .int .i64 q, .string t, .slice A l.length cap], .int .i64 n, .slice A2 m.length cap2, .string x] w fun e w' => e = .returned (.bool true) ∧ Below w.heap.size w w' := by
  have hsz := Lib.hid (show (s.size : Int) + (t.size + l.length) ≤ 1048576 by omega)
  have hleft : ¬ (1048576 : Int) - s.size - t.size - l.length < 0 := by omega
  have hx' : ¬ (1048576 : Int) < (x.size : Int) := by omega
  have hB := Lib.hid (show Blk (w.alloc (.cells #[.bool b, .bool o, .string s, .int .i64 q, .string t, .slice A l.length cap] 26)) w.heap.size 26 [.bool b, .bool o, .string s, .int .i64 q, .string t, .slice A l.length cap] from heap_alloc_new w _)
  have hW := Lib.hid ((Below.refl w.heap.size w).alloc (Nat.le_refl _) (.cells #[.bool b, .bool o, .string s, .int .i64 q, .string t, .slice A l.length cap] 26))
  have hv0 := Lib.hid hv
  have hu0 := Lib.hid hu
  have hg0 := Lib.hid hg
  have ht : t.size ≤ 1048576 := by omega
  have hs : s.size ≤ 1048576 := by omega
  clear hv hu hg hin
  go_enter Tryd.func3, Tryd.ntmps3
  go_wp2_with (go_at_call 5; refine (szSeat_in b o s q t A l.length cap _ _ hsz.out (by omega)).mono ?_; rintro e1 w1 ⟨rfl, hb1⟩; replace hW := Lib.hid (Below.then_ hW.out hb1 (Nat.le_refl _)); replace hB := Lib.hid (hB.out.up hb1); obtain ⟨hB0, hB1, hB2, hB3, hB4, hB5, -, -, -, -, -, -⟩ := hB.out.six; have hBl := hB.out.lt; have z1 := Lib.hid (show w.heap.size + 1 ≤ w1.heap.size from Nat.le_trans (by simp) hb1.size); replace hb1 := Lib.hid hb1)
  go_wp2_with (go_at_call 6; refine (szSecs_any _ m (1048576 - s.size - t.size - l.length) _ (hu0.out.below hW.out) (by have := hsz.out; omega) (by omega)).mono ?_; rintro e2 w2 ⟨r, rfl, hr, hb2⟩; replace hW := Lib.hid (Below.then_ hW.out hb2 (Nat.le_refl _)); replace hB := Lib.hid (hB.out.up hb2); clear hB0 hB1 hB2 hB3 hB4 hB5 hBl; obtain ⟨hB0, hB1, hB2, hB3, hB4, hB5, -, -, -, -, -, -⟩ := hB.out.six; have hBl := hB.out.lt; have z2 := Lib.hid (show w1.heap.size ≤ w2.heap.size from Nat.le_trans (Nat.le_refl _) hb2.size); replace hb2 := Lib.hid hb2; rcases hr with rfl | ⟨r0, r1, hsm⟩)
  · go_wp2
    go_ret
    exact ⟨rfl, hW.out⟩
  · have hml := hsm.1
    have hsml := hsm.2
    clear hsm
    obtain ⟨R, hR⟩ : ∃ R, R = hearR b o s q t l n m x := ⟨_, rfl⟩
    have hSP := Lib.hid (fun w v u (h : Ints w v l) (k : Secs w u m) => show Calls Tryd.prog 7 #[.agg #[.bool b, .bool o, .string s, .int .i64 q, .string t, v], .int .i64 n, u, .string x] w (SeatOutEnd w.heap.size R w) by rw [hR]; exact specHear_any b o s q t v l n u m x w hs ht hx hsml h k)
    have hIM := Lib.hid (fun w v u (h : Ints w v l) (k : Secs w u m) (g : Four w) => show Calls Tryd.prog 10 #[.agg #[.bool b, .bool o, .string s, .int .i64 q, .string t, v], .int .i64 n, u, .string x] w (SeatOutEnd w.heap.size R w) by rw [hR]; exact implHear_any b o s q t v l n u m x w hs ht hx g h k)
    obtain ⟨K1, hK1⟩ : ∃ K1, K1 = 1 + l.length := ⟨_, rfl⟩
    obtain ⟨K2, hK2⟩ : ∃ K2, K2 = K1 + 4 * m.length := ⟨_, rfl⟩
    obtain ⟨MM, hMM⟩ : ∃ MM, MM = 1 + R.l.length := ⟨_, rfl⟩
    have hK3 := Lib.hid (show K1 + 4 * m.length ≤ 10000000 by have := hsz.out; omega)
    have hK4 := Lib.hid (show 1 ≤ K1 by omega)
    replace hK1 := Lib.hid hK1
    replace hK2 := Lib.hid hK2
    replace hMM := Lib.hid hMM
    clear hR hsml
    go_wp2_with (go_at_call 8; refine (toSeat_any b o s q t _ l _ (hv0.out.below hW.out)).mono ?_; rintro e3 w3 ⟨A2, cap2, rfl, ho2, hb3⟩; replace hW := Lib.hid (Below.then_ hW.out hb3 (Nat.le_refl _)); replace hB := Lib.hid (hB.out.up hb3); clear hB0 hB1 hB2 hB3 hB4 hB5 hBl; obtain ⟨hB0, hB1, hB2, hB3, hB4, hB5, -, -, -, -, -, -⟩ := hB.out.six; have hBl := hB.out.lt; have z3 := Lib.hid (show w2.heap.size ≤ w3.heap.size from Nat.le_trans (Nat.le_refl _) hb3.size); have o2 := Lib.hid (show Own2 w3 (w2.heap.size) w3.heap.size (.slice A2 l.length cap2) l from Own2.new ho2 (Nat.le_refl _)); clear ho2; replace hb3 := Lib.hid hb3)
    go_wp2_with (go_at_call 9; refine (toSecs_any _ m _ (hu0.out.below hW.out) hml).mono ?_; rintro e4 w4 ⟨V2, rfl, ho2, hb4⟩; replace hW := Lib.hid (Below.then_ hW.out hb4 (Nat.le_refl _)); replace hB := Lib.hid (hB.out.up hb4); replace o2 := Lib.hid (o2.out.below hb4); clear hB0 hB1 hB2 hB3 hB4 hB5 hBl; obtain ⟨hB0, hB1, hB2, hB3, hB4, hB5, -, -, -, -, -, -⟩ := hB.out.six; have hBl := hB.out.lt; have z4 := Lib.hid (show w3.heap.size ≤ w4.heap.size from Nat.le_trans (Nat.le_refl _) hb4.size); have p2 := Lib.hid (show OwnV w4 (w3.heap.size) w4.heap.size V2 m from OwnV.new ho2 (Nat.le_refl _)); clear ho2; replace hb4 := Lib.hid hb4)
    go_wp2_with (go_at_call 7; refine (hSP.out _ _ _ o2.out.ints p2.out.secs).mono ?_; rintro e5 w5 ⟨A0, cap0, rfl, ho0, hb5⟩; replace hW := Lib.hid (Below.then_ hW.out hb5 (Nat.le_refl _)); replace hB := Lib.hid (hB.out.up hb5); replace o2 := Lib.hid (o2.out.below hb5); replace p2 := Lib.hid (p2.out.below hb5); clear hB0 hB1 hB2 hB3 hB4 hB5 hBl; obtain ⟨hB0, hB1, hB2, hB3, hB4, hB5, -, -, -, -, -, -⟩ := hB.out.six; have hBl := hB.out.lt; have z5 := Lib.hid (show w4.heap.size ≤ w5.heap.size from Nat.le_trans (Nat.le_refl _) hb5.size); have ow := Lib.hid (show Own2 w5 (w4.heap.size) w5.heap.size (.slice A0 R.l.length cap0) R.l from Own2.new ho0 (Nat.le_refl _)); clear ho0; replace hb5 := Lib.hid hb5)
    clear o2 p2
    replace hW := Lib.hid (hW.out.alloc hW.out.size (.cells #[.bool R.b, .bool R.o, .string R.s, .int .i64 R.q, .string R.t, .slice A0 R.l.length cap0, .int .i64 R.d, .int .i64 R.c] 34))
    replace hB := Lib.hid (hB.out.alloc (.cells #[.bool R.b, .bool R.o, .string R.s, .int .i64 R.q, .string R.t, .slice A0 R.l.length cap0, .int .i64 R.d, .int .i64 R.c] 34))
    replace ow := Lib.hid (ow.out.alloc (.cells #[.bool R.b, .bool R.o, .string R.s, .int .i64 R.q, .string R.t, .slice A0 R.l.length cap0, .int .i64 R.d, .int .i64 R.c] 34))
    have bw := Lib.hid (show Blk (w5.alloc (.cells #[.bool R.b, .bool R.o, .string R.s, .int .i64 R.q, .string R.t, .slice A0 R.l.length cap0, .int .i64 R.d, .int .i64 R.c] 34)) w5.heap.size 34 [.bool R.b, .bool R.o, .string R.s, .int .i64 R.q, .string R.t, .slice A0 R.l.length cap0, .int .i64 R.d, .int .i64 R.c] from heap_alloc_new w5 (.cells #[.bool R.b, .bool R.o, .string R.s, .int .i64 R.q, .string R.t, .slice A0 R.l.length cap0, .int .i64 R.d, .int .i64 R.c] 34))
    clear hB0 hB1 hB2 hB3 hB4 hB5 hBl
    obtain ⟨hB0, hB1, hB2, hB3, hB4, hB5, -, -, -, -, -, -⟩ := hB.out.six; have hBl := hB.out.lt
    obtain ⟨bw0, bw1, bw2, bw3, bw4, bw5, bw6, bw7, -, -, -, -, -, -, -, -⟩ := bw.out.eight; have bwl := bw.out.lt
    go_wp2_with (go_at_call 8; refine (toSeat_any b o s q t _ l _ (hv0.out.below hW.out)).mono ?_; rintro e6 w6 ⟨A4, cap4, rfl, ho4, hb6⟩; replace hW := Lib.hid (Below.then_ hW.out hb6 (Nat.le_refl _)); replace hB := Lib.hid (hB.out.up hb6); replace bw := Lib.hid (bw.out.up hb6); replace ow := Lib.hid (ow.out.below hb6); clear hB0 hB1 hB2 hB3 hB4 hB5 hBl; obtain ⟨hB0, hB1, hB2, hB3, hB4, hB5, -, -, -, -, -, -⟩ := hB.out.six; have hBl := hB.out.lt; clear bw0 bw1 bw2 bw3 bw4 bw5 bw6 bw7 bwl; obtain ⟨bw0, bw1, bw2, bw3, bw4, bw5, bw6, bw7, -, -, -, -, -, -, -, -⟩ := bw.out.eight; have bwl := bw.out.lt; have z6 := Lib.hid (show w5.heap.size + 1 ≤ w6.heap.size from Nat.le_trans (by simp) hb6.size); have o4 := Lib.hid (show Own2 w6 (w5.heap.size + 1) w6.heap.size (.slice A4 l.length cap4) l from Own2.new ho4 (by simp)); clear ho4; replace hb6 := Lib.hid hb6)
    replace hW := Lib.hid (hW.out.alloc hW.out.size (.cells #[.bool b, .bool o, .string s, .int .i64 q, .string t, .slice A4 l.length cap4] 32))
    replace hB := Lib.hid (hB.out.alloc (.cells #[.bool b, .bool o, .string s, .int .i64 q, .string t, .slice A4 l.length cap4] 32))
    replace bw := Lib.hid (bw.out.alloc (.cells #[.bool b, .bool o, .string s, .int .i64 q, .string t, .slice A4 l.length cap4] 32))
    replace ow := Lib.hid (ow.out.alloc (.cells #[.bool b, .bool o, .string s, .int .i64 q, .string t, .slice A4 l.length cap4] 32))
    replace o4 := Lib.hid (o4.out.alloc (.cells #[.bool b, .bool o, .string s, .int .i64 q, .string t, .slice A4 l.length cap4] 32))
    have hx := Lib.hid (show Blk (w6.alloc (.cells #[.bool b, .bool o, .string s, .int .i64 q, .string t, .slice A4 l.length cap4] 32)) w6.heap.size 32 [.bool b, .bool o, .string s, .int .i64 q, .string t, .slice A4 l.length cap4] from heap_alloc_new w6 (.cells #[.bool b, .bool o, .string s, .int .i64 q, .string t, .slice A4 l.length cap4] 32))
    clear hB0 hB1 hB2 hB3 hB4 hB5 hBl
    obtain ⟨hB0, hB1, hB2, hB3, hB4, hB5, -, -, -, -, -, -⟩ := hB.out.six; have hBl := hB.out.lt
    clear bw0 bw1 bw2 bw3 bw4 bw5 bw6 bw7 bwl
    obtain ⟨bw0, bw1, bw2, bw3, bw4, bw5, bw6, bw7, -, -, -, -, -, -, -, -⟩ := bw.out.eight; have bwl := bw.out.lt
    obtain ⟨hx0, hx1, hx2, hx3, hx4, hx5, -, -, -, -, -, -⟩ := hx.out.six; have hxl := hx.out.lt
    go_wp2_with (go_at_call 9; refine (toSecs_any _ m _ (hu0.out.below hW.out) hml).mono ?_; rintro e7 w7 ⟨V4, rfl, ho4, hb7⟩; replace hW := Lib.hid (Below.then_ hW.out hb7 (Nat.le_refl _)); replace hB := Lib.hid (hB.out.up hb7); replace bw := Lib.hid (bw.out.up hb7); replace hx := Lib.hid (hx.out.up hb7); replace ow := Lib.hid (ow.out.below hb7); replace o4 := Lib.hid (o4.out.below hb7); clear hB0 hB1 hB2 hB3 hB4 hB5 hBl; obtain ⟨hB0, hB1, hB2, hB3, hB4, hB5, -, -, -, -, -, -⟩ := hB.out.six; have hBl := hB.out.lt; clear bw0 bw1 bw2 bw3 bw4 bw5 bw6 bw7 bwl; obtain ⟨bw0, bw1, bw2, bw3, bw4, bw5, bw6, bw7, -, -, -, -, -, -, -, -⟩ := bw.out.eight; have bwl := bw.out.lt; clear hx0 hx1 hx2 hx3 hx4 hx5 hxl; obtain ⟨hx0, hx1, hx2, hx3, hx4, hx5, -, -, -, -, -, -⟩ := hx.out.six; have hxl := hx.out.lt; have z7 := Lib.hid (show w6.heap.size + 1 ≤ w7.heap.size from Nat.le_trans (by simp) hb7.size); have p4 := Lib.hid (show OwnV w7 (w6.heap.size + 1) w7.heap.size V4 m from OwnV.new ho4 (by simp)); clear ho4; replace hb7 := Lib.hid hb7)
    go_wp2_with (go_at_call 10; refine (hIM.out _ _ _ o4.out.ints p4.out.secs (hg0.out.below hW.out)).mono ?_; rintro e8 w8 ⟨A1, cap1, rfl, ho1, hb8⟩; replace hW := Lib.hid (Below.then_ hW.out hb8 (Nat.le_refl _)); replace hB := Lib.hid (hB.out.up hb8); replace bw := Lib.hid (bw.out.up hb8); replace hx := Lib.hid (hx.out.up hb8); replace ow := Lib.hid (ow.out.below hb8); replace o4 := Lib.hid (o4.out.below hb8); replace p4 := Lib.hid (p4.out.below hb8); clear hB0 hB1 hB2 hB3 hB4 hB5 hBl; obtain ⟨hB0, hB1, hB2, hB3, hB4, hB5, -, -, -, -, -, -⟩ := hB.out.six; have hBl := hB.out.lt; clear bw0 bw1 bw2 bw3 bw4 bw5 bw6 bw7 bwl; obtain ⟨bw0, bw1, bw2, bw3, bw4, bw5, bw6, bw7, -, -, -, -, -, -, -, -⟩ := bw.out.eight; have bwl := bw.out.lt; clear hx0 hx1 hx2 hx3 hx4 hx5 hxl; obtain ⟨hx0, hx1, hx2, hx3, hx4, hx5, -, -, -, -, -, -⟩ := hx.out.six; have hxl := hx.out.lt; have z8 := Lib.hid (show w7.heap.size ≤ w8.heap.size from Nat.le_trans (Nat.le_refl _) hb8.size); have og := Lib.hid (show Own2 w8 (w7.heap.size) w8.heap.size (.slice A1 R.l.length cap1) R.l from Own2.new ho1 (Nat.le_refl _)); clear ho1; replace hb8 := Lib.hid hb8)
    replace hW := Lib.hid (hW.out.alloc hW.out.size (.cells #[.bool R.b, .bool R.o, .string R.s, .int .i64 R.q, .string R.t, .slice A1 R.l.length cap1, .int .i64 R.d, .int .i64 R.c] 34))
    replace hB := Lib.hid (hB.out.alloc (.cells #[.bool R.b, .bool R.o, .string R.s, .int .i64 R.q, .string R.t, .slice A1 R.l.length cap1, .int .i64 R.d, .int .i64 R.c] 34))
    replace bw := Lib.hid (bw.out.alloc (.cells #[.bool R.b, .bool R.o, .string R.s, .int .i64 R.q, .string R.t, .slice A1 R.l.length cap1, .int .i64 R.d, .int .i64 R.c] 34))
    replace hx := Lib.hid (hx.out.alloc (.cells #[.bool R.b, .bool R.o, .string R.s, .int .i64 R.q, .string R.t, .slice A1 R.l.length cap1, .int .i64 R.d, .int .i64 R.c] 34))
    replace ow := Lib.hid (ow.out.alloc (.cells #[.bool R.b, .bool R.o, .string R.s, .int .i64 R.q, .string R.t, .slice A1 R.l.length cap1, .int .i64 R.d, .int .i64 R.c] 34))
    replace o4 := Lib.hid (o4.out.alloc (.cells #[.bool R.b, .bool R.o, .string R.s, .int .i64 R.q, .string R.t, .slice A1 R.l.length cap1, .int .i64 R.d, .int .i64 R.c] 34))
    replace p4 := Lib.hid (p4.out.alloc (.cells #[.bool R.b, .bool R.o, .string R.s, .int .i64 R.q, .string R.t, .slice A1 R.l.length cap1, .int .i64 R.d, .int .i64 R.c] 34))
    replace og := Lib.hid (og.out.alloc (.cells #[.bool R.b, .bool R.o, .string R.s, .int .i64 R.q, .string R.t, .slice A1 R.l.length cap1, .int .i64 R.d, .int .i64 R.c] 34))
    have bg := Lib.hid (show Blk (w8.alloc (.cells #[.bool R.b, .bool R.o, .string R.s, .int .i64 R.q, .string R.t, .slice A1 R.l.length cap1, .int .i64 R.d, .int .i64 R.c] 34)) w8.heap.size 34 [.bool R.b, .bool R.o, .string R.s, .int .i64 R.q, .string R.t, .slice A1 R.l.length cap1, .int .i64 R.d, .int .i64 R.c] from heap_alloc_new w8 (.cells #[.bool R.b, .bool R.o, .string R.s, .int .i64 R.q, .string R.t, .slice A1 R.l.length cap1, .int .i64 R.d, .int .i64 R.c] 34))
    clear hB0 hB1 hB2 hB3 hB4 hB5 hBl
    obtain ⟨hB0, hB1, hB2, hB3, hB4, hB5, -, -, -, -, -, -⟩ := hB.out.six; have hBl := hB.out.lt
    clear bw0 bw1 bw2 bw3 bw4 bw5 bw6 bw7 bwl
    obtain ⟨bw0, bw1, bw2, bw3, bw4, bw5, bw6, bw7, -, -, -, -, -, -, -, -⟩ := bw.out.eight; have bwl := bw.out.lt
    clear hx0 hx1 hx2 hx3 hx4 hx5 hxl
    obtain ⟨hx0, hx1, hx2, hx3, hx4, hx5, -, -, -, -, -, -⟩ := hx.out.six; have hxl := hx.out.lt
    obtain ⟨bg0, bg1, bg2, bg3, bg4, bg5, bg6, bg7, -, -, -, -, -, -, -, -⟩ := bg.out.eight; have bgl := bg.out.lt
    go_wp2_with (go_at_call 11; refine (eqSeatOut_same R.b R.o R.s R.q R.t _ _ R.l R.d R.c _ og.out.ints ow.out.ints).mono ?_; rintro e9 w9 ⟨rfl, hb9⟩; replace hW := Lib.hid (Below.then_ hW.out hb9 (Nat.le_refl _)); replace hB := Lib.hid (hB.out.up hb9); replace bw := Lib.hid (bw.out.up hb9); replace hx := Lib.hid (hx.out.up hb9); replace bg := Lib.hid (bg.out.up hb9); replace ow := Lib.hid (ow.out.below hb9); replace o4 := Lib.hid (o4.out.below hb9); replace p4 := Lib.hid (p4.out.below hb9); replace og := Lib.hid (og.out.below hb9); clear hB0 hB1 hB2 hB3 hB4 hB5 hBl; obtain ⟨hB0, hB1, hB2, hB3, hB4, hB5, -, -, -, -, -, -⟩ := hB.out.six; have hBl := hB.out.lt; clear bw0 bw1 bw2 bw3 bw4 bw5 bw6 bw7 bwl; obtain ⟨bw0, bw1, bw2, bw3, bw4, bw5, bw6, bw7, -, -, -, -, -, -, -, -⟩ := bw.out.eight; have bwl := bw.out.lt; clear hx0 hx1 hx2 hx3 hx4 hx5 hxl; obtain ⟨hx0, hx1, hx2, hx3, hx4, hx5, -, -, -, -, -, -⟩ := hx.out.six; have hxl := hx.out.lt; clear bg0 bg1 bg2 bg3 bg4 bg5 bg6 bg7 bgl; obtain ⟨bg0, bg1, bg2, bg3, bg4, bg5, bg6, bg7, -, -, -, -, -, -, -, -⟩ := bg.out.eight; have bgl := bg.out.lt; have z9 := Lib.hid (show w8.heap.size + 1 ≤ w9.heap.size from Nat.le_trans (by simp) hb9.size); replace hb9 := Lib.hid hb9)
    replace hW := Lib.hid (below_drew' hW.out)
    replace hB := Lib.hid hB.out.drew
    replace bw := Lib.hid bw.out.drew
    replace hx := Lib.hid hx.out.drew
    replace bg := Lib.hid bg.out.drew
    replace ow := Lib.hid ow.out.drew
    replace o4 := Lib.hid o4.out.drew
    replace p4 := Lib.hid p4.out.drew
    replace og := Lib.hid og.out.drew
    clear hB0 hB1 hB2 hB3 hB4 hB5 hBl
    obtain ⟨hB0, hB1, hB2, hB3, hB4, hB5, -, -, -, -, -, -⟩ := hB.out.six; have hBl := hB.out.lt
    clear bw0 bw1 bw2 bw3 bw4 bw5 bw6 bw7 bwl
    obtain ⟨bw0, bw1, bw2, bw3, bw4, bw5, bw6, bw7, -, -, -, -, -, -, -, -⟩ := bw.out.eight; have bwl := bw.out.lt
    clear hx0 hx1 hx2 hx3 hx4 hx5 hxl
    obtain ⟨hx0, hx1, hx2, hx3, hx4, hx5, -, -, -, -, -, -⟩ := hx.out.six; have hxl := hx.out.lt
    clear bg0 bg1 bg2 bg3 bg4 bg5 bg6 bg7 bgl
    obtain ⟨bg0, bg1, bg2, bg3, bg4, bg5, bg6, bg7, -, -, -, -, -, -, -, -⟩ := bg.out.eight; have bgl := bg.out.lt
    go_region_held3 (fun w' => w'.cell? ⟨w.heap.size, 0, none⟩ = some (.bool b) ∧ w'.cell? ⟨w.heap.size, 1, none⟩ = some (.bool o) ∧ w'.cell? ⟨w.heap.size, 2, none⟩ = some (.string s) ∧ w'.cell? ⟨w.heap.size, 3, none⟩ = some (.int .i64 q) ∧ w'.cell? ⟨w.heap.size, 4, none⟩ = some (.string t) ∧ w'.cell? ⟨w.heap.size, 5, none⟩ = some (.slice A l.length cap) ∧ w'.cell? ⟨w6.heap.size, 0, none⟩ = some (.bool b) ∧ w'.cell? ⟨w6.heap.size, 1, none⟩ = some (.bool o) ∧ w'.cell? ⟨w6.heap.size, 2, none⟩ = some (.string s) ∧ w'.cell? ⟨w6.heap.size, 3, none⟩ = some (.int .i64 q) ∧ w'.cell? ⟨w6.heap.size, 4, none⟩ = some (.string t) ∧ w'.cell? ⟨w6.heap.size, 5, none⟩ = some (.slice A4 l.length cap4)) (first | exact ⟨hB0, hB1, hB2, hB3, hB4, hB5, hx0, hx1, hx2, hx3, hx4, hx5⟩ | go_keep)
        (first
          | (go_at_call 8; refine (toSeat_any b o s q t _ l _ (hv0.out.below hW.out)).mono ?_; rintro e10 w10 ⟨A6, cap6, rfl, ho6, hb10⟩; replace hW := Lib.hid (Below.then_ hW.out hb10 (Nat.le_refl _)); replace hB := Lib.hid (hB.out.up hb10); replace bw := Lib.hid (bw.out.up hb10); replace hx := Lib.hid (hx.out.up hb10); replace bg := Lib.hid (bg.out.up hb10); replace ow := Lib.hid (ow.out.below hb10); replace o4 := Lib.hid (o4.out.below hb10); replace p4 := Lib.hid (p4.out.below hb10); replace og := Lib.hid (og.out.below hb10); clear hB0 hB1 hB2 hB3 hB4 hB5 hBl; obtain ⟨hB0, hB1, hB2, hB3, hB4, hB5, -, -, -, -, -, -⟩ := hB.out.six; have hBl := hB.out.lt; clear bw0 bw1 bw2 bw3 bw4 bw5 bw6 bw7 bwl; obtain ⟨bw0, bw1, bw2, bw3, bw4, bw5, bw6, bw7, -, -, -, -, -, -, -, -⟩ := bw.out.eight; have bwl := bw.out.lt; clear hx0 hx1 hx2 hx3 hx4 hx5 hxl; obtain ⟨hx0, hx1, hx2, hx3, hx4, hx5, -, -, -, -, -, -⟩ := hx.out.six; have hxl := hx.out.lt; clear bg0 bg1 bg2 bg3 bg4 bg5 bg6 bg7 bgl; obtain ⟨bg0, bg1, bg2, bg3, bg4, bg5, bg6, bg7, -, -, -, -, -, -, -, -⟩ := bg.out.eight; have bgl := bg.out.lt; have z10 := Lib.hid (show w9.heap.size ≤ w10.heap.size from Nat.le_trans (Nat.le_refl _) hb10.size); have o6 := Lib.hid (show Own2 w10 (w9.heap.size) w10.heap.size (.slice A6 l.length cap6) l from Own2.new ho6 (Nat.le_refl _)); clear ho6; replace hb10 := Lib.hid hb10)
          | (go_at_call 12; refine (eqSeat_same b o s q t _ _ l _ o4.out.ints o6.out.ints).mono ?_; rintro e11 w11 ⟨rfl, hb11⟩; replace hW := Lib.hid (Below.then_ hW.out hb11 (Nat.le_refl _)); replace hB := Lib.hid (hB.out.up hb11); replace bw := Lib.hid (bw.out.up hb11); replace hx := Lib.hid (hx.out.up hb11); replace bg := Lib.hid (bg.out.up hb11); replace ow := Lib.hid (ow.out.below hb11); replace o4 := Lib.hid (o4.out.below hb11); replace p4 := Lib.hid (p4.out.below hb11); replace og := Lib.hid (og.out.below hb11); replace o6 := Lib.hid (o6.out.below hb11); clear hB0 hB1 hB2 hB3 hB4 hB5 hBl; obtain ⟨hB0, hB1, hB2, hB3, hB4, hB5, -, -, -, -, -, -⟩ := hB.out.six; have hBl := hB.out.lt; clear bw0 bw1 bw2 bw3 bw4 bw5 bw6 bw7 bwl; obtain ⟨bw0, bw1, bw2, bw3, bw4, bw5, bw6, bw7, -, -, -, -, -, -, -, -⟩ := bw.out.eight; have bwl := bw.out.lt; clear hx0 hx1 hx2 hx3 hx4 hx5 hxl; obtain ⟨hx0, hx1, hx2, hx3, hx4, hx5, -, -, -, -, -, -⟩ := hx.out.six; have hxl := hx.out.lt; clear bg0 bg1 bg2 bg3 bg4 bg5 bg6 bg7 bgl; obtain ⟨bg0, bg1, bg2, bg3, bg4, bg5, bg6, bg7, -, -, -, -, -, -, -, -⟩ := bg.out.eight; have bgl := bg.out.lt; have z11 := Lib.hid (show w10.heap.size ≤ w11.heap.size from Nat.le_trans (Nat.le_refl _) hb11.size); replace hb11 := Lib.hid hb11))
    clear o6
    go_wp2_with (go_at_call 9; refine (toSecs_any _ m _ (hu0.out.below hW.out) hml).mono ?_; rintro e12 w12 ⟨V6, rfl, ho6, hb12⟩; replace hW := Lib.hid (Below.then_ hW.out hb12 (Nat.le_refl _)); replace hB := Lib.hid (hB.out.up hb12); replace bw := Lib.hid (bw.out.up hb12); replace hx := Lib.hid (hx.out.up hb12); replace bg := Lib.hid (bg.out.up hb12); replace ow := Lib.hid (ow.out.below hb12); replace o4 := Lib.hid (o4.out.below hb12); replace p4 := Lib.hid (p4.out.below hb12); replace og := Lib.hid (og.out.below hb12); clear hB0 hB1 hB2 hB3 hB4 hB5 hBl; obtain ⟨hB0, hB1, hB2, hB3, hB4, hB5, -, -, -, -, -, -⟩ := hB.out.six; have hBl := hB.out.lt; clear bw0 bw1 bw2 bw3 bw4 bw5 bw6 bw7 bwl; obtain ⟨bw0, bw1, bw2, bw3, bw4, bw5, bw6, bw7, -, -, -, -, -, -, -, -⟩ := bw.out.eight; have bwl := bw.out.lt; clear hx0 hx1 hx2 hx3 hx4 hx5 hxl; obtain ⟨hx0, hx1, hx2, hx3, hx4, hx5, -, -, -, -, -, -⟩ := hx.out.six; have hxl := hx.out.lt; clear bg0 bg1 bg2 bg3 bg4 bg5 bg6 bg7 bgl; obtain ⟨bg0, bg1, bg2, bg3, bg4, bg5, bg6, bg7, -, -, -, -, -, -, -, -⟩ := bg.out.eight; have bgl := bg.out.lt; have z12 := Lib.hid (show w11.heap.size ≤ w12.heap.size from Nat.le_trans (Nat.le_refl _) hb12.size); have p6 := Lib.hid (show OwnV w12 (w11.heap.size) w12.heap.size V6 m from OwnV.new ho6 (Nat.le_refl _)); clear ho6; replace hb12 := Lib.hid hb12)
    go_wp2_with (go_at_call 13; refine (eqSecs_same _ _ m _ p4.out.secs p6.out.secs).mono ?_; rintro e13 w13 ⟨rfl, hb13⟩; replace hW := Lib.hid (Below.then_ hW.out hb13 (Nat.le_refl _)); replace hB := Lib.hid (hB.out.up hb13); replace bw := Lib.hid (bw.out.up hb13); replace hx := Lib.hid (hx.out.up hb13); replace bg := Lib.hid (bg.out.up hb13); replace ow := Lib.hid (ow.out.below hb13); replace o4 := Lib.hid (o4.out.below hb13); replace p4 := Lib.hid (p4.out.below hb13); replace og := Lib.hid (og.out.below hb13); replace p6 := Lib.hid (p6.out.below hb13); clear hB0 hB1 hB2 hB3 hB4 hB5 hBl; obtain ⟨hB0, hB1, hB2, hB3, hB4, hB5, -, -, -, -, -, -⟩ := hB.out.six; have hBl := hB.out.lt; clear bw0 bw1 bw2 bw3 bw4 bw5 bw6 bw7 bwl; obtain ⟨bw0, bw1, bw2, bw3, bw4, bw5, bw6, bw7, -, -, -, -, -, -, -, -⟩ := bw.out.eight; have bwl := bw.out.lt; clear hx0 hx1 hx2 hx3 hx4 hx5 hxl; obtain ⟨hx0, hx1, hx2, hx3, hx4, hx5, -, -, -, -, -, -⟩ := hx.out.six; have hxl := hx.out.lt; clear bg0 bg1 bg2 bg3 bg4 bg5 bg6 bg7 bgl; obtain ⟨bg0, bg1, bg2, bg3, bg4, bg5, bg6, bg7, -, -, -, -, -, -, -, -⟩ := bg.out.eight; have bgl := bg.out.lt; have z13 := Lib.hid (show w12.heap.size ≤ w13.heap.size from Nat.le_trans (Nat.le_refl _) hb13.size); replace hb13 := Lib.hid hb13)
    clear p6
    go_wp2_with (go_at_call 14; refine (markSeat_one b o s q t _ l _ _ o4.out.1).mono ?_; rintro e14 w14 ⟨rfl, ho, hg⟩; replace hW := Lib.hid (o4.out.stays hg hW.out (by have := z1.out; have := z2.out; have := z3.out; have := z4.out; have := z5.out; have := z6.out; have := z7.out; have := z8.out; have := z9.out; have := z10.out; have := z11.out; have := z12.out; have := z13.out; omega)); replace hB := Lib.hid (o4.out.blk hg hB.out (by have := z1.out; have := z2.out; have := z3.out; have := z4.out; have := z5.out; have := z6.out; have := z7.out; have := z8.out; have := z9.out; have := z10.out; have := z11.out; have := z12.out; have := z13.out; omega)); replace bw := Lib.hid (o4.out.blk hg bw.out (by have := z1.out; have := z2.out; have := z3.out; have := z4.out; have := z5.out; have := z6.out; have := z7.out; have := z8.out; have := z9.out; have := z10.out; have := z11.out; have := z12.out; have := z13.out; omega)); replace hx := Lib.hid (o4.out.blk hg hx.out (by have := z1.out; have := z2.out; have := z3.out; have := z4.out; have := z5.out; have := z6.out; have := z7.out; have := z8.out; have := z9.out; have := z10.out; have := z11.out; have := z12.out; have := z13.out; omega)); replace bg := Lib.hid (o4.out.blk hg bg.out (by have := z1.out; have := z2.out; have := z3.out; have := z4.out; have := z5.out; have := z6.out; have := z7.out; have := z8.out; have := z9.out; have := z10.out; have := z11.out; have := z12.out; have := z13.out; omega)); replace ow := Lib.hid (ow.out.apart hg o4.out (by have := z1.out; have := z2.out; have := z3.out; have := z4.out; have := z5.out; have := z6.out; have := z7.out; have := z8.out; have := z9.out; have := z10.out; have := z11.out; have := z12.out; have := z13.out; omega)); replace p4 := Lib.hid (p4.out.apart hg o4.out (by have := z1.out; have := z2.out; have := z3.out; have := z4.out; have := z5.out; have := z6.out; have := z7.out; have := z8.out; have := z9.out; have := z10.out; have := z11.out; have := z12.out; have := z13.out; omega)); replace og := Lib.hid (og.out.apart hg o4.out (by have := z1.out; have := z2.out; have := z3.out; have := z4.out; have := z5.out; have := z6.out; have := z7.out; have := z8.out; have := z9.out; have := z10.out; have := z11.out; have := z12.out; have := z13.out; omega)); have z14 := Lib.hid (show w13.heap.size ≤ w14.heap.size from Nat.le_trans (Nat.le_refl _) hg.size); replace o4 := Lib.hid (o4.out.marked ho); clear ho hg; rw [← hK1.out]; clear hB0 hB1 hB2 hB3 hB4 hB5 hBl; obtain ⟨hB0, hB1, hB2, hB3, hB4, hB5, -, -, -, -, -, -⟩ := hB.out.six; have hBl := hB.out.lt; clear bw0 bw1 bw2 bw3 bw4 bw5 bw6 bw7 bwl; obtain ⟨bw0, bw1, bw2, bw3, bw4, bw5, bw6, bw7, -, -, -, -, -, -, -, -⟩ := bw.out.eight; have bwl := bw.out.lt; clear hx0 hx1 hx2 hx3 hx4 hx5 hxl; obtain ⟨hx0, hx1, hx2, hx3, hx4, hx5, -, -, -, -, -, -⟩ := hx.out.six; have hxl := hx.out.lt; clear bg0 bg1 bg2 bg3 bg4 bg5 bg6 bg7 bgl; obtain ⟨bg0, bg1, bg2, bg3, bg4, bg5, bg6, bg7, -, -, -, -, -, -, -, -⟩ := bg.out.eight; have bgl := bg.out.lt)
    go_wp2_with (go_at_call 15; refine (markSecs_any _ m K1 _ _ hK3.out hK4.out p4.out.1).mono ?_; rintro e15 w15 ⟨rfl, ho, hg⟩; replace hW := Lib.hid (p4.out.stays hg hW.out (by have := z1.out; have := z2.out; have := z3.out; have := z4.out; have := z5.out; have := z6.out; have := z7.out; have := z8.out; have := z9.out; have := z10.out; have := z11.out; have := z12.out; have := z13.out; have := z14.out; omega)); replace hB := Lib.hid (p4.out.blk hg hB.out (by have := z1.out; have := z2.out; have := z3.out; have := z4.out; have := z5.out; have := z6.out; have := z7.out; have := z8.out; have := z9.out; have := z10.out; have := z11.out; have := z12.out; have := z13.out; have := z14.out; omega)); replace bw := Lib.hid (p4.out.blk hg bw.out (by have := z1.out; have := z2.out; have := z3.out; have := z4.out; have := z5.out; have := z6.out; have := z7.out; have := z8.out; have := z9.out; have := z10.out; have := z11.out; have := z12.out; have := z13.out; have := z14.out; omega)); replace hx := Lib.hid (p4.out.blk hg hx.out (by have := z1.out; have := z2.out; have := z3.out; have := z4.out; have := z5.out; have := z6.out; have := z7.out; have := z8.out; have := z9.out; have := z10.out; have := z11.out; have := z12.out; have := z13.out; have := z14.out; omega)); replace bg := Lib.hid (p4.out.blk hg bg.out (by have := z1.out; have := z2.out; have := z3.out; have := z4.out; have := z5.out; have := z6.out; have := z7.out; have := z8.out; have := z9.out; have := z10.out; have := z11.out; have := z12.out; have := z13.out; have := z14.out; omega)); replace ow := Lib.hid (ow.out.apartV hg p4.out (by have := z1.out; have := z2.out; have := z3.out; have := z4.out; have := z5.out; have := z6.out; have := z7.out; have := z8.out; have := z9.out; have := z10.out; have := z11.out; have := z12.out; have := z13.out; have := z14.out; omega)); replace o4 := Lib.hid (o4.out.apartV hg p4.out (by have := z1.out; have := z2.out; have := z3.out; have := z4.out; have := z5.out; have := z6.out; have := z7.out; have := z8.out; have := z9.out; have := z10.out; have := z11.out; have := z12.out; have := z13.out; have := z14.out; omega)); replace og := Lib.hid (og.out.apartV hg p4.out (by have := z1.out; have := z2.out; have := z3.out; have := z4.out; have := z5.out; have := z6.out; have := z7.out; have := z8.out; have := z9.out; have := z10.out; have := z11.out; have := z12.out; have := z13.out; have := z14.out; omega)); have z15 := Lib.hid (show w14.heap.size ≤ w15.heap.size from Nat.le_trans (Nat.le_refl _) hg.size); replace p4 := Lib.hid (p4.out.marked ho); clear ho hg; rw [← hK2.out]; clear hB0 hB1 hB2 hB3 hB4 hB5 hBl; obtain ⟨hB0, hB1, hB2, hB3, hB4, hB5, -, -, -, -, -, -⟩ := hB.out.six; have hBl := hB.out.lt; clear bw0 bw1 bw2 bw3 bw4 bw5 bw6 bw7 bwl; obtain ⟨bw0, bw1, bw2, bw3, bw4, bw5, bw6, bw7, -, -, -, -, -, -, -, -⟩ := bw.out.eight; have bwl := bw.out.lt; clear hx0 hx1 hx2 hx3 hx4 hx5 hxl; obtain ⟨hx0, hx1, hx2, hx3, hx4, hx5, -, -, -, -, -, -⟩ := hx.out.six; have hxl := hx.out.lt; clear bg0 bg1 bg2 bg3 bg4 bg5 bg6 bg7 bgl; obtain ⟨bg0, bg1, bg2, bg3, bg4, bg5, bg6, bg7, -, -, -, -, -, -, -, -⟩ := bg.out.eight; have bgl := bg.out.lt)
    go_wp2_with (go_at_call 11; refine (eqSeatOut_same R.b R.o R.s R.q R.t _ _ R.l R.d R.c _ og.out.ints ow.out.ints).mono ?_; rintro e16 w16 ⟨rfl, hb16⟩; replace hW := Lib.hid (Below.then_ hW.out hb16 (Nat.le_refl _)); replace hB := Lib.hid (hB.out.up hb16); replace bw := Lib.hid (bw.out.up hb16); replace hx := Lib.hid (hx.out.up hb16); replace bg := Lib.hid (bg.out.up hb16); replace ow := Lib.hid (ow.out.below hb16); replace o4 := Lib.hid (o4.out.below hb16); replace p4 := Lib.hid (p4.out.below hb16); replace og := Lib.hid (og.out.below hb16); clear hB0 hB1 hB2 hB3 hB4 hB5 hBl; obtain ⟨hB0, hB1, hB2, hB3, hB4, hB5, -, -, -, -, -, -⟩ := hB.out.six; have hBl := hB.out.lt; clear bw0 bw1 bw2 bw3 bw4 bw5 bw6 bw7 bwl; obtain ⟨bw0, bw1, bw2, bw3, bw4, bw5, bw6, bw7, -, -, -, -, -, -, -, -⟩ := bw.out.eight; have bwl := bw.out.lt; clear hx0 hx1 hx2 hx3 hx4 hx5 hxl; obtain ⟨hx0, hx1, hx2, hx3, hx4, hx5, -, -, -, -, -, -⟩ := hx.out.six; have hxl := hx.out.lt; clear bg0 bg1 bg2 bg3 bg4 bg5 bg6 bg7 bgl; obtain ⟨bg0, bg1, bg2, bg3, bg4, bg5, bg6, bg7, -, -, -, -, -, -, -, -⟩ := bg.out.eight; have bgl := bg.out.lt; have z16 := Lib.hid (show w15.heap.size ≤ w16.heap.size from Nat.le_trans (Nat.le_refl _) hb16.size); replace hb16 := Lib.hid hb16)
    go_wp2_with (go_at_call 16; refine (markSeatOut_one R.b R.o R.s R.q R.t _ R.l R.d R.c _ _ og.out.1).mono ?_; rintro e17 w17 ⟨rfl, ho, hg⟩; replace hW := Lib.hid (og.out.stays hg hW.out (by have := z1.out; have := z2.out; have := z3.out; have := z4.out; have := z5.out; have := z6.out; have := z7.out; have := z8.out; have := z9.out; have := z10.out; have := z11.out; have := z12.out; have := z13.out; have := z14.out; have := z15.out; have := z16.out; omega)); replace hB := Lib.hid (og.out.blk hg hB.out (by have := z1.out; have := z2.out; have := z3.out; have := z4.out; have := z5.out; have := z6.out; have := z7.out; have := z8.out; have := z9.out; have := z10.out; have := z11.out; have := z12.out; have := z13.out; have := z14.out; have := z15.out; have := z16.out; omega)); replace bw := Lib.hid (og.out.blk hg bw.out (by have := z1.out; have := z2.out; have := z3.out; have := z4.out; have := z5.out; have := z6.out; have := z7.out; have := z8.out; have := z9.out; have := z10.out; have := z11.out; have := z12.out; have := z13.out; have := z14.out; have := z15.out; have := z16.out; omega)); replace hx := Lib.hid (og.out.blk hg hx.out (by have := z1.out; have := z2.out; have := z3.out; have := z4.out; have := z5.out; have := z6.out; have := z7.out; have := z8.out; have := z9.out; have := z10.out; have := z11.out; have := z12.out; have := z13.out; have := z14.out; have := z15.out; have := z16.out; omega)); replace bg := Lib.hid (og.out.blk hg bg.out (by have := z1.out; have := z2.out; have := z3.out; have := z4.out; have := z5.out; have := z6.out; have := z7.out; have := z8.out; have := z9.out; have := z10.out; have := z11.out; have := z12.out; have := z13.out; have := z14.out; have := z15.out; have := z16.out; omega)); replace ow := Lib.hid (ow.out.apart hg og.out (by have := z1.out; have := z2.out; have := z3.out; have := z4.out; have := z5.out; have := z6.out; have := z7.out; have := z8.out; have := z9.out; have := z10.out; have := z11.out; have := z12.out; have := z13.out; have := z14.out; have := z15.out; have := z16.out; omega)); replace o4 := Lib.hid (o4.out.apart hg og.out (by have := z1.out; have := z2.out; have := z3.out; have := z4.out; have := z5.out; have := z6.out; have := z7.out; have := z8.out; have := z9.out; have := z10.out; have := z11.out; have := z12.out; have := z13.out; have := z14.out; have := z15.out; have := z16.out; omega)); replace p4 := Lib.hid (p4.out.apart hg og.out (by have := z1.out; have := z2.out; have := z3.out; have := z4.out; have := z5.out; have := z6.out; have := z7.out; have := z8.out; have := z9.out; have := z10.out; have := z11.out; have := z12.out; have := z13.out; have := z14.out; have := z15.out; have := z16.out; omega)); have z17 := Lib.hid (show w16.heap.size ≤ w17.heap.size from Nat.le_trans (Nat.le_refl _) hg.size); replace og := Lib.hid (og.out.marked ho); clear ho hg; rw [← hMM.out]; clear hB0 hB1 hB2 hB3 hB4 hB5 hBl; obtain ⟨hB0, hB1, hB2, hB3, hB4, hB5, -, -, -, -, -, -⟩ := hB.out.six; have hBl := hB.out.lt; clear bw0 bw1 bw2 bw3 bw4 bw5 bw6 bw7 bwl; obtain ⟨bw0, bw1, bw2, bw3, bw4, bw5, bw6, bw7, -, -, -, -, -, -, -, -⟩ := bw.out.eight; have bwl := bw.out.lt; clear hx0 hx1 hx2 hx3 hx4 hx5 hxl; obtain ⟨hx0, hx1, hx2, hx3, hx4, hx5, -, -, -, -, -, -⟩ := hx.out.six; have hxl := hx.out.lt; clear bg0 bg1 bg2 bg3 bg4 bg5 bg6 bg7 bgl; obtain ⟨bg0, bg1, bg2, bg3, bg4, bg5, bg6, bg7, -, -, -, -, -, -, -, -⟩ := bg.out.eight; have bgl := bg.out.lt)
    go_wp2_with (go_at_call 17; refine (heldSeatOut_one R.b R.o R.s R.q R.t _ R.l.length R.d R.c _ og.out.ints).mono ?_; rintro e18 w18 ⟨rfl, hb18⟩; replace hW := Lib.hid (Below.then_ hW.out hb18 (Nat.le_refl _)); replace hB := Lib.hid (hB.out.up hb18); replace bw := Lib.hid (bw.out.up hb18); replace hx := Lib.hid (hx.out.up hb18); replace bg := Lib.hid (bg.out.up hb18); replace ow := Lib.hid (ow.out.below hb18); replace o4 := Lib.hid (o4.out.below hb18); replace p4 := Lib.hid (p4.out.below hb18); replace og := Lib.hid (og.out.below hb18); clear hB0 hB1 hB2 hB3 hB4 hB5 hBl; obtain ⟨hB0, hB1, hB2, hB3, hB4, hB5, -, -, -, -, -, -⟩ := hB.out.six; have hBl := hB.out.lt; clear bw0 bw1 bw2 bw3 bw4 bw5 bw6 bw7 bwl; obtain ⟨bw0, bw1, bw2, bw3, bw4, bw5, bw6, bw7, -, -, -, -, -, -, -, -⟩ := bw.out.eight; have bwl := bw.out.lt; clear hx0 hx1 hx2 hx3 hx4 hx5 hxl; obtain ⟨hx0, hx1, hx2, hx3, hx4, hx5, -, -, -, -, -, -⟩ := hx.out.six; have hxl := hx.out.lt; clear bg0 bg1 bg2 bg3 bg4 bg5 bg6 bg7 bgl; obtain ⟨bg0, bg1, bg2, bg3, bg4, bg5, bg6, bg7, -, -, -, -, -, -, -, -⟩ := bg.out.eight; have bgl := bg.out.lt; have z18 := Lib.hid (show w17.heap.size ≤ w18.heap.size from Nat.le_trans (Nat.le_refl _) hb18.size); rw [← hMM.out]; replace hb18 := Lib.hid hb18)
    go_wp2_with (go_at_call 8; refine (toSeat_any b o s q t _ l _ (hv0.out.below hW.out)).mono ?_; rintro e19 w19 ⟨A7, cap7, rfl, ho7, hb19⟩; replace hW := Lib.hid (Below.then_ hW.out hb19 (Nat.le_refl _)); replace hB := Lib.hid (hB.out.up hb19); replace bw := Lib.hid (bw.out.up hb19); replace hx := Lib.hid (hx.out.up hb19); replace bg := Lib.hid (bg.out.up hb19); replace ow := Lib.hid (ow.out.below hb19); replace o4 := Lib.hid (o4.out.below hb19); replace p4 := Lib.hid (p4.out.below hb19); replace og := Lib.hid (og.out.below hb19); clear hB0 hB1 hB2 hB3 hB4 hB5 hBl; obtain ⟨hB0, hB1, hB2, hB3, hB4, hB5, -, -, -, -, -, -⟩ := hB.out.six; have hBl := hB.out.lt; clear bw0 bw1 bw2 bw3 bw4 bw5 bw6 bw7 bwl; obtain ⟨bw0, bw1, bw2, bw3, bw4, bw5, bw6, bw7, -, -, -, -, -, -, -, -⟩ := bw.out.eight; have bwl := bw.out.lt; clear hx0 hx1 hx2 hx3 hx4 hx5 hxl; obtain ⟨hx0, hx1, hx2, hx3, hx4, hx5, -, -, -, -, -, -⟩ := hx.out.six; have hxl := hx.out.lt; clear bg0 bg1 bg2 bg3 bg4 bg5 bg6 bg7 bgl; obtain ⟨bg0, bg1, bg2, bg3, bg4, bg5, bg6, bg7, -, -, -, -, -, -, -, -⟩ := bg.out.eight; have bgl := bg.out.lt; have z19 := Lib.hid (show w18.heap.size ≤ w19.heap.size from Nat.le_trans (Nat.le_refl _) hb19.size); have o7 := Lib.hid (show Own2 w19 (w18.heap.size) w19.heap.size (.slice A7 l.length cap7) l from Own2.new ho7 (Nat.le_refl _)); clear ho7; replace hb19 := Lib.hid hb19)
    go_wp2_with (go_at_call 9; refine (toSecs_any _ m _ (hu0.out.below hW.out) hml).mono ?_; rintro e20 w20 ⟨V7, rfl, ho7, hb20⟩; replace hW := Lib.hid (Below.then_ hW.out hb20 (Nat.le_refl _)); replace hB := Lib.hid (hB.out.up hb20); replace bw := Lib.hid (bw.out.up hb20); replace hx := Lib.hid (hx.out.up hb20); replace bg := Lib.hid (bg.out.up hb20); replace ow := Lib.hid (ow.out.below hb20); replace o4 := Lib.hid (o4.out.below hb20); replace p4 := Lib.hid (p4.out.below hb20); replace og := Lib.hid (og.out.below hb20); replace o7 := Lib.hid (o7.out.below hb20); clear hB0 hB1 hB2 hB3 hB4 hB5 hBl; obtain ⟨hB0, hB1, hB2, hB3, hB4, hB5, -, -, -, -, -, -⟩ := hB.out.six; have hBl := hB.out.lt; clear bw0 bw1 bw2 bw3 bw4 bw5 bw6 bw7 bwl; obtain ⟨bw0, bw1, bw2, bw3, bw4, bw5, bw6, bw7, -, -, -, -, -, -, -, -⟩ := bw.out.eight; have bwl := bw.out.lt; clear hx0 hx1 hx2 hx3 hx4 hx5 hxl; obtain ⟨hx0, hx1, hx2, hx3, hx4, hx5, -, -, -, -, -, -⟩ := hx.out.six; have hxl := hx.out.lt; clear bg0 bg1 bg2 bg3 bg4 bg5 bg6 bg7 bgl; obtain ⟨bg0, bg1, bg2, bg3, bg4, bg5, bg6, bg7, -, -, -, -, -, -, -, -⟩ := bg.out.eight; have bgl := bg.out.lt; have z20 := Lib.hid (show w19.heap.size ≤ w20.heap.size from Nat.le_trans (Nat.le_refl _) hb20.size); have p7 := Lib.hid (show OwnV w20 (w19.heap.size) w20.heap.size V7 m from OwnV.new ho7 (Nat.le_refl _)); clear ho7; replace hb20 := Lib.hid hb20)
    go_wp2_with (go_at_call 10; refine (hIM.out _ _ _ o7.out.ints p7.out.secs (hg0.out.below hW.out)).mono ?_; rintro e21 w21 ⟨A8, cap8, rfl, ho8, hb21⟩; replace hW := Lib.hid (Below.then_ hW.out hb21 (Nat.le_refl _)); replace hB := Lib.hid (hB.out.up hb21); replace bw := Lib.hid (bw.out.up hb21); replace hx := Lib.hid (hx.out.up hb21); replace bg := Lib.hid (bg.out.up hb21); replace ow := Lib.hid (ow.out.below hb21); replace o4 := Lib.hid (o4.out.below hb21); replace p4 := Lib.hid (p4.out.below hb21); replace og := Lib.hid (og.out.below hb21); replace o7 := Lib.hid (o7.out.below hb21); replace p7 := Lib.hid (p7.out.below hb21); clear hB0 hB1 hB2 hB3 hB4 hB5 hBl; obtain ⟨hB0, hB1, hB2, hB3, hB4, hB5, -, -, -, -, -, -⟩ := hB.out.six; have hBl := hB.out.lt; clear bw0 bw1 bw2 bw3 bw4 bw5 bw6 bw7 bwl; obtain ⟨bw0, bw1, bw2, bw3, bw4, bw5, bw6, bw7, -, -, -, -, -, -, -, -⟩ := bw.out.eight; have bwl := bw.out.lt; clear hx0 hx1 hx2 hx3 hx4 hx5 hxl; obtain ⟨hx0, hx1, hx2, hx3, hx4, hx5, -, -, -, -, -, -⟩ := hx.out.six; have hxl := hx.out.lt; clear bg0 bg1 bg2 bg3 bg4 bg5 bg6 bg7 bgl; obtain ⟨bg0, bg1, bg2, bg3, bg4, bg5, bg6, bg7, -, -, -, -, -, -, -, -⟩ := bg.out.eight; have bgl := bg.out.lt; have z21 := Lib.hid (show w20.heap.size ≤ w21.heap.size from Nat.le_trans (Nat.le_refl _) hb21.size); have oh := Lib.hid (show Own2 w21 (w20.heap.size) w21.heap.size (.slice A8 R.l.length cap8) R.l from Own2.new ho8 (Nat.le_refl _)); clear ho8; replace hb21 := Lib.hid hb21)
    clear o7 p7
    replace hW := Lib.hid (hW.out.alloc hW.out.size (.cells #[.bool R.b, .bool R.o, .string R.s, .int .i64 R.q, .string R.t, .slice A8 R.l.length cap8, .int .i64 R.d, .int .i64 R.c] 34))
    replace hB := Lib.hid (hB.out.alloc (.cells #[.bool R.b, .bool R.o, .string R.s, .int .i64 R.q, .string R.t, .slice A8 R.l.length cap8, .int .i64 R.d, .int .i64 R.c] 34))
    replace bw := Lib.hid (bw.out.alloc (.cells #[.bool R.b, .bool R.o, .string R.s, .int .i64 R.q, .string R.t, .slice A8 R.l.length cap8, .int .i64 R.d, .int .i64 R.c] 34))
    replace hx := Lib.hid (hx.out.alloc (.cells #[.bool R.b, .bool R.o, .string R.s, .int .i64 R.q, .string R.t, .slice A8 R.l.length cap8, .int .i64 R.d, .int .i64 R.c] 34))
    replace bg := Lib.hid (bg.out.alloc (.cells #[.bool R.b, .bool R.o, .string R.s, .int .i64 R.q, .string R.t, .slice A8 R.l.length cap8, .int .i64 R.d, .int .i64 R.c] 34))
    replace ow := Lib.hid (ow.out.alloc (.cells #[.bool R.b, .bool R.o, .string R.s, .int .i64 R.q, .string R.t, .slice A8 R.l.length cap8, .int .i64 R.d, .int .i64 R.c] 34))
    replace o4 := Lib.hid (o4.out.alloc (.cells #[.bool R.b, .bool R.o, .string R.s, .int .i64 R.q, .string R.t, .slice A8 R.l.length cap8, .int .i64 R.d, .int .i64 R.c] 34))
    replace p4 := Lib.hid (p4.out.alloc (.cells #[.bool R.b, .bool R.o, .string R.s, .int .i64 R.q, .string R.t, .slice A8 R.l.length cap8, .int .i64 R.d, .int .i64 R.c] 34))
    replace og := Lib.hid (og.out.alloc (.cells #[.bool R.b, .bool R.o, .string R.s, .int .i64 R.q, .string R.t, .slice A8 R.l.length cap8, .int .i64 R.d, .int .i64 R.c] 34))
    replace oh := Lib.hid (oh.out.alloc (.cells #[.bool R.b, .bool R.o, .string R.s, .int .i64 R.q, .string R.t, .slice A8 R.l.length cap8, .int .i64 R.d, .int .i64 R.c] 34))
    have bh := Lib.hid (show Blk (w21.alloc (.cells #[.bool R.b, .bool R.o, .string R.s, .int .i64 R.q, .string R.t, .slice A8 R.l.length cap8, .int .i64 R.d, .int .i64 R.c] 34)) w21.heap.size 34 [.bool R.b, .bool R.o, .string R.s, .int .i64 R.q, .string R.t, .slice A8 R.l.length cap8, .int .i64 R.d, .int .i64 R.c] from heap_alloc_new w21 (.cells #[.bool R.b, .bool R.o, .string R.s, .int .i64 R.q, .string R.t, .slice A8 R.l.length cap8, .int .i64 R.d, .int .i64 R.c] 34))
    clear hB0 hB1 hB2 hB3 hB4 hB5 hBl
    obtain ⟨hB0, hB1, hB2, hB3, hB4, hB5, -, -, -, -, -, -⟩ := hB.out.six; have hBl := hB.out.lt
    clear bw0 bw1 bw2 bw3 bw4 bw5 bw6 bw7 bwl
    obtain ⟨bw0, bw1, bw2, bw3, bw4, bw5, bw6, bw7, -, -, -, -, -, -, -, -⟩ := bw.out.eight; have bwl := bw.out.lt
    clear hx0 hx1 hx2 hx3 hx4 hx5 hxl
    obtain ⟨hx0, hx1, hx2, hx3, hx4, hx5, -, -, -, -, -, -⟩ := hx.out.six; have hxl := hx.out.lt
    clear bg0 bg1 bg2 bg3 bg4 bg5 bg6 bg7 bgl
    obtain ⟨bg0, bg1, bg2, bg3, bg4, bg5, bg6, bg7, -, -, -, -, -, -, -, -⟩ := bg.out.eight; have bgl := bg.out.lt
    obtain ⟨bh0, bh1, bh2, bh3, bh4, bh5, bh6, bh7, -, -, -, -, -, -, -, -⟩ := bh.out.eight; have bhl := bh.out.lt
    go_wp2_with (go_at_call 11; refine (eqSeatOut_same R.b R.o R.s R.q R.t _ _ R.l R.d R.c _ oh.out.ints ow.out.ints).mono ?_; rintro e22 w22 ⟨rfl, hb22⟩; replace hW := Lib.hid (Below.then_ hW.out hb22 (Nat.le_refl _)); replace hB := Lib.hid (hB.out.up hb22); replace bw := Lib.hid (bw.out.up hb22); replace hx := Lib.hid (hx.out.up hb22); replace bg := Lib.hid (bg.out.up hb22); replace bh := Lib.hid (bh.out.up hb22); replace ow := Lib.hid (ow.out.below hb22); replace o4 := Lib.hid (o4.out.below hb22); replace p4 := Lib.hid (p4.out.below hb22); replace og := Lib.hid (og.out.below hb22); replace oh := Lib.hid (oh.out.below hb22); clear hB0 hB1 hB2 hB3 hB4 hB5 hBl; obtain ⟨hB0, hB1, hB2, hB3, hB4, hB5, -, -, -, -, -, -⟩ := hB.out.six; have hBl := hB.out.lt; clear bw0 bw1 bw2 bw3 bw4 bw5 bw6 bw7 bwl; obtain ⟨bw0, bw1, bw2, bw3, bw4, bw5, bw6, bw7, -, -, -, -, -, -, -, -⟩ := bw.out.eight; have bwl := bw.out.lt; clear hx0 hx1 hx2 hx3 hx4 hx5 hxl; obtain ⟨hx0, hx1, hx2, hx3, hx4, hx5, -, -, -, -, -, -⟩ := hx.out.six; have hxl := hx.out.lt; clear bg0 bg1 bg2 bg3 bg4 bg5 bg6 bg7 bgl; obtain ⟨bg0, bg1, bg2, bg3, bg4, bg5, bg6, bg7, -, -, -, -, -, -, -, -⟩ := bg.out.eight; have bgl := bg.out.lt; clear bh0 bh1 bh2 bh3 bh4 bh5 bh6 bh7 bhl; obtain ⟨bh0, bh1, bh2, bh3, bh4, bh5, bh6, bh7, -, -, -, -, -, -, -, -⟩ := bh.out.eight; have bhl := bh.out.lt; have z22 := Lib.hid (show w21.heap.size + 1 ≤ w22.heap.size from Nat.le_trans (by simp) hb22.size); replace hb22 := Lib.hid hb22)
    go_wp2_with (go_at_call 17; refine (heldSeatOut_one R.b R.o R.s R.q R.t _ R.l.length R.d R.c _ og.out.ints).mono ?_; rintro e23 w23 ⟨rfl, hb23⟩; replace hW := Lib.hid (Below.then_ hW.out hb23 (Nat.le_refl _)); replace hB := Lib.hid (hB.out.up hb23); replace bw := Lib.hid (bw.out.up hb23); replace hx := Lib.hid (hx.out.up hb23); replace bg := Lib.hid (bg.out.up hb23); replace bh := Lib.hid (bh.out.up hb23); replace ow := Lib.hid (ow.out.below hb23); replace o4 := Lib.hid (o4.out.below hb23); replace p4 := Lib.hid (p4.out.below hb23); replace og := Lib.hid (og.out.below hb23); replace oh := Lib.hid (oh.out.below hb23); clear hB0 hB1 hB2 hB3 hB4 hB5 hBl; obtain ⟨hB0, hB1, hB2, hB3, hB4, hB5, -, -, -, -, -, -⟩ := hB.out.six; have hBl := hB.out.lt; clear bw0 bw1 bw2 bw3 bw4 bw5 bw6 bw7 bwl; obtain ⟨bw0, bw1, bw2, bw3, bw4, bw5, bw6, bw7, -, -, -, -, -, -, -, -⟩ := bw.out.eight; have bwl := bw.out.lt; clear hx0 hx1 hx2 hx3 hx4 hx5 hxl; obtain ⟨hx0, hx1, hx2, hx3, hx4, hx5, -, -, -, -, -, -⟩ := hx.out.six; have hxl := hx.out.lt; clear bg0 bg1 bg2 bg3 bg4 bg5 bg6 bg7 bgl; obtain ⟨bg0, bg1, bg2, bg3, bg4, bg5, bg6, bg7, -, -, -, -, -, -, -, -⟩ := bg.out.eight; have bgl := bg.out.lt; clear bh0 bh1 bh2 bh3 bh4 bh5 bh6 bh7 bhl; obtain ⟨bh0, bh1, bh2, bh3, bh4, bh5, bh6, bh7, -, -, -, -, -, -, -, -⟩ := bh.out.eight; have bhl := bh.out.lt; have z23 := Lib.hid (show w22.heap.size ≤ w23.heap.size from Nat.le_trans (Nat.le_refl _) hb23.size); rw [← hMM.out]; replace hb23 := Lib.hid hb23)
    go_ret
    exact ⟨rfl, hW.out⟩
theorem walk (b o : Bool) (s : ByteArray) (hs : s.size ≤ maxLen) (q : Int) (_hq : -9223372036854775808 ≤ q ∧ q ≤ 9223372036854775807) (t : ByteArray) (ht : t.size ≤ maxLen) (A : Option Addr) (len cap : Nat) (hl : len ≤ maxLen) (n : Int) (_hn : (Lit.int .i64 n).wf = true) (A2 : Option Addr) (len2 cap2 : Nat) (m : List Sec) (x : ByteArray) (hx : x.size ≤ maxLen) (w : World) (hI : len ≤ 1048576 → ∃ l : List Int, l.length = len ∧ Ints w (.slice A len cap) l) (el : m.length = len2) (hu : Secs w (.slice A2 len2 cap2) m) (hg : Four w) :
    Calls Tryd.prog 3 #[.agg #[.bool b, .bool o, .string s, .int .i64 q, .string t, .slice A len cap], .int .i64 n, .slice A2 len2 cap2, .string x] w fun e w' => e = .returned (.bool true) ∧ Below w.heap.size w w' := by
  by_cases h0 : x.size ≤ 1048576
  · by_cases h : s.size + (t.size + len) ≤ 1048576
    · obtain ⟨l, rfl, hv⟩ := hI (by omega)
      subst el
      exact walkIn b o s q t A l cap n A2 m cap2 x h0 w h hv hu hg
    · exact walk_big b o s q t hs ht A len cap hl n A2 len2 cap2 x h0 w h
  · exact walk_long b o s q t A len cap n A2 len2 cap2 x hx w h0

theorem own : ownKnob Tryd.prog.godebug = none := by kernel_rfl
theorem laidOut : laidOutB Tryd.prog = true := by kernel_rfl
theorem tabAt : Tryd.prog.globalNamed "loop.example/g00752/impl.secretMarks" = some 0 := by kernel_rfl
theorem tabType : (Tryd.prog.globals[0]?).map (·.type) = some 89 := by kernel_rfl
theorem tabCells : Tryd.prog.cellsOf 89 = 4 := by kernel_rfl
theorem oneCell : Tryd.prog.cellsOf 2 = 1 := by kernel_rfl
/-- What the variable's cells hold. -/
def tabRow : Array Value := #[.int .i64 1, .int .i64 2, .int .i64 4, .int .i64 8]
abbrev tabData {H : Type} : DataW H := .agg [.lit (.int .i64 1), .lit (.int .i64 2), .lit (.int .i64 4), .lit (.int .i64 8)]
theorem tab_reads {H : Type} (enc : TypeId × Value → H) (W : World) (sp : Nat → Bool) : DataW.trod enc Tryd.prog W 0 sp true 3 89 tabRow.toList = some (tabData, []) := by kernel_rfl
/-- An array of 4 numbers that reads as the table holds just those. -/
theorem tab_of_trod {H : Type} {enc : TypeId × Value → H} {W : World} {base : Nat} {sp : Nat → Bool} {held : Bool} {fuel : Nat} {cs : List Value} {p : List MemPlace}
    (h : DataW.trod enc Tryd.prog W base sp held fuel 89 cs = some (tabData, p)) : cs = tabRow.toList := by
  cases fuel with
  | zero => simp [DataW.trod] at h
  | succ fuel =>
    simp only [DataW.trod, Tryd.underlying89, tabCells, oneCell] at h
    split at h
    · rename_i hl
      obtain ⟨c0, c1, c2, c3, rfl⟩ : ∃ c0 c1 c2 c3, cs = [c0, c1, c2, c3] := by
        match cs, hl with
        | [x0, x1, x2, x3], _ => exact ⟨x0, x1, x2, x3, rfl⟩
      have e : List.range 4 = [0, 1, 2, 3] := rfl
      rw [e] at h
      simp only [Option.map_eq_some_iff, List.mapM_cons, List.mapM_nil, Option.bind_eq_bind, Option.bind_eq_some_iff, Option.pure_def, Option.some.injEq] at h
      obtain ⟨xs, ⟨y0, h0, _, ⟨y1, h1, _, ⟨y2, h2, _, ⟨y3, h3, _, rfl, rfl⟩, rfl⟩, rfl⟩, rfl⟩, hx⟩ := h
      obtain ⟨n0, e0, z0, _⟩ := DataW.trod_int Tryd.underlying2 h0
      obtain ⟨n1, e1, z1, _⟩ := DataW.trod_int Tryd.underlying2 h1
      obtain ⟨n2, e2, z2, _⟩ := DataW.trod_int Tryd.underlying2 h2
      obtain ⟨n3, e3, z3, _⟩ := DataW.trod_int Tryd.underlying2 h3
      simp [tabData, z0, z1, z2, z3] at hx
      simp at e0 e1 e2 e3
      obtain ⟨⟨rfl, rfl, rfl, rfl⟩, _⟩ := hx
      subst e0 e1 e2 e3
      rfl
    · cases h
theorem tab_of_laid {W : World} (h : laidMetH Tryd.prog Rows.fnExactHearRow.laid W) : W.var? Tryd.prog "loop.example/g00752/impl.secretMarks" = some tabRow := by
  have h' : laidMet Tryd.prog [("loop.example/g00752/impl.secretMarks", tabData)] W := h
  obtain ⟨ps, ⟨g, t, cs, fuel, p, q, hg, ht, hvar, hd, _, _⟩, _⟩ := h'
  obtain rfl := Option.some.inj (tabAt.symm.trans hg)
  obtain rfl := Option.some.inj (tabType.symm.trans ht)
  rw [hvar]
  congr 1
  obtain ⟨l⟩ := cs
  exact congrArg List.toArray (tab_of_trod hd)
/-- A world that meets the condition: the settled one, the variable's cells laid. -/
noncomputable def laidWorld (os : Os) : World :=
  let w0 := World.holding Tryd.prog os ⟨#[], #[], []⟩
  { w0 with heap := w0.heap.modify 0 fun
      | .cells _ t frozen => .cells tabRow t frozen
      | o => o }
theorem laidWorld_met (os : Os) (args : Array Value) : laidMetH Tryd.prog Rows.fnExactHearRow.laid ((laidWorld os).forCall (fun _ _ => 0) ⟨#[], args, []⟩).memory :=
  show laidMet Tryd.prog [("loop.example/g00752/impl.secretMarks", tabData)] _ from laidMet_of_run' 8 (by kernel_rfl) (by kernel_rfl)

set_option maxRecDepth 100000 in
theorem lifted (os : Os) (started : os.Started) (H : Type) (enc : TypeId × Value → H) :
    ReturnsInHanded {} Tryd.checked os 3 .any (fun w args => (Rows.fnExactHearSpec.pre enc Tryd.prog Tryd.f3 [] false w args ∧ laidMetH Tryd.prog Rows.fnExactHearRow.laid w) ∧ sizedMet enc Tryd.prog Tryd.f3 (OpenSpec.ofChange Rows.fnExactHearSpec) false w args)
      (Rows.fnExactHearSpec.post enc Tryd.prog Tryd.f3 false true false false) := by
  refine returnsInHanded_of_change_and (C := Tryd.checked) (X := fun w _ => laidMetH Tryd.prog Rows.fnExactHearRow.laid w) (fun _ _ _ hh h => h.of_heap hh) own started (by kernel_rfl) Tryd.func3
    (ChangeSpec.witness_at (enc := enc) (C := Tryd.checked) (os := os) (X := fun w _ => laidMetH Tryd.prog Rows.fnExactHearRow.laid w) false (laidWorld os) #[.agg #[.bool false, .bool false, .string ByteArray.empty, .int .i64 0, .string ByteArray.empty, .slice none 0 0], .int .i64 0, .slice none 0 0, .string ByteArray.empty] 8 rfl (by kernel_rfl) (by kernel_rfl) (by kernel_rfl) (by kernel_rfl) (by kernel_rfl) (laidWorld_met os _)) ?_
  intro W base args ds gs before hval0 hW _ _ hL _
  have hval : ∀ (j : Nat) t v, Tryd.f3.params[j]? = some t → args[j]? = some v → Value.okWide Tryd.prog W .any base t v := hval0
  have hW' := hW
  obtain ⟨p, q, hA0, hV0, rfl, hfz, hnd⟩ := hW
  have hA : DataW.TrodAll enc Tryd.prog W 0 (fun _ => true) true Tryd.f3.params.toList args.toList ds p := hA0
  have hV : DataW.TrodVars enc Tryd.prog W (fun _ => true) ["loop.example/g00752/impl.secretMarks"] gs q := hV0
  rw [Tryd.params3] at hA hval
  obtain ⟨v0, vs0, d0, ds0, p0, q0, hargs, rfl, rfl, h0, r0⟩ := trodAll_cons hA
  obtain ⟨v1, vs1, d1, ds1, p1, q1, rfl, rfl, rfl, h1, r1⟩ := trodAll_cons r0
  obtain ⟨v2, vs2, d2, ds2, p2, q2, rfl, rfl, rfl, h2, r2⟩ := trodAll_cons r1
  obtain ⟨v3, vs3, d3, ds3, p3, q3, rfl, rfl, rfl, h3, r3⟩ := trodAll_cons r2
  obtain ⟨rfl, rfl, rfl⟩ := trodAll_nil r3
  obtain rfl : args = #[v0, v1, v2, v3] := by cases args; simp_all
  obtain ⟨g, t, cs, fuel, d, p', rfl, hgn, htn, hvar, hd, rfl⟩ := trodVars_one hV
  obtain rfl := Option.some.inj (tabAt.symm.trans hgn)
  obtain rfl := Option.some.inj (tabType.symm.trans htn)
  obtain rfl : cs = tabRow := Option.some.inj (hvar.symm.trans (tab_of_laid hL))
  obtain ⟨rfl, rfl⟩ := DataW.Trod.unique (v := .agg tabRow) ⟨fuel, hd⟩ ⟨3, tab_reads enc W _⟩
  have k0 := h0
  have lt0 : ∀ x ∈ p0, x.block < W.heap.size := by obtain ⟨m, hm⟩ := k0; exact DataW.trod_lt m _ _ _ hm
  obtain ⟨b0, o0, s0, n0, t0, A0, len0, cap0, rfl, w0, z0, u0, hm0, hI0⟩ := seat_open (hval 0 26 v0 rfl rfl) h0
  obtain ⟨a1, rfl, rfl, rfl, w1⟩ := open_int Tryd.underlying2 (hval 1 2 v1 rfl rfl) h1
  obtain ⟨a2, len2, cap2, rfl⟩ := okWide_slice Tryd.underlying27 (hval 2 27 v2 rfl rfl)
  have k2 := h2
  have lt2 : ∀ x ∈ p2, x.block < W.heap.size := by obtain ⟨m, hm⟩ := k2; exact DataW.trod_lt m _ _ _ hm
  obtain ⟨l2, e2, w2⟩ := secs_open h2
  obtain ⟨a3, rfl, rfl, rfl, w3⟩ := open_string Tryd.underlying9 (hval 3 9 v3 rfl rfl) h3
  have hg : Four W := ⟨World.var?_cell tabAt hvar 0, World.var?_cell tabAt hvar 1, World.var?_cell tabAt hvar 2, World.var?_cell tabAt hvar 3⟩
  clear hA0 hval0
  refine (walk b0 o0 s0 w0 n0 z0 t0 u0 A0 len0 cap0 hm0 a1 w1 a2 len2 cap2 l2 a3 w3 W hI0 e2 w2 hg).mono fun e W' ⟨he, bel⟩ => ?_
  subst he
  have hvar' : W'.var? Tryd.prog "loop.example/g00752/impl.secretMarks" = some tabRow := var?_below bel tabAt hg.pos hvar
  exact ⟨_, rfl, _, _, _, [], _, _, hW', trodAll_mk1 (shut_bool Tryd.underlying4 _), (trodAll_cons_mk (Below.trod laidOut (by kernel_rfl) (of_decide_eq_true (by kernel_rfl)) k0 bel lt0) (trodAll_cons_mk (shut_int Tryd.underlying2 w1) (trodAll_cons_mk (Below.trod laidOut (by kernel_rfl) (of_decide_eq_true (by kernel_rfl)) k2 bel lt2) (trodAll_cons_mk (shut_string Tryd.underlying9 w3) trodAll_mk0)))), trodVars_mk1 tabAt tabType hvar' (tab_reads enc W' _), bel.frame _, fun h => by cases h⟩

theorem over : Rows.fnExactHearRow.holds Tryd.pinned (OpenSpec.ofChange Rows.fnExactHearSpec) :=
  OpenClaim.holds_of_wide 3 Tryd.f3 rfl rfl rfl rfl rfl rfl rfl ⟨rfl, rfl, rfl, rfl, rfl⟩ rfl rfl rfl rfl rfl (by kernel_rfl) Tryd.func3 (by kernel_rfl)
    (of_decide_eq_true (by kernel_rfl)) (by unfold Func.isWrapper; first | (rw [if_pos (by decide +kernel)]; kernel_rfl) | (rw [if_neg (by decide +kernel)]; exact ⟨rfl, rfl⟩))
    (fun os started H enc _ => lifted os started H enc)

theorem wants (j : Nat) (t : TypeId) (ht : Tryd.f3.params[j]? = some t) : Tryd.prog.wantsStandIn t = false := by
  rw [Tryd.params3] at ht
  match j, ht with
  | 0, ht => exact (show t = 26 from (Option.some.inj ht).symm) ▸ (show Tryd.prog.wantsStandIn 26 = false by kernel_rfl)
  | 1, ht => exact (show t = 2 from (Option.some.inj ht).symm) ▸ (show Tryd.prog.wantsStandIn 2 = false by kernel_rfl)
  | 2, ht => exact (show t = 27 from (Option.some.inj ht).symm) ▸ (show Tryd.prog.wantsStandIn 27 = false by kernel_rfl)
  | 3, ht => exact (show t = 9 from (Option.some.inj ht).symm) ▸ (show Tryd.prog.wantsStandIn 9 = false by kernel_rfl)
  | j + 4, ht => simp at ht
theorem proved : Rows.FnExactHearCardSaid :=
  Claim7.holds_tied_plain_at .later [] _ _ _ _
    over (fun _ h => by cases h) (by kernel_rfl) (fun _ h => by cases h) fnExactHear_row_tie rfl ⟨rfl, rfl⟩ (by kernel_rfl) rfl
    (fun f fn hf hfn => by
      obtain rfl : f = 3 := Option.some.inj ((show Tryd.prog.funcNamed "loop.example/g00752/laws.FnExactHear" = some 3 by kernel_rfl).symm.trans hf) |>.symm
      obtain rfl : fn = Tryd.f3 := (Option.some.inj (Tryd.func3.symm.trans hfn)).symm
      exact ⟨by kernel_rfl, wants⟩)
    (by kernel_rfl)
#print axioms proved

end Go.Proofs.YtajnligcngekcaaDoor.fnExactHear
