/- Turn of the program answers as that of the model, at every seat; its answer owns its memory, and no argument is written. No conditions. -/
import Derived.Test.YtajnligcngekcaaRows
import Derived.WalkKit
import Derived.ProofKit
import Derived.OpenShut
import Derived.ShutString
import Derived.ChangeOld
import Derived.Below
import Derived.Lib.SmallJoins
import Derived.Deep.RegionHeld3
import Derived.Test.YtajnligcngekcaaSeatO
import Derived.Test.YtajnligcngekcaaSeatB
namespace Go.Proofs.Ytajnligcngekcaa.fnExactTurn
open Go.ChangeShapes Go.WideShapes Go.ChangeAt Go.RowKit
open Go.ChangeMaps (open_string shut_string)
set_option linter.unusedVariables false

set_option maxHeartbeats 4000000 in
theorem walk_big (b o : Bool) (s : ByteArray) (q : Int) (t : ByteArray) (hs : s.size ≤ maxLen) (ht : t.size ≤ maxLen) (A : Option Addr) (len cap : Nat) (hl : len ≤ maxLen) (e : Bool) (w : World) (hbig : ¬ s.size + (t.size + len) ≤ 1048576) :
    Calls Try.prog 5 #[.agg #[.bool b, .bool o, .string s, .int .i64 q, .string t, .slice A len cap], .bool e] w fun e w' => e = .returned (.bool true) ∧ Below w.heap.size w w' := by
  have hbb := Lib.hid (fun (o1 : Obj) => (Below.refl w.heap.size w).alloc (Nat.le_refl _) o1)
  have hbig' : ¬ (s.size : Int) + (t.size + len) ≤ 1048576 := by omega
  clear hbig
  go_enter Try.func5, Try.ntmps5
  go_wp2_with (go_at_call 7; refine (szSeat_out b o s q t A len cap _ _ hbig' (by decide) (by decide) hl ht hs).mono ?_; rintro e w1 ⟨rfl, hb⟩; replace hb := Lib.hid hb)
  go_ret
  exact ⟨rfl, Below.then_ (hbb.out _) hb.out (Nat.le_refl _)⟩
set_option maxRecDepth 100000 in
set_option maxHeartbeats 32000000 in
theorem walkIn (b o : Bool) (s : ByteArray) (q : Int) (t : ByteArray) (A : Option Addr) (l : List Int) (cap : Nat) (e : Bool) (w : World) (hin : s.size + (t.size + l.length) ≤ 1048576) (hv : Ints w (.slice A l.length cap) l) :
    Calls Try.prog 5 #[.agg #[.bool b, .bool o, .string s, .int .i64 q, .string t, .slice A l.length cap], .bool e] w fun e w' => e = .returned (.bool true) ∧ Below w.heap.size w w' := by
  have hsz := Lib.hid (show (s.size : Int) + (t.size + l.length) ≤ 1048576 by omega)
  have hleft : ¬ (1048576 : Int) - s.size - t.size - l.length < 0 := by omega
  have hB := Lib.hid (show Blk (w.alloc (.cells #[.bool b, .bool o, .string s, .int .i64 q, .string t, .slice A l.length cap] 26)) w.heap.size 26 [.bool b, .bool o, .string s, .int .i64 q, .string t, .slice A l.length cap] from heap_alloc_new w _)
  have hW := Lib.hid ((Below.refl w.heap.size w).alloc (Nat.le_refl _) (.cells #[.bool b, .bool o, .string s, .int .i64 q, .string t, .slice A l.length cap] 26))
  have hv0 := Lib.hid hv
  have ht : t.size ≤ 1048576 := by omega
  have hs : s.size ≤ 1048576 := by omega
  obtain ⟨B, hR⟩ : ∃ B, B = turnE b e s q t l := ⟨_, rfl⟩
  have hSP := Lib.hid (fun w v (h : Ints w v l) => show Calls Try.prog 16 #[.agg #[.bool b, .bool o, .string s, .int .i64 q, .string t, v], .bool e] w (SeatEnd w.heap.size B o s q t l w) by rw [hR]; exact specTurn_any b o s q t v l e w hs ht h)
  have hIM := Lib.hid (fun w v (h : Ints w v l) => show Calls Try.prog 17 #[.agg #[.bool b, .bool o, .string s, .int .i64 q, .string t, v], .bool e] w (SeatEnd w.heap.size B o s q t l w) by rw [hR]; exact implTurn_any b o s q t v l e w hs ht h)
  obtain ⟨K1, hK1⟩ : ∃ K1, K1 = 1 + l.length := ⟨_, rfl⟩
  replace hK1 := Lib.hid hK1
  clear hv hin hR
  go_enter Try.func5, Try.ntmps5
  go_wp2_with (go_at_call 7; refine (szSeat_in b o s q t A l.length cap _ _ hsz.out (by omega)).mono ?_; rintro e1 w1 ⟨rfl, hb1⟩; replace hW := Lib.hid (Below.then_ hW.out hb1 (Nat.le_refl _)); replace hB := Lib.hid (hB.out.up hb1); obtain ⟨hB0, hB1, hB2, hB3, hB4, hB5, -, -, -, -, -, -⟩ := hB.out.six; have hBl := hB.out.lt; have z1 := Lib.hid (show w.heap.size + 1 ≤ w1.heap.size from Nat.le_trans (by simp) hb1.size); replace hb1 := Lib.hid hb1)
  go_wp2_with (go_at_call 9; refine (toSeat_any b o s q t _ l _ (hv0.out.below hW.out)).mono ?_; rintro e2 w2 ⟨A2, cap2, rfl, ho2, hb2⟩; replace hW := Lib.hid (Below.then_ hW.out hb2 (Nat.le_refl _)); replace hB := Lib.hid (hB.out.up hb2); clear hB0 hB1 hB2 hB3 hB4 hB5 hBl; obtain ⟨hB0, hB1, hB2, hB3, hB4, hB5, -, -, -, -, -, -⟩ := hB.out.six; have hBl := hB.out.lt; have z2 := Lib.hid (show w1.heap.size ≤ w2.heap.size from Nat.le_trans (Nat.le_refl _) hb2.size); have o2 := Lib.hid (show Own2 w2 (w1.heap.size) w2.heap.size (.slice A2 l.length cap2) l from Own2.new ho2 (Nat.le_refl _)); clear ho2; replace hb2 := Lib.hid hb2)
  go_wp2_with (go_at_call 16; refine (hSP.out _ _ o2.out.ints).mono ?_; rintro e3 w3 ⟨A0, cap0, rfl, ho0, hb3⟩; replace hW := Lib.hid (Below.then_ hW.out hb3 (Nat.le_refl _)); replace hB := Lib.hid (hB.out.up hb3); replace o2 := Lib.hid (o2.out.below hb3); clear hB0 hB1 hB2 hB3 hB4 hB5 hBl; obtain ⟨hB0, hB1, hB2, hB3, hB4, hB5, -, -, -, -, -, -⟩ := hB.out.six; have hBl := hB.out.lt; have z3 := Lib.hid (show w2.heap.size ≤ w3.heap.size from Nat.le_trans (Nat.le_refl _) hb3.size); have ow := Lib.hid (show Own2 w3 (w2.heap.size) w3.heap.size (.slice A0 l.length cap0) l from Own2.new ho0 (Nat.le_refl _)); clear ho0; replace hb3 := Lib.hid hb3)
  clear o2
  replace hW := Lib.hid (hW.out.alloc hW.out.size (.cells #[.bool B, .bool o, .string s, .int .i64 q, .string t, .slice A0 l.length cap0] 31))
  replace hB := Lib.hid (hB.out.alloc (.cells #[.bool B, .bool o, .string s, .int .i64 q, .string t, .slice A0 l.length cap0] 31))
  replace ow := Lib.hid (ow.out.alloc (.cells #[.bool B, .bool o, .string s, .int .i64 q, .string t, .slice A0 l.length cap0] 31))
  have bw := Lib.hid (show Blk (w3.alloc (.cells #[.bool B, .bool o, .string s, .int .i64 q, .string t, .slice A0 l.length cap0] 31)) w3.heap.size 31 [.bool B, .bool o, .string s, .int .i64 q, .string t, .slice A0 l.length cap0] from heap_alloc_new w3 (.cells #[.bool B, .bool o, .string s, .int .i64 q, .string t, .slice A0 l.length cap0] 31))
  clear hB0 hB1 hB2 hB3 hB4 hB5 hBl
  obtain ⟨hB0, hB1, hB2, hB3, hB4, hB5, -, -, -, -, -, -⟩ := hB.out.six; have hBl := hB.out.lt
  obtain ⟨bw0, bw1, bw2, bw3, bw4, bw5, -, -, -, -, -, -⟩ := bw.out.six; have bwl := bw.out.lt
  go_wp2_with (go_at_call 9; refine (toSeat_any b o s q t _ l _ (hv0.out.below hW.out)).mono ?_; rintro e4 w4 ⟨A4, cap4, rfl, ho4, hb4⟩; replace hW := Lib.hid (Below.then_ hW.out hb4 (Nat.le_refl _)); replace hB := Lib.hid (hB.out.up hb4); replace bw := Lib.hid (bw.out.up hb4); replace ow := Lib.hid (ow.out.below hb4); clear hB0 hB1 hB2 hB3 hB4 hB5 hBl; obtain ⟨hB0, hB1, hB2, hB3, hB4, hB5, -, -, -, -, -, -⟩ := hB.out.six; have hBl := hB.out.lt; clear bw0 bw1 bw2 bw3 bw4 bw5 bwl; obtain ⟨bw0, bw1, bw2, bw3, bw4, bw5, -, -, -, -, -, -⟩ := bw.out.six; have bwl := bw.out.lt; have z4 := Lib.hid (show w3.heap.size + 1 ≤ w4.heap.size from Nat.le_trans (by simp) hb4.size); have o4 := Lib.hid (show Own2 w4 (w3.heap.size + 1) w4.heap.size (.slice A4 l.length cap4) l from Own2.new ho4 (by simp)); clear ho4; replace hb4 := Lib.hid hb4)
  replace hW := Lib.hid (hW.out.alloc hW.out.size (.cells #[.bool b, .bool o, .string s, .int .i64 q, .string t, .slice A4 l.length cap4] 31))
  replace hB := Lib.hid (hB.out.alloc (.cells #[.bool b, .bool o, .string s, .int .i64 q, .string t, .slice A4 l.length cap4] 31))
  replace bw := Lib.hid (bw.out.alloc (.cells #[.bool b, .bool o, .string s, .int .i64 q, .string t, .slice A4 l.length cap4] 31))
  replace ow := Lib.hid (ow.out.alloc (.cells #[.bool b, .bool o, .string s, .int .i64 q, .string t, .slice A4 l.length cap4] 31))
  replace o4 := Lib.hid (o4.out.alloc (.cells #[.bool b, .bool o, .string s, .int .i64 q, .string t, .slice A4 l.length cap4] 31))
  have hx := Lib.hid (show Blk (w4.alloc (.cells #[.bool b, .bool o, .string s, .int .i64 q, .string t, .slice A4 l.length cap4] 31)) w4.heap.size 31 [.bool b, .bool o, .string s, .int .i64 q, .string t, .slice A4 l.length cap4] from heap_alloc_new w4 (.cells #[.bool b, .bool o, .string s, .int .i64 q, .string t, .slice A4 l.length cap4] 31))
  clear hB0 hB1 hB2 hB3 hB4 hB5 hBl
  obtain ⟨hB0, hB1, hB2, hB3, hB4, hB5, -, -, -, -, -, -⟩ := hB.out.six; have hBl := hB.out.lt
  clear bw0 bw1 bw2 bw3 bw4 bw5 bwl
  obtain ⟨bw0, bw1, bw2, bw3, bw4, bw5, -, -, -, -, -, -⟩ := bw.out.six; have bwl := bw.out.lt
  obtain ⟨hx0, hx1, hx2, hx3, hx4, hx5, -, -, -, -, -, -⟩ := hx.out.six; have hxl := hx.out.lt
  go_wp2_with (go_at_call 17; refine (hIM.out _ _ o4.out.ints).mono ?_; rintro e5 w5 ⟨A1, cap1, rfl, ho1, hb5⟩; replace hW := Lib.hid (Below.then_ hW.out hb5 (Nat.le_refl _)); replace hB := Lib.hid (hB.out.up hb5); replace bw := Lib.hid (bw.out.up hb5); replace hx := Lib.hid (hx.out.up hb5); replace ow := Lib.hid (ow.out.below hb5); replace o4 := Lib.hid (o4.out.below hb5); clear hB0 hB1 hB2 hB3 hB4 hB5 hBl; obtain ⟨hB0, hB1, hB2, hB3, hB4, hB5, -, -, -, -, -, -⟩ := hB.out.six; have hBl := hB.out.lt; clear bw0 bw1 bw2 bw3 bw4 bw5 bwl; obtain ⟨bw0, bw1, bw2, bw3, bw4, bw5, -, -, -, -, -, -⟩ := bw.out.six; have bwl := bw.out.lt; clear hx0 hx1 hx2 hx3 hx4 hx5 hxl; obtain ⟨hx0, hx1, hx2, hx3, hx4, hx5, -, -, -, -, -, -⟩ := hx.out.six; have hxl := hx.out.lt; have z5 := Lib.hid (show w4.heap.size + 1 ≤ w5.heap.size from Nat.le_trans (by simp) hb5.size); have og := Lib.hid (show Own2 w5 (w4.heap.size + 1) w5.heap.size (.slice A1 l.length cap1) l from Own2.new ho1 (by simp)); clear ho1; replace hb5 := Lib.hid hb5)
  replace hW := Lib.hid (hW.out.alloc hW.out.size (.cells #[.bool B, .bool o, .string s, .int .i64 q, .string t, .slice A1 l.length cap1] 31))
  replace hB := Lib.hid (hB.out.alloc (.cells #[.bool B, .bool o, .string s, .int .i64 q, .string t, .slice A1 l.length cap1] 31))
  replace bw := Lib.hid (bw.out.alloc (.cells #[.bool B, .bool o, .string s, .int .i64 q, .string t, .slice A1 l.length cap1] 31))
  replace hx := Lib.hid (hx.out.alloc (.cells #[.bool B, .bool o, .string s, .int .i64 q, .string t, .slice A1 l.length cap1] 31))
  replace ow := Lib.hid (ow.out.alloc (.cells #[.bool B, .bool o, .string s, .int .i64 q, .string t, .slice A1 l.length cap1] 31))
  replace o4 := Lib.hid (o4.out.alloc (.cells #[.bool B, .bool o, .string s, .int .i64 q, .string t, .slice A1 l.length cap1] 31))
  replace og := Lib.hid (og.out.alloc (.cells #[.bool B, .bool o, .string s, .int .i64 q, .string t, .slice A1 l.length cap1] 31))
  have bg := Lib.hid (show Blk (w5.alloc (.cells #[.bool B, .bool o, .string s, .int .i64 q, .string t, .slice A1 l.length cap1] 31)) w5.heap.size 31 [.bool B, .bool o, .string s, .int .i64 q, .string t, .slice A1 l.length cap1] from heap_alloc_new w5 (.cells #[.bool B, .bool o, .string s, .int .i64 q, .string t, .slice A1 l.length cap1] 31))
  clear hB0 hB1 hB2 hB3 hB4 hB5 hBl
  obtain ⟨hB0, hB1, hB2, hB3, hB4, hB5, -, -, -, -, -, -⟩ := hB.out.six; have hBl := hB.out.lt
  clear bw0 bw1 bw2 bw3 bw4 bw5 bwl
  obtain ⟨bw0, bw1, bw2, bw3, bw4, bw5, -, -, -, -, -, -⟩ := bw.out.six; have bwl := bw.out.lt
  clear hx0 hx1 hx2 hx3 hx4 hx5 hxl
  obtain ⟨hx0, hx1, hx2, hx3, hx4, hx5, -, -, -, -, -, -⟩ := hx.out.six; have hxl := hx.out.lt
  obtain ⟨bg0, bg1, bg2, bg3, bg4, bg5, -, -, -, -, -, -⟩ := bg.out.six; have bgl := bg.out.lt
  go_wp2_with (go_at_call 11; refine (eqSeat_same B o s q t _ _ l _ og.out.ints ow.out.ints).mono ?_; rintro e6 w6 ⟨rfl, hb6⟩; replace hW := Lib.hid (Below.then_ hW.out hb6 (Nat.le_refl _)); replace hB := Lib.hid (hB.out.up hb6); replace bw := Lib.hid (bw.out.up hb6); replace hx := Lib.hid (hx.out.up hb6); replace bg := Lib.hid (bg.out.up hb6); replace ow := Lib.hid (ow.out.below hb6); replace o4 := Lib.hid (o4.out.below hb6); replace og := Lib.hid (og.out.below hb6); clear hB0 hB1 hB2 hB3 hB4 hB5 hBl; obtain ⟨hB0, hB1, hB2, hB3, hB4, hB5, -, -, -, -, -, -⟩ := hB.out.six; have hBl := hB.out.lt; clear bw0 bw1 bw2 bw3 bw4 bw5 bwl; obtain ⟨bw0, bw1, bw2, bw3, bw4, bw5, -, -, -, -, -, -⟩ := bw.out.six; have bwl := bw.out.lt; clear hx0 hx1 hx2 hx3 hx4 hx5 hxl; obtain ⟨hx0, hx1, hx2, hx3, hx4, hx5, -, -, -, -, -, -⟩ := hx.out.six; have hxl := hx.out.lt; clear bg0 bg1 bg2 bg3 bg4 bg5 bgl; obtain ⟨bg0, bg1, bg2, bg3, bg4, bg5, -, -, -, -, -, -⟩ := bg.out.six; have bgl := bg.out.lt; have z6 := Lib.hid (show w5.heap.size + 1 ≤ w6.heap.size from Nat.le_trans (by simp) hb6.size); replace hb6 := Lib.hid hb6)
  replace hW := Lib.hid (below_drew' hW.out)
  replace hB := Lib.hid hB.out.drew
  replace bw := Lib.hid bw.out.drew
  replace hx := Lib.hid hx.out.drew
  replace bg := Lib.hid bg.out.drew
  replace ow := Lib.hid ow.out.drew
  replace o4 := Lib.hid o4.out.drew
  replace og := Lib.hid og.out.drew
  clear hB0 hB1 hB2 hB3 hB4 hB5 hBl
  obtain ⟨hB0, hB1, hB2, hB3, hB4, hB5, -, -, -, -, -, -⟩ := hB.out.six; have hBl := hB.out.lt
  clear bw0 bw1 bw2 bw3 bw4 bw5 bwl
  obtain ⟨bw0, bw1, bw2, bw3, bw4, bw5, -, -, -, -, -, -⟩ := bw.out.six; have bwl := bw.out.lt
  clear hx0 hx1 hx2 hx3 hx4 hx5 hxl
  obtain ⟨hx0, hx1, hx2, hx3, hx4, hx5, -, -, -, -, -, -⟩ := hx.out.six; have hxl := hx.out.lt
  clear bg0 bg1 bg2 bg3 bg4 bg5 bgl
  obtain ⟨bg0, bg1, bg2, bg3, bg4, bg5, -, -, -, -, -, -⟩ := bg.out.six; have bgl := bg.out.lt
  go_region_held3 (fun w' => w'.cell? ⟨w.heap.size, 0, none⟩ = some (.bool b) ∧ w'.cell? ⟨w.heap.size, 1, none⟩ = some (.bool o) ∧ w'.cell? ⟨w.heap.size, 2, none⟩ = some (.string s) ∧ w'.cell? ⟨w.heap.size, 3, none⟩ = some (.int .i64 q) ∧ w'.cell? ⟨w.heap.size, 4, none⟩ = some (.string t) ∧ w'.cell? ⟨w.heap.size, 5, none⟩ = some (.slice A l.length cap) ∧ w'.cell? ⟨w4.heap.size, 0, none⟩ = some (.bool b) ∧ w'.cell? ⟨w4.heap.size, 1, none⟩ = some (.bool o) ∧ w'.cell? ⟨w4.heap.size, 2, none⟩ = some (.string s) ∧ w'.cell? ⟨w4.heap.size, 3, none⟩ = some (.int .i64 q) ∧ w'.cell? ⟨w4.heap.size, 4, none⟩ = some (.string t) ∧ w'.cell? ⟨w4.heap.size, 5, none⟩ = some (.slice A4 l.length cap4)) (first | exact ⟨hB0, hB1, hB2, hB3, hB4, hB5, hx0, hx1, hx2, hx3, hx4, hx5⟩ | go_keep)
    (first
      | (go_at_call 9; refine (toSeat_any b o s q t _ l _ (hv0.out.below hW.out)).mono ?_; rintro e7 w7 ⟨A6, cap6, rfl, ho6, hb7⟩; replace hW := Lib.hid (Below.then_ hW.out hb7 (Nat.le_refl _)); replace hB := Lib.hid (hB.out.up hb7); replace bw := Lib.hid (bw.out.up hb7); replace hx := Lib.hid (hx.out.up hb7); replace bg := Lib.hid (bg.out.up hb7); replace ow := Lib.hid (ow.out.below hb7); replace o4 := Lib.hid (o4.out.below hb7); replace og := Lib.hid (og.out.below hb7); clear hB0 hB1 hB2 hB3 hB4 hB5 hBl; obtain ⟨hB0, hB1, hB2, hB3, hB4, hB5, -, -, -, -, -, -⟩ := hB.out.six; have hBl := hB.out.lt; clear bw0 bw1 bw2 bw3 bw4 bw5 bwl; obtain ⟨bw0, bw1, bw2, bw3, bw4, bw5, -, -, -, -, -, -⟩ := bw.out.six; have bwl := bw.out.lt; clear hx0 hx1 hx2 hx3 hx4 hx5 hxl; obtain ⟨hx0, hx1, hx2, hx3, hx4, hx5, -, -, -, -, -, -⟩ := hx.out.six; have hxl := hx.out.lt; clear bg0 bg1 bg2 bg3 bg4 bg5 bgl; obtain ⟨bg0, bg1, bg2, bg3, bg4, bg5, -, -, -, -, -, -⟩ := bg.out.six; have bgl := bg.out.lt; have z7 := Lib.hid (show w6.heap.size ≤ w7.heap.size from Nat.le_trans (Nat.le_refl _) hb7.size); have o6 := Lib.hid (show Own2 w7 (w6.heap.size) w7.heap.size (.slice A6 l.length cap6) l from Own2.new ho6 (Nat.le_refl _)); clear ho6; replace hb7 := Lib.hid hb7)
      | (go_at_call 11; refine (eqSeat_same b o s q t _ _ l _ o4.out.ints o6.out.ints).mono ?_; rintro e8 w8 ⟨rfl, hb8⟩; replace hW := Lib.hid (Below.then_ hW.out hb8 (Nat.le_refl _)); replace hB := Lib.hid (hB.out.up hb8); replace bw := Lib.hid (bw.out.up hb8); replace hx := Lib.hid (hx.out.up hb8); replace bg := Lib.hid (bg.out.up hb8); replace ow := Lib.hid (ow.out.below hb8); replace o4 := Lib.hid (o4.out.below hb8); replace og := Lib.hid (og.out.below hb8); replace o6 := Lib.hid (o6.out.below hb8); clear hB0 hB1 hB2 hB3 hB4 hB5 hBl; obtain ⟨hB0, hB1, hB2, hB3, hB4, hB5, -, -, -, -, -, -⟩ := hB.out.six; have hBl := hB.out.lt; clear bw0 bw1 bw2 bw3 bw4 bw5 bwl; obtain ⟨bw0, bw1, bw2, bw3, bw4, bw5, -, -, -, -, -, -⟩ := bw.out.six; have bwl := bw.out.lt; clear hx0 hx1 hx2 hx3 hx4 hx5 hxl; obtain ⟨hx0, hx1, hx2, hx3, hx4, hx5, -, -, -, -, -, -⟩ := hx.out.six; have hxl := hx.out.lt; clear bg0 bg1 bg2 bg3 bg4 bg5 bgl; obtain ⟨bg0, bg1, bg2, bg3, bg4, bg5, -, -, -, -, -, -⟩ := bg.out.six; have bgl := bg.out.lt; have z8 := Lib.hid (show w7.heap.size ≤ w8.heap.size from Nat.le_trans (Nat.le_refl _) hb8.size); replace hb8 := Lib.hid hb8))
  clear o6
  go_wp2_with (go_at_call 14; refine (markSeat_one b o s q t _ l _ _ o4.out.1).mono ?_; rintro e9 w9 ⟨rfl, ho, hg⟩; replace hW := Lib.hid (o4.out.stays hg hW.out (by have := z1.out; have := z2.out; have := z3.out; have := z4.out; have := z5.out; have := z6.out; have := z7.out; have := z8.out; omega)); replace hB := Lib.hid (o4.out.blk hg hB.out (by have := z1.out; have := z2.out; have := z3.out; have := z4.out; have := z5.out; have := z6.out; have := z7.out; have := z8.out; omega)); replace bw := Lib.hid (o4.out.blk hg bw.out (by have := z1.out; have := z2.out; have := z3.out; have := z4.out; have := z5.out; have := z6.out; have := z7.out; have := z8.out; omega)); replace hx := Lib.hid (o4.out.blk hg hx.out (by have := z1.out; have := z2.out; have := z3.out; have := z4.out; have := z5.out; have := z6.out; have := z7.out; have := z8.out; omega)); replace bg := Lib.hid (o4.out.blk hg bg.out (by have := z1.out; have := z2.out; have := z3.out; have := z4.out; have := z5.out; have := z6.out; have := z7.out; have := z8.out; omega)); replace ow := Lib.hid (ow.out.apart hg o4.out (by have := z1.out; have := z2.out; have := z3.out; have := z4.out; have := z5.out; have := z6.out; have := z7.out; have := z8.out; omega)); replace og := Lib.hid (og.out.apart hg o4.out (by have := z1.out; have := z2.out; have := z3.out; have := z4.out; have := z5.out; have := z6.out; have := z7.out; have := z8.out; omega)); have z9 := Lib.hid (show w8.heap.size ≤ w9.heap.size from Nat.le_trans (Nat.le_refl _) hg.size); replace o4 := Lib.hid (o4.out.marked ho); clear ho hg; rw [← hK1.out]; clear hB0 hB1 hB2 hB3 hB4 hB5 hBl; obtain ⟨hB0, hB1, hB2, hB3, hB4, hB5, -, -, -, -, -, -⟩ := hB.out.six; have hBl := hB.out.lt; clear bw0 bw1 bw2 bw3 bw4 bw5 bwl; obtain ⟨bw0, bw1, bw2, bw3, bw4, bw5, -, -, -, -, -, -⟩ := bw.out.six; have bwl := bw.out.lt; clear hx0 hx1 hx2 hx3 hx4 hx5 hxl; obtain ⟨hx0, hx1, hx2, hx3, hx4, hx5, -, -, -, -, -, -⟩ := hx.out.six; have hxl := hx.out.lt; clear bg0 bg1 bg2 bg3 bg4 bg5 bgl; obtain ⟨bg0, bg1, bg2, bg3, bg4, bg5, -, -, -, -, -, -⟩ := bg.out.six; have bgl := bg.out.lt)
  go_wp2_with (go_at_call 11; refine (eqSeat_same B o s q t _ _ l _ og.out.ints ow.out.ints).mono ?_; rintro e10 w10 ⟨rfl, hb10⟩; replace hW := Lib.hid (Below.then_ hW.out hb10 (Nat.le_refl _)); replace hB := Lib.hid (hB.out.up hb10); replace bw := Lib.hid (bw.out.up hb10); replace hx := Lib.hid (hx.out.up hb10); replace bg := Lib.hid (bg.out.up hb10); replace ow := Lib.hid (ow.out.below hb10); replace o4 := Lib.hid (o4.out.below hb10); replace og := Lib.hid (og.out.below hb10); clear hB0 hB1 hB2 hB3 hB4 hB5 hBl; obtain ⟨hB0, hB1, hB2, hB3, hB4, hB5, -, -, -, -, -, -⟩ := hB.out.six; have hBl := hB.out.lt; clear bw0 bw1 bw2 bw3 bw4 bw5 bwl; obtain ⟨bw0, bw1, bw2, bw3, bw4, bw5, -, -, -, -, -, -⟩ := bw.out.six; have bwl := bw.out.lt; clear hx0 hx1 hx2 hx3 hx4 hx5 hxl; obtain ⟨hx0, hx1, hx2, hx3, hx4, hx5, -, -, -, -, -, -⟩ := hx.out.six; have hxl := hx.out.lt; clear bg0 bg1 bg2 bg3 bg4 bg5 bgl; obtain ⟨bg0, bg1, bg2, bg3, bg4, bg5, -, -, -, -, -, -⟩ := bg.out.six; have bgl := bg.out.lt; have z10 := Lib.hid (show w9.heap.size ≤ w10.heap.size from Nat.le_trans (Nat.le_refl _) hb10.size); replace hb10 := Lib.hid hb10)
  go_wp2_with (go_at_call 14; refine (markSeat_one B o s q t _ l _ _ og.out.1).mono ?_; rintro e11 w11 ⟨rfl, ho, hg⟩; replace hW := Lib.hid (og.out.stays hg hW.out (by have := z1.out; have := z2.out; have := z3.out; have := z4.out; have := z5.out; have := z6.out; have := z7.out; have := z8.out; have := z9.out; have := z10.out; omega)); replace hB := Lib.hid (og.out.blk hg hB.out (by have := z1.out; have := z2.out; have := z3.out; have := z4.out; have := z5.out; have := z6.out; have := z7.out; have := z8.out; have := z9.out; have := z10.out; omega)); replace bw := Lib.hid (og.out.blk hg bw.out (by have := z1.out; have := z2.out; have := z3.out; have := z4.out; have := z5.out; have := z6.out; have := z7.out; have := z8.out; have := z9.out; have := z10.out; omega)); replace hx := Lib.hid (og.out.blk hg hx.out (by have := z1.out; have := z2.out; have := z3.out; have := z4.out; have := z5.out; have := z6.out; have := z7.out; have := z8.out; have := z9.out; have := z10.out; omega)); replace bg := Lib.hid (og.out.blk hg bg.out (by have := z1.out; have := z2.out; have := z3.out; have := z4.out; have := z5.out; have := z6.out; have := z7.out; have := z8.out; have := z9.out; have := z10.out; omega)); replace ow := Lib.hid (ow.out.apart hg og.out (by have := z1.out; have := z2.out; have := z3.out; have := z4.out; have := z5.out; have := z6.out; have := z7.out; have := z8.out; have := z9.out; have := z10.out; omega)); replace o4 := Lib.hid (o4.out.apart hg og.out (by have := z1.out; have := z2.out; have := z3.out; have := z4.out; have := z5.out; have := z6.out; have := z7.out; have := z8.out; have := z9.out; have := z10.out; omega)); have z11 := Lib.hid (show w10.heap.size ≤ w11.heap.size from Nat.le_trans (Nat.le_refl _) hg.size); replace og := Lib.hid (og.out.marked ho); clear ho hg; rw [← hK1.out]; clear hB0 hB1 hB2 hB3 hB4 hB5 hBl; obtain ⟨hB0, hB1, hB2, hB3, hB4, hB5, -, -, -, -, -, -⟩ := hB.out.six; have hBl := hB.out.lt; clear bw0 bw1 bw2 bw3 bw4 bw5 bwl; obtain ⟨bw0, bw1, bw2, bw3, bw4, bw5, -, -, -, -, -, -⟩ := bw.out.six; have bwl := bw.out.lt; clear hx0 hx1 hx2 hx3 hx4 hx5 hxl; obtain ⟨hx0, hx1, hx2, hx3, hx4, hx5, -, -, -, -, -, -⟩ := hx.out.six; have hxl := hx.out.lt; clear bg0 bg1 bg2 bg3 bg4 bg5 bgl; obtain ⟨bg0, bg1, bg2, bg3, bg4, bg5, -, -, -, -, -, -⟩ := bg.out.six; have bgl := bg.out.lt)
  go_wp2_with (go_at_call 15; refine (heldSeat_one B o s q t _ l.length _ og.out.ints).mono ?_; rintro e12 w12 ⟨rfl, hb12⟩; replace hW := Lib.hid (Below.then_ hW.out hb12 (Nat.le_refl _)); replace hB := Lib.hid (hB.out.up hb12); replace bw := Lib.hid (bw.out.up hb12); replace hx := Lib.hid (hx.out.up hb12); replace bg := Lib.hid (bg.out.up hb12); replace ow := Lib.hid (ow.out.below hb12); replace o4 := Lib.hid (o4.out.below hb12); replace og := Lib.hid (og.out.below hb12); clear hB0 hB1 hB2 hB3 hB4 hB5 hBl; obtain ⟨hB0, hB1, hB2, hB3, hB4, hB5, -, -, -, -, -, -⟩ := hB.out.six; have hBl := hB.out.lt; clear bw0 bw1 bw2 bw3 bw4 bw5 bwl; obtain ⟨bw0, bw1, bw2, bw3, bw4, bw5, -, -, -, -, -, -⟩ := bw.out.six; have bwl := bw.out.lt; clear hx0 hx1 hx2 hx3 hx4 hx5 hxl; obtain ⟨hx0, hx1, hx2, hx3, hx4, hx5, -, -, -, -, -, -⟩ := hx.out.six; have hxl := hx.out.lt; clear bg0 bg1 bg2 bg3 bg4 bg5 bgl; obtain ⟨bg0, bg1, bg2, bg3, bg4, bg5, -, -, -, -, -, -⟩ := bg.out.six; have bgl := bg.out.lt; have z12 := Lib.hid (show w11.heap.size ≤ w12.heap.size from Nat.le_trans (Nat.le_refl _) hb12.size); rw [← hK1.out]; replace hb12 := Lib.hid hb12)
  go_wp2_with (go_at_call 9; refine (toSeat_any b o s q t _ l _ (hv0.out.below hW.out)).mono ?_; rintro e13 w13 ⟨A7, cap7, rfl, ho7, hb13⟩; replace hW := Lib.hid (Below.then_ hW.out hb13 (Nat.le_refl _)); replace hB := Lib.hid (hB.out.up hb13); replace bw := Lib.hid (bw.out.up hb13); replace hx := Lib.hid (hx.out.up hb13); replace bg := Lib.hid (bg.out.up hb13); replace ow := Lib.hid (ow.out.below hb13); replace o4 := Lib.hid (o4.out.below hb13); replace og := Lib.hid (og.out.below hb13); clear hB0 hB1 hB2 hB3 hB4 hB5 hBl; obtain ⟨hB0, hB1, hB2, hB3, hB4, hB5, -, -, -, -, -, -⟩ := hB.out.six; have hBl := hB.out.lt; clear bw0 bw1 bw2 bw3 bw4 bw5 bwl; obtain ⟨bw0, bw1, bw2, bw3, bw4, bw5, -, -, -, -, -, -⟩ := bw.out.six; have bwl := bw.out.lt; clear hx0 hx1 hx2 hx3 hx4 hx5 hxl; obtain ⟨hx0, hx1, hx2, hx3, hx4, hx5, -, -, -, -, -, -⟩ := hx.out.six; have hxl := hx.out.lt; clear bg0 bg1 bg2 bg3 bg4 bg5 bgl; obtain ⟨bg0, bg1, bg2, bg3, bg4, bg5, -, -, -, -, -, -⟩ := bg.out.six; have bgl := bg.out.lt; have z13 := Lib.hid (show w12.heap.size ≤ w13.heap.size from Nat.le_trans (Nat.le_refl _) hb13.size); have o7 := Lib.hid (show Own2 w13 (w12.heap.size) w13.heap.size (.slice A7 l.length cap7) l from Own2.new ho7 (Nat.le_refl _)); clear ho7; replace hb13 := Lib.hid hb13)
  go_wp2_with (go_at_call 17; refine (hIM.out _ _ o7.out.ints).mono ?_; rintro e14 w14 ⟨A8, cap8, rfl, ho8, hb14⟩; replace hW := Lib.hid (Below.then_ hW.out hb14 (Nat.le_refl _)); replace hB := Lib.hid (hB.out.up hb14); replace bw := Lib.hid (bw.out.up hb14); replace hx := Lib.hid (hx.out.up hb14); replace bg := Lib.hid (bg.out.up hb14); replace ow := Lib.hid (ow.out.below hb14); replace o4 := Lib.hid (o4.out.below hb14); replace og := Lib.hid (og.out.below hb14); replace o7 := Lib.hid (o7.out.below hb14); clear hB0 hB1 hB2 hB3 hB4 hB5 hBl; obtain ⟨hB0, hB1, hB2, hB3, hB4, hB5, -, -, -, -, -, -⟩ := hB.out.six; have hBl := hB.out.lt; clear bw0 bw1 bw2 bw3 bw4 bw5 bwl; obtain ⟨bw0, bw1, bw2, bw3, bw4, bw5, -, -, -, -, -, -⟩ := bw.out.six; have bwl := bw.out.lt; clear hx0 hx1 hx2 hx3 hx4 hx5 hxl; obtain ⟨hx0, hx1, hx2, hx3, hx4, hx5, -, -, -, -, -, -⟩ := hx.out.six; have hxl := hx.out.lt; clear bg0 bg1 bg2 bg3 bg4 bg5 bgl; obtain ⟨bg0, bg1, bg2, bg3, bg4, bg5, -, -, -, -, -, -⟩ := bg.out.six; have bgl := bg.out.lt; have z14 := Lib.hid (show w13.heap.size ≤ w14.heap.size from Nat.le_trans (Nat.le_refl _) hb14.size); have oh := Lib.hid (show Own2 w14 (w13.heap.size) w14.heap.size (.slice A8 l.length cap8) l from Own2.new ho8 (Nat.le_refl _)); clear ho8; replace hb14 := Lib.hid hb14)
  replace hW := Lib.hid (hW.out.alloc hW.out.size (.cells #[.bool B, .bool o, .string s, .int .i64 q, .string t, .slice A8 l.length cap8] 31))
  replace hB := Lib.hid (hB.out.alloc (.cells #[.bool B, .bool o, .string s, .int .i64 q, .string t, .slice A8 l.length cap8] 31))
  replace bw := Lib.hid (bw.out.alloc (.cells #[.bool B, .bool o, .string s, .int .i64 q, .string t, .slice A8 l.length cap8] 31))
  replace hx := Lib.hid (hx.out.alloc (.cells #[.bool B, .bool o, .string s, .int .i64 q, .string t, .slice A8 l.length cap8] 31))
  replace bg := Lib.hid (bg.out.alloc (.cells #[.bool B, .bool o, .string s, .int .i64 q, .string t, .slice A8 l.length cap8] 31))
  replace ow := Lib.hid (ow.out.alloc (.cells #[.bool B, .bool o, .string s, .int .i64 q, .string t, .slice A8 l.length cap8] 31))
  replace o4 := Lib.hid (o4.out.alloc (.cells #[.bool B, .bool o, .string s, .int .i64 q, .string t, .slice A8 l.length cap8] 31))
  replace og := Lib.hid (og.out.alloc (.cells #[.bool B, .bool o, .string s, .int .i64 q, .string t, .slice A8 l.length cap8] 31))
  replace o7 := Lib.hid (o7.out.alloc (.cells #[.bool B, .bool o, .string s, .int .i64 q, .string t, .slice A8 l.length cap8] 31))
  replace oh := Lib.hid (oh.out.alloc (.cells #[.bool B, .bool o, .string s, .int .i64 q, .string t, .slice A8 l.length cap8] 31))
  have bh := Lib.hid (show Blk (w14.alloc (.cells #[.bool B, .bool o, .string s, .int .i64 q, .string t, .slice A8 l.length cap8] 31)) w14.heap.size 31 [.bool B, .bool o, .string s, .int .i64 q, .string t, .slice A8 l.length cap8] from heap_alloc_new w14 (.cells #[.bool B, .bool o, .string s, .int .i64 q, .string t, .slice A8 l.length cap8] 31))
  clear hB0 hB1 hB2 hB3 hB4 hB5 hBl
  obtain ⟨hB0, hB1, hB2, hB3, hB4, hB5, -, -, -, -, -, -⟩ := hB.out.six; have hBl := hB.out.lt
  clear bw0 bw1 bw2 bw3 bw4 bw5 bwl
  obtain ⟨bw0, bw1, bw2, bw3, bw4, bw5, -, -, -, -, -, -⟩ := bw.out.six; have bwl := bw.out.lt
  clear hx0 hx1 hx2 hx3 hx4 hx5 hxl
  obtain ⟨hx0, hx1, hx2, hx3, hx4, hx5, -, -, -, -, -, -⟩ := hx.out.six; have hxl := hx.out.lt
  clear bg0 bg1 bg2 bg3 bg4 bg5 bgl
  obtain ⟨bg0, bg1, bg2, bg3, bg4, bg5, -, -, -, -, -, -⟩ := bg.out.six; have bgl := bg.out.lt
  obtain ⟨bh0, bh1, bh2, bh3, bh4, bh5, -, -, -, -, -, -⟩ := bh.out.six; have bhl := bh.out.lt
  go_wp2_with (go_at_call 11; refine (eqSeat_same B o s q t _ _ l _ oh.out.ints ow.out.ints).mono ?_; rintro e15 w15 ⟨rfl, hb15⟩; replace hW := Lib.hid (Below.then_ hW.out hb15 (Nat.le_refl _)); replace hB := Lib.hid (hB.out.up hb15); replace bw := Lib.hid (bw.out.up hb15); replace hx := Lib.hid (hx.out.up hb15); replace bg := Lib.hid (bg.out.up hb15); replace bh := Lib.hid (bh.out.up hb15); replace ow := Lib.hid (ow.out.below hb15); replace o4 := Lib.hid (o4.out.below hb15); replace og := Lib.hid (og.out.below hb15); replace o7 := Lib.hid (o7.out.below hb15); replace oh := Lib.hid (oh.out.below hb15); clear hB0 hB1 hB2 hB3 hB4 hB5 hBl; obtain ⟨hB0, hB1, hB2, hB3, hB4, hB5, -, -, -, -, -, -⟩ := hB.out.six; have hBl := hB.out.lt; clear bw0 bw1 bw2 bw3 bw4 bw5 bwl; obtain ⟨bw0, bw1, bw2, bw3, bw4, bw5, -, -, -, -, -, -⟩ := bw.out.six; have bwl := bw.out.lt; clear hx0 hx1 hx2 hx3 hx4 hx5 hxl; obtain ⟨hx0, hx1, hx2, hx3, hx4, hx5, -, -, -, -, -, -⟩ := hx.out.six; have hxl := hx.out.lt; clear bg0 bg1 bg2 bg3 bg4 bg5 bgl; obtain ⟨bg0, bg1, bg2, bg3, bg4, bg5, -, -, -, -, -, -⟩ := bg.out.six; have bgl := bg.out.lt; clear bh0 bh1 bh2 bh3 bh4 bh5 bhl; obtain ⟨bh0, bh1, bh2, bh3, bh4, bh5, -, -, -, -, -, -⟩ := bh.out.six; have bhl := bh.out.lt; have z15 := Lib.hid (show w14.heap.size + 1 ≤ w15.heap.size from Nat.le_trans (by simp) hb15.size); replace hb15 := Lib.hid hb15)
  go_wp2_with (go_at_call 15; refine (heldSeat_one B o s q t _ l.length _ og.out.ints).mono ?_; rintro e16 w16 ⟨rfl, hb16⟩; replace hW := Lib.hid (Below.then_ hW.out hb16 (Nat.le_refl _)); replace hB := Lib.hid (hB.out.up hb16); replace bw := Lib.hid (bw.out.up hb16); replace hx := Lib.hid (hx.out.up hb16); replace bg := Lib.hid (bg.out.up hb16); replace bh := Lib.hid (bh.out.up hb16); replace ow := Lib.hid (ow.out.below hb16); replace o4 := Lib.hid (o4.out.below hb16); replace og := Lib.hid (og.out.below hb16); replace o7 := Lib.hid (o7.out.below hb16); replace oh := Lib.hid (oh.out.below hb16); clear hB0 hB1 hB2 hB3 hB4 hB5 hBl; obtain ⟨hB0, hB1, hB2, hB3, hB4, hB5, -, -, -, -, -, -⟩ := hB.out.six; have hBl := hB.out.lt; clear bw0 bw1 bw2 bw3 bw4 bw5 bwl; obtain ⟨bw0, bw1, bw2, bw3, bw4, bw5, -, -, -, -, -, -⟩ := bw.out.six; have bwl := bw.out.lt; clear hx0 hx1 hx2 hx3 hx4 hx5 hxl; obtain ⟨hx0, hx1, hx2, hx3, hx4, hx5, -, -, -, -, -, -⟩ := hx.out.six; have hxl := hx.out.lt; clear bg0 bg1 bg2 bg3 bg4 bg5 bgl; obtain ⟨bg0, bg1, bg2, bg3, bg4, bg5, -, -, -, -, -, -⟩ := bg.out.six; have bgl := bg.out.lt; clear bh0 bh1 bh2 bh3 bh4 bh5 bhl; obtain ⟨bh0, bh1, bh2, bh3, bh4, bh5, -, -, -, -, -, -⟩ := bh.out.six; have bhl := bh.out.lt; have z16 := Lib.hid (show w15.heap.size ≤ w16.heap.size from Nat.le_trans (Nat.le_refl _) hb16.size); rw [← hK1.out]; replace hb16 := Lib.hid hb16)
  go_ret
  exact ⟨rfl, hW.out⟩
theorem walk (b o : Bool) (s : ByteArray) (hs : s.size ≤ maxLen) (q : Int) (_hq : -9223372036854775808 ≤ q ∧ q ≤ 9223372036854775807) (t : ByteArray) (ht : t.size ≤ maxLen) (A : Option Addr) (len cap : Nat) (hl : len ≤ maxLen) (e : Bool) (w : World) (hI : len ≤ 1048576 → ∃ l : List Int, l.length = len ∧ Ints w (.slice A len cap) l) :
    Calls Try.prog 5 #[.agg #[.bool b, .bool o, .string s, .int .i64 q, .string t, .slice A len cap], .bool e] w fun e w' => e = .returned (.bool true) ∧ Below w.heap.size w w' := by
  by_cases h : s.size + (t.size + len) ≤ 1048576
  · obtain ⟨l, rfl, hv⟩ := hI (by omega)
    exact walkIn b o s q t A l cap e w h hv
  · exact walk_big b o s q t hs ht A len cap hl e w h

theorem own : ownKnob Try.prog.godebug = none := by kernel_rfl
theorem laidOut : laidOutB Try.prog = true := by kernel_rfl
set_option maxRecDepth 100000 in
theorem lifted (os : Os) (started : os.Started) (H : Type) (enc : TypeId × Value → H) :
    ReturnsInHanded {} Try.checked os 5 .any (Rows.fnExactTurnSpec.pre6 enc Try.prog Try.f5 Rows.fnExactTurnRow.domain false) (Rows.fnExactTurnSpec.post enc Try.prog Try.f5 false true false false) := by
  refine returnsInHanded_of_change (C := Try.checked) own started (by kernel_rfl) Try.func5
    (ChangeSpec.witness6 (enc := enc) (C := Try.checked) false ⟨#[], #[.agg #[.bool false, .bool false, .string ByteArray.empty, .int .i64 0, .string ByteArray.empty, .slice none 0 0], .bool false], []⟩ 8 (by kernel_rfl) (by kernel_rfl) (by kernel_rfl) (by kernel_rfl)) ?_
  intro W base args ds gs before hval0 hW hcnd _
  have hval : ∀ (j : Nat) t v, Try.f5.params[j]? = some t → args[j]? = some v → Value.okWide Try.prog W .any base t v := hval0
  have hW' := hW
  obtain ⟨p, q, hA0, hV, rfl, hfz, hnd⟩ := hW
  have hA : DataW.TrodAll enc Try.prog W 0 (fun _ => true) true Try.f5.params.toList args.toList ds p := hA0
  rw [Try.params5] at hA hval
  obtain ⟨v0, vs0, d0, ds0, p0, q0, hargs, rfl, rfl, h0, r0⟩ := trodAll_cons hA
  obtain ⟨v1, vs1, d1, ds1, p1, q1, rfl, rfl, rfl, h1, r1⟩ := trodAll_cons r0
  obtain ⟨rfl, rfl, rfl⟩ := trodAll_nil r1
  obtain rfl : args = #[v0, v1] := by cases args; simp_all
  obtain ⟨rfl, rfl⟩ := trodVars_none hV
  have k0 := h0
  have lt0 : ∀ x ∈ p0, x.block < W.heap.size := by obtain ⟨m, hm⟩ := k0; exact DataW.trod_lt m _ _ _ hm
  obtain ⟨b0, o0, s0, n0, t0, A0, len0, cap0, rfl, w0, z0, u0, hm0, hI0⟩ := seat_open (hval 0 26 v0 rfl rfl) h0
  obtain ⟨a1, rfl, rfl, rfl⟩ := open_bool Try.underlying4 (hval 1 4 v1 rfl rfl) h1
  clear hA0 hval0
  refine (walk b0 o0 s0 w0 n0 z0 t0 u0 A0 len0 cap0 hm0 a1 W hI0).mono fun e W' ⟨he, bel⟩ => ?_
  subst he
  exact ⟨_, rfl, _, _, _, [], _, [], hW', trodAll_mk1 (shut_bool Try.underlying4 _), (trodAll_cons_mk (Below.trod laidOut (by kernel_rfl) (of_decide_eq_true (by kernel_rfl)) k0 bel lt0) (trodAll_cons_mk (shut_bool Try.underlying4 a1) trodAll_mk0)), rfl, bel.frame _, fun h => by cases h⟩

theorem over : Rows.fnExactTurnRow.holds Try.pinned (OpenSpec.ofChange Rows.fnExactTurnSpec) :=
  OpenClaim.holds_of_wide 5 Try.f5 rfl rfl rfl rfl rfl rfl rfl ⟨rfl, rfl, rfl, rfl, rfl⟩ rfl rfl rfl rfl rfl (by kernel_rfl) Try.func5 (by kernel_rfl)
    (of_decide_eq_true (by kernel_rfl)) (by unfold Func.isWrapper; first | (rw [if_pos (by decide +kernel)]; kernel_rfl) | (rw [if_neg (by decide +kernel)]; exact ⟨rfl, rfl⟩))
    (fun os started H enc _ => lifted os started H enc)

theorem proved : Rows.FnExactTurnSaid := over
#print axioms proved

end Go.Proofs.Ytajnligcngekcaa.fnExactTurn
