/- SameBut of the program answers as that of the model, at every two Labs and marks. No conditions. -/
import Derived.Test.YtlgedbgpekfobaaRows
import Derived.WalkKit
import Derived.ProofKit
import Derived.OpenShut
import Derived.ShutString
import Derived.ChangeOld
import Derived.Below
import Derived.Lib.SmallJoins
import Derived.Deep.RegionHeld3
import Derived.Test.YtlgedbgpekfobaaOwn2
namespace Go.Proofs.Ytlgedbgpekfobaa.fnExactSameBut
open Go.ChangeShapes Go.WideShapes Go.ChangeAt Go.RowKit
open Go.ChangeMaps (open_string shut_string)
set_option linter.unusedVariables false

set_option maxHeartbeats 4000000 in
theorem walk_big1 (t : ByteArray) (ht : t.size ≤ maxLen) (A : Option Addr) (len cap : Nat) (hl : len ≤ maxLen) (s : ByteArray) (hs : s.size ≤ maxLen) (A' : Option Addr) (len' cap' : Nat) (hl' : len' ≤ maxLen) (mk : Int) (w : World) (hbig : ¬ t.size + len ≤ 1048576) :
    Calls Try.prog 11 #[.agg #[.string t, .slice A len cap], .agg #[.string s, .slice A' len' cap'], .int .i64 mk] w fun e w' => e = .returned (.bool true) ∧ Below w.heap.size w w' := by
  have hbb := Lib.hid (fun (o1 o2 : Obj) => ((Below.refl w.heap.size w).alloc (Nat.le_refl _) o1).alloc (by simp) o2)
  go_enter Try.func11, Try.ntmps11
  go_wp2_with (go_at_call_of 33 (Value.string t); refine (szLab_out t A len cap _ _ (by omega) (by decide) (by decide) hl ht).mono ?_; rintro e w1 ⟨rfl, hb⟩; replace hb := Lib.hid hb)
  go_ret
  exact ⟨rfl, Below.then_ (hbb.out _ _) hb.out (Nat.le_refl _)⟩
set_option maxHeartbeats 4000000 in
theorem walk_big2 (t : ByteArray) (ht : t.size ≤ maxLen) (A : Option Addr) (len cap : Nat) (hl : len ≤ maxLen) (s : ByteArray) (hs : s.size ≤ maxLen) (A' : Option Addr) (len' cap' : Nat) (hl' : len' ≤ maxLen) (mk : Int) (w : World) (hin : t.size + len ≤ 1048576) (hbig : ¬ t.size + len + (s.size + len') ≤ 1048576) :
    Calls Try.prog 11 #[.agg #[.string t, .slice A len cap], .agg #[.string s, .slice A' len' cap'], .int .i64 mk] w fun e w' => e = .returned (.bool true) ∧ Below w.heap.size w w' := by
  have hleft : ¬ (1048576 : Int) - t.size - len < 0 := by omega
  have hsz := Lib.hid (show (t.size : Int) + len ≤ 1048576 by omega)
  obtain ⟨hB, hC⟩ := boxes2' w (.string t) (.slice A len cap) (.string s) (.slice A' len' cap') 46 46
  replace hB := Lib.hid hB
  replace hC := Lib.hid hC
  have hW := Lib.hid (((Below.refl w.heap.size w).alloc (Nat.le_refl _) (.cells #[.string t, .slice A len cap] 46)).alloc (by simp) (.cells #[.string s, .slice A' len' cap'] 46))
  go_enter Try.func11, Try.ntmps11
  go_wp2_with (go_at_call_of 33 (Value.string t); refine (szLab_in t A len cap _ _ hsz.out (by omega)).mono ?_; rintro e w1 ⟨rfl, hb⟩; replace hW := Lib.hid (Below.then_ hW.out hb (Nat.le_refl _)); replace hC := Lib.hid (hC.out.up hb); obtain ⟨c0, c1, -, -⟩ := hC.out.two; replace hb := Lib.hid hb)
  go_wp2_with (go_at_call_of 33 (Value.string s); refine (szLab_out s A' len' cap' _ _ (by omega) (by omega) (by omega) hl' hs).mono ?_; rintro e w2 ⟨rfl, hb2⟩; replace hb2 := Lib.hid hb2)
  go_ret
  exact ⟨rfl, Below.then_ hW.out hb2.out (Nat.le_refl _)⟩
set_option maxHeartbeats 16000000 in
theorem walkIn (t : ByteArray) (A : Option Addr) (l : List Int) (cap : Nat) (s : ByteArray) (A' : Option Addr) (m : List Int) (cap' : Nat) (mk : Int) (w : World) (hin : t.size + l.length + (s.size + m.length) ≤ 1048576) (hv : Ints w (.slice A l.length cap) l) (hu : Ints w (.slice A' m.length cap') m) :
    Calls Try.prog 11 #[.agg #[.string t, .slice A l.length cap], .agg #[.string s, .slice A' m.length cap'], .int .i64 mk] w fun e w' => e = .returned (.bool true) ∧ Below w.heap.size w w' := by
  have hsz := Lib.hid (show (t.size : Int) + l.length ≤ 1048576 by omega)
  have hsz2 := Lib.hid (show (s.size : Int) + m.length ≤ 1048576 - t.size - l.length by omega)
  have hleft : ¬ (1048576 : Int) - t.size - l.length < 0 := by omega
  have hleft2 : ¬ (1048576 : Int) - t.size - l.length - s.size - m.length < 0 := by omega
  obtain ⟨hB, hC⟩ := boxes2' w (.string t) (.slice A l.length cap) (.string s) (.slice A' m.length cap') 46 46
  replace hB := Lib.hid hB
  replace hC := Lib.hid hC
  have hW := Lib.hid (((Below.refl w.heap.size w).alloc (Nat.le_refl _) (.cells #[.string t, .slice A l.length cap] 46)).alloc (by simp) (.cells #[.string s, .slice A' m.length cap'] 46))
  have hv0 := Lib.hid hv
  have hu0 := Lib.hid hu
  have ht : t.size ≤ 1048576 := by omega
  have hs : s.size ≤ 1048576 := by omega
  clear hv hu hin
  go_enter Try.func11, Try.ntmps11
  go_wp2_with (go_at_call_of 33 (Value.string t); refine (szLab_in t A l.length cap _ _ hsz.out (by omega)).mono ?_; rintro e1 w1 ⟨rfl, hb1⟩; replace hW := Lib.hid (Below.then_ hW.out hb1 (Nat.le_refl _)); replace hB := Lib.hid (hB.out.up hb1); replace hC := Lib.hid (hC.out.up hb1); obtain ⟨hB0, hB1, -, -⟩ := hB.out.two; have hBl := hB.out.lt; obtain ⟨hC0, hC1, -, -⟩ := hC.out.two; have hCl := hC.out.lt; have z1 := Lib.hid (show w.heap.size + 1 + 1 ≤ w1.heap.size from Nat.le_trans (by simp) hb1.size); replace hb1 := Lib.hid hb1)
  go_wp2_with (go_at_call_of 33 (Value.string s); refine (szLab_in s A' m.length cap' _ _ hsz2.out (by omega)).mono ?_; rintro e2 w2 ⟨rfl, hb2⟩; replace hW := Lib.hid (Below.then_ hW.out hb2 (Nat.le_refl _)); replace hB := Lib.hid (hB.out.up hb2); replace hC := Lib.hid (hC.out.up hb2); clear hB0 hB1 hBl; obtain ⟨hB0, hB1, -, -⟩ := hB.out.two; have hBl := hB.out.lt; clear hC0 hC1 hCl; obtain ⟨hC0, hC1, -, -⟩ := hC.out.two; have hCl := hC.out.lt; have z2 := Lib.hid (show w1.heap.size ≤ w2.heap.size from Nat.le_trans (Nat.le_refl _) hb2.size); replace hb2 := Lib.hid hb2)
  replace hW := Lib.hid (below_drew' hW.out)
  replace hB := Lib.hid hB.out.drew
  replace hC := Lib.hid hC.out.drew
  clear hB0 hB1 hBl
  obtain ⟨hB0, hB1, -, -⟩ := hB.out.two; have hBl := hB.out.lt
  clear hC0 hC1 hCl
  obtain ⟨hC0, hC1, -, -⟩ := hC.out.two; have hCl := hC.out.lt
  go_region_held3 (fun w' => w'.cell? ⟨w.heap.size, 0, none⟩ = some (.string t) ∧ w'.cell? ⟨w.heap.size, 1, none⟩ = some (.slice A l.length cap) ∧ w'.cell? ⟨w.heap.size + 1, 0, none⟩ = some (.string s) ∧ w'.cell? ⟨w.heap.size + 1, 1, none⟩ = some (.slice A' m.length cap')) (first | exact ⟨hB0, hB1, hC0, hC1⟩ | go_keep)
    (first
      | (go_at_call_of 34 (Value.string t); refine (toLab_any t _ l _ (hv0.out.below hW.out)).mono ?_; rintro e3 w3 ⟨A2, cap2, rfl, ho2, hb3⟩; replace hW := Lib.hid (Below.then_ hW.out hb3 (Nat.le_refl _)); replace hB := Lib.hid (hB.out.up hb3); replace hC := Lib.hid (hC.out.up hb3); clear hB0 hB1 hBl; obtain ⟨hB0, hB1, -, -⟩ := hB.out.two; have hBl := hB.out.lt; clear hC0 hC1 hCl; obtain ⟨hC0, hC1, -, -⟩ := hC.out.two; have hCl := hC.out.lt; have z3 := Lib.hid (show w2.heap.size ≤ w3.heap.size from Nat.le_trans (Nat.le_refl _) hb3.size); have o2 := Lib.hid (show Own2 w3 (w2.heap.size) w3.heap.size (.slice A2 l.length cap2) l from Own2.new ho2 (Nat.le_refl _)); clear ho2; replace hb3 := Lib.hid hb3)
      | (go_at_call_of 34 (Value.string s); refine (toLab_any s _ m _ (hu0.out.below hW.out)).mono ?_; rintro e4 w4 ⟨A3, cap3, rfl, ho3, hb4⟩; replace hW := Lib.hid (Below.then_ hW.out hb4 (Nat.le_refl _)); replace hB := Lib.hid (hB.out.up hb4); replace hC := Lib.hid (hC.out.up hb4); replace o2 := Lib.hid (o2.out.below hb4); clear hB0 hB1 hBl; obtain ⟨hB0, hB1, -, -⟩ := hB.out.two; have hBl := hB.out.lt; clear hC0 hC1 hCl; obtain ⟨hC0, hC1, -, -⟩ := hC.out.two; have hCl := hC.out.lt; have z4 := Lib.hid (show w3.heap.size ≤ w4.heap.size from Nat.le_trans (Nat.le_refl _) hb4.size); have o3 := Lib.hid (show Own2 w4 (w3.heap.size) w4.heap.size (.slice A3 m.length cap3) m from Own2.new ho3 (Nat.le_refl _)); clear ho3; replace hb4 := Lib.hid hb4)
      | (go_at_call 23; refine (specSameBut_any t s _ _ l m mk _ ht hs o2.out.ints o3.out.ints).mono ?_; rintro e5 w5 ⟨rfl, hb5⟩; replace hW := Lib.hid (Below.then_ hW.out hb5 (Nat.le_refl _)); replace hB := Lib.hid (hB.out.up hb5); replace hC := Lib.hid (hC.out.up hb5); replace o2 := Lib.hid (o2.out.below hb5); replace o3 := Lib.hid (o3.out.below hb5); clear hB0 hB1 hBl; obtain ⟨hB0, hB1, -, -⟩ := hB.out.two; have hBl := hB.out.lt; clear hC0 hC1 hCl; obtain ⟨hC0, hC1, -, -⟩ := hC.out.two; have hCl := hC.out.lt; have z5 := Lib.hid (show w4.heap.size ≤ w5.heap.size from Nat.le_trans (Nat.le_refl _) hb5.size); replace hb5 := Lib.hid hb5))
  clear o2 o3
  go_wp2_with (go_at_call_of 34 (Value.string t); refine (toLab_any t _ l _ (hv0.out.below hW.out)).mono ?_; rintro e6 w6 ⟨A4, cap4, rfl, ho4, hb6⟩; replace hW := Lib.hid (Below.then_ hW.out hb6 (Nat.le_refl _)); replace hB := Lib.hid (hB.out.up hb6); replace hC := Lib.hid (hC.out.up hb6); clear hB0 hB1 hBl; obtain ⟨hB0, hB1, -, -⟩ := hB.out.two; have hBl := hB.out.lt; clear hC0 hC1 hCl; obtain ⟨hC0, hC1, -, -⟩ := hC.out.two; have hCl := hC.out.lt; have z6 := Lib.hid (show w5.heap.size ≤ w6.heap.size from Nat.le_trans (Nat.le_refl _) hb6.size); have o4 := Lib.hid (show Own2 w6 (w5.heap.size) w6.heap.size (.slice A4 l.length cap4) l from Own2.new ho4 (Nat.le_refl _)); clear ho4; replace hb6 := Lib.hid hb6)
  replace hW := Lib.hid (hW.out.alloc hW.out.size (.cells #[.string t, .slice A4 l.length cap4] 25))
  replace hB := Lib.hid (hB.out.alloc (.cells #[.string t, .slice A4 l.length cap4] 25))
  replace hC := Lib.hid (hC.out.alloc (.cells #[.string t, .slice A4 l.length cap4] 25))
  replace o4 := Lib.hid (o4.out.alloc (.cells #[.string t, .slice A4 l.length cap4] 25))
  have hx := Lib.hid (show Blk (w6.alloc (.cells #[.string t, .slice A4 l.length cap4] 25)) w6.heap.size 25 [.string t, .slice A4 l.length cap4] from heap_alloc_new w6 (.cells #[.string t, .slice A4 l.length cap4] 25))
  clear hB0 hB1 hBl
  obtain ⟨hB0, hB1, -, -⟩ := hB.out.two; have hBl := hB.out.lt
  clear hC0 hC1 hCl
  obtain ⟨hC0, hC1, -, -⟩ := hC.out.two; have hCl := hC.out.lt
  obtain ⟨hx0, hx1, -, -⟩ := hx.out.two; have hxl := hx.out.lt
  go_wp2_with (go_at_call_of 34 (Value.string s); refine (toLab_any s _ m _ (hu0.out.below hW.out)).mono ?_; rintro e7 w7 ⟨A5, cap5, rfl, ho5, hb7⟩; replace hW := Lib.hid (Below.then_ hW.out hb7 (Nat.le_refl _)); replace hB := Lib.hid (hB.out.up hb7); replace hC := Lib.hid (hC.out.up hb7); replace hx := Lib.hid (hx.out.up hb7); replace o4 := Lib.hid (o4.out.below hb7); clear hB0 hB1 hBl; obtain ⟨hB0, hB1, -, -⟩ := hB.out.two; have hBl := hB.out.lt; clear hC0 hC1 hCl; obtain ⟨hC0, hC1, -, -⟩ := hC.out.two; have hCl := hC.out.lt; clear hx0 hx1 hxl; obtain ⟨hx0, hx1, -, -⟩ := hx.out.two; have hxl := hx.out.lt; have z7 := Lib.hid (show w6.heap.size + 1 ≤ w7.heap.size from Nat.le_trans (by simp) hb7.size); have o5 := Lib.hid (show Own2 w7 (w6.heap.size + 1) w7.heap.size (.slice A5 m.length cap5) m from Own2.new ho5 (by simp)); clear ho5; replace hb7 := Lib.hid hb7)
  replace hW := Lib.hid (hW.out.alloc hW.out.size (.cells #[.string s, .slice A5 m.length cap5] 25))
  replace hB := Lib.hid (hB.out.alloc (.cells #[.string s, .slice A5 m.length cap5] 25))
  replace hC := Lib.hid (hC.out.alloc (.cells #[.string s, .slice A5 m.length cap5] 25))
  replace hx := Lib.hid (hx.out.alloc (.cells #[.string s, .slice A5 m.length cap5] 25))
  replace o4 := Lib.hid (o4.out.alloc (.cells #[.string s, .slice A5 m.length cap5] 25))
  replace o5 := Lib.hid (o5.out.alloc (.cells #[.string s, .slice A5 m.length cap5] 25))
  have hy := Lib.hid (show Blk (w7.alloc (.cells #[.string s, .slice A5 m.length cap5] 25)) w7.heap.size 25 [.string s, .slice A5 m.length cap5] from heap_alloc_new w7 (.cells #[.string s, .slice A5 m.length cap5] 25))
  clear hB0 hB1 hBl
  obtain ⟨hB0, hB1, -, -⟩ := hB.out.two; have hBl := hB.out.lt
  clear hC0 hC1 hCl
  obtain ⟨hC0, hC1, -, -⟩ := hC.out.two; have hCl := hC.out.lt
  clear hx0 hx1 hxl
  obtain ⟨hx0, hx1, -, -⟩ := hx.out.two; have hxl := hx.out.lt
  obtain ⟨hy0, hy1, -, -⟩ := hy.out.two; have hyl := hy.out.lt
  go_wp2_with (go_at_call 22; refine (implSameBut_any t s _ _ l m mk _ ht hs o4.out.ints o5.out.ints).mono ?_; rintro e8 w8 ⟨rfl, hb8⟩; replace hW := Lib.hid (Below.then_ hW.out hb8 (Nat.le_refl _)); replace hB := Lib.hid (hB.out.up hb8); replace hC := Lib.hid (hC.out.up hb8); replace hx := Lib.hid (hx.out.up hb8); replace hy := Lib.hid (hy.out.up hb8); replace o4 := Lib.hid (o4.out.below hb8); replace o5 := Lib.hid (o5.out.below hb8); clear hB0 hB1 hBl; obtain ⟨hB0, hB1, -, -⟩ := hB.out.two; have hBl := hB.out.lt; clear hC0 hC1 hCl; obtain ⟨hC0, hC1, -, -⟩ := hC.out.two; have hCl := hC.out.lt; clear hx0 hx1 hxl; obtain ⟨hx0, hx1, -, -⟩ := hx.out.two; have hxl := hx.out.lt; clear hy0 hy1 hyl; obtain ⟨hy0, hy1, -, -⟩ := hy.out.two; have hyl := hy.out.lt; have z8 := Lib.hid (show w7.heap.size + 1 ≤ w8.heap.size from Nat.le_trans (by simp) hb8.size); replace hb8 := Lib.hid hb8)
  replace hW := Lib.hid (below_drew' hW.out)
  replace hB := Lib.hid hB.out.drew
  replace hC := Lib.hid hC.out.drew
  replace hx := Lib.hid hx.out.drew
  replace hy := Lib.hid hy.out.drew
  replace o4 := Lib.hid o4.out.drew
  replace o5 := Lib.hid o5.out.drew
  clear hB0 hB1 hBl
  obtain ⟨hB0, hB1, -, -⟩ := hB.out.two; have hBl := hB.out.lt
  clear hC0 hC1 hCl
  obtain ⟨hC0, hC1, -, -⟩ := hC.out.two; have hCl := hC.out.lt
  clear hx0 hx1 hxl
  obtain ⟨hx0, hx1, -, -⟩ := hx.out.two; have hxl := hx.out.lt
  clear hy0 hy1 hyl
  obtain ⟨hy0, hy1, -, -⟩ := hy.out.two; have hyl := hy.out.lt
  go_region_held3 (fun w' => w'.cell? ⟨w.heap.size, 0, none⟩ = some (.string t) ∧ w'.cell? ⟨w.heap.size, 1, none⟩ = some (.slice A l.length cap) ∧ w'.cell? ⟨w6.heap.size, 0, none⟩ = some (.string t) ∧ w'.cell? ⟨w6.heap.size, 1, none⟩ = some (.slice A4 l.length cap4)) (first | exact ⟨hB0, hB1, hx0, hx1⟩ | go_keep)
    (first
      | (go_at_call_of 34 (Value.string t); refine (toLab_any t _ l _ (hv0.out.below hW.out)).mono ?_; rintro e9 w9 ⟨A6, cap6, rfl, ho6, hb9⟩; replace hW := Lib.hid (Below.then_ hW.out hb9 (Nat.le_refl _)); replace hB := Lib.hid (hB.out.up hb9); replace hC := Lib.hid (hC.out.up hb9); replace hx := Lib.hid (hx.out.up hb9); replace hy := Lib.hid (hy.out.up hb9); replace o4 := Lib.hid (o4.out.below hb9); replace o5 := Lib.hid (o5.out.below hb9); clear hB0 hB1 hBl; obtain ⟨hB0, hB1, -, -⟩ := hB.out.two; have hBl := hB.out.lt; clear hC0 hC1 hCl; obtain ⟨hC0, hC1, -, -⟩ := hC.out.two; have hCl := hC.out.lt; clear hx0 hx1 hxl; obtain ⟨hx0, hx1, -, -⟩ := hx.out.two; have hxl := hx.out.lt; clear hy0 hy1 hyl; obtain ⟨hy0, hy1, -, -⟩ := hy.out.two; have hyl := hy.out.lt; have z9 := Lib.hid (show w8.heap.size ≤ w9.heap.size from Nat.le_trans (Nat.le_refl _) hb9.size); have o6 := Lib.hid (show Own2 w9 (w8.heap.size) w9.heap.size (.slice A6 l.length cap6) l from Own2.new ho6 (Nat.le_refl _)); clear ho6; replace hb9 := Lib.hid hb9)
      | (go_at_call 35; refine (eqLab_any t t _ _ l l _ o4.out.ints o6.out.ints).mono ?_; rintro e10 w10 ⟨rfl, hb10⟩; replace hW := Lib.hid (Below.then_ hW.out hb10 (Nat.le_refl _)); replace hB := Lib.hid (hB.out.up hb10); replace hC := Lib.hid (hC.out.up hb10); replace hx := Lib.hid (hx.out.up hb10); replace hy := Lib.hid (hy.out.up hb10); replace o4 := Lib.hid (o4.out.below hb10); replace o5 := Lib.hid (o5.out.below hb10); replace o6 := Lib.hid (o6.out.below hb10); clear hB0 hB1 hBl; obtain ⟨hB0, hB1, -, -⟩ := hB.out.two; have hBl := hB.out.lt; clear hC0 hC1 hCl; obtain ⟨hC0, hC1, -, -⟩ := hC.out.two; have hCl := hC.out.lt; clear hx0 hx1 hxl; obtain ⟨hx0, hx1, -, -⟩ := hx.out.two; have hxl := hx.out.lt; clear hy0 hy1 hyl; obtain ⟨hy0, hy1, -, -⟩ := hy.out.two; have hyl := hy.out.lt; have z10 := Lib.hid (show w9.heap.size ≤ w10.heap.size from Nat.le_trans (Nat.le_refl _) hb10.size); rw [alike_same]; replace hb10 := Lib.hid hb10))
  go_wp2
  replace hW := Lib.hid (below_drew' hW.out)
  replace hB := Lib.hid hB.out.drew
  replace hC := Lib.hid hC.out.drew
  replace hx := Lib.hid hx.out.drew
  replace hy := Lib.hid hy.out.drew
  replace o4 := Lib.hid o4.out.drew
  replace o5 := Lib.hid o5.out.drew
  replace o6 := Lib.hid o6.out.drew
  clear hB0 hB1 hBl
  obtain ⟨hB0, hB1, -, -⟩ := hB.out.two; have hBl := hB.out.lt
  clear hC0 hC1 hCl
  obtain ⟨hC0, hC1, -, -⟩ := hC.out.two; have hCl := hC.out.lt
  clear hx0 hx1 hxl
  obtain ⟨hx0, hx1, -, -⟩ := hx.out.two; have hxl := hx.out.lt
  clear hy0 hy1 hyl
  obtain ⟨hy0, hy1, -, -⟩ := hy.out.two; have hyl := hy.out.lt
  go_region_held3 (fun w' => w'.cell? ⟨w.heap.size + 1, 0, none⟩ = some (.string s) ∧ w'.cell? ⟨w.heap.size + 1, 1, none⟩ = some (.slice A' m.length cap') ∧ w'.cell? ⟨w7.heap.size, 0, none⟩ = some (.string s) ∧ w'.cell? ⟨w7.heap.size, 1, none⟩ = some (.slice A5 m.length cap5)) (first | exact ⟨hC0, hC1, hy0, hy1⟩ | go_keep)
    (first
      | (go_at_call_of 34 (Value.string s); refine (toLab_any s _ m _ (hu0.out.below hW.out)).mono ?_; rintro e11 w11 ⟨A7, cap7, rfl, ho7, hb11⟩; replace hW := Lib.hid (Below.then_ hW.out hb11 (Nat.le_refl _)); replace hB := Lib.hid (hB.out.up hb11); replace hC := Lib.hid (hC.out.up hb11); replace hx := Lib.hid (hx.out.up hb11); replace hy := Lib.hid (hy.out.up hb11); replace o4 := Lib.hid (o4.out.below hb11); replace o5 := Lib.hid (o5.out.below hb11); replace o6 := Lib.hid (o6.out.below hb11); clear hB0 hB1 hBl; obtain ⟨hB0, hB1, -, -⟩ := hB.out.two; have hBl := hB.out.lt; clear hC0 hC1 hCl; obtain ⟨hC0, hC1, -, -⟩ := hC.out.two; have hCl := hC.out.lt; clear hx0 hx1 hxl; obtain ⟨hx0, hx1, -, -⟩ := hx.out.two; have hxl := hx.out.lt; clear hy0 hy1 hyl; obtain ⟨hy0, hy1, -, -⟩ := hy.out.two; have hyl := hy.out.lt; have z11 := Lib.hid (show w10.heap.size ≤ w11.heap.size from Nat.le_trans (Nat.le_refl _) hb11.size); have o7 := Lib.hid (show Own2 w11 (w10.heap.size) w11.heap.size (.slice A7 m.length cap7) m from Own2.new ho7 (Nat.le_refl _)); clear ho7; replace hb11 := Lib.hid hb11)
      | (go_at_call 35; refine (eqLab_any s s _ _ m m _ o5.out.ints o7.out.ints).mono ?_; rintro e12 w12 ⟨rfl, hb12⟩; replace hW := Lib.hid (Below.then_ hW.out hb12 (Nat.le_refl _)); replace hB := Lib.hid (hB.out.up hb12); replace hC := Lib.hid (hC.out.up hb12); replace hx := Lib.hid (hx.out.up hb12); replace hy := Lib.hid (hy.out.up hb12); replace o4 := Lib.hid (o4.out.below hb12); replace o5 := Lib.hid (o5.out.below hb12); replace o6 := Lib.hid (o6.out.below hb12); replace o7 := Lib.hid (o7.out.below hb12); clear hB0 hB1 hBl; obtain ⟨hB0, hB1, -, -⟩ := hB.out.two; have hBl := hB.out.lt; clear hC0 hC1 hCl; obtain ⟨hC0, hC1, -, -⟩ := hC.out.two; have hCl := hC.out.lt; clear hx0 hx1 hxl; obtain ⟨hx0, hx1, -, -⟩ := hx.out.two; have hxl := hx.out.lt; clear hy0 hy1 hyl; obtain ⟨hy0, hy1, -, -⟩ := hy.out.two; have hyl := hy.out.lt; have z12 := Lib.hid (show w11.heap.size ≤ w12.heap.size from Nat.le_trans (Nat.le_refl _) hb12.size); rw [alike_same]; replace hb12 := Lib.hid hb12))
  go_wp2
  go_ret
  exact ⟨rfl, hW.out⟩
theorem walk (t : ByteArray) (ht : t.size ≤ maxLen) (A : Option Addr) (len cap : Nat) (hl : len ≤ maxLen) (s : ByteArray) (hs : s.size ≤ maxLen) (A' : Option Addr) (len' cap' : Nat) (hl' : len' ≤ maxLen) (mk : Int) (_hk : (Lit.int .i64 mk).wf = true) (w : World) (hI : len ≤ 1048576 → ∃ l : List Int, l.length = len ∧ Ints w (.slice A len cap) l) (hI' : len' ≤ 1048576 → ∃ l : List Int, l.length = len' ∧ Ints w (.slice A' len' cap') l) :
    Calls Try.prog 11 #[.agg #[.string t, .slice A len cap], .agg #[.string s, .slice A' len' cap'], .int .i64 mk] w fun e w' => e = .returned (.bool true) ∧ Below w.heap.size w w' := by
  by_cases h : t.size + len ≤ 1048576
  · by_cases h2 : t.size + len + (s.size + len') ≤ 1048576
    · obtain ⟨l, rfl, hv⟩ := hI (by omega)
      obtain ⟨m, rfl, hu⟩ := hI' (by omega)
      exact walkIn t A l cap s A' m cap' mk w h2 hv hu
    · exact walk_big2 t ht A len cap hl s hs A' len' cap' hl' mk w h h2
  · exact walk_big1 t ht A len cap hl s hs A' len' cap' hl' mk w h

theorem own : ownKnob Try.prog.godebug = none := by kernel_rfl
theorem laidOut : laidOutB Try.prog = true := by kernel_rfl
set_option maxRecDepth 100000 in
theorem lifted (os : Os) (started : os.Started) (H : Type) (enc : TypeId × Value → H) :
    ReturnsInHanded {} Try.checked os 11 .any (Rows.fnExactSameButSpec.pre6 enc Try.prog Try.f11 Rows.fnExactSameButRow.domain false) (Rows.fnExactSameButSpec.post enc Try.prog Try.f11 false true false false) := by
  refine returnsInHanded_of_change (C := Try.checked) own started (by kernel_rfl) Try.func11
    (ChangeSpec.witness6 (enc := enc) (C := Try.checked) false ⟨#[], #[.agg #[.string ByteArray.empty, .slice none 0 0], .agg #[.string ByteArray.empty, .slice none 0 0], .int .i64 0], []⟩ 8 (by kernel_rfl) (by kernel_rfl) (by kernel_rfl) (by kernel_rfl)) ?_
  intro W base args ds gs before hval0 hW hcnd _
  have hval : ∀ (j : Nat) t v, Try.f11.params[j]? = some t → args[j]? = some v → Value.okWide Try.prog W .any base t v := hval0
  have hW' := hW
  obtain ⟨p, q, hA0, hV, rfl, hfz, hnd⟩ := hW
  have hA : DataW.TrodAll enc Try.prog W 0 (fun _ => true) true Try.f11.params.toList args.toList ds p := hA0
  rw [Try.params11] at hA hval
  obtain ⟨v0, vs0, d0, ds0, p0, q0, hargs, rfl, rfl, h0, r0⟩ := trodAll_cons hA
  obtain ⟨v1, vs1, d1, ds1, p1, q1, rfl, rfl, rfl, h1, r1⟩ := trodAll_cons r0
  obtain ⟨v2, vs2, d2, ds2, p2, q2, rfl, rfl, rfl, h2, r2⟩ := trodAll_cons r1
  obtain ⟨rfl, rfl, rfl⟩ := trodAll_nil r2
  obtain rfl : args = #[v0, v1, v2] := by cases args; simp_all
  obtain ⟨rfl, rfl⟩ := trodVars_none hV
  have k0 := h0
  have lt0 : ∀ x ∈ p0, x.block < W.heap.size := by obtain ⟨m, hm⟩ := k0; exact DataW.trod_lt m _ _ _ hm
  obtain ⟨c0a, c0b, y0a, y0b, m0, rfl, rfl, rfl, hy0a, hy0b⟩ := Joins.open_agg2 Try.underlying46 (by kernel_rfl) (by kernel_rfl) (hval 0 46 v0 rfl rfl) h0
  obtain ⟨a0, e0, _, w0⟩ := DataW.trod_string Try.underlying9 hy0a
  simp at e0
  subst e0
  obtain ⟨A0, len0, cap0, eb0, hm0, hI0⟩ : ∃ A len cap, c0b = .slice A len cap ∧ len ≤ maxLen ∧ (len ≤ 1048576 → ∃ l, l.length = len ∧ Ints W (.slice A len cap) l) := by
    rcases open_ints Try.underlying23 Try.underlying2 (by kernel_rfl) hy0b with ⟨hcs, _⟩ | ⟨x, l, c, zs, hcs, _, hl, hm, hz, _, hcell, hwz⟩
    · simp at hcs
      exact ⟨none, 0, 0, hcs, Nat.zero_le _, fun _ => ⟨[], rfl, (OwnInts.nil W 0).ints⟩⟩
    · simp at hcs
      refine ⟨some x, l, c, hcs, Nat.le_trans hl hm, fun h => ⟨zs.take l, ?_, ints_of_row ?_ hl hcell h⟩⟩
      · rw [List.length_take]; simp at hz; omega
      · simp at hz; omega
  subst eb0
  have k1 := h1
  have lt1 : ∀ x ∈ p1, x.block < W.heap.size := by obtain ⟨m, hm⟩ := k1; exact DataW.trod_lt m _ _ _ hm
  obtain ⟨c1a, c1b, y1a, y1b, m1, rfl, rfl, rfl, hy1a, hy1b⟩ := Joins.open_agg2 Try.underlying46 (by kernel_rfl) (by kernel_rfl) (hval 1 46 v1 rfl rfl) h1
  obtain ⟨a1, e1, _, w1⟩ := DataW.trod_string Try.underlying9 hy1a
  simp at e1
  subst e1
  obtain ⟨A1, len1, cap1, eb1, hm1, hI1⟩ : ∃ A len cap, c1b = .slice A len cap ∧ len ≤ maxLen ∧ (len ≤ 1048576 → ∃ l, l.length = len ∧ Ints W (.slice A len cap) l) := by
    rcases open_ints Try.underlying23 Try.underlying2 (by kernel_rfl) hy1b with ⟨hcs, _⟩ | ⟨x, l, c, zs, hcs, _, hl, hm, hz, _, hcell, hwz⟩
    · simp at hcs
      exact ⟨none, 0, 0, hcs, Nat.zero_le _, fun _ => ⟨[], rfl, (OwnInts.nil W 0).ints⟩⟩
    · simp at hcs
      refine ⟨some x, l, c, hcs, Nat.le_trans hl hm, fun h => ⟨zs.take l, ?_, ints_of_row ?_ hl hcell h⟩⟩
      · rw [List.length_take]; simp at hz; omega
      · simp at hz; omega
  subst eb1
  obtain ⟨a2, rfl, rfl, rfl, w2⟩ := open_int Try.underlying2 (hval 2 2 v2 rfl rfl) h2
  clear hA0 hval0
  refine (walk a0 w0 A0 len0 cap0 hm0 a1 w1 A1 len1 cap1 hm1 a2 w2 W hI0 hI1).mono fun e W' ⟨he, bel⟩ => ?_
  subst he
  exact ⟨_, rfl, _, _, _, [], _, [], hW', trodAll_mk1 (shut_bool Try.underlying4 _), (trodAll_cons_mk (Below.trod laidOut (by kernel_rfl) (of_decide_eq_true (by kernel_rfl)) k0 bel lt0) (trodAll_cons_mk (Below.trod laidOut (by kernel_rfl) (of_decide_eq_true (by kernel_rfl)) k1 bel lt1) (trodAll_cons_mk (shut_int Try.underlying2 w2) trodAll_mk0))), rfl, bel.frame _, fun h => by cases h⟩

theorem over : Rows.fnExactSameButRow.holds Try.pinned (OpenSpec.ofChange Rows.fnExactSameButSpec) :=
  OpenClaim.holds_of_wide 11 Try.f11 rfl rfl rfl rfl rfl rfl rfl ⟨rfl, rfl, rfl, rfl, rfl⟩ rfl rfl rfl rfl rfl (by kernel_rfl) Try.func11 (by kernel_rfl)
    (of_decide_eq_true (by kernel_rfl)) (by unfold Func.isWrapper; first | (rw [if_pos (by decide +kernel)]; kernel_rfl) | (rw [if_neg (by decide +kernel)]; exact ⟨rfl, rfl⟩))
    (fun os started H enc _ => lifted os started H enc)

theorem proved : Rows.FnExactSameButSaid := over
#print axioms proved

end Go.Proofs.Ytlgedbgpekfobaa.fnExactSameBut
