/- LabJoin of the program answers as that of the model, at every two Labs; its answer owns its memory, and no argument is written. No conditions. -/
import Derived.Test.YtlgedbgpekfobaaRows
import Derived.WalkKit
import Derived.ProofKit
import Derived.OpenShut
import Derived.ShutString
import Derived.ChangeOld
import Derived.Below
import Derived.Lib.SmallJoins
import Derived.Deep.RegionHeld3
import Derived.Test.YtlgedbgpekfobaaOwn2
import Derived.Deep.DeepCutAuto
namespace Go.Proofs.Ytlgedbgpekfobaa.fnExactLabJoin
open Go.ChangeShapes Go.WideShapes Go.ChangeAt Go.RowKit
open Go.ChangeMaps (open_string shut_string)
set_option linter.unusedVariables false

set_option maxHeartbeats 4000000 in
theorem walk_big1 (t : ByteArray) (ht : t.size ≤ maxLen) (A : Option Addr) (len cap : Nat) (hl : len ≤ maxLen) (s : ByteArray) (hs : s.size ≤ maxLen) (A' : Option Addr) (len' cap' : Nat) (hl' : len' ≤ maxLen) (w : World) (hbig : ¬ t.size + len ≤ 1048576) :
    Calls Try.prog 6 #[.agg #[.string t, .slice A len cap], .agg #[.string s, .slice A' len' cap']] w fun e w' => e = .returned (.bool true) ∧ Below w.heap.size w w' := by
  have hbb := Lib.hid (fun (o1 o2 : Obj) => ((Below.refl w.heap.size w).alloc (Nat.le_refl _) o1).alloc (by simp) o2)
  go_enter Try.func6, Try.ntmps6
  go_wp2_with (go_at_call_of 33 (Value.string t); refine (szLab_out t A len cap _ _ (by omega) (by decide) (by decide) hl ht).mono ?_; rintro e w1 ⟨rfl, hb⟩; replace hb := Lib.hid hb)
  go_ret
  exact ⟨rfl, Below.then_ (hbb.out _ _) hb.out (Nat.le_refl _)⟩
set_option maxHeartbeats 4000000 in
theorem walk_big2 (t : ByteArray) (ht : t.size ≤ maxLen) (A : Option Addr) (len cap : Nat) (hl : len ≤ maxLen) (s : ByteArray) (hs : s.size ≤ maxLen) (A' : Option Addr) (len' cap' : Nat) (hl' : len' ≤ maxLen) (w : World) (hin : t.size + len ≤ 1048576) (hbig : ¬ t.size + len + (s.size + len') ≤ 1048576) :
    Calls Try.prog 6 #[.agg #[.string t, .slice A len cap], .agg #[.string s, .slice A' len' cap']] w fun e w' => e = .returned (.bool true) ∧ Below w.heap.size w w' := by
  have hleft : ¬ (1048576 : Int) - t.size - len < 0 := by omega
  have hsz := Lib.hid (show (t.size : Int) + len ≤ 1048576 by omega)
  obtain ⟨hB, hC⟩ := boxes2' w (.string t) (.slice A len cap) (.string s) (.slice A' len' cap') 46 46
  replace hB := Lib.hid hB
  replace hC := Lib.hid hC
  have hW := Lib.hid (((Below.refl w.heap.size w).alloc (Nat.le_refl _) (.cells #[.string t, .slice A len cap] 46)).alloc (by simp) (.cells #[.string s, .slice A' len' cap'] 46))
  go_enter Try.func6, Try.ntmps6
  go_wp2_with (go_at_call_of 33 (Value.string t); refine (szLab_in t A len cap _ _ hsz.out (by omega)).mono ?_; rintro e w1 ⟨rfl, hb⟩; replace hW := Lib.hid (Below.then_ hW.out hb (Nat.le_refl _)); replace hC := Lib.hid (hC.out.up hb); obtain ⟨c0, c1, -, -⟩ := hC.out.two; replace hb := Lib.hid hb)
  go_wp2_with (go_at_call_of 33 (Value.string s); refine (szLab_out s A' len' cap' _ _ (by omega) (by omega) (by omega) hl' hs).mono ?_; rintro e w2 ⟨rfl, hb2⟩; replace hb2 := Lib.hid hb2)
  go_ret
  exact ⟨rfl, Below.then_ hW.out hb2.out (Nat.le_refl _)⟩
set_option maxRecDepth 100000 in
set_option maxHeartbeats 32000000 in
theorem walkIn (t : ByteArray) (A : Option Addr) (l : List Int) (cap : Nat) (s : ByteArray) (A' : Option Addr) (m : List Int) (cap' : Nat) (w : World) (hin : t.size + l.length + (s.size + m.length) ≤ 1048576) (hv : Ints w (.slice A l.length cap) l) (hu : Ints w (.slice A' m.length cap') m) :
    Calls Try.prog 6 #[.agg #[.string t, .slice A l.length cap], .agg #[.string s, .slice A' m.length cap']] w fun e w' => e = .returned (.bool true) ∧ Below w.heap.size w w' := by
  have hsz := Lib.hid (show (t.size : Int) + l.length ≤ 1048576 by omega)
  have hsz2 := Lib.hid (show (s.size : Int) + m.length ≤ 1048576 - t.size - l.length by omega)
  have hleft : ¬ (1048576 : Int) - t.size - l.length < 0 := by omega
  have hleft2 : ¬ (1048576 : Int) - t.size - l.length - s.size - m.length < 0 := by omega
  obtain ⟨hB, hC⟩ := boxes2' w (.string t) (.slice A l.length cap) (.string s) (.slice A' m.length cap') 46 46
  replace hB := Lib.hid hB
  replace hC := Lib.hid hC
  have hW := Lib.hid (((Below.refl w.heap.size w).alloc (Nat.le_refl _) (.cells #[.string t, .slice A l.length cap] 46)).alloc (by simp) (.cells #[.string s, .slice A' m.length cap'] 46))
  have hv0 := Lib.hid hv
  have hu0 := Lib.hid hu
  have ht : t.size ≤ 1048576 := by omega
  have hs : s.size ≤ 1048576 := by omega
  obtain ⟨R, hR⟩ : ∃ R, R = joinR t s l m := ⟨_, rfl⟩
  have hSP := Lib.hid (fun w v u (h : Ints w v l) (k : Ints w u m) => show Calls Try.prog 19 #[.agg #[.string t, v], .agg #[.string s, u]] w (LabOutEnd w.heap.size R w) by rw [hR]; exact specLabJoin_any t s v u l m w ht hs h k)
  have hIM := Lib.hid (fun w v u (h : Ints w v l) (k : Ints w u m) => show Calls Try.prog 13 #[.agg #[.string t, v], .agg #[.string s, u]] w (LabOutEnd w.heap.size R w) by rw [hR]; exact implLabJoin_any t s v u l m w ht hs h k)
  obtain ⟨MM, hMM⟩ : ∃ MM, MM = 1 + R.l.length := ⟨_, rfl⟩
  obtain ⟨K1, hK1⟩ : ∃ K1, K1 = 1 + l.length := ⟨_, rfl⟩
  obtain ⟨K2, hK2⟩ : ∃ K2, K2 = K1 + m.length := ⟨_, rfl⟩
  have hK4 := Lib.hid (show K1 ≤ 4000000 by omega)
  replace hMM := Lib.hid hMM
  replace hK1 := Lib.hid hK1
  replace hK2 := Lib.hid hK2
  clear hv hu hin hR
  go_enter Try.func6, Try.ntmps6
  go_wp2_with (go_at_call_of 33 (Value.string t); refine (szLab_in t A l.length cap _ _ hsz.out (by omega)).mono ?_; rintro e1 w1 ⟨rfl, hb1⟩; replace hW := Lib.hid (Below.then_ hW.out hb1 (Nat.le_refl _)); replace hB := Lib.hid (hB.out.up hb1); replace hC := Lib.hid (hC.out.up hb1); obtain ⟨hB0, hB1, -, -⟩ := hB.out.two; have hBl := hB.out.lt; obtain ⟨hC0, hC1, -, -⟩ := hC.out.two; have hCl := hC.out.lt; have z1 := Lib.hid (show w.heap.size + 1 + 1 ≤ w1.heap.size from Nat.le_trans (by simp) hb1.size); replace hb1 := Lib.hid hb1)
  go_wp2_with (go_at_call_of 33 (Value.string s); refine (szLab_in s A' m.length cap' _ _ hsz2.out (by omega)).mono ?_; rintro e2 w2 ⟨rfl, hb2⟩; replace hW := Lib.hid (Below.then_ hW.out hb2 (Nat.le_refl _)); replace hB := Lib.hid (hB.out.up hb2); replace hC := Lib.hid (hC.out.up hb2); clear hB0 hB1 hBl; obtain ⟨hB0, hB1, -, -⟩ := hB.out.two; have hBl := hB.out.lt; clear hC0 hC1 hCl; obtain ⟨hC0, hC1, -, -⟩ := hC.out.two; have hCl := hC.out.lt; have z2 := Lib.hid (show w1.heap.size ≤ w2.heap.size from Nat.le_trans (Nat.le_refl _) hb2.size); replace hb2 := Lib.hid hb2)
  go_upto_region 8 with fail
  have qhB := Lib.hid hB.out.lt
  have qhC := Lib.hid hC.out.lt
  have hWlo := Lib.hid (show w.heap.size ≤ w2.heap.size from hW.out.size)
  go_cut [6] (fun slt wx => BoxCut R (w2.heap.size) w slt wx (Blk wx (w.heap.size) 46 [.string t, .slice A l.length cap] ∧ Blk wx (w.heap.size + 1) 46 [.string s, .slice A' m.length cap']))
  case first =>
    clear hB0 hB1 hBl
    obtain ⟨hB0, hB1, -, -⟩ := hB.out.two; have hBl := hB.out.lt
    clear hC0 hC1 hCl
    obtain ⟨hC0, hC1, -, -⟩ := hC.out.two; have hCl := hC.out.lt
    have qxB := Lib.hid (show w.heap.size < w2.heap.size from hBl); have qxC := Lib.hid (show w.heap.size + 1 < w2.heap.size from hCl)
    have hlo := Lib.hid (show w2.heap.size ≤ w2.heap.size from Nat.le_refl _)
    go_region_held3 (fun w' => w'.cell? ⟨w.heap.size, 0, none⟩ = some (.string t) ∧ w'.cell? ⟨w.heap.size, 1, none⟩ = some (.slice A l.length cap) ∧ w'.cell? ⟨w.heap.size + 1, 0, none⟩ = some (.string s) ∧ w'.cell? ⟨w.heap.size + 1, 1, none⟩ = some (.slice A' m.length cap')) (first | exact ⟨hB0, hB1, hC0, hC1⟩ | go_keep)
      (first
        | (go_at_call_of 34 (Value.string t); (first | (replace hW := Lib.hid (below_drew' hW.out); replace hB := Lib.hid hB.out.drew; replace hC := Lib.hid hC.out.drew; (with_reducible refine (toLab_any t _ l _ (hv0.out.below hW.out)).mono ?_)) | (have hz := Lib.hid (zblk hW.out [.string ⟨#[]⟩, .slice none 0 0, .int .i64 0] 29); have hzg := hlo; replace hW := Lib.hid (hW.out.alloc hW.out.size (.cells #[.string ⟨#[]⟩, .slice none 0 0, .int .i64 0] 29)); replace hB := Lib.hid (hB.out.alloc (.cells #[.string ⟨#[]⟩, .slice none 0 0, .int .i64 0] 29)); replace hC := Lib.hid (hC.out.alloc (.cells #[.string ⟨#[]⟩, .slice none 0 0, .int .i64 0] 29)); replace hlo := Lib.hid (le_alloc hlo.out (.cells #[.string ⟨#[]⟩, .slice none 0 0, .int .i64 0] 29)); replace hW := Lib.hid (below_drew' hW.out); replace hB := Lib.hid hB.out.drew; replace hC := Lib.hid hC.out.drew; replace hz := Lib.hid hz.out.drew; (with_reducible refine (toLab_any t _ l _ (hv0.out.below hW.out)).mono ?_))); rintro e1 wq ⟨A2, cap2, rfl, ho, hb⟩; replace hW := Lib.hid (Below.then_ hW.out hb (Nat.le_refl _)); replace hB := Lib.hid (hB.out.up hb); replace hC := Lib.hid (hC.out.up hb); (first | (replace hz := Lib.hid (hz.out.up hb)) | skip); replace hlo := Lib.hid (Nat.le_trans hlo.out hb.size); clear hB0 hB1 hBl; obtain ⟨hB0, hB1, -, -⟩ := hB.out.two; have hBl := hB.out.lt; clear hC0 hC1 hCl; obtain ⟨hC0, hC1, -, -⟩ := hC.out.two; have hCl := hC.out.lt; have i2 := Lib.hid ho.ints; clear ho; clear hb)
        | (go_at_call_of 34 (Value.string s); (first | (with_reducible refine (toLab_any s _ m _ (hu0.out.below hW.out)).mono ?_) | (have hz := Lib.hid (zblk hW.out [.string ⟨#[]⟩, .slice none 0 0, .int .i64 0] 29); have hzg := hlo; replace hW := Lib.hid (hW.out.alloc hW.out.size (.cells #[.string ⟨#[]⟩, .slice none 0 0, .int .i64 0] 29)); replace hB := Lib.hid (hB.out.alloc (.cells #[.string ⟨#[]⟩, .slice none 0 0, .int .i64 0] 29)); replace hC := Lib.hid (hC.out.alloc (.cells #[.string ⟨#[]⟩, .slice none 0 0, .int .i64 0] 29)); replace i2 := Lib.hid (i2.out.alloc (.cells #[.string ⟨#[]⟩, .slice none 0 0, .int .i64 0] 29)); replace hlo := Lib.hid (le_alloc hlo.out (.cells #[.string ⟨#[]⟩, .slice none 0 0, .int .i64 0] 29)); (with_reducible refine (toLab_any s _ m _ (hu0.out.below hW.out)).mono ?_))); rintro e1 wq ⟨A3, cap3, rfl, ho, hb⟩; replace hW := Lib.hid (Below.then_ hW.out hb (Nat.le_refl _)); replace hB := Lib.hid (hB.out.up hb); replace hC := Lib.hid (hC.out.up hb); replace i2 := Lib.hid (i2.out.below hb); (first | (replace hz := Lib.hid (hz.out.up hb)) | skip); replace hlo := Lib.hid (Nat.le_trans hlo.out hb.size); clear hB0 hB1 hBl; obtain ⟨hB0, hB1, -, -⟩ := hB.out.two; have hBl := hB.out.lt; clear hC0 hC1 hCl; obtain ⟨hC0, hC1, -, -⟩ := hC.out.two; have hCl := hC.out.lt; have i3 := Lib.hid ho.ints; clear ho; clear hb)
        | (go_at_call 19; (first | (with_reducible refine (hSP.out _ _ _ i2.out i3.out).mono ?_) | (have hz := Lib.hid (zblk hW.out [.string ⟨#[]⟩, .slice none 0 0, .int .i64 0] 29); have hzg := hlo; replace hW := Lib.hid (hW.out.alloc hW.out.size (.cells #[.string ⟨#[]⟩, .slice none 0 0, .int .i64 0] 29)); replace hB := Lib.hid (hB.out.alloc (.cells #[.string ⟨#[]⟩, .slice none 0 0, .int .i64 0] 29)); replace hC := Lib.hid (hC.out.alloc (.cells #[.string ⟨#[]⟩, .slice none 0 0, .int .i64 0] 29)); replace i2 := Lib.hid (i2.out.alloc (.cells #[.string ⟨#[]⟩, .slice none 0 0, .int .i64 0] 29)); replace i3 := Lib.hid (i3.out.alloc (.cells #[.string ⟨#[]⟩, .slice none 0 0, .int .i64 0] 29)); replace hlo := Lib.hid (le_alloc hlo.out (.cells #[.string ⟨#[]⟩, .slice none 0 0, .int .i64 0] 29)); (with_reducible refine (hSP.out _ _ _ i2.out i3.out).mono ?_))); rintro e1 wq ⟨A0, cap0, rfl, ho, hb⟩; (first | (have hgl := Lib.hid hz.out.lt) | skip); have hlb := hlo; replace hW := Lib.hid (Below.then_ hW.out hb (Nat.le_refl _)); replace hB := Lib.hid (hB.out.up hb); replace hC := Lib.hid (hC.out.up hb); replace i2 := Lib.hid (i2.out.below hb); replace i3 := Lib.hid (i3.out.below hb); (first | (replace hz := Lib.hid (hz.out.up hb)) | skip); replace hlo := Lib.hid (Nat.le_trans hlo.out hb.size); clear hB0 hB1 hBl; obtain ⟨hB0, hB1, -, -⟩ := hB.out.two; have hBl := hB.out.lt; clear hC0 hC1 hCl; obtain ⟨hC0, hC1, -, -⟩ := hC.out.two; have hCl := hC.out.lt; replace ho := Lib.hid ho; (first | (obtain ⟨hz0, hz1, hz2, hzf0, hzf1, hzf2⟩ := hz.out.three; obtain ⟨dB1, dB2⟩ := far2 qxB.out hzg.out; obtain ⟨dC1, dC2⟩ := far2 qxC.out hzg.out) | skip); clear hb))
    all_goals (go_wp2_with fail; go_meet; (first | exact ⟨_, A0, cap0, rfl, heap_alloc_new _ _, Own2.new (OwnInts.alloc ho.out _) hlb.out, hW.out.alloc hW.out.size _, le_alloc hlo.out _, hB.out.alloc _, hC.out.alloc _⟩ | exact ⟨_, A0, cap0, rfl, hz.out.set3 _ _ _, Own2.new (ho.out.set3 hgl.out hlb.out _ _ _) (Nat.le_refl _), below_set3 hW.out (Nat.le_trans hWlo.out hzg.out) _ _ _, (by rw [size_set3]; exact hlo.out), hB.out.set3o (by have h1 := qhB.out; have h2 := hzg.out; omega) _ _ _, hC.out.set3o (by have h1 := qhC.out; have h2 := hzg.out; omega) _ _ _⟩))
  obtain ⟨wc0, rfl⟩ : ∃ x : World, x = wc := ⟨_, rfl⟩
  obtain ⟨g0, A0, cap0, rfl, nb, no, nW, nz, nhB, nhC⟩ := hcut
  clear hW hWlo hB0 hB1 hC0 hC1 hBl hCl hB hC qhB qhC
  have hW := Lib.hid nW
  have bw := Lib.hid nb
  have ow := Lib.hid no
  have zc0 := Lib.hid nz
  have hB := Lib.hid nhB
  have hC := Lib.hid nhC
  clear nW nb no nz nhB nhC
  have zg0 := Lib.hid (show g0 < wc0.heap.size from bw.out.lt)
  obtain ⟨hB0, hB1, -, -⟩ := hB.out.two; have hBl := hB.out.lt
  obtain ⟨hC0, hC1, -, -⟩ := hC.out.two; have hCl := hC.out.lt
  obtain ⟨bw0, bw1, bw2, -, -, -⟩ := bw.out.three; have bwl := bw.out.lt
  go_wp2_with (go_at_call_of 34 (Value.string t); refine (toLab_any t _ l _ (hv0.out.below hW.out)).mono ?_; rintro e3 w3 ⟨A4, cap4, rfl, ho4, hb3⟩; replace hW := Lib.hid (Below.then_ hW.out hb3 (Nat.le_refl _)); replace hB := Lib.hid (hB.out.up hb3); replace hC := Lib.hid (hC.out.up hb3); replace bw := Lib.hid (bw.out.up hb3); replace ow := Lib.hid (ow.out.below hb3); clear hB0 hB1 hBl; obtain ⟨hB0, hB1, -, -⟩ := hB.out.two; have hBl := hB.out.lt; clear hC0 hC1 hCl; obtain ⟨hC0, hC1, -, -⟩ := hC.out.two; have hCl := hC.out.lt; clear bw0 bw1 bw2 bwl; obtain ⟨bw0, bw1, bw2, -, -, -⟩ := bw.out.three; have bwl := bw.out.lt; have z3 := Lib.hid (show wc0.heap.size ≤ w3.heap.size from Nat.le_trans (Nat.le_refl _) hb3.size); have o4 := Lib.hid (show Own2 w3 (wc0.heap.size) w3.heap.size (.slice A4 l.length cap4) l from Own2.new ho4 (Nat.le_refl _)); clear ho4; replace hb3 := Lib.hid hb3)
  replace hW := Lib.hid (hW.out.alloc hW.out.size (.cells #[.string t, .slice A4 l.length cap4] 25))
  replace hB := Lib.hid (hB.out.alloc (.cells #[.string t, .slice A4 l.length cap4] 25))
  replace hC := Lib.hid (hC.out.alloc (.cells #[.string t, .slice A4 l.length cap4] 25))
  replace bw := Lib.hid (bw.out.alloc (.cells #[.string t, .slice A4 l.length cap4] 25))
  replace ow := Lib.hid (ow.out.alloc (.cells #[.string t, .slice A4 l.length cap4] 25))
  replace o4 := Lib.hid (o4.out.alloc (.cells #[.string t, .slice A4 l.length cap4] 25))
  have hx := Lib.hid (show Blk (w3.alloc (.cells #[.string t, .slice A4 l.length cap4] 25)) w3.heap.size 25 [.string t, .slice A4 l.length cap4] from heap_alloc_new w3 (.cells #[.string t, .slice A4 l.length cap4] 25))
  clear hB0 hB1 hBl
  obtain ⟨hB0, hB1, -, -⟩ := hB.out.two; have hBl := hB.out.lt
  clear hC0 hC1 hCl
  obtain ⟨hC0, hC1, -, -⟩ := hC.out.two; have hCl := hC.out.lt
  clear bw0 bw1 bw2 bwl
  obtain ⟨bw0, bw1, bw2, -, -, -⟩ := bw.out.three; have bwl := bw.out.lt
  obtain ⟨hx0, hx1, -, -⟩ := hx.out.two; have hxl := hx.out.lt
  go_wp2_with (go_at_call_of 34 (Value.string s); refine (toLab_any s _ m _ (hu0.out.below hW.out)).mono ?_; rintro e4 w4 ⟨A5, cap5, rfl, ho5, hb4⟩; replace hW := Lib.hid (Below.then_ hW.out hb4 (Nat.le_refl _)); replace hB := Lib.hid (hB.out.up hb4); replace hC := Lib.hid (hC.out.up hb4); replace bw := Lib.hid (bw.out.up hb4); replace hx := Lib.hid (hx.out.up hb4); replace ow := Lib.hid (ow.out.below hb4); replace o4 := Lib.hid (o4.out.below hb4); clear hB0 hB1 hBl; obtain ⟨hB0, hB1, -, -⟩ := hB.out.two; have hBl := hB.out.lt; clear hC0 hC1 hCl; obtain ⟨hC0, hC1, -, -⟩ := hC.out.two; have hCl := hC.out.lt; clear bw0 bw1 bw2 bwl; obtain ⟨bw0, bw1, bw2, -, -, -⟩ := bw.out.three; have bwl := bw.out.lt; clear hx0 hx1 hxl; obtain ⟨hx0, hx1, -, -⟩ := hx.out.two; have hxl := hx.out.lt; have z4 := Lib.hid (show w3.heap.size + 1 ≤ w4.heap.size from Nat.le_trans (by simp) hb4.size); have o5 := Lib.hid (show Own2 w4 (w3.heap.size + 1) w4.heap.size (.slice A5 m.length cap5) m from Own2.new ho5 (by simp)); clear ho5; replace hb4 := Lib.hid hb4)
  replace hW := Lib.hid (hW.out.alloc hW.out.size (.cells #[.string s, .slice A5 m.length cap5] 25))
  replace hB := Lib.hid (hB.out.alloc (.cells #[.string s, .slice A5 m.length cap5] 25))
  replace hC := Lib.hid (hC.out.alloc (.cells #[.string s, .slice A5 m.length cap5] 25))
  replace bw := Lib.hid (bw.out.alloc (.cells #[.string s, .slice A5 m.length cap5] 25))
  replace hx := Lib.hid (hx.out.alloc (.cells #[.string s, .slice A5 m.length cap5] 25))
  replace ow := Lib.hid (ow.out.alloc (.cells #[.string s, .slice A5 m.length cap5] 25))
  replace o4 := Lib.hid (o4.out.alloc (.cells #[.string s, .slice A5 m.length cap5] 25))
  replace o5 := Lib.hid (o5.out.alloc (.cells #[.string s, .slice A5 m.length cap5] 25))
  have hy := Lib.hid (show Blk (w4.alloc (.cells #[.string s, .slice A5 m.length cap5] 25)) w4.heap.size 25 [.string s, .slice A5 m.length cap5] from heap_alloc_new w4 (.cells #[.string s, .slice A5 m.length cap5] 25))
  clear hB0 hB1 hBl
  obtain ⟨hB0, hB1, -, -⟩ := hB.out.two; have hBl := hB.out.lt
  clear hC0 hC1 hCl
  obtain ⟨hC0, hC1, -, -⟩ := hC.out.two; have hCl := hC.out.lt
  clear bw0 bw1 bw2 bwl
  obtain ⟨bw0, bw1, bw2, -, -, -⟩ := bw.out.three; have bwl := bw.out.lt
  clear hx0 hx1 hxl
  obtain ⟨hx0, hx1, -, -⟩ := hx.out.two; have hxl := hx.out.lt
  obtain ⟨hy0, hy1, -, -⟩ := hy.out.two; have hyl := hy.out.lt
  go_wp2_with (go_at_call 13; refine (hIM.out _ _ _ o4.out.ints o5.out.ints).mono ?_; rintro e5 w5 ⟨A1, cap1, rfl, ho1, hb5⟩; replace hW := Lib.hid (Below.then_ hW.out hb5 (Nat.le_refl _)); replace hB := Lib.hid (hB.out.up hb5); replace hC := Lib.hid (hC.out.up hb5); replace bw := Lib.hid (bw.out.up hb5); replace hx := Lib.hid (hx.out.up hb5); replace hy := Lib.hid (hy.out.up hb5); replace ow := Lib.hid (ow.out.below hb5); replace o4 := Lib.hid (o4.out.below hb5); replace o5 := Lib.hid (o5.out.below hb5); clear hB0 hB1 hBl; obtain ⟨hB0, hB1, -, -⟩ := hB.out.two; have hBl := hB.out.lt; clear hC0 hC1 hCl; obtain ⟨hC0, hC1, -, -⟩ := hC.out.two; have hCl := hC.out.lt; clear bw0 bw1 bw2 bwl; obtain ⟨bw0, bw1, bw2, -, -, -⟩ := bw.out.three; have bwl := bw.out.lt; clear hx0 hx1 hxl; obtain ⟨hx0, hx1, -, -⟩ := hx.out.two; have hxl := hx.out.lt; clear hy0 hy1 hyl; obtain ⟨hy0, hy1, -, -⟩ := hy.out.two; have hyl := hy.out.lt; have z5 := Lib.hid (show w4.heap.size + 1 ≤ w5.heap.size from Nat.le_trans (by simp) hb5.size); have og := Lib.hid (show Own2 w5 (w4.heap.size + 1) w5.heap.size (.slice A1 R.l.length cap1) R.l from Own2.new ho1 (by simp)); clear ho1; replace hb5 := Lib.hid hb5)
  replace hW := Lib.hid (hW.out.alloc hW.out.size (.cells #[.string R.t, .slice A1 R.l.length cap1, .int .i64 R.c] 29))
  replace hB := Lib.hid (hB.out.alloc (.cells #[.string R.t, .slice A1 R.l.length cap1, .int .i64 R.c] 29))
  replace hC := Lib.hid (hC.out.alloc (.cells #[.string R.t, .slice A1 R.l.length cap1, .int .i64 R.c] 29))
  replace bw := Lib.hid (bw.out.alloc (.cells #[.string R.t, .slice A1 R.l.length cap1, .int .i64 R.c] 29))
  replace hx := Lib.hid (hx.out.alloc (.cells #[.string R.t, .slice A1 R.l.length cap1, .int .i64 R.c] 29))
  replace hy := Lib.hid (hy.out.alloc (.cells #[.string R.t, .slice A1 R.l.length cap1, .int .i64 R.c] 29))
  replace ow := Lib.hid (ow.out.alloc (.cells #[.string R.t, .slice A1 R.l.length cap1, .int .i64 R.c] 29))
  replace o4 := Lib.hid (o4.out.alloc (.cells #[.string R.t, .slice A1 R.l.length cap1, .int .i64 R.c] 29))
  replace o5 := Lib.hid (o5.out.alloc (.cells #[.string R.t, .slice A1 R.l.length cap1, .int .i64 R.c] 29))
  replace og := Lib.hid (og.out.alloc (.cells #[.string R.t, .slice A1 R.l.length cap1, .int .i64 R.c] 29))
  have bg := Lib.hid (show Blk (w5.alloc (.cells #[.string R.t, .slice A1 R.l.length cap1, .int .i64 R.c] 29)) w5.heap.size 29 [.string R.t, .slice A1 R.l.length cap1, .int .i64 R.c] from heap_alloc_new w5 (.cells #[.string R.t, .slice A1 R.l.length cap1, .int .i64 R.c] 29))
  clear hB0 hB1 hBl
  obtain ⟨hB0, hB1, -, -⟩ := hB.out.two; have hBl := hB.out.lt
  clear hC0 hC1 hCl
  obtain ⟨hC0, hC1, -, -⟩ := hC.out.two; have hCl := hC.out.lt
  clear bw0 bw1 bw2 bwl
  obtain ⟨bw0, bw1, bw2, -, -, -⟩ := bw.out.three; have bwl := bw.out.lt
  clear hx0 hx1 hxl
  obtain ⟨hx0, hx1, -, -⟩ := hx.out.two; have hxl := hx.out.lt
  clear hy0 hy1 hyl
  obtain ⟨hy0, hy1, -, -⟩ := hy.out.two; have hyl := hy.out.lt
  obtain ⟨bg0, bg1, bg2, -, -, -⟩ := bg.out.three; have bgl := bg.out.lt
  go_wp2_with (go_at_call 36; refine (eqLabOut_same R.t _ _ R.l R.c _ og.out.ints ow.out.ints).mono ?_; rintro e6 w6 ⟨rfl, hb6⟩; replace hW := Lib.hid (Below.then_ hW.out hb6 (Nat.le_refl _)); replace hB := Lib.hid (hB.out.up hb6); replace hC := Lib.hid (hC.out.up hb6); replace bw := Lib.hid (bw.out.up hb6); replace hx := Lib.hid (hx.out.up hb6); replace hy := Lib.hid (hy.out.up hb6); replace bg := Lib.hid (bg.out.up hb6); replace ow := Lib.hid (ow.out.below hb6); replace o4 := Lib.hid (o4.out.below hb6); replace o5 := Lib.hid (o5.out.below hb6); replace og := Lib.hid (og.out.below hb6); clear hB0 hB1 hBl; obtain ⟨hB0, hB1, -, -⟩ := hB.out.two; have hBl := hB.out.lt; clear hC0 hC1 hCl; obtain ⟨hC0, hC1, -, -⟩ := hC.out.two; have hCl := hC.out.lt; clear bw0 bw1 bw2 bwl; obtain ⟨bw0, bw1, bw2, -, -, -⟩ := bw.out.three; have bwl := bw.out.lt; clear hx0 hx1 hxl; obtain ⟨hx0, hx1, -, -⟩ := hx.out.two; have hxl := hx.out.lt; clear hy0 hy1 hyl; obtain ⟨hy0, hy1, -, -⟩ := hy.out.two; have hyl := hy.out.lt; clear bg0 bg1 bg2 bgl; obtain ⟨bg0, bg1, bg2, -, -, -⟩ := bg.out.three; have bgl := bg.out.lt; have z6 := Lib.hid (show w5.heap.size + 1 ≤ w6.heap.size from Nat.le_trans (by simp) hb6.size); replace hb6 := Lib.hid hb6)
  replace hW := Lib.hid (below_drew' hW.out)
  replace hB := Lib.hid hB.out.drew
  replace hC := Lib.hid hC.out.drew
  replace bw := Lib.hid bw.out.drew
  replace hx := Lib.hid hx.out.drew
  replace hy := Lib.hid hy.out.drew
  replace bg := Lib.hid bg.out.drew
  replace ow := Lib.hid ow.out.drew
  replace o4 := Lib.hid o4.out.drew
  replace o5 := Lib.hid o5.out.drew
  replace og := Lib.hid og.out.drew
  clear hB0 hB1 hBl
  obtain ⟨hB0, hB1, -, -⟩ := hB.out.two; have hBl := hB.out.lt
  clear hC0 hC1 hCl
  obtain ⟨hC0, hC1, -, -⟩ := hC.out.two; have hCl := hC.out.lt
  clear bw0 bw1 bw2 bwl
  obtain ⟨bw0, bw1, bw2, -, -, -⟩ := bw.out.three; have bwl := bw.out.lt
  clear hx0 hx1 hxl
  obtain ⟨hx0, hx1, -, -⟩ := hx.out.two; have hxl := hx.out.lt
  clear hy0 hy1 hyl
  obtain ⟨hy0, hy1, -, -⟩ := hy.out.two; have hyl := hy.out.lt
  clear bg0 bg1 bg2 bgl
  obtain ⟨bg0, bg1, bg2, -, -, -⟩ := bg.out.three; have bgl := bg.out.lt
  go_region_held3 (fun w' => w'.cell? ⟨w.heap.size, 0, none⟩ = some (.string t) ∧ w'.cell? ⟨w.heap.size, 1, none⟩ = some (.slice A l.length cap) ∧ w'.cell? ⟨w3.heap.size, 0, none⟩ = some (.string t) ∧ w'.cell? ⟨w3.heap.size, 1, none⟩ = some (.slice A4 l.length cap4)) (first | exact ⟨hB0, hB1, hx0, hx1⟩ | go_keep)
    (first
      | (go_at_call_of 34 (Value.string t); refine (toLab_any t _ l _ (hv0.out.below hW.out)).mono ?_; rintro e7 w7 ⟨A6, cap6, rfl, ho6, hb7⟩; replace hW := Lib.hid (Below.then_ hW.out hb7 (Nat.le_refl _)); replace hB := Lib.hid (hB.out.up hb7); replace hC := Lib.hid (hC.out.up hb7); replace bw := Lib.hid (bw.out.up hb7); replace hx := Lib.hid (hx.out.up hb7); replace hy := Lib.hid (hy.out.up hb7); replace bg := Lib.hid (bg.out.up hb7); replace ow := Lib.hid (ow.out.below hb7); replace o4 := Lib.hid (o4.out.below hb7); replace o5 := Lib.hid (o5.out.below hb7); replace og := Lib.hid (og.out.below hb7); clear hB0 hB1 hBl; obtain ⟨hB0, hB1, -, -⟩ := hB.out.two; have hBl := hB.out.lt; clear hC0 hC1 hCl; obtain ⟨hC0, hC1, -, -⟩ := hC.out.two; have hCl := hC.out.lt; clear bw0 bw1 bw2 bwl; obtain ⟨bw0, bw1, bw2, -, -, -⟩ := bw.out.three; have bwl := bw.out.lt; clear hx0 hx1 hxl; obtain ⟨hx0, hx1, -, -⟩ := hx.out.two; have hxl := hx.out.lt; clear hy0 hy1 hyl; obtain ⟨hy0, hy1, -, -⟩ := hy.out.two; have hyl := hy.out.lt; clear bg0 bg1 bg2 bgl; obtain ⟨bg0, bg1, bg2, -, -, -⟩ := bg.out.three; have bgl := bg.out.lt; have z7 := Lib.hid (show w6.heap.size ≤ w7.heap.size from Nat.le_trans (Nat.le_refl _) hb7.size); have o6 := Lib.hid (show Own2 w7 (w6.heap.size) w7.heap.size (.slice A6 l.length cap6) l from Own2.new ho6 (Nat.le_refl _)); clear ho6; replace hb7 := Lib.hid hb7)
      | (go_at_call 35; refine (eqLab_any t t _ _ l l _ o4.out.ints o6.out.ints).mono ?_; rintro e8 w8 ⟨rfl, hb8⟩; replace hW := Lib.hid (Below.then_ hW.out hb8 (Nat.le_refl _)); replace hB := Lib.hid (hB.out.up hb8); replace hC := Lib.hid (hC.out.up hb8); replace bw := Lib.hid (bw.out.up hb8); replace hx := Lib.hid (hx.out.up hb8); replace hy := Lib.hid (hy.out.up hb8); replace bg := Lib.hid (bg.out.up hb8); replace ow := Lib.hid (ow.out.below hb8); replace o4 := Lib.hid (o4.out.below hb8); replace o5 := Lib.hid (o5.out.below hb8); replace og := Lib.hid (og.out.below hb8); replace o6 := Lib.hid (o6.out.below hb8); clear hB0 hB1 hBl; obtain ⟨hB0, hB1, -, -⟩ := hB.out.two; have hBl := hB.out.lt; clear hC0 hC1 hCl; obtain ⟨hC0, hC1, -, -⟩ := hC.out.two; have hCl := hC.out.lt; clear bw0 bw1 bw2 bwl; obtain ⟨bw0, bw1, bw2, -, -, -⟩ := bw.out.three; have bwl := bw.out.lt; clear hx0 hx1 hxl; obtain ⟨hx0, hx1, -, -⟩ := hx.out.two; have hxl := hx.out.lt; clear hy0 hy1 hyl; obtain ⟨hy0, hy1, -, -⟩ := hy.out.two; have hyl := hy.out.lt; clear bg0 bg1 bg2 bgl; obtain ⟨bg0, bg1, bg2, -, -, -⟩ := bg.out.three; have bgl := bg.out.lt; have z8 := Lib.hid (show w7.heap.size ≤ w8.heap.size from Nat.le_trans (Nat.le_refl _) hb8.size); rw [alike_same]; replace hb8 := Lib.hid hb8))
  clear o6
  go_wp2
  replace hW := Lib.hid (below_drew' hW.out)
  replace hB := Lib.hid hB.out.drew
  replace hC := Lib.hid hC.out.drew
  replace bw := Lib.hid bw.out.drew
  replace hx := Lib.hid hx.out.drew
  replace hy := Lib.hid hy.out.drew
  replace bg := Lib.hid bg.out.drew
  replace ow := Lib.hid ow.out.drew
  replace o4 := Lib.hid o4.out.drew
  replace o5 := Lib.hid o5.out.drew
  replace og := Lib.hid og.out.drew
  clear hB0 hB1 hBl
  obtain ⟨hB0, hB1, -, -⟩ := hB.out.two; have hBl := hB.out.lt
  clear hC0 hC1 hCl
  obtain ⟨hC0, hC1, -, -⟩ := hC.out.two; have hCl := hC.out.lt
  clear bw0 bw1 bw2 bwl
  obtain ⟨bw0, bw1, bw2, -, -, -⟩ := bw.out.three; have bwl := bw.out.lt
  clear hx0 hx1 hxl
  obtain ⟨hx0, hx1, -, -⟩ := hx.out.two; have hxl := hx.out.lt
  clear hy0 hy1 hyl
  obtain ⟨hy0, hy1, -, -⟩ := hy.out.two; have hyl := hy.out.lt
  clear bg0 bg1 bg2 bgl
  obtain ⟨bg0, bg1, bg2, -, -, -⟩ := bg.out.three; have bgl := bg.out.lt
  go_region_held3 (fun w' => w'.cell? ⟨w.heap.size + 1, 0, none⟩ = some (.string s) ∧ w'.cell? ⟨w.heap.size + 1, 1, none⟩ = some (.slice A' m.length cap') ∧ w'.cell? ⟨w4.heap.size, 0, none⟩ = some (.string s) ∧ w'.cell? ⟨w4.heap.size, 1, none⟩ = some (.slice A5 m.length cap5)) (first | exact ⟨hC0, hC1, hy0, hy1⟩ | go_keep)
    (first
      | (go_at_call_of 34 (Value.string s); refine (toLab_any s _ m _ (hu0.out.below hW.out)).mono ?_; rintro e9 w9 ⟨A7, cap7, rfl, ho7, hb9⟩; replace hW := Lib.hid (Below.then_ hW.out hb9 (Nat.le_refl _)); replace hB := Lib.hid (hB.out.up hb9); replace hC := Lib.hid (hC.out.up hb9); replace bw := Lib.hid (bw.out.up hb9); replace hx := Lib.hid (hx.out.up hb9); replace hy := Lib.hid (hy.out.up hb9); replace bg := Lib.hid (bg.out.up hb9); replace ow := Lib.hid (ow.out.below hb9); replace o4 := Lib.hid (o4.out.below hb9); replace o5 := Lib.hid (o5.out.below hb9); replace og := Lib.hid (og.out.below hb9); clear hB0 hB1 hBl; obtain ⟨hB0, hB1, -, -⟩ := hB.out.two; have hBl := hB.out.lt; clear hC0 hC1 hCl; obtain ⟨hC0, hC1, -, -⟩ := hC.out.two; have hCl := hC.out.lt; clear bw0 bw1 bw2 bwl; obtain ⟨bw0, bw1, bw2, -, -, -⟩ := bw.out.three; have bwl := bw.out.lt; clear hx0 hx1 hxl; obtain ⟨hx0, hx1, -, -⟩ := hx.out.two; have hxl := hx.out.lt; clear hy0 hy1 hyl; obtain ⟨hy0, hy1, -, -⟩ := hy.out.two; have hyl := hy.out.lt; clear bg0 bg1 bg2 bgl; obtain ⟨bg0, bg1, bg2, -, -, -⟩ := bg.out.three; have bgl := bg.out.lt; have z9 := Lib.hid (show w8.heap.size ≤ w9.heap.size from Nat.le_trans (Nat.le_refl _) hb9.size); have o7 := Lib.hid (show Own2 w9 (w8.heap.size) w9.heap.size (.slice A7 m.length cap7) m from Own2.new ho7 (Nat.le_refl _)); clear ho7; replace hb9 := Lib.hid hb9)
      | (go_at_call 35; refine (eqLab_any s s _ _ m m _ o5.out.ints o7.out.ints).mono ?_; rintro e10 w10 ⟨rfl, hb10⟩; replace hW := Lib.hid (Below.then_ hW.out hb10 (Nat.le_refl _)); replace hB := Lib.hid (hB.out.up hb10); replace hC := Lib.hid (hC.out.up hb10); replace bw := Lib.hid (bw.out.up hb10); replace hx := Lib.hid (hx.out.up hb10); replace hy := Lib.hid (hy.out.up hb10); replace bg := Lib.hid (bg.out.up hb10); replace ow := Lib.hid (ow.out.below hb10); replace o4 := Lib.hid (o4.out.below hb10); replace o5 := Lib.hid (o5.out.below hb10); replace og := Lib.hid (og.out.below hb10); replace o7 := Lib.hid (o7.out.below hb10); clear hB0 hB1 hBl; obtain ⟨hB0, hB1, -, -⟩ := hB.out.two; have hBl := hB.out.lt; clear hC0 hC1 hCl; obtain ⟨hC0, hC1, -, -⟩ := hC.out.two; have hCl := hC.out.lt; clear bw0 bw1 bw2 bwl; obtain ⟨bw0, bw1, bw2, -, -, -⟩ := bw.out.three; have bwl := bw.out.lt; clear hx0 hx1 hxl; obtain ⟨hx0, hx1, -, -⟩ := hx.out.two; have hxl := hx.out.lt; clear hy0 hy1 hyl; obtain ⟨hy0, hy1, -, -⟩ := hy.out.two; have hyl := hy.out.lt; clear bg0 bg1 bg2 bgl; obtain ⟨bg0, bg1, bg2, -, -, -⟩ := bg.out.three; have bgl := bg.out.lt; have z10 := Lib.hid (show w9.heap.size ≤ w10.heap.size from Nat.le_trans (Nat.le_refl _) hb10.size); rw [alike_same]; replace hb10 := Lib.hid hb10))
  clear o7
  go_wp2_with (go_at_call_of 39 (Value.string t); refine (markLab_one t _ l _ _ o4.out.1).mono ?_; rintro e11 w11 ⟨rfl, ho, hg⟩; replace hW := Lib.hid (o4.out.stays hg hW.out (by have := z1.out; have := z2.out; have := zc0.out; have := zg0.out; have := z3.out; have := z4.out; have := z5.out; have := z6.out; have := z7.out; have := z8.out; have := z9.out; have := z10.out; omega)); replace hB := Lib.hid (o4.out.blk hg hB.out (by have := z1.out; have := z2.out; have := zc0.out; have := zg0.out; have := z3.out; have := z4.out; have := z5.out; have := z6.out; have := z7.out; have := z8.out; have := z9.out; have := z10.out; omega)); replace hC := Lib.hid (o4.out.blk hg hC.out (by have := z1.out; have := z2.out; have := zc0.out; have := zg0.out; have := z3.out; have := z4.out; have := z5.out; have := z6.out; have := z7.out; have := z8.out; have := z9.out; have := z10.out; omega)); replace bw := Lib.hid (o4.out.blk hg bw.out (by have := z1.out; have := z2.out; have := zc0.out; have := zg0.out; have := z3.out; have := z4.out; have := z5.out; have := z6.out; have := z7.out; have := z8.out; have := z9.out; have := z10.out; omega)); replace hx := Lib.hid (o4.out.blk hg hx.out (by have := z1.out; have := z2.out; have := zc0.out; have := zg0.out; have := z3.out; have := z4.out; have := z5.out; have := z6.out; have := z7.out; have := z8.out; have := z9.out; have := z10.out; omega)); replace hy := Lib.hid (o4.out.blk hg hy.out (by have := z1.out; have := z2.out; have := zc0.out; have := zg0.out; have := z3.out; have := z4.out; have := z5.out; have := z6.out; have := z7.out; have := z8.out; have := z9.out; have := z10.out; omega)); replace bg := Lib.hid (o4.out.blk hg bg.out (by have := z1.out; have := z2.out; have := zc0.out; have := zg0.out; have := z3.out; have := z4.out; have := z5.out; have := z6.out; have := z7.out; have := z8.out; have := z9.out; have := z10.out; omega)); replace ow := Lib.hid (ow.out.apart hg o4.out (by have := z1.out; have := z2.out; have := zc0.out; have := zg0.out; have := z3.out; have := z4.out; have := z5.out; have := z6.out; have := z7.out; have := z8.out; have := z9.out; have := z10.out; omega)); replace o5 := Lib.hid (o5.out.apart hg o4.out (by have := z1.out; have := z2.out; have := zc0.out; have := zg0.out; have := z3.out; have := z4.out; have := z5.out; have := z6.out; have := z7.out; have := z8.out; have := z9.out; have := z10.out; omega)); replace og := Lib.hid (og.out.apart hg o4.out (by have := z1.out; have := z2.out; have := zc0.out; have := zg0.out; have := z3.out; have := z4.out; have := z5.out; have := z6.out; have := z7.out; have := z8.out; have := z9.out; have := z10.out; omega)); have z11 := Lib.hid (show w10.heap.size ≤ w11.heap.size from Nat.le_trans (Nat.le_refl _) hg.size); replace o4 := Lib.hid (o4.out.marked ho); clear ho hg; rw [← hK1.out]; clear hB0 hB1 hBl; obtain ⟨hB0, hB1, -, -⟩ := hB.out.two; have hBl := hB.out.lt; clear hC0 hC1 hCl; obtain ⟨hC0, hC1, -, -⟩ := hC.out.two; have hCl := hC.out.lt; clear bw0 bw1 bw2 bwl; obtain ⟨bw0, bw1, bw2, -, -, -⟩ := bw.out.three; have bwl := bw.out.lt; clear hx0 hx1 hxl; obtain ⟨hx0, hx1, -, -⟩ := hx.out.two; have hxl := hx.out.lt; clear hy0 hy1 hyl; obtain ⟨hy0, hy1, -, -⟩ := hy.out.two; have hyl := hy.out.lt; clear bg0 bg1 bg2 bgl; obtain ⟨bg0, bg1, bg2, -, -, -⟩ := bg.out.three; have bgl := bg.out.lt)
  go_wp2_with (go_at_call_of 39 (Value.string s); refine (markLab_any s _ m K1 _ _ hK4.out o5.out.1).mono ?_; rintro e12 w12 ⟨rfl, ho, hg⟩; replace hW := Lib.hid (o5.out.stays hg hW.out (by have := z1.out; have := z2.out; have := zc0.out; have := zg0.out; have := z3.out; have := z4.out; have := z5.out; have := z6.out; have := z7.out; have := z8.out; have := z9.out; have := z10.out; have := z11.out; omega)); replace hB := Lib.hid (o5.out.blk hg hB.out (by have := z1.out; have := z2.out; have := zc0.out; have := zg0.out; have := z3.out; have := z4.out; have := z5.out; have := z6.out; have := z7.out; have := z8.out; have := z9.out; have := z10.out; have := z11.out; omega)); replace hC := Lib.hid (o5.out.blk hg hC.out (by have := z1.out; have := z2.out; have := zc0.out; have := zg0.out; have := z3.out; have := z4.out; have := z5.out; have := z6.out; have := z7.out; have := z8.out; have := z9.out; have := z10.out; have := z11.out; omega)); replace bw := Lib.hid (o5.out.blk hg bw.out (by have := z1.out; have := z2.out; have := zc0.out; have := zg0.out; have := z3.out; have := z4.out; have := z5.out; have := z6.out; have := z7.out; have := z8.out; have := z9.out; have := z10.out; have := z11.out; omega)); replace hx := Lib.hid (o5.out.blk hg hx.out (by have := z1.out; have := z2.out; have := zc0.out; have := zg0.out; have := z3.out; have := z4.out; have := z5.out; have := z6.out; have := z7.out; have := z8.out; have := z9.out; have := z10.out; have := z11.out; omega)); replace hy := Lib.hid (o5.out.blk hg hy.out (by have := z1.out; have := z2.out; have := zc0.out; have := zg0.out; have := z3.out; have := z4.out; have := z5.out; have := z6.out; have := z7.out; have := z8.out; have := z9.out; have := z10.out; have := z11.out; omega)); replace bg := Lib.hid (o5.out.blk hg bg.out (by have := z1.out; have := z2.out; have := zc0.out; have := zg0.out; have := z3.out; have := z4.out; have := z5.out; have := z6.out; have := z7.out; have := z8.out; have := z9.out; have := z10.out; have := z11.out; omega)); replace ow := Lib.hid (ow.out.apart hg o5.out (by have := z1.out; have := z2.out; have := zc0.out; have := zg0.out; have := z3.out; have := z4.out; have := z5.out; have := z6.out; have := z7.out; have := z8.out; have := z9.out; have := z10.out; have := z11.out; omega)); replace o4 := Lib.hid (o4.out.apart hg o5.out (by have := z1.out; have := z2.out; have := zc0.out; have := zg0.out; have := z3.out; have := z4.out; have := z5.out; have := z6.out; have := z7.out; have := z8.out; have := z9.out; have := z10.out; have := z11.out; omega)); replace og := Lib.hid (og.out.apart hg o5.out (by have := z1.out; have := z2.out; have := zc0.out; have := zg0.out; have := z3.out; have := z4.out; have := z5.out; have := z6.out; have := z7.out; have := z8.out; have := z9.out; have := z10.out; have := z11.out; omega)); have z12 := Lib.hid (show w11.heap.size ≤ w12.heap.size from Nat.le_trans (Nat.le_refl _) hg.size); replace o5 := Lib.hid (o5.out.marked ho); clear ho hg; rw [← hK2.out]; clear hB0 hB1 hBl; obtain ⟨hB0, hB1, -, -⟩ := hB.out.two; have hBl := hB.out.lt; clear hC0 hC1 hCl; obtain ⟨hC0, hC1, -, -⟩ := hC.out.two; have hCl := hC.out.lt; clear bw0 bw1 bw2 bwl; obtain ⟨bw0, bw1, bw2, -, -, -⟩ := bw.out.three; have bwl := bw.out.lt; clear hx0 hx1 hxl; obtain ⟨hx0, hx1, -, -⟩ := hx.out.two; have hxl := hx.out.lt; clear hy0 hy1 hyl; obtain ⟨hy0, hy1, -, -⟩ := hy.out.two; have hyl := hy.out.lt; clear bg0 bg1 bg2 bgl; obtain ⟨bg0, bg1, bg2, -, -, -⟩ := bg.out.three; have bgl := bg.out.lt)
  go_wp2_with (go_at_call 36; refine (eqLabOut_same R.t _ _ R.l R.c _ og.out.ints ow.out.ints).mono ?_; rintro e13 w13 ⟨rfl, hb13⟩; replace hW := Lib.hid (Below.then_ hW.out hb13 (Nat.le_refl _)); replace hB := Lib.hid (hB.out.up hb13); replace hC := Lib.hid (hC.out.up hb13); replace bw := Lib.hid (bw.out.up hb13); replace hx := Lib.hid (hx.out.up hb13); replace hy := Lib.hid (hy.out.up hb13); replace bg := Lib.hid (bg.out.up hb13); replace ow := Lib.hid (ow.out.below hb13); replace o4 := Lib.hid (o4.out.below hb13); replace o5 := Lib.hid (o5.out.below hb13); replace og := Lib.hid (og.out.below hb13); clear hB0 hB1 hBl; obtain ⟨hB0, hB1, -, -⟩ := hB.out.two; have hBl := hB.out.lt; clear hC0 hC1 hCl; obtain ⟨hC0, hC1, -, -⟩ := hC.out.two; have hCl := hC.out.lt; clear bw0 bw1 bw2 bwl; obtain ⟨bw0, bw1, bw2, -, -, -⟩ := bw.out.three; have bwl := bw.out.lt; clear hx0 hx1 hxl; obtain ⟨hx0, hx1, -, -⟩ := hx.out.two; have hxl := hx.out.lt; clear hy0 hy1 hyl; obtain ⟨hy0, hy1, -, -⟩ := hy.out.two; have hyl := hy.out.lt; clear bg0 bg1 bg2 bgl; obtain ⟨bg0, bg1, bg2, -, -, -⟩ := bg.out.three; have bgl := bg.out.lt; have z13 := Lib.hid (show w12.heap.size ≤ w13.heap.size from Nat.le_trans (Nat.le_refl _) hb13.size); replace hb13 := Lib.hid hb13)
  go_wp2_with (go_at_call 37; refine (markLabOut_one R.t _ R.l R.c _ _ og.out.1).mono ?_; rintro e14 w14 ⟨rfl, ho, hg⟩; replace hW := Lib.hid (og.out.stays hg hW.out (by have := z1.out; have := z2.out; have := zc0.out; have := zg0.out; have := z3.out; have := z4.out; have := z5.out; have := z6.out; have := z7.out; have := z8.out; have := z9.out; have := z10.out; have := z11.out; have := z12.out; have := z13.out; omega)); replace hB := Lib.hid (og.out.blk hg hB.out (by have := z1.out; have := z2.out; have := zc0.out; have := zg0.out; have := z3.out; have := z4.out; have := z5.out; have := z6.out; have := z7.out; have := z8.out; have := z9.out; have := z10.out; have := z11.out; have := z12.out; have := z13.out; omega)); replace hC := Lib.hid (og.out.blk hg hC.out (by have := z1.out; have := z2.out; have := zc0.out; have := zg0.out; have := z3.out; have := z4.out; have := z5.out; have := z6.out; have := z7.out; have := z8.out; have := z9.out; have := z10.out; have := z11.out; have := z12.out; have := z13.out; omega)); replace bw := Lib.hid (og.out.blk hg bw.out (by have := z1.out; have := z2.out; have := zc0.out; have := zg0.out; have := z3.out; have := z4.out; have := z5.out; have := z6.out; have := z7.out; have := z8.out; have := z9.out; have := z10.out; have := z11.out; have := z12.out; have := z13.out; omega)); replace hx := Lib.hid (og.out.blk hg hx.out (by have := z1.out; have := z2.out; have := zc0.out; have := zg0.out; have := z3.out; have := z4.out; have := z5.out; have := z6.out; have := z7.out; have := z8.out; have := z9.out; have := z10.out; have := z11.out; have := z12.out; have := z13.out; omega)); replace hy := Lib.hid (og.out.blk hg hy.out (by have := z1.out; have := z2.out; have := zc0.out; have := zg0.out; have := z3.out; have := z4.out; have := z5.out; have := z6.out; have := z7.out; have := z8.out; have := z9.out; have := z10.out; have := z11.out; have := z12.out; have := z13.out; omega)); replace bg := Lib.hid (og.out.blk hg bg.out (by have := z1.out; have := z2.out; have := zc0.out; have := zg0.out; have := z3.out; have := z4.out; have := z5.out; have := z6.out; have := z7.out; have := z8.out; have := z9.out; have := z10.out; have := z11.out; have := z12.out; have := z13.out; omega)); replace ow := Lib.hid (ow.out.apart hg og.out (by have := z1.out; have := z2.out; have := zc0.out; have := zg0.out; have := z3.out; have := z4.out; have := z5.out; have := z6.out; have := z7.out; have := z8.out; have := z9.out; have := z10.out; have := z11.out; have := z12.out; have := z13.out; omega)); replace o4 := Lib.hid (o4.out.apart hg og.out (by have := z1.out; have := z2.out; have := zc0.out; have := zg0.out; have := z3.out; have := z4.out; have := z5.out; have := z6.out; have := z7.out; have := z8.out; have := z9.out; have := z10.out; have := z11.out; have := z12.out; have := z13.out; omega)); replace o5 := Lib.hid (o5.out.apart hg og.out (by have := z1.out; have := z2.out; have := zc0.out; have := zg0.out; have := z3.out; have := z4.out; have := z5.out; have := z6.out; have := z7.out; have := z8.out; have := z9.out; have := z10.out; have := z11.out; have := z12.out; have := z13.out; omega)); have z14 := Lib.hid (show w13.heap.size ≤ w14.heap.size from Nat.le_trans (Nat.le_refl _) hg.size); replace og := Lib.hid (og.out.marked ho); clear ho hg; rw [← hMM.out]; clear hB0 hB1 hBl; obtain ⟨hB0, hB1, -, -⟩ := hB.out.two; have hBl := hB.out.lt; clear hC0 hC1 hCl; obtain ⟨hC0, hC1, -, -⟩ := hC.out.two; have hCl := hC.out.lt; clear bw0 bw1 bw2 bwl; obtain ⟨bw0, bw1, bw2, -, -, -⟩ := bw.out.three; have bwl := bw.out.lt; clear hx0 hx1 hxl; obtain ⟨hx0, hx1, -, -⟩ := hx.out.two; have hxl := hx.out.lt; clear hy0 hy1 hyl; obtain ⟨hy0, hy1, -, -⟩ := hy.out.two; have hyl := hy.out.lt; clear bg0 bg1 bg2 bgl; obtain ⟨bg0, bg1, bg2, -, -, -⟩ := bg.out.three; have bgl := bg.out.lt)
  go_wp2_with (go_at_call 38; refine (heldLabOut_one R.t _ R.l.length R.c _ og.out.ints).mono ?_; rintro e15 w15 ⟨rfl, hb15⟩; replace hW := Lib.hid (Below.then_ hW.out hb15 (Nat.le_refl _)); replace hB := Lib.hid (hB.out.up hb15); replace hC := Lib.hid (hC.out.up hb15); replace bw := Lib.hid (bw.out.up hb15); replace hx := Lib.hid (hx.out.up hb15); replace hy := Lib.hid (hy.out.up hb15); replace bg := Lib.hid (bg.out.up hb15); replace ow := Lib.hid (ow.out.below hb15); replace o4 := Lib.hid (o4.out.below hb15); replace o5 := Lib.hid (o5.out.below hb15); replace og := Lib.hid (og.out.below hb15); clear hB0 hB1 hBl; obtain ⟨hB0, hB1, -, -⟩ := hB.out.two; have hBl := hB.out.lt; clear hC0 hC1 hCl; obtain ⟨hC0, hC1, -, -⟩ := hC.out.two; have hCl := hC.out.lt; clear bw0 bw1 bw2 bwl; obtain ⟨bw0, bw1, bw2, -, -, -⟩ := bw.out.three; have bwl := bw.out.lt; clear hx0 hx1 hxl; obtain ⟨hx0, hx1, -, -⟩ := hx.out.two; have hxl := hx.out.lt; clear hy0 hy1 hyl; obtain ⟨hy0, hy1, -, -⟩ := hy.out.two; have hyl := hy.out.lt; clear bg0 bg1 bg2 bgl; obtain ⟨bg0, bg1, bg2, -, -, -⟩ := bg.out.three; have bgl := bg.out.lt; have z15 := Lib.hid (show w14.heap.size ≤ w15.heap.size from Nat.le_trans (Nat.le_refl _) hb15.size); rw [← hMM.out]; replace hb15 := Lib.hid hb15)
  go_upto_region 31 with fail
  have qbw := Lib.hid bw.out.lt
  have qbg := Lib.hid bg.out.lt
  have qow := Lib.hid (show wc0.heap.size ≤ w15.heap.size from (by have := z1.out; have := z2.out; have := zc0.out; have := zg0.out; have := z3.out; have := z4.out; have := z5.out; have := z6.out; have := z7.out; have := z8.out; have := z9.out; have := z10.out; have := z11.out; have := z12.out; have := z13.out; have := z14.out; have := z15.out; omega))
  have qog := Lib.hid (show w5.heap.size ≤ w15.heap.size from (by have := z1.out; have := z2.out; have := zc0.out; have := zg0.out; have := z3.out; have := z4.out; have := z5.out; have := z6.out; have := z7.out; have := z8.out; have := z9.out; have := z10.out; have := z11.out; have := z12.out; have := z13.out; have := z14.out; have := z15.out; omega))
  have hWlo := Lib.hid (show w.heap.size ≤ w15.heap.size from hW.out.size)
  go_cut [13] (fun slt wx => BoxCut R (w15.heap.size) w slt wx (Blk wx (g0) 29 [.string R.t, .slice A0 R.l.length cap0, .int .i64 R.c] ∧ Blk wx (w5.heap.size) 29 [.string R.t, .slice A1 R.l.length cap1, .int .i64 R.c] ∧ Own2 wx (w2.heap.size) (wc0.heap.size) (.slice A0 R.l.length cap0) (R.l) ∧ Own2 wx (w4.heap.size + 1) (w5.heap.size) (.slice A1 R.l.length cap1) (seqI 1 R.l.length)))
  case first =>
    clear hB0 hB1 hBl
    obtain ⟨hB0, hB1, -, -⟩ := hB.out.two; have hBl := hB.out.lt
    clear hC0 hC1 hCl
    obtain ⟨hC0, hC1, -, -⟩ := hC.out.two; have hCl := hC.out.lt
    clear bw0 bw1 bw2 bwl
    obtain ⟨bw0, bw1, bw2, -, -, -⟩ := bw.out.three; have bwl := bw.out.lt
    clear hx0 hx1 hxl
    obtain ⟨hx0, hx1, -, -⟩ := hx.out.two; have hxl := hx.out.lt
    clear hy0 hy1 hyl
    obtain ⟨hy0, hy1, -, -⟩ := hy.out.two; have hyl := hy.out.lt
    clear bg0 bg1 bg2 bgl
    obtain ⟨bg0, bg1, bg2, -, -, -⟩ := bg.out.three; have bgl := bg.out.lt
    have qxB := Lib.hid (show w.heap.size < w15.heap.size from hBl); have qxC := Lib.hid (show w.heap.size + 1 < w15.heap.size from hCl)
    have hlo := Lib.hid (show w15.heap.size ≤ w15.heap.size from Nat.le_refl _)
    go_region_held3 (fun w' => w'.cell? ⟨w.heap.size, 0, none⟩ = some (.string t) ∧ w'.cell? ⟨w.heap.size, 1, none⟩ = some (.slice A l.length cap) ∧ w'.cell? ⟨w.heap.size + 1, 0, none⟩ = some (.string s) ∧ w'.cell? ⟨w.heap.size + 1, 1, none⟩ = some (.slice A' m.length cap')) (first | exact ⟨hB0, hB1, hC0, hC1⟩ | go_keep)
      (first
        | (go_at_call_of 34 (Value.string t); (first | (replace hW := Lib.hid (below_drew' hW.out); replace hB := Lib.hid hB.out.drew; replace hC := Lib.hid hC.out.drew; replace bw := Lib.hid bw.out.drew; replace hx := Lib.hid hx.out.drew; replace hy := Lib.hid hy.out.drew; replace bg := Lib.hid bg.out.drew; replace ow := Lib.hid ow.out.drew; replace o4 := Lib.hid o4.out.drew; replace o5 := Lib.hid o5.out.drew; replace og := Lib.hid og.out.drew; (with_reducible refine (toLab_any t _ l _ (hv0.out.below hW.out)).mono ?_)) | (have hz := Lib.hid (zblk hW.out [.string ⟨#[]⟩, .slice none 0 0, .int .i64 0] 29); have hzg := hlo; replace hW := Lib.hid (hW.out.alloc hW.out.size (.cells #[.string ⟨#[]⟩, .slice none 0 0, .int .i64 0] 29)); replace hB := Lib.hid (hB.out.alloc (.cells #[.string ⟨#[]⟩, .slice none 0 0, .int .i64 0] 29)); replace hC := Lib.hid (hC.out.alloc (.cells #[.string ⟨#[]⟩, .slice none 0 0, .int .i64 0] 29)); replace bw := Lib.hid (bw.out.alloc (.cells #[.string ⟨#[]⟩, .slice none 0 0, .int .i64 0] 29)); replace hx := Lib.hid (hx.out.alloc (.cells #[.string ⟨#[]⟩, .slice none 0 0, .int .i64 0] 29)); replace hy := Lib.hid (hy.out.alloc (.cells #[.string ⟨#[]⟩, .slice none 0 0, .int .i64 0] 29)); replace bg := Lib.hid (bg.out.alloc (.cells #[.string ⟨#[]⟩, .slice none 0 0, .int .i64 0] 29)); replace ow := Lib.hid (ow.out.alloc (.cells #[.string ⟨#[]⟩, .slice none 0 0, .int .i64 0] 29)); replace o4 := Lib.hid (o4.out.alloc (.cells #[.string ⟨#[]⟩, .slice none 0 0, .int .i64 0] 29)); replace o5 := Lib.hid (o5.out.alloc (.cells #[.string ⟨#[]⟩, .slice none 0 0, .int .i64 0] 29)); replace og := Lib.hid (og.out.alloc (.cells #[.string ⟨#[]⟩, .slice none 0 0, .int .i64 0] 29)); replace hlo := Lib.hid (le_alloc hlo.out (.cells #[.string ⟨#[]⟩, .slice none 0 0, .int .i64 0] 29)); replace hW := Lib.hid (below_drew' hW.out); replace hB := Lib.hid hB.out.drew; replace hC := Lib.hid hC.out.drew; replace bw := Lib.hid bw.out.drew; replace hx := Lib.hid hx.out.drew; replace hy := Lib.hid hy.out.drew; replace bg := Lib.hid bg.out.drew; replace ow := Lib.hid ow.out.drew; replace o4 := Lib.hid o4.out.drew; replace o5 := Lib.hid o5.out.drew; replace og := Lib.hid og.out.drew; replace hz := Lib.hid hz.out.drew; (with_reducible refine (toLab_any t _ l _ (hv0.out.below hW.out)).mono ?_))); rintro e1 wq ⟨A8, cap8, rfl, ho, hb⟩; replace hW := Lib.hid (Below.then_ hW.out hb (Nat.le_refl _)); replace hB := Lib.hid (hB.out.up hb); replace hC := Lib.hid (hC.out.up hb); replace bw := Lib.hid (bw.out.up hb); replace hx := Lib.hid (hx.out.up hb); replace hy := Lib.hid (hy.out.up hb); replace bg := Lib.hid (bg.out.up hb); replace ow := Lib.hid (ow.out.below hb); replace o4 := Lib.hid (o4.out.below hb); replace o5 := Lib.hid (o5.out.below hb); replace og := Lib.hid (og.out.below hb); (first | (replace hz := Lib.hid (hz.out.up hb)) | skip); replace hlo := Lib.hid (Nat.le_trans hlo.out hb.size); clear hB0 hB1 hBl; obtain ⟨hB0, hB1, -, -⟩ := hB.out.two; have hBl := hB.out.lt; clear hC0 hC1 hCl; obtain ⟨hC0, hC1, -, -⟩ := hC.out.two; have hCl := hC.out.lt; clear bw0 bw1 bw2 bwl; obtain ⟨bw0, bw1, bw2, -, -, -⟩ := bw.out.three; have bwl := bw.out.lt; clear hx0 hx1 hxl; obtain ⟨hx0, hx1, -, -⟩ := hx.out.two; have hxl := hx.out.lt; clear hy0 hy1 hyl; obtain ⟨hy0, hy1, -, -⟩ := hy.out.two; have hyl := hy.out.lt; clear bg0 bg1 bg2 bgl; obtain ⟨bg0, bg1, bg2, -, -, -⟩ := bg.out.three; have bgl := bg.out.lt; have i2 := Lib.hid ho.ints; clear ho; clear hb)
        | (go_at_call_of 34 (Value.string s); (first | (with_reducible refine (toLab_any s _ m _ (hu0.out.below hW.out)).mono ?_) | (have hz := Lib.hid (zblk hW.out [.string ⟨#[]⟩, .slice none 0 0, .int .i64 0] 29); have hzg := hlo; replace hW := Lib.hid (hW.out.alloc hW.out.size (.cells #[.string ⟨#[]⟩, .slice none 0 0, .int .i64 0] 29)); replace hB := Lib.hid (hB.out.alloc (.cells #[.string ⟨#[]⟩, .slice none 0 0, .int .i64 0] 29)); replace hC := Lib.hid (hC.out.alloc (.cells #[.string ⟨#[]⟩, .slice none 0 0, .int .i64 0] 29)); replace bw := Lib.hid (bw.out.alloc (.cells #[.string ⟨#[]⟩, .slice none 0 0, .int .i64 0] 29)); replace hx := Lib.hid (hx.out.alloc (.cells #[.string ⟨#[]⟩, .slice none 0 0, .int .i64 0] 29)); replace hy := Lib.hid (hy.out.alloc (.cells #[.string ⟨#[]⟩, .slice none 0 0, .int .i64 0] 29)); replace bg := Lib.hid (bg.out.alloc (.cells #[.string ⟨#[]⟩, .slice none 0 0, .int .i64 0] 29)); replace ow := Lib.hid (ow.out.alloc (.cells #[.string ⟨#[]⟩, .slice none 0 0, .int .i64 0] 29)); replace o4 := Lib.hid (o4.out.alloc (.cells #[.string ⟨#[]⟩, .slice none 0 0, .int .i64 0] 29)); replace o5 := Lib.hid (o5.out.alloc (.cells #[.string ⟨#[]⟩, .slice none 0 0, .int .i64 0] 29)); replace og := Lib.hid (og.out.alloc (.cells #[.string ⟨#[]⟩, .slice none 0 0, .int .i64 0] 29)); replace i2 := Lib.hid (i2.out.alloc (.cells #[.string ⟨#[]⟩, .slice none 0 0, .int .i64 0] 29)); replace hlo := Lib.hid (le_alloc hlo.out (.cells #[.string ⟨#[]⟩, .slice none 0 0, .int .i64 0] 29)); (with_reducible refine (toLab_any s _ m _ (hu0.out.below hW.out)).mono ?_))); rintro e1 wq ⟨A9, cap9, rfl, ho, hb⟩; replace hW := Lib.hid (Below.then_ hW.out hb (Nat.le_refl _)); replace hB := Lib.hid (hB.out.up hb); replace hC := Lib.hid (hC.out.up hb); replace bw := Lib.hid (bw.out.up hb); replace hx := Lib.hid (hx.out.up hb); replace hy := Lib.hid (hy.out.up hb); replace bg := Lib.hid (bg.out.up hb); replace ow := Lib.hid (ow.out.below hb); replace o4 := Lib.hid (o4.out.below hb); replace o5 := Lib.hid (o5.out.below hb); replace og := Lib.hid (og.out.below hb); replace i2 := Lib.hid (i2.out.below hb); (first | (replace hz := Lib.hid (hz.out.up hb)) | skip); replace hlo := Lib.hid (Nat.le_trans hlo.out hb.size); clear hB0 hB1 hBl; obtain ⟨hB0, hB1, -, -⟩ := hB.out.two; have hBl := hB.out.lt; clear hC0 hC1 hCl; obtain ⟨hC0, hC1, -, -⟩ := hC.out.two; have hCl := hC.out.lt; clear bw0 bw1 bw2 bwl; obtain ⟨bw0, bw1, bw2, -, -, -⟩ := bw.out.three; have bwl := bw.out.lt; clear hx0 hx1 hxl; obtain ⟨hx0, hx1, -, -⟩ := hx.out.two; have hxl := hx.out.lt; clear hy0 hy1 hyl; obtain ⟨hy0, hy1, -, -⟩ := hy.out.two; have hyl := hy.out.lt; clear bg0 bg1 bg2 bgl; obtain ⟨bg0, bg1, bg2, -, -, -⟩ := bg.out.three; have bgl := bg.out.lt; have i3 := Lib.hid ho.ints; clear ho; clear hb)
        | (go_at_call 13; (first | (with_reducible refine (hIM.out _ _ _ i2.out i3.out).mono ?_) | (have hz := Lib.hid (zblk hW.out [.string ⟨#[]⟩, .slice none 0 0, .int .i64 0] 29); have hzg := hlo; replace hW := Lib.hid (hW.out.alloc hW.out.size (.cells #[.string ⟨#[]⟩, .slice none 0 0, .int .i64 0] 29)); replace hB := Lib.hid (hB.out.alloc (.cells #[.string ⟨#[]⟩, .slice none 0 0, .int .i64 0] 29)); replace hC := Lib.hid (hC.out.alloc (.cells #[.string ⟨#[]⟩, .slice none 0 0, .int .i64 0] 29)); replace bw := Lib.hid (bw.out.alloc (.cells #[.string ⟨#[]⟩, .slice none 0 0, .int .i64 0] 29)); replace hx := Lib.hid (hx.out.alloc (.cells #[.string ⟨#[]⟩, .slice none 0 0, .int .i64 0] 29)); replace hy := Lib.hid (hy.out.alloc (.cells #[.string ⟨#[]⟩, .slice none 0 0, .int .i64 0] 29)); replace bg := Lib.hid (bg.out.alloc (.cells #[.string ⟨#[]⟩, .slice none 0 0, .int .i64 0] 29)); replace ow := Lib.hid (ow.out.alloc (.cells #[.string ⟨#[]⟩, .slice none 0 0, .int .i64 0] 29)); replace o4 := Lib.hid (o4.out.alloc (.cells #[.string ⟨#[]⟩, .slice none 0 0, .int .i64 0] 29)); replace o5 := Lib.hid (o5.out.alloc (.cells #[.string ⟨#[]⟩, .slice none 0 0, .int .i64 0] 29)); replace og := Lib.hid (og.out.alloc (.cells #[.string ⟨#[]⟩, .slice none 0 0, .int .i64 0] 29)); replace i2 := Lib.hid (i2.out.alloc (.cells #[.string ⟨#[]⟩, .slice none 0 0, .int .i64 0] 29)); replace i3 := Lib.hid (i3.out.alloc (.cells #[.string ⟨#[]⟩, .slice none 0 0, .int .i64 0] 29)); replace hlo := Lib.hid (le_alloc hlo.out (.cells #[.string ⟨#[]⟩, .slice none 0 0, .int .i64 0] 29)); (with_reducible refine (hIM.out _ _ _ i2.out i3.out).mono ?_))); rintro e1 wq ⟨A10, cap10, rfl, ho, hb⟩; (first | (have hgl := Lib.hid hz.out.lt) | skip); have hlb := hlo; replace hW := Lib.hid (Below.then_ hW.out hb (Nat.le_refl _)); replace hB := Lib.hid (hB.out.up hb); replace hC := Lib.hid (hC.out.up hb); replace bw := Lib.hid (bw.out.up hb); replace hx := Lib.hid (hx.out.up hb); replace hy := Lib.hid (hy.out.up hb); replace bg := Lib.hid (bg.out.up hb); replace ow := Lib.hid (ow.out.below hb); replace o4 := Lib.hid (o4.out.below hb); replace o5 := Lib.hid (o5.out.below hb); replace og := Lib.hid (og.out.below hb); replace i2 := Lib.hid (i2.out.below hb); replace i3 := Lib.hid (i3.out.below hb); (first | (replace hz := Lib.hid (hz.out.up hb)) | skip); replace hlo := Lib.hid (Nat.le_trans hlo.out hb.size); clear hB0 hB1 hBl; obtain ⟨hB0, hB1, -, -⟩ := hB.out.two; have hBl := hB.out.lt; clear hC0 hC1 hCl; obtain ⟨hC0, hC1, -, -⟩ := hC.out.two; have hCl := hC.out.lt; clear bw0 bw1 bw2 bwl; obtain ⟨bw0, bw1, bw2, -, -, -⟩ := bw.out.three; have bwl := bw.out.lt; clear hx0 hx1 hxl; obtain ⟨hx0, hx1, -, -⟩ := hx.out.two; have hxl := hx.out.lt; clear hy0 hy1 hyl; obtain ⟨hy0, hy1, -, -⟩ := hy.out.two; have hyl := hy.out.lt; clear bg0 bg1 bg2 bgl; obtain ⟨bg0, bg1, bg2, -, -, -⟩ := bg.out.three; have bgl := bg.out.lt; replace ho := Lib.hid ho; (first | (obtain ⟨hz0, hz1, hz2, hzf0, hzf1, hzf2⟩ := hz.out.three; obtain ⟨dB1, dB2⟩ := far2 qxB.out hzg.out; obtain ⟨dC1, dC2⟩ := far2 qxC.out hzg.out) | skip); clear hb))
    all_goals (go_wp2_with fail; go_meet; (first | exact ⟨_, A10, cap10, rfl, heap_alloc_new _ _, Own2.new (OwnInts.alloc ho.out _) hlb.out, hW.out.alloc hW.out.size _, le_alloc hlo.out _, bw.out.alloc _, bg.out.alloc _, ow.out.alloc _, og.out.alloc _⟩ | exact ⟨_, A10, cap10, rfl, hz.out.set3 _ _ _, Own2.new (ho.out.set3 hgl.out hlb.out _ _ _) (Nat.le_refl _), below_set3 hW.out (Nat.le_trans hWlo.out hzg.out) _ _ _, (by rw [size_set3]; exact hlo.out), bw.out.set3o (by have h1 := qbw.out; have h2 := hzg.out; omega) _ _ _, bg.out.set3o (by have h1 := qbg.out; have h2 := hzg.out; omega) _ _ _, ow.out.set3o (by have h1 := qow.out; have h2 := hzg.out; omega) _ _ _, og.out.set3o (by have h1 := qog.out; have h2 := hzg.out; omega) _ _ _⟩))
  obtain ⟨wc10, rfl⟩ : ∃ x : World, x = wc := ⟨_, rfl⟩
  obtain ⟨g10, A10, cap10, rfl, nb, no, nW, nz, nbw, nbg, now, nog⟩ := hcut
  clear hW hWlo hB0 hB1 hC0 hC1 bw0 bw1 bw2 hx0 hx1 hy0 hy1 bg0 bg1 bg2 hBl hCl bwl hxl hyl bgl hB hC bw hx hy bg ow o4 o5 og qbw qbg qow qog
  have hW := Lib.hid nW
  have bh := Lib.hid nb
  have oh := Lib.hid no
  have zc10 := Lib.hid nz
  have bw := Lib.hid nbw
  have bg := Lib.hid nbg
  have ow := Lib.hid now
  have og := Lib.hid nog
  clear nW nb no nz nbw nbg now nog
  have zg10 := Lib.hid (show g10 < wc10.heap.size from bh.out.lt)
  obtain ⟨bw0, bw1, bw2, -, -, -⟩ := bw.out.three; have bwl := bw.out.lt
  obtain ⟨bg0, bg1, bg2, -, -, -⟩ := bg.out.three; have bgl := bg.out.lt
  obtain ⟨bh0, bh1, bh2, -, -, -⟩ := bh.out.three; have bhl := bh.out.lt
  go_wp2_with (go_at_call 36; refine (eqLabOut_same R.t _ _ R.l R.c _ oh.out.ints ow.out.ints).mono ?_; rintro e16 w16 ⟨rfl, hb16⟩; replace hW := Lib.hid (Below.then_ hW.out hb16 (Nat.le_refl _)); replace bw := Lib.hid (bw.out.up hb16); replace bg := Lib.hid (bg.out.up hb16); replace bh := Lib.hid (bh.out.up hb16); replace ow := Lib.hid (ow.out.below hb16); replace og := Lib.hid (og.out.below hb16); replace oh := Lib.hid (oh.out.below hb16); clear bw0 bw1 bw2 bwl; obtain ⟨bw0, bw1, bw2, -, -, -⟩ := bw.out.three; have bwl := bw.out.lt; clear bg0 bg1 bg2 bgl; obtain ⟨bg0, bg1, bg2, -, -, -⟩ := bg.out.three; have bgl := bg.out.lt; clear bh0 bh1 bh2 bhl; obtain ⟨bh0, bh1, bh2, -, -, -⟩ := bh.out.three; have bhl := bh.out.lt; have z16 := Lib.hid (show wc10.heap.size ≤ w16.heap.size from Nat.le_trans (Nat.le_refl _) hb16.size); replace hb16 := Lib.hid hb16)
  go_wp2_with (go_at_call 38; refine (heldLabOut_one R.t _ R.l.length R.c _ og.out.ints).mono ?_; rintro e17 w17 ⟨rfl, hb17⟩; replace hW := Lib.hid (Below.then_ hW.out hb17 (Nat.le_refl _)); replace bw := Lib.hid (bw.out.up hb17); replace bg := Lib.hid (bg.out.up hb17); replace bh := Lib.hid (bh.out.up hb17); replace ow := Lib.hid (ow.out.below hb17); replace og := Lib.hid (og.out.below hb17); replace oh := Lib.hid (oh.out.below hb17); clear bw0 bw1 bw2 bwl; obtain ⟨bw0, bw1, bw2, -, -, -⟩ := bw.out.three; have bwl := bw.out.lt; clear bg0 bg1 bg2 bgl; obtain ⟨bg0, bg1, bg2, -, -, -⟩ := bg.out.three; have bgl := bg.out.lt; clear bh0 bh1 bh2 bhl; obtain ⟨bh0, bh1, bh2, -, -, -⟩ := bh.out.three; have bhl := bh.out.lt; have z17 := Lib.hid (show w16.heap.size ≤ w17.heap.size from Nat.le_trans (Nat.le_refl _) hb17.size); rw [← hMM.out]; replace hb17 := Lib.hid hb17)
  go_ret
  exact ⟨rfl, hW.out⟩
theorem walk (t : ByteArray) (ht : t.size ≤ maxLen) (A : Option Addr) (len cap : Nat) (hl : len ≤ maxLen) (s : ByteArray) (hs : s.size ≤ maxLen) (A' : Option Addr) (len' cap' : Nat) (hl' : len' ≤ maxLen) (w : World) (hI : len ≤ 1048576 → ∃ l : List Int, l.length = len ∧ Ints w (.slice A len cap) l) (hI' : len' ≤ 1048576 → ∃ l : List Int, l.length = len' ∧ Ints w (.slice A' len' cap') l) :
    Calls Try.prog 6 #[.agg #[.string t, .slice A len cap], .agg #[.string s, .slice A' len' cap']] w fun e w' => e = .returned (.bool true) ∧ Below w.heap.size w w' := by
  by_cases h : t.size + len ≤ 1048576
  · by_cases h2 : t.size + len + (s.size + len') ≤ 1048576
    · obtain ⟨l, rfl, hv⟩ := hI (by omega)
      obtain ⟨m, rfl, hu⟩ := hI' (by omega)
      exact walkIn t A l cap s A' m cap' w h2 hv hu
    · exact walk_big2 t ht A len cap hl s hs A' len' cap' hl' w h h2
  · exact walk_big1 t ht A len cap hl s hs A' len' cap' hl' w h

theorem own : ownKnob Try.prog.godebug = none := by kernel_rfl
theorem laidOut : laidOutB Try.prog = true := by kernel_rfl
set_option maxRecDepth 100000 in
theorem lifted (os : Os) (started : os.Started) (H : Type) (enc : TypeId × Value → H) :
    ReturnsInHanded {} Try.checked os 6 .any (Rows.fnExactLabJoinSpec.pre6 enc Try.prog Try.f6 Rows.fnExactLabJoinRow.domain false) (Rows.fnExactLabJoinSpec.post enc Try.prog Try.f6 false true false false) := by
  refine returnsInHanded_of_change (C := Try.checked) own started (by kernel_rfl) Try.func6
    (ChangeSpec.witness6 (enc := enc) (C := Try.checked) false ⟨#[], #[.agg #[.string ByteArray.empty, .slice none 0 0], .agg #[.string ByteArray.empty, .slice none 0 0]], []⟩ 8 (by kernel_rfl) (by kernel_rfl) (by kernel_rfl) (by kernel_rfl)) ?_
  intro W base args ds gs before hval0 hW hcnd _
  have hval : ∀ (j : Nat) t v, Try.f6.params[j]? = some t → args[j]? = some v → Value.okWide Try.prog W .any base t v := hval0
  have hW' := hW
  obtain ⟨p, q, hA0, hV, rfl, hfz, hnd⟩ := hW
  have hA : DataW.TrodAll enc Try.prog W 0 (fun _ => true) true Try.f6.params.toList args.toList ds p := hA0
  rw [Try.params6] at hA hval
  obtain ⟨v0, vs0, d0, ds0, p0, q0, hargs, rfl, rfl, h0, r0⟩ := trodAll_cons hA
  obtain ⟨v1, vs1, d1, ds1, p1, q1, rfl, rfl, rfl, h1, r1⟩ := trodAll_cons r0
  obtain ⟨rfl, rfl, rfl⟩ := trodAll_nil r1
  obtain rfl : args = #[v0, v1] := by cases args; simp_all
  obtain ⟨rfl, rfl⟩ := trodVars_none hV
  have k0 := h0
  have lt0 : ∀ x ∈ p0, x.block < W.heap.size := by obtain ⟨m, hm⟩ := k0; exact DataW.trod_lt m _ _ _ hm
  obtain ⟨c0a, c0b, y0a, y0b, m0, rfl, rfl, rfl, hy0a, hy0b⟩ := Joins.open_agg2 Try.underlying46 (by kernel_rfl) (by kernel_rfl) (hval 0 46 v0 rfl rfl) h0
  obtain ⟨a0, e0, _, w0⟩ := DataW.trod_string Try.underlying9 hy0a
  simp at e0
  subst e0
  obtain ⟨A0, len0, cap0, eb0, hm0, hI0⟩ : ∃ A len cap, c0b = .slice A len cap ∧ len ≤ maxLen ∧ (len ≤ 1048576 → ∃ l, l.length = len ∧ Ints W (.slice A len cap) l) := by
    rcases open_ints Try.underlying23 Try.underlying2 (by kernel_rfl) hy0b with ⟨hcs, _⟩ | ⟨x, l, c, zs, hcs, _, hl, hm, hz, _, hcell, hwz⟩
    · simp at hcs
      exact ⟨none, 0, 0, hcs, Nat.zero_le _, fun _ => ⟨[], rfl, (OwnInts.nil W 0).ints⟩⟩
    · simp at hcs
      refine ⟨some x, l, c, hcs, Nat.le_trans hl hm, fun h => ⟨zs.take l, ?_, ints_of_row ?_ hl hcell h⟩⟩
      · rw [List.length_take]; simp at hz; omega
      · simp at hz; omega
  subst eb0
  have k1 := h1
  have lt1 : ∀ x ∈ p1, x.block < W.heap.size := by obtain ⟨m, hm⟩ := k1; exact DataW.trod_lt m _ _ _ hm
  obtain ⟨c1a, c1b, y1a, y1b, m1, rfl, rfl, rfl, hy1a, hy1b⟩ := Joins.open_agg2 Try.underlying46 (by kernel_rfl) (by kernel_rfl) (hval 1 46 v1 rfl rfl) h1
  obtain ⟨a1, e1, _, w1⟩ := DataW.trod_string Try.underlying9 hy1a
  simp at e1
  subst e1
  obtain ⟨A1, len1, cap1, eb1, hm1, hI1⟩ : ∃ A len cap, c1b = .slice A len cap ∧ len ≤ maxLen ∧ (len ≤ 1048576 → ∃ l, l.length = len ∧ Ints W (.slice A len cap) l) := by
    rcases open_ints Try.underlying23 Try.underlying2 (by kernel_rfl) hy1b with ⟨hcs, _⟩ | ⟨x, l, c, zs, hcs, _, hl, hm, hz, _, hcell, hwz⟩
    · simp at hcs
      exact ⟨none, 0, 0, hcs, Nat.zero_le _, fun _ => ⟨[], rfl, (OwnInts.nil W 0).ints⟩⟩
    · simp at hcs
      refine ⟨some x, l, c, hcs, Nat.le_trans hl hm, fun h => ⟨zs.take l, ?_, ints_of_row ?_ hl hcell h⟩⟩
      · rw [List.length_take]; simp at hz; omega
      · simp at hz; omega
  subst eb1
  clear hA0 hval0
  refine (walk a0 w0 A0 len0 cap0 hm0 a1 w1 A1 len1 cap1 hm1 W hI0 hI1).mono fun e W' ⟨he, bel⟩ => ?_
  subst he
  exact ⟨_, rfl, _, _, _, [], _, [], hW', trodAll_mk1 (shut_bool Try.underlying4 _), (trodAll_cons_mk (Below.trod laidOut (by kernel_rfl) (of_decide_eq_true (by kernel_rfl)) k0 bel lt0) (trodAll_cons_mk (Below.trod laidOut (by kernel_rfl) (of_decide_eq_true (by kernel_rfl)) k1 bel lt1) trodAll_mk0)), rfl, bel.frame _, fun h => by cases h⟩

theorem over : Rows.fnExactLabJoinRow.holds Try.pinned (OpenSpec.ofChange Rows.fnExactLabJoinSpec) :=
  OpenClaim.holds_of_wide 6 Try.f6 rfl rfl rfl rfl rfl rfl rfl ⟨rfl, rfl, rfl, rfl, rfl⟩ rfl rfl rfl rfl rfl (by kernel_rfl) Try.func6 (by kernel_rfl)
    (of_decide_eq_true (by kernel_rfl)) (by unfold Func.isWrapper; first | (rw [if_pos (by decide +kernel)]; kernel_rfl) | (rw [if_neg (by decide +kernel)]; exact ⟨rfl, rfl⟩))
    (fun os started H enc _ => lifted os started H enc)

theorem proved : Rows.FnExactLabJoinSaid := over
#print axioms proved

end Go.Proofs.Ytlgedbgpekfobaa.fnExactLabJoin
