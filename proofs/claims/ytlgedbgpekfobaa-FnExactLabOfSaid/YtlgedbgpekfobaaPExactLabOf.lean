/- LabOf of the program answers as that of the model, at every text and mark; its answer owns its memory. No conditions. -/
import Derived.Test.YtlgedbgpekfobaaRows
import Derived.WalkKit
import Derived.ProofKit
import Derived.OpenShut
import Derived.ShutString
import Derived.ChangeOld
import Derived.Below
import Derived.Lib.SmallJoins
import Derived.Deep.RegionHeld3
import Derived.Test.YtlgedbgpekfobaaOwn2
namespace Go.Proofs.Ytlgedbgpekfobaa.fnExactLabOf
open Go.ChangeShapes Go.WideShapes Go.ChangeAt Go.RowKit
open Go.ChangeMaps (open_string shut_string)
set_option linter.unusedVariables false

set_option maxHeartbeats 4000000 in
theorem walk_big (t : ByteArray) (mk : Int) (w : World) (ht : t.size ≤ maxLen) (h : ¬ t.size ≤ 1048576) : Calls Try.prog 5 #[.string t, .int .i64 mk] w fun e w' => e = .returned (.bool true) ∧ Below w.heap.size w w' := by
  have h1 : ¬ (t.size : Int) ≤ 1048576 := by omega
  have h2 : (t.size : Int) ≤ 9223372036854775807 := by unfold maxLen at ht; omega
  clear h
  go_enter Try.func5, Try.ntmps5
  go_wp2
  go_ret
  exact ⟨rfl, Below.refl _ _⟩
set_option maxHeartbeats 16000000 in
theorem walkIn (t : ByteArray) (mk : Int) (w : World) (h : t.size ≤ 1048576) : Calls Try.prog 5 #[.string t, .int .i64 mk] w fun e w' => e = .returned (.bool true) ∧ Below w.heap.size w w' := by
  have hml : t.size ≤ maxLen := by unfold maxLen; omega
  have h1 : (t.size : Int) ≤ 1048576 := by omega
  obtain ⟨R, hR⟩ : ∃ R, R = labOfR t mk := ⟨_, rfl⟩
  have hSP := Lib.hid (fun w => show Calls Try.prog 25 #[.string t, .int .i64 mk] w (LabOutEnd w.heap.size R w) by rw [hR]; exact specLabOf_any t mk w hml)
  have hIM := Lib.hid (fun w => show Calls Try.prog 24 #[.string t, .int .i64 mk] w (LabOutEnd w.heap.size R w) by rw [hR]; exact implLabOf_any t mk w hml)
  clear hR hml h
  obtain ⟨MM, hMM⟩ : ∃ MM, MM = 1 + R.l.length := ⟨_, rfl⟩
  replace hMM := Lib.hid hMM
  have hW := Lib.hid (Below.refl w.heap.size w)
  go_enter Try.func5, Try.ntmps5
  go_wp2_with (go_at_call 25; refine (hSP.out _).mono ?_; rintro e1 w1 ⟨A0, cap0, rfl, ho0, hb1⟩; replace hW := Lib.hid (Below.then_ hW.out hb1 (Nat.le_refl _)); have z1 := Lib.hid (show w.heap.size ≤ w1.heap.size from Nat.le_trans (Nat.le_refl _) hb1.size); have ow := Lib.hid (show Own2 w1 (w.heap.size) w1.heap.size (.slice A0 R.l.length cap0) R.l from Own2.new ho0 (Nat.le_refl _)); clear ho0; replace hb1 := Lib.hid hb1)
  replace hW := Lib.hid (hW.out.alloc hW.out.size (.cells #[.string R.t, .slice A0 R.l.length cap0, .int .i64 R.c] 29))
  replace ow := Lib.hid (ow.out.alloc (.cells #[.string R.t, .slice A0 R.l.length cap0, .int .i64 R.c] 29))
  have bw := Lib.hid (show Blk (w1.alloc (.cells #[.string R.t, .slice A0 R.l.length cap0, .int .i64 R.c] 29)) w1.heap.size 29 [.string R.t, .slice A0 R.l.length cap0, .int .i64 R.c] from heap_alloc_new w1 (.cells #[.string R.t, .slice A0 R.l.length cap0, .int .i64 R.c] 29))
  obtain ⟨bw0, bw1, bw2, -, -, -⟩ := bw.out.three; have bwl := bw.out.lt
  go_wp2_with (go_at_call 24; refine (hIM.out _).mono ?_; rintro e2 w2 ⟨A1, cap1, rfl, ho1, hb2⟩; replace hW := Lib.hid (Below.then_ hW.out hb2 (Nat.le_refl _)); replace bw := Lib.hid (bw.out.up hb2); replace ow := Lib.hid (ow.out.below hb2); clear bw0 bw1 bw2 bwl; obtain ⟨bw0, bw1, bw2, -, -, -⟩ := bw.out.three; have bwl := bw.out.lt; have z2 := Lib.hid (show w1.heap.size + 1 ≤ w2.heap.size from Nat.le_trans (by simp) hb2.size); have og := Lib.hid (show Own2 w2 (w1.heap.size + 1) w2.heap.size (.slice A1 R.l.length cap1) R.l from Own2.new ho1 (by simp)); clear ho1; replace hb2 := Lib.hid hb2)
  replace hW := Lib.hid (hW.out.alloc hW.out.size (.cells #[.string R.t, .slice A1 R.l.length cap1, .int .i64 R.c] 29))
  replace bw := Lib.hid (bw.out.alloc (.cells #[.string R.t, .slice A1 R.l.length cap1, .int .i64 R.c] 29))
  replace ow := Lib.hid (ow.out.alloc (.cells #[.string R.t, .slice A1 R.l.length cap1, .int .i64 R.c] 29))
  replace og := Lib.hid (og.out.alloc (.cells #[.string R.t, .slice A1 R.l.length cap1, .int .i64 R.c] 29))
  have bg := Lib.hid (show Blk (w2.alloc (.cells #[.string R.t, .slice A1 R.l.length cap1, .int .i64 R.c] 29)) w2.heap.size 29 [.string R.t, .slice A1 R.l.length cap1, .int .i64 R.c] from heap_alloc_new w2 (.cells #[.string R.t, .slice A1 R.l.length cap1, .int .i64 R.c] 29))
  clear bw0 bw1 bw2 bwl
  obtain ⟨bw0, bw1, bw2, -, -, -⟩ := bw.out.three; have bwl := bw.out.lt
  obtain ⟨bg0, bg1, bg2, -, -, -⟩ := bg.out.three; have bgl := bg.out.lt
  go_wp2_with (go_at_call 36; refine (eqLabOut_same R.t _ _ R.l R.c _ og.out.ints ow.out.ints).mono ?_; rintro e3 w3 ⟨rfl, hb3⟩; replace hW := Lib.hid (Below.then_ hW.out hb3 (Nat.le_refl _)); replace bw := Lib.hid (bw.out.up hb3); replace bg := Lib.hid (bg.out.up hb3); replace ow := Lib.hid (ow.out.below hb3); replace og := Lib.hid (og.out.below hb3); clear bw0 bw1 bw2 bwl; obtain ⟨bw0, bw1, bw2, -, -, -⟩ := bw.out.three; have bwl := bw.out.lt; clear bg0 bg1 bg2 bgl; obtain ⟨bg0, bg1, bg2, -, -, -⟩ := bg.out.three; have bgl := bg.out.lt; have z3 := Lib.hid (show w2.heap.size + 1 ≤ w3.heap.size from Nat.le_trans (by simp) hb3.size); replace hb3 := Lib.hid hb3)
  go_wp2_with (go_at_call 37; refine (markLabOut_one R.t _ R.l R.c _ _ og.out.1).mono ?_; rintro e4 w4 ⟨rfl, ho, hg⟩; replace hW := Lib.hid (og.out.stays hg hW.out (by have := z1.out; have := z2.out; have := z3.out; omega)); replace bw := Lib.hid (og.out.blk hg bw.out (by have := z1.out; have := z2.out; have := z3.out; omega)); replace bg := Lib.hid (og.out.blk hg bg.out (by have := z1.out; have := z2.out; have := z3.out; omega)); replace ow := Lib.hid (ow.out.apart hg og.out (by have := z1.out; have := z2.out; have := z3.out; omega)); have z4 := Lib.hid (show w3.heap.size ≤ w4.heap.size from Nat.le_trans (Nat.le_refl _) hg.size); replace og := Lib.hid (og.out.marked ho); clear ho hg; rw [← hMM.out]; clear bw0 bw1 bw2 bwl; obtain ⟨bw0, bw1, bw2, -, -, -⟩ := bw.out.three; have bwl := bw.out.lt; clear bg0 bg1 bg2 bgl; obtain ⟨bg0, bg1, bg2, -, -, -⟩ := bg.out.three; have bgl := bg.out.lt)
  go_wp2_with (go_at_call 38; refine (heldLabOut_one R.t _ R.l.length R.c _ og.out.ints).mono ?_; rintro e5 w5 ⟨rfl, hb5⟩; replace hW := Lib.hid (Below.then_ hW.out hb5 (Nat.le_refl _)); replace bw := Lib.hid (bw.out.up hb5); replace bg := Lib.hid (bg.out.up hb5); replace ow := Lib.hid (ow.out.below hb5); replace og := Lib.hid (og.out.below hb5); clear bw0 bw1 bw2 bwl; obtain ⟨bw0, bw1, bw2, -, -, -⟩ := bw.out.three; have bwl := bw.out.lt; clear bg0 bg1 bg2 bgl; obtain ⟨bg0, bg1, bg2, -, -, -⟩ := bg.out.three; have bgl := bg.out.lt; have z5 := Lib.hid (show w4.heap.size ≤ w5.heap.size from Nat.le_trans (Nat.le_refl _) hb5.size); rw [← hMM.out]; replace hb5 := Lib.hid hb5)
  go_wp2_with (go_at_call 24; refine (hIM.out _).mono ?_; rintro e6 w6 ⟨A2, cap2, rfl, ho2, hb6⟩; replace hW := Lib.hid (Below.then_ hW.out hb6 (Nat.le_refl _)); replace bw := Lib.hid (bw.out.up hb6); replace bg := Lib.hid (bg.out.up hb6); replace ow := Lib.hid (ow.out.below hb6); replace og := Lib.hid (og.out.below hb6); clear bw0 bw1 bw2 bwl; obtain ⟨bw0, bw1, bw2, -, -, -⟩ := bw.out.three; have bwl := bw.out.lt; clear bg0 bg1 bg2 bgl; obtain ⟨bg0, bg1, bg2, -, -, -⟩ := bg.out.three; have bgl := bg.out.lt; have z6 := Lib.hid (show w5.heap.size ≤ w6.heap.size from Nat.le_trans (Nat.le_refl _) hb6.size); have oh := Lib.hid (show Own2 w6 (w5.heap.size) w6.heap.size (.slice A2 R.l.length cap2) R.l from Own2.new ho2 (Nat.le_refl _)); clear ho2; replace hb6 := Lib.hid hb6)
  replace hW := Lib.hid (hW.out.alloc hW.out.size (.cells #[.string R.t, .slice A2 R.l.length cap2, .int .i64 R.c] 29))
  replace bw := Lib.hid (bw.out.alloc (.cells #[.string R.t, .slice A2 R.l.length cap2, .int .i64 R.c] 29))
  replace bg := Lib.hid (bg.out.alloc (.cells #[.string R.t, .slice A2 R.l.length cap2, .int .i64 R.c] 29))
  replace ow := Lib.hid (ow.out.alloc (.cells #[.string R.t, .slice A2 R.l.length cap2, .int .i64 R.c] 29))
  replace og := Lib.hid (og.out.alloc (.cells #[.string R.t, .slice A2 R.l.length cap2, .int .i64 R.c] 29))
  replace oh := Lib.hid (oh.out.alloc (.cells #[.string R.t, .slice A2 R.l.length cap2, .int .i64 R.c] 29))
  have bh := Lib.hid (show Blk (w6.alloc (.cells #[.string R.t, .slice A2 R.l.length cap2, .int .i64 R.c] 29)) w6.heap.size 29 [.string R.t, .slice A2 R.l.length cap2, .int .i64 R.c] from heap_alloc_new w6 (.cells #[.string R.t, .slice A2 R.l.length cap2, .int .i64 R.c] 29))
  clear bw0 bw1 bw2 bwl
  obtain ⟨bw0, bw1, bw2, -, -, -⟩ := bw.out.three; have bwl := bw.out.lt
  clear bg0 bg1 bg2 bgl
  obtain ⟨bg0, bg1, bg2, -, -, -⟩ := bg.out.three; have bgl := bg.out.lt
  obtain ⟨bh0, bh1, bh2, -, -, -⟩ := bh.out.three; have bhl := bh.out.lt
  go_wp2_with (go_at_call 36; refine (eqLabOut_same R.t _ _ R.l R.c _ oh.out.ints ow.out.ints).mono ?_; rintro e7 w7 ⟨rfl, hb7⟩; replace hW := Lib.hid (Below.then_ hW.out hb7 (Nat.le_refl _)); replace bw := Lib.hid (bw.out.up hb7); replace bg := Lib.hid (bg.out.up hb7); replace bh := Lib.hid (bh.out.up hb7); replace ow := Lib.hid (ow.out.below hb7); replace og := Lib.hid (og.out.below hb7); replace oh := Lib.hid (oh.out.below hb7); clear bw0 bw1 bw2 bwl; obtain ⟨bw0, bw1, bw2, -, -, -⟩ := bw.out.three; have bwl := bw.out.lt; clear bg0 bg1 bg2 bgl; obtain ⟨bg0, bg1, bg2, -, -, -⟩ := bg.out.three; have bgl := bg.out.lt; clear bh0 bh1 bh2 bhl; obtain ⟨bh0, bh1, bh2, -, -, -⟩ := bh.out.three; have bhl := bh.out.lt; have z7 := Lib.hid (show w6.heap.size + 1 ≤ w7.heap.size from Nat.le_trans (by simp) hb7.size); replace hb7 := Lib.hid hb7)
  go_wp2_with (go_at_call 38; refine (heldLabOut_one R.t _ R.l.length R.c _ og.out.ints).mono ?_; rintro e8 w8 ⟨rfl, hb8⟩; replace hW := Lib.hid (Below.then_ hW.out hb8 (Nat.le_refl _)); replace bw := Lib.hid (bw.out.up hb8); replace bg := Lib.hid (bg.out.up hb8); replace bh := Lib.hid (bh.out.up hb8); replace ow := Lib.hid (ow.out.below hb8); replace og := Lib.hid (og.out.below hb8); replace oh := Lib.hid (oh.out.below hb8); clear bw0 bw1 bw2 bwl; obtain ⟨bw0, bw1, bw2, -, -, -⟩ := bw.out.three; have bwl := bw.out.lt; clear bg0 bg1 bg2 bgl; obtain ⟨bg0, bg1, bg2, -, -, -⟩ := bg.out.three; have bgl := bg.out.lt; clear bh0 bh1 bh2 bhl; obtain ⟨bh0, bh1, bh2, -, -, -⟩ := bh.out.three; have bhl := bh.out.lt; have z8 := Lib.hid (show w7.heap.size ≤ w8.heap.size from Nat.le_trans (Nat.le_refl _) hb8.size); rw [← hMM.out]; replace hb8 := Lib.hid hb8)
  go_ret
  exact ⟨rfl, hW.out⟩
theorem walk (t : ByteArray) (ht : t.size ≤ maxLen) (mk : Int) (_hk : (Lit.int .i64 mk).wf = true) (w : World) : Calls Try.prog 5 #[.string t, .int .i64 mk] w fun e w' => e = .returned (.bool true) ∧ Below w.heap.size w w' := by
  by_cases h : t.size ≤ 1048576
  · exact walkIn t mk w h
  · exact walk_big t mk w ht h

theorem own : ownKnob Try.prog.godebug = none := by kernel_rfl
theorem laidOut : laidOutB Try.prog = true := by kernel_rfl
set_option maxRecDepth 100000 in
theorem lifted (os : Os) (started : os.Started) (H : Type) (enc : TypeId × Value → H) :
    ReturnsInHanded {} Try.checked os 5 .any (Rows.fnExactLabOfSpec.pre6 enc Try.prog Try.f5 Rows.fnExactLabOfRow.domain false) (Rows.fnExactLabOfSpec.post enc Try.prog Try.f5 false true false false) := by
  refine returnsInHanded_of_change (C := Try.checked) own started (by kernel_rfl) Try.func5
    (ChangeSpec.witness6 (enc := enc) (C := Try.checked) false ⟨#[], #[.string ByteArray.empty, .int .i64 0], []⟩ 8 (by kernel_rfl) (by kernel_rfl) (by kernel_rfl) (by kernel_rfl)) ?_
  intro W base args ds gs before hval0 hW hcnd _
  have hval : ∀ (j : Nat) t v, Try.f5.params[j]? = some t → args[j]? = some v → Value.okWide Try.prog W .any base t v := hval0
  have hW' := hW
  obtain ⟨p, q, hA0, hV, rfl, hfz, hnd⟩ := hW
  have hA : DataW.TrodAll enc Try.prog W 0 (fun _ => true) true Try.f5.params.toList args.toList ds p := hA0
  rw [Try.params5] at hA hval
  obtain ⟨v0, vs0, d0, ds0, p0, q0, hargs, rfl, rfl, h0, r0⟩ := trodAll_cons hA
  obtain ⟨v1, vs1, d1, ds1, p1, q1, rfl, rfl, rfl, h1, r1⟩ := trodAll_cons r0
  obtain ⟨rfl, rfl, rfl⟩ := trodAll_nil r1
  obtain rfl : args = #[v0, v1] := by cases args; simp_all
  obtain ⟨rfl, rfl⟩ := trodVars_none hV
  obtain ⟨a0, rfl, rfl, rfl, w0⟩ := open_string Try.underlying9 (hval 0 9 v0 rfl rfl) h0
  obtain ⟨a1, rfl, rfl, rfl, w1⟩ := open_int Try.underlying2 (hval 1 2 v1 rfl rfl) h1
  clear hA0 hval0
  refine (walk a0 w0 a1 w1 W ).mono fun e W' ⟨he, bel⟩ => ?_
  subst he
  exact ⟨_, rfl, _, _, _, [], _, [], hW', trodAll_mk1 (shut_bool Try.underlying4 _), (trodAll_cons_mk (shut_string Try.underlying9 w0) (trodAll_cons_mk (shut_int Try.underlying2 w1) trodAll_mk0)), rfl, bel.frame _, fun h => by cases h⟩

theorem over : Rows.fnExactLabOfRow.holds Try.pinned (OpenSpec.ofChange Rows.fnExactLabOfSpec) :=
  OpenClaim.holds_of_wide 5 Try.f5 rfl rfl rfl rfl rfl rfl rfl ⟨rfl, rfl, rfl, rfl, rfl⟩ rfl rfl rfl rfl rfl (by kernel_rfl) Try.func5 (by kernel_rfl)
    (of_decide_eq_true (by kernel_rfl)) (by unfold Func.isWrapper; first | (rw [if_pos (by decide +kernel)]; kernel_rfl) | (rw [if_neg (by decide +kernel)]; exact ⟨rfl, rfl⟩))
    (fun os started H enc _ => lifted os started H enc)

theorem proved : Rows.FnExactLabOfSaid := over
#print axioms proved

end Go.Proofs.Ytlgedbgpekfobaa.fnExactLabOf
