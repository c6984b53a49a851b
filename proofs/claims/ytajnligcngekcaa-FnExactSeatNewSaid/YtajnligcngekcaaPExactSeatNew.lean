/- SeatNew of the program answers as that of the model; its answer owns its memory. No conditions. -/
import Derived.Test.YtajnligcngekcaaRows
import Derived.WalkKit
import Derived.ProofKit
import Derived.OpenShut
import Derived.ShutString
import Derived.ChangeOld
import Derived.Below
import Derived.Lib.SmallJoins
import Derived.Deep.RegionHeld3
import Derived.Test.YtajnligcngekcaaSeatO
import Derived.Test.YtajnligcngekcaaSeatB
namespace Go.Proofs.Ytajnligcngekcaa.fnExactSeatNew
open Go.ChangeShapes Go.WideShapes Go.ChangeAt Go.RowKit
open Go.ChangeMaps (open_string shut_string)
set_option linter.unusedVariables false

set_option maxRecDepth 100000 in
set_option maxHeartbeats 32000000 in
theorem walk (w : World) : Calls Try.prog 4 #[] w fun e w' => e = .returned (.bool true) ∧ Below w.heap.size w w' := by
  have hW := Lib.hid (Below.refl w.heap.size w)
  go_enter Try.func4, Try.ntmps4
  go_wp2_with (go_at_call 12; refine (specSeatNew_any _).mono ?_; rintro e1 w1 ⟨A0, cap0, rfl, ho0, hb1⟩; replace hW := Lib.hid (Below.then_ hW.out hb1 (Nat.le_refl _)); have z1 := Lib.hid (show w.heap.size ≤ w1.heap.size from Nat.le_trans (Nat.le_refl _) hb1.size); have ow := Lib.hid (show Own2 w1 (w.heap.size) w1.heap.size (.slice A0 0 cap0) [] from Own2.new ho0 (Nat.le_refl _)); clear ho0; replace hb1 := Lib.hid hb1)
  replace hW := Lib.hid (hW.out.alloc hW.out.size (.cells #[.bool true, .bool false, .string ⟨#[]⟩, .int .i64 0, .string ⟨#[]⟩, .slice A0 0 cap0] 31))
  replace ow := Lib.hid (ow.out.alloc (.cells #[.bool true, .bool false, .string ⟨#[]⟩, .int .i64 0, .string ⟨#[]⟩, .slice A0 0 cap0] 31))
  have bw := Lib.hid (show Blk (w1.alloc (.cells #[.bool true, .bool false, .string ⟨#[]⟩, .int .i64 0, .string ⟨#[]⟩, .slice A0 0 cap0] 31)) w1.heap.size 31 [.bool true, .bool false, .string ⟨#[]⟩, .int .i64 0, .string ⟨#[]⟩, .slice A0 0 cap0] from heap_alloc_new w1 (.cells #[.bool true, .bool false, .string ⟨#[]⟩, .int .i64 0, .string ⟨#[]⟩, .slice A0 0 cap0] 31))
  obtain ⟨bw0, bw1, bw2, bw3, bw4, bw5, -, -, -, -, -, -⟩ := bw.out.six; have bwl := bw.out.lt
  go_wp2_with (go_at_call 13; refine (implSeatNew_any _).mono ?_; rintro e2 w2 ⟨A1, cap1, rfl, ho1, hb2⟩; replace hW := Lib.hid (Below.then_ hW.out hb2 (Nat.le_refl _)); replace bw := Lib.hid (bw.out.up hb2); replace ow := Lib.hid (ow.out.below hb2); clear bw0 bw1 bw2 bw3 bw4 bw5 bwl; obtain ⟨bw0, bw1, bw2, bw3, bw4, bw5, -, -, -, -, -, -⟩ := bw.out.six; have bwl := bw.out.lt; have z2 := Lib.hid (show w1.heap.size + 1 ≤ w2.heap.size from Nat.le_trans (by simp) hb2.size); have og := Lib.hid (show Own2 w2 (w1.heap.size + 1) w2.heap.size (.slice A1 0 cap1) [] from Own2.new ho1 (by simp)); clear ho1; replace hb2 := Lib.hid hb2)
  replace hW := Lib.hid (hW.out.alloc hW.out.size (.cells #[.bool true, .bool false, .string ⟨#[]⟩, .int .i64 0, .string ⟨#[]⟩, .slice A1 0 cap1] 31))
  replace bw := Lib.hid (bw.out.alloc (.cells #[.bool true, .bool false, .string ⟨#[]⟩, .int .i64 0, .string ⟨#[]⟩, .slice A1 0 cap1] 31))
  replace ow := Lib.hid (ow.out.alloc (.cells #[.bool true, .bool false, .string ⟨#[]⟩, .int .i64 0, .string ⟨#[]⟩, .slice A1 0 cap1] 31))
  replace og := Lib.hid (og.out.alloc (.cells #[.bool true, .bool false, .string ⟨#[]⟩, .int .i64 0, .string ⟨#[]⟩, .slice A1 0 cap1] 31))
  have bg := Lib.hid (show Blk (w2.alloc (.cells #[.bool true, .bool false, .string ⟨#[]⟩, .int .i64 0, .string ⟨#[]⟩, .slice A1 0 cap1] 31)) w2.heap.size 31 [.bool true, .bool false, .string ⟨#[]⟩, .int .i64 0, .string ⟨#[]⟩, .slice A1 0 cap1] from heap_alloc_new w2 (.cells #[.bool true, .bool false, .string ⟨#[]⟩, .int .i64 0, .string ⟨#[]⟩, .slice A1 0 cap1] 31))
  clear bw0 bw1 bw2 bw3 bw4 bw5 bwl
  obtain ⟨bw0, bw1, bw2, bw3, bw4, bw5, -, -, -, -, -, -⟩ := bw.out.six; have bwl := bw.out.lt
  obtain ⟨bg0, bg1, bg2, bg3, bg4, bg5, -, -, -, -, -, -⟩ := bg.out.six; have bgl := bg.out.lt
  go_wp2_with (go_at_call 11; refine (eqSeat_same true false ⟨#[]⟩ 0 ⟨#[]⟩ _ _ [] _ og.out.ints ow.out.ints).mono ?_; rintro e3 w3 ⟨rfl, hb3⟩; replace hW := Lib.hid (Below.then_ hW.out hb3 (Nat.le_refl _)); replace bw := Lib.hid (bw.out.up hb3); replace bg := Lib.hid (bg.out.up hb3); replace ow := Lib.hid (ow.out.below hb3); replace og := Lib.hid (og.out.below hb3); clear bw0 bw1 bw2 bw3 bw4 bw5 bwl; obtain ⟨bw0, bw1, bw2, bw3, bw4, bw5, -, -, -, -, -, -⟩ := bw.out.six; have bwl := bw.out.lt; clear bg0 bg1 bg2 bg3 bg4 bg5 bgl; obtain ⟨bg0, bg1, bg2, bg3, bg4, bg5, -, -, -, -, -, -⟩ := bg.out.six; have bgl := bg.out.lt; have z3 := Lib.hid (show w2.heap.size + 1 ≤ w3.heap.size from Nat.le_trans (by simp) hb3.size); replace hb3 := Lib.hid hb3)
  go_wp2_with (go_at_call 14; refine (markSeat_one true false ⟨#[]⟩ 0 ⟨#[]⟩ _ [] _ _ og.out.1).mono ?_; rintro e4 w4 ⟨rfl, ho, hg⟩; replace hW := Lib.hid (og.out.stays hg hW.out (by have := z1.out; have := z2.out; have := z3.out; omega)); replace bw := Lib.hid (og.out.blk hg bw.out (by have := z1.out; have := z2.out; have := z3.out; omega)); replace bg := Lib.hid (og.out.blk hg bg.out (by have := z1.out; have := z2.out; have := z3.out; omega)); replace ow := Lib.hid (ow.out.apart hg og.out (by have := z1.out; have := z2.out; have := z3.out; omega)); have z4 := Lib.hid (show w3.heap.size ≤ w4.heap.size from Nat.le_trans (Nat.le_refl _) hg.size); replace og := Lib.hid (og.out.marked ho); clear ho hg; clear bw0 bw1 bw2 bw3 bw4 bw5 bwl; obtain ⟨bw0, bw1, bw2, bw3, bw4, bw5, -, -, -, -, -, -⟩ := bw.out.six; have bwl := bw.out.lt; clear bg0 bg1 bg2 bg3 bg4 bg5 bgl; obtain ⟨bg0, bg1, bg2, bg3, bg4, bg5, -, -, -, -, -, -⟩ := bg.out.six; have bgl := bg.out.lt)
  go_wp2_with (go_at_call 15; refine (heldSeat_one true false ⟨#[]⟩ 0 ⟨#[]⟩ _ 0 _ og.out.ints).mono ?_; rintro e5 w5 ⟨rfl, hb5⟩; replace hW := Lib.hid (Below.then_ hW.out hb5 (Nat.le_refl _)); replace bw := Lib.hid (bw.out.up hb5); replace bg := Lib.hid (bg.out.up hb5); replace ow := Lib.hid (ow.out.below hb5); replace og := Lib.hid (og.out.below hb5); clear bw0 bw1 bw2 bw3 bw4 bw5 bwl; obtain ⟨bw0, bw1, bw2, bw3, bw4, bw5, -, -, -, -, -, -⟩ := bw.out.six; have bwl := bw.out.lt; clear bg0 bg1 bg2 bg3 bg4 bg5 bgl; obtain ⟨bg0, bg1, bg2, bg3, bg4, bg5, -, -, -, -, -, -⟩ := bg.out.six; have bgl := bg.out.lt; have z5 := Lib.hid (show w4.heap.size ≤ w5.heap.size from Nat.le_trans (Nat.le_refl _) hb5.size); replace hb5 := Lib.hid hb5)
  go_wp2_with (go_at_call 13; refine (implSeatNew_any _).mono ?_; rintro e6 w6 ⟨A8, cap8, rfl, ho8, hb6⟩; replace hW := Lib.hid (Below.then_ hW.out hb6 (Nat.le_refl _)); replace bw := Lib.hid (bw.out.up hb6); replace bg := Lib.hid (bg.out.up hb6); replace ow := Lib.hid (ow.out.below hb6); replace og := Lib.hid (og.out.below hb6); clear bw0 bw1 bw2 bw3 bw4 bw5 bwl; obtain ⟨bw0, bw1, bw2, bw3, bw4, bw5, -, -, -, -, -, -⟩ := bw.out.six; have bwl := bw.out.lt; clear bg0 bg1 bg2 bg3 bg4 bg5 bgl; obtain ⟨bg0, bg1, bg2, bg3, bg4, bg5, -, -, -, -, -, -⟩ := bg.out.six; have bgl := bg.out.lt; have z6 := Lib.hid (show w5.heap.size ≤ w6.heap.size from Nat.le_trans (Nat.le_refl _) hb6.size); have oh := Lib.hid (show Own2 w6 (w5.heap.size) w6.heap.size (.slice A8 0 cap8) [] from Own2.new ho8 (Nat.le_refl _)); clear ho8; replace hb6 := Lib.hid hb6)
  replace hW := Lib.hid (hW.out.alloc hW.out.size (.cells #[.bool true, .bool false, .string ⟨#[]⟩, .int .i64 0, .string ⟨#[]⟩, .slice A8 0 cap8] 31))
  replace bw := Lib.hid (bw.out.alloc (.cells #[.bool true, .bool false, .string ⟨#[]⟩, .int .i64 0, .string ⟨#[]⟩, .slice A8 0 cap8] 31))
  replace bg := Lib.hid (bg.out.alloc (.cells #[.bool true, .bool false, .string ⟨#[]⟩, .int .i64 0, .string ⟨#[]⟩, .slice A8 0 cap8] 31))
  replace ow := Lib.hid (ow.out.alloc (.cells #[.bool true, .bool false, .string ⟨#[]⟩, .int .i64 0, .string ⟨#[]⟩, .slice A8 0 cap8] 31))
  replace og := Lib.hid (og.out.alloc (.cells #[.bool true, .bool false, .string ⟨#[]⟩, .int .i64 0, .string ⟨#[]⟩, .slice A8 0 cap8] 31))
  replace oh := Lib.hid (oh.out.alloc (.cells #[.bool true, .bool false, .string ⟨#[]⟩, .int .i64 0, .string ⟨#[]⟩, .slice A8 0 cap8] 31))
  have bh := Lib.hid (show Blk (w6.alloc (.cells #[.bool true, .bool false, .string ⟨#[]⟩, .int .i64 0, .string ⟨#[]⟩, .slice A8 0 cap8] 31)) w6.heap.size 31 [.bool true, .bool false, .string ⟨#[]⟩, .int .i64 0, .string ⟨#[]⟩, .slice A8 0 cap8] from heap_alloc_new w6 (.cells #[.bool true, .bool false, .string ⟨#[]⟩, .int .i64 0, .string ⟨#[]⟩, .slice A8 0 cap8] 31))
  clear bw0 bw1 bw2 bw3 bw4 bw5 bwl
  obtain ⟨bw0, bw1, bw2, bw3, bw4, bw5, -, -, -, -, -, -⟩ := bw.out.six; have bwl := bw.out.lt
  clear bg0 bg1 bg2 bg3 bg4 bg5 bgl
  obtain ⟨bg0, bg1, bg2, bg3, bg4, bg5, -, -, -, -, -, -⟩ := bg.out.six; have bgl := bg.out.lt
  obtain ⟨bh0, bh1, bh2, bh3, bh4, bh5, -, -, -, -, -, -⟩ := bh.out.six; have bhl := bh.out.lt
  go_wp2_with (go_at_call 11; refine (eqSeat_same true false ⟨#[]⟩ 0 ⟨#[]⟩ _ _ [] _ oh.out.ints ow.out.ints).mono ?_; rintro e7 w7 ⟨rfl, hb7⟩; replace hW := Lib.hid (Below.then_ hW.out hb7 (Nat.le_refl _)); replace bw := Lib.hid (bw.out.up hb7); replace bg := Lib.hid (bg.out.up hb7); replace bh := Lib.hid (bh.out.up hb7); replace ow := Lib.hid (ow.out.below hb7); replace og := Lib.hid (og.out.below hb7); replace oh := Lib.hid (oh.out.below hb7); clear bw0 bw1 bw2 bw3 bw4 bw5 bwl; obtain ⟨bw0, bw1, bw2, bw3, bw4, bw5, -, -, -, -, -, -⟩ := bw.out.six; have bwl := bw.out.lt; clear bg0 bg1 bg2 bg3 bg4 bg5 bgl; obtain ⟨bg0, bg1, bg2, bg3, bg4, bg5, -, -, -, -, -, -⟩ := bg.out.six; have bgl := bg.out.lt; clear bh0 bh1 bh2 bh3 bh4 bh5 bhl; obtain ⟨bh0, bh1, bh2, bh3, bh4, bh5, -, -, -, -, -, -⟩ := bh.out.six; have bhl := bh.out.lt; have z7 := Lib.hid (show w6.heap.size + 1 ≤ w7.heap.size from Nat.le_trans (by simp) hb7.size); replace hb7 := Lib.hid hb7)
  go_wp2_with (go_at_call 15; refine (heldSeat_one true false ⟨#[]⟩ 0 ⟨#[]⟩ _ 0 _ og.out.ints).mono ?_; rintro e8 w8 ⟨rfl, hb8⟩; replace hW := Lib.hid (Below.then_ hW.out hb8 (Nat.le_refl _)); replace bw := Lib.hid (bw.out.up hb8); replace bg := Lib.hid (bg.out.up hb8); replace bh := Lib.hid (bh.out.up hb8); replace ow := Lib.hid (ow.out.below hb8); replace og := Lib.hid (og.out.below hb8); replace oh := Lib.hid (oh.out.below hb8); clear bw0 bw1 bw2 bw3 bw4 bw5 bwl; obtain ⟨bw0, bw1, bw2, bw3, bw4, bw5, -, -, -, -, -, -⟩ := bw.out.six; have bwl := bw.out.lt; clear bg0 bg1 bg2 bg3 bg4 bg5 bgl; obtain ⟨bg0, bg1, bg2, bg3, bg4, bg5, -, -, -, -, -, -⟩ := bg.out.six; have bgl := bg.out.lt; clear bh0 bh1 bh2 bh3 bh4 bh5 bhl; obtain ⟨bh0, bh1, bh2, bh3, bh4, bh5, -, -, -, -, -, -⟩ := bh.out.six; have bhl := bh.out.lt; have z8 := Lib.hid (show w7.heap.size ≤ w8.heap.size from Nat.le_trans (Nat.le_refl _) hb8.size); replace hb8 := Lib.hid hb8)
  go_ret
  exact ⟨rfl, hW.out⟩

theorem own : ownKnob Try.prog.godebug = none := by kernel_rfl
theorem laidOut : laidOutB Try.prog = true := by kernel_rfl
set_option maxRecDepth 100000 in
theorem lifted (os : Os) (started : os.Started) (H : Type) (enc : TypeId × Value → H) :
    ReturnsInHanded {} Try.checked os 4 .any (Rows.fnExactSeatNewSpec.pre6 enc Try.prog Try.f4 Rows.fnExactSeatNewRow.domain false) (Rows.fnExactSeatNewSpec.post enc Try.prog Try.f4 false true false false) := by
  refine returnsInHanded_of_change (C := Try.checked) own started (by kernel_rfl) Try.func4
    (ChangeSpec.witness6 (enc := enc) (C := Try.checked) false ⟨#[], #[], []⟩ 8 (by kernel_rfl) (by kernel_rfl) (by kernel_rfl) (by kernel_rfl)) ?_
  intro W base args ds gs before hval0 hW hcnd _
  have hval : ∀ (j : Nat) t v, Try.f4.params[j]? = some t → args[j]? = some v → Value.okWide Try.prog W .any base t v := hval0
  have hW' := hW
  obtain ⟨p, q, hA0, hV, rfl, hfz, hnd⟩ := hW
  have hA : DataW.TrodAll enc Try.prog W 0 (fun _ => true) true Try.f4.params.toList args.toList ds p := hA0
  rw [Try.params4] at hA hval
  obtain ⟨hargs, rfl, rfl⟩ := trodAll_nil hA
  obtain rfl : args = #[] := by cases args; simp_all
  obtain ⟨rfl, rfl⟩ := trodVars_none hV
  clear hA0 hval0
  refine (walk  W ).mono fun e W' ⟨he, bel⟩ => ?_
  subst he
  exact ⟨_, rfl, _, _, _, [], _, [], hW', trodAll_mk1 (shut_bool Try.underlying4 _), trodAll_mk0, rfl, bel.frame _, fun h => by cases h⟩

theorem over : Rows.fnExactSeatNewRow.holds Try.pinned (OpenSpec.ofChange Rows.fnExactSeatNewSpec) :=
  OpenClaim.holds_of_wide 4 Try.f4 rfl rfl rfl rfl rfl rfl rfl ⟨rfl, rfl, rfl, rfl, rfl⟩ rfl rfl rfl rfl rfl (by kernel_rfl) Try.func4 (by kernel_rfl)
    (of_decide_eq_true (by kernel_rfl)) (by unfold Func.isWrapper; first | (rw [if_pos (by decide +kernel)]; kernel_rfl) | (rw [if_neg (by decide +kernel)]; exact ⟨rfl, rfl⟩))
    (fun os started H enc _ => lifted os started H enc)

theorem proved : Rows.FnExactSeatNewSaid := over
#print axioms proved

end Go.Proofs.Ytajnligcngekcaa.fnExactSeatNew
