/- GlobFind of the program answers as that of the model, at every glob and text. No conditions. -/
import Derived.Test.YtoljhkhegmimbaaRows
import Derived.WalkKit
import Derived.ProofKit
import Derived.OpenShut
import Derived.ShutString
import Derived.ChangeOld
import Derived.Below
import Derived.Test.YtoljhkhegmimbaaGlobE
namespace Go.Proofs.Ytoljhkhegmimbaa.fnExactGlobFind
open Go.ChangeShapes Go.WideShapes Go.ChangeAt Go.RowKit
open Go.ChangeMaps (open_string shut_string)
set_option linter.unusedVariables false


set_option maxRecDepth 20000 in
set_option maxHeartbeats 1000000 in
theorem walk (a0 : ByteArray) (w0 : a0.size ≤ maxLen) (a1 : ByteArray) (w1 : a1.size ≤ maxLen) (w : World) :
    Calls Try.prog 6 #[.string a0, .string a1] w fun e w' => e = .returned (.bool true) ∧ Below w.heap.size w w' := by
  have w0' := w0
  have w1' := w1
  unfold maxLen at w0' w1'
  by_cases hsz : (a0.size : Int) ≤ 1048576
  · by_cases hsz2 : (a1.size : Int) ≤ 1048576
    · go_enter Try.func6, Try.ntmps6
      go_wp2_with (go_at_call 15; refine (specFind_any a0 a1 (by omega) w1 _).mono ?_; rintro e w2 ⟨⟨r, hr, hs, rfl⟩, hbel⟩; obtain ⟨ra, rb, rc, hv⟩ := spanV_form r; rw [hv]; replace hr := Lib.hid hr; replace hv := Lib.hid hv; have hT := Lib.hid (Trio.new w2 26 (.int .i64 ra) (.int .i64 rb) (.bool rc)); replace hbel := Lib.hid (hbel.alloc hbel.size (.cells #[.int .i64 ra, .int .i64 rb, .bool rc] 26)))
      go_wp2_with (go_at_call 10; refine (implFind_any a0 a1 w0 w1 _).mono ?_; rintro e w3 ⟨⟨r', hr', hs', rfl⟩, hbel2⟩; obtain rfl := FindsG.unique hr.out hr'; rw [hv.out]; have hTl := lt_of_block hT.out; replace hT := Lib.hid (hT.out.below hbel2 hTl); replace hbel := Lib.hid (hbel.out.trans (hbel2.mono hbel.out.size)); have hU := Lib.hid (Trio.new w3 26 (.int .i64 ra) (.int .i64 rb) (.bool rc)); replace hT := Lib.hid (hT.out.alloc (.cells #[.int .i64 ra, .int .i64 rb, .bool rc] 26)); replace hbel := Lib.hid (hbel.out.alloc hbel.out.size (.cells #[.int .i64 ra, .int .i64 rb, .bool rc] 26)); obtain ⟨t0, t1, t2, -, -, -⟩ := hT.out.facts; obtain ⟨u0, u1, u2, -, -, -⟩ := hU.out.facts; clear hbel2 hr' hs')
      go_wp2_with (go_at_call 22; refine (eqSpan_same ra rb rc _).mono ?_; rintro e w4 ⟨rfl, hbel2⟩; have hfin := Lib.hid (hbel.out.trans (hbel2.mono hbel.out.size)); clear hbel2)
      all_goals
        go_ret
        exact ⟨rfl, hfin.out⟩
    · go_enter Try.func6, Try.ntmps6
      go_wp2
      go_ret
      exact ⟨rfl, Below.refl _ _⟩
  · go_enter Try.func6, Try.ntmps6
    go_wp2
    go_ret
    exact ⟨rfl, Below.refl _ _⟩

theorem own : ownKnob Try.prog.godebug = none := by kernel_rfl
theorem laidOut : laidOutB Try.prog = true := by kernel_rfl
set_option maxRecDepth 100000 in
theorem lifted (os : Os) (started : os.Started) (H : Type) (enc : TypeId × Value → H) :
    ReturnsInHanded {} Try.checked os 6 .any (Rows.fnExactGlobFindSpec.pre6 enc Try.prog Try.f6 Rows.fnExactGlobFindRow.domain false) (Rows.fnExactGlobFindSpec.post enc Try.prog Try.f6 false true false false) := by
  refine returnsInHanded_of_change (C := Try.checked) own started (by kernel_rfl) Try.func6
    (ChangeSpec.witness6 (enc := enc) (C := Try.checked) false ⟨#[], #[.string ByteArray.empty, .string ByteArray.empty], []⟩ 8 (by kernel_rfl) (by kernel_rfl) (by kernel_rfl) (by kernel_rfl)) ?_
  intro W base args ds gs before hval0 hW hcnd _
  have hval : ∀ (j : Nat) t v, Try.f6.params[j]? = some t → args[j]? = some v → Value.okWide Try.prog W .any base t v := hval0
  have hW' := hW
  obtain ⟨p, q, hA0, hV, rfl, hfz, hnd⟩ := hW
  have hA : DataW.TrodAll enc Try.prog W 0 (fun _ => true) true Try.f6.params.toList args.toList ds p := hA0
  rw [Try.params6] at hA hval
  obtain ⟨v0, vs0, d0, ds0, p0, q0, hargs, rfl, rfl, h0, r0⟩ := trodAll_cons hA
  obtain ⟨v1, vs1, d1, ds1, p1, q1, rfl, rfl, rfl, h1, r1⟩ := trodAll_cons r0
  obtain ⟨rfl, rfl, rfl⟩ := trodAll_nil r1
  obtain rfl : args = #[v0, v1] := by cases args; simp_all
  obtain ⟨rfl, rfl⟩ := trodVars_none hV
  obtain ⟨a0, rfl, rfl, rfl, w0⟩ := open_string Try.underlying9 (hval 0 9 v0 rfl rfl) h0
  obtain ⟨a1, rfl, rfl, rfl, w1⟩ := open_string Try.underlying9 (hval 1 9 v1 rfl rfl) h1
  clear hA0 hval0
  refine (walk a0 w0 a1 w1 W ).mono fun e W' ⟨he, bel⟩ => ?_
  subst he
  exact ⟨_, rfl, _, _, _, [], _, [], hW', trodAll_mk1 (shut_bool Try.underlying4 _), (trodAll_cons_mk (shut_string Try.underlying9 w0) (trodAll_cons_mk (shut_string Try.underlying9 w1) trodAll_mk0)), rfl, bel.frame _, fun h => by cases h⟩

theorem over : Rows.fnExactGlobFindRow.holds Try.pinned (OpenSpec.ofChange Rows.fnExactGlobFindSpec) :=
  OpenClaim.holds_of_wide 6 Try.f6 rfl rfl rfl rfl rfl rfl rfl ⟨rfl, rfl, rfl, rfl, rfl⟩ rfl rfl rfl rfl rfl (by kernel_rfl) Try.func6 (by kernel_rfl)
    (of_decide_eq_true (by kernel_rfl)) (by unfold Func.isWrapper; first | (rw [if_pos (by decide +kernel)]; kernel_rfl) | (rw [if_neg (by decide +kernel)]; exact ⟨rfl, rfl⟩))
    (fun os started H enc _ => lifted os started H enc)

theorem proved : Rows.FnExactGlobFindSaid := over
#print axioms proved

end Go.Proofs.Ytoljhkhegmimbaa.fnExactGlobFind
