/- TickRight of the program answers as that of the model, at every tick. No conditions. -/
import Derived.Test.YtbadpmghlclfkaaRows
import Derived.WalkKit
import Derived.ProofKit
import Derived.OpenShut
import Derived.ShutString
import Derived.ChangeOld
import Derived.Below
import Derived.Test.YtbadpmghlclfkaaTckT
import Derived.Test.YtbadpmghlclfkaaTckO
namespace Go.Proofs.Ytbadpmghlclfkaa.fnExactTickRight
open Go.ChangeShapes Go.WideShapes Go.ChangeAt Go.RowKit
open Go.ChangeMaps (open_string shut_string)
set_option linter.unusedVariables false


set_option maxHeartbeats 4000000 in
theorem walk (x : Tik) (wx : TikWf x) (w : World) :
    Calls Try.prog 3 #[tikA x] w fun e w' => e = .returned (.bool true) ∧ Below w.heap.size w w' := by
  have hx := Lib.hid wx.1
  clear wx
  have hW := Lib.hid ((Below.refl w.heap.size w).alloc (Nat.le_refl _) (.cells #[.int .i64 x.kind, .int .i64 x.seat, .string x.text] 23))
  have hk := Lib.hid (tik_box (w := w) x 23)
  unfold tikA
  go_enter Try.func3, Try.ntmps3
  go_wp2_with (go_at_call 5; refine (szTick_any x 1048576 _ hx.out (by omega) (by omega)).mono ?_; rintro e w1 ⟨r, rfl, hr, hb⟩; replace hW := Lib.hid (Below.then_ hW.out hb (Nat.le_refl _)); obtain ⟨d0, d1, d2, -⟩ := (hk.out.up hb).three; replace hk := Lib.hid (hk.out.up hb); clear hb; rcases hr with rfl | ⟨hr0, hr1, hsm⟩)
  · go_wp2
    go_ret
    exact ⟨rfl, hW.out⟩
  · have hr2 : ¬ r < 0 := by omega
    clear hsm
    go_wp2_with (go_at_call 7; refine (toTick_any x _).mono ?_; rintro e w1 ⟨rfl, hb⟩; replace hW := Lib.hid (Below.then_ hW.out hb (Nat.le_refl _)); clear d0 d1 d2; obtain ⟨d0, d1, d2, -⟩ := (hk.out.up hb).three; replace hk := Lib.hid (hk.out.up hb); unfold tikA; clear hb)
    go_wp2_with (go_at_call 6; refine (specTick_any x hx.out _).mono ?_; rintro e w1 ⟨rfl, hb⟩; replace hW := Lib.hid (Below.then_ hW.out hb (Nat.le_refl _)); clear d0 d1 d2; obtain ⟨d0, d1, d2, -⟩ := (hk.out.up hb).three; replace hk := Lib.hid (hk.out.up hb); clear hb)
    go_wp2_with (go_at_call 7; refine (toTick_any x _).mono ?_; rintro e w1 ⟨rfl, hb⟩; replace hW := Lib.hid (Below.then_ hW.out hb (Nat.le_refl _)); clear d0 d1 d2; obtain ⟨d0, d1, d2, -⟩ := (hk.out.up hb).three; replace hk := Lib.hid (hk.out.up hb); unfold tikA; clear hb)
    go_wp2_with (go_at_call 8; refine (implTick_any x hx.out _).mono ?_; rintro e w1 ⟨rfl, hb⟩; replace hW := Lib.hid (Below.then_ hW.out hb (Nat.le_refl _)); clear hb)
    go_ret
    exact ⟨rfl, hW.out⟩

theorem own : ownKnob Try.prog.godebug = none := by kernel_rfl
theorem laidOut : laidOutB Try.prog = true := by kernel_rfl
set_option maxRecDepth 100000 in
theorem lifted (os : Os) (started : os.Started) (H : Type) (enc : TypeId × Value → H) :
    ReturnsInHanded {} Try.checked os 3 .any (Rows.fnExactTickRightSpec.pre6 enc Try.prog Try.f3 Rows.fnExactTickRightRow.domain false) (Rows.fnExactTickRightSpec.post enc Try.prog Try.f3 false true false false) := by
  refine returnsInHanded_of_change (C := Try.checked) own started (by kernel_rfl) Try.func3
    (ChangeSpec.witness6 (enc := enc) (C := Try.checked) false ⟨#[], #[.agg #[.int .i64 0, .int .i64 0, .string ByteArray.empty]], []⟩ 8 (by kernel_rfl) (by kernel_rfl) (by kernel_rfl) (by kernel_rfl)) ?_
  intro W base args ds gs before hval0 hW hcnd _
  have hval : ∀ (j : Nat) t v, Try.f3.params[j]? = some t → args[j]? = some v → Value.okWide Try.prog W .any base t v := hval0
  have hW' := hW
  obtain ⟨p, q, hA0, hV, rfl, hfz, hnd⟩ := hW
  have hA : DataW.TrodAll enc Try.prog W 0 (fun _ => true) true Try.f3.params.toList args.toList ds p := hA0
  rw [Try.params3] at hA hval
  obtain ⟨v0, vs0, d0, ds0, p0, q0, hargs, rfl, rfl, h0, r0⟩ := trodAll_cons hA
  obtain ⟨rfl, rfl, rfl⟩ := trodAll_nil r0
  obtain rfl : args = #[v0] := by cases args; simp_all
  obtain ⟨rfl, rfl⟩ := trodVars_none hV
  have k0 := h0
  have lt0 : ∀ x ∈ p0, x.block < W.heap.size := by obtain ⟨m, hm⟩ := k0; exact DataW.trod_lt m _ _ _ hm
  obtain ⟨x0, rfl, w0⟩ := tik_open (hval 0 23 v0 rfl rfl) h0
  clear hA0 hval0
  refine (walk x0 w0 W ).mono fun e W' ⟨he, bel⟩ => ?_
  subst he
  exact ⟨_, rfl, _, _, _, [], _, [], hW', trodAll_mk1 (shut_bool Try.underlying4 _), (trodAll_cons_mk (Below.trod laidOut (by kernel_rfl) (of_decide_eq_true (by kernel_rfl)) k0 bel lt0) trodAll_mk0), rfl, bel.frame _, fun h => by cases h⟩

theorem over : Rows.fnExactTickRightRow.holds Try.pinned (OpenSpec.ofChange Rows.fnExactTickRightSpec) :=
  OpenClaim.holds_of_wide 3 Try.f3 rfl rfl rfl rfl rfl rfl rfl ⟨rfl, rfl, rfl, rfl, rfl⟩ rfl rfl rfl rfl rfl (by kernel_rfl) Try.func3 (by kernel_rfl)
    (of_decide_eq_true (by kernel_rfl)) (by unfold Func.isWrapper; first | (rw [if_pos (by decide +kernel)]; kernel_rfl) | (rw [if_neg (by decide +kernel)]; exact ⟨rfl, rfl⟩))
    (fun os started H enc _ => lifted os started H enc)

theorem proved : Rows.FnExactTickRightSaid := over
#print axioms proved

end Go.Proofs.Ytbadpmghlclfkaa.fnExactTickRight
