/- WorldRight of the program answers as that of the model, at every list of ticks; it writes into none. No conditions. -/
import Derived.Test.YtbadpmghlclfkaaRows
import Derived.WalkKit
import Derived.ProofKit
import Derived.OpenShut
import Derived.ShutString
import Derived.ChangeOld
import Derived.Below
import Derived.Test.YtbadpmghlclfkaaTckY
import Derived.Test.YtbadpmghlclfkaaTckT
import Derived.Test.YtbadpmghlclfkaaTckO
namespace Go.Proofs.Ytbadpmghlclfkaa.fnExactWorldRight
open Go.ChangeShapes Go.WideShapes Go.ChangeAt Go.RowKit
open Go.ChangeMaps (open_string shut_string)
set_option linter.unusedVariables false


set_option maxHeartbeats 4000000 in
theorem walk (A : Option Addr) (len cap : Nat) (l : List Tik) (w : World) (el : l.length = len) (hs : Tiks w (.slice A len cap) l) :
    Calls Try.prog 4 #[.slice A len cap] w fun e w' => e = .returned (.bool true) ∧ Below w.heap.size w w' := by
  subst el
  have hs0 := Lib.hid hs
  clear hs
  have hW := Lib.hid (Below.refl w.heap.size w)
  go_enter Try.func4, Try.ntmps4
  go_wp2_with (go_at_call 9; refine (szTicks_any _ l 1048576 _ (hs0.out.below hW.out) (by omega) (by omega)).mono ?_; rintro e w1 ⟨r, rfl, hr, hb⟩; replace hW := Lib.hid (Below.then_ hW.out hb (Nat.le_refl _)); clear hb; rcases hr with rfl | ⟨hr0, hr1, hsm⟩)
  · go_wp2
    go_ret
    exact ⟨rfl, hW.out⟩
  · have hr2 : ¬ r < 0 := by omega
    have hl := hsm.1
    clear hsm
    go_wp2_with (go_at_call 11; refine (toTicks_any _ l _ (hs0.out.below hW.out) hl).mono ?_; rintro e w1 ⟨v_o1, rfl, o1, hb⟩; replace hW := Lib.hid (Below.then_ hW.out hb (Nat.le_refl _)); replace o1 := Lib.hid o1; clear hb)
    go_wp2_with (go_at_call 10; refine (specWorld_any _ l _ o1.out.tiks).mono ?_; rintro e w1 ⟨rfl, hb⟩; replace hW := Lib.hid (Below.then_ hW.out hb (Nat.le_refl _)); clear hb)
    clear o1
    go_wp2_with (go_at_call 11; refine (toTicks_any _ l _ (hs0.out.below hW.out) hl).mono ?_; rintro e w1 ⟨v_o2, rfl, o2, hb⟩; replace hW := Lib.hid (Below.then_ hW.out hb (Nat.le_refl _)); replace o2 := Lib.hid o2; clear hb)
    go_wp2_with (go_at_call 12; refine (implWorld_any _ l _ o2.out.tiks).mono ?_; rintro e w1 ⟨rfl, hb⟩; replace hW := Lib.hid (Below.then_ hW.out hb (Nat.le_refl _)); replace o2 := Lib.hid (o2.out.below hb); clear hb)
    go_wp2_with (go_at_call 11; refine (toTicks_any _ l _ (hs0.out.below hW.out) hl).mono ?_; rintro e w1 ⟨v_o3, rfl, o3, hb⟩; replace hW := Lib.hid (Below.then_ hW.out hb (Nat.le_refl _)); replace o2 := Lib.hid (o2.out.below hb); replace o3 := Lib.hid o3; clear hb)
    go_wp2_with (go_at_call 13; refine (eqTicks_same _ _ l _ o2.out.tiks o3.out.tiks).mono ?_; rintro e w1 ⟨rfl, hb⟩; replace hW := Lib.hid (Below.then_ hW.out hb (Nat.le_refl _)); clear hb)
    go_ret
    exact ⟨rfl, hW.out⟩

theorem own : ownKnob Try.prog.godebug = none := by kernel_rfl
theorem laidOut : laidOutB Try.prog = true := by kernel_rfl
set_option maxRecDepth 100000 in
theorem lifted (os : Os) (started : os.Started) (H : Type) (enc : TypeId × Value → H) :
    ReturnsInHanded {} Try.checked os 4 .any (Rows.fnExactWorldRightSpec.pre6 enc Try.prog Try.f4 Rows.fnExactWorldRightRow.domain false) (Rows.fnExactWorldRightSpec.post enc Try.prog Try.f4 false true false false) := by
  refine returnsInHanded_of_change (C := Try.checked) own started (by kernel_rfl) Try.func4
    (ChangeSpec.witness6 (enc := enc) (C := Try.checked) false ⟨#[], #[.slice none 0 0], []⟩ 8 (by kernel_rfl) (by kernel_rfl) (by kernel_rfl) (by kernel_rfl)) ?_
  intro W base args ds gs before hval0 hW hcnd _
  have hval : ∀ (j : Nat) t v, Try.f4.params[j]? = some t → args[j]? = some v → Value.okWide Try.prog W .any base t v := hval0
  have hW' := hW
  obtain ⟨p, q, hA0, hV, rfl, hfz, hnd⟩ := hW
  have hA : DataW.TrodAll enc Try.prog W 0 (fun _ => true) true Try.f4.params.toList args.toList ds p := hA0
  rw [Try.params4] at hA hval
  obtain ⟨v0, vs0, d0, ds0, p0, q0, hargs, rfl, rfl, h0, r0⟩ := trodAll_cons hA
  obtain ⟨rfl, rfl, rfl⟩ := trodAll_nil r0
  obtain rfl : args = #[v0] := by cases args; simp_all
  obtain ⟨rfl, rfl⟩ := trodVars_none hV
  obtain ⟨a0, len0, cap0, rfl⟩ := okWide_slice Try.underlying29 (hval 0 29 v0 rfl rfl)
  have k0 := h0
  have lt0 : ∀ x ∈ p0, x.block < W.heap.size := by obtain ⟨m, hm⟩ := k0; exact DataW.trod_lt m _ _ _ hm
  obtain ⟨l0, e0, w0⟩ := tiks_open h0
  clear hA0 hval0
  refine (walk a0 len0 cap0 l0 W e0 w0).mono fun e W' ⟨he, bel⟩ => ?_
  subst he
  exact ⟨_, rfl, _, _, _, [], _, [], hW', trodAll_mk1 (shut_bool Try.underlying4 _), (trodAll_cons_mk (Below.trod laidOut (by kernel_rfl) (of_decide_eq_true (by kernel_rfl)) k0 bel lt0) trodAll_mk0), rfl, bel.frame _, fun h => by cases h⟩

theorem over : Rows.fnExactWorldRightRow.holds Try.pinned (OpenSpec.ofChange Rows.fnExactWorldRightSpec) :=
  OpenClaim.holds_of_wide 4 Try.f4 rfl rfl rfl rfl rfl rfl rfl ⟨rfl, rfl, rfl, rfl, rfl⟩ rfl rfl rfl rfl rfl (by kernel_rfl) Try.func4 (by kernel_rfl)
    (of_decide_eq_true (by kernel_rfl)) (by unfold Func.isWrapper; first | (rw [if_pos (by decide +kernel)]; kernel_rfl) | (rw [if_neg (by decide +kernel)]; exact ⟨rfl, rfl⟩))
    (fun os started H enc _ => lifted os started H enc)

theorem proved : Rows.FnExactWorldRightSaid := over
#print axioms proved

end Go.Proofs.Ytbadpmghlclfkaa.fnExactWorldRight
