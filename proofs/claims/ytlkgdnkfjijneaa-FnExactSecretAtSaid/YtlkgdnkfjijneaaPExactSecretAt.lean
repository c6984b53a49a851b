/- SecretAt of the program answers as that of the model, at every list of secrets and every name; the list stays as it was. No conditions. -/
import Derived.Test.YtlkgdnkfjijneaaRows
import Derived.WalkKit
import Derived.ProofKit
import Derived.OpenShut
import Derived.ShutString
import Derived.ChangeOld
import Derived.Below
import Derived.Test.YtlkgdnkfjijneaaVaultP
import Derived.Test.YtlkgdnkfjijneaaVaultO
namespace Go.Proofs.Ytlkgdnkfjijneaa.fnExactSecretAt
open Go.ChangeShapes Go.WideShapes Go.ChangeAt Go.RowKit
open Go.ChangeMaps (open_string shut_string)
set_option linter.unusedVariables false


set_option maxHeartbeats 4000000 in
theorem walk (A : Option Addr) (len cap : Nat) (l : List Sec) (x : ByteArray) (hx : x.size ≤ maxLen) (w : World) (el : l.length = len) (hs : Secs w (.slice A len cap) l) :
    Calls Try.prog 5 #[.slice A len cap, .string x] w fun e w' => e = .returned (.bool true) ∧ Below w.heap.size w w' := by
  subst el
  unfold maxLen at hx
  replace hs := Lib.hid hs
  have hW := Lib.hid (Below.refl w.heap.size w)
  by_cases hsz : (x.size : Int) ≤ 1048576
  · go_enter Try.func5, Try.ntmps5
    go_wp2_with (go_at_call 10; refine (szSecs_any _ l 1048576 _ hs.out (by omega) (by omega)).mono ?_; rintro e w1 ⟨r, rfl, hr, hb⟩; replace hW := Lib.hid (Below.then_ hW.out hb (Nat.le_refl _)); replace hs := Lib.hid (hs.out.below hb); clear hb; rcases hr with rfl | ⟨r0, r1, hsm⟩)
    · go_wp2
      go_ret
      exact ⟨rfl, hW.out⟩
    · have hl := hsm.1
      have hsm2 := Lib.hid hsm.2
      clear hsm
      go_wp2_with (go_at_call 12; refine (toSecs_any _ l _ hs.out hl).mono ?_; rintro e w1 ⟨v_o1, rfl, o1, hb⟩; replace hW := Lib.hid (Below.then_ hW.out hb (Nat.le_refl _)); replace hs := Lib.hid (hs.out.below hb); replace o1 := Lib.hid o1; clear hb)
      go_wp2_with (go_at_call 15; refine (specSecretAt_any _ l x _ o1.out.secs hsm2.out).mono ?_; rintro e w1 ⟨rfl, hb⟩; replace hW := Lib.hid (Below.then_ hW.out hb (Nat.le_refl _)); replace hs := Lib.hid (hs.out.below hb); clear hb)
      clear o1
      go_wp2_with (go_at_call 12; refine (toSecs_any _ l _ hs.out hl).mono ?_; rintro e w1 ⟨v_o2, rfl, o2, hb⟩; replace hW := Lib.hid (Below.then_ hW.out hb (Nat.le_refl _)); replace hs := Lib.hid (hs.out.below hb); replace o2 := Lib.hid o2; clear hb)
      go_wp2_with (go_at_call 16; refine (implSecretAt_any _ l x _ o2.out.secs (by unfold maxLen; omega)).mono ?_; rintro e w1 ⟨rfl, hb⟩; replace hW := Lib.hid (Below.then_ hW.out hb (Nat.le_refl _)); replace hs := Lib.hid (hs.out.below hb); replace o2 := Lib.hid (o2.out.below hb); clear hb)
      go_wp2_with (go_at_call 12; refine (toSecs_any _ l _ hs.out hl).mono ?_; rintro e w1 ⟨v_o3, rfl, o3, hb⟩; replace hW := Lib.hid (Below.then_ hW.out hb (Nat.le_refl _)); replace hs := Lib.hid (hs.out.below hb); replace o2 := Lib.hid (o2.out.below hb); replace o3 := Lib.hid o3; clear hb)
      go_wp2_with (go_at_call 14; refine (eqSecs_same _ _ l _ o2.out.secs o3.out.secs).mono ?_; rintro e w1 ⟨rfl, hb⟩; replace hW := Lib.hid (Below.then_ hW.out hb (Nat.le_refl _)); clear hb)
      go_ret
      exact ⟨rfl, hW.out⟩
  · go_enter Try.func5, Try.ntmps5
    go_wp2
    go_ret
    exact ⟨rfl, hW.out⟩

theorem own : ownKnob Try.prog.godebug = none := by kernel_rfl
theorem laidOut : laidOutB Try.prog = true := by kernel_rfl
set_option maxRecDepth 100000 in
theorem lifted (os : Os) (started : os.Started) (H : Type) (enc : TypeId × Value → H) :
    ReturnsInHanded {} Try.checked os 5 .any (Rows.fnExactSecretAtSpec.pre6 enc Try.prog Try.f5 Rows.fnExactSecretAtRow.domain false) (Rows.fnExactSecretAtSpec.post enc Try.prog Try.f5 false true false false) := by
  refine returnsInHanded_of_change (C := Try.checked) own started (by kernel_rfl) Try.func5
    (ChangeSpec.witness6 (enc := enc) (C := Try.checked) false ⟨#[], #[.slice none 0 0, .string ByteArray.empty], []⟩ 8 (by kernel_rfl) (by kernel_rfl) (by kernel_rfl) (by kernel_rfl)) ?_
  intro W base args ds gs before hval0 hW hcnd _
  have hval : ∀ (j : Nat) t v, Try.f5.params[j]? = some t → args[j]? = some v → Value.okWide Try.prog W .any base t v := hval0
  have hW' := hW
  obtain ⟨p, q, hA0, hV, rfl, hfz, hnd⟩ := hW
  have hA : DataW.TrodAll enc Try.prog W 0 (fun _ => true) true Try.f5.params.toList args.toList ds p := hA0
  rw [Try.params5] at hA hval
  obtain ⟨v0, vs0, d0, ds0, p0, q0, hargs, rfl, rfl, h0, r0⟩ := trodAll_cons hA
  obtain ⟨v1, vs1, d1, ds1, p1, q1, rfl, rfl, rfl, h1, r1⟩ := trodAll_cons r0
  obtain ⟨rfl, rfl, rfl⟩ := trodAll_nil r1
  obtain rfl : args = #[v0, v1] := by cases args; simp_all
  obtain ⟨rfl, rfl⟩ := trodVars_none hV
  obtain ⟨a0, len0, cap0, rfl⟩ := okWide_slice Try.underlying23 (hval 0 23 v0 rfl rfl)
  have k0 := h0
  have lt0 : ∀ x ∈ p0, x.block < W.heap.size := by obtain ⟨m, hm⟩ := k0; exact DataW.trod_lt m _ _ _ hm
  obtain ⟨l0, e0, w0⟩ := secs_open h0
  obtain ⟨a1, rfl, rfl, rfl, w1⟩ := open_string Try.underlying9 (hval 1 9 v1 rfl rfl) h1
  clear hA0 hval0
  refine (walk a0 len0 cap0 l0 a1 w1 W e0 w0).mono fun e W' ⟨he, bel⟩ => ?_
  subst he
  exact ⟨_, rfl, _, _, _, [], _, [], hW', trodAll_mk1 (shut_bool Try.underlying4 _), (trodAll_cons_mk (Below.trod laidOut (by kernel_rfl) (of_decide_eq_true (by kernel_rfl)) k0 bel lt0) (trodAll_cons_mk (shut_string Try.underlying9 w1) trodAll_mk0)), rfl, bel.frame _, fun h => by cases h⟩

theorem over : Rows.fnExactSecretAtRow.holds Try.pinned (OpenSpec.ofChange Rows.fnExactSecretAtSpec) :=
  OpenClaim.holds_of_wide 5 Try.f5 rfl rfl rfl rfl rfl rfl rfl ⟨rfl, rfl, rfl, rfl, rfl⟩ rfl rfl rfl rfl rfl (by kernel_rfl) Try.func5 (by kernel_rfl)
    (of_decide_eq_true (by kernel_rfl)) (by unfold Func.isWrapper; first | (rw [if_pos (by decide +kernel)]; kernel_rfl) | (rw [if_neg (by decide +kernel)]; exact ⟨rfl, rfl⟩))
    (fun os started H enc _ => lifted os started H enc)

theorem proved : Rows.FnExactSecretAtSaid := over
#print axioms proved

end Go.Proofs.Ytlkgdnkfjijneaa.fnExactSecretAt
