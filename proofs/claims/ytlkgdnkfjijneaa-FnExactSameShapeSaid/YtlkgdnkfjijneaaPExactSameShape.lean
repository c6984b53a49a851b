/- SameShape of the program answers as that of the model, at every two lists of secrets; both stay as they were. No conditions. -/
import Derived.Test.YtlkgdnkfjijneaaRows
import Derived.WalkKit
import Derived.ProofKit
import Derived.OpenShut
import Derived.ShutString
import Derived.ChangeOld
import Derived.Below
import Derived.Test.YtlkgdnkfjijneaaVaultX
import Derived.Test.YtlkgdnkfjijneaaVaultO
namespace Go.Proofs.Ytlkgdnkfjijneaa.fnExactSameShape
open Go.ChangeShapes Go.WideShapes Go.ChangeAt Go.RowKit
open Go.ChangeMaps (open_string shut_string)
set_option linter.unusedVariables false


set_option maxHeartbeats 8000000 in
theorem walk (A : Option Addr) (len cap : Nat) (l : List Sec) (A2 : Option Addr) (len2 cap2 : Nat) (m : List Sec) (w : World) (el : l.length = len) (hs : Secs w (.slice A len cap) l) (em : m.length = len2) (ht : Secs w (.slice A2 len2 cap2) m) :
    Calls Try.prog 6 #[.slice A len cap, .slice A2 len2 cap2] w fun e w' => e = .returned (.bool true) ∧ Below w.heap.size w w' := by
  subst el
  subst em
  replace hs := Lib.hid hs
  replace ht := Lib.hid ht
  have hW := Lib.hid (Below.refl w.heap.size w)
  go_enter Try.func6, Try.ntmps6
  go_wp2_with (go_at_call_of 10 (Value.slice A l.length cap); refine (szSecs_any _ l 1048576 _ hs.out (by omega) (by omega)).mono ?_; rintro e w1 ⟨r, rfl, hr, hb⟩; replace hW := Lib.hid (Below.then_ hW.out hb (Nat.le_refl _)); replace hs := Lib.hid (hs.out.below hb); replace ht := Lib.hid (ht.out.below hb); clear hb; rcases hr with rfl | ⟨r0, r1, hsm⟩)
  · go_wp2
    go_ret
    exact ⟨rfl, hW.out⟩
  · have hl := hsm.1
    have hsm2 := Lib.hid hsm.2
    clear hsm
    have hrw : ¬ r < 0 := by omega
    go_wp2_with (go_at_call_of 10 (Value.slice A2 m.length cap2); refine (szSecs_any _ m r _ ht.out (by omega) (by omega)).mono ?_; rintro e w1 ⟨q, rfl, hr, hb⟩; replace hW := Lib.hid (Below.then_ hW.out hb (Nat.le_refl _)); replace hs := Lib.hid (hs.out.below hb); replace ht := Lib.hid (ht.out.below hb); clear hb; rcases hr with rfl | ⟨q0, q1, htm⟩)
    · go_wp2
      go_ret
      exact ⟨rfl, hW.out⟩
    · have hm := htm.1
      have htm2 := Lib.hid htm.2
      clear htm
      have hqw : ¬ q < 0 := by omega
      go_wp2_with (go_at_call_of 12 (Value.slice A l.length cap); refine (toSecs_any _ l _ hs.out hl).mono ?_; rintro e w1 ⟨v_o1, rfl, o1, hb⟩; replace hW := Lib.hid (Below.then_ hW.out hb (Nat.le_refl _)); replace hs := Lib.hid (hs.out.below hb); replace ht := Lib.hid (ht.out.below hb); replace o1 := Lib.hid o1; clear hb)
      obtain ⟨g_o1, hf⟩ := o1.out.form
      subst hf
      go_wp2_with (go_at_call_of 12 (Value.slice A2 m.length cap2); refine (toSecs_any _ m _ ht.out hm).mono ?_; rintro e w1 ⟨v_o2, rfl, o2, hb⟩; replace hW := Lib.hid (Below.then_ hW.out hb (Nat.le_refl _)); replace hs := Lib.hid (hs.out.below hb); replace ht := Lib.hid (ht.out.below hb); replace o1 := Lib.hid (o1.out.below hb); replace o2 := Lib.hid o2; clear hb)
      obtain ⟨g_o2, hf⟩ := o2.out.form
      subst hf
      go_wp2_with (go_at_call 17; refine (specShape_any _ _ _ _ l m _ o1.out.secs o2.out.secs hsm2.out htm2.out).mono ?_; rintro e w1 ⟨rfl, hb⟩; replace hW := Lib.hid (Below.then_ hW.out hb (Nat.le_refl _)); replace hs := Lib.hid (hs.out.below hb); replace ht := Lib.hid (ht.out.below hb); clear hb)
      clear o1 o2
      go_wp2_with (go_at_call_of 12 (Value.slice A l.length cap); refine (toSecs_any _ l _ hs.out hl).mono ?_; rintro e w1 ⟨v_o3, rfl, o3, hb⟩; replace hW := Lib.hid (Below.then_ hW.out hb (Nat.le_refl _)); replace hs := Lib.hid (hs.out.below hb); replace ht := Lib.hid (ht.out.below hb); replace o3 := Lib.hid o3; clear hb)
      obtain ⟨g_o3, hf⟩ := o3.out.form
      subst hf
      go_wp2_with (go_at_call_of 12 (Value.slice A2 m.length cap2); refine (toSecs_any _ m _ ht.out hm).mono ?_; rintro e w1 ⟨v_o4, rfl, o4, hb⟩; replace hW := Lib.hid (Below.then_ hW.out hb (Nat.le_refl _)); replace hs := Lib.hid (hs.out.below hb); replace ht := Lib.hid (ht.out.below hb); replace o3 := Lib.hid (o3.out.below hb); replace o4 := Lib.hid o4; clear hb)
      obtain ⟨g_o4, hf⟩ := o4.out.form
      subst hf
      go_wp2_with (go_at_call 18; refine (implShape_any _ _ _ _ l m _ o3.out.secs o4.out.secs).mono ?_; rintro e w1 ⟨rfl, hb⟩; replace hW := Lib.hid (Below.then_ hW.out hb (Nat.le_refl _)); replace hs := Lib.hid (hs.out.below hb); replace ht := Lib.hid (ht.out.below hb); replace o3 := Lib.hid (o3.out.below hb); replace o4 := Lib.hid (o4.out.below hb); clear hb)
      go_wp2_with (go_at_call_of 12 (Value.slice A l.length cap); refine (toSecs_any _ l _ hs.out hl).mono ?_; rintro e w1 ⟨v_o5, rfl, o5, hb⟩; replace hW := Lib.hid (Below.then_ hW.out hb (Nat.le_refl _)); replace hs := Lib.hid (hs.out.below hb); replace ht := Lib.hid (ht.out.below hb); replace o3 := Lib.hid (o3.out.below hb); replace o4 := Lib.hid (o4.out.below hb); replace o5 := Lib.hid o5; clear hb)
      go_wp2_with (go_at_call 14; refine (eqSecs_same _ _ l _ o3.out.secs o5.out.secs).mono ?_; rintro e w1 ⟨rfl, hb⟩; replace hW := Lib.hid (Below.then_ hW.out hb (Nat.le_refl _)); replace hs := Lib.hid (hs.out.below hb); replace ht := Lib.hid (ht.out.below hb); replace o4 := Lib.hid (o4.out.below hb); clear hb)
      clear o3 o5
      go_wp2_with (go_at_call_of 12 (Value.slice A2 m.length cap2); refine (toSecs_any _ m _ ht.out hm).mono ?_; rintro e w1 ⟨v_o6, rfl, o6, hb⟩; replace hW := Lib.hid (Below.then_ hW.out hb (Nat.le_refl _)); replace hs := Lib.hid (hs.out.below hb); replace ht := Lib.hid (ht.out.below hb); replace o4 := Lib.hid (o4.out.below hb); replace o6 := Lib.hid o6; clear hb)
      go_wp2_with (go_at_call 14; refine (eqSecs_same _ _ m _ o4.out.secs o6.out.secs).mono ?_; rintro e w1 ⟨rfl, hb⟩; replace hW := Lib.hid (Below.then_ hW.out hb (Nat.le_refl _)); clear hb)
      go_ret
      exact ⟨rfl, hW.out⟩

theorem own : ownKnob Try.prog.godebug = none := by kernel_rfl
theorem laidOut : laidOutB Try.prog = true := by kernel_rfl
set_option maxRecDepth 100000 in
theorem lifted (os : Os) (started : os.Started) (H : Type) (enc : TypeId × Value → H) :
    ReturnsInHanded {} Try.checked os 6 .any (Rows.fnExactSameShapeSpec.pre6 enc Try.prog Try.f6 Rows.fnExactSameShapeRow.domain false) (Rows.fnExactSameShapeSpec.post enc Try.prog Try.f6 false true false false) := by
  refine returnsInHanded_of_change (C := Try.checked) own started (by kernel_rfl) Try.func6
    (ChangeSpec.witness6 (enc := enc) (C := Try.checked) false ⟨#[], #[.slice none 0 0, .slice none 0 0], []⟩ 8 (by kernel_rfl) (by kernel_rfl) (by kernel_rfl) (by kernel_rfl)) ?_
  intro W base args ds gs before hval0 hW hcnd _
  have hval : ∀ (j : Nat) t v, Try.f6.params[j]? = some t → args[j]? = some v → Value.okWide Try.prog W .any base t v := hval0
  have hW' := hW
  obtain ⟨p, q, hA0, hV, rfl, hfz, hnd⟩ := hW
  have hA : DataW.TrodAll enc Try.prog W 0 (fun _ => true) true Try.f6.params.toList args.toList ds p := hA0
  rw [Try.params6] at hA hval
  obtain ⟨v0, vs0, d0, ds0, p0, q0, hargs, rfl, rfl, h0, r0⟩ := trodAll_cons hA
  obtain ⟨v1, vs1, d1, ds1, p1, q1, rfl, rfl, rfl, h1, r1⟩ := trodAll_cons r0
  obtain ⟨rfl, rfl, rfl⟩ := trodAll_nil r1
  obtain rfl : args = #[v0, v1] := by cases args; simp_all
  obtain ⟨rfl, rfl⟩ := trodVars_none hV
  obtain ⟨a0, len0, cap0, rfl⟩ := okWide_slice Try.underlying23 (hval 0 23 v0 rfl rfl)
  have k0 := h0
  have lt0 : ∀ x ∈ p0, x.block < W.heap.size := by obtain ⟨m, hm⟩ := k0; exact DataW.trod_lt m _ _ _ hm
  obtain ⟨l0, e0, w0⟩ := secs_open h0
  obtain ⟨a1, len1, cap1, rfl⟩ := okWide_slice Try.underlying23 (hval 1 23 v1 rfl rfl)
  have k1 := h1
  have lt1 : ∀ x ∈ p1, x.block < W.heap.size := by obtain ⟨m, hm⟩ := k1; exact DataW.trod_lt m _ _ _ hm
  obtain ⟨l1, e1, w1⟩ := secs_open h1
  clear hA0 hval0
  refine (walk a0 len0 cap0 l0 a1 len1 cap1 l1 W e0 w0 e1 w1).mono fun e W' ⟨he, bel⟩ => ?_
  subst he
  exact ⟨_, rfl, _, _, _, [], _, [], hW', trodAll_mk1 (shut_bool Try.underlying4 _), (trodAll_cons_mk (Below.trod laidOut (by kernel_rfl) (of_decide_eq_true (by kernel_rfl)) k0 bel lt0) (trodAll_cons_mk (Below.trod laidOut (by kernel_rfl) (of_decide_eq_true (by kernel_rfl)) k1 bel lt1) trodAll_mk0)), rfl, bel.frame _, fun h => by cases h⟩

theorem over : Rows.fnExactSameShapeRow.holds Try.pinned (OpenSpec.ofChange Rows.fnExactSameShapeSpec) :=
  OpenClaim.holds_of_wide 6 Try.f6 rfl rfl rfl rfl rfl rfl rfl ⟨rfl, rfl, rfl, rfl, rfl⟩ rfl rfl rfl rfl rfl (by kernel_rfl) Try.func6 (by kernel_rfl)
    (of_decide_eq_true (by kernel_rfl)) (by unfold Func.isWrapper; first | (rw [if_pos (by decide +kernel)]; kernel_rfl) | (rw [if_neg (by decide +kernel)]; exact ⟨rfl, rfl⟩))
    (fun os started H enc _ => lifted os started H enc)

theorem proved : Rows.FnExactSameShapeSaid := over
#print axioms proved

end Go.Proofs.Ytlkgdnkfjijneaa.fnExactSameShape
