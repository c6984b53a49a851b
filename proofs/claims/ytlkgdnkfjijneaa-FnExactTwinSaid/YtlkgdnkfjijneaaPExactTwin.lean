/- Twin of the program answers as that of the model, at every list of secrets and every number; the list stays as it was; the answer is of new memory, and no other call's. No conditions. -/
import Derived.Test.YtlkgdnkfjijneaaRows
import Derived.WalkKit
import Derived.ProofKit
import Derived.OpenShut
import Derived.ShutString
import Derived.ChangeOld
import Derived.Below
import Derived.Test.YtlkgdnkfjijneaaVaultG
import Derived.Test.YtlkgdnkfjijneaaVaultO
namespace Go.Proofs.Ytlkgdnkfjijneaa.fnExactTwin
open Go.ChangeShapes Go.WideShapes Go.ChangeAt Go.RowKit
open Go.ChangeMaps (open_string shut_string)
set_option linter.unusedVariables false


/-- The argument's block was there ahead of the call, if it is looked at. -/
theorem arg_below {w : World} {v : Value} {l : List Sec} (h : Secs w v l) : l = [] ∨ ∀ b, v.ownBlock = some b → b < w.heap.size := by
  obtain ⟨h1, h2, A, cap, rfl, h3⟩ := h
  by_cases h0 : 0 < l.length
  · obtain ⟨b, off, rfl, hb, _⟩ := h3 h0
    exact .inr fun c hc => by simp [Value.ownBlock] at hc; omega
  · exact .inl (List.eq_nil_of_length_eq_zero (by omega))
theorem arg_grown {w w' : World} {row : Option Nat} {v : Value} {l : List Sec} (h : Secs w v l) (hg : w.grownBy w' row) (hne : l = [] ∨ ∀ b, v.ownBlock = some b → row ≠ some b) : Secs w' v l := by
  rcases hne with rfl | hne
  · obtain ⟨h1, h2, A, cap, rfl, h3⟩ := h
    exact ⟨h1, h2, A, cap, rfl, fun h0 => by simp at h0⟩
  · exact h.grown hg hne
set_option maxHeartbeats 16000000 in
theorem walkIn (v : Value) (l : List Sec) (n : Int) (w : World) (hs : Secs w v l) (hA : l = [] ∨ ∀ b, v.ownBlock = some b → b < w.heap.size) :
    Calls Try.prog 7 #[v, .int .i64 n] w fun e w' => e = .returned (.bool true) ∧ Below w.heap.size w w' := by
  have hAb := Lib.hid hA
  clear hA
  replace hs := Lib.hid hs
  have hW := Lib.hid (Below.refl w.heap.size w)
  go_enter Try.func7, Try.ntmps7
  go_wp2_with (go_at_call 10; refine (szSecs_any _ l 1048576 _ hs.out (by omega) (by omega)).mono ?_; rintro e w1 ⟨r, rfl, hr, hb⟩; replace hW := Lib.hid (Below.then_ hW.out hb (Nat.le_refl _)); replace hs := Lib.hid (hs.out.below hb); clear hb; rcases hr with rfl | ⟨r0, r1, hsm⟩)
  · go_wp2
    go_ret
    exact ⟨rfl, hW.out⟩
  · have hl := hsm.1
    have hsm2 := Lib.hid hsm.2
    clear hsm
    obtain ⟨T, hT⟩ : ∃ T, T = twinL l n := ⟨_, rfl⟩
    have hT4 : T.length ≤ 4 := by rw [hT]; exact twinL_len l n
    have hTw := Lib.hid (show ∀ x ∈ T, SecWf x by rw [hT]; exact twinL_wf n hs.out.2.1)
    replace hT := Lib.hid hT.symm
    go_wp2_with (go_at_call 12; refine (toSecs_any _ l _ hs.out hl).mono ?_; rintro e w1 ⟨v1, rfl, o1, hb⟩; replace hW := Lib.hid (Below.then_ hW.out hb (Nat.le_refl _)); replace hs := Lib.hid (hs.out.below hb); replace o1 := Lib.hid o1; clear hb)
    go_wp2_with (go_at_call 19; refine (specTwin_any _ l n _ o1.out.secs hsm2.out).mono ?_; rintro e w1 ⟨v2, rfl, o2, hb⟩; replace hW := Lib.hid (Below.then_ hW.out hb (Nat.le_refl _)); replace hs := Lib.hid (hs.out.below hb); rw [hT.out] at o2; clear o1; replace o2 := Lib.hid o2; have z2 := Lib.hid (Nat.le_refl w1.heap.size); clear hb)
    have hwb := Lib.hid o2.out.lt
    replace o2 := Lib.hid (o2.out.secs (by omega) hTw.out)
    clear z2
    obtain ⟨X, hX⟩ : ∃ X, X = w1.heap.size := ⟨_, rfl⟩
    rw [← hX] at hwb
    replace hX := Lib.hid hX.symm
    have hX0 := Lib.hid (show w.heap.size ≤ X by rw [← hX.out]; exact hW.out.size)
    go_wp2_with (go_at_call 12; refine (toSecs_any _ l _ hs.out hl).mono ?_; rintro e w1 ⟨v3, rfl, o3, hb⟩; replace hW := Lib.hid (Below.then_ hW.out hb (Nat.le_refl _)); replace hs := Lib.hid (hs.out.below hb); replace o2 := Lib.hid (o2.out.below hb); rw [hX.out] at o3; replace o3 := Lib.hid o3; clear hb)
    obtain ⟨gx, hx1, hx2, hx3⟩ := o3.out.at_
    have hxw := Lib.hid (fun b (h : v2.ownBlock = some b) => (show v3.ownBlock ≠ some b from fun e => by have h5 := hwb.out b h; rw [hx1] at e; cases e; omega))
    obtain ⟨Y, hY⟩ : ∃ Y, Y = w1.heap.size := ⟨_, rfl⟩
    rw [← hY] at hx3
    replace hY := Lib.hid hY.symm
    go_wp2_with (go_at_call 20; refine (implTwin_any _ l n _ o3.out.secs).mono ?_; rintro e w1 ⟨v4, rfl, o4, hb⟩; replace hW := Lib.hid (Below.then_ hW.out hb (Nat.le_refl _)); replace hs := Lib.hid (hs.out.below hb); replace o2 := Lib.hid (o2.out.below hb); replace o3 := Lib.hid (o3.out.below hb); rw [hT.out, hY.out] at o4; replace o4 := Lib.hid o4; clear hb)
    have hfar := Lib.hid o4.out.far
    have hxg := Lib.hid (fun b (h : v4.ownBlock = some b) => (show v3.ownBlock ≠ some b from fun e => by have h5 := hfar.out b h; rw [hx1] at e; cases e; omega))
    have hgw := Lib.hid (fun b (h : v2.ownBlock = some b) => (show v4.ownBlock ≠ some b from fun e => by have h5 := hfar.out b e; have h6 := hwb.out b h; omega))
    have hgb := Lib.hid (fun b (h : v4.ownBlock = some b) => (show w.heap.size ≤ b by have h5 := hfar.out b h; have h6 := hX0.out; omega))
    have hxb := Lib.hid (fun b (h : v3.ownBlock = some b) => (show w.heap.size ≤ b by rw [hx1] at h; cases h; have h6 := hX0.out; omega))
    go_wp2_with (go_at_call 14; refine (eqSecs_same _ _ T _ o4.out.secs o2.out).mono ?_; rintro e w1 ⟨rfl, hb⟩; replace hW := Lib.hid (Below.then_ hW.out hb (Nat.le_refl _)); replace hs := Lib.hid (hs.out.below hb); replace o2 := Lib.hid (o2.out.below hb); replace o3 := Lib.hid (o3.out.below hb); replace o4 := Lib.hid (o4.out.below hb); clear hb)
    go_wp2_with (go_at_call 12; refine (toSecs_any _ l _ hs.out hl).mono ?_; rintro e w1 ⟨v5, rfl, o5, hb⟩; replace hW := Lib.hid (Below.then_ hW.out hb (Nat.le_refl _)); replace hs := Lib.hid (hs.out.below hb); replace o2 := Lib.hid (o2.out.below hb); replace o3 := Lib.hid (o3.out.below hb); replace o4 := Lib.hid (o4.out.below hb); replace o5 := Lib.hid o5; clear hb)
    go_wp2_with (go_at_call 14; refine (eqSecs_same _ _ l _ o3.out.secs o5.out.secs).mono ?_; rintro e w1 ⟨rfl, hb⟩; replace hW := Lib.hid (Below.then_ hW.out hb (Nat.le_refl _)); replace hs := Lib.hid (hs.out.below hb); replace o2 := Lib.hid (o2.out.below hb); replace o3 := Lib.hid (o3.out.below hb); replace o4 := Lib.hid (o4.out.below hb); clear o5; clear hb)
    go_wp2_with (go_at_call 21; refine (markSecs_any v3 l 1 _ _ (by omega) (by omega) o3.out).mono ?_; rintro e w1 ⟨rfl, h6, hg⟩; clear h6; replace hW := Lib.hid (hW.out.grown hg hW.out.size hxb.out); replace hs := Lib.hid (arg_grown hs.out hg (hAb.out.imp id fun h6 b h => fun e => by have h5 := hxb.out b e; have h7 := h6 b h; omega)); replace o2 := Lib.hid (o2.out.grown hg hxw.out); replace o4 := Lib.hid (o4.out.grown hg hxg.out); clear hg o3; obtain ⟨K1, hK1⟩ : ∃ K : Nat, K = 1 + 4 * l.length := ⟨_, rfl⟩; rw [← hK1]; clear hK1)
    go_wp2_with (go_at_call 14; refine (eqSecs_same _ _ T _ o4.out.secs o2.out).mono ?_; rintro e w1 ⟨rfl, hb⟩; replace hW := Lib.hid (Below.then_ hW.out hb (Nat.le_refl _)); replace hs := Lib.hid (hs.out.below hb); replace o2 := Lib.hid (o2.out.below hb); replace o4 := Lib.hid (o4.out.below hb); clear hb)
    go_wp2_with (go_at_call 21; refine (markGot_any v4 T 1 _ _ (by omega) (by omega) o4.out).mono ?_; rintro e w1 ⟨rfl, o6, hg⟩; replace hW := Lib.hid (hW.out.grown hg hW.out.size hgb.out); replace hs := Lib.hid (arg_grown hs.out hg (hAb.out.imp id fun h6 b h => fun e => by have h5 := hgb.out b e; have h7 := h6 b h; omega)); replace o2 := Lib.hid (o2.out.grown hg hgw.out); replace o6 := Lib.hid o6; clear hg o4; obtain ⟨K2, hK2⟩ : ∃ K : Nat, K = 1 + 4 * T.length := ⟨_, rfl⟩; rw [← hK2]; replace hK2 := Lib.hid hK2.symm)
    go_wp2_with (go_at_call 22; refine (heldSecs_any v4 T.length 1 _ (by omega) (by omega) o6.out.secs).mono ?_; rintro e w1 ⟨rfl, hb⟩; replace hW := Lib.hid (Below.then_ hW.out hb (Nat.le_refl _)); replace hs := Lib.hid (hs.out.below hb); replace o2 := Lib.hid (o2.out.below hb); replace o6 := Lib.hid (o6.out.below hb); rw [hK2.out]; clear hb)
    go_wp2_with (go_at_call 12; refine (toSecs_any _ l _ hs.out hl).mono ?_; rintro e w1 ⟨v7, rfl, o7, hb⟩; replace hW := Lib.hid (Below.then_ hW.out hb (Nat.le_refl _)); replace hs := Lib.hid (hs.out.below hb); replace o2 := Lib.hid (o2.out.below hb); replace o6 := Lib.hid (o6.out.below hb); replace o7 := Lib.hid o7; clear hb)
    go_wp2_with (go_at_call 20; refine (implTwin_any _ l n _ o7.out.secs).mono ?_; rintro e w1 ⟨v8, rfl, o8, hb⟩; replace hW := Lib.hid (Below.then_ hW.out hb (Nat.le_refl _)); replace hs := Lib.hid (hs.out.below hb); replace o2 := Lib.hid (o2.out.below hb); replace o6 := Lib.hid (o6.out.below hb); rw [hT.out] at o8; replace o8 := Lib.hid o8; clear o7; clear hb)
    go_wp2_with (go_at_call 14; refine (eqSecs_same _ _ T _ o8.out.secs o2.out).mono ?_; rintro e w1 ⟨rfl, hb⟩; replace hW := Lib.hid (Below.then_ hW.out hb (Nat.le_refl _)); replace o6 := Lib.hid (o6.out.below hb); clear hb)
    go_wp2_with (go_at_call 22; refine (heldSecs_any v4 T.length 1 _ (by omega) (by omega) o6.out.secs).mono ?_; rintro e w1 ⟨rfl, hb⟩; replace hW := Lib.hid (Below.then_ hW.out hb (Nat.le_refl _)); rw [hK2.out]; clear hb)
    go_ret
    exact ⟨rfl, hW.out⟩

theorem walk (A : Option Addr) (len cap : Nat) (l : List Sec) (n : Int) (_hn : (Lit.int .i64 n).wf = true) (w : World) (_el : l.length = len) (hs : Secs w (.slice A len cap) l) :
    Calls Try.prog 7 #[.slice A len cap, .int .i64 n] w fun e w' => e = .returned (.bool true) ∧ Below w.heap.size w w' := by
  exact walkIn _ l n w hs (arg_below hs)

theorem own : ownKnob Try.prog.godebug = none := by kernel_rfl
theorem laidOut : laidOutB Try.prog = true := by kernel_rfl
set_option maxRecDepth 100000 in
theorem lifted (os : Os) (started : os.Started) (H : Type) (enc : TypeId × Value → H) :
    ReturnsInHanded {} Try.checked os 7 .any (Rows.fnExactTwinSpec.pre6 enc Try.prog Try.f7 Rows.fnExactTwinRow.domain false) (Rows.fnExactTwinSpec.post enc Try.prog Try.f7 false true false false) := by
  refine returnsInHanded_of_change (C := Try.checked) own started (by kernel_rfl) Try.func7
    (ChangeSpec.witness6 (enc := enc) (C := Try.checked) false ⟨#[], #[.slice none 0 0, .int .i64 0], []⟩ 8 (by kernel_rfl) (by kernel_rfl) (by kernel_rfl) (by kernel_rfl)) ?_
  intro W base args ds gs before hval0 hW hcnd _
  have hval : ∀ (j : Nat) t v, Try.f7.params[j]? = some t → args[j]? = some v → Value.okWide Try.prog W .any base t v := hval0
  have hW' := hW
  obtain ⟨p, q, hA0, hV, rfl, hfz, hnd⟩ := hW
  have hA : DataW.TrodAll enc Try.prog W 0 (fun _ => true) true Try.f7.params.toList args.toList ds p := hA0
  rw [Try.params7] at hA hval
  obtain ⟨v0, vs0, d0, ds0, p0, q0, hargs, rfl, rfl, h0, r0⟩ := trodAll_cons hA
  obtain ⟨v1, vs1, d1, ds1, p1, q1, rfl, rfl, rfl, h1, r1⟩ := trodAll_cons r0
  obtain ⟨rfl, rfl, rfl⟩ := trodAll_nil r1
  obtain rfl : args = #[v0, v1] := by cases args; simp_all
  obtain ⟨rfl, rfl⟩ := trodVars_none hV
  obtain ⟨a0, len0, cap0, rfl⟩ := okWide_slice Try.underlying23 (hval 0 23 v0 rfl rfl)
  have k0 := h0
  have lt0 : ∀ x ∈ p0, x.block < W.heap.size := by obtain ⟨m, hm⟩ := k0; exact DataW.trod_lt m _ _ _ hm
  obtain ⟨l0, e0, w0⟩ := secs_open h0
  obtain ⟨a1, rfl, rfl, rfl, w1⟩ := open_int Try.underlying2 (hval 1 2 v1 rfl rfl) h1
  clear hA0 hval0
  refine (walk a0 len0 cap0 l0 a1 w1 W e0 w0).mono fun e W' ⟨he, bel⟩ => ?_
  subst he
  exact ⟨_, rfl, _, _, _, [], _, [], hW', trodAll_mk1 (shut_bool Try.underlying4 _), (trodAll_cons_mk (Below.trod laidOut (by kernel_rfl) (of_decide_eq_true (by kernel_rfl)) k0 bel lt0) (trodAll_cons_mk (shut_int Try.underlying2 w1) trodAll_mk0)), rfl, bel.frame _, fun h => by cases h⟩

theorem over : Rows.fnExactTwinRow.holds Try.pinned (OpenSpec.ofChange Rows.fnExactTwinSpec) :=
  OpenClaim.holds_of_wide 7 Try.f7 rfl rfl rfl rfl rfl rfl rfl ⟨rfl, rfl, rfl, rfl, rfl⟩ rfl rfl rfl rfl rfl (by kernel_rfl) Try.func7 (by kernel_rfl)
    (of_decide_eq_true (by kernel_rfl)) (by unfold Func.isWrapper; first | (rw [if_pos (by decide +kernel)]; kernel_rfl) | (rw [if_neg (by decide +kernel)]; exact ⟨rfl, rfl⟩))
    (fun os started H enc _ => lifted os started H enc)

theorem proved : Rows.FnExactTwinSaid := over
#print axioms proved

end Go.Proofs.Ytlkgdnkfjijneaa.fnExactTwin
