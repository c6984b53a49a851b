/- VaultMarks of the program answers as that of the model, at every list of secrets; the list stays as it was. One condition, tied to the program's text by the card: the package variable secretMarks holds 1, 2, 4, 8. -/
import Derived.Test.YtlkgdnkfjijneaaDoorRows
import Derived.Test.YtlkgdnkfjijneaaDoorCards
import Derived.Test.YtlkgdnkfjijneaaDoorTie
import Derived.WalkKit
import Derived.ProofKit
import Derived.OpenShut
import Derived.ShutString
import Derived.ChangeOld
import Derived.Below
import Derived.ChangeSame
import Derived.ChangeVars
import Derived.JoinedOf
import Derived.RowKit
import Derived.RowKitTokens
import Derived.LaidLaws
import Derived.LaidHandle
import Derived.WalkSmall
import Derived.Stop.Joined
import Derived.SevenTiedAt
import Derived.Test.YtlkgdnkfjijneaaDoorVaultD
import Derived.Test.YtlkgdnkfjijneaaDoorVaultO
namespace Go.Proofs.YtlkgdnkfjijneaaDoor.fnExactVaultMarks
open Go.ChangeShapes Go.WideShapes Go.ChangeAt Go.RowKit
open Go.ChangeMaps (open_string shut_string)
set_option linter.unusedVariables false

set_option maxHeartbeats 4000000 in
theorem walk (A : Option Addr) (len cap : Nat) (l : List Sec) (w : World) (el : l.length = len) (hs : Secs w (.slice A len cap) l) (hg : Four w) :
    Calls Tryd.prog 3 #[.slice A len cap] w fun e w' => e = .returned (.bool true) ∧ Below w.heap.size w w' := by
  subst el
  replace hs := Lib.hid hs
  replace hg := Lib.hid hg
  have hW := Lib.hid (Below.refl w.heap.size w)
  go_enter Tryd.func3, Tryd.ntmps3
  go_wp2_with (go_at_call 4; refine (szSecs_any _ l 1048576 _ hs.out (by omega) (by omega)).mono ?_; rintro e w1 ⟨r, rfl, hr, hb⟩; replace hW := Lib.hid (Below.then_ hW.out hb (Nat.le_refl _)); replace hs := Lib.hid (hs.out.below hb); replace hg := Lib.hid (hg.out.below hb); clear hb; rcases hr with rfl | ⟨r0, r1, hsm⟩)
  · go_wp2
    go_ret
    exact ⟨rfl, hW.out⟩
  · have hl := hsm.1
    have hsm2 := Lib.hid hsm.2
    clear hsm
    go_wp2_with (go_at_call 6; refine (toSecs_any _ l _ hs.out hl).mono ?_; rintro e w1 ⟨v_o1, rfl, o1, hb⟩; replace hW := Lib.hid (Below.then_ hW.out hb (Nat.le_refl _)); replace hs := Lib.hid (hs.out.below hb); replace hg := Lib.hid (hg.out.below hb); replace o1 := Lib.hid o1; clear hb)
    go_wp2_with (go_at_call 5; refine (specMarks_any _ l _ o1.out.secs hsm2.out).mono ?_; rintro e w1 ⟨rfl, hb⟩; replace hW := Lib.hid (Below.then_ hW.out hb (Nat.le_refl _)); replace hs := Lib.hid (hs.out.below hb); replace hg := Lib.hid (hg.out.below hb); clear hb)
    clear o1
    go_wp2_with (go_at_call 6; refine (toSecs_any _ l _ hs.out hl).mono ?_; rintro e w1 ⟨v_o2, rfl, o2, hb⟩; replace hW := Lib.hid (Below.then_ hW.out hb (Nat.le_refl _)); replace hs := Lib.hid (hs.out.below hb); replace hg := Lib.hid (hg.out.below hb); replace o2 := Lib.hid o2; clear hb)
    go_wp2_with (go_at_call 7; refine (implMarks_any _ l _ o2.out.secs hg.out).mono ?_; rintro e w1 ⟨rfl, hb⟩; replace hW := Lib.hid (Below.then_ hW.out hb (Nat.le_refl _)); replace hs := Lib.hid (hs.out.below hb); replace o2 := Lib.hid (o2.out.below hb); clear hb)
    go_wp2_with (go_at_call 6; refine (toSecs_any _ l _ hs.out hl).mono ?_; rintro e w1 ⟨v_o3, rfl, o3, hb⟩; replace hW := Lib.hid (Below.then_ hW.out hb (Nat.le_refl _)); replace hs := Lib.hid (hs.out.below hb); replace o2 := Lib.hid (o2.out.below hb); replace o3 := Lib.hid o3; clear hb)
    go_wp2_with (go_at_call 8; refine (eqSecs_same _ _ l _ o2.out.secs o3.out.secs).mono ?_; rintro e w1 ⟨rfl, hb⟩; replace hW := Lib.hid (Below.then_ hW.out hb (Nat.le_refl _)); clear hb)
    go_ret
    exact ⟨rfl, hW.out⟩

theorem own : ownKnob Tryd.prog.godebug = none := by kernel_rfl
theorem laidOut : laidOutB Tryd.prog = true := by kernel_rfl
theorem tabAt : Tryd.prog.globalNamed "loop.example/g00752/impl.secretMarks" = some 0 := by kernel_rfl
theorem tabType : (Tryd.prog.globals[0]?).map (·.type) = some 35 := by kernel_rfl
theorem tabCells : Tryd.prog.cellsOf 35 = 4 := by kernel_rfl
theorem oneCell : Tryd.prog.cellsOf 2 = 1 := by kernel_rfl
/-- What the variable's cells hold. -/
def tabRow : Array Value := #[.int .i64 1, .int .i64 2, .int .i64 4, .int .i64 8]
abbrev tabData {H : Type} : DataW H := .agg [.lit (.int .i64 1), .lit (.int .i64 2), .lit (.int .i64 4), .lit (.int .i64 8)]
theorem tab_reads {H : Type} (enc : TypeId × Value → H) (W : World) (sp : Nat → Bool) : DataW.trod enc Tryd.prog W 0 sp true 3 35 tabRow.toList = some (tabData, []) := by kernel_rfl
/-- An array of 4 numbers that reads as the table holds just those. -/
theorem tab_of_trod {H : Type} {enc : TypeId × Value → H} {W : World} {base : Nat} {sp : Nat → Bool} {held : Bool} {fuel : Nat} {cs : List Value} {p : List MemPlace}
    (h : DataW.trod enc Tryd.prog W base sp held fuel 35 cs = some (tabData, p)) : cs = tabRow.toList := by
  cases fuel with
  | zero => simp [DataW.trod] at h
  | succ fuel =>
    simp only [DataW.trod, Tryd.underlying35, tabCells, oneCell] at h
    split at h
    · rename_i hl
      obtain ⟨c0, c1, c2, c3, rfl⟩ : ∃ c0 c1 c2 c3, cs = [c0, c1, c2, c3] := by
        match cs, hl with
        | [x0, x1, x2, x3], _ => exact ⟨x0, x1, x2, x3, rfl⟩
      have e : List.range 4 = [0, 1, 2, 3] := rfl
      rw [e] at h
      simp only [Option.map_eq_some_iff, List.mapM_cons, List.mapM_nil, Option.bind_eq_bind, Option.bind_eq_some_iff, Option.pure_def, Option.some.injEq] at h
      obtain ⟨xs, ⟨y0, h0, _, ⟨y1, h1, _, ⟨y2, h2, _, ⟨y3, h3, _, rfl, rfl⟩, rfl⟩, rfl⟩, rfl⟩, hx⟩ := h
      obtain ⟨n0, e0, z0, _⟩ := DataW.trod_int Tryd.underlying2 h0
      obtain ⟨n1, e1, z1, _⟩ := DataW.trod_int Tryd.underlying2 h1
      obtain ⟨n2, e2, z2, _⟩ := DataW.trod_int Tryd.underlying2 h2
      obtain ⟨n3, e3, z3, _⟩ := DataW.trod_int Tryd.underlying2 h3
      simp [tabData, z0, z1, z2, z3] at hx
      simp at e0 e1 e2 e3
      obtain ⟨⟨rfl, rfl, rfl, rfl⟩, _⟩ := hx
      subst e0 e1 e2 e3
      rfl
    · cases h
theorem tab_of_laid {W : World} (h : laidMetH Tryd.prog Rows.fnExactVaultMarksRow.laid W) : W.var? Tryd.prog "loop.example/g00752/impl.secretMarks" = some tabRow := by
  have h' : laidMet Tryd.prog [("loop.example/g00752/impl.secretMarks", tabData)] W := h
  obtain ⟨ps, ⟨g, t, cs, fuel, p, q, hg, ht, hvar, hd, _, _⟩, _⟩ := h'
  obtain rfl := Option.some.inj (tabAt.symm.trans hg)
  obtain rfl := Option.some.inj (tabType.symm.trans ht)
  rw [hvar]
  congr 1
  obtain ⟨l⟩ := cs
  exact congrArg List.toArray (tab_of_trod hd)
/-- A world that meets the condition: the settled one, the variable's cells laid. -/
noncomputable def laidWorld (os : Os) : World :=
  let w0 := World.holding Tryd.prog os ⟨#[], #[], []⟩
  { w0 with heap := w0.heap.modify 0 fun
      | .cells _ t frozen => .cells tabRow t frozen
      | o => o }
theorem laidWorld_met (os : Os) (args : Array Value) : laidMetH Tryd.prog Rows.fnExactVaultMarksRow.laid ((laidWorld os).forCall (fun _ _ => 0) ⟨#[], args, []⟩).memory :=
  show laidMet Tryd.prog [("loop.example/g00752/impl.secretMarks", tabData)] _ from laidMet_of_run' 8 (by kernel_rfl) (by kernel_rfl)

set_option maxRecDepth 100000 in
theorem lifted (os : Os) (started : os.Started) (H : Type) (enc : TypeId × Value → H) :
    ReturnsInHanded {} Tryd.checked os 3 .any (fun w args => (Rows.fnExactVaultMarksSpec.pre enc Tryd.prog Tryd.f3 [] false w args ∧ laidMetH Tryd.prog Rows.fnExactVaultMarksRow.laid w) ∧ sizedMet enc Tryd.prog Tryd.f3 (OpenSpec.ofChange Rows.fnExactVaultMarksSpec) false w args)
      (Rows.fnExactVaultMarksSpec.post enc Tryd.prog Tryd.f3 false true false false) := by
  refine returnsInHanded_of_change_and (C := Tryd.checked) (X := fun w _ => laidMetH Tryd.prog Rows.fnExactVaultMarksRow.laid w) (fun _ _ _ hh h => h.of_heap hh) own started (by kernel_rfl) Tryd.func3
    (ChangeSpec.witness_at (enc := enc) (C := Tryd.checked) (os := os) (X := fun w _ => laidMetH Tryd.prog Rows.fnExactVaultMarksRow.laid w) false (laidWorld os) #[.slice none 0 0] 8 rfl (by kernel_rfl) (by kernel_rfl) (by kernel_rfl) (by kernel_rfl) (by kernel_rfl) (laidWorld_met os _)) ?_
  intro W base args ds gs before hval0 hW _ _ hL _
  have hval : ∀ (j : Nat) t v, Tryd.f3.params[j]? = some t → args[j]? = some v → Value.okWide Tryd.prog W .any base t v := hval0
  have hW' := hW
  obtain ⟨p, q, hA0, hV0, rfl, hfz, hnd⟩ := hW
  have hA : DataW.TrodAll enc Tryd.prog W 0 (fun _ => true) true Tryd.f3.params.toList args.toList ds p := hA0
  have hV : DataW.TrodVars enc Tryd.prog W (fun _ => true) ["loop.example/g00752/impl.secretMarks"] gs q := hV0
  rw [Tryd.params3] at hA hval
  obtain ⟨v0, vs0, d0, ds0, p0, q0, hargs, rfl, rfl, h0, r0⟩ := trodAll_cons hA
  obtain ⟨rfl, rfl, rfl⟩ := trodAll_nil r0
  obtain rfl : args = #[v0] := by cases args; simp_all
  obtain ⟨g, t, cs, fuel, d, p', rfl, hgn, htn, hvar, hd, rfl⟩ := trodVars_one hV
  obtain rfl := Option.some.inj (tabAt.symm.trans hgn)
  obtain rfl := Option.some.inj (tabType.symm.trans htn)
  obtain rfl : cs = tabRow := Option.some.inj (hvar.symm.trans (tab_of_laid hL))
  obtain ⟨rfl, rfl⟩ := DataW.Trod.unique (v := .agg tabRow) ⟨fuel, hd⟩ ⟨3, tab_reads enc W _⟩
  obtain ⟨a0, len0, cap0, rfl⟩ := okWide_slice Tryd.underlying22 (hval 0 22 v0 rfl rfl)
  have k0 := h0
  have lt0 : ∀ x ∈ p0, x.block < W.heap.size := by obtain ⟨m, hm⟩ := k0; exact DataW.trod_lt m _ _ _ hm
  obtain ⟨l0, e0, w0⟩ := secs_open h0
  have hg : Four W := ⟨World.var?_cell tabAt hvar 0, World.var?_cell tabAt hvar 1, World.var?_cell tabAt hvar 2, World.var?_cell tabAt hvar 3⟩
  clear hA0 hval0
  refine (walk a0 len0 cap0 l0 W e0 w0 hg).mono fun e W' ⟨he, bel⟩ => ?_
  subst he
  have hvar' : W'.var? Tryd.prog "loop.example/g00752/impl.secretMarks" = some tabRow := var?_below bel tabAt hg.pos hvar
  exact ⟨_, rfl, _, _, _, [], _, _, hW', trodAll_mk1 (shut_bool Tryd.underlying4 _), (trodAll_cons_mk (Below.trod laidOut (by kernel_rfl) (of_decide_eq_true (by kernel_rfl)) k0 bel lt0) trodAll_mk0), trodVars_mk1 tabAt tabType hvar' (tab_reads enc W' _), bel.frame _, fun h => by cases h⟩

theorem over : Rows.fnExactVaultMarksRow.holds Tryd.pinned (OpenSpec.ofChange Rows.fnExactVaultMarksSpec) :=
  OpenClaim.holds_of_wide 3 Tryd.f3 rfl rfl rfl rfl rfl rfl rfl ⟨rfl, rfl, rfl, rfl, rfl⟩ rfl rfl rfl rfl rfl (by kernel_rfl) Tryd.func3 (by kernel_rfl)
    (of_decide_eq_true (by kernel_rfl)) (by unfold Func.isWrapper; first | (rw [if_pos (by decide +kernel)]; kernel_rfl) | (rw [if_neg (by decide +kernel)]; exact ⟨rfl, rfl⟩))
    (fun os started H enc _ => lifted os started H enc)

theorem wants (j : Nat) (t : TypeId) (ht : Tryd.f3.params[j]? = some t) : Tryd.prog.wantsStandIn t = false := by
  rw [Tryd.params3] at ht
  match j, ht with
  | 0, ht => exact (show t = 22 from (Option.some.inj ht).symm) ▸ (show Tryd.prog.wantsStandIn 22 = false by kernel_rfl)
  | j + 1, ht => simp at ht
theorem proved : Rows.FnExactVaultMarksCardSaid :=
  Claim7.holds_tied_plain_at .later [] _ _ _ _
    over (fun _ h => by cases h) (by kernel_rfl) (fun _ h => by cases h) fnExactVaultMarks_row_tie rfl ⟨rfl, rfl⟩ (by kernel_rfl) rfl
    (fun f fn hf hfn => by
      obtain rfl : f = 3 := Option.some.inj ((show Tryd.prog.funcNamed "loop.example/g00752/laws.FnExactVaultMarks" = some 3 by kernel_rfl).symm.trans hf) |>.symm
      obtain rfl : fn = Tryd.f3 := (Option.some.inj (Tryd.func3.symm.trans hfn)).symm
      exact ⟨by kernel_rfl, wants⟩)
    (by kernel_rfl)
#print axioms proved

end Go.Proofs.YtlkgdnkfjijneaaDoor.fnExactVaultMarks
