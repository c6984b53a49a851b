/- StmtRight of the program answers as that of the model, at every statement; it writes into none. No conditions. -/
import Derived.Test.YtejmfpaegkgkjaaRows
import Derived.WalkKit
import Derived.ProofKit
import Derived.OpenShut
import Derived.ShutString
import Derived.ChangeOld
import Derived.Below
import Derived.Deep.RegionHeld3
import Derived.Test.YtejmfpaegkgkjaaStmE0
import Derived.Test.YtejmfpaegkgkjaaStmF0
import Derived.Test.YtejmfpaegkgkjaaStmW
namespace Go.Proofs.Ytejmfpaegkgkjaa.fnExactStmtRight
open Go.ChangeShapes Go.WideShapes Go.ChangeAt Go.RowKit
open Go.ChangeMaps (open_string shut_string)
set_option linter.unusedVariables false


set_option maxRecDepth 20000 in
set_option maxHeartbeats 8000000 in
theorem walk (x : Stm) (A : Option Addr) (n cap : Nat) (wf : StmWf x) (w : World) (hv : Prts w (.slice A n cap) x.parts) :
    Calls Try.prog 4 #[stmA x (.slice A n cap)] w fun e w' => e = .returned (.bool true) ∧ Below w.heap.size w w' := by
  have hv0 := Lib.hid hv
  replace wf := Lib.hid wf
  clear hv
  have hW := Lib.hid ((Below.refl w.heap.size w).alloc (Nat.le_refl _) (.cells #[.int .i64 x.kind, .string x.name, .string x.text, .int .i64 x.num, .int .i64 x.dest, .slice A n cap] 31))
  have hk := Lib.hid (stm_box (w := w) x (.slice A n cap) 31)
  unfold stmA
  go_enter Try.func4, Try.ntmps4
  go_wp2_with (go_at_call 12; refine (szStmt_any x A n cap 1048576 _ wf.out (hv0.out.below hW.out) (by omega) (by omega)).mono ?_; rintro e w1 ⟨r, rfl, hr, hb⟩; replace hW := Lib.hid (Below.then_ hW.out hb (Nat.le_refl _)); obtain ⟨d0, d1, d2, d3, d4, d5, -⟩ := (hk.out.up hb).six; replace hk := Lib.hid (hk.out.up hb); clear hb; rcases hr with rfl | ⟨hr0, hr1, hsm⟩)
  · go_wp2
    go_ret
    exact ⟨rfl, hW.out⟩
  · have hr2 : ¬ r < 0 := by omega
    have hl := hsm.2.2.1
    have hs1 := hsm.2.1
    clear hsm
    go_wp2_with (go_at_call 14; refine (toStmt_any x A n cap _ (hv0.out.below hW.out) hl).mono ?_; rintro e w1 ⟨A1, n1, cap1, rfl, o1, hb⟩; clear d0 d1 d2 d3 d4 d5; replace hW := Lib.hid (Below.then_ hW.out hb (Nat.le_refl _)); obtain ⟨d0, d1, d2, d3, d4, d5, -⟩ := (hk.out.up hb).six; replace hk := Lib.hid (hk.out.up hb); replace o1 := Lib.hid o1; clear hb; unfold stmA)
    go_wp2_with (go_at_call 13; refine (specStmt_any x _ _ wf.out hs1 o1.out.secs).mono ?_; rintro e w1 ⟨rfl, hb⟩; replace hW := Lib.hid (Below.then_ hW.out hb (Nat.le_refl _)); clear d0 d1 d2 d3 d4 d5; obtain ⟨d0, d1, d2, d3, d4, d5, -⟩ := (hk.out.up hb).six; replace hk := Lib.hid (hk.out.up hb); clear hb)
    clear o1
    go_wp2_with (go_at_call 14; refine (toStmt_any x A n cap _ (hv0.out.below hW.out) hl).mono ?_; rintro e w1 ⟨A2, n2, cap2, rfl, o2, hb⟩; clear d0 d1 d2 d3 d4 d5; replace hW := Lib.hid (Below.then_ hW.out hb (Nat.le_refl _)); obtain ⟨d0, d1, d2, d3, d4, d5, -⟩ := (hk.out.up hb).six; replace hk := Lib.hid (hk.out.up hb); replace o2 := Lib.hid o2; clear hb; unfold stmA; have hx := Lib.hid (stm_box (w := w1) x (.slice A2 n2 cap2) 36); obtain ⟨y0, y1, y2, y3, y4, y5, -⟩ := hx.out.six; replace hk := Lib.hid (hk.out.alloc (.cells #[.int .i64 x.kind, .string x.name, .string x.text, .int .i64 x.num, .int .i64 x.dest, .slice A2 n2 cap2] 36)); replace o2 := Lib.hid (o2.out.alloc (.cells #[.int .i64 x.kind, .string x.name, .string x.text, .int .i64 x.num, .int .i64 x.dest, .slice A2 n2 cap2] 36)); replace hW := Lib.hid (hW.out.alloc hW.out.size (.cells #[.int .i64 x.kind, .string x.name, .string x.text, .int .i64 x.num, .int .i64 x.dest, .slice A2 n2 cap2] 36)); clear d0 d1 d2 d3 d4 d5; obtain ⟨d0, d1, d2, d3, d4, d5, -⟩ := hk.out.six)
    go_wp2_with (go_at_call 15; refine (implStmt_any x _ _ wf.out o2.out.secs).mono ?_; rintro e w2 ⟨rfl, hb⟩; clear d0 d1 d2 d3 d4 d5 y0 y1 y2 y3 y4 y5; replace hW := Lib.hid (Below.then_ hW.out hb (Nat.le_refl _)); replace o2 := Lib.hid (o2.out.below hb); replace hx := Lib.hid (hx.out.up hb); replace hk := Lib.hid (hk.out.up hb); clear hb)
    obtain ⟨d0, d1, d2, d3, d4, d5, -⟩ := hk.out.six
    obtain ⟨y0, y1, y2, y3, y4, y5, -⟩ := hx.out.six
    replace hW := Lib.hid (below_drew' hW.out)
    replace o2 := Lib.hid o2.out.drew
    go_region_held3 (fun w' => w'.cell? ⟨w.heap.size, 0, none⟩ = some (.int .i64 x.kind) ∧ w'.cell? ⟨w.heap.size, 1, none⟩ = some (.string x.name) ∧ w'.cell? ⟨w.heap.size, 2, none⟩ = some (.string x.text) ∧ w'.cell? ⟨w.heap.size, 3, none⟩ = some (.int .i64 x.num) ∧ w'.cell? ⟨w.heap.size, 4, none⟩ = some (.int .i64 x.dest) ∧ w'.cell? ⟨w.heap.size, 5, none⟩ = some (.slice A n cap) ∧ w'.cell? ⟨w1.heap.size, 0, none⟩ = some (.int .i64 x.kind) ∧ w'.cell? ⟨w1.heap.size, 1, none⟩ = some (.string x.name) ∧ w'.cell? ⟨w1.heap.size, 2, none⟩ = some (.string x.text) ∧ w'.cell? ⟨w1.heap.size, 3, none⟩ = some (.int .i64 x.num) ∧ w'.cell? ⟨w1.heap.size, 4, none⟩ = some (.int .i64 x.dest) ∧ w'.cell? ⟨w1.heap.size, 5, none⟩ = some (.slice A2 n2 cap2)) (first | exact ⟨d0, d1, d2, d3, d4, d5, y0, y1, y2, y3, y4, y5⟩ | go_keep)
      ((first | (go_at_call 14; refine (toStmt_any x A n cap _ (hv0.out.below hW.out) hl).mono ?_; rintro e w1 ⟨A3, n3, cap3, rfl, o3, hb⟩; replace d0 := cell_below hb (Nat.le_refl _) _ _ d0; replace d1 := cell_below hb (Nat.le_refl _) _ _ d1; replace d2 := cell_below hb (Nat.le_refl _) _ _ d2; replace d3 := cell_below hb (Nat.le_refl _) _ _ d3; replace d4 := cell_below hb (Nat.le_refl _) _ _ d4; replace d5 := cell_below hb (Nat.le_refl _) _ _ d5; replace y0 := cell_below hb (Nat.le_refl _) _ _ y0; replace y1 := cell_below hb (Nat.le_refl _) _ _ y1; replace y2 := cell_below hb (Nat.le_refl _) _ _ y2; replace y3 := cell_below hb (Nat.le_refl _) _ _ y3; replace y4 := cell_below hb (Nat.le_refl _) _ _ y4; replace y5 := cell_below hb (Nat.le_refl _) _ _ y5; replace hW := Lib.hid (Below.then_ hW.out hb (Nat.le_refl _)); replace o2 := Lib.hid (o2.out.below hb); replace o3 := Lib.hid o3; clear hb; unfold stmA) | (go_at_call 16; refine (eqStmt_same x _ _ _ _ _ _ _ o2.out.secs o3.out.secs).mono ?_; rintro e w1 ⟨rfl, hb⟩; replace d0 := cell_below hb (Nat.le_refl _) _ _ d0; replace d1 := cell_below hb (Nat.le_refl _) _ _ d1; replace d2 := cell_below hb (Nat.le_refl _) _ _ d2; replace d3 := cell_below hb (Nat.le_refl _) _ _ d3; replace d4 := cell_below hb (Nat.le_refl _) _ _ d4; replace d5 := cell_below hb (Nat.le_refl _) _ _ d5; replace y0 := cell_below hb (Nat.le_refl _) _ _ y0; replace y1 := cell_below hb (Nat.le_refl _) _ _ y1; replace y2 := cell_below hb (Nat.le_refl _) _ _ y2; replace y3 := cell_below hb (Nat.le_refl _) _ _ y3; replace y4 := cell_below hb (Nat.le_refl _) _ _ y4; replace y5 := cell_below hb (Nat.le_refl _) _ _ y5; replace hW := Lib.hid (Below.then_ hW.out hb (Nat.le_refl _)); clear hb)))
    all_goals go_wp2
    go_ret
    exact ⟨rfl, hW.out⟩

theorem own : ownKnob Try.prog.godebug = none := by kernel_rfl
theorem laidOut : laidOutB Try.prog = true := by kernel_rfl
set_option maxRecDepth 100000 in
theorem lifted (os : Os) (started : os.Started) (H : Type) (enc : TypeId × Value → H) :
    ReturnsInHanded {} Try.checked os 4 .any (Rows.fnExactStmtRightSpec.pre6 enc Try.prog Try.f4 Rows.fnExactStmtRightRow.domain false) (Rows.fnExactStmtRightSpec.post enc Try.prog Try.f4 false true false false) := by
  refine returnsInHanded_of_change (C := Try.checked) own started (by kernel_rfl) Try.func4
    (ChangeSpec.witness6 (enc := enc) (C := Try.checked) false ⟨#[], #[.agg #[.int .i64 0, .string ByteArray.empty, .string ByteArray.empty, .int .i64 0, .int .i64 0, .slice none 0 0]], []⟩ 8 (by kernel_rfl) (by kernel_rfl) (by kernel_rfl) (by kernel_rfl)) ?_
  intro W base args ds gs before hval0 hW hcnd _
  have hval : ∀ (j : Nat) t v, Try.f4.params[j]? = some t → args[j]? = some v → Value.okWide Try.prog W .any base t v := hval0
  have hW' := hW
  obtain ⟨p, q, hA0, hV, rfl, hfz, hnd⟩ := hW
  have hA : DataW.TrodAll enc Try.prog W 0 (fun _ => true) true Try.f4.params.toList args.toList ds p := hA0
  rw [Try.params4] at hA hval
  obtain ⟨v0, vs0, d0, ds0, p0, q0, hargs, rfl, rfl, h0, r0⟩ := trodAll_cons hA
  obtain ⟨rfl, rfl, rfl⟩ := trodAll_nil r0
  obtain rfl : args = #[v0] := by cases args; simp_all
  obtain ⟨rfl, rfl⟩ := trodVars_none hV
  have k0 := h0
  have lt0 : ∀ x ∈ p0, x.block < W.heap.size := by obtain ⟨m, hm⟩ := k0; exact DataW.trod_lt m _ _ _ hm
  obtain ⟨x0, A0, n0, cap0, rfl, w0, hp0⟩ := stm_open (hval 0 31 v0 rfl rfl) h0
  clear hA0 hval0
  refine (walk x0 A0 n0 cap0 w0 W hp0).mono fun e W' ⟨he, bel⟩ => ?_
  subst he
  exact ⟨_, rfl, _, _, _, [], _, [], hW', trodAll_mk1 (shut_bool Try.underlying4 _), (trodAll_cons_mk (Below.trod laidOut (by kernel_rfl) (of_decide_eq_true (by kernel_rfl)) k0 bel lt0) trodAll_mk0), rfl, bel.frame _, fun h => by cases h⟩

theorem over : Rows.fnExactStmtRightRow.holds Try.pinned (OpenSpec.ofChange Rows.fnExactStmtRightSpec) :=
  OpenClaim.holds_of_wide 4 Try.f4 rfl rfl rfl rfl rfl rfl rfl ⟨rfl, rfl, rfl, rfl, rfl⟩ rfl rfl rfl rfl rfl (by kernel_rfl) Try.func4 (by kernel_rfl)
    (of_decide_eq_true (by kernel_rfl)) (by unfold Func.isWrapper; first | (rw [if_pos (by decide +kernel)]; kernel_rfl) | (rw [if_neg (by decide +kernel)]; exact ⟨rfl, rfl⟩))
    (fun os started H enc _ => lifted os started H enc)

theorem proved : Rows.FnExactStmtRightSaid := over
#print axioms proved

end Go.Proofs.Ytejmfpaegkgkjaa.fnExactStmtRight
