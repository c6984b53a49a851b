/- SeatRight of the program answers as that of the model, at every seat. No conditions. -/
import Derived.Test.YtajnligcngekcaaRows
import Derived.WalkKit
import Derived.ProofKit
import Derived.OpenShut
import Derived.ShutString
import Derived.ChangeOld
import Derived.Below
import Derived.Lib.SmallJoins
import Derived.Deep.RegionHeld3
import Derived.Test.YtajnligcngekcaaSeatO
import Derived.Test.YtajnligcngekcaaSeatB
namespace Go.Proofs.Ytajnligcngekcaa.fnExactSeatRight
open Go.ChangeShapes Go.WideShapes Go.ChangeAt Go.RowKit
open Go.ChangeMaps (open_string shut_string)
set_option linter.unusedVariables false

set_option maxHeartbeats 4000000 in
theorem walk_big (b o : Bool) (s : ByteArray) (q : Int) (t : ByteArray) (hs : s.size ≤ maxLen) (ht : t.size ≤ maxLen) (A : Option Addr) (len cap : Nat) (hl : len ≤ maxLen) (w : World) (hbig : ¬ s.size + (t.size + len) ≤ 1048576) :
    Calls Try.prog 3 #[.agg #[.bool b, .bool o, .string s, .int .i64 q, .string t, .slice A len cap]] w fun e w' => e = .returned (.bool true) ∧ Below w.heap.size w w' := by
  have hbb := Lib.hid (fun (o1 : Obj) => (Below.refl w.heap.size w).alloc (Nat.le_refl _) o1)
  have hbig' : ¬ (s.size : Int) + (t.size + len) ≤ 1048576 := by omega
  clear hbig
  go_enter Try.func3, Try.ntmps3
  go_wp2_with (go_at_call 7; refine (szSeat_out b o s q t A len cap _ _ hbig' (by decide) (by decide) hl ht hs).mono ?_; rintro e w1 ⟨rfl, hb⟩; replace hb := Lib.hid hb)
  go_ret
  exact ⟨rfl, Below.then_ (hbb.out _) hb.out (Nat.le_refl _)⟩
set_option maxRecDepth 100000 in
set_option maxHeartbeats 32000000 in
theorem walkIn (b o : Bool) (s : ByteArray) (q : Int) (t : ByteArray) (A : Option Addr) (l : List Int) (cap : Nat) (w : World) (hin : s.size + (t.size + l.length) ≤ 1048576) (hv : Ints w (.slice A l.length cap) l) :
    Calls Try.prog 3 #[.agg #[.bool b, .bool o, .string s, .int .i64 q, .string t, .slice A l.length cap]] w fun e w' => e = .returned (.bool true) ∧ Below w.heap.size w w' := by
  have hsz := Lib.hid (show (s.size : Int) + (t.size + l.length) ≤ 1048576 by omega)
  have hleft : ¬ (1048576 : Int) - s.size - t.size - l.length < 0 := by omega
  have hB := Lib.hid (show Blk (w.alloc (.cells #[.bool b, .bool o, .string s, .int .i64 q, .string t, .slice A l.length cap] 26)) w.heap.size 26 [.bool b, .bool o, .string s, .int .i64 q, .string t, .slice A l.length cap] from heap_alloc_new w _)
  have hW := Lib.hid ((Below.refl w.heap.size w).alloc (Nat.le_refl _) (.cells #[.bool b, .bool o, .string s, .int .i64 q, .string t, .slice A l.length cap] 26))
  have hv0 := Lib.hid hv
  have ht : t.size ≤ 1048576 := by omega
  have hs : s.size ≤ 1048576 := by omega
  clear hv hin
  go_enter Try.func3, Try.ntmps3
  go_wp2_with (go_at_call 7; refine (szSeat_in b o s q t A l.length cap _ _ hsz.out (by omega)).mono ?_; rintro e1 w1 ⟨rfl, hb1⟩; replace hW := Lib.hid (Below.then_ hW.out hb1 (Nat.le_refl _)); replace hB := Lib.hid (hB.out.up hb1); obtain ⟨hB0, hB1, hB2, hB3, hB4, hB5, -, -, -, -, -, -⟩ := hB.out.six; have hBl := hB.out.lt; have z1 := Lib.hid (show w.heap.size + 1 ≤ w1.heap.size from Nat.le_trans (by simp) hb1.size); replace hb1 := Lib.hid hb1)
  go_wp2_with (go_at_call 9; refine (toSeat_any b o s q t _ l _ (hv0.out.below hW.out)).mono ?_; rintro e2 w2 ⟨A2, cap2, rfl, ho2, hb2⟩; replace hW := Lib.hid (Below.then_ hW.out hb2 (Nat.le_refl _)); replace hB := Lib.hid (hB.out.up hb2); clear hB0 hB1 hB2 hB3 hB4 hB5 hBl; obtain ⟨hB0, hB1, hB2, hB3, hB4, hB5, -, -, -, -, -, -⟩ := hB.out.six; have hBl := hB.out.lt; have z2 := Lib.hid (show w1.heap.size ≤ w2.heap.size from Nat.le_trans (Nat.le_refl _) hb2.size); have o2 := Lib.hid (show Own2 w2 (w1.heap.size) w2.heap.size (.slice A2 l.length cap2) l from Own2.new ho2 (Nat.le_refl _)); clear ho2; replace hb2 := Lib.hid hb2)
  go_wp2_with (go_at_call 8; refine (specSeatRight_any b o s q t _ l _ hs ht o2.out.ints).mono ?_; rintro e3 w3 ⟨rfl, hb3⟩; replace hW := Lib.hid (Below.then_ hW.out hb3 (Nat.le_refl _)); replace hB := Lib.hid (hB.out.up hb3); replace o2 := Lib.hid (o2.out.below hb3); clear hB0 hB1 hB2 hB3 hB4 hB5 hBl; obtain ⟨hB0, hB1, hB2, hB3, hB4, hB5, -, -, -, -, -, -⟩ := hB.out.six; have hBl := hB.out.lt; have z3 := Lib.hid (show w2.heap.size ≤ w3.heap.size from Nat.le_trans (Nat.le_refl _) hb3.size); replace hb3 := Lib.hid hb3)
  clear o2
  go_wp2_with (go_at_call 9; refine (toSeat_any b o s q t _ l _ (hv0.out.below hW.out)).mono ?_; rintro e4 w4 ⟨A4, cap4, rfl, ho4, hb4⟩; replace hW := Lib.hid (Below.then_ hW.out hb4 (Nat.le_refl _)); replace hB := Lib.hid (hB.out.up hb4); clear hB0 hB1 hB2 hB3 hB4 hB5 hBl; obtain ⟨hB0, hB1, hB2, hB3, hB4, hB5, -, -, -, -, -, -⟩ := hB.out.six; have hBl := hB.out.lt; have z4 := Lib.hid (show w3.heap.size ≤ w4.heap.size from Nat.le_trans (Nat.le_refl _) hb4.size); have o4 := Lib.hid (show Own2 w4 (w3.heap.size) w4.heap.size (.slice A4 l.length cap4) l from Own2.new ho4 (Nat.le_refl _)); clear ho4; replace hb4 := Lib.hid hb4)
  replace hW := Lib.hid (hW.out.alloc hW.out.size (.cells #[.bool b, .bool o, .string s, .int .i64 q, .string t, .slice A4 l.length cap4] 31))
  replace hB := Lib.hid (hB.out.alloc (.cells #[.bool b, .bool o, .string s, .int .i64 q, .string t, .slice A4 l.length cap4] 31))
  replace o4 := Lib.hid (o4.out.alloc (.cells #[.bool b, .bool o, .string s, .int .i64 q, .string t, .slice A4 l.length cap4] 31))
  have hx := Lib.hid (show Blk (w4.alloc (.cells #[.bool b, .bool o, .string s, .int .i64 q, .string t, .slice A4 l.length cap4] 31)) w4.heap.size 31 [.bool b, .bool o, .string s, .int .i64 q, .string t, .slice A4 l.length cap4] from heap_alloc_new w4 (.cells #[.bool b, .bool o, .string s, .int .i64 q, .string t, .slice A4 l.length cap4] 31))
  clear hB0 hB1 hB2 hB3 hB4 hB5 hBl
  obtain ⟨hB0, hB1, hB2, hB3, hB4, hB5, -, -, -, -, -, -⟩ := hB.out.six; have hBl := hB.out.lt
  obtain ⟨hx0, hx1, hx2, hx3, hx4, hx5, -, -, -, -, -, -⟩ := hx.out.six; have hxl := hx.out.lt
  go_wp2_with (go_at_call 10; refine (implSeatRight_any b o s q t _ l _ hs ht o4.out.ints).mono ?_; rintro e5 w5 ⟨rfl, hb5⟩; replace hW := Lib.hid (Below.then_ hW.out hb5 (Nat.le_refl _)); replace hB := Lib.hid (hB.out.up hb5); replace hx := Lib.hid (hx.out.up hb5); replace o4 := Lib.hid (o4.out.below hb5); clear hB0 hB1 hB2 hB3 hB4 hB5 hBl; obtain ⟨hB0, hB1, hB2, hB3, hB4, hB5, -, -, -, -, -, -⟩ := hB.out.six; have hBl := hB.out.lt; clear hx0 hx1 hx2 hx3 hx4 hx5 hxl; obtain ⟨hx0, hx1, hx2, hx3, hx4, hx5, -, -, -, -, -, -⟩ := hx.out.six; have hxl := hx.out.lt; have z5 := Lib.hid (show w4.heap.size + 1 ≤ w5.heap.size from Nat.le_trans (by simp) hb5.size); replace hb5 := Lib.hid hb5)
  replace hW := Lib.hid (below_drew' hW.out)
  replace hB := Lib.hid hB.out.drew
  replace hx := Lib.hid hx.out.drew
  replace o4 := Lib.hid o4.out.drew
  clear hB0 hB1 hB2 hB3 hB4 hB5 hBl
  obtain ⟨hB0, hB1, hB2, hB3, hB4, hB5, -, -, -, -, -, -⟩ := hB.out.six; have hBl := hB.out.lt
  clear hx0 hx1 hx2 hx3 hx4 hx5 hxl
  obtain ⟨hx0, hx1, hx2, hx3, hx4, hx5, -, -, -, -, -, -⟩ := hx.out.six; have hxl := hx.out.lt
  go_region_held3 (fun w' => w'.cell? ⟨w.heap.size, 0, none⟩ = some (.bool b) ∧ w'.cell? ⟨w.heap.size, 1, none⟩ = some (.bool o) ∧ w'.cell? ⟨w.heap.size, 2, none⟩ = some (.string s) ∧ w'.cell? ⟨w.heap.size, 3, none⟩ = some (.int .i64 q) ∧ w'.cell? ⟨w.heap.size, 4, none⟩ = some (.string t) ∧ w'.cell? ⟨w.heap.size, 5, none⟩ = some (.slice A l.length cap) ∧ w'.cell? ⟨w4.heap.size, 0, none⟩ = some (.bool b) ∧ w'.cell? ⟨w4.heap.size, 1, none⟩ = some (.bool o) ∧ w'.cell? ⟨w4.heap.size, 2, none⟩ = some (.string s) ∧ w'.cell? ⟨w4.heap.size, 3, none⟩ = some (.int .i64 q) ∧ w'.cell? ⟨w4.heap.size, 4, none⟩ = some (.string t) ∧ w'.cell? ⟨w4.heap.size, 5, none⟩ = some (.slice A4 l.length cap4)) (first | exact ⟨hB0, hB1, hB2, hB3, hB4, hB5, hx0, hx1, hx2, hx3, hx4, hx5⟩ | go_keep)
    (first
      | (go_at_call 9; refine (toSeat_any b o s q t _ l _ (hv0.out.below hW.out)).mono ?_; rintro e6 w6 ⟨A6, cap6, rfl, ho6, hb6⟩; replace hW := Lib.hid (Below.then_ hW.out hb6 (Nat.le_refl _)); replace hB := Lib.hid (hB.out.up hb6); replace hx := Lib.hid (hx.out.up hb6); replace o4 := Lib.hid (o4.out.below hb6); clear hB0 hB1 hB2 hB3 hB4 hB5 hBl; obtain ⟨hB0, hB1, hB2, hB3, hB4, hB5, -, -, -, -, -, -⟩ := hB.out.six; have hBl := hB.out.lt; clear hx0 hx1 hx2 hx3 hx4 hx5 hxl; obtain ⟨hx0, hx1, hx2, hx3, hx4, hx5, -, -, -, -, -, -⟩ := hx.out.six; have hxl := hx.out.lt; have z6 := Lib.hid (show w5.heap.size ≤ w6.heap.size from Nat.le_trans (Nat.le_refl _) hb6.size); have o6 := Lib.hid (show Own2 w6 (w5.heap.size) w6.heap.size (.slice A6 l.length cap6) l from Own2.new ho6 (Nat.le_refl _)); clear ho6; replace hb6 := Lib.hid hb6)
      | (go_at_call 11; refine (eqSeat_same b o s q t _ _ l _ o4.out.ints o6.out.ints).mono ?_; rintro e7 w7 ⟨rfl, hb7⟩; replace hW := Lib.hid (Below.then_ hW.out hb7 (Nat.le_refl _)); replace hB := Lib.hid (hB.out.up hb7); replace hx := Lib.hid (hx.out.up hb7); replace o4 := Lib.hid (o4.out.below hb7); replace o6 := Lib.hid (o6.out.below hb7); clear hB0 hB1 hB2 hB3 hB4 hB5 hBl; obtain ⟨hB0, hB1, hB2, hB3, hB4, hB5, -, -, -, -, -, -⟩ := hB.out.six; have hBl := hB.out.lt; clear hx0 hx1 hx2 hx3 hx4 hx5 hxl; obtain ⟨hx0, hx1, hx2, hx3, hx4, hx5, -, -, -, -, -, -⟩ := hx.out.six; have hxl := hx.out.lt; have z7 := Lib.hid (show w6.heap.size ≤ w7.heap.size from Nat.le_trans (Nat.le_refl _) hb7.size); replace hb7 := Lib.hid hb7))
  all_goals
    go_wp2
    go_ret
    exact ⟨rfl, hW.out⟩
theorem walk (b o : Bool) (s : ByteArray) (hs : s.size ≤ maxLen) (q : Int) (_hq : -9223372036854775808 ≤ q ∧ q ≤ 9223372036854775807) (t : ByteArray) (ht : t.size ≤ maxLen) (A : Option Addr) (len cap : Nat) (hl : len ≤ maxLen) (w : World) (hI : len ≤ 1048576 → ∃ l : List Int, l.length = len ∧ Ints w (.slice A len cap) l) :
    Calls Try.prog 3 #[.agg #[.bool b, .bool o, .string s, .int .i64 q, .string t, .slice A len cap]] w fun e w' => e = .returned (.bool true) ∧ Below w.heap.size w w' := by
  by_cases h : s.size + (t.size + len) ≤ 1048576
  · obtain ⟨l, rfl, hv⟩ := hI (by omega)
    exact walkIn b o s q t A l cap w h hv
  · exact walk_big b o s q t hs ht A len cap hl w h

theorem own : ownKnob Try.prog.godebug = none := by kernel_rfl
theorem laidOut : laidOutB Try.prog = true := by kernel_rfl
set_option maxRecDepth 100000 in
theorem lifted (os : Os) (started : os.Started) (H : Type) (enc : TypeId × Value → H) :
    ReturnsInHanded {} Try.checked os 3 .any (Rows.fnExactSeatRightSpec.pre6 enc Try.prog Try.f3 Rows.fnExactSeatRightRow.domain false) (Rows.fnExactSeatRightSpec.post enc Try.prog Try.f3 false true false false) := by
  refine returnsInHanded_of_change (C := Try.checked) own started (by kernel_rfl) Try.func3
    (ChangeSpec.witness6 (enc := enc) (C := Try.checked) false ⟨#[], #[.agg #[.bool false, .bool false, .string ByteArray.empty, .int .i64 0, .string ByteArray.empty, .slice none 0 0]], []⟩ 8 (by kernel_rfl) (by kernel_rfl) (by kernel_rfl) (by kernel_rfl)) ?_
  intro W base args ds gs before hval0 hW hcnd _
  have hval : ∀ (j : Nat) t v, Try.f3.params[j]? = some t → args[j]? = some v → Value.okWide Try.prog W .any base t v := hval0
  have hW' := hW
  obtain ⟨p, q, hA0, hV, rfl, hfz, hnd⟩ := hW
  have hA : DataW.TrodAll enc Try.prog W 0 (fun _ => true) true Try.f3.params.toList args.toList ds p := hA0
  rw [Try.params3] at hA hval
  obtain ⟨v0, vs0, d0, ds0, p0, q0, hargs, rfl, rfl, h0, r0⟩ := trodAll_cons hA
  obtain ⟨rfl, rfl, rfl⟩ := trodAll_nil r0
  obtain rfl : args = #[v0] := by cases args; simp_all
  obtain ⟨rfl, rfl⟩ := trodVars_none hV
  have k0 := h0
  have lt0 : ∀ x ∈ p0, x.block < W.heap.size := by obtain ⟨m, hm⟩ := k0; exact DataW.trod_lt m _ _ _ hm
  obtain ⟨b0, o0, s0, n0, t0, A0, len0, cap0, rfl, w0, z0, u0, hm0, hI0⟩ := seat_open (hval 0 26 v0 rfl rfl) h0
  clear hA0 hval0
  refine (walk b0 o0 s0 w0 n0 z0 t0 u0 A0 len0 cap0 hm0 W hI0).mono fun e W' ⟨he, bel⟩ => ?_
  subst he
  exact ⟨_, rfl, _, _, _, [], _, [], hW', trodAll_mk1 (shut_bool Try.underlying4 _), (trodAll_cons_mk (Below.trod laidOut (by kernel_rfl) (of_decide_eq_true (by kernel_rfl)) k0 bel lt0) trodAll_mk0), rfl, bel.frame _, fun h => by cases h⟩

theorem over : Rows.fnExactSeatRightRow.holds Try.pinned (OpenSpec.ofChange Rows.fnExactSeatRightSpec) :=
  OpenClaim.holds_of_wide 3 Try.f3 rfl rfl rfl rfl rfl rfl rfl ⟨rfl, rfl, rfl, rfl, rfl⟩ rfl rfl rfl rfl rfl (by kernel_rfl) Try.func3 (by kernel_rfl)
    (of_decide_eq_true (by kernel_rfl)) (by unfold Func.isWrapper; first | (rw [if_pos (by decide +kernel)]; kernel_rfl) | (rw [if_neg (by decide +kernel)]; exact ⟨rfl, rfl⟩))
    (fun os started H enc _ => lifted os started H enc)

theorem proved : Rows.FnExactSeatRightSaid := over
#print axioms proved

end Go.Proofs.Ytajnligcngekcaa.fnExactSeatRight
