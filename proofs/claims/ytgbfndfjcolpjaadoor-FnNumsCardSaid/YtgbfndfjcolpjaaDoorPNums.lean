/- A drawn number, or text, is got back from its bytes, with the place behind it; of bytes that end too early nothing is got. The card ties errors.errorType to the text of the program. -/
import Derived.Test.YtgbfndfjcolpjaaDoorRows
import Derived.Test.YtgbfndfjcolpjaaDoorCards
import Derived.Test.YtgbfndfjcolpjaaDoorTie
import Derived.WalkKit
import Derived.ProofKit
import Derived.OpenShut
import Derived.ShutString
import Derived.ChangeOld
import Derived.Below
import Derived.ChangeSame
import Derived.ChangeVars
import Derived.JoinedOf
import Derived.RowKit
import Derived.RowKitTokens
import Derived.LaidLaws
import Derived.LaidHandle
import Derived.Stop.Joined
import Derived.SevenTiedAt
import Derived.Test.YtgbfndfjcolpjaaDoorNumBack
import Derived.Test.YtgbfndfjcolpjaaDoorDrawN
namespace Go.Proofs.YtgbfndfjcolpjaaDoor.fnNums
open Go.ChangeShapes Go.WideShapes Go.ChangeAt Go.RowKit
open Go.ChangeMaps (open_string shut_string)
set_option linter.unusedVariables false
/-- A row of bytes that came in. -/
def IsRow (k : IntKind) (w : World) (a : Option Addr) (len cap : Nat) (zs : List Int) : Prop :=
  (a = none ∧ len = 0 ∧ cap = 0 ∧ zs = []) ∨
  ∃ x, a = some x ∧ len ≤ cap ∧ cap ≤ maxLen ∧ zs.length = cap ∧ (∀ i, i < zs.length → w.cell? (x.add i) = some (.int k (zs.getD i 0))) ∧ ∀ n ∈ zs, (Lit.int k n).wf = true
theorem IsRow.read {w : World} {a : Option Addr} {len cap : Nat} {zs : List Int} (h : IsRow .u8 w a len cap zs) (hl : len ≤ 1048576) : Readable w w.heap.size a len := by
  refine ⟨hl, fun h0 => ?_⟩
  rcases h with ⟨_, rfl, _⟩ | ⟨x, rfl, hlc, _, hz, hcell, hwf⟩
  · omega
  · obtain ⟨b, off, spot⟩ := x
    have hc := hcell 0 (by omega)
    have hspot : spot = none := by simpa [Addr.add] using World.cell?_spot hc
    subst hspot
    have hlt : b < w.heap.size := by
      rcases Nat.lt_or_ge b w.heap.size with h | h
      · exact h
      · simp [World.cell?, Addr.add, Array.getElem?_eq_none h] at hc
    refine ⟨b, off, rfl, hlt, fun i hi => ?_⟩
    have hi2 : i < zs.length := by omega
    have hc := hcell i hi2
    have hw := hwf (zs[i]) (List.getElem_mem hi2)
    have hw : 0 ≤ zs[i] ∧ zs[i] ≤ 255 := by simpa [Lit.wf, show IntKind.u8.min = 0 from by decide, show IntKind.u8.max = 255 from by decide] using hw
    refine ⟨zs[i].toNat, by omega, ?_⟩
    rw [Int.toNat_of_nonneg hw.1]
    have e1 : (⟨b, off, none⟩ : Addr).add i = ⟨b, off + i, none⟩ := by unfold Addr.add; split <;> simp_all
    rw [e1] at hc
    simpa [List.getD_eq_getElem?_getD, List.getElem?_eq_getElem hi2] using hc
theorem read_below {w w' : World} {A : Option Addr} {len : Nat} (h : Readable w w.heap.size A len) (hb : Below w.heap.size w w') : Readable w' w.heap.size A len := h.keep hb.block
theorem below_more {b : Nat} {w w1 w2 : World} (h : Below b w w1) (k : Below w1.heap.size w1 w2) (hb : b ≤ w.heap.size) : Below b w w2 := h.trans (k.mono (Nat.le_trans hb h.size))
theorem num_field (a b c : Int) (W : World) : (Instr.field 26 (.agg #[.int .i64 a, .int .i64 b, .int .i64 c]) 2).run Tryd.prog W = .ok (.int .i64 c) W := by kernel_rfl
theorem code_field (s : ByteArray) (a c : Int) (W : World) : (Instr.field 31 (.agg #[.string s, .int .i64 a, .int .i64 c]) 2).run Tryd.prog W = .ok (.int .i64 c) W := by kernel_rfl
theorem below_alloc {b : Nat} {w w1 w2 : World} {o : Obj} (h : Below b w w1) (k : Below (w1.alloc o).heap.size (w1.alloc o) w2) (hb : b ≤ w.heap.size) : Below b w w2 := below_more (h.alloc (Nat.le_trans hb h.size) o) k hb

set_option maxRecDepth 100000 in
set_option maxHeartbeats 4000000 in
theorem walk_big (a0 : Option Addr) (len0 cap0 : Nat) (a1 : Option Addr) (len1 cap1 : Nat) (w : World) (hb : ¬ (len0 ≤ 1048576 ∧ len1 ≤ 1048576)) :
    Calls Tryd.prog 3 #[.slice a0 len0 cap0, .slice a1 len1 cap1] w fun e w' => e = .returned (.bool true) ∧ Below w.heap.size w w' := by
  by_cases h0 : len0 ≤ 1048576
  · have h0' : (len0 : Int) ≤ 1048576 := by omega
    have h1' : ¬ (len1 : Int) ≤ 1048576 := by omega
    clear h0 hb
    go_enter Tryd.func3, Tryd.ntmps3
    go_wp2
    go_ret
    exact ⟨rfl, Below.refl _ _⟩
  · have h0' : ¬ (len0 : Int) ≤ 1048576 := by omega
    clear h0 hb
    go_enter Tryd.func3, Tryd.ntmps3
    go_wp2
    go_ret
    exact ⟨rfl, Below.refl _ _⟩
set_option maxRecDepth 100000 in
set_option maxHeartbeats 8000000 in
theorem walkIn (a0 : Option Addr) (len0 cap0 : Nat) (a1 : Option Addr) (len1 cap1 : Nat) (w : World) (hG : Handle w) (r0 : Readable w w.heap.size a0 len0) (r1 : Readable w w.heap.size a1 len1) :
    Calls Tryd.prog 3 #[.slice a0 len0 cap0, .slice a1 len1 cap1] w fun e w' => e = .returned (.bool true) ∧ Below w.heap.size w w' := by
  have h0' : (len0 : Int) ≤ 1048576 := by have := r0.1; omega
  have h1' : (len1 : Int) ≤ 1048576 := by have := r1.1; omega
  replace r0 := Lib.hid r0
  replace r1 := Lib.hid r1
  replace hG := Lib.hid hG
  go_enter Tryd.func3, Tryd.ntmps3
  go_wp2_with (go_at_call 6; refine (drawPutNum_any _ _ _ w.heap.size _ (Nat.le_refl _) r0.out).mono ?_; rintro e x1 ⟨⟨n, hn, rfl⟩, hb⟩; replace hb := Lib.hid hb)
  have hback := num_back hn
  have hcut := num_cut hn
  have hpos := numBytes_pos n
  have hle := numBytes_le hn
  have hl := bytesL_size (numBytes n)
  obtain ⟨T, hT⟩ : ∃ T, T = bytesL (numBytes n) := ⟨_, rfl⟩
  rw [← hl] at hpos hle hback
  rw [← hT] at hback hcut hpos hle
  have hT1 : ¬ (T.size : Int) < 1 := by omega
  have hT2 : ¬ (10 : Int) < (T.size : Int) := by omega
  have hT3 : (0 : Int) ≤ (T.size : Int) - 1 := by omega
  have hT4 : (T.size : Int) - 1 ≤ (T.size : Int) := by omega
  have hT5 : ((T.size : Int) - 1).toNat = T.size - 1 := by omega
  have hm1 : (⟨#[120, 121]⟩ ++ T ++ ⟨#[122]⟩ : ByteArray).size ≤ maxLen := by
    rw [ByteArray.size_append, ByteArray.size_append]
    show 2 + T.size + 1 ≤ maxLen
    unfold maxLen; omega
  have hm2 : (T.extract 0 (T.size - 1)).size ≤ maxLen := by rw [ByteArray.size_extract]; unfold maxLen; omega
  have hnf := num_field 0 0 4
  have hwn := Lib.hid (wf_small hn)
  replace hback := Lib.hid hback
  replace hcut := Lib.hid hcut
  replace hpos := Lib.hid hpos
  replace hl := Lib.hid hl
  replace hT := Lib.hid (show strV (numBytes n) = .string T from by rw [hT]; rfl)
  go_wp2_with (first
    | (go_at_call 7; refine (implPutNum_any _ hwn.out _).mono ?_; rintro e x2 ⟨rfl, hb'⟩; replace hb := Lib.hid (below_more hb.out hb' (Nat.le_refl _)); clear hb'; rw [hT.out])
    | (go_at_call 8; refine (specPutNum_any _ hwn.out _).mono ?_; rintro e x3 ⟨rfl, hb'⟩; replace hb := Lib.hid (below_more hb.out hb' (Nat.le_refl _)); clear hb'; rw [hT.out])
    | (go_at_call_of 9 (Value.int IntKind.i64 2); refine (implGetNum_any _ _ hm1 (by decide) _ (hG.out.below hb.out hG.out.pos)).mono ?_; rintro e x4 ⟨rfl, hb'⟩; replace hb := Lib.hid (below_more hb.out hb' (Nat.le_refl _)); clear hb'; rw [hback.out])
    | (go_at_call_of 9 (Value.int IntKind.i64 0); refine (implGetNum_any _ _ hm2 (by decide) _ ((hG.out.below hb.out hG.out.pos).alloc _)).mono ?_; rintro e x5 ⟨rfl, hb'⟩; replace hb := Lib.hid (below_alloc hb.out hb' (Nat.le_refl _)); clear hb'; rw [hcut.out])
    | (go_at_call 10; refine (drawPutText_any a1 len1 cap1 w.heap.size _ hb.out.size (r1.out.keep hb.out.block)).mono ?_; rintro e x6 ⟨⟨u, hu, rfl⟩, hb'⟩; replace hb := Lib.hid (below_more hb.out hb' (Nat.le_refl _)); clear hb'))
  have hum : u.size ≤ maxLen := by unfold maxLen; omega
  clear hT1 hT2 hT3 hT4 hT5 hm1 hm2 hnf
  by_cases h8 : u.size ≤ 8000
  · have hf := textBytes_fits u h8
    have hpos := numBytes_pos u.size
    have hle := numBytes_le (len_wf h8)
    have hul : u.data.toList.length = u.size := by simp
    have hlen : (textBytes u).length = (numBytes u.size).length + u.size := by rw [hf, List.length_append, hul]
    obtain ⟨P, hP⟩ : ∃ P, P = bytesL (textBytes u) := ⟨_, rfl⟩
    have hPl : P.size = (textBytes u).length := by rw [hP, bytesL_size]
    have hP1 : 1 ≤ P.size := by omega
    have hne : P.toList.isEmpty = false := by
      rw [ByteArray.toList_eq]
      cases hc : P.data.toList with
      | nil =>
        have h0 : P.data.toList.length = 0 := by rw [hc]; rfl
        have h1 : P.data.toList.length = P.size := by simp
        omega
      | cons => rfl
    have hP2 : P.size ≤ 8010 := by omega
    have hPv := Lib.hid (show strV (textBytes u) = .string P from by rw [hP]; rfl)
    have hcut := fun h => text_cut h8 (u := u) h
    have hback := fun h => text_back h8 (u := u) h
    rw [← hPl] at hcut hback
    rw [← hP] at hcut hback
    by_cases h79 : P.size + 1 ≤ 8000
    · have hcut := Lib.hid (hcut (by omega))
      have hback := Lib.hid (hback h79)
      have h79' : ¬ (8000 : Int) < (P.size : Int) + 1 := by omega
      have hT3 : (0 : Int) ≤ (P.size : Int) - 1 := by omega
      have hT4 : (P.size : Int) - 1 ≤ (P.size : Int) := by omega
      have hT5 : ((P.size : Int) - 1).toNat = P.size - 1 := by omega
      have hm1 : (⟨#[120]⟩ ++ P : ByteArray).size ≤ maxLen := by
        rw [ByteArray.size_append]
        show 1 + P.size ≤ maxLen
        unfold maxLen; omega
      have hm2 : (P.extract 0 (P.size - 1)).size ≤ maxLen := by rw [ByteArray.size_extract]; unfold maxLen; omega
      have hcf := code_field ⟨#[]⟩ 0 4
      clear hPl hlen hul hf hP hle hpos
      go_wp2_with (first
        | (go_at_call 11; refine (implPutText_any _ hum _).mono ?_; rintro e x7 ⟨rfl, hb'⟩; replace hb := Lib.hid (below_more hb.out hb' (Nat.le_refl _)); clear hb'; rw [hPv.out])
        | (go_at_call 12; refine (specPutText_any _ hum _).mono ?_; rintro e x8 ⟨rfl, hb'⟩; replace hb := Lib.hid (below_more hb.out hb' (Nat.le_refl _)); clear hb'; rw [hPv.out])
        | (go_at_call_of 13 (Value.int IntKind.i64 1); refine (implGetText_any _ _ hm1 (by decide) _ (hG.out.below hb.out hG.out.pos)).mono ?_; rintro e x9 ⟨rfl, hb'⟩; replace hb := Lib.hid (below_more hb.out hb' (Nat.le_refl _)); clear hb'; rw [hback.out])
        | (go_at_call_of 13 (Value.int IntKind.i64 0); refine (implGetText_any _ _ hm2 (by decide) _ (hG.out.below hb.out hG.out.pos)).mono ?_; rintro e x10 ⟨rfl, hb'⟩; replace hb := Lib.hid (below_more hb.out hb' (Nat.le_refl _)); clear hb'; rw [hcut.out]))
      all_goals go_ret
      all_goals exact ⟨rfl, hb.out⟩
    · have h79' : (8000 : Int) < (P.size : Int) + 1 := by omega
      clear hPl hlen hul hf hP hle hpos hcut hback
      go_wp2_with (first
        | (go_at_call 11; refine (implPutText_any _ hum _).mono ?_; rintro e x7 ⟨rfl, hb'⟩; replace hb := Lib.hid (below_more hb.out hb' (Nat.le_refl _)); clear hb'; rw [hPv.out])
        | (go_at_call 12; refine (specPutText_any _ hum _).mono ?_; rintro e x8 ⟨rfl, hb'⟩; replace hb := Lib.hid (below_more hb.out hb' (Nat.le_refl _)); clear hb'; rw [hPv.out]))
      all_goals go_ret
      all_goals exact ⟨rfl, hb.out⟩
  · have hS := Lib.hid (textBytes_long u (by omega))
    go_wp2_with (first
      | (go_at_call 11; refine (implPutText_any _ hum _).mono ?_; rintro e x7 ⟨rfl, hb'⟩; replace hb := Lib.hid (below_more hb.out hb' (Nat.le_refl _)); clear hb'; rw [hS.out, strV_nil])
      | (go_at_call 12; refine (specPutText_any _ hum _).mono ?_; rintro e x8 ⟨rfl, hb'⟩; replace hb := Lib.hid (below_more hb.out hb' (Nat.le_refl _)); clear hb'; rw [hS.out, strV_nil]))
    all_goals go_ret
    all_goals exact ⟨rfl, hb.out⟩
theorem walk (a0 : Option Addr) (len0 cap0 : Nat) (z0 : List Int) {w : World} (w0 : IsRow .u8 w a0 len0 cap0 z0) (a1 : Option Addr) (len1 cap1 : Nat) (z1 : List Int) (w1 : IsRow .u8 w a1 len1 cap1 z1) (w' : World) (hG : Handle w') (hw : w' = w := by rfl) :
    Calls Tryd.prog 3 #[.slice a0 len0 cap0, .slice a1 len1 cap1] w' fun e x => e = .returned (.bool true) ∧ Below w'.heap.size w' x := by
  subst hw
  by_cases hb : len0 ≤ 1048576 ∧ len1 ≤ 1048576
  · exact walkIn a0 len0 cap0 a1 len1 cap1 w' hG (w0.read hb.1) (w1.read hb.2)
  · exact walk_big a0 len0 cap0 a1 len1 cap1 w' hb

theorem own : ownKnob Tryd.prog.godebug = none := by kernel_rfl
theorem laidOut : laidOutB Tryd.prog = true := by kernel_rfl
theorem et : Tryd.prog.globalNamed "errors.errorType" = some 0 := by kernel_rfl
theorem rt : (Tryd.prog.cutTypes.find? (·.1 == "internal/reflectlite.rtype")).map (·.2) = some 76 := by kernel_rfl
theorem oneRow : ((List.range 119).filter fun t => Tryd.prog.rowNamed t [101, 114, 114, 111, 114]) = [45] := by kernel_rfl
theorem size : Tryd.prog.types.size = 119 := by kernel_rfl
/-- What the condition gives a walk: the variable's one cell. -/
theorem handle_of_laid {W : World} (h : laidMetH Tryd.prog Rows.fnNumsRow.laid W) : Handle W := by
  have h' : laidMet Tryd.prog [] W ∧ handlesMet Tryd.prog Rows.fnNumsRow.laid W := h
  obtain ⟨name, u, ty, e1, e2, e3, e4, e5⟩ := h'.2 _ (List.mem_singleton.2 rfl)
  have en : name = [101, 114, 114, 111, 114] := (Option.some.inj e1).symm
  subst en
  obtain rfl := Option.some.inj (rt.symm.trans e2)
  have hm : ty ∈ (List.range 119).filter fun t => Tryd.prog.rowNamed t [101, 114, 114, 111, 114] := List.mem_filter.2 ⟨List.mem_range.2 (by rw [← size]; exact e3), e4⟩
  rw [oneRow] at hm
  obtain rfl := List.mem_singleton.1 hm
  have hh : typeHandle Tryd.prog 45 = .pointer (some ⟨1, 45, none⟩) := by kernel_rfl
  rw [hh] at e5
  simpa [Handle] using World.var?_cell et e5 0
/-- A world that meets the condition: the settled one, the variable's cell laid. -/
noncomputable def laidWorld (os : Os) : World :=
  let w0 := World.holding Tryd.prog os ⟨#[], #[], []⟩
  { w0 with heap := w0.heap.modify 0 fun
      | .cells _ t frozen => .cells #[.iface 76 (.agg #[.pointer (some ⟨1, 45, none⟩)])] t frozen
      | o => o }
theorem laidWorld_met (os : Os) (args : Array Value) : laidMetH Tryd.prog Rows.fnNumsRow.laid ((laidWorld os).forCall (fun _ _ => 0) ⟨#[], args, []⟩).memory :=
  laidMetH_of_parts (laidMet_nil _ _) (by kernel_rfl)

set_option maxRecDepth 100000 in
theorem lifted (os : Os) (started : os.Started) (H : Type) (enc : TypeId × Value → H) :
    ReturnsInHanded {} Tryd.checked os 3 .any (fun w args => (Rows.fnNumsSpec.pre enc Tryd.prog Tryd.f3 [] false w args ∧ laidMetH Tryd.prog Rows.fnNumsRow.laid w) ∧ sizedMet enc Tryd.prog Tryd.f3 (OpenSpec.ofChange Rows.fnNumsSpec) false w args)
      (Rows.fnNumsSpec.post enc Tryd.prog Tryd.f3 false true false false) := by
  refine returnsInHanded_of_change_and (C := Tryd.checked) (X := fun w _ => laidMetH Tryd.prog Rows.fnNumsRow.laid w) (fun _ _ _ hh h => h.of_heap hh) own started (by kernel_rfl) Tryd.func3
    (ChangeSpec.witness_at (enc := enc) (C := Tryd.checked) (os := os) (X := fun w _ => laidMetH Tryd.prog Rows.fnNumsRow.laid w) false (laidWorld os) #[.slice none 0 0, .slice none 0 0] 8 rfl (by kernel_rfl) (by kernel_rfl) (by kernel_rfl) (by kernel_rfl) (by kernel_rfl) (laidWorld_met os _)) ?_
  intro W base args ds gs before hval0 hW _ _ hL _
  have hval : ∀ (j : Nat) t v, Tryd.f3.params[j]? = some t → args[j]? = some v → Value.okWide Tryd.prog W .any base t v := hval0
  have hW' := hW
  obtain ⟨p, q, hA0, hV0, rfl, hfz, hnd⟩ := hW
  have hA : DataW.TrodAll enc Tryd.prog W 0 (fun _ => true) true Tryd.f3.params.toList args.toList ds p := hA0
  have hV : DataW.TrodVars enc Tryd.prog W (fun _ => true) [] gs q := hV0
  rw [Tryd.params3] at hA hval
  obtain ⟨v0, vs0, d0, ds0, p0, q0, hargs, rfl, rfl, h0, r0⟩ := trodAll_cons hA
  obtain ⟨v1, vs1, d1, ds1, p1, q1, rfl, rfl, rfl, h1, r1⟩ := trodAll_cons r0
  obtain ⟨rfl, rfl, rfl⟩ := trodAll_nil r1
  obtain rfl : args = #[v0, v1] := by cases args; simp_all
  obtain ⟨rfl, rfl⟩ : gs = [] ∧ q = [] := by
    cases gs with
    | nil => exact ⟨rfl, hV⟩
    | cons g r => exact absurd hV (by intro h; cases h)
  obtain ⟨a0, len0, cap0, rfl⟩ := okWide_slice Tryd.underlying22 (hval 0 22 v0 rfl rfl)
  have k0 := h0
  have lt0 : ∀ x ∈ p0, x.block < W.heap.size := by obtain ⟨m, hm⟩ := k0; exact DataW.trod_lt m _ _ _ hm
  obtain ⟨z0, w0⟩ : ∃ zs, IsRow .u8 W a0 len0 cap0 zs := by
    obtain ⟨fuel, hf⟩ := h0
    rcases open_ints Tryd.underlying22 Tryd.underlying5 (by kernel_rfl) hf with ⟨hcs, _⟩ | ⟨x, l, c, zs, hcs, _, hl, hm, hz, _, hcell, hwz⟩
    · simp [Value.cells] at hcs
      obtain ⟨rfl, rfl, rfl⟩ := hcs
      exact ⟨[], .inl ⟨rfl, rfl, rfl, rfl⟩⟩
    · simp [Value.cells] at hcs
      obtain ⟨rfl, rfl, rfl⟩ := hcs
      exact ⟨zs, .inr ⟨_, rfl, hl, hm, by simpa using hz, hcell, hwz⟩⟩
  obtain ⟨a1, len1, cap1, rfl⟩ := okWide_slice Tryd.underlying22 (hval 1 22 v1 rfl rfl)
  have k1 := h1
  have lt1 : ∀ x ∈ p1, x.block < W.heap.size := by obtain ⟨m, hm⟩ := k1; exact DataW.trod_lt m _ _ _ hm
  obtain ⟨z1, w1⟩ : ∃ zs, IsRow .u8 W a1 len1 cap1 zs := by
    obtain ⟨fuel, hf⟩ := h1
    rcases open_ints Tryd.underlying22 Tryd.underlying5 (by kernel_rfl) hf with ⟨hcs, _⟩ | ⟨x, l, c, zs, hcs, _, hl, hm, hz, _, hcell, hwz⟩
    · simp [Value.cells] at hcs
      obtain ⟨rfl, rfl, rfl⟩ := hcs
      exact ⟨[], .inl ⟨rfl, rfl, rfl, rfl⟩⟩
    · simp [Value.cells] at hcs
      obtain ⟨rfl, rfl, rfl⟩ := hcs
      exact ⟨zs, .inr ⟨_, rfl, hl, hm, by simpa using hz, hcell, hwz⟩⟩
  have hg := handle_of_laid hL
  clear hA0 hval0
  refine (walk a0 len0 cap0 z0 w0 a1 len1 cap1 z1 w1 W hg).mono fun e W' ⟨he, bel⟩ => ?_
  subst he
  exact ⟨_, rfl, _, _, _, [], _, [], hW', trodAll_mk1 (shut_bool Tryd.underlying4 _), (trodAll_cons_mk (Below.trod laidOut (by kernel_rfl) (of_decide_eq_true (by kernel_rfl)) k0 bel lt0) (trodAll_cons_mk (Below.trod laidOut (by kernel_rfl) (of_decide_eq_true (by kernel_rfl)) k1 bel lt1) trodAll_mk0)), rfl, bel.frame _, fun h => by cases h⟩

theorem over : Rows.fnNumsRow.holds Tryd.pinned (OpenSpec.ofChange Rows.fnNumsSpec) :=
  OpenClaim.holds_of_wide 3 Tryd.f3 rfl rfl rfl rfl rfl rfl rfl ⟨rfl, rfl, rfl, rfl, rfl⟩ rfl rfl rfl rfl rfl (by kernel_rfl) Tryd.func3 (by kernel_rfl)
    (of_decide_eq_true (by kernel_rfl)) (by unfold Func.isWrapper; first | (rw [if_pos (by decide +kernel)]; kernel_rfl) | (rw [if_neg (by decide +kernel)]; exact ⟨rfl, rfl⟩))
    (fun os started H enc _ => lifted os started H enc)

theorem wants (j : Nat) (t : TypeId) (ht : Tryd.f3.params[j]? = some t) : Tryd.prog.wantsStandIn t = false := by
  rw [Tryd.params3] at ht
  match j, ht with
  | 0, ht => exact (show t = 22 from (Option.some.inj ht).symm) ▸ (show Tryd.prog.wantsStandIn 22 = false by kernel_rfl)
  | 1, ht => exact (show t = 22 from (Option.some.inj ht).symm) ▸ (show Tryd.prog.wantsStandIn 22 = false by kernel_rfl)
  | j + 2, ht => simp at ht
theorem proved : Rows.FnNumsCardSaid :=
  Claim7.holds_tied_plain_at .later [] _ _ _ _
    over (fun _ h => by cases h) (by kernel_rfl) (fun _ h => by cases h) fnNums_row_tie rfl ⟨rfl, rfl⟩ (by kernel_rfl) rfl
    (fun f fn hf hfn => by
      obtain rfl : f = 3 := Option.some.inj ((show Tryd.prog.funcNamed "loop.example/g00752/laws.FnNums" = some 3 by kernel_rfl).symm.trans hf) |>.symm
      obtain rfl : fn = Tryd.f3 := (Option.some.inj (Tryd.func3.symm.trans hfn)).symm
      exact ⟨by kernel_rfl, wants⟩)
    (by kernel_rfl)
#print axioms proved

end Go.Proofs.YtgbfndfjcolpjaaDoor.fnNums
