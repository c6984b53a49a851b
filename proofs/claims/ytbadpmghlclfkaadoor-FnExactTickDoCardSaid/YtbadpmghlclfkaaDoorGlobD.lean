/- The model's row of a glob: which pieces that begin at one place, and end at each, go with the parts. -/
import Derived.Test.YtbadpmghlclfkaaDoorGlobP
import Derived.Test.YtbadpmghlclfkaaDoorBlk
import Derived.Test.YtbadpmghlclfkaaDoorStill
import Derived.IntWalk
namespace Go.Proofs.YtbadpmghlclfkaaDoor
open Go.RowKit

/-- Cell k tells whether the parts mean the piece from fr to k. -/
def RowOf (t : List UInt8) (qs : List Pt) (fr : Nat) (L : List Bool) : Prop := L.length = t.length + 1 ∧ ∀ k, k ≤ t.length → (L[k]? = some true ↔ At t qs fr k)
/-- So far as the cells ahead of k; the others are still false. -/
def RowTo (t : List UInt8) (qs : List Pt) (fr k : Nat) (M : List Bool) : Prop :=
  M.length = t.length + 1 ∧ (∀ j, j < k → j ≤ t.length → (M[j]? = some true ↔ At t qs fr j)) ∧ ∀ j, k ≤ j → j ≤ t.length → M[j]? = some false
theorem RowOf.start (t : List UInt8) (fr : Nat) (h : fr ≤ t.length) : RowOf t [] fr ((List.replicate (t.length + 1) false).set fr true) := by
  refine ⟨by simp, fun k hk => ?_⟩
  rw [List.getElem?_set]
  by_cases e : fr = k
  · subst e; simp [At]; omega
  · rw [if_neg e, List.getElem?_replicate, if_pos (by omega)]
    exact ⟨fun h => by (cases h), fun h => (e h).elim⟩
theorem RowTo.start (t : List UInt8) (qs : List Pt) (fr : Nat) : RowTo t qs fr fr (List.replicate (t.length + 1) false) := by
  refine ⟨by simp, fun j hj hjl => ?_, fun j _ hjl => by rw [List.getElem?_replicate, if_pos (by omega)]⟩
  rw [List.getElem?_replicate, if_pos (by omega)]
  exact ⟨fun h => by (cases h), fun h => by have := at_le h; omega⟩
theorem RowTo.done {t : List UInt8} {qs : List Pt} {fr k : Nat} {M : List Bool} (h : RowTo t qs fr k M) (hk : t.length < k) : RowOf t qs fr M := ⟨h.1, fun j hj => h.2.1 j (by omega) hj⟩
theorem RowTo.put {t : List UInt8} {qs : List Pt} {fr k : Nat} {M : List Bool} {b : Bool} (h : RowTo t qs fr k M) (hk : k ≤ t.length) (hb : b = true ↔ At t qs fr k) : RowTo t qs fr (k + 1) (M.set k b) := by
  refine ⟨by simp [h.1], fun j hj hjl => ?_, fun j hj hjl => by rw [List.getElem?_set, if_neg (by omega)]; exact h.2.2 j (by omega) hjl⟩
  rw [List.getElem?_set]
  by_cases e : k = j
  · subst e; rw [if_pos rfl, if_pos (by rw [h.1]; omega), ← hb]; simp
  · rw [if_neg e]; exact h.2.1 j (by omega) hjl
theorem at_star {t : List UInt8} {qs : List Pt} {fr k : Nat} : At t (qs ++ [.star]) fr k ↔ At t qs fr k ∨ (fr < k ∧ At t (qs ++ [.star]) fr (k - 1)) := by
  constructor
  · intro h
    obtain ⟨j, h1, h2⟩ := at_append.1 h
    have hj := oneAt_le (at_one.1 h2)
    have hf := at_le h1
    by_cases e : j = k
    · subst e; exact .inl h1
    · exact .inr ⟨by omega, at_append.2 ⟨j, h1, at_one.2 (.inl ⟨rfl, by omega⟩)⟩⟩
  · rintro (h | ⟨hlt, h⟩)
    · exact at_append.2 ⟨k, h, at_one.2 (.inl ⟨rfl, Nat.le_refl _⟩)⟩
    · obtain ⟨j, h1, h2⟩ := at_append.1 h
      have hj := oneAt_le (at_one.1 h2)
      exact at_append.2 ⟨j, h1, at_one.2 (.inl ⟨rfl, by omega⟩)⟩
theorem at_solid_one {t : List UInt8} {qs : List Pt} {x : Pt} (hx : x.isStar = false) {fr k : Nat} : At t (qs ++ [x]) fr k ↔ fr < k ∧ At t qs fr (k - 1) ∧ ∃ c, t[k - 1]? = some c ∧ x.fits c = true := by
  constructor
  · intro h
    obtain ⟨j, h1, h2⟩ := at_append.1 h
    have hf := at_le h1
    rcases at_one.1 h2 with ⟨h3, _⟩ | ⟨_, rfl, c, hc, hcf⟩
    · rw [hx] at h3; cases h3
    · exact ⟨by omega, h1, c, hc, hcf⟩
  · rintro ⟨hlt, h1, c, hc, hcf⟩
    exact at_append.2 ⟨k - 1, h1, at_one.2 (.inr ⟨hx, by omega, c, hc, hcf⟩)⟩

/-- A row of parts that can be read. -/
def PartsIn (w : World) (v : Value) (ps : List Pt) : Prop :=
  ∃ A cap, v = .slice A ps.length cap ∧ ps.length ≤ 40 ∧ (0 < ps.length → ∃ g, A = some ⟨g, 0, none⟩ ∧ g < w.heap.size ∧ ∀ j, j < ps.length * 3 → w.cell? ⟨g, j, none⟩ = (ps.flatMap ptV)[j]?)
theorem OwnParts.in {w : World} {base : Nat} {v : Value} {ps : List Pt} (h : OwnParts w base v ps) (hl : ps.length ≤ 40) : PartsIn w v ps := by
  have h' := h
  rcases h.2 with ⟨rfl, h0⟩ | ⟨g, cap, cur, rfl, hb, hg, hnc, hcm, hcs, ht⟩
  · exact ⟨none, 0, by rw [h0], hl, fun h => by omega⟩
  · exact ⟨_, cap, rfl, hl, fun _ => ⟨g, rfl, lt_of_block hg, fun j hj => World.ownsRow.cellAt h' j hj⟩⟩
theorem PartsIn.below {w w' : World} {v : Value} {ps : List Pt} (h : PartsIn w v ps) (k : Below w.heap.size w w') : PartsIn w' v ps := by
  obtain ⟨A, cap, rfl, hl, h2⟩ := h
  refine ⟨A, cap, rfl, hl, fun h0 => ?_⟩
  obtain ⟨g, rfl, hg, hc⟩ := h2 h0
  exact ⟨g, rfl, Nat.lt_of_lt_of_le hg k.size, fun j hj => (World.cell?_of_block (a := ⟨g, j, none⟩) (k.block g hg)).trans (hc j hj)⟩
theorem flat_at (ps : List Pt) (j m : Nat) (hm : m < 3) : (ps.flatMap ptV)[j * 3 + m]? = match ps[j]? with | some x => (ptV x)[m]? | none => none := by
  induction ps generalizing j with
  | nil => simp
  | cons p ps ih =>
    rw [List.flatMap_cons]
    cases j with
    | zero => rw [List.getElem?_append_left (by rw [ptV_three]; omega)]; simp
    | succ j =>
      rw [List.getElem?_append_right (by rw [ptV_three]; omega), ptV_three, show (j + 1) * 3 + m - 3 = j * 3 + m by omega, ih j]
      simp
/-- The three cells of part j. -/
theorem PartsIn.three {w : World} {A : Option Addr} {n cap : Nat} {ps : List Pt} (h : PartsIn w (.slice A n cap) ps) (j : Nat) (hj : j < ps.length) :
    ∃ g, A = some ⟨g, 0, none⟩ ∧ g < w.heap.size ∧ ∃ a b c, ptV ps[j] = [a, b, c] ∧ w.cell? ⟨g, j * 3, none⟩ = some a ∧ w.cell? ⟨g, j * 3 + 1, none⟩ = some b ∧ w.cell? ⟨g, j * 3 + 2, none⟩ = some c := by
  obtain ⟨A', cap', e, hl, h2⟩ := h
  cases e
  obtain ⟨g, rfl, hg, hc⟩ := h2 (by omega)
  have hx : ps[j]? = some ps[j] := List.getElem?_eq_getElem hj
  obtain ⟨a, b, c, e⟩ : ∃ a b c, ptV ps[j] = [a, b, c] := by cases ps[j] <;> exact ⟨_, _, _, rfl⟩
  have f0 := flat_at ps j 0 (by omega)
  have f1 := flat_at ps j 1 (by omega)
  have f2 := flat_at ps j 2 (by omega)
  rw [hx] at f0 f1 f2
  simp only [e] at f0 f1 f2
  exact ⟨g, rfl, hg, a, b, c, e, (hc _ (by omega)).trans f0, (hc _ (by omega)).trans f1, (hc _ (by omega)).trans f2⟩
theorem Tryd.info4 : (Tryd.prog.info? 4).map (fun i => (i.zero, i.size, i.bytes)) = some (some (.bool false), 1, 1) := by kernel_rfl
/-- A row of bools: a block known whole. -/
def Bools (w : World) (g : Nat) (L : List Bool) : Prop := Blk w g 4 (L.map .bool)
theorem Bools.at_ {w : World} {g : Nat} {L : List Bool} (h : Bools w g L) (k : Nat) {b : Bool} (hb : L[k]? = some b) : w.cell? ⟨g, k, none⟩ = some (.bool b) := by
  rw [Blk.cell? h, List.getElem?_map, hb]; rfl
theorem Bools.set {w : World} {g : Nat} {L : List Bool} (h : Bools w g L) (k : Nat) (b : Bool) : Bools (w.setCell ⟨g, k, none⟩ (.bool b)) g (L.set k b) := by
  unfold Bools
  rw [List.map_set]
  exact Blk.set h k _
theorem Bools.made {w : World} {g n : Nat} (h : Blk w g 4 (List.replicate n (.bool false))) : Bools w g (List.replicate n false) := by
  unfold Bools; rw [List.map_replicate]; exact h
theorem bool_at {L : List Bool} {k : Nat} (h : k < L.length) : ∃ b, L[k]? = some b := ⟨_, List.getElem?_eq_getElem h⟩

theorem Trio.other {w : World} {g g' : Nat} {t : TypeId} {x y z : Value} (h : Trio w g t x y z) (hne : g ≠ g') (j : Nat) (u : Value) : Trio (w.setCell ⟨g', j, none⟩ u) g t x y z :=
  (Below.heap_setCell w ⟨g', j, none⟩ u g hne).trans h

def RowEnd (t : List UInt8) (ps : List Pt) (fr : Nat) (w0 w' : World) (e : Ending) : Prop :=
  ∃ g L, e = .returned (.slice (some ⟨g, 0, none⟩) (t.length + 1) (t.length + 1)) ∧ Bools w' g L ∧ RowOf t ps fr L ∧ w0.heap.size ≤ g

set_option maxRecDepth 20000 in
set_option maxHeartbeats 4000000 in
theorem specFrom_any (v : Value) (ps : List Pt) (s : ByteArray) (fr : Nat) (w : World) (hv : PartsIn w v ps) (hs : s.size ≤ 8000) (hfr : fr ≤ s.size) :
    Calls Tryd.prog 124 #[v, .string s, .int .i64 (fr : Int)] w fun e w' => RowEnd s.data.toList ps fr w w' e ∧ Below w.heap.size w w' := by
  obtain ⟨i0, hi, hz0, hz1, hz2⟩ := info_parts Tryd.info4
  have hsz := Lib.hid (size_data s)
  obtain ⟨A, cap, rfl, hpl, hv3⟩ := hv
  have hv : PartsIn w (.slice A ps.length cap) ps := ⟨A, cap, rfl, hpl, hv3⟩
  clear hv3
  have hv := Lib.hid hv
  go_enter Tryd.func124, Tryd.ntmps124
  go_wp2_with (at_make; refine wpList_make_blk2 rfl (.tmp 14) (.tmp 14) 148 rfl w.heap.size 4 i0 _ 1 Tryd.underlying148 hi hz0 hz1 hz2 rfl _ _ _ _ (s.size + 1) rfl rfl rfl rfl (by omega) (by omega) (Below.refl _ _) (Nat.le_refl _) ?_; intro w1 hr1 hb1 hg1; have hm1 := Lib.hid (Bools.made hr1); have hc1 := (Bools.made hr1).at_ fr (b := false) (by rw [List.getElem?_replicate, if_pos (by omega)]); have hf1 := Blk.free hr1 fr; have hz1' := Blk.lt hr1; replace hb1 := Lib.hid hb1; clear hr1 hg1)
  have hm2 := Lib.hid (hm1.out.set fr true)
  have hb2 := Lib.hid (hb1.out.setCell (p := ⟨w.heap.size, fr, none⟩) (Nat.le_refl _) (.bool true))
  clear hm1 hc1 hf1 hb1
  go_loopw [7, 8] (fun v i wr => ∃ (j g : Nat) (L : List Bool), j ≤ ps.length ∧ i = .int .i64 (j : Int) ∧ v = .slice (some ⟨g, 0, none⟩) (s.size + 1) (s.size + 1) ∧ Hid (Bools wr g L) ∧ Hid (RowOf s.data.toList (ps.take j) fr L) ∧ w.heap.size ≤ g ∧ Hid (Below w.heap.size w wr)) (fun _ i _ => ps.length - (intOf i).toNat)
  case atStart => exact ⟨0, w.heap.size, _, Nat.zero_le _, rfl, rfl, hm2, Lib.hid (by have := RowOf.start s.data.toList fr (by rw [hsz.out]; exact hfr); rw [hsz.out] at this; rw [List.take_zero]; exact this), Nat.le_refl _, hb2⟩
  case round =>
    obtain ⟨j, g, L, hj, rfl, rfl, hL, hRow, hgw, hb⟩ := hrel
    have hbs := hb.out.size
    by_cases hlt : j < ps.length
    · obtain ⟨wo, rfl⟩ : ∃ wo : World, wo = wr := ⟨_, rfl⟩
      have hgl : g < wo.heap.size := Blk.lt hL.out
      rcases hx : ps[j] with _ | _ | d
      · -- star
        go_wp2_with (at_make; refine wpList_make_blk2 rfl (.tmp 27) (.tmp 27) 148 rfl w.heap.size 4 i0 _ 1 Tryd.underlying148 hi hz0 hz1 hz2 rfl _ _ _ _ (s.size + 1) rfl rfl rfl rfl (by omega) (by omega) hb.out hbs ?_; intro w2 hr3 hb3 hg3; have hM := Lib.hid (Bools.made hr3); replace hL := Lib.hid (show Bools w2 g L from Blk.grown hL.out hg3); have hz3 := Blk.lt hr3; obtain ⟨gp, rfl, hgp, a, b, c, e1, k0, k1, k2⟩ := (hv.out.below hb3).three j hlt; rw [hx] at e1; cases e1; replace hb3 := Lib.hid hb3; clear hr3 hg3)
        have hP : Hid (ps.take j ++ [.star] = ps.take (j + 1)) := Lib.hid (by rw [List.take_succ_eq_append_getElem hlt, hx])
        have hB := Lib.hid (Trio.new w2 147 (.bool true) (.bool false) (.int .u8 0))
        replace hb3 := Lib.hid (hb3.out.alloc hb3.out.size (.cells #[(.bool true), (.bool false), (.int .u8 0)] 147))
        replace hM := Lib.hid (Blk.alloc hM.out (.cells #[(.bool true), (.bool false), (.int .u8 0)] 147))
        replace hL := Lib.hid (Blk.alloc hL.out (.cells #[(.bool true), (.bool false), (.int .u8 0)] 147))
        clear k0 k1 k2
        go_loopw [11] (fun i wi => ∃ (k : Nat) (M : List Bool), fr ≤ k ∧ k ≤ s.size + 1 ∧ i = .int .i64 (k : Int) ∧ Hid (Bools wi wo.heap.size M) ∧ Hid (Bools wi g L) ∧ Hid (Trio wi w2.heap.size 147 (.bool true) (.bool false) (.int .u8 0)) ∧ Hid (RowTo s.data.toList (ps.take j ++ [.star]) fr k M) ∧ Hid (Below w.heap.size w wi)) (fun i _ => s.size + 1 - (intOf i).toNat)
        case atStart => exact ⟨fr, _, Nat.le_refl _, by omega, rfl, hM, hL, hB, Lib.hid (by have := RowTo.start s.data.toList (ps.take j ++ [.star]) fr; rw [hsz.out] at this; exact this), hb3⟩
        case round =>
          clear hM hL hB hb3
          obtain ⟨k, M, hfk, hkn, rfl, hM, hL, hB, hTo, hb3⟩ := hrel
          obtain ⟨b0, b1, b2, -, -, -⟩ := hB.out.facts
          have hbs3 := Lib.hid hb3.out.size
          by_cases hk : k ≤ s.size
          · have hM0 := Lib.hid (hTo.out.2.2 k (Nat.le_refl _) (by rw [hsz.out]; exact hk))
            have hcM := hM.out.at_ k hM0.out
            have hfM := Blk.free hM.out k
            obtain ⟨bA, hA⟩ := bool_at (L := L) (k := k) (by rw [hRow.out.1, hsz.out]; omega)
            have hcL := hL.out.at_ k hA
            have hA := Lib.hid hA
            cases bA
            · by_cases hlk : fr < k
              · obtain ⟨bN, hN⟩ := bool_at (L := M) (k := k - 1) (by rw [hTo.out.1, hsz.out]; omega)
                have hcN := hM.out.at_ (k - 1) hN
                have hN := Lib.hid hN
                have hput := Lib.hid (hTo.out.put (b := bN) (by rw [hsz.out]; exact hk) (by rw [at_star, ← (hRow.out.2 k (by rw [hsz.out]; exact hk)), hA.out, ← (hTo.out.2.1 (k - 1) (by omega) (by rw [hsz.out]; omega)), hN.out]; simp [hlk]))
                go_wp2
                go_roundw
                case rel => exact ⟨k + 1, _, by omega, by omega, by go_num, Lib.hid (hM.out.set k bN), Lib.hid (Blk.setOther hL.out (by omega) k _), Lib.hid (Trio.other hB.out (by omega) k _), hput, Lib.hid ((hb3.out.setCell (p := ⟨wo.heap.size, k, none⟩) hbs _))⟩
                case measure => simp [intOf]; omega
              · have hlk' : ¬ (fr : Int) < (k : Int) := by omega
                have hput := Lib.hid (hTo.out.put (b := false) (by rw [hsz.out]; exact hk) (by rw [at_star, ← (hRow.out.2 k (by rw [hsz.out]; exact hk)), hA.out]; simp [hlk]))
                go_wp2
                go_roundw
                case rel => exact ⟨k + 1, _, by omega, by omega, by go_num, Lib.hid (hM.out.set k false), Lib.hid (Blk.setOther hL.out (by omega) k _), Lib.hid (Trio.other hB.out (by omega) k _), hput, Lib.hid ((hb3.out.setCell (p := ⟨wo.heap.size, k, none⟩) hbs _))⟩
                case measure => simp [intOf]; omega
            · have hput := Lib.hid (hTo.out.put (b := true) (by rw [hsz.out]; exact hk) (by rw [at_star, ← (hRow.out.2 k (by rw [hsz.out]; exact hk)), hA.out]; simp))
              go_wp2
              go_roundw
              case rel => exact ⟨k + 1, _, by omega, by omega, by go_num, Lib.hid (hM.out.set k true), Lib.hid (Blk.setOther hL.out (by omega) k _), Lib.hid (Trio.other hB.out (by omega) k _), hput, Lib.hid ((hb3.out.setCell (p := ⟨wo.heap.size, k, none⟩) hbs _))⟩
              case measure => simp [intOf]; omega
          · have hD := Lib.hid (hTo.out.done (by rw [hsz.out]; omega))
            have hgt : (s.size : Int) < (k : Int) := by omega
            go_wp2
            go_roundw
            case rel => exact ⟨j + 1, wo.heap.size, M, by omega, by go_num, rfl, hM, Lib.hid (by rw [← hP.out]; exact hD.out), hbs, hb3⟩
            case measure => simp [intOf]; omega
      · -- any
        go_wp2_with (at_make; refine wpList_make_blk2 rfl (.tmp 27) (.tmp 27) 148 rfl w.heap.size 4 i0 _ 1 Tryd.underlying148 hi hz0 hz1 hz2 rfl _ _ _ _ (s.size + 1) rfl rfl rfl rfl (by omega) (by omega) hb.out hbs ?_; intro w2 hr3 hb3 hg3; have hM := Lib.hid (Bools.made hr3); replace hL := Lib.hid (show Bools w2 g L from Blk.grown hL.out hg3); have hz3 := Blk.lt hr3; obtain ⟨gp, rfl, hgp, a, b, c, e1, k0, k1, k2⟩ := (hv.out.below hb3).three j hlt; rw [hx] at e1; cases e1; replace hb3 := Lib.hid hb3; clear hr3 hg3)
        have hP : Hid (ps.take j ++ [.any] = ps.take (j + 1)) := Lib.hid (by rw [List.take_succ_eq_append_getElem hlt, hx])
        have hB := Lib.hid (Trio.new w2 147 (.bool false) (.bool true) (.int .u8 0))
        replace hb3 := Lib.hid (hb3.out.alloc hb3.out.size (.cells #[(.bool false), (.bool true), (.int .u8 0)] 147))
        replace hM := Lib.hid (Blk.alloc hM.out (.cells #[(.bool false), (.bool true), (.int .u8 0)] 147))
        replace hL := Lib.hid (Blk.alloc hL.out (.cells #[(.bool false), (.bool true), (.int .u8 0)] 147))
        clear k0 k1 k2
        go_loopw [11] (fun i wi => ∃ (k : Nat) (M : List Bool), fr ≤ k ∧ k ≤ s.size + 1 ∧ i = .int .i64 (k : Int) ∧ Hid (Bools wi wo.heap.size M) ∧ Hid (Bools wi g L) ∧ Hid (Trio wi w2.heap.size 147 (.bool false) (.bool true) (.int .u8 0)) ∧ Hid (RowTo s.data.toList (ps.take j ++ [.any]) fr k M) ∧ Hid (Below w.heap.size w wi)) (fun i _ => s.size + 1 - (intOf i).toNat)
        case atStart => exact ⟨fr, _, Nat.le_refl _, by omega, rfl, hM, hL, hB, Lib.hid (by have := RowTo.start s.data.toList (ps.take j ++ [.any]) fr; rw [hsz.out] at this; exact this), hb3⟩
        case round =>
          clear hM hL hB hb3
          obtain ⟨k, M, hfk, hkn, rfl, hM, hL, hB, hTo, hb3⟩ := hrel
          obtain ⟨b0, b1, b2, -, -, -⟩ := hB.out.facts
          have hbs3 := Lib.hid hb3.out.size
          by_cases hk : k ≤ s.size
          · have hM0 := Lib.hid (hTo.out.2.2 k (Nat.le_refl _) (by rw [hsz.out]; exact hk))
            have hcM := hM.out.at_ k hM0.out
            have hfM := Blk.free hM.out k
            obtain ⟨bA, hA⟩ := bool_at (L := L) (k := k) (by rw [hRow.out.1, hsz.out]; omega)
            have hcL := hL.out.at_ k hA
            have hA := Lib.hid hA
            clear hcL
            by_cases hlk : fr < k
            · obtain ⟨bP, hQ⟩ := bool_at (L := L) (k := k - 1) (by rw [hRow.out.1, hsz.out]; omega)
              have hcP := hL.out.at_ (k - 1) hQ
              have hQ := Lib.hid hQ
              cases bP
              · have hput := Lib.hid (hTo.out.put (b := false) (by rw [hsz.out]; exact hk) (by rw [at_solid_one rfl, ← (hRow.out.2 (k - 1) (by rw [hsz.out]; omega)), hQ.out]; simp))
                go_wp2
                have hw1 : IntKind.i64.wrap ((k : Int) - 1) = (k : Int) - 1 := IntWalk.i64_in _ (by omega)
                have hw2 : (0 : Int) ≤ (k : Int) - 1 := by omega
                have hw6 : (1 : Int) ≤ (k : Int) := by omega
                have hw3 : ((k : Int) - 1).toNat = k - 1 := by omega
                have hw4 : (k : Int) - 1 < (s.size : Int) + 1 := by omega
                have hw5 : (k : Int) - 1 < (s.size : Int) := by omega
                refine wp_region_still_tail 26 (by kernel_rfl) (by kernel_rfl) ?_
                simp only [List.take_succ_cons, List.take_zero, List.drop_succ_cons, List.drop_zero]
                refine wpStill_of_quiet ?_
                repeat (go_big_quiet_step (fail))
                refine wpQuiet_nil ?_
                clear hw1 hw2 hw3 hw4 hw5 hw6
                change wpList _ _ _ _ _ wr.drew
                go_wp2
                go_roundw
                case rel => exact ⟨k + 1, _, by omega, by omega, by go_num, Lib.hid (hM.out.set k false), Lib.hid (Blk.setOther hL.out (by omega) k _), Lib.hid (Trio.other hB.out (by omega) k _), hput, Lib.hid ((hb3.out.setCell (p := ⟨wo.heap.size, k, none⟩) hbs _).drew)⟩
                case measure => simp [intOf]; omega
              · have hput := Lib.hid (hTo.out.put (b := true) (by rw [hsz.out]; exact hk) (by rw [at_solid_one rfl, ← (hRow.out.2 (k - 1) (by rw [hsz.out]; omega)), hQ.out]; rw [toList_at s (k - 1) (by omega)]; simp [hlk, Pt.fits]))
                go_wp2
                have hw1 : IntKind.i64.wrap ((k : Int) - 1) = (k : Int) - 1 := IntWalk.i64_in _ (by omega)
                have hw2 : (0 : Int) ≤ (k : Int) - 1 := by omega
                have hw6 : (1 : Int) ≤ (k : Int) := by omega
                have hw3 : ((k : Int) - 1).toNat = k - 1 := by omega
                have hw4 : (k : Int) - 1 < (s.size : Int) + 1 := by omega
                have hw5 : (k : Int) - 1 < (s.size : Int) := by omega
                refine wp_region_still_tail 26 (by kernel_rfl) (by kernel_rfl) ?_
                simp only [List.take_succ_cons, List.take_zero, List.drop_succ_cons, List.drop_zero]
                refine wpStill_of_quiet ?_
                repeat (go_big_quiet_step (fail))
                refine wpQuiet_nil ?_
                clear hw1 hw2 hw3 hw4 hw5 hw6
                change wpList _ _ _ _ _ wr.drew
                go_wp2
                go_roundw
                case rel => exact ⟨k + 1, _, by omega, by omega, by go_num, Lib.hid (hM.out.set k true), Lib.hid (Blk.setOther hL.out (by omega) k _), Lib.hid (Trio.other hB.out (by omega) k _), hput, Lib.hid ((hb3.out.setCell (p := ⟨wo.heap.size, k, none⟩) hbs _).drew)⟩
                case measure => simp [intOf]; omega
            · have hlk' : ¬ (fr : Int) < (k : Int) := by omega
              have hput := Lib.hid (hTo.out.put (b := false) (by rw [hsz.out]; exact hk) (by rw [at_solid_one rfl]; simp [hlk]))
              go_wp2
              refine wp_region_still_tail 26 (by kernel_rfl) (by kernel_rfl) ?_
              simp only [List.take_succ_cons, List.take_zero, List.drop_succ_cons, List.drop_zero]
              refine wpStill_of_quiet ?_
              repeat (go_big_quiet_step (fail))
              refine wpQuiet_nil ?_
              change wpList _ _ _ _ _ wr.drew
              go_wp2
              go_roundw
              case rel => exact ⟨k + 1, _, by omega, by omega, by go_num, Lib.hid (hM.out.set k false), Lib.hid (Blk.setOther hL.out (by omega) k _), Lib.hid (Trio.other hB.out (by omega) k _), hput, Lib.hid ((hb3.out.setCell (p := ⟨wo.heap.size, k, none⟩) hbs _).drew)⟩
              case measure => simp [intOf]; omega
          · have hD := Lib.hid (hTo.out.done (by rw [hsz.out]; omega))
            have hgt : (s.size : Int) < (k : Int) := by omega
            go_wp2
            go_roundw
            case rel => exact ⟨j + 1, wo.heap.size, M, by omega, by go_num, rfl, hM, Lib.hid (by rw [← hP.out]; exact hD.out), hbs, hb3⟩
            case measure => simp [intOf]; omega
      · -- byte
        go_wp2_with (at_make; refine wpList_make_blk2 rfl (.tmp 27) (.tmp 27) 148 rfl w.heap.size 4 i0 _ 1 Tryd.underlying148 hi hz0 hz1 hz2 rfl _ _ _ _ (s.size + 1) rfl rfl rfl rfl (by omega) (by omega) hb.out hbs ?_; intro w2 hr3 hb3 hg3; have hM := Lib.hid (Bools.made hr3); replace hL := Lib.hid (show Bools w2 g L from Blk.grown hL.out hg3); have hz3 := Blk.lt hr3; obtain ⟨gp, rfl, hgp, a, b, c, e1, k0, k1, k2⟩ := (hv.out.below hb3).three j hlt; rw [hx] at e1; cases e1; replace hb3 := Lib.hid hb3; clear hr3 hg3)
        have hP : Hid (ps.take j ++ [.byte d] = ps.take (j + 1)) := Lib.hid (by rw [List.take_succ_eq_append_getElem hlt, hx])
        have hB := Lib.hid (Trio.new w2 147 (.bool false) (.bool false) (.int .u8 (d.toNat : Int)))
        replace hb3 := Lib.hid (hb3.out.alloc hb3.out.size (.cells #[(.bool false), (.bool false), (.int .u8 (d.toNat : Int))] 147))
        replace hM := Lib.hid (Blk.alloc hM.out (.cells #[(.bool false), (.bool false), (.int .u8 (d.toNat : Int))] 147))
        replace hL := Lib.hid (Blk.alloc hL.out (.cells #[(.bool false), (.bool false), (.int .u8 (d.toNat : Int))] 147))
        clear k0 k1 k2
        go_loopw [11] (fun i wi => ∃ (k : Nat) (M : List Bool), fr ≤ k ∧ k ≤ s.size + 1 ∧ i = .int .i64 (k : Int) ∧ Hid (Bools wi wo.heap.size M) ∧ Hid (Bools wi g L) ∧ Hid (Trio wi w2.heap.size 147 (.bool false) (.bool false) (.int .u8 (d.toNat : Int))) ∧ Hid (RowTo s.data.toList (ps.take j ++ [.byte d]) fr k M) ∧ Hid (Below w.heap.size w wi)) (fun i _ => s.size + 1 - (intOf i).toNat)
        case atStart => exact ⟨fr, _, Nat.le_refl _, by omega, rfl, hM, hL, hB, Lib.hid (by have := RowTo.start s.data.toList (ps.take j ++ [.byte d]) fr; rw [hsz.out] at this; exact this), hb3⟩
        case round =>
          clear hM hL hB hb3
          obtain ⟨k, M, hfk, hkn, rfl, hM, hL, hB, hTo, hb3⟩ := hrel
          obtain ⟨b0, b1, b2, -, -, -⟩ := hB.out.facts
          have hbs3 := Lib.hid hb3.out.size
          by_cases hk : k ≤ s.size
          · have hM0 := Lib.hid (hTo.out.2.2 k (Nat.le_refl _) (by rw [hsz.out]; exact hk))
            have hcM := hM.out.at_ k hM0.out
            have hfM := Blk.free hM.out k
            obtain ⟨bA, hA⟩ := bool_at (L := L) (k := k) (by rw [hRow.out.1, hsz.out]; omega)
            have hcL := hL.out.at_ k hA
            have hA := Lib.hid hA
            clear hcL
            by_cases hlk : fr < k
            · obtain ⟨bP, hQ⟩ := bool_at (L := L) (k := k - 1) (by rw [hRow.out.1, hsz.out]; omega)
              have hcP := hL.out.at_ (k - 1) hQ
              have hQ := Lib.hid hQ
              cases bP
              · have hput := Lib.hid (hTo.out.put (b := false) (by rw [hsz.out]; exact hk) (by rw [at_solid_one rfl, ← (hRow.out.2 (k - 1) (by rw [hsz.out]; omega)), hQ.out]; simp))
                go_wp2
                have hw1 : IntKind.i64.wrap ((k : Int) - 1) = (k : Int) - 1 := IntWalk.i64_in _ (by omega)
                have hw2 : (0 : Int) ≤ (k : Int) - 1 := by omega
                have hw6 : (1 : Int) ≤ (k : Int) := by omega
                have hw3 : ((k : Int) - 1).toNat = k - 1 := by omega
                have hw4 : (k : Int) - 1 < (s.size : Int) + 1 := by omega
                have hw5 : (k : Int) - 1 < (s.size : Int) := by omega
                refine wp_region_still_tail 26 (by kernel_rfl) (by kernel_rfl) ?_
                simp only [List.take_succ_cons, List.take_zero, List.drop_succ_cons, List.drop_zero]
                refine wpStill_of_quiet ?_
                repeat (go_big_quiet_step (fail))
                refine wpQuiet_nil ?_
                clear hw1 hw2 hw3 hw4 hw5 hw6
                change wpList _ _ _ _ _ wr.drew
                go_wp2
                go_roundw
                case rel => exact ⟨k + 1, _, by omega, by omega, by go_num, Lib.hid (hM.out.set k false), Lib.hid (Blk.setOther hL.out (by omega) k _), Lib.hid (Trio.other hB.out (by omega) k _), hput, Lib.hid ((hb3.out.setCell (p := ⟨wo.heap.size, k, none⟩) hbs _).drew)⟩
                case measure => simp [intOf]; omega
              · have hkp : k - 1 < s.size := by omega
                by_cases hc : s[k - 1] = d
                · have hcc : ((s[k - 1].toNat : Int) == (d.toNat : Int)) = true := by rw [byte_same, hc]; simp
                  have hc := Lib.hid hc
                  have hput := Lib.hid (hTo.out.put (b := true) (by rw [hsz.out]; exact hk) (by rw [at_solid_one rfl, ← (hRow.out.2 (k - 1) (by rw [hsz.out]; omega)), hQ.out]; rw [toList_at s (k - 1) (by omega), hc.out]; simp [hlk, Pt.fits]))
                  go_wp2
                  have hw1 : IntKind.i64.wrap ((k : Int) - 1) = (k : Int) - 1 := IntWalk.i64_in _ (by omega)
                  have hw2 : (0 : Int) ≤ (k : Int) - 1 := by omega
                  have hw6 : (1 : Int) ≤ (k : Int) := by omega
                  have hw3 : ((k : Int) - 1).toNat = k - 1 := by omega
                  have hw4 : (k : Int) - 1 < (s.size : Int) + 1 := by omega
                  have hw5 : (k : Int) - 1 < (s.size : Int) := by omega
                  refine wp_region_still_tail 26 (by kernel_rfl) (by kernel_rfl) ?_
                  simp only [List.take_succ_cons, List.take_zero, List.drop_succ_cons, List.drop_zero]
                  refine wpStill_of_quiet ?_
                  repeat (go_big_quiet_step (fail))
                  refine wpQuiet_nil ?_
                  generalize (s[k - 1]'hkp).toNat = q80
                  clear hw1 hw2 hw3 hw4 hw5 hw6
                  change wpList _ _ _ _ _ wr.drew
                  go_wp2
                  go_roundw
                  case rel => exact ⟨k + 1, _, by omega, by omega, by go_num, Lib.hid (hM.out.set k true), Lib.hid (Blk.setOther hL.out (by omega) k _), Lib.hid (Trio.other hB.out (by omega) k _), hput, Lib.hid ((hb3.out.setCell (p := ⟨wo.heap.size, k, none⟩) hbs _).drew)⟩
                  case measure => simp [intOf]; omega
                · have hcc : ((s[k - 1].toNat : Int) == (d.toNat : Int)) = false := by rw [byte_same]; simpa using hc
                  have hc := Lib.hid hc
                  have hput := Lib.hid (hTo.out.put (b := false) (by rw [hsz.out]; exact hk) (by rw [at_solid_one rfl, ← (hRow.out.2 (k - 1) (by rw [hsz.out]; omega)), hQ.out]; rw [toList_at s (k - 1) (by omega)]; simp [Pt.fits]; exact fun _ h => hc.out h))
                  go_wp2
                  have hw1 : IntKind.i64.wrap ((k : Int) - 1) = (k : Int) - 1 := IntWalk.i64_in _ (by omega)
                  have hw2 : (0 : Int) ≤ (k : Int) - 1 := by omega
                  have hw6 : (1 : Int) ≤ (k : Int) := by omega
                  have hw3 : ((k : Int) - 1).toNat = k - 1 := by omega
                  have hw4 : (k : Int) - 1 < (s.size : Int) + 1 := by omega
                  have hw5 : (k : Int) - 1 < (s.size : Int) := by omega
                  refine wp_region_still_tail 26 (by kernel_rfl) (by kernel_rfl) ?_
                  simp only [List.take_succ_cons, List.take_zero, List.drop_succ_cons, List.drop_zero]
                  refine wpStill_of_quiet ?_
                  repeat (go_big_quiet_step (fail))
                  refine wpQuiet_nil ?_
                  generalize (s[k - 1]'hkp).toNat = q80
                  clear hw1 hw2 hw3 hw4 hw5 hw6
                  change wpList _ _ _ _ _ wr.drew
                  go_wp2
                  go_roundw
                  case rel => exact ⟨k + 1, _, by omega, by omega, by go_num, Lib.hid (hM.out.set k false), Lib.hid (Blk.setOther hL.out (by omega) k _), Lib.hid (Trio.other hB.out (by omega) k _), hput, Lib.hid ((hb3.out.setCell (p := ⟨wo.heap.size, k, none⟩) hbs _).drew)⟩
                  case measure => simp [intOf]; omega
            · have hlk' : ¬ (fr : Int) < (k : Int) := by omega
              have hput := Lib.hid (hTo.out.put (b := false) (by rw [hsz.out]; exact hk) (by rw [at_solid_one rfl]; simp [hlk]))
              go_wp2
              refine wp_region_still_tail 26 (by kernel_rfl) (by kernel_rfl) ?_
              simp only [List.take_succ_cons, List.take_zero, List.drop_succ_cons, List.drop_zero]
              refine wpStill_of_quiet ?_
              repeat (go_big_quiet_step (fail))
              refine wpQuiet_nil ?_
              change wpList _ _ _ _ _ wr.drew
              go_wp2
              go_roundw
              case rel => exact ⟨k + 1, _, by omega, by omega, by go_num, Lib.hid (hM.out.set k false), Lib.hid (Blk.setOther hL.out (by omega) k _), Lib.hid (Trio.other hB.out (by omega) k _), hput, Lib.hid ((hb3.out.setCell (p := ⟨wo.heap.size, k, none⟩) hbs _).drew)⟩
              case measure => simp [intOf]; omega
          · have hD := Lib.hid (hTo.out.done (by rw [hsz.out]; omega))
            have hgt : (s.size : Int) < (k : Int) := by omega
            go_wp2
            go_roundw
            case rel => exact ⟨j + 1, wo.heap.size, M, by omega, by go_num, rfl, hM, Lib.hid (by rw [← hP.out]; exact hD.out), hbs, hb3⟩
            case measure => simp [intOf]; omega
    · obtain rfl : j = ps.length := by omega
      have hR := Lib.hid (show RowOf s.data.toList ps fr L by have := hRow.out; rw [List.take_length] at this; exact this)
      go_wp2
      go_ret
      exact ⟨⟨g, L, by rw [hsz.out]; rfl, hL.out, hR.out, hgw⟩, hb.out⟩
end Go.Proofs.YtbadpmghlclfkaaDoor
