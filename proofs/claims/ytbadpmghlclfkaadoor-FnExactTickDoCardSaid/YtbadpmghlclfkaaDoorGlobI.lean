/- The program's iterator over the pieces of a text that a glob means: one walk along the text, with a place to come back to. -/
import Derived.Test.YtbadpmghlclfkaaDoorGlobT
import Derived.Test.YtbadpmghlclfkaaDoorGlobS
import Derived.Test.YtbadpmghlclfkaaDoorLabels
import Derived.RangeFuncNested
import Derived.RangeFuncBound
import Derived.RangeFuncLeaves
import Derived.Shelf.Abstract
import Derived.Shelf.RegionOpen
import Derived.OwnWalkIn
import Derived.TacticsInMore
import Derived.LoopNIn
import Derived.LoopIn
import Derived.BigQuiet
namespace Go.Proofs.YtbadpmghlclfkaaDoor
open Go.RowKit Go.Shelf
attribute [local go_sem] Oper.semAt_some

/-- All have come; a part has come. -/
def CameS (pl tl : List UInt8) (xs : List (Nat × Nat)) : Prop := (globOk pl = true ∧ tl.length ≤ 8000 → ∃ ps, parts pl = some ps ∧ AllCame tl ps xs) ∧ (¬ (globOk pl = true ∧ tl.length ≤ 8000) → xs = [])
def CameP (pl tl : List UInt8) (xs : List (Nat × Nat)) : Prop := (globOk pl = true ∧ tl.length ≤ 8000) ∧ ∃ ps, parts pl = some ps ∧ PartCame tl ps xs
def spanE (x : Nat × Nat) : Value := .agg #[.int .i64 (x.1 : Int), .int .i64 (x.2 : Int), .bool true]
def spanEs (x : Nat × Nat) : Array Value := #[.agg #[.int .i64 (x.1 : Int), .int .i64 (x.2 : Int), .bool true]]

/-- What a round keeps. -/
def KeepB (b1 b2 : Nat) (W W' : World) : Prop := W'.heap[b1]? = W.heap[b1]? ∧ W'.heap[b2]? = W.heap[b2]?
/-- The two boxes that the iterator has captured. -/
def Boxes (Bt Bp : Nat) (p t : ByteArray) (W : World) : Prop := W.cell? ⟨Bt, 0, none⟩ = some (.string t) ∧ W.cell? ⟨Bp, 0, none⟩ = some (.string p)
/-- Ahead of what stands at i of the glob. -/
def LookAt (pl tl : List UInt8) (ps : List Pt) (pre : List (Nat × Nat)) (fr at_ i ag bk : Nat) (rest B : List Pt) : Prop :=
  parts (pl.drop i) = some rest ∧ i ≤ pl.length ∧ parts (pl.drop bk) = some B ∧ bk ≤ pl.length ∧ pre.length ≤ ag ∧ ag ≤ tl.length ∧ fr ≤ tl.length ∧ Try tl ps pre fr at_ ag bk rest B
/-- Ahead of the next try. -/
def BackAt (pl tl : List UInt8) (ps : List Pt) (pre : List (Nat × Nat)) (fr ag bk : Nat) (B : List Pt) : Prop :=
  parts (pl.drop bk) = some B ∧ bk ≤ pl.length ∧ pre.length ≤ ag + 1 ∧ ag ≤ tl.length ∧ fr ≤ tl.length ∧ CoreNext tl ps pre fr ag bk B
theorem BackAt.next {pl tl : List UInt8} {ps : List Pt} {pre : List (Nat × Nat)} {fr ag bk : Nat} {B : List Pt} (h : BackAt pl tl ps pre fr ag bk B) (hl : ag < tl.length) :
    LookAt pl tl ps pre (if bk = 0 then ag + 1 else fr) (ag + 1) bk (ag + 1) bk B B := by
  obtain ⟨h1, h2, h3, h4, h5, h6⟩ := h
  exact ⟨h1, h2, h1, h2, h3, hl, by split <;> omega, Core.next h6 hl⟩
/-- What holds at the labels: 1: look; 2: star; 0: found; 3: comeBack. -/
def IJ (l Bt Bp : Nat) (p t : ByteArray) (ps : List Pt) (J : List (Nat × Nat) → World → Prop) : Nat → Act → World → Prop
  | 1, a, W => Boxes Bt Bp p t W ∧ ∃ (fr at_ i ag bk : Nat) (pre : List (Nat × Nat)) (rest B : List Pt) (u3 u9 u10 u11 u12 u13 u14 u15 u16 u17 u18 u19 u20 u21 u22 u23 u24 u25 u26 u27 u28 u29 u30 u31 u32 u33 u34 u35 u36 u37 u38 u39 u40 u41 u42 u43 u44 u45 u46 u47 u48 u49 u50 u51 u52 u53 u54 u55 u56 u57 u58 u59 u60 u61 : Value), a = { tmps := #[.func (.yield l) #[] #[], .pointer (some ⟨Bt, 0, none⟩), .pointer (some ⟨Bp, 0, none⟩), u3, .int .i64 (fr : Int), .int .i64 (at_ : Int), .int .i64 (i : Int), .int .i64 (ag : Int), .int .i64 (bk : Int), u9, u10, u11, u12, u13, u14, u15, u16, u17, u18, u19, u20, u21, u22, u23, u24, u25, u26, u27, u28, u29, u30, u31, u32, u33, u34, u35, u36, u37, u38, u39, u40, u41, u42, u43, u44, u45, u46, u47, u48, u49, u50, u51, u52, u53, u54, u55, u56, u57, u58, u59, u60, u61], defers := [] } ∧ Hid (J pre W) ∧ Hid (LookAt p.data.toList t.data.toList ps pre fr at_ i ag bk rest B)
  | 2, a, W => Boxes Bt Bp p t W ∧ ∃ (fr at_ i ag bk : Nat) (pre : List (Nat × Nat)) (rest B : List Pt) (u3 u9 u10 u11 u12 u13 u14 u15 u16 u17 u18 u19 u20 u21 u22 u23 u24 u25 u26 u27 u28 u29 u30 u31 u32 u33 u34 u35 u36 u37 u38 u39 u40 u41 u42 u43 u44 u45 u46 u47 u48 u49 u50 u51 u52 u53 u54 u55 u56 u57 u58 u59 u60 u61 : Value), a = { tmps := #[.func (.yield l) #[] #[], .pointer (some ⟨Bt, 0, none⟩), .pointer (some ⟨Bp, 0, none⟩), u3, .int .i64 (fr : Int), .int .i64 (at_ : Int), .int .i64 (i : Int), .int .i64 (ag : Int), .int .i64 (bk : Int), u9, u10, u11, u12, u13, u14, u15, u16, u17, u18, u19, u20, u21, u22, u23, u24, u25, u26, u27, u28, u29, u30, u31, u32, u33, u34, u35, u36, u37, u38, u39, u40, u41, u42, u43, u44, u45, u46, u47, u48, u49, u50, u51, u52, u53, u54, u55, u56, u57, u58, u59, u60, u61], defers := [] } ∧ Hid (J pre W) ∧ Hid (LookAt p.data.toList t.data.toList ps pre fr at_ i ag bk (.star :: rest) B ∧ i < p.size ∧ parts (p.data.toList.drop (i + 1)) = some rest)
  | 0, a, W => Boxes Bt Bp p t W ∧ ∃ (fr at_ i ag bk : Nat) (pre : List (Nat × Nat)) (B : List Pt) (u3 u9 u10 u11 u12 u13 u14 u15 u16 u17 u18 u19 u20 u21 u22 u23 u24 u25 u26 u27 u28 u29 u30 u31 u32 u33 u34 u35 u36 u37 u38 u39 u40 u41 u42 u43 u44 u45 u46 u47 u48 u49 u50 u51 u52 u53 u54 u55 u56 u57 u58 u59 u60 u61 : Value), a = { tmps := #[.func (.yield l) #[] #[], .pointer (some ⟨Bt, 0, none⟩), .pointer (some ⟨Bp, 0, none⟩), u3, .int .i64 (fr : Int), .int .i64 (at_ : Int), .int .i64 (i : Int), .int .i64 (ag : Int), .int .i64 (bk : Int), u9, u10, u11, u12, u13, u14, u15, u16, u17, u18, u19, u20, u21, u22, u23, u24, u25, u26, u27, u28, u29, u30, u31, u32, u33, u34, u35, u36, u37, u38, u39, u40, u41, u42, u43, u44, u45, u46, u47, u48, u49, u50, u51, u52, u53, u54, u55, u56, u57, u58, u59, u60, u61], defers := [] } ∧ Hid (J pre W) ∧ Hid (LookAt p.data.toList t.data.toList ps pre fr at_ i ag bk [] B)
  | 3, a, W => Boxes Bt Bp p t W ∧ ∃ (fr at_ i ag bk : Nat) (pre : List (Nat × Nat)) (B : List Pt) (u3 u9 u10 u11 u12 u13 u14 u15 u16 u17 u18 u19 u20 u21 u22 u23 u24 u25 u26 u27 u28 u29 u30 u31 u32 u33 u34 u35 u36 u37 u38 u39 u40 u41 u42 u43 u44 u45 u46 u47 u48 u49 u50 u51 u52 u53 u54 u55 u56 u57 u58 u59 u60 u61 : Value), a = { tmps := #[.func (.yield l) #[] #[], .pointer (some ⟨Bt, 0, none⟩), .pointer (some ⟨Bp, 0, none⟩), u3, .int .i64 (fr : Int), .int .i64 (at_ : Int), .int .i64 (i : Int), .int .i64 (ag : Int), .int .i64 (bk : Int), u9, u10, u11, u12, u13, u14, u15, u16, u17, u18, u19, u20, u21, u22, u23, u24, u25, u26, u27, u28, u29, u30, u31, u32, u33, u34, u35, u36, u37, u38, u39, u40, u41, u42, u43, u44, u45, u46, u47, u48, u49, u50, u51, u52, u53, u54, u55, u56, u57, u58, u59, u60, u61], defers := [] } ∧ Hid (J pre W) ∧ Hid (BackAt p.data.toList t.data.toList ps pre fr ag bk B)
  | _, _, _ => False
def Iμ (l : Nat) (a : Act) (_ : World) : Nat :=
  (8001 - (intOf (a.tmps.getD 7 undef)).toNat) * 200 + (match l with
    | 1 => (41 - (intOf (a.tmps.getD 6 undef)).toNat) * 4 + 3
    | 2 => (41 - (intOf (a.tmps.getD 6 undef)).toNat) * 4 + 2
    | 0 => (41 - (intOf (a.tmps.getD 6 undef)).toNat) * 4 + 2
    | _ => 1)
theorem grownBy_drewN (W : World) (n : Nat) : W.grownBy (W.drewN n) none := ⟨rfl, rfl, rfl, Nat.le_refl _, fun _ _ _ => rfl⟩

set_option maxRecDepth 100000 in
set_option maxHeartbeats 8000000 in
theorem pieces_good (n l Bt Bp : Nat) (p t : ByteArray) (ps : List Pt) (hn : 1 ≤ n) (hok : globOk p.data.toList = true) (h8 : t.size ≤ 8000) (hps : parts p.data.toList = some ps) (J Jx : List (Nat × Nat) → World → Prop)
    (hY : ∀ pre x W, J pre W → pre.length < 8002 → YieldAt Fence.wide (n - 1) Tryd.prog l (spanEs x) W fun e W' =>
      (e = .returned (.bool true) ∧ J (pre ++ [x]) W' ∧ KeepB Bt Bp W W') ∨ (e = .returned (.bool false) ∧ Jx (pre ++ [x]) W'))
    (W : World) (hJd : ∀ pre X m, J pre X → J pre (X.drewN m)) (hb : Boxes Bt Bp p t W) (h0 : J [] W) :
    Calls Tryd.prog 136 #[.func (.yield l) #[] #[], .pointer (some ⟨Bt, 0, none⟩), .pointer (some ⟨Bp, 0, none⟩)] W fun e W' => (∃ v, e = .returned v) ∧
      ((∃ xs, CameS p.data.toList t.data.toList xs ∧ J xs W') ∨ (∃ pre, CameP p.data.toList t.data.toList pre ∧ Jx pre W')) := by
  have hsz := Lib.hid (size_data t)
  have hpz := Lib.hid (size_data p)
  have hok := Lib.hid hok
  have hps := Lib.hid hps
  have hp40 : p.size ≤ 40 := by
    have h := hok.out
    simp [globOk] at h
    omega
  have hS : ∀ xs, AllCame t.data.toList ps xs → CameS p.data.toList t.data.toList xs := fun xs h => ⟨fun _ => ⟨ps, hps.out, h⟩, fun hn => (hn ⟨hok.out, by rw [hsz.out]; exact h8⟩).elim⟩
  have hP : ∀ xs, PartCame t.data.toList ps xs → CameP p.data.toList t.data.toList xs := fun xs h => ⟨⟨hok.out, by rw [hsz.out]; exact h8⟩, ps, hps.out, h⟩
  replace hS := Lib.hid hS
  replace hP := Lib.hid hP
  replace hY := Lib.hid hY
  replace hJd := Lib.hid hJd
  obtain ⟨hbt, hbp⟩ := hb
  go_enter Tryd.func136, Tryd.ntmps136
  refine wp_scope_labels2 (IJ l Bt Bp p t ps J) Iμ ?_ ?_
  · intro lb a' w' hJ
    clear hbt hbp h0
    match lb, hJ with
    | 1, hJ =>
      obtain ⟨hbx, fr, at_, i, ag, bk, pre, rest, B, u3, u9, u10, u11, u12, u13, u14, u15, u16, u17, u18, u19, u20, u21, u22, u23, u24, u25, u26, u27, u28, u29, u30, u31, u32, u33, u34, u35, u36, u37, u38, u39, u40, u41, u42, u43, u44, u45, u46, u47, u48, u49, u50, u51, u52, u53, u54, u55, u56, u57, u58, u59, u60, u61, rfl, hJp, hH⟩ := hJ
      refine ⟨_, rfl, ?_⟩
      obtain ⟨hbt, hbp⟩ := hbx
      have hi : i ≤ p.size := by have := hH.out.2.1; rw [hpz.out] at this; exact this
      have hat : at_ ≤ t.size := by have := hH.out.2.2.2.2.2.2.2.2.1; rw [hsz.out] at this; exact this
      have hag : ag ≤ t.size := by have := hH.out.2.2.2.2.2.1; rw [hsz.out] at this; exact this
      by_cases he : i = p.size
      · obtain rfl : rest = [] := by
          have := hH.out.1
          rw [parts_end (by rw [hpz.out, he]; exact Nat.le_refl _)] at this
          cases this; rfl
        have he' : ((i : Int) == (p.size : Int)) = true := by simp; omega
        clear he
        go_wp2
        go_step3
        show IJ l Bt Bp p t ps J 0 _ _ ∧ _
        exact ⟨⟨⟨hbt, hbp⟩, fr, at_, i, ag, bk, pre, B, _, _, _, _, _, _, _, _, _, _, _, _, _, _, _, _, _, _, _, _, _, _, _, _, _, _, _, _, _, _, _, _, _, _, _, _, _, _, _, _, _, _, _, _, _, _, _, _, _, _, _, _, _, _, rfl, hJp, hH⟩, by show (8001 - (intOf (Value.int IntKind.i64 (ag : Int))).toNat) * 200 + ((41 - (intOf (Value.int IntKind.i64 (i : Int))).toNat) * 4 + 2) < (8001 - (intOf (Value.int IntKind.i64 (ag : Int))).toNat) * 200 + ((41 - (intOf (Value.int IntKind.i64 (i : Int))).toNat) * 4 + 3); simp only [intOf]; omega⟩
      · have he' : ((i : Int) == (p.size : Int)) = false := by rw [beq_eq_false_iff_ne]; omega
        have hlt : i < p.size := by omega
        have hpi := Lib.hid (toList_at p i hlt)
        rcases part_at (by rw [hpz.out]; exact hlt) hH.out.1 with ⟨h42, rest', rfl, hr⟩ | ⟨h42, x, rest', rfl, hx, hfit, hr, hbl, hbg, h92⟩
        · have t1 : ((p[i].toNat : Int) == 42) = true := is_byte (c := p[i]) 42 (by rw [hpi.out] at h42; injection h42) (by decide)
          have hr := Lib.hid hr
          clear he h42
          go_wp2
          go_step3
          show IJ l Bt Bp p t ps J 2 _ _ ∧ _
          exact ⟨⟨⟨hbt, hbp⟩, fr, at_, i, ag, bk, pre, rest', B, _, _, _, _, _, _, _, _, _, _, _, _, _, _, _, _, _, _, _, _, _, _, _, _, _, _, _, _, _, _, _, _, _, _, _, _, _, _, _, _, _, _, _, _, _, _, _, _, _, _, _, _, _, _, rfl, hJp, Lib.hid ⟨hH.out, hlt, hr.out⟩⟩, by show (8001 - (intOf (Value.int IntKind.i64 (ag : Int))).toNat) * 200 + ((41 - (intOf (Value.int IntKind.i64 (i : Int))).toNat) * 4 + 2) < (8001 - (intOf (Value.int IntKind.i64 (ag : Int))).toNat) * 200 + ((41 - (intOf (Value.int IntKind.i64 (i : Int))).toNat) * 4 + 3); simp only [intOf]; omega⟩
        · have t1 : ((p[i].toNat : Int) == 42) = false := not_byte (c := p[i]) 42 (by intro e; rw [hpi.out, e] at h42; exact h42 rfl) (by decide)
          have hr := Lib.hid hr
          have hfit := Lib.hid hfit
          have h92 := Lib.hid h92
          have hbl := Lib.hid (show behindN p.data.toList i ≤ p.size by rw [hpz.out] at hbl; exact hbl)
          have hbg := Lib.hid hbg
          clear he h42
          by_cases ha : at_ = t.size
          · have ha' : ((at_ : Int) == (t.size : Int)) = true := by simp; omega
            have hA := Lib.hid (hH.out.2.2.2.2.2.2.2.short hx (by rw [hsz.out]; exact ha))
            clear ha
            go_wp2
            rw [jumpsTo_ret]
            refine bodyPost_ret (results_none rfl _ _ _) rfl ?_
            exact ⟨⟨_, rfl⟩, .inl ⟨pre, hS.out _ (hA.out), hJp.out⟩⟩
          · have ha' : ((at_ : Int) == (t.size : Int)) = false := by rw [beq_eq_false_iff_ne]; omega
            have halt : at_ < t.size := by omega
            have hta := Lib.hid (toList_at t at_ halt)
            clear ha
            by_cases htk : takesB p.data.toList i t[at_] = true
            · have htk := Lib.hid htk
              have hon := Lib.hid (hH.out.2.2.2.2.2.2.2.on hx hta.out ((hfit.out _).trans htk.out))
              go_wp2
              go_quiet ((go_at_call 137; exact Calls.quiet_of_same ((takes_any p i hlt (by omega) t[at_] (by have h := h92.out; rw [hpz.out] at h; exact h) true htk.out _).mono (fun e w' h => ⟨h.1, h.2.symm⟩))))
              go_wp2_with (go_at_call 125; refine (behind_any p i hlt (by omega) _).mono ?_; rintro e w' ⟨rfl, rfl⟩)
              go_step3
              show IJ l Bt Bp p t ps J 1 _ _ ∧ _
              exact ⟨⟨⟨hbt, hbp⟩, fr, at_ + 1, behindN p.data.toList i, ag, bk, pre, rest', B, _, _, _, _, _, _, _, _, _, _, _, _, _, _, _, _, _, _, _, _, _, _, _, _, _, _, _, _, _, _, _, _, _, _, _, _, _, _, _, _, _, _, _, _, _, _, _, _, _, _, _, _, _, _, rfl, Lib.hid (hJd.out _ _ _ hJp.out), Lib.hid ⟨hr.out, by rw [hpz.out]; exact hbl.out, hH.out.2.2.1, hH.out.2.2.2.1, hH.out.2.2.2.2.1, hH.out.2.2.2.2.2.1, hH.out.2.2.2.2.2.2.1, hon.out⟩⟩, by show (8001 - (intOf (Value.int IntKind.i64 (ag : Int))).toNat) * 200 + ((41 - (intOf (Value.int IntKind.i64 (behindN p.data.toList i : Int))).toNat) * 4 + 3) < (8001 - (intOf (Value.int IntKind.i64 (ag : Int))).toNat) * 200 + ((41 - (intOf (Value.int IntKind.i64 (i : Int))).toNat) * 4 + 3); have h1 := hbg.out; have h2 := hbl.out; simp only [intOf]; omega⟩
            · have htk := Lib.hid (show takesB p.data.toList i t[at_] = false by simpa using htk)
              have hno := Lib.hid (hH.out.2.2.2.2.2.2.2.miss hx hta.out ((hfit.out _).trans htk.out))
              go_wp2
              go_quiet ((go_at_call 137; exact Calls.quiet_of_same ((takes_any p i hlt (by omega) t[at_] (by have h := h92.out; rw [hpz.out] at h; exact h) false htk.out _).mono (fun e w' h => ⟨h.1, h.2.symm⟩))))
              go_wp2
              go_step3
              show IJ l Bt Bp p t ps J 3 _ _ ∧ _
              exact ⟨⟨⟨hbt, hbp⟩, fr, at_, i, ag, bk, pre, B, _, _, _, _, _, _, _, _, _, _, _, _, _, _, _, _, _, _, _, _, _, _, _, _, _, _, _, _, _, _, _, _, _, _, _, _, _, _, _, _, _, _, _, _, _, _, _, _, _, _, _, _, _, _, rfl, Lib.hid (hJd.out _ _ _ hJp.out), Lib.hid ⟨hH.out.2.2.1, hH.out.2.2.2.1, Nat.le_succ_of_le hH.out.2.2.2.2.1, hH.out.2.2.2.2.2.1, hH.out.2.2.2.2.2.2.1, hno.out⟩⟩, by show (8001 - (intOf (Value.int IntKind.i64 (ag : Int))).toNat) * 200 + 1 < (8001 - (intOf (Value.int IntKind.i64 (ag : Int))).toNat) * 200 + ((41 - (intOf (Value.int IntKind.i64 (i : Int))).toNat) * 4 + 3); simp only [intOf]; omega⟩
    | 2, hJ =>
      obtain ⟨hbx, fr, at_, i, ag, bk, pre, rest, B, u3, u9, u10, u11, u12, u13, u14, u15, u16, u17, u18, u19, u20, u21, u22, u23, u24, u25, u26, u27, u28, u29, u30, u31, u32, u33, u34, u35, u36, u37, u38, u39, u40, u41, u42, u43, u44, u45, u46, u47, u48, u49, u50, u51, u52, u53, u54, u55, u56, u57, u58, u59, u60, u61, rfl, hJp, hH⟩ := hJ
      refine ⟨_, rfl, ?_⟩
      obtain ⟨hbt, hbp⟩ := hbx
      have hi : i < p.size := hH.out.2.1
      have hat : at_ ≤ t.size := by have := hH.out.1.2.2.2.2.2.2.2.2.1; rw [hsz.out] at this; exact this
      have hag : ag ≤ at_ := by obtain ⟨_, _, done, _, _, h⟩ := hH.out.1.2.2.2.2.2.2.2; exact at_le h
      have hst := Lib.hid (hH.out.1.2.2.2.2.2.2.2.star (i := i))
      go_wp2
      go_step3
      show IJ l Bt Bp p t ps J 1 _ _ ∧ _
      exact ⟨⟨⟨hbt, hbp⟩, fr, at_, i + 1, at_, i + 1, pre, rest, rest, _, _, _, _, _, _, _, _, _, _, _, _, _, _, _, _, _, _, _, _, _, _, _, _, _, _, _, _, _, _, _, _, _, _, _, _, _, _, _, _, _, _, _, _, _, _, _, _, _, _, _, _, _, _, rfl, hJp, Lib.hid ⟨hH.out.2.2, by rw [hpz.out]; omega, hH.out.2.2, by rw [hpz.out]; omega, Nat.le_trans hH.out.1.2.2.2.2.1 hag, by rw [hsz.out]; exact hat, hH.out.1.2.2.2.2.2.2.1, hst.out⟩⟩, by show (8001 - (intOf (Value.int IntKind.i64 (at_ : Int))).toNat) * 200 + ((41 - (intOf (Value.int IntKind.i64 ((i : Int) + 1))).toNat) * 4 + 3) < (8001 - (intOf (Value.int IntKind.i64 (ag : Int))).toNat) * 200 + ((41 - (intOf (Value.int IntKind.i64 (i : Int))).toNat) * 4 + 2); simp only [intOf]; omega⟩
    | 3, hJ =>
      obtain ⟨hbx, fr, at_, i, ag, bk, pre, B, u3, u9, u10, u11, u12, u13, u14, u15, u16, u17, u18, u19, u20, u21, u22, u23, u24, u25, u26, u27, u28, u29, u30, u31, u32, u33, u34, u35, u36, u37, u38, u39, u40, u41, u42, u43, u44, u45, u46, u47, u48, u49, u50, u51, u52, u53, u54, u55, u56, u57, u58, u59, u60, u61, rfl, hJp, hH⟩ := hJ
      refine ⟨_, rfl, ?_⟩
      obtain ⟨hbt, hbp⟩ := hbx
      have hag : ag ≤ t.size := by have := hH.out.2.2.2.1; rw [hsz.out] at this; exact this
      by_cases hl : ag = t.size
      · have hl' : ((ag : Int) == (t.size : Int)) = true := by simp; omega
        have hA := Lib.hid (hH.out.2.2.2.2.2.done (by rw [hsz.out]; exact hl))
        clear hl
        go_wp2
        rw [jumpsTo_ret]
        refine bodyPost_ret (results_none rfl _ _ _) rfl ?_
        exact ⟨⟨_, rfl⟩, .inl ⟨pre, hS.out _ (hA.out), hJp.out⟩⟩
      · have hl' : ((ag : Int) == (t.size : Int)) = false := by rw [beq_eq_false_iff_ne]; omega
        have hN := Lib.hid (hH.out.next (by rw [hsz.out]; omega))
        have hlt : ag < t.size := by omega
        have hbk40 : bk ≤ 40 := by have := hH.out.2.1; rw [hpz.out] at this; omega
        clear hl
        by_cases hb0 : bk = 0
        · have hb0' : ((bk : Int) == 0) = true := by simp; omega
          replace hb0 := Lib.hid hb0
          go_wp2
          go_step3
          show IJ l Bt Bp p t ps J 1 _ _ ∧ _
          exact ⟨⟨⟨hbt, hbp⟩, ag + 1, ag + 1, bk, ag + 1, bk, pre, B, B, _, _, _, _, _, _, _, _, _, _, _, _, _, _, _, _, _, _, _, _, _, _, _, _, _, _, _, _, _, _, _, _, _, _, _, _, _, _, _, _, _, _, _, _, _, _, _, _, _, _, _, _, _, _, rfl, hJp, Lib.hid (by have h := hN.out; rw [if_pos hb0.out] at h; exact h)⟩, by show (8001 - (intOf (Value.int IntKind.i64 ((ag : Int) + 1))).toNat) * 200 + ((41 - (intOf (Value.int IntKind.i64 (bk : Int))).toNat) * 4 + 3) < (8001 - (intOf (Value.int IntKind.i64 (ag : Int))).toNat) * 200 + 1; simp only [intOf]; omega⟩
        · have hb0' : ((bk : Int) == 0) = false := by rw [beq_eq_false_iff_ne]; omega
          replace hb0 := Lib.hid hb0
          go_wp2
          go_step3
          show IJ l Bt Bp p t ps J 1 _ _ ∧ _
          exact ⟨⟨⟨hbt, hbp⟩, fr, ag + 1, bk, ag + 1, bk, pre, B, B, _, _, _, _, _, _, _, _, _, _, _, _, _, _, _, _, _, _, _, _, _, _, _, _, _, _, _, _, _, _, _, _, _, _, _, _, _, _, _, _, _, _, _, _, _, _, _, _, _, _, _, _, _, _, rfl, hJp, Lib.hid (by have h := hN.out; rw [if_neg hb0.out] at h; exact h)⟩, by show (8001 - (intOf (Value.int IntKind.i64 ((ag : Int) + 1))).toNat) * 200 + ((41 - (intOf (Value.int IntKind.i64 (bk : Int))).toNat) * 4 + 3) < (8001 - (intOf (Value.int IntKind.i64 (ag : Int))).toNat) * 200 + 1; simp only [intOf]; omega⟩
    | 0, hJ =>
      obtain ⟨hbx, fr, at_, i, ag, bk, pre, B, u3, u9, u10, u11, u12, u13, u14, u15, u16, u17, u18, u19, u20, u21, u22, u23, u24, u25, u26, u27, u28, u29, u30, u31, u32, u33, u34, u35, u36, u37, u38, u39, u40, u41, u42, u43, u44, u45, u46, u47, u48, u49, u50, u51, u52, u53, u54, u55, u56, u57, u58, u59, u60, u61, rfl, hJp, hH⟩ := hJ
      refine ⟨_, rfl, ?_⟩
      obtain ⟨hbt, hbp⟩ := hbx
      have hag : ag ≤ t.size := by have := hH.out.2.2.2.2.2.1; rw [hsz.out] at this; exact this
      have hfd := Lib.hid hH.out.2.2.2.2.2.2.2.found
      have hBk := Lib.hid (show BackAt p.data.toList t.data.toList ps (pre ++ [(fr, at_)]) fr ag bk B from ⟨hH.out.2.2.1, hH.out.2.2.2.1, by have := hH.out.2.2.2.2.1; simp; omega, hH.out.2.2.2.2.2.1, hH.out.2.2.2.2.2.2.1, hfd.out.1⟩)
      refine (wpIn_wide (n := n)).1 ?_
      obtain ⟨fn, tmps, assign, body, hy, hR⟩ := hY.out pre (fr, at_) _ hJp.out (by have := hH.out.2.2.2.2.1; omega)
      dsimp only [spanEs] at hy
      gi_wp2
      refine hR.mono ?_
      rintro e W3 (⟨rfl, hJ3, hk3⟩ | ⟨rfl, hJx3⟩)
      · have hbt3 := (World.cell?_of_block (a := ⟨Bt, 0, none⟩) hk3.1).trans hbt
        have hbp3 := (World.cell?_of_block (a := ⟨Bp, 0, none⟩) hk3.2).trans hbp
        replace hJ3 := Lib.hid hJ3
        clear hy hR hk3 hbt hbp
        gi_wp2
        refine wpIn_wide.2 ?_
        go_step3
        rename_i K hK
        refine hK _ _ (wpIn_wide.2 ?_)
        clear hK
        by_cases hl : ag = t.size
        · have hl' : ((ag : Int) == (t.size : Int)) = true := by simp; omega
          have hA := Lib.hid (hBk.out.2.2.2.2.2.done (by rw [hsz.out]; exact hl))
          clear hl
          go_wp2
          rw [jumpsTo_ret]
          refine bodyPost_ret (results_none rfl _ _ _) rfl ?_
          exact ⟨⟨_, rfl⟩, .inl ⟨(pre ++ [(fr, at_)]), hS.out _ (hA.out), hJ3.out⟩⟩
        · have hl' : ((ag : Int) == (t.size : Int)) = false := by rw [beq_eq_false_iff_ne]; omega
          have hN := Lib.hid (hBk.out.next (by rw [hsz.out]; omega))
          have hlt : ag < t.size := by omega
          have hbk40 : bk ≤ 40 := by have := hBk.out.2.1; rw [hpz.out] at this; omega
          clear hl
          by_cases hb0 : bk = 0
          · have hb0' : ((bk : Int) == 0) = true := by simp; omega
            replace hb0 := Lib.hid hb0
            go_wp2
            go_step3
            show IJ l Bt Bp p t ps J 1 _ _ ∧ _
            exact ⟨⟨⟨hbt3, hbp3⟩, ag + 1, ag + 1, bk, ag + 1, bk, (pre ++ [(fr, at_)]), B, B, _, _, _, _, _, _, _, _, _, _, _, _, _, _, _, _, _, _, _, _, _, _, _, _, _, _, _, _, _, _, _, _, _, _, _, _, _, _, _, _, _, _, _, _, _, _, _, _, _, _, _, _, _, _, rfl, hJ3, Lib.hid (by have h := hN.out; rw [if_pos hb0.out] at h; exact h)⟩, by show (8001 - (intOf (Value.int IntKind.i64 ((ag : Int) + 1))).toNat) * 200 + ((41 - (intOf (Value.int IntKind.i64 (bk : Int))).toNat) * 4 + 3) < (8001 - (intOf (Value.int IntKind.i64 (ag : Int))).toNat) * 200 + ((41 - (intOf (Value.int IntKind.i64 (i : Int))).toNat) * 4 + 2); simp only [intOf]; omega⟩
          · have hb0' : ((bk : Int) == 0) = false := by rw [beq_eq_false_iff_ne]; omega
            replace hb0 := Lib.hid hb0
            go_wp2
            go_step3
            show IJ l Bt Bp p t ps J 1 _ _ ∧ _
            exact ⟨⟨⟨hbt3, hbp3⟩, fr, ag + 1, bk, ag + 1, bk, (pre ++ [(fr, at_)]), B, B, _, _, _, _, _, _, _, _, _, _, _, _, _, _, _, _, _, _, _, _, _, _, _, _, _, _, _, _, _, _, _, _, _, _, _, _, _, _, _, _, _, _, _, _, _, _, _, _, _, _, _, _, _, _, rfl, hJ3, Lib.hid (by have h := hN.out; rw [if_neg hb0.out] at h; exact h)⟩, by show (8001 - (intOf (Value.int IntKind.i64 ((ag : Int) + 1))).toNat) * 200 + ((41 - (intOf (Value.int IntKind.i64 (bk : Int))).toNat) * 4 + 3) < (8001 - (intOf (Value.int IntKind.i64 (ag : Int))).toNat) * 200 + ((41 - (intOf (Value.int IntKind.i64 (i : Int))).toNat) * 4 + 2); simp only [intOf]; omega⟩
      · gi_wp2
        rw [jumpsTo_ret]
        refine bodyPost_ret (results_none rfl _ _ _) rfl ?_
        exact ⟨⟨_, rfl⟩, .inr ⟨_, hP.out _ hfd.out.2, hJx3⟩⟩
    | m + 4, hJ => exact hJ.elim
  · intro hk
    go_wp2_with (go_at_call 115; refine (implRight_any p (by unfold maxLen; omega) _).mono ?_; rintro e w' ⟨rfl, rfl⟩; rw [hok.out])
    go_step3
    rename_i K hK
    refine hK _ _ (hk 1 _ _ _ rfl ?_)
    exact ⟨⟨hbt, hbp⟩, 0, 0, 0, 0, 0, [], ps, ps, _, _, _, _, _, _, _, _, _, _, _, _, _, _, _, _, _, _, _, _, _, _, _, _, _, _, _, _, _, _, _, _, _, _, _, _, _, _, _, _, _, _, _, _, _, _, _, _, _, _, _, _, _, _, rfl, Lib.hid h0, Lib.hid ⟨by rw [List.drop_zero]; exact hps.out, Nat.zero_le _, by rw [List.drop_zero]; exact hps.out, Nat.zero_le _, Nat.zero_le _, Nat.zero_le _, Nat.zero_le _, Try.start _ _⟩⟩

/-- Of a glob that is not right, or a text that is too long, nothing comes. -/
theorem pieces_none (l Bt Bp : Nat) (p t : ByteArray) (hp : p.size ≤ maxLen) (ht : t.size ≤ maxLen) (hno : ¬ (globOk p.data.toList = true ∧ t.size ≤ 8000)) (J Jx : List (Nat × Nat) → World → Prop) (W : World) (hb : Boxes Bt Bp p t W) (h0 : J [] W) :
    Calls Tryd.prog 136 #[.func (.yield l) #[] #[], .pointer (some ⟨Bt, 0, none⟩), .pointer (some ⟨Bp, 0, none⟩)] W fun e W' => (∃ v, e = .returned v) ∧
      ((∃ xs, CameS p.data.toList t.data.toList xs ∧ J xs W') ∨ (∃ pre, CameP p.data.toList t.data.toList pre ∧ Jx pre W')) := by
  have hsz := Lib.hid (size_data t)
  have hS := Lib.hid (show CameS p.data.toList t.data.toList [] from ⟨fun h => (hno ⟨h.1, by rw [← hsz.out]; exact h.2⟩).elim, fun _ => rfl⟩)
  obtain ⟨hbt, hbp⟩ := hb
  unfold maxLen at ht
  by_cases h8 : t.size ≤ 8000
  · have hok := Lib.hid (show globOk p.data.toList = false by
      cases h : globOk p.data.toList with
      | false => rfl
      | true => exact (hno ⟨h, h8⟩).elim)
    go_enter Tryd.func136, Tryd.ntmps136
    refine wp_scope_straight ?_
    go_wp2_with (go_at_call 115; refine (implRight_any p hp _).mono ?_; rintro e w' ⟨rfl, rfl⟩; rw [hok.out])
    rw [Exit.noGoto_ret]
    refine bodyPost_ret (results_none rfl _ _ _) rfl ?_
    exact ⟨⟨_, rfl⟩, .inl ⟨[], hS.out, h0⟩⟩
  · have h8' : (8000 : Int) < (t.size : Int) := by omega
    go_enter Tryd.func136, Tryd.ntmps136
    refine wp_scope_straight ?_
    go_wp2
    rw [Exit.noGoto_ret]
    refine bodyPost_ret (results_none rfl _ _ _) rfl ?_
    exact ⟨⟨_, rfl⟩, .inl ⟨[], hS.out, h0⟩⟩

theorem pieces_stops (n Bt Bp : Nat) (hn : 1 ≤ n) (p t : ByteArray) (hp : p.size ≤ maxLen) (ht : t.size ≤ maxLen) (w : World) (hBt : Bt < w.heap.size) (hBp : Bp < w.heap.size) (hb : Boxes Bt Bp p t w) :
    SeqStopsK Fence.wide n Tryd.prog 136 #[.pointer (some ⟨Bt, 0, none⟩), .pointer (some ⟨Bp, 0, none⟩)] spanEs (KeepB Bt Bp) (CameS p.data.toList t.data.toList) (CameP p.data.toList t.data.toList) 8002 w := by
  intro l J Jx W hW hJ hJx hY h0
  refine callsIn_wide.2 ?_
  have hb' : Boxes Bt Bp p t W := ⟨(hW.cell (p := ⟨Bt, 0, none⟩) hBt).trans hb.1, (hW.cell (p := ⟨Bp, 0, none⟩) hBp).trans hb.2⟩
  by_cases h : globOk p.data.toList = true ∧ t.size ≤ 8000
  · obtain ⟨ps, hps⟩ : ∃ ps, parts p.data.toList = some ps := by
      have := h.1
      simp [globOk] at this
      exact Option.isSome_iff_exists.1 this.2
    exact pieces_good n l Bt Bp p t ps hn h.1 h.2 hps J Jx hY W (fun pre X m hx => hJ pre X _ none hx (grownBy_drewN X m) (fun r e => by cases e)) hb' h0
  · exact pieces_none l Bt Bp p t hp ht h J Jx W hb' h0
end Go.Proofs.YtbadpmghlclfkaaDoor
