/- The draws of globs, and of texts: how long each may be. -/
import Derived.Test.YtoljhkhegmimbaaPick
import Derived.Lib.AppendStr
namespace Go.Proofs.Ytoljhkhegmimbaa
open Go.RowKit

theorem strCells_map (s : ByteArray) : Lib.strCells s = s.data.toList.map byteV := rfl
/-- append(own, text...) -/
theorem wpList_append_str {w : World} {ops : Array Oper} {rest : List Oper} {o : Oper} {a : Act} {Q : Exit → Act → World → Prop} (hgd : o.guard = none) (s x : Operand)
    (ho : o.op = .call { callee := .builtin .append, args := #[s, x], argTypes := #[22, 9] })
    (base : Nat) (v : Value) (l : List UInt8) (str : ByteArray) (hs : a.eval s = v) (hown : OwnBytes w base 5 v l) (hx : a.eval x = .string str) (hlen : l.length + str.size ≤ 1048576) (hB : base ≤ w.heap.size)
    (h : ∀ v' w', OwnBytes w' base 5 v' (l ++ str.data.toList) → w.grownBy w' v.ownBlock → wpList Try.prog ops Q rest (a.put o.dst v') w') : wpList Try.prog ops Q (o :: rest) a w := by
  obtain ⟨i0, hi, hz0, hz1, hz2⟩ := info_parts Try.uinfo5
  refine wpList_plain hgd fun K hK => ?_
  obtain ⟨v', w', hr, ho', hg, _⟩ := Lib.run_append_own_string (P := Try.prog) (w := w) base 22 9 o.type 5 i0 Try.underlying22 Try.underlying9 hi hz0 hz1 hz2 v l.length (l.map byteV) hown str (by unfold maxLen; omega) (by omega) hB
  unfold Oper.wp
  simp [execOp, ho, resolve, invoke, builtin, hs, hx, hr, Result.andThen]
  refine hK _ _ (h v' w' ?_ hg)
  unfold OwnBytes
  rw [List.map_append, List.length_append, Array.length_toList]
  exact ho'
theorem OwnBytes.grow {w w' : World} {base g : Nat} {e : TypeId} {v : Value} {l : List UInt8} (h : OwnBytes w base e v l) (k : w.grownBy w' (some g)) (hg : g < base) : OwnBytes w' base e v l := by
  refine World.ownsRow.kept h k ?_
  cases hv : v.ownBlock with
  | none => exact .inl rfl
  | some b => have := (World.ownsRow.lt h b hv).1; exact .inr (by simp; omega)
theorem grown_row {w0 w w' : World} {g base : Nat} {row : Option Nat} (h : w0.grownBy w (some g)) (k : w.grownBy w' row) (hr : ∀ i, row = some i → base ≤ i) (hb : w0.heap.size ≤ base) : w0.grownBy w' (some g) :=
  ⟨k.os.trans h.os, k.tape.trans h.tape, k.output.trans h.output, Nat.le_trans h.size k.size, fun i hi hne => (k.block i (Nat.lt_of_lt_of_le hi h.size) (fun e => by have := hr i e.symm; omega)).trans (h.block i hi hne)⟩

set_option maxRecDepth 100000 in
set_option maxHeartbeats 2000000 in
theorem glob_draw (g : Nat) (A : Option Addr) (len B : Nat) (w : World) (hs : Src w B g A len) :
    Calls Try.prog 36 #[.pointer (some ⟨g, 0, none⟩)] w fun e w' => StrEnd 41 e ∧ Src w' B g A len ∧ w.grownBy w' (some g) := by
  have hgl := hs.lt
  have hs' := Lib.hid hs
  clear hs
  have hTX := Lib.hid (fun (w : World) => texts_arr (w := w) (n := 10) (m := 41) (cs := #[.string ⟨#[42, 119, 111, 114, 100, 58, 42]⟩, .string ⟨#[119, 111, 114, 100, 58, 32]⟩, .string ⟨#[42, 58]⟩, .string ⟨#[97, 63, 99]⟩, .string ⟨#[108, 111, 42, 105, 110]⟩, .string ⟨#[92, 42]⟩, .string ⟨#[42]⟩, .string ⟨#[63]⟩, .string ⟨#[110, 97, 109, 101]⟩, .string ⟨#[120]⟩]) (t := 9) rfl (by rfl))
  go_enter Try.func36, Try.ntmps36
  go_wp2_with (go_at_call 29; refine (pick_any g w.heap.size 10 10 41 A len B (by decide) (by decide) (Nat.ne_of_gt hgl) _ (hs'.out.alloc _) (hTX.out w)).mono ?_; rintro e w2 ⟨⟨t, ht, rfl⟩, hs2, hg⟩; replace ht := Lib.hid ht; replace hs2 := Lib.hid hs2; replace hg := Lib.hid ((World.grownBy_alloc _ _ _).trans hg))
  go_ret
  exact ⟨⟨t, ht.out, rfl⟩, hs2.out, hg.out⟩
set_option maxRecDepth 100000 in
set_option maxHeartbeats 2000000 in
theorem odd_draw (g : Nat) (A : Option Addr) (len B : Nat) (w : World) (hs : Src w B g A len) :
    Calls Try.prog 25 #[.pointer (some ⟨g, 0, none⟩)] w fun e w' => StrEnd 41 e ∧ Src w' B g A len ∧ w.grownBy w' (some g) := by
  have hs' := Lib.hid hs
  clear hs
  have hTX := Lib.hid (fun (w : World) => texts_arr (w := w) (n := 5) (m := 41) (cs := #[.string ⟨#[]⟩, .string ⟨#[97, 92]⟩, .string ⟨#[92, 92]⟩, .string ⟨#[49, 50, 51, 52, 53, 54, 55, 56, 57, 48, 49, 50, 51, 52, 53, 54, 55, 56, 57, 48, 49, 50, 51, 52, 53, 54, 55, 56, 57, 48, 49, 50, 51, 52, 53, 54, 55, 56, 57, 48, 49]⟩, .string ⟨#[49, 50, 51, 52, 53, 54, 55, 56, 57, 48, 49, 50, 51, 52, 53, 54, 55, 56, 57, 48, 49, 50, 51, 52, 53, 54, 55, 56, 57, 48, 49, 50, 51, 52, 53, 54, 55, 56, 57, 48]⟩]) (t := 9) rfl (by rfl))
  go_enter Try.func25, Try.ntmps25
  go_wp2_with (first
    | (go_at_call 27; refine (one_any _ _ A len B (by omega) _ hs'.out).mono ?_; rintro e w1 ⟨⟨q, rfl⟩, hs1, hg1⟩; replace hs1 := Lib.hid hs1; replace hg1 := Lib.hid hg1)
    | (go_at_call 29; refine (pick_any g w1.heap.size 5 5 41 A len B (by decide) (by decide) (Nat.ne_of_gt hs1.out.lt) _ (hs1.out.alloc _) (hTX.out w1)).mono ?_; rintro e w2 ⟨⟨t, ht, rfl⟩, hs2, hg⟩; replace ht := Lib.hid ht; replace hs2 := Lib.hid hs2; replace hg := Lib.hid (hg1.out.trans ((World.grownBy_alloc _ _ _).trans hg)))
    | (go_at_call 36; refine (glob_draw g A len B _ hs1.out).mono ?_; rintro e w2 ⟨⟨t, ht, rfl⟩, hs2, hg⟩; replace ht := Lib.hid ht; replace hs2 := Lib.hid hs2; replace hg := Lib.hid (hg1.out.trans hg)))
  all_goals
    go_ret
    exact ⟨⟨t, ht.out, rfl⟩, hs2.out, hg.out⟩
set_option maxRecDepth 100000 in
set_option maxHeartbeats 2000000 in
theorem text_draw (g : Nat) (A : Option Addr) (len B : Nat) (w : World) (hs : Src w B g A len) :
    Calls Try.prog 26 #[.pointer (some ⟨g, 0, none⟩)] w fun e w' => StrEnd 41 e ∧ Src w' B g A len ∧ w.grownBy w' (some g) := by
  have hgl := hs.lt
  have hBg : B ≤ g := by obtain ⟨_, _, _, _, _, _, _, _, h, _⟩ := hs; exact h
  have hs' := Lib.hid hs
  clear hs
  have hTX := Lib.hid (fun (w : World) => texts_arr (w := w) (n := 8) (m := 6) (cs := #[.string ⟨#[119, 111, 114, 100, 58, 32]⟩, .string ⟨#[108, 111, 103, 105, 110]⟩, .string ⟨#[97, 98, 99]⟩, .string ⟨#[110, 97, 109, 101]⟩, .string ⟨#[120]⟩, .string ⟨#[42]⟩, .string ⟨#[58]⟩, .string ⟨#[32]⟩]) (t := 9) rfl (by rfl))
  go_enter Try.func26, Try.ntmps26
  go_wp2_with (go_at_call 28; refine (n_any g _ A len B (by omega) _ (hs'.out.alloc _)).mono ?_; rintro e w1 ⟨⟨k0, hk0, rfl⟩, hs1, hg1⟩; have hk4 : k0 ≤ 4 := (by omega); have hO := Lib.hid (OwnBytes.grow (base := w.heap.size) (e := 5) (l := []) (World.ownsRow_made w #[] 0 (Nat.le_refl _) (by simp) rfl) hg1 hgl); replace hg1 := Lib.hid ((World.grownBy_alloc _ _ _).trans hg1); replace hs1 := Lib.hid hs1)
  go_loopw [3, 4] (fun v i wr => ∃ (k : Nat) (l : List UInt8), k ≤ 4 ∧ i = .int .i64 (k : Int) ∧ l.length + 6 * k ≤ 24 ∧ Hid (OwnBytes wr w.heap.size 5 v l) ∧ Hid (Src wr B g A len) ∧ Hid (w.grownBy wr (some g))) (fun _ i _ => (intOf i).toNat)
  case atStart => exact ⟨k0, [], hk4, rfl, by simp; omega, hO, hs1, hg1⟩
  case round =>
    obtain ⟨k, l, hk, rfl, hl, hO, hs, hg⟩ := hrel
    by_cases hlt : 0 < k
    · have hlt' : (0 : Int) < (k : Int) := by omega
      go_wp2_with (first
        | (go_at_call 29; refine (pick_any g wr.heap.size 8 8 6 A len B (by decide) (by decide) (Nat.ne_of_gt hs.out.lt) _ (hs.out.alloc _) (hTX.out wr)).mono ?_; rintro e w2 ⟨⟨t, ht, rfl⟩, hs2, hg2⟩; replace ht := Lib.hid ht; replace hs := Lib.hid hs2; have hO2 := Lib.hid (OwnBytes.grow (hO.out.alloc _) hg2 hgl); replace hg := Lib.hid (hg.out.trans ((World.grownBy_alloc _ _ _).trans hg2)); clear hs2 hg2)
        | (at_builtin; refine wpList_append_str rfl (.tmp 12) (.tmp 15) rfl w.heap.size _ l t rfl hO2.out rfl (by have := ht.out; omega) hg.out.size ?_; intro v' w3 hO3 hg3; have hrow : ∀ i, Value.ownBlock _ = some i → w.heap.size ≤ i := fun i e => own_base hO2.out e; replace hs := Lib.hid (hs.out.grown hg3 (fun i e => by have := hrow i e; omega)); replace hg := Lib.hid (grown_row hg.out hg3 hrow (Nat.le_refl _)); replace hO3 := Lib.hid hO3; clear hg3 hrow))
      all_goals
        go_roundw
        case rel => exact ⟨k - 1, _, by omega, by go_num, by have := ht.out; simp; omega, hO3, hs, hg⟩
        case measure => simp [intOf]; omega
    · have hconv := own_string (P := Try.prog) (dst := 9) Try.underlying22 Try.underlying5 Try.underlying9 hO.out
      have hlt' : ¬ (0 : Int) < (k : Int) := by omega
      go_wp2
      go_ret
      exact ⟨StrEnd.of l (by omega), hs.out, hg.out⟩
end Go.Proofs.Ytoljhkhegmimbaa
