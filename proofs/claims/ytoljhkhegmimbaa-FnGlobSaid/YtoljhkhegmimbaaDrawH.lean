/- DrawGlobAll, DrawGlobFind, DrawGlobQuote: how long what they draw may be. -/
import Derived.Test.YtoljhkhegmimbaaDrawG
import Derived.Laws.Concat
import Derived.IntWalk
namespace Go.Proofs.Ytoljhkhegmimbaa
open Go.RowKit

def TwoStr (e : Ending) : Prop := ∃ p t : ByteArray, p.size ≤ 41 ∧ t.size ≤ 41 ∧ e = .returned (.tuple #[.string p, .string t])
set_option maxRecDepth 100000 in
set_option maxHeartbeats 2000000 in
theorem drawAll_any (A : Option Addr) (len cap B : Nat) (w : World) (hB : B ≤ w.heap.size) (hr : Readable w B A len) :
    Calls Try.prog 11 #[.slice A len cap] w fun e w' => TwoStr e ∧ Below w.heap.size w w' := by
  have hr' := Lib.hid hr
  have hr1 := hr.1
  clear hr
  go_enter Try.func11, Try.ntmps11
  go_wp2_with (first
    | (go_at_call 24; refine (source_any A len cap B _ hB hr'.out).mono ?_; rintro e w1 ⟨rfl, hs, hb⟩; replace hs := Lib.hid hs; replace hb := Lib.hid hb)
    | (go_at_call 25; refine (odd_draw _ A len B _ hs.out).mono ?_; rintro e w2 ⟨⟨p, hp, rfl⟩, hs', hg⟩; replace hs := Lib.hid hs'; replace hb := Lib.hid (below_step hb.out hg (Nat.le_refl _) (Nat.le_refl _)); replace hp := Lib.hid hp; clear hg hs')
    | (go_at_call 26; refine (text_draw _ A len B _ hs.out).mono ?_; rintro e w3 ⟨⟨t, ht, rfl⟩, hs', hg⟩; replace hb := Lib.hid (below_step hb.out hg (Nat.le_refl _) (Nat.le_refl _)); replace ht := Lib.hid ht; clear hg hs'))
  refine bodyPost_ret (v := .tuple #[.string p, .string t]) (by simp [results, Try.results11, go_sem]) rfl ⟨⟨p, t, hp.out, ht.out, rfl⟩, hb.out⟩
set_option maxRecDepth 100000 in
set_option maxHeartbeats 2000000 in
theorem drawFind_any (A : Option Addr) (len cap B : Nat) (w : World) (hB : B ≤ w.heap.size) (hr : Readable w B A len) :
    Calls Try.prog 9 #[.slice A len cap] w fun e w' => TwoStr e ∧ Below w.heap.size w w' := by
  have hr' := Lib.hid hr
  clear hr
  go_enter Try.func9, Try.ntmps9
  go_wp2_with (go_at_call 11; refine (drawAll_any A len cap B _ hB hr'.out).mono ?_; rintro e w1 ⟨⟨p, t, hp, ht, rfl⟩, hb⟩; replace hb := Lib.hid hb; replace hp := Lib.hid hp; replace ht := Lib.hid ht)
  refine bodyPost_ret (v := .tuple #[.string p, .string t]) (by simp [results, Try.results9, go_sem]) rfl ⟨⟨p, t, hp.out, ht.out, rfl⟩, hb.out⟩
attribute [local go_sem] vupon_value vupon_skip vupon_enter lay_cons lay_nil
/-- What the values are, where a text of blanks is made, and one put behind it. -/
def quoteVals (g H : Nat) : Nat → Value → World → Prop
  | 0, v, _ => v = .pointer (some ⟨g, 0, none⟩)
  | 1, v, _ => NumVal 3 v
  | 2, v, _ => ∃ k : Nat, k ≤ 41 ∧ v = .int .i64 (k : Int)
  | 3, v, w => ∃ l : List UInt8, l.length ≤ 41 ∧ OwnBytes w H 5 v l
  | 4, v, _ => StrVal 41 v
  | 5, v, _ => v = .pointer (some ⟨g, 0, none⟩)
  | 6, v, w => TextsVal g 2 1 v w
  | 7, v, _ => StrVal 1 v
  | 8, v, _ => StrVal 42 v
  | _, v, _ => StrVal 42 v
theorem quoteVals.grow {g H : Nat} (hgH : g < H) (i : Nat) (v : Value) (w w' : World) (k : w.grownBy w' (some g)) (h : quoteVals g H i v w) : quoteVals g H i v w' := by
  match i with
  | 0 => exact h
  | 1 => exact h
  | 2 => exact h
  | 3 =>
    obtain ⟨l, hl, ho⟩ := h
    exact ⟨l, hl, ho.grow k hgH⟩
  | 4 => exact h
  | 5 => exact h
  | 6 => exact TextsVal.grow h k
  | 7 => exact h
  | 8 => exact h
  | n + 9 => exact h
theorem concat_size (a b : ByteArray) : (a ++ b).size = a.size + b.size := by simp
set_option maxRecDepth 100000 in
set_option maxHeartbeats 2000000 in
theorem drawQuote_any (A : Option Addr) (len cap B : Nat) (w : World) (hB : B ≤ w.heap.size) (hr : Readable w B A len) :
    Calls Try.prog 13 #[.slice A len cap] w fun e w' => StrEnd 42 e ∧ Below w.heap.size w w' := by
  obtain ⟨i0, hi, hz0, hz1, hz2⟩ := info_parts Try.uinfo5
  have hr' := Lib.hid hr
  have hr1 := hr.1
  clear hr
  go_enter Try.func13, Try.ntmps13
  go_wp2_with (first
    | (go_at_call 24; refine (source_any A len cap B _ hB hr'.out).mono ?_; rintro e w1 ⟨rfl, hs, hb⟩; replace hs := Lib.hid hs; replace hb := Lib.hid hb)
    | (go_at_call 27; refine (one_any _ _ A len B (by omega) _ hs.out).mono ?_; rintro e w2 ⟨⟨q, rfl⟩, hs', hg⟩; replace hs := Lib.hid hs'; replace hb := Lib.hid (below_step hb.out hg (Nat.le_refl _) (Nat.le_refl _)); clear hg hs')
    | (go_at_call 26; refine (text_draw _ A len B _ hs.out).mono ?_; rintro e w3 ⟨⟨t, ht, rfl⟩, hs', hg⟩; replace hb := Lib.hid (below_step hb.out hg (Nat.le_refl _) (Nat.le_refl _)); replace ht := Lib.hid ht; clear hg hs'))
  · have hgl := hs.out.lt
    have hJ0 : Src w2.drew B w.heap.size A len ∧ Below w.heap.size w w2.drew ∧ w2.heap.size ≤ w2.drew.heap.size := ⟨hs.out.drew, below_drew hb.out, Nat.le_refl _⟩
    refine wp_region_rows [9] (quoteVals w.heap.size w2.heap.size) (fun L w' => (Src w' B w.heap.size A len ∧ Below w.heap.size w w') ∧ w2.heap.size ≤ w'.heap.size) (fun _ x y => x.grownBy y (some w.heap.size)) (by kernel_rfl) (by kernel_rfl) (by kernel_rfl) (by kernel_rfl) (fun k i v w w' _ _ hM h => quoteVals.grow hgl i v w w' hM h) ⟨⟨hJ0.1, hJ0.2.1⟩, hJ0.2.2⟩ ⟨?_, ?_, ?_, ?_, ?_, ?_, ?_, ?_, ?_, ?_, trivial⟩ ?_
    all_goals clear hJ0
    all_goals clear hs hb
    · intro y w9 L next hL ha hw hJ hd hn
      go_simp
      exact hn _ _ (grown_self w9 _) hJ rfl
    · intro y w9 L next hL ha hw hJ hd hn
      have e0 : y 0 = _ := hd 0 (by kernel_rfl)
      clear hd
      replace hJ := Lib.hid hJ
      go_simp
      refine (n_any w.heap.size 3 A len B (by omega) w9 hJ.out.1.1).mono ?_
      rintro e w' ⟨⟨v, hv, rfl⟩, hs', hg⟩
      refine ⟨_, rfl, ?_⟩
      exact hn _ _ hg ⟨⟨hs', below_step hJ.out.1.2 hg (Nat.le_refl _) (Nat.le_refl _)⟩, Nat.le_trans hJ.out.2 hg.size⟩ ⟨v, by omega, rfl⟩
    · intro y w9 L next hL ha hw hJ hd hn
      have e1 : NumVal 3 (y 1) := hd 1 (by kernel_rfl)
      clear hd
      replace hJ := Lib.hid hJ
      go_simp
      obtain ⟨v, hv, e1⟩ := e1
      have hw1 : IntKind.i64.wrap (39 + (v : Int)) = 39 + (v : Int) := IntWalk.i64_in _ (by omega)
      go_simp
      exact hn _ _ (grown_self w9 _) hJ.out ⟨39 + v, by omega, by simp⟩
    · intro y w9 L next hL ha hw hJ hd hn
      have e2 : ∃ k : Nat, k ≤ 41 ∧ y 2 = .int .i64 (k : Int) := hd 2 (by kernel_rfl)
      clear hd
      replace hJ := Lib.hid hJ
      replace e2 := Lib.hid e2
      replace hi := Lib.hid hi
      go_simp
      obtain ⟨k, hk, e2⟩ := e2.out
      obtain ⟨w', hrun, ho, hg⟩ := run_make_full (P := Try.prog) w9 w2.heap.size 22 5 i0 (.int .u8 0) 1 Try.underlying22 hi.out hz0 hz1 .i64 .i64 k (by rw [hz2]; omega) (by unfold maxLen; omega) hJ.out.2
      have hg' : w9.grownBy w' (some w.heap.size) := ⟨hg.os, hg.tape, hg.output, hg.size, fun i h _ => hg.block i h (by simp)⟩
      have hfin := Lib.hid (hn _ _ hg' ⟨⟨hJ.out.1.1.near (grown_none hg), below_step hJ.out.1.2 hg' (Nat.le_refl _) (Nat.le_refl _)⟩, Nat.le_trans hJ.out.2 hg.size⟩ ⟨List.replicate k 0, by simpa using hk, own_zeros ho⟩)
      clear hn ho hg hg'
      go_simp
      exact hfin.out
    · intro y w9 L next hL ha hw hJ hd hn
      have e3 : ∃ l : List UInt8, l.length ≤ 41 ∧ OwnBytes w9 w2.heap.size 5 (y 3) l := hd 3 (by kernel_rfl)
      clear hd
      replace hJ := Lib.hid hJ
      replace e3 := Lib.hid e3
      go_simp
      obtain ⟨l, hl, ho⟩ := e3.out
      have hconv := own_string (P := Try.prog) (dst := 9) Try.underlying22 Try.underlying5 Try.underlying9 ho
      clear ho
      go_simp
      exact hn _ _ (grown_self w9 _) hJ.out ⟨⟨l.toArray⟩, by show l.toArray.size ≤ 41; simpa using hl, rfl⟩
    · intro y w9 L next hL ha hw hJ hd hn
      go_simp
      exact hn _ _ (grown_self w9 _) hJ rfl
    · intro y w9 L next hL ha hw hJ hd hn
      clear hd
      replace hJ := Lib.hid hJ
      go_simp
      exact hn _ _ (World.grownBy_alloc w9 _ _) ⟨⟨hJ.out.1.1.alloc _, hJ.out.1.2.alloc hJ.out.1.2.size _⟩, by have := hJ.out.2; simp; omega⟩ ⟨w9.heap.size, rfl, Nat.ne_of_gt hJ.out.1.1.lt, texts_arr rfl (by rfl)⟩
    · intro y w9 L next hL ha hw hJ hd hn
      have e5 : y 5 = _ := hd 5 (by kernel_rfl)
      have e6 : TextsVal w.heap.size 2 1 (y 6) w9 := hd 6 (by kernel_rfl)
      clear hd
      replace hJ := Lib.hid hJ
      replace e6 := Lib.hid e6
      go_simp
      obtain ⟨b, e6, hne, ht⟩ := e6.out
      rw [e6]
      refine (pick_any w.heap.size b 2 2 1 A len B (by decide) (by decide) hne w9 hJ.out.1.1 ht).mono ?_
      rintro e w' ⟨⟨t, ht', rfl⟩, hs', hg⟩
      refine ⟨_, rfl, ?_⟩
      exact hn _ _ hg ⟨⟨hs', below_step hJ.out.1.2 hg (Nat.le_refl _) (Nat.le_refl _)⟩, Nat.le_trans hJ.out.2 hg.size⟩ ⟨t, ht', rfl⟩
    · intro y w9 L next hL ha hw hJ hd hn
      have e4 : StrVal 41 (y 4) := hd 4 (by kernel_rfl)
      have e7 : StrVal 1 (y 7) := hd 7 (by kernel_rfl)
      clear hd
      replace hJ := Lib.hid hJ
      go_simp
      obtain ⟨a, ha1, e4⟩ := e4
      obtain ⟨b, hb1, e7⟩ := e7
      have hadd := run_string_add_sum (P := Try.prog) w9 a b (by omega)
      go_simp
      exact hn _ _ (grown_self w9 _) hJ.out ⟨a ++ b, by rw [concat_size]; omega, rfl⟩
    · intro y w9 L next hL ha hw hJ hd hn
      have e8 : StrVal 42 (y 8) := hd 8 (by kernel_rfl)
      clear hd
      replace hJ := Lib.hid hJ
      go_simp
      exact hn _ _ (grown_self w9 _) hJ.out e8
    · intro y L w' hall hJ hk
      have e9 : StrVal 42 (y 9) := hk 9 (by simp)
      have hb9 : Below w.heap.size w w' := hJ.1.2
      replace hb9 := Lib.hid hb9
      clear hk hJ hall
      simp only [lay_cons, lay_nil]
      obtain ⟨a, ha1, e9⟩ := e9
      rw [e9]
      simp only [Act.put, List.setIfInBounds_toArray]
      simp only [List.set_cons_succ, List.set_cons_zero]
      go_wp2
      go_ret
      exact ⟨⟨a, ha1, rfl⟩, hb9.out⟩
  · go_ret
    exact ⟨⟨t, by have := ht.out; omega, rfl⟩, hb.out⟩
end Go.Proofs.Ytoljhkhegmimbaa
