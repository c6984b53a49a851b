/- What the laws do with marked texts: how large, copied, compared, marked and looked at again. -/
import Derived.Test.YtajnligcngekcaaLabB
import Derived.Test.YtajnligcngekcaaBlk
namespace Go.Proofs.Ytajnligcngekcaa
open Go.RowKit

theorem Blk.own {w : World} {g n base : Nat} {l : List Int} (h : Blk w g 2 (l.map intV)) (hn : n = l.length) (hl : l.length ≤ 1048576) (hb : base ≤ g) : OwnInts w base (.slice (some ⟨g, 0, none⟩) n n) l := by
  subst hn
  refine ⟨hl, by simp, .inr ⟨g, _, _, rfl, hb, h, Nat.le_refl _, by unfold maxLen; omega, by simp, ?_⟩⟩
  rw [Nat.mul_one]; exact List.take_of_length_le (by simp)
/-- How much is left when a Lab of that size is taken. -/
theorem szInts_any (A : Option Addr) (len cap : Nat) (left : Int) (w : World) (h1 : len ≤ maxLen) (h2 : 0 ≤ left) (h3 : left ≤ 1048576) :
    Calls Try.prog 36 #[.slice A len cap, .int .i64 left] w fun e w' => e = .returned (.int .i64 (if left - len < 0 then -1 else left - len)) ∧ w = w' := by
  unfold maxLen at h1
  have h1' : (len : Int) ≤ 9223372036854775807 := by omega
  by_cases h : left - (len : Int) < 0
  · rw [if_pos h]
    go_enter Try.func36, Try.ntmps36
    go_wp2
    go_ret
    exact ⟨rfl, rfl⟩
  · rw [if_neg h]
    go_enter Try.func36, Try.ntmps36
    go_wp2
    go_ret
    exact ⟨rfl, rfl⟩
def SzEnd (n : Int) (w : World) (e : Ending) (w' : World) : Prop := e = .returned (.int .i64 n) ∧ Below w.heap.size w w'
set_option maxHeartbeats 1000000 in
theorem szLab_in (t : ByteArray) (A : Option Addr) (len cap : Nat) (left : Int) (w : World) (h1 : (t.size : Int) + len ≤ left) (h3 : left ≤ 1048576) :
    Calls Try.prog 23 #[.agg #[.string t, .slice A len cap], .int .i64 left] w (SzEnd (left - t.size - len) w) := by
  have hb := Lib.hid ((Below.refl w.heap.size w).alloc (Nat.le_refl _) (.cells #[.string t, .slice A len cap] 24))
  have e := Lib.hid (show (if left - t.size - len < 0 then -1 else left - t.size - len) = left - t.size - len from if_neg (by omega))
  go_enter Try.func23, Try.ntmps23
  go_wp2_with (go_at_call 36; refine (szInts_any _ _ _ _ _ (by unfold maxLen; omega) (by omega) (by omega)).mono ?_; rintro e w' ⟨rfl, rfl⟩; rw [e.out])
  go_ret
  exact ⟨rfl, hb.out⟩
set_option maxHeartbeats 1000000 in
theorem szLab_out (t : ByteArray) (A : Option Addr) (len cap : Nat) (left : Int) (w : World) (h1 : ¬ (t.size : Int) + len ≤ left) (h0 : 0 ≤ left) (h3 : left ≤ 1048576) (hl : len ≤ maxLen) (ht : t.size ≤ maxLen) :
    Calls Try.prog 23 #[.agg #[.string t, .slice A len cap], .int .i64 left] w (SzEnd (-1) w) := by
  have hb := Lib.hid ((Below.refl w.heap.size w).alloc (Nat.le_refl _) (.cells #[.string t, .slice A len cap] 24))
  have hl' := Lib.hid hl
  have ht' : (t.size : Int) ≤ 9223372036854775807 := by unfold maxLen at ht; omega
  by_cases h : left - (t.size : Int) < 0
  · go_enter Try.func23, Try.ntmps23
    go_wp2
    go_ret
    exact ⟨rfl, hb.out⟩
  · have e := Lib.hid (show (if left - t.size - len < 0 then -1 else left - t.size - len) = -1 from if_pos (by omega))
    go_enter Try.func23, Try.ntmps23
    go_wp2_with (go_at_call 36; refine (szInts_any _ _ _ _ _ hl'.out (by omega) (by omega)).mono ?_; rintro e w' ⟨rfl, rfl⟩; rw [e.out])
    go_ret
    exact ⟨rfl, hb.out⟩
/-- A slice copied. -/
def IntsEnd (base : Nat) (l : List Int) (w : World) (e : Ending) (w' : World) : Prop := ∃ A cap, e = .returned (.slice A l.length cap) ∧ OwnInts w' base (.slice A l.length cap) l ∧ Below base w w'
set_option maxHeartbeats 1000000 in
theorem toInts_any (v : Value) (l : List Int) (w : World) (hv : Ints w v l) :
    Calls Try.prog 37 #[v] w (IntsEnd w.heap.size l w) := by
  obtain ⟨i0, hi, hz0, hz1, hz2⟩ := info_parts Try.info2
  have hl1 := hv.1
  obtain ⟨A, cap, rfl⟩ := hv.form
  have hv' := Lib.hid hv
  clear hv
  have hbel := Lib.hid (Below.refl w.heap.size w)
  go_enter Try.func37, Try.ntmps37
  go_wp2_with (at_make; refine wpList_make_blk rfl (.tmp 6) (.tmp 6) 22 rfl w.heap.size 2 i0 (.int .i64 0) 8 Try.underlying22 hi hz0 hz1 hz2 rfl _ _ _ _ l.length rfl rfl rfl rfl (by omega) (by omega) hbel.out (Nat.le_refl _) ?_; intro w1 hr1 hb1; replace hr1 := Lib.hid hr1; replace hb1 := Lib.hid hb1)
  have hr0 := Lib.hid (show Blk w1 w.heap.size 2 (fill (l.map intV) 0 (.int .i64 0)) by rw [fill_zero, List.length_map]; exact hr1.out)
  clear hr1
  go_loopw [4] (fun i wr => ∃ k : Nat, k ≤ l.length ∧ i = .int .i64 k ∧ Blk wr w.heap.size 2 (fill (l.map intV) k (.int .i64 0)) ∧ Below w.heap.size w wr) (fun i _ => l.length - (intOf i).toNat)
  case atStart => exact ⟨0, Nat.zero_le _, rfl, hr0.out, hb1.out⟩
  case round =>
    obtain ⟨k, hk, rfl, hr, hb⟩ := hrel
    have hwlt := hr.lt
    by_cases hlt : k < l.length
    · obtain ⟨b, off, rfl, hbk, hck⟩ := (hv'.out.below hb).at_ k hlt
      have hbw : b < w.heap.size := by
        obtain ⟨b', off', e, h1, _⟩ := hv'.out.at_ k hlt
        cases e; exact h1
      have hlt' : (k : Int) < (l.length : Int) := by omega
      have hcd := hr.cell k (by rw [fill_len, List.length_map]; exact hlt)
      have hfd := hr.free k
      have hr2 := hr.set k (.int .i64 l[k])
      rw [fill_set _ _ _ (by rw [List.length_map]; exact hlt) _ (by simp [intV])] at hr2
      have hb2 := hb.setCell (p := ⟨w.heap.size, k, none⟩) (Nat.le_refl _) (.int .i64 l[k])
      replace hr2 := Lib.hid hr2
      replace hb2 := Lib.hid hb2
      clear hr hb
      go_wp2
      go_roundw
      case rel => exact ⟨k + 1, by omega, by go_num, hr2.out, hb2.out⟩
      case measure => simp [intOf]; omega
    · have hlt' : ¬ (k : Int) < (l.length : Int) := by omega
      rw [fill_all _ _ _ (by rw [List.length_map]; omega)] at hr
      replace hr := Lib.hid hr
      replace hb := Lib.hid hb
      go_wp2
      go_ret
      exact ⟨_, _, rfl, hr.out.own rfl hl1 (Nat.le_refl _), hb.out⟩
/-- A Lab copied. -/
def LabEnd (base : Nat) (t : ByteArray) (l : List Int) (w : World) (e : Ending) (w' : World) : Prop := ∃ A cap, e = .returned (.agg #[.string t, .slice A l.length cap]) ∧ OwnInts w' base (.slice A l.length cap) l ∧ Below base w w'
theorem OwnInts.setCell {w : World} {base : Nat} {v : Value} {l : List Int} (h : OwnInts w base v l) (g i : Nat) (u : Value) (hg : g < base) : OwnInts (w.setCell ⟨g, i, none⟩ u) base v l :=
  h.kept (row := some g) ⟨rfl, rfl, rfl, by simp [World.setCell], fun k _ hne => Below.heap_setCell w ⟨g, i, none⟩ u k (fun e => hne (by rw [e]))⟩ (by
    right; intro e
    have := (h.2.lt _ e).1
    omega)
set_option maxHeartbeats 1000000 in
theorem toLab_any (t : ByteArray) (v : Value) (l : List Int) (w : World) (hv : Ints w v l) :
    Calls Try.prog 26 #[.agg #[.string t, v]] w (LabEnd w.heap.size t l w) := by
  obtain ⟨A, cap, rfl⟩ := hv.form
  have hv' := Lib.hid hv
  clear hv
  go_enter Try.func26, Try.ntmps26
  go_wp2_with (go_at_call 37; refine (toInts_any _ l _ (((hv'.out.alloc _).alloc _).alloc _)).mono ?_; rintro e w1 ⟨A2, cap2, rfl, ho, hb⟩; obtain ⟨hc, hf⟩ := bcell hb; have hz := hb.size; simp only [World.size_alloc] at hz; replace ho := Lib.hid ho; replace hb := Lib.hid hb)
  refine bodyPost_ret (v := .agg #[.string t, .slice A2 l.length cap2]) (by simp [results, Try.results26, go_sem, hc]) rfl ⟨_, _, rfl, ?_, ?_⟩
  · exact (((ho.out.setCell _ _ _ (by simp)).setCell _ _ _ (by simp)).setCell _ _ _ (by simp)).mono (by simp; omega)
  · exact (((((((Below.refl _ _).alloc (Nat.le_refl _) _).alloc (by simp) _).alloc (by simp; omega) _).trans (hb.out.mono (by simp; omega))).setCell (by simp; omega) _).setCell (by simp) _).setCell (by simp) _
/-- Two Labs that are alike. -/
def alikeB (t s : ByteArray) (l m : List Int) : Bool := decide (t = s) && intsB l m
theorem alike_yes {t s : ByteArray} {l m : List Int} (h : t = s) : alikeB t s l m = intsB l m := by simp [alikeB, h]
theorem alike_no {t s : ByteArray} {l m : List Int} (h : ¬ t = s) : alikeB t s l m = false := by simp [alikeB, h]
theorem alike_same (t : ByteArray) (l : List Int) : alikeB t t l l = true := by simp [alikeB, intsB]
set_option maxHeartbeats 1000000 in
theorem eqLab_any (t s : ByteArray) (v u : Value) (l m : List Int) (w : World) (hv : Ints w v l) (hu : Ints w u m) :
    Calls Try.prog 29 #[.agg #[.string t, v], .agg #[.string s, u]] w (LookEnd (alikeB t s l m) w) := by
  have hbb := Lib.hid (fun (o1 o2 : Obj) => ((Below.refl w.heap.size w).alloc (Nat.le_refl _) o1).alloc (by simp) o2)
  obtain ⟨A, cap, rfl⟩ := hv.form
  obtain ⟨A2, cap2, rfl⟩ := hu.form
  have hv' := Lib.hid hv
  have hu' := Lib.hid hu
  clear hv hu
  by_cases h0 : t = s
  · subst h0
    have e := Lib.hid (alike_yes (t := t) (s := t) (l := l) (m := m) rfl)
    go_enter Try.func29, Try.ntmps29
    by_cases hi : intsB l m = true
    · go_wp2_with (go_at_call 38; refine (eqInts_any _ _ l m _ ((hv'.out.alloc _).alloc _) ((hu'.out.alloc _).alloc _)).mono ?_; rintro e w1 ⟨rfl, hb⟩; replace hb := Lib.hid hb)
      go_ret
      exact LookEnd.of (by rw [e.out, hi]) (Below.then_ (hbb.out _ _) hb.out (Nat.le_refl _))
    · have hi' : intsB l m = false := by simpa using hi
      clear hi
      go_wp2_with (go_at_call 38; refine (eqInts_any _ _ l m _ ((hv'.out.alloc _).alloc _) ((hu'.out.alloc _).alloc _)).mono ?_; rintro e w1 ⟨rfl, hb⟩; replace hb := Lib.hid hb)
      go_ret
      exact LookEnd.of (by rw [e.out, hi']) (Below.then_ (hbb.out _ _) hb.out (Nat.le_refl _))
  · have h1 := str_ne h0
    have e := Lib.hid (alike_no (l := l) (m := m) h0)
    clear h0
    go_enter Try.func29, Try.ntmps29
    go_wp2
    go_ret
    exact LookEnd.of e.out.symm (hbb.out _ _)
/-- k, k + 1, ..: n of them. -/
def seqI (k n : Nat) : List Int := (List.range n).map fun i => ((k + i : Nat) : Int)
theorem seqI_len (k n : Nat) : (seqI k n).length = n := by simp [seqI]
theorem seqI_at (k n i : Nat) (h : i < (seqI k n).length) : (seqI k n)[i] = ((k + i : Nat) : Int) := by simp [seqI]
theorem seqI_succ (k n : Nat) : seqI k (n + 1) = seqI k n ++ [((k + n : Nat) : Int)] := by simp [seqI, List.range_succ]
theorem mark_set {l : List Int} {k i : Nat} (hi : i < l.length) : ((seqI k i ++ l.drop i).map intV).set i (.int .i64 ((k + i : Nat) : Int)) = (seqI k (i + 1) ++ l.drop (i + 1)).map intV := by
  have e3 : i - (List.map intV (seqI k i)).length = 0 := by rw [List.length_map, seqI_len]; omega
  rw [List.map_append, List.set_append, if_neg (by rw [List.length_map, seqI_len]; omega), List.drop_eq_getElem_cons hi, List.map_cons, e3, List.set_cons_zero, seqI_succ, List.append_assoc, List.map_append]
  rfl
/-- A row marked: it holds k, k + 1, .. now, and nothing else has turned. -/
def MarkEnd (base k n : Nat) (v : Value) (w : World) (e : Ending) (w' : World) : Prop := e = .returned (.int .i64 ((k + n : Nat) : Int)) ∧ OwnInts w' base v (seqI k n) ∧ w.grownBy w' v.ownBlock
set_option maxHeartbeats 1000000 in
theorem markInts_any (v : Value) (l : List Int) (k base : Nat) (w : World) (hk : k ≤ 4000000) (hv : OwnInts w base v l) :
    Calls Try.prog 39 #[v, .int .i64 (k : Int)] w (MarkEnd base k l.length v w) := by
  have hl1 := hv.1
  rcases hv.2.2 with ⟨rfl, hn⟩ | ⟨g, cap, cur, rfl, hbg, hh, hnc, hcm, hcs, ht⟩
  · have hl0 : l = [] := List.eq_nil_of_length_eq_zero hn
    subst hl0
    have hv' := Lib.hid hv
    clear hv
    go_enter Try.func39, Try.ntmps39
    go_wp2
    go_loop [1, 5] (fun i j => i = .int .i64 (k : Int) ∧ j = .int .i64 ((0 : Nat) : Int)) (fun _ j => 0)
    case atStart => exact ⟨rfl, rfl⟩
    case round =>
      obtain ⟨rfl, rfl⟩ := hrel
      go_wp2
      go_ret
      exact ⟨rfl, hv'.out, World.grownBy.refl w _⟩
  · have hv' := Lib.hid hv.2
    clear hv hh ht hcs
    go_enter Try.func39, Try.ntmps39
    go_wp2
    go_loopw [1, 5] (fun i j wr => ∃ n : Nat, n ≤ l.length ∧ i = .int .i64 ((k + n : Nat) : Int) ∧ j = .int .i64 (n : Int) ∧ wr.ownsRow base 2 1 (.slice (some ⟨g, 0, none⟩) l.length cap) l.length ((seqI k n ++ l.drop n).map intV) ∧ w.grownBy wr (some g)) (fun _ j _ => l.length - (intOf j).toNat)
    case atStart => exact ⟨0, Nat.zero_le _, rfl, rfl, by simpa [seqI] using hv'.out, World.grownBy.refl w _⟩
    case round =>
      obtain ⟨n, hn, rfl, rfl, ho, hg⟩ := hrel
      by_cases hlt : n < l.length
      · have hlt' : (n : Int) < (l.length : Int) := by omega
        have hcd := ho.cellAt n (by omega)
        have hfd := ho.frozenAt n
        obtain ⟨ho2, hg2⟩ := ho.stored n (.int .i64 ((k + n : Nat) : Int))
        rw [mark_set hlt] at ho2
        have hx : ∃ x, wr.cell? ⟨g, n, none⟩ = some x := ⟨_, hcd.trans (List.getElem?_eq_getElem (by rw [List.length_map, List.length_append, seqI_len, List.length_drop]; omega))⟩
        obtain ⟨x, hx⟩ := hx
        replace ho2 := Lib.hid ho2
        have hg3 := Lib.hid (hg.trans hg2)
        clear ho hcd hg hg2
        go_wp2
        go_roundw
        case rel => exact ⟨n + 1, by omega, by go_num, by go_num, ho2.out, hg3.out⟩
        case measure => simp [intOf]; omega
      · have hlt' : ¬ (n : Int) < (l.length : Int) := by omega
        obtain rfl : n = l.length := by omega
        have ho' := Lib.hid ho
        have hg' := Lib.hid hg
        clear ho hg
        go_wp2
        go_ret
        exact ⟨rfl, ⟨by rw [seqI_len]; exact hl1, by rw [seqI_len]; simpa using ho'.out⟩, hg'.out⟩
end Go.Proofs.Ytajnligcngekcaa
