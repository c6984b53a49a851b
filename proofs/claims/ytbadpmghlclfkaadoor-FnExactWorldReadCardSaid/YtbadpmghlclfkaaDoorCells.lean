/- Slices of int64 and marked texts compared; what is looked at, and how large it is. What the laws do with marked texts: how large, copied, compared, marked and looked at again. What the laws do with marked texts: marked and looked at again. A byte and its mark kept as one complex number: both are got back. -/
import Derived.Test.YtbadpmghlclfkaaDoorLabA
import Derived.RegionTactic
import Derived.ChangeAlike
import Derived.Test.YtbadpmghlclfkaaDoorBlk
namespace Go.Proofs.YtbadpmghlclfkaaDoor
open Go.RowKit

def intsB (l m : List Int) : Bool := decide (l = m)
theorem intsB_len {l m : List Int} (h : ¬ l.length = m.length) : intsB l m = false := by
  unfold intsB; rw [decide_eq_false_iff_not]; intro e; subst e; exact h rfl
theorem intsB_at {l m : List Int} (k : Nat) (h1 : k < l.length) (h2 : k < m.length) (h : ¬ l[k] = m[k]) : intsB l m = false := by
  unfold intsB; rw [decide_eq_false_iff_not]; intro e; subst e; exact h rfl
theorem intsB_all {l m : List Int} (h0 : l.length = m.length) (k : Nat) (hk : ¬ k < l.length) (h : ∀ i (h1 : i < l.length) (h2 : i < m.length), i < k → l[i] = m[i]) : intsB l m = true := by
  unfold intsB; rw [decide_eq_true_iff]
  exact List.ext_getElem h0 fun i h1 h2 => h i h1 h2 (by omega)
theorem eq_step {l m : List Int} {k : Nat} (hk1 : k < l.length) (hk2 : k < m.length) (h : ∀ i (h1 : i < l.length) (h2 : i < m.length), i < k → l[i] = m[i]) (e : l[k] = m[k]) : ∀ i (h1 : i < l.length) (h2 : i < m.length), i < k + 1 → l[i] = m[i] := by
  intro i h1 h2 hi
  by_cases hik : i = k
  · subst hik; exact e
  · exact h i h1 h2 (by omega)
set_option maxHeartbeats 1000000 in
theorem eqInts_any (v u : Value) (l m : List Int) (w : World) (hv : Ints w v l) (hu : Ints w u m) :
    Calls Tryd.prog 102 #[v, u] w (LookEnd (intsB l m) w) := by
  have hl1 := hv.1
  have hm1 := hu.1
  obtain ⟨A, cap, rfl⟩ := hv.form
  obtain ⟨A2, cap2, rfl⟩ := hu.form
  have hv' := Lib.hid hv
  have hu' := Lib.hid hu
  clear hv hu
  by_cases h0 : l.length = m.length
  · have h0' : (((l.length : Nat) : Int) != (m.length : Int)) = false := by simp [h0]
    have h0'' : decide (((l.length : Nat) : Int) = (m.length : Int)) = true := by simp [h0]
    have hh := Lib.hid h0
    have hbel := Lib.hid (Below.refl w.heap.size w)
    clear h0
    go_enter Tryd.func102, Tryd.ntmps102
    go_wp2
    go_loopw [5] (fun i wr => ∃ k : Nat, k ≤ l.length ∧ i = .int .i64 k ∧ (∀ i (h1 : i < l.length) (h2 : i < m.length), i < k → l[i] = m[i]) ∧ Below w.heap.size w wr) (fun i _ => l.length - (intOf i).toNat)
    case atStart => exact ⟨0, Nat.zero_le _, rfl, fun i _ _ h => absurd h (Nat.not_lt_zero _), hbel.out⟩
    case round =>
      obtain ⟨k, hk, rfl, hall, hb⟩ := hrel
      have hall' := Lib.hid hall
      have hb' := Lib.hid hb
      clear hall hb
      by_cases hlt : k < l.length
      · have hlt2 : k < m.length := by have := hh.out; omega
        obtain ⟨b, off, rfl, hbk, hck⟩ := (hv'.out.below hb'.out).at_ k hlt
        obtain ⟨b2, off2, rfl, hbk2, hck2⟩ := (hu'.out.below hb'.out).at_ k hlt2
        have hlt' : (k : Int) < (l.length : Int) := by omega
        have hlt2' : (k : Int) < (m.length : Int) := by omega
        have hge : (0 : Int) ≤ (k : Int) := by omega
        by_cases he : l[k] = m[k]
        · have he1 : (l[k] != m[k]) = false := by simp [he]
          have he2 := Lib.hid he
          clear he
          go_wp2
          go_region
          go_wp2
          go_roundw
          case rel => exact ⟨k + 1, by omega, by go_num, eq_step hlt hlt2 hall'.out he2.out, below_drew' hb'.out⟩
          case measure => simp [intOf]; omega
        · have he1 : (l[k] != m[k]) = true := by simp [he]
          have he2 := Lib.hid (intsB_at k hlt hlt2 he)
          clear he
          go_wp2
          go_region
          go_wp2
          go_ret
          exact LookEnd.of he2.out.symm (below_drew' hb'.out)
      · have hlt' : ¬ (k : Int) < (l.length : Int) := by omega
        go_wp2
        go_ret
        exact LookEnd.of (intsB_all hh.out k hlt hall'.out).symm hb'.out
  · have h0' : (((l.length : Nat) : Int) != (m.length : Int)) = true := by simp; omega
    have hb := Lib.hid (intsB_len h0)
    clear h0
    go_enter Tryd.func102, Tryd.ntmps102
    go_wp2
    go_ret
    exact LookEnd.of hb.out.symm (Below.refl _ _)
end Go.Proofs.YtbadpmghlclfkaaDoor
namespace Go.Proofs.YtbadpmghlclfkaaDoor
open Go.RowKit

theorem Blk.own {w : World} {g n base : Nat} {l : List Int} (h : Blk w g 2 (l.map intV)) (hn : n = l.length) (hl : l.length ≤ 1048576) (hb : base ≤ g) : OwnInts w base (.slice (some ⟨g, 0, none⟩) n n) l := by
  subst hn
  refine ⟨hl, by simp, .inr ⟨g, _, _, rfl, hb, h, Nat.le_refl _, by unfold maxLen; omega, by simp, ?_⟩⟩
  rw [Nat.mul_one]; exact List.take_of_length_le (by simp)
/-- How much is left when a Lab of that size is taken. -/
theorem szInts_any (A : Option Addr) (len cap : Nat) (left : Int) (w : World) (h1 : len ≤ maxLen) (h2 : 0 ≤ left) (h3 : left ≤ 1048576) :
    Calls Tryd.prog 89 #[.slice A len cap, .int .i64 left] w fun e w' => e = .returned (.int .i64 (if left - len < 0 then -1 else left - len)) ∧ w = w' := by
  unfold maxLen at h1
  have h1' : (len : Int) ≤ 9223372036854775807 := by omega
  by_cases h : left - (len : Int) < 0
  · rw [if_pos h]
    go_enter Tryd.func89, Tryd.ntmps89
    go_wp2
    go_ret
    exact ⟨rfl, rfl⟩
  · rw [if_neg h]
    go_enter Tryd.func89, Tryd.ntmps89
    go_wp2
    go_ret
    exact ⟨rfl, rfl⟩
def SzEnd (n : Int) (w : World) (e : Ending) (w' : World) : Prop := e = .returned (.int .i64 n) ∧ Below w.heap.size w w'
set_option maxHeartbeats 1000000 in
theorem szLab_in (t : ByteArray) (A : Option Addr) (len cap : Nat) (left : Int) (w : World) (h1 : (t.size : Int) + len ≤ left) (h3 : left ≤ 1048576) :
    Calls Tryd.prog 62 #[.agg #[.string t, .slice A len cap], .int .i64 left] w (SzEnd (left - t.size - len) w) := by
  have hb := Lib.hid ((Below.refl w.heap.size w).alloc (Nat.le_refl _) (.cells #[.string t, .slice A len cap] 46))
  have e := Lib.hid (show (if left - t.size - len < 0 then -1 else left - t.size - len) = left - t.size - len from if_neg (by omega))
  go_enter Tryd.func62, Tryd.ntmps62
  go_wp2_with (go_at_call 89; refine (szInts_any _ _ _ _ _ (by unfold maxLen; omega) (by omega) (by omega)).mono ?_; rintro e w' ⟨rfl, rfl⟩; rw [e.out])
  go_ret
  exact ⟨rfl, hb.out⟩
set_option maxHeartbeats 1000000 in
theorem szLab_out (t : ByteArray) (A : Option Addr) (len cap : Nat) (left : Int) (w : World) (h1 : ¬ (t.size : Int) + len ≤ left) (h0 : 0 ≤ left) (h3 : left ≤ 1048576) (hl : len ≤ maxLen) (ht : t.size ≤ maxLen) :
    Calls Tryd.prog 62 #[.agg #[.string t, .slice A len cap], .int .i64 left] w (SzEnd (-1) w) := by
  have hb := Lib.hid ((Below.refl w.heap.size w).alloc (Nat.le_refl _) (.cells #[.string t, .slice A len cap] 46))
  have hl' := Lib.hid hl
  have ht' : (t.size : Int) ≤ 9223372036854775807 := by unfold maxLen at ht; omega
  by_cases h : left - (t.size : Int) < 0
  · go_enter Tryd.func62, Tryd.ntmps62
    go_wp2
    go_ret
    exact ⟨rfl, hb.out⟩
  · have e := Lib.hid (show (if left - t.size - len < 0 then -1 else left - t.size - len) = -1 from if_pos (by omega))
    go_enter Tryd.func62, Tryd.ntmps62
    go_wp2_with (go_at_call 89; refine (szInts_any _ _ _ _ _ hl'.out (by omega) (by omega)).mono ?_; rintro e w' ⟨rfl, rfl⟩; rw [e.out])
    go_ret
    exact ⟨rfl, hb.out⟩
/-- A slice copied. -/
def IntsEnd (base : Nat) (l : List Int) (w : World) (e : Ending) (w' : World) : Prop := ∃ A cap, e = .returned (.slice A l.length cap) ∧ OwnInts w' base (.slice A l.length cap) l ∧ Below base w w'
set_option maxHeartbeats 1000000 in
theorem toInts_any (v : Value) (l : List Int) (w : World) (hv : Ints w v l) :
    Calls Tryd.prog 95 #[v] w (IntsEnd w.heap.size l w) := by
  obtain ⟨i0, hi, hz0, hz1, hz2⟩ := info_parts Tryd.info2
  have hl1 := hv.1
  obtain ⟨A, cap, rfl⟩ := hv.form
  have hv' := Lib.hid hv
  clear hv
  have hbel := Lib.hid (Below.refl w.heap.size w)
  go_enter Tryd.func95, Tryd.ntmps95
  go_wp2_with (at_make; refine wpList_make_blk rfl (.tmp 6) (.tmp 6) 44 rfl w.heap.size 2 i0 (.int .i64 0) 8 Tryd.underlying44 hi hz0 hz1 hz2 rfl _ _ _ _ l.length rfl rfl rfl rfl (by omega) (by omega) hbel.out (Nat.le_refl _) ?_; intro w1 hr1 hb1; replace hr1 := Lib.hid hr1; replace hb1 := Lib.hid hb1)
  have hr0 := Lib.hid (show Blk w1 w.heap.size 2 (fill (l.map intV) 0 (.int .i64 0)) by rw [fill_zero, List.length_map]; exact hr1.out)
  clear hr1
  go_loopw [4] (fun i wr => ∃ k : Nat, k ≤ l.length ∧ i = .int .i64 k ∧ Blk wr w.heap.size 2 (fill (l.map intV) k (.int .i64 0)) ∧ Below w.heap.size w wr) (fun i _ => l.length - (intOf i).toNat)
  case atStart => exact ⟨0, Nat.zero_le _, rfl, hr0.out, hb1.out⟩
  case round =>
    obtain ⟨k, hk, rfl, hr, hb⟩ := hrel
    have hwlt := hr.lt
    by_cases hlt : k < l.length
    · obtain ⟨b, off, rfl, hbk, hck⟩ := (hv'.out.below hb).at_ k hlt
      have hbw : b < w.heap.size := by
        obtain ⟨b', off', e, h1, _⟩ := hv'.out.at_ k hlt
        cases e; exact h1
      have hlt' : (k : Int) < (l.length : Int) := by omega
      have hcd := hr.cell k (by rw [fill_len, List.length_map]; exact hlt)
      have hfd := hr.free k
      have hr2 := hr.set k (.int .i64 l[k])
      rw [fill_set _ _ _ (by rw [List.length_map]; exact hlt) _ (by simp [intV])] at hr2
      have hb2 := hb.setCell (p := ⟨w.heap.size, k, none⟩) (Nat.le_refl _) (.int .i64 l[k])
      replace hr2 := Lib.hid hr2
      replace hb2 := Lib.hid hb2
      clear hr hb
      go_wp2
      go_roundw
      case rel => exact ⟨k + 1, by omega, by go_num, hr2.out, hb2.out⟩
      case measure => simp [intOf]; omega
    · have hlt' : ¬ (k : Int) < (l.length : Int) := by omega
      rw [fill_all _ _ _ (by rw [List.length_map]; omega)] at hr
      replace hr := Lib.hid hr
      replace hb := Lib.hid hb
      go_wp2
      go_ret
      exact ⟨_, _, rfl, hr.out.own rfl hl1 (Nat.le_refl _), hb.out⟩
/-- A Lab copied. -/
def LabEnd (base : Nat) (t : ByteArray) (l : List Int) (w : World) (e : Ending) (w' : World) : Prop := ∃ A cap, e = .returned (.agg #[.string t, .slice A l.length cap]) ∧ OwnInts w' base (.slice A l.length cap) l ∧ Below base w w'
theorem OwnInts.setCell {w : World} {base : Nat} {v : Value} {l : List Int} (h : OwnInts w base v l) (g i : Nat) (u : Value) (hg : g < base) : OwnInts (w.setCell ⟨g, i, none⟩ u) base v l :=
  h.kept (row := some g) ⟨rfl, rfl, rfl, by simp [World.setCell], fun k _ hne => Below.heap_setCell w ⟨g, i, none⟩ u k (fun e => hne (by rw [e]))⟩ (by
    right; intro e
    have := (h.2.lt _ e).1
    omega)
set_option maxHeartbeats 1000000 in
theorem toLab_any (t : ByteArray) (v : Value) (l : List Int) (w : World) (hv : Ints w v l) :
    Calls Tryd.prog 68 #[.agg #[.string t, v]] w (LabEnd w.heap.size t l w) := by
  obtain ⟨A, cap, rfl⟩ := hv.form
  have hv' := Lib.hid hv
  clear hv
  go_enter Tryd.func68, Tryd.ntmps68
  go_wp2_with (go_at_call 95; refine (toInts_any _ l _ (((hv'.out.alloc _).alloc _).alloc _)).mono ?_; rintro e w1 ⟨A2, cap2, rfl, ho, hb⟩; obtain ⟨hc, hf⟩ := bcell hb; have hz := hb.size; simp only [World.size_alloc] at hz; replace ho := Lib.hid ho; replace hb := Lib.hid hb)
  refine bodyPost_ret (v := .agg #[.string t, .slice A2 l.length cap2]) (by simp [results, Tryd.results68, go_sem, hc]) rfl ⟨_, _, rfl, ?_, ?_⟩
  · exact (((ho.out.setCell _ _ _ (by simp)).setCell _ _ _ (by simp)).setCell _ _ _ (by simp)).mono (by simp; omega)
  · exact (((((((Below.refl _ _).alloc (Nat.le_refl _) _).alloc (by simp) _).alloc (by simp; omega) _).trans (hb.out.mono (by simp; omega))).setCell (by simp; omega) _).setCell (by simp) _).setCell (by simp) _
/-- Two Labs that are alike. -/
def alikeB (t s : ByteArray) (l m : List Int) : Bool := decide (t = s) && intsB l m
theorem alike_yes {t s : ByteArray} {l m : List Int} (h : t = s) : alikeB t s l m = intsB l m := by simp [alikeB, h]
theorem alike_no {t s : ByteArray} {l m : List Int} (h : ¬ t = s) : alikeB t s l m = false := by simp [alikeB, h]
theorem alike_same (t : ByteArray) (l : List Int) : alikeB t t l l = true := by simp [alikeB, intsB]
set_option maxHeartbeats 1000000 in
theorem eqLab_any (t s : ByteArray) (v u : Value) (l m : List Int) (w : World) (hv : Ints w v l) (hu : Ints w u m) :
    Calls Tryd.prog 76 #[.agg #[.string t, v], .agg #[.string s, u]] w (LookEnd (alikeB t s l m) w) := by
  have hbb := Lib.hid (fun (o1 o2 : Obj) => ((Below.refl w.heap.size w).alloc (Nat.le_refl _) o1).alloc (by simp) o2)
  obtain ⟨A, cap, rfl⟩ := hv.form
  obtain ⟨A2, cap2, rfl⟩ := hu.form
  have hv' := Lib.hid hv
  have hu' := Lib.hid hu
  clear hv hu
  by_cases h0 : t = s
  · subst h0
    have e := Lib.hid (alike_yes (t := t) (s := t) (l := l) (m := m) rfl)
    go_enter Tryd.func76, Tryd.ntmps76
    by_cases hi : intsB l m = true
    · go_wp2_with (go_at_call 102; refine (eqInts_any _ _ l m _ ((hv'.out.alloc _).alloc _) ((hu'.out.alloc _).alloc _)).mono ?_; rintro e w1 ⟨rfl, hb⟩; replace hb := Lib.hid hb)
      go_ret
      exact LookEnd.of (by rw [e.out, hi]) (Below.then_ (hbb.out _ _) hb.out (Nat.le_refl _))
    · have hi' : intsB l m = false := by simpa using hi
      clear hi
      go_wp2_with (go_at_call 102; refine (eqInts_any _ _ l m _ ((hv'.out.alloc _).alloc _) ((hu'.out.alloc _).alloc _)).mono ?_; rintro e w1 ⟨rfl, hb⟩; replace hb := Lib.hid hb)
      go_ret
      exact LookEnd.of (by rw [e.out, hi']) (Below.then_ (hbb.out _ _) hb.out (Nat.le_refl _))
  · have h1 := str_ne h0
    have e := Lib.hid (alike_no (l := l) (m := m) h0)
    clear h0
    go_enter Tryd.func76, Tryd.ntmps76
    go_wp2
    go_ret
    exact LookEnd.of e.out.symm (hbb.out _ _)
/-- k, k + 1, ..: n of them. -/
def seqI (k n : Nat) : List Int := (List.range n).map fun i => ((k + i : Nat) : Int)
theorem seqI_len (k n : Nat) : (seqI k n).length = n := by simp [seqI]
theorem seqI_at (k n i : Nat) (h : i < (seqI k n).length) : (seqI k n)[i] = ((k + i : Nat) : Int) := by simp [seqI]
theorem seqI_succ (k n : Nat) : seqI k (n + 1) = seqI k n ++ [((k + n : Nat) : Int)] := by simp [seqI, List.range_succ]
theorem mark_set {l : List Int} {k i : Nat} (hi : i < l.length) : ((seqI k i ++ l.drop i).map intV).set i (.int .i64 ((k + i : Nat) : Int)) = (seqI k (i + 1) ++ l.drop (i + 1)).map intV := by
  have e3 : i - (List.map intV (seqI k i)).length = 0 := by rw [List.length_map, seqI_len]; omega
  rw [List.map_append, List.set_append, if_neg (by rw [List.length_map, seqI_len]; omega), List.drop_eq_getElem_cons hi, List.map_cons, e3, List.set_cons_zero, seqI_succ, List.append_assoc, List.map_append]
  rfl
/-- A row marked: it holds k, k + 1, .. now, and nothing else has turned. -/
def MarkEnd (base k n : Nat) (v : Value) (w : World) (e : Ending) (w' : World) : Prop := e = .returned (.int .i64 ((k + n : Nat) : Int)) ∧ OwnInts w' base v (seqI k n) ∧ w.grownBy w' v.ownBlock
set_option maxHeartbeats 1000000 in
theorem markInts_any (v : Value) (l : List Int) (k base : Nat) (w : World) (hk : k ≤ 40000000) (hv : OwnInts w base v l) :
    Calls Tryd.prog 103 #[v, .int .i64 (k : Int)] w (MarkEnd base k l.length v w) := by
  have hl1 := hv.1
  rcases hv.2.2 with ⟨rfl, hn⟩ | ⟨g, cap, cur, rfl, hbg, hh, hnc, hcm, hcs, ht⟩
  · have hl0 : l = [] := List.eq_nil_of_length_eq_zero hn
    subst hl0
    have hv' := Lib.hid hv
    clear hv
    go_enter Tryd.func103, Tryd.ntmps103
    go_wp2
    go_loop [1, 5] (fun i j => i = .int .i64 (k : Int) ∧ j = .int .i64 ((0 : Nat) : Int)) (fun _ j => 0)
    case atStart => exact ⟨rfl, rfl⟩
    case round =>
      obtain ⟨rfl, rfl⟩ := hrel
      go_wp2
      go_ret
      exact ⟨rfl, hv'.out, World.grownBy.refl w _⟩
  · have hv' := Lib.hid hv.2
    clear hv hh ht hcs
    go_enter Tryd.func103, Tryd.ntmps103
    go_wp2
    go_loopw [1, 5] (fun i j wr => ∃ n : Nat, n ≤ l.length ∧ i = .int .i64 ((k + n : Nat) : Int) ∧ j = .int .i64 (n : Int) ∧ wr.ownsRow base 2 1 (.slice (some ⟨g, 0, none⟩) l.length cap) l.length ((seqI k n ++ l.drop n).map intV) ∧ w.grownBy wr (some g)) (fun _ j _ => l.length - (intOf j).toNat)
    case atStart => exact ⟨0, Nat.zero_le _, rfl, rfl, by simpa [seqI] using hv'.out, World.grownBy.refl w _⟩
    case round =>
      obtain ⟨n, hn, rfl, rfl, ho, hg⟩ := hrel
      by_cases hlt : n < l.length
      · have hlt' : (n : Int) < (l.length : Int) := by omega
        have hcd := ho.cellAt n (by omega)
        have hfd := ho.frozenAt n
        obtain ⟨ho2, hg2⟩ := ho.stored n (.int .i64 ((k + n : Nat) : Int))
        rw [mark_set hlt] at ho2
        have hx : ∃ x, wr.cell? ⟨g, n, none⟩ = some x := ⟨_, hcd.trans (List.getElem?_eq_getElem (by rw [List.length_map, List.length_append, seqI_len, List.length_drop]; omega))⟩
        obtain ⟨x, hx⟩ := hx
        replace ho2 := Lib.hid ho2
        have hg3 := Lib.hid (hg.trans hg2)
        clear ho hcd hg hg2
        go_wp2
        go_roundw
        case rel => exact ⟨n + 1, by omega, by go_num, by go_num, ho2.out, hg3.out⟩
        case measure => simp [intOf]; omega
      · have hlt' : ¬ (n : Int) < (l.length : Int) := by omega
        obtain rfl : n = l.length := by omega
        have ho' := Lib.hid ho
        have hg' := Lib.hid hg
        clear ho hg
        go_wp2
        go_ret
        exact ⟨rfl, ⟨by rw [seqI_len]; exact hl1, by rw [seqI_len]; simpa using ho'.out⟩, hg'.out⟩
end Go.Proofs.YtbadpmghlclfkaaDoor
namespace Go.Proofs.YtbadpmghlclfkaaDoor
open Go.RowKit

def HeldEnd (n : Nat) (w : World) (e : Ending) (w' : World) : Prop := e = .returned (.int .i64 (n : Int)) ∧ Below w.heap.size w w'
set_option maxHeartbeats 1000000 in
theorem heldInts_any (v : Value) (n k : Nat) (w : World) (hk : k ≤ 40000000) (hv : Ints w v (seqI k n)) :
    Calls Tryd.prog 118 #[v, .int .i64 (k : Int)] w (HeldEnd (k + n) w) := by
  have hl1 := hv.1
  obtain ⟨A, cap, rfl⟩ := hv.form
  rw [seqI_len] at hl1
  have hat : ∀ i, i < n → ∃ b off, A = some ⟨b, off, none⟩ ∧ b < w.heap.size ∧ w.cell? ⟨b, off + i, none⟩ = some (.int .i64 ((k + i : Nat) : Int)) := by
    intro i hi
    obtain ⟨b, off, h1, h2, h3⟩ := hv.at_ i (by rw [seqI_len]; exact hi)
    rw [seqI_at] at h3
    exact ⟨b, off, h1, h2, h3⟩
  rw [seqI_len] at hv ⊢
  have hat' := Lib.hid hat
  clear hat hv
  go_enter Tryd.func118, Tryd.ntmps118
  go_wp2
  go_loop [1, 5] (fun i j => ∃ m : Nat, m ≤ n ∧ i = .int .i64 ((k + m : Nat) : Int) ∧ j = .int .i64 (m : Int)) (fun _ j => n - (intOf j).toNat)
  case atStart => exact ⟨0, Nat.zero_le _, rfl, rfl⟩
  case round =>
    obtain ⟨m, hm, rfl, rfl⟩ := hrel
    by_cases hlt : m < n
    · have hlt' : (m : Int) < (n : Int) := by omega
      obtain ⟨b, off, rfl, hbk, hck⟩ := hat'.out m hlt
      go_wp2
      go_round
      case rel => exact ⟨m + 1, by omega, by go_num, by go_num⟩
      case measure => simp [intOf]; omega
    · have hlt' : ¬ (m : Int) < (n : Int) := by omega
      obtain rfl : m = n := by omega
      go_wp2
      go_ret
      exact ⟨rfl, Below.refl _ _⟩
theorem grown_alloc {w w' : World} {o : Obj} {row : Option Nat} (h : (w.alloc o).grownBy w' row) : w.grownBy w' row := (World.grownBy_alloc w o row).trans h
theorem OwnInts.alloc {w : World} {base : Nat} {v : Value} {l : List Int} (h : OwnInts w base v l) (o : Obj) : OwnInts (w.alloc o) base v l := h.below ((Below.refl _ _).alloc (Nat.le_refl _) _)
theorem OwnInts.form {w : World} {base : Nat} {v : Value} {l : List Int} (h : OwnInts w base v l) : ∃ A cap, v = .slice A l.length cap := h.ints.form
set_option maxHeartbeats 1000000 in
theorem markLab_any (t : ByteArray) (v : Value) (l : List Int) (k base : Nat) (w : World) (hk : k ≤ 40000000) (hv : OwnInts w base v l) :
    Calls Tryd.prog 78 #[.agg #[.string t, v], .int .i64 (k : Int)] w (MarkEnd base k l.length v w) := by
  obtain ⟨A, cap, rfl⟩ := hv.form
  have hv' := Lib.hid hv
  clear hv
  go_enter Tryd.func78, Tryd.ntmps78
  go_wp2_with (go_at_call 103; refine (markInts_any _ l k base _ hk (hv'.out.alloc _)).mono ?_; rintro e w1 ⟨rfl, ho, hg⟩; replace ho := Lib.hid ho; replace hg := Lib.hid hg)
  go_ret
  exact ⟨rfl, ho.out, grown_alloc hg.out⟩
set_option maxHeartbeats 1000000 in
theorem heldLab_any (t : ByteArray) (v : Value) (n : Nat) (k : Nat) (w : World) (hk : k ≤ 40000000) (hv : Ints w v (seqI k n)) :
    Calls Tryd.prog 104 #[.agg #[.string t, v], .int .i64 (k : Int)] w (HeldEnd (k + n) w) := by
  obtain ⟨A, cap, rfl⟩ := hv.form
  have hl1 := hv.1
  rw [seqI_len] at hl1
  have hv' := Lib.hid hv
  clear hv
  have hbb := Lib.hid (fun (o1 : Obj) => ((Below.refl w.heap.size w).alloc (Nat.le_refl _) o1))
  go_enter Tryd.func104, Tryd.ntmps104
  go_wp2_with (go_at_call 118; refine (heldInts_any _ n k _ hk (hv'.out.alloc _)).mono ?_; rintro e w1 ⟨rfl, hb⟩; replace hb := Lib.hid hb)
  go_ret
  exact ⟨rfl, Below.then_ (hbb.out _) hb.out (Nat.le_refl _)⟩
end Go.Proofs.YtbadpmghlclfkaaDoor
namespace Go.Proofs.YtbadpmghlclfkaaDoor
open Go.RowKit

theorem float_all : ((List.range 256).all fun n => floatToIntVal .f64 (floatOfInt .f64 (n : Int)) .u8 == some (n : Int)) = true := by decide +kernel
theorem float_marks : ((List.range 16).all fun n => floatToIntVal .f64 (floatOfInt .f64 (n : Int)) .i64 == some (n : Int)) = true := by decide +kernel
theorem float_byte (n : Nat) (h : n < 256) : floatToIntVal .f64 (floatOfInt .f64 (n : Int)) .u8 = some (n : Int) := by
  have := List.all_eq_true.1 float_all n (by simpa using h)
  simpa using this
theorem float_mark (n : Nat) (h : n < 16) : floatToIntVal .f64 (floatOfInt .f64 (n : Int)) .i64 = some (n : Int) := by
  have := List.all_eq_true.1 float_marks n (by simpa using h)
  simpa using this
/-- A cell: a byte and its mark. -/
def cellV (c : UInt8) (m : Int) : Value := .complex .f64 (floatOfInt .f64 (c.toNat : Int)) (floatOfInt .f64 m)
/-- The cells of a text and its marks. -/
def cellsL (T : List UInt8) (l : List Int) : List Value := List.zipWith cellV T l
theorem cellsL_len (T : List UInt8) (l : List Int) (h : T.length = l.length) : (cellsL T l).length = l.length := by simp [cellsL, h]
theorem cellsL_at (T : List UInt8) (l : List Int) (k : Nat) (h : k < (cellsL T l).length) (h1 : k < T.length) (h2 : k < l.length) : (cellsL T l)[k] = cellV T[k] l[k] := by simp [cellsL]
theorem cellsL_append {T S : List UInt8} {l m : List Int} (h : T.length = l.length) : cellsL T l ++ cellsL S m = cellsL (T ++ S) (l ++ m) := (List.zipWith_append h).symm
/-- A slice that reads as these cells. -/
def Reads (w : World) (v : Value) (cs : List Value) : Prop :=
  ∃ A cap, v = .slice A cs.length cap ∧ (0 < cs.length → ∃ b off, A = some ⟨b, off, none⟩ ∧ ∀ i (h : i < cs.length), w.cell? ⟨b, off + i, none⟩ = some cs[i])
theorem Reads.at_ {w : World} {A : Option Addr} {n cap : Nat} {cs : List Value} (h : Reads w (.slice A n cap) cs) (k : Nat) (hk : k < cs.length) : ∃ b off, A = some ⟨b, off, none⟩ ∧ b < w.heap.size ∧ w.cell? ⟨b, off + k, none⟩ = some cs[k] := by
  obtain ⟨A', cap', e, h2⟩ := h
  cases e
  obtain ⟨b, off, rfl, hc⟩ := h2 (by omega)
  exact ⟨b, off, rfl, World.block_lt_of_cell? w _ (hc k hk), hc k hk⟩
theorem Reads.form {w : World} {v : Value} {cs : List Value} (h : Reads w v cs) : ∃ A cap, v = .slice A cs.length cap := by
  obtain ⟨A, cap, rfl, h2⟩ := h; exact ⟨A, cap, rfl⟩
theorem Reads.below {w w' : World} {v : Value} {cs : List Value} (h : Reads w v cs) (k : Below w.heap.size w w') : Reads w' v cs := by
  obtain ⟨A, cap, rfl, h2⟩ := h
  refine ⟨A, cap, rfl, fun h0 => ?_⟩
  obtain ⟨b, off, rfl, hc⟩ := h2 h0
  exact ⟨b, off, rfl, fun i hi => cell_below k (Nat.le_refl _) _ _ (hc i hi)⟩
theorem Reads.alloc {w : World} {v : Value} {cs : List Value} (h : Reads w v cs) (o : Obj) : Reads (w.alloc o) v cs := h.below ((Below.refl _ _).alloc (Nat.le_refl _) _)
theorem Blk.reads {w : World} {g n cap : Nat} {t : TypeId} {cs : List Value} (h : Blk w g t cs) (hn : n = cs.length) : Reads w (.slice (some ⟨g, 0, none⟩) n cap) cs := by
  subst hn
  exact ⟨_, _, rfl, fun _ => ⟨g, 0, rfl, fun i hi => by rw [Nat.zero_add]; exact h.cell i hi⟩⟩
theorem Blk.part {w : World} {g f e c : Nat} {t : TypeId} {cs : List Value} (h : Blk w g t cs) (h1 : f ≤ e) (h2 : e ≤ cs.length) : Reads w (.slice (some ⟨g, f, none⟩) (e - f) c) ((cs.drop f).take (e - f)) := by
  have hl : ((cs.drop f).take (e - f)).length = e - f := by simp; omega
  refine ⟨_, _, by rw [hl], fun _ => ⟨g, f, rfl, fun i hi => ?_⟩⟩
  rw [h.cell (f + i) (by omega)]
  simp
theorem Blk.other {w : World} {g g' i : Nat} {t : TypeId} {cs : List Value} (h : Blk w g t cs) (hne : g ≠ g') (u : Value) : Blk (w.setCell ⟨g', i, none⟩ u) g t cs := (Below.heap_setCell w ⟨g', i, none⟩ u g hne).trans h
theorem Reads.empty (w : World) (A : Option Addr) (cap : Nat) : Reads w (.slice A 0 cap) [] := ⟨A, cap, rfl, fun h => by simp at h⟩
theorem own_reads {w : World} {base : Nat} {e : TypeId} {v : Value} {cs : List Value} (h : w.ownsRow base e 1 v cs.length cs) : Reads w v cs := by
  have hc := fun (g : Nat) (hg : v.ownBlock = some g) => World.ownsRow.cells h hg
  rcases h.2 with ⟨rfl, hn⟩ | ⟨g, cap, cur, rfl, hb, hh, hnc, hcm, hcs, ht⟩
  · exact ⟨none, 0, by rw [hn], fun h0 => by omega⟩
  · refine ⟨_, cap, rfl, fun h0 => ⟨g, 0, rfl, fun i hi => ?_⟩⟩
    have := hc g rfl i cs[i] (List.getElem?_eq_getElem hi)
    have e1 : (⟨g, 0, none⟩ : Addr).add i = ⟨g, 0 + i, none⟩ := by unfold Addr.add; split <;> simp_all
    rw [← e1]; exact this
theorem bytesOf_data (t : ByteArray) : bytesOf t.data.toList = t := by cases t; simp [bytesOf]
theorem strV_of (l : List UInt8) : strV l = .string (bytesOf l) := rfl
theorem Blk.string {P : Program} {w : World} {g n cap : Nat} {src dst e t : TypeId} {l : List UInt8} (hs : P.underlying src = some (.slice e)) (he : P.underlying e = some (.int .u8)) (hd : P.underlying dst = some .string)
    (h : Blk w g t (l.map byteV)) (hn : l.length = n) : (convert src dst (.slice (some ⟨g, 0, none⟩) n cap)).run P w = .ok (.string (bytesOf l)) w :=
  block_string hs he hd h hn fun j hj => by simp [List.getElem?_eq_getElem hj]
theorem Tryd.infoB5 : (Tryd.prog.info? 5).map (fun i => (i.zero, i.size, i.bytes)) = some (some (.int .u8 0), 1, 1) := by kernel_rfl

theorem str_at (t : ByteArray) (k : Nat) (_h : k < t.size) (h2 : k < t.data.toList.length) : t.data.toList[k] = t[k] := rfl
end Go.Proofs.YtbadpmghlclfkaaDoor
