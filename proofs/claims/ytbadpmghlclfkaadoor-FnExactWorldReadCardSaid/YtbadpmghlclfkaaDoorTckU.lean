/- Rows of ticks that a call answers: carried over what else is written, marked, looked at again. -/
import Derived.Test.YtbadpmghlclfkaaDoorTckN
import Derived.Test.YtbadpmghlclfkaaDoorVaultK
import Derived.Test.YtbadpmghlclfkaaDoorTckT
import Derived.Deep.RegionHeld3
namespace Go.Proofs.YtbadpmghlclfkaaDoor
open Go.RowKit

/-- A row of ticks of the call's own, in a block from lo on and below hi. -/
def OwnK (w : World) (lo hi : Nat) (v : Value) (l : List Tik) : Prop := OwnTRow w lo v l ∧ (∀ k, v.ownBlock = some k → k < hi) ∧ l.length ≤ 1048576 ∧ ∀ x ∈ l, TikWf x
theorem OwnK.new {w : World} {lo base : Nat} {v : Value} {l : List Tik} (h : OwnTRow w base v l) (hb : lo ≤ base) (hl : l.length ≤ 1048576) (hwf : ∀ x ∈ l, TikWf x) : OwnK w lo w.heap.size v l := by
  refine ⟨h.low hb, fun k e => ?_, hl, hwf⟩
  rcases h.2 with ⟨rfl, _⟩ | ⟨g, cap, cur, rfl, _, hg, _⟩
  · simp [Value.ownBlock] at e
  · simp [Value.ownBlock] at e
    subst e
    exact lt_of_block hg
theorem OwnK.below {w w' : World} {lo hi : Nat} {v : Value} {l : List Tik} (h : OwnK w lo hi v l) (k : Below w.heap.size w w') : OwnK w' lo hi v l := ⟨h.1.below k, h.2⟩
theorem OwnK.alloc {w : World} {lo hi : Nat} {v : Value} {l : List Tik} (h : OwnK w lo hi v l) (o : Obj) : OwnK (w.alloc o) lo hi v l := ⟨h.1.alloc o, h.2⟩
theorem OwnK.drew {w : World} {lo hi : Nat} {v : Value} {l : List Tik} (h : OwnK w lo hi v l) : OwnK w.drew lo hi v l := h
theorem OwnK.tiks {w : World} {lo hi : Nat} {v : Value} {l : List Tik} (h : OwnK w lo hi v l) : Tiks w v l := h.1.tiks h.2.2.1 h.2.2.2
theorem OwnK.far {w : World} {lo hi k : Nat} {v : Value} {l : List Tik} (h : OwnK w lo hi v l) (e : v.ownBlock = some k) : lo ≤ k ∧ k < hi := ⟨h.1.base e, h.2.1 k e⟩
theorem OwnK.apart {w w' : World} {lo hi lo2 hi2 : Nat} {v u : Value} {l m : List Tik} (h : OwnK w lo hi v l) (hg : w.grownBy w' u.ownBlock) (k : OwnK w lo2 hi2 u m) (hd : hi ≤ lo2 ∨ hi2 ≤ lo) : OwnK w' lo hi v l := by
  refine ⟨World.ownsRow.kept h.1 hg ?_, h.2⟩
  cases hv : v.ownBlock with
  | none => exact .inl rfl
  | some a =>
    right
    intro e
    have h1 := h.far hv
    have h2 := k.far e.symm
    omega
theorem OwnK.blk {w w' : World} {lo hi g : Nat} {u : Value} {m : List Tik} {t : TypeId} {cs : List Value} (k : OwnK w lo hi u m) (hg : w.grownBy w' u.ownBlock) (h : Blk w g t cs) (hd : g < lo ∨ hi ≤ g) : Blk w' g t cs := by
  refine (hg.block g h.lt ?_).trans h
  intro e
  have h2 := k.far e.symm
  omega
theorem OwnK.stays {w0 w w' : World} {b lo hi : Nat} {u : Value} {m : List Tik} (k : OwnK w lo hi u m) (hg : w.grownBy w' u.ownBlock) (h : Below b w0 w) (hb : b ≤ lo ∧ b ≤ w.heap.size) : Below b w0 w' :=
  h.grown hg hb.2 fun _ e => Nat.le_trans hb.1 (k.far e).1
theorem OwnK.marked {w w' : World} {lo hi : Nat} {u : Value} {m m' : List Tik} (_k : OwnK w lo hi u m) (h : OwnK w' lo hi u m') : OwnK w' lo hi u m' := h
theorem OwnK.form {w : World} {lo hi : Nat} {v : Value} {l : List Tik} (h : OwnK w lo hi v l) : ∃ A cap, v = .slice A l.length cap := h.1.form
/-- A tick of marks, from k on; a row of such. -/
def markK (k : Nat) : Tik := ⟨(k : Int), ((k + 1 : Nat) : Int), noteT (k + 2)⟩
def markTs (k n : Nat) : List Tik := (List.range n).map fun i => markK (k + 3 * i)
theorem markTs_len (k n : Nat) : (markTs k n).length = n := by simp [markTs]
theorem markTs_at (k n i : Nat) (h : i < (markTs k n).length) : (markTs k n)[i] = markK (k + 3 * i) := by simp [markTs]
theorem markTs_succ (k n : Nat) : markTs k (n + 1) = markTs k n ++ [markK (k + 3 * n)] := by simp [markTs, List.range_succ]
theorem markK_wf (k : Nat) (hk : k ≤ 100000000) : TikWf (markK k) := by
  have h2 := noteT_size (k + 2)
  unfold TikWf markK maxLen int64B
  exact ⟨by show (noteT (k + 2)).size ≤ _; omega, by dsimp only; omega, by dsimp only; omega⟩
theorem markTs_wf (k n : Nat) (h : k + 3 * n ≤ 100000000) : ∀ x ∈ markTs k n, TikWf x := by
  intro x hx
  obtain ⟨i, hi, rfl⟩ := List.mem_map.1 hx
  exact markK_wf _ (by have := List.mem_range.1 hi; omega)
/-- One more tick of a row is marked. -/
theorem markTs_set {k i : Nat} {l : List Tik} (hi : i < l.length) (rest : List Value) :
    (((tikRow (markTs k i ++ l.drop i) ++ rest).set (i * 3) (.int .i64 ((k + 3 * i : Nat) : Int))).set (i * 3 + 1) (.int .i64 ((k + 3 * i + 1 : Nat) : Int))).set (i * 3 + 2) (.string (noteT (k + 3 * i + 2)))
      = tikRow (markTs k (i + 1) ++ l.drop (i + 1)) ++ rest := by
  have e1 : tikRow (markTs k i ++ l.drop i) ++ rest = tikRow (markTs k i) ++ (tikV l[i] ++ (tikRow (l.drop (i + 1)) ++ rest)) := by
    rw [List.drop_eq_getElem_cons hi]; unfold tikRow; rw [List.flatMap_append, List.flatMap_cons]; simp only [List.append_assoc]
  have e2 : tikRow (markTs k (i + 1) ++ l.drop (i + 1)) ++ rest = tikRow (markTs k i) ++ (tikV (markK (k + 3 * i)) ++ (tikRow (l.drop (i + 1)) ++ rest)) := by
    rw [markTs_succ]; unfold tikRow; rw [List.flatMap_append, List.flatMap_append, List.flatMap_cons, List.flatMap_nil, List.append_nil]; simp only [List.append_assoc]
  have hl : (tikRow (markTs k i)).length = i * 3 := by rw [tikRow_len, markTs_len]
  rw [e1, e2]
  rw [List.set_append, if_neg (by omega), hl, Nat.sub_self, List.set_append, if_neg (by omega), hl, show i * 3 + 1 - i * 3 = 1 by omega, List.set_append, if_neg (by omega), hl, show i * 3 + 2 - i * 3 = 2 by omega]
  rfl
/-- A row marked. -/
def MarkedK (lo hi k n : Nat) (v : Value) (w : World) (e : Ending) (w' : World) : Prop := e = .returned (.int .i64 ((k + 3 * n : Nat) : Int)) ∧ OwnK w' lo hi v (markTs k n) ∧ w.grownBy w' v.ownBlock
set_option maxHeartbeats 2000000 in
theorem markTicks_any (v : Value) (l : List Tik) (k lo hi : Nat) (w : World) (hk : k + 3 * l.length ≤ 10000000) (h1 : 1 ≤ k) (hv : OwnK w lo hi v l) :
    Calls Tryd.prog 60 #[v, .int .i64 (k : Int)] w (MarkedK lo hi k l.length v w) := by
  obtain ⟨hrow, hhi, hl, hwf⟩ := hv
  rcases hrow.2 with ⟨rfl, hn⟩ | ⟨g, cap, cur, rfl, hbg, hgg, hnc, hcm, hcs, ht⟩
  · have hnil : l = [] := List.eq_nil_of_length_eq_zero hn
    subst hnil
    go_enter Tryd.func60, Tryd.ntmps60
    go_wp2
    refine wp_loop_rounds 1 ?_
    rw [rounds_succ]
    go_wp2
    go_ret
    exact ⟨rfl, ⟨OwnTRow.nil _ _, hhi, by simp [markTs], by simp [markTs]⟩, World.grownBy.refl _ _⟩
  · obtain ⟨rest, hrest⟩ : ∃ rest, cur.toList = tikRow l ++ rest := ⟨cur.toList.drop (l.length * 3), by rw [← ht, List.take_append_drop]⟩
    have hrl := Lib.hid (show l.length * 3 + rest.length = cap * 3 by
      have h := congrArg List.length hrest
      rw [List.length_append, tikRow_len] at h
      simp at h
      omega)
    replace hgg := Lib.hid (show Blk w g 31 (tikRow (markTs k 0 ++ l.drop 0) ++ rest) by
      unfold Blk
      rw [show tikRow (markTs k 0 ++ l.drop 0) ++ rest = cur.toList from hrest.symm]
      exact hgg)
    clear ht hcs hrest hrow hwf
    replace hhi := Lib.hid hhi
    go_enter Tryd.func60, Tryd.ntmps60
    go_wp2
    go_loopw [1, 5] (fun u j wr => ∃ i : Nat, i ≤ l.length ∧ j = .int .i64 (i : Int) ∧ u = .int .i64 ((k + 3 * i : Nat) : Int) ∧ Hid (Blk wr g 31 (tikRow (markTs k i ++ l.drop i) ++ rest)) ∧ Hid (w.grownBy wr (some g))) (fun _ j _ => l.length - (intOf j).toNat)
    case atStart => exact ⟨0, Nat.zero_le _, rfl, rfl, hgg, Lib.hid (World.grownBy.refl _ _)⟩
    case round =>
      clear hgg
      obtain ⟨i, hil0, rfl, rfl, hr, hg⟩ := hrel
      have hlen := Lib.hid (show (tikRow (markTs k i ++ l.drop i) ++ rest).length = l.length * 3 + rest.length by rw [List.length_append, tikRow_len, List.length_append, markTs_len, List.length_drop, Nat.add_sub_cancel' hil0])
      by_cases hlt : i < l.length
      · have hlt' : (i : Int) < (l.length : Int) := by omega
        have hset := markTs_set (k := k) hlt rest
        obtain ⟨K, hK⟩ : ∃ K, K = k + 3 * i := ⟨_, rfl⟩
        rw [← hK]
        rw [← hK, show ((K + 1 : Nat) : Int) = (K : Int) + 1 from rfl] at hset
        replace hset := Lib.hid hset
        have hKb : K ≤ 10000000 ∧ 1 ≤ K := by omega
        replace hK := Lib.hid hK
        have d0 := hr.out.cell (i * 3) (by rw [hlen.out]; omega)
        have d1 := hr.out.cell (i * 3 + 1) (by rw [hlen.out]; omega)
        have f0 := hr.out.free (i * 3)
        have f1 := hr.out.free (i * 3 + 1)
        go_wp2_with (go_at_call 79; refine (markText_at _ (K + 2) _ (by omega) (by omega) (by omega)).mono ?_; rintro e w3 ⟨rfl, hb3⟩; replace hr := Lib.hid (((hr.out.set (i * 3) (.int .i64 (K : Int))).set (i * 3 + 1) (.int .i64 ((K : Int) + 1))).up hb3); replace hg := Lib.hid (grown_up (grown_put (grown_put hg.out (i * 3) (.int .i64 (K : Int))) (i * 3 + 1) (.int .i64 ((K : Int) + 1))) hb3); clear hb3 d0 d1 f0 f1; have d2 := hr.out.cell (i * 3 + 2) (by rw [List.length_set, List.length_set, hlen.out]; omega); have f2 := hr.out.free (i * 3 + 2))
        have hr5 := hr.out.set (i * 3 + 2) (.string (noteT (K + 2)))
        rw [hset.out] at hr5
        replace hr5 := Lib.hid hr5
        have hg5 := Lib.hid (grown_put hg.out (i * 3 + 2) (.string (noteT (K + 2))))
        clear hr hg
        go_roundw
        case rel => exact ⟨i + 1, by omega, by go_num, by have := hK.out; congr 1; omega, hr5, hg5⟩
        case measure => simp [intOf]; omega
      · have hil : i = l.length := by omega
        subst hil
        have hO := Lib.hid (show OwnK wr lo hi (.slice (some ⟨g, 0, none⟩) l.length cap) (markTs k l.length) from ⟨⟨by rw [tikRow_len], .inr ⟨g, cap, _, by rw [markTs_len], hbg, hr.out, by rw [markTs_len]; exact hnc, hcm, by rw [List.size_toArray, hlen.out]; exact hrl.out, by rw [List.drop_of_length_le (Nat.le_refl _), List.append_nil, List.take_left' (by rw [tikRow_len])]⟩⟩, hhi.out, by rw [markTs_len]; exact hl, markTs_wf _ _ (by omega)⟩)
        clear hr
        go_wp2
        go_ret
        exact ⟨rfl, hO.out, hg.out⟩
set_option maxHeartbeats 4000000 in
theorem heldTicks_any (v : Value) (n k : Nat) (w : World) (hk : k + 3 * n ≤ 10000000) (h1 : 1 ≤ k) (hv : Tiks w v (markTs k n)) :
    Calls Tryd.prog 61 #[v, .int .i64 (k : Int)] w (Gives (.int .i64 ((k + 3 * n : Nat) : Int)) w) := by
  obtain ⟨A, cap, rfl⟩ := hv.form
  rw [markTs_len]
  have hv' := Lib.hid (show Tiks w (.slice A n cap) (markTs k n) by rw [markTs_len] at hv; exact hv)
  clear hv
  go_enter Tryd.func61, Tryd.ntmps61
  go_wp2
  go_loopw [1, 5] (fun u j wr => ∃ i : Nat, i ≤ n ∧ j = .int .i64 (i : Int) ∧ u = .int .i64 ((k + 3 * i : Nat) : Int) ∧ Hid (Below w.heap.size w wr)) (fun _ j _ => n - (intOf j).toNat)
  case atStart => exact ⟨0, Nat.zero_le _, rfl, rfl, Lib.hid (Below.refl _ _)⟩
  case round =>
    obtain ⟨i, hi, rfl, rfl, hb⟩ := hrel
    by_cases hlt : i < n
    · have hlt' : (i : Int) < (n : Int) := by omega
      obtain ⟨b, off, rfl, hbk, c0, c1, c2⟩ := (hv'.out.below hb.out).three i (by rw [markTs_len]; exact hlt)
      rw [markTs_at] at c0 c1 c2
      obtain ⟨K, hK⟩ : ∃ K, K = k + 3 * i := ⟨_, rfl⟩
      rw [← hK] at c0 c1 c2 ⊢
      have hKb : K ≤ 10000000 ∧ 1 ≤ K := by omega
      replace hK := Lib.hid hK
      replace c0 : wr.cell? ⟨b, off + i * 3, none⟩ = some (.int .i64 (K : Int)) := c0
      replace c1 : wr.cell? ⟨b, off + i * 3 + 1, none⟩ = some (.int .i64 ((K : Int) + 1)) := c1
      replace c2 : wr.cell? ⟨b, off + i * 3 + 2, none⟩ = some (.string (noteT (K + 2))) := c2
      go_wp2
      replace hb := Lib.hid (below_drew' hb.out)
      go_region_held3 (fun w' => w'.cell? ⟨b, off + i * 3 + 2, none⟩ = some (.string (noteT (K + 2)))) (first | exact c2 | go_keep)
        ((go_at_call 79; refine (markText_at _ (K + 2) _ (by omega) (by omega) (by omega)).mono ?_; rintro e w2 ⟨rfl, hb2⟩; replace c2 := cell_below hb2 (Nat.le_refl _) _ _ c2; replace hb := Lib.hid (Below.then_ hb.out hb2 (Nat.le_refl _)); clear hb2))
      go_wp2
      go_roundw
      case rel => exact ⟨i + 1, by omega, by go_num, by have := hK.out; congr 1; omega, hb⟩
      case measure => simp [intOf]; omega
    · have hil : i = n := by omega
      subst hil
      go_wp2
      go_ret
      exact ⟨rfl, hb.out⟩
set_option maxHeartbeats 2000000 in
theorem eqWorldOut_same (v u : Value) (l : List Tik) (c : Int) (w : World) (hv : Tiks w v l) (hu : Tiks w u l) :
    Calls Tryd.prog 22 #[.agg #[v, .int .i64 c], .agg #[u, .int .i64 c]] w (LookEnd true w) := by
  have hbb := Lib.hid (fun (o1 o2 : Obj) => ((Below.refl w.heap.size w).alloc (Nat.le_refl _) o1).alloc (by simp) o2)
  obtain ⟨A, cap, rfl⟩ := hv.form
  obtain ⟨A2, cap2, rfl⟩ := hu.form
  have hv' := Lib.hid hv
  have hu' := Lib.hid hu
  clear hv hu
  go_enter Tryd.func22, Tryd.ntmps22
  go_wp2_with (go_at_call 21; refine (eqTicks_same _ _ l _ ((hv'.out.alloc _).alloc _) ((hu'.out.alloc _).alloc _)).mono ?_; rintro e1 w1 ⟨rfl, hb⟩; obtain ⟨hc, hf⟩ := bcell hb; replace hb := Lib.hid hb)
  go_ret
  exact LookEnd.of rfl (Below.then_ (hbb.out _ _) hb.out (Nat.le_refl _))
set_option maxHeartbeats 1000000 in
theorem markWorldOut_any (v : Value) (l : List Tik) (c : Int) (k lo hi : Nat) (w : World) (hk : k + 3 * l.length ≤ 10000000) (h1 : 1 ≤ k) (hv : OwnK w lo hi v l) :
    Calls Tryd.prog 23 #[.agg #[v, .int .i64 c], .int .i64 (k : Int)] w (MarkedK lo hi k l.length v w) := by
  obtain ⟨A, cap, rfl⟩ := hv.form
  have hv' := Lib.hid hv
  clear hv
  go_enter Tryd.func23, Tryd.ntmps23
  go_wp2_with (go_at_call 60; refine (markTicks_any _ l k lo hi _ hk h1 (hv'.out.alloc _)).mono ?_; rintro e w1 ⟨rfl, ho, hg⟩; replace ho := Lib.hid ho; replace hg := Lib.hid hg)
  go_ret
  exact ⟨rfl, ho.out, (World.grownBy_alloc _ _ _).trans hg.out⟩
set_option maxHeartbeats 1000000 in
theorem heldWorldOut_any (v : Value) (n : Nat) (c : Int) (k : Nat) (w : World) (hk : k + 3 * n ≤ 10000000) (h1 : 1 ≤ k) (hv : Tiks w v (markTs k n)) :
    Calls Tryd.prog 24 #[.agg #[v, .int .i64 c], .int .i64 (k : Int)] w (Gives (.int .i64 ((k + 3 * n : Nat) : Int)) w) := by
  obtain ⟨A, cap, rfl⟩ := hv.form
  have hv' := Lib.hid hv
  clear hv
  have hbb := Lib.hid (fun (o1 : Obj) => ((Below.refl w.heap.size w).alloc (Nat.le_refl _) o1))
  obtain ⟨K, hK⟩ : ∃ K, K = k + 3 * n := ⟨_, rfl⟩
  have hC := Lib.hid (fun w v (h : Tiks w v (markTs k n)) => show Calls Tryd.prog 61 #[v, .int .i64 (k : Int)] w (Gives (.int .i64 (K : Int)) w) by rw [hK]; exact heldTicks_any v n k w hk h1 h)
  rw [← hK]
  clear hK
  go_enter Tryd.func24, Tryd.ntmps24
  go_wp2_with (go_at_call 61; refine (hC.out _ _ (hv'.out.alloc _)).mono ?_; rintro e w1 ⟨rfl, hb⟩; replace hb := Lib.hid hb)
  go_ret
  exact ⟨rfl, Below.then_ (hbb.out _) hb.out (Nat.le_refl _)⟩
end Go.Proofs.YtbadpmghlclfkaaDoor
