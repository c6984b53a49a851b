/- Slices of ticks: what can be read in them; how large. Slices of ticks, copied and compared by the laws. -/
import Derived.Test.YtbadpmghlclfkaaDoorTckA
import Derived.Test.YtbadpmghlclfkaaDoorLabE
import Derived.Test.YtbadpmghlclfkaaDoorStmS
import Derived.Test.YtbadpmghlclfkaaDoorStmT
namespace Go.Proofs.YtbadpmghlclfkaaDoor
open Go.RowKit

def tikRow (l : List Tik) : List Value := l.flatMap tikV
theorem tikRow_len (l : List Tik) : (tikRow l).length = l.length * 3 := by
  induction l with
  | nil => rfl
  | cons x l ih => unfold tikRow at ih ⊢; rw [List.flatMap_cons, List.length_append, ih, List.length_cons]; show 3 + _ = _; omega
theorem tikRow_at (l : List Tik) (j m : Nat) (hm : m < 3) (hj : j < l.length) : (tikRow l)[j * 3 + m]? = (tikV l[j])[m]? := by
  induction l generalizing j with
  | nil => simp at hj
  | cons x l ih =>
    unfold tikRow at ih ⊢
    rw [List.flatMap_cons]
    cases j with
    | zero => rw [List.getElem?_append_left (by show _ < 3; omega)]; simp
    | succ j =>
      rw [List.getElem?_append_right (by show 3 ≤ _; omega), show (j + 1) * 3 + m - (tikV x).length = j * 3 + m from by show (j + 1) * 3 + m - 3 = _; omega, ih j (by simpa using hj)]
      simp
def TikWf (x : Tik) : Prop := x.text.size ≤ maxLen ∧ int64B x.kind ∧ int64B x.seat
/-- A slice that reads as these ticks. -/
def Tiks (w : World) (v : Value) (l : List Tik) : Prop :=
  l.length ≤ maxLen ∧ (∀ x ∈ l, TikWf x) ∧ ∃ A cap, v = .slice A l.length cap ∧ (0 < l.length → ∃ b off, A = some ⟨b, off, none⟩ ∧ b < w.heap.size ∧ ∀ j (_ : j < l.length) m, m < 3 → w.cell? ⟨b, off + (j * 3 + m), none⟩ = (tikV l[j])[m]?)
theorem Tiks.form {w : World} {v : Value} {l : List Tik} (h : Tiks w v l) : ∃ A cap, v = .slice A l.length cap := by obtain ⟨_, _, A, cap, rfl, _⟩ := h; exact ⟨A, cap, rfl⟩
theorem Tiks.below {w w' : World} {v : Value} {l : List Tik} (h : Tiks w v l) (k : Below w.heap.size w w') : Tiks w' v l := by
  obtain ⟨h1, h2, A, cap, rfl, h3⟩ := h
  refine ⟨h1, h2, A, cap, rfl, fun h0 => ?_⟩
  obtain ⟨b, off, rfl, hb, hc⟩ := h3 h0
  exact ⟨b, off, rfl, Nat.lt_of_lt_of_le hb k.size, fun j hj m hm => (World.cell?_of_block (a := ⟨b, off + (j * 3 + m), none⟩) (k.block b hb)).trans (hc j hj m hm)⟩
theorem Tiks.alloc {w : World} {v : Value} {l : List Tik} (h : Tiks w v l) (o : Obj) : Tiks (w.alloc o) v l := h.below ((Below.refl _ _).alloc (Nat.le_refl _) _)
theorem Tiks.drew {w : World} {v : Value} {l : List Tik} (h : Tiks w v l) : Tiks w.drew v l := h
/-- The three cells of tick j. -/
theorem Tiks.three {w : World} {A : Option Addr} {n cap : Nat} {l : List Tik} (h : Tiks w (.slice A n cap) l) (j : Nat) (hj : j < l.length) :
    ∃ b off, A = some ⟨b, off, none⟩ ∧ b < w.heap.size ∧ w.cell? ⟨b, off + j * 3, none⟩ = some (.int .i64 l[j].kind) ∧ w.cell? ⟨b, off + j * 3 + 1, none⟩ = some (.int .i64 l[j].seat) ∧
      w.cell? ⟨b, off + j * 3 + 2, none⟩ = some (.string l[j].text) := by
  obtain ⟨h1, h2, A', cap', e, h3⟩ := h
  cases e
  obtain ⟨b, off, rfl, hb, hc⟩ := h3 (by omega)
  exact ⟨b, off, rfl, hb, hc j hj 0 (by omega), hc j hj 1 (by omega), hc j hj 2 (by omega)⟩
theorem Tiks.wf {w : World} {v : Value} {l : List Tik} (h : Tiks w v l) {j : Nat} (hj : j < l.length) : TikWf l[j] := h.2.1 _ (List.getElem_mem hj)
theorem Tryd.info31 : (Tryd.prog.info? 31).map (fun i => (i.zero, i.size, i.bytes)) = some (some (.agg #[.int .i64 0, .int .i64 0, .string ByteArray.empty]), 3, 32) := by kernel_rfl
/-- A row of which the first k ticks are in. -/
def TikTill (cs : List Value) (l : List Tik) (k : Nat) : Prop := cs.length = l.length * 3 ∧ cs.take (k * 3) = tikRow (l.take k)
theorem TikTill.none_ {cs : List Value} {l : List Tik} (h : cs.length = l.length * 3) : TikTill cs l 0 := ⟨h, by simp [tikRow]⟩
theorem TikTill.all {cs : List Value} {l : List Tik} {k : Nat} (h : TikTill cs l k) (hk : l.length ≤ k) : cs = tikRow l := by
  have h2 := h.2
  rw [List.take_of_length_le (by have := h.1; omega), List.take_of_length_le hk] at h2
  exact h2
theorem TikTill.put {cs : List Value} {l : List Tik} {k : Nat} (h : TikTill cs l k) (hk : k < l.length) :
    TikTill (((cs.set (k * 3) (.int .i64 l[k].kind)).set (k * 3 + 1) (.int .i64 l[k].seat)).set (k * 3 + 2) (.string l[k].text)) l (k + 1) := by
  refine ⟨by simp [h.1], ?_⟩
  have hc := h.1
  apply List.ext_getElem?
  intro i
  have hr : (tikRow (l.take (k + 1))).length = (k + 1) * 3 := by rw [tikRow_len, List.length_take]; omega
  by_cases hi : i < (k + 1) * 3
  · rw [List.getElem?_take_of_lt hi]
    by_cases hlo : i < k * 3
    · rw [List.getElem?_set_ne (by omega), List.getElem?_set_ne (by omega), List.getElem?_set_ne (by omega)]
      have h2 : (cs.take (k * 3))[i]? = (tikRow (l.take k))[i]? := by rw [h.2]
      rw [List.getElem?_take_of_lt hlo] at h2
      rw [h2, List.take_succ_eq_append_getElem hk]
      unfold tikRow
      rw [List.flatMap_append, List.getElem?_append_left]
      have := tikRow_len (l.take k)
      unfold tikRow at this
      rw [this, List.length_take]; omega
    · obtain ⟨m, hm, rfl⟩ : ∃ m, m < 3 ∧ i = k * 3 + m := ⟨i - k * 3, by omega, by omega⟩
      rw [tikRow_at (l.take (k + 1)) k m hm (by rw [List.length_take]; omega), List.getElem_take]
      rcases (show m = 0 ∨ m = 1 ∨ m = 2 by omega) with rfl | rfl | rfl
      · rw [List.getElem?_set_ne (by omega), List.getElem?_set_ne (by omega), Nat.add_zero, List.getElem?_set_self (by omega)]; rfl
      · rw [List.getElem?_set_ne (by omega), List.getElem?_set_self (by simp; omega)]; rfl
      · rw [List.getElem?_set_self (by simp; omega)]; rfl
  · rw [List.getElem?_eq_none (by rw [List.length_take]; omega), List.getElem?_eq_none (by omega)]
/-- Ticks in a block of their own. -/
def OwnTiks (w : World) (base : Nat) (v : Value) (l : List Tik) : Prop := l.length ≤ 1048576 ∧ (∀ x ∈ l, TikWf x) ∧ ∃ g, v = .slice (some ⟨g, 0, none⟩) l.length l.length ∧ base ≤ g ∧ Blk w g 31 (tikRow l)
theorem OwnTiks.tiks {w : World} {base : Nat} {v : Value} {l : List Tik} (h : OwnTiks w base v l) : Tiks w v l := by
  obtain ⟨h1, h2, g, rfl, hb, hk⟩ := h
  refine ⟨by unfold maxLen; omega, h2, _, _, rfl, fun h0 => ⟨g, 0, rfl, hk.lt, fun j hj m hm => ?_⟩⟩
  rw [Nat.zero_add, hk.cell?, tikRow_at l j m hm hj]
theorem OwnTiks.below {w w' : World} {base : Nat} {v : Value} {l : List Tik} (h : OwnTiks w base v l) (k : Below w.heap.size w w') : OwnTiks w' base v l := by
  obtain ⟨h1, h2, g, rfl, hb, hk⟩ := h
  exact ⟨h1, h2, g, rfl, hb, hk.up k⟩
theorem OwnTiks.alloc {w : World} {base : Nat} {v : Value} {l : List Tik} (h : OwnTiks w base v l) (o : Obj) : OwnTiks (w.alloc o) base v l := h.below ((Below.refl _ _).alloc (Nat.le_refl _) _)
theorem OwnTiks.drew {w : World} {base : Nat} {v : Value} {l : List Tik} (h : OwnTiks w base v l) : OwnTiks w.drew base v l := h
theorem OwnTiks.form {w : World} {base : Nat} {v : Value} {l : List Tik} (h : OwnTiks w base v l) : ∃ g, v = .slice (some ⟨g, 0, none⟩) l.length l.length := by obtain ⟨_, _, g, rfl, _⟩ := h; exact ⟨g, rfl⟩
theorem Blk.trip {w : World} {g : Nat} {t : TypeId} {cs : List Value} (h : Blk w g t cs) (i j k : Nat) (a b c : Value) :
    Blk (((w.setCell ⟨g, i, none⟩ a).setCell ⟨g, j, none⟩ b).setCell ⟨g, k, none⟩ c) g t (((cs.set i a).set j b).set k c) := ((h.set i a).set j b).set k c
theorem below_trip {B : Nat} {w0 w : World} (h : Below B w0 w) {g : Nat} (hg : B ≤ g) (i j k : Nat) (a b c : Value) :
    Below B w0 (((w.setCell ⟨g, i, none⟩ a).setCell ⟨g, j, none⟩ b).setCell ⟨g, k, none⟩ c) := ((h.setCell (p := ⟨g, i, none⟩) hg a).setCell (p := ⟨g, j, none⟩) hg b).setCell (p := ⟨g, k, none⟩) hg c
def tikSmall (x : Tik) : Prop := x.text.size ≤ 1048576
def TSmall (l : List Tik) : Prop := l.length ≤ 1048576 ∧ ∀ x ∈ l, tikSmall x
set_option maxHeartbeats 1000000 in
theorem szTick_any (x : Tik) (left : Int) (w : World) (hx : x.text.size ≤ maxLen) (h0 : 0 ≤ left) (h1 : left ≤ 1048576) :
    Calls Tryd.prog 27 #[tikA x, .int .i64 left] w (SzOut (tikSmall x) left w) := by
  have hb := Lib.hid ((Below.refl w.heap.size w).alloc (Nat.le_refl _) (.cells #[.int .i64 x.kind, .int .i64 x.seat, .string x.text] 50))
  unfold maxLen at hx
  have n1' : (x.text.size : Int) ≤ 9223372036854775807 := by omega
  unfold tikA
  by_cases c1 : left - x.text.size < 0
  · go_enter Tryd.func27, Tryd.ntmps27
    go_wp2
    go_ret
    exact ⟨-1, rfl, .inl rfl, hb.out⟩
  · have hend := Lib.hid (show 0 ≤ left - x.text.size ∧ left - x.text.size ≤ left ∧ tikSmall x from ⟨by omega, by omega, by unfold tikSmall; omega⟩)
    go_enter Tryd.func27, Tryd.ntmps27
    go_wp2
    go_ret
    exact ⟨_, rfl, .inr hend.out, hb.out⟩
set_option maxHeartbeats 1000000 in
theorem szTicks_any (v : Value) (l : List Tik) (left : Int) (w : World) (hv : Tiks w v l) (h0 : 0 ≤ left) (h1 : left ≤ 1048576) :
    Calls Tryd.prog 19 #[v, .int .i64 left] w (SzOut (TSmall l) left w) := by
  obtain ⟨A, cap, rfl⟩ := hv.form
  have hl := hv.1
  unfold maxLen at hl
  have hl' : (l.length : Int) ≤ 9223372036854775807 := by omega
  have hv' := Lib.hid hv
  clear hv
  by_cases c1 : left - l.length < 0
  · go_enter Tryd.func19, Tryd.ntmps19
    go_wp2
    go_ret
    exact ⟨-1, rfl, .inl rfl, Below.refl _ _⟩
  · have hll : l.length ≤ 1048576 := by omega
    have hlft : left - l.length ≤ left := by omega
    go_enter Tryd.func19, Tryd.ntmps19
    go_wp2
    go_loopw [1, 5] (fun u i wr => ∃ (k : Nat) (r : Int), k ≤ l.length ∧ i = .int .i64 (k : Int) ∧ u = .int .i64 r ∧ 0 ≤ r ∧ r ≤ left ∧ Hid (∀ j (hj : j < k) (h : j < l.length), tikSmall l[j]) ∧ Hid (Below w.heap.size w wr)) (fun _ i _ => l.length - (intOf i).toNat)
    case atStart => exact ⟨0, _, Nat.zero_le _, rfl, rfl, by omega, by omega, Lib.hid (fun j hj => by omega), Lib.hid (Below.refl _ _)⟩
    case round =>
      obtain ⟨k, r, hk, rfl, rfl, hr0, hr1, hall, hb⟩ := hrel
      by_cases hlt : k < l.length
      · have hlt' : (k : Int) < (l.length : Int) := by omega
        have hsecs := Lib.hid (hv'.out.below hb.out)
        obtain ⟨b, off, rfl, hbk, c0, c1', c2⟩ := hsecs.out.three k hlt
        have hwf := Lib.hid (hsecs.out.wf hlt)
        go_wp2_with (go_at_call 27; refine (szTick_any l[k] r _ hwf.out.1 hr0 (by omega)).mono ?_; rintro e w1 ⟨r1, rfl, hr, hb1⟩; replace hb := Lib.hid (Below.then_ hb.out hb1 (Nat.le_refl _)); clear hb1; rcases hr with rfl | ⟨hr2, hr3, hr4⟩)
        · go_wp2
          go_ret
          exact ⟨-1, rfl, .inl rfl, hb.out⟩
        · have hall2 := Lib.hid (fun j (hj : j < k + 1) (h : j < l.length) => (show tikSmall l[j] from by
            by_cases e : j = k
            · subst e; exact hr4
            · exact hall.out j (by omega) h))
          have hr2' : ¬ r1 < 0 := by omega
          clear hr4 hall
          go_wp2
          go_roundw
          case rel => exact ⟨k + 1, r1, by omega, by go_num, rfl, hr2, by omega, hall2, hb⟩
          case measure => simp [intOf]; omega
      · have hlt' : ¬ (k : Int) < (l.length : Int) := by omega
        have hend := Lib.hid (show TSmall l from ⟨hll, fun x hx => by obtain ⟨j, hj, rfl⟩ := List.mem_iff_getElem.1 hx; exact hall.out j (by omega) hj⟩)
        go_wp2
        go_ret
        exact ⟨r, rfl, .inr ⟨hr0, hr1, hend.out⟩, hb.out⟩
end Go.Proofs.YtbadpmghlclfkaaDoor
namespace Go.Proofs.YtbadpmghlclfkaaDoor
open Go.RowKit

set_option maxHeartbeats 1000000 in
theorem toTick_any (x : Tik) (w : World) :
    Calls Tryd.prog 31 #[tikA x] w (Gives (tikA x) w) := by
  unfold tikA
  go_enter Tryd.func31, Tryd.ntmps31
  go_wp2
  refine bodyPost_ret (v := .agg #[.int .i64 x.kind, .int .i64 x.seat, .string x.text]) (by simp [results, Tryd.results31, go_sem]) rfl ⟨rfl, ?_⟩
  exact (((Below.refl _ _).alloc (Nat.le_refl _) _).alloc (by simp) _).alloc (by simp; omega) _
/-- A copy. -/
def TCopyEnd (l : List Tik) (w : World) (e : Ending) (w' : World) : Prop := ∃ v, e = .returned v ∧ OwnTiks w' w.heap.size v l ∧ Below w.heap.size w w'
set_option maxHeartbeats 1000000 in
theorem toTicks_any (v : Value) (l : List Tik) (w : World) (hv : Tiks w v l) (hl : l.length ≤ 1048576) :
    Calls Tryd.prog 20 #[v] w (TCopyEnd l w) := by
  obtain ⟨i0, hi, hz0, hz1, hz2⟩ := info_parts Tryd.info31
  obtain ⟨A, cap, rfl⟩ := hv.form
  have hv' := Lib.hid hv
  clear hv
  have hbel := Lib.hid (Below.refl w.heap.size w)
  go_enter Tryd.func20, Tryd.ntmps20
  go_wp2_with (at_make; refine wpList_make_some rfl (.tmp 6) (.tmp 6) 23 rfl w.heap.size 31 i0 _ 3 32 Tryd.underlying23 hi hz0 hz1 hz2 _ _ _ _ l.length rfl rfl rfl rfl (by omega) (by omega) hbel.out (Nat.le_refl _) ?_; intro w1 cs0 hr1 hc0 hb1; have hr0 := Lib.hid (TikTill.none_ hc0); replace hr1 := Lib.hid hr1; replace hb1 := Lib.hid hb1; clear hc0)
  go_loopw [4] (fun i wr => ∃ (k : Nat) (cs : List Value), k ≤ l.length ∧ i = .int .i64 k ∧ Hid (Blk wr w.heap.size 31 cs) ∧ Hid (TikTill cs l k) ∧ Hid (Below w.heap.size w wr)) (fun i _ => l.length - (intOf i).toNat)
  case atStart => exact ⟨0, cs0, Nat.zero_le _, rfl, hr1, hr0, hb1⟩
  case round =>
    obtain ⟨k, cs, hk, rfl, hr, ht, hb⟩ := hrel
    have hwlt := hr.out.lt
    by_cases hlt : k < l.length
    · have hlt' : (k : Int) < (l.length : Int) := by omega
      have hsecs := Lib.hid (hv'.out.below hb.out)
      obtain ⟨b, off, rfl, hbk, c0, c1, c2⟩ := hsecs.out.three k hlt
      go_wp2_with (go_at_call 31; refine (toTick_any l[k] _).mono ?_; rintro e w2 ⟨rfl, hb2⟩; unfold tikA; replace hr := Lib.hid (hr.out.up hb2); replace hb := Lib.hid (Below.then_ hb.out hb2 (Nat.le_refl _)); have hcl : k * 3 + 2 < cs.length := (by have := ht.out.1; omega); have d0 := hr.out.cell (k * 3) (by omega); have d1 := hr.out.cell (k * 3 + 1) (by omega); have d2 := hr.out.cell (k * 3 + 2) (by omega); have f0 := hr.out.free (k * 3); have f1 := hr.out.free (k * 3 + 1); have f2 := hr.out.free (k * 3 + 2); clear c0 c1 c2 hb2)
      have hr3 := Lib.hid (hr.out.trip (k * 3) (k * 3 + 1) (k * 3 + 2) (.int .i64 l[k].kind) (.int .i64 l[k].seat) (.string l[k].text))
      have ht3 := Lib.hid (ht.out.put hlt)
      have hb3 := Lib.hid (below_trip hb.out (Nat.le_refl w.heap.size) (k * 3) (k * 3 + 1) (k * 3 + 2) (.int .i64 l[k].kind) (.int .i64 l[k].seat) (.string l[k].text))
      clear hr ht hb
      go_roundw
      case rel => exact ⟨k + 1, _, by omega, by go_num, hr3, ht3, hb3⟩
      case measure => simp [intOf]; omega
    · have hlt' : ¬ (k : Int) < (l.length : Int) := by omega
      have hcs := ht.out.all (by omega)
      subst hcs
      have hO := Lib.hid (show OwnTiks wr w.heap.size (.slice (some ⟨w.heap.size, 0, none⟩) l.length l.length) l from ⟨hl, hv'.out.2.1, _, rfl, Nat.le_refl _, hr.out⟩)
      go_wp2
      go_ret
      exact ⟨_, rfl, hO.out, hb.out⟩

set_option maxHeartbeats 1000000 in
theorem eqTick_self (x : Tik) (w : World) :
    Calls Tryd.prog 59 #[tikA x, tikA x] w (Gives (.bool true) w) := by
  have hbb := Lib.hid (fun (o1 o2 : Obj) => ((Below.refl w.heap.size w).alloc (Nat.le_refl _) o1).alloc (by simp) o2)
  unfold tikA
  go_enter Tryd.func59, Tryd.ntmps59
  go_wp2
  go_ret
  exact ⟨rfl, hbb.out _ _⟩
set_option maxHeartbeats 2000000 in
theorem eqTicks_same (v u : Value) (l : List Tik) (w : World) (hv : Tiks w v l) (hu : Tiks w u l) :
    Calls Tryd.prog 21 #[v, u] w (Gives (.bool true) w) := by
  obtain ⟨A, cap, rfl⟩ := hv.form
  obtain ⟨A2, cap2, rfl⟩ := hu.form
  have hl := hv.1
  unfold maxLen at hl
  have hv' := Lib.hid hv
  have hu' := Lib.hid hu
  clear hv hu
  go_enter Tryd.func21, Tryd.ntmps21
  go_wp2
  go_loopw [5] (fun i wr => ∃ k : Nat, k ≤ l.length ∧ i = .int .i64 k ∧ Hid (Below w.heap.size w wr)) (fun i _ => l.length - (intOf i).toNat)
  case atStart => exact ⟨0, Nat.zero_le _, rfl, Lib.hid (Below.refl _ _)⟩
  case round =>
    obtain ⟨k, hk, rfl, hb⟩ := hrel
    by_cases hlt : k < l.length
    · have hlt' : (k : Int) < (l.length : Int) := by omega
      have hs1 := Lib.hid (hv'.out.below hb.out)
      have hs2 := Lib.hid (hu'.out.below hb.out)
      obtain ⟨b, off, rfl, hbk, c0, c1, c2⟩ := hs1.out.three k hlt
      obtain ⟨b2, off2, rfl, hbk2, d0, d1, d2⟩ := hs2.out.three k hlt
      replace hb := Lib.hid (below_drew' hb.out)
      go_wp2
      go_region_held3 (fun w' => w'.cell? ⟨b, off + k * 3, none⟩ = some (.int .i64 l[k].kind) ∧ w'.cell? ⟨b, off + k * 3 + 1, none⟩ = some (.int .i64 l[k].seat) ∧ w'.cell? ⟨b, off + k * 3 + 2, none⟩ = some (.string l[k].text) ∧ w'.cell? ⟨b2, off2 + k * 3, none⟩ = some (.int .i64 l[k].kind) ∧ w'.cell? ⟨b2, off2 + k * 3 + 1, none⟩ = some (.int .i64 l[k].seat) ∧ w'.cell? ⟨b2, off2 + k * 3 + 2, none⟩ = some (.string l[k].text)) (first | exact ⟨c0, c1, c2, d0, d1, d2⟩ | go_keep)
        ((go_at_call 59; refine (eqTick_self l[k] _).mono ?_; rintro e w1 ⟨rfl, hb1⟩; replace c0 := cell_below hb1 (Nat.le_refl _) _ _ c0; replace c1 := cell_below hb1 (Nat.le_refl _) _ _ c1; replace c2 := cell_below hb1 (Nat.le_refl _) _ _ c2; replace d0 := cell_below hb1 (Nat.le_refl _) _ _ d0; replace d1 := cell_below hb1 (Nat.le_refl _) _ _ d1; replace d2 := cell_below hb1 (Nat.le_refl _) _ _ d2; replace hb := Lib.hid (Below.then_ hb.out hb1 (Nat.le_refl _)); clear hb1))
      all_goals go_wp2
      go_roundw
      case rel => exact ⟨k + 1, by omega, by go_num, hb⟩
      case measure => simp [intOf]; omega
    · have hlt' : ¬ (k : Int) < (l.length : Int) := by omega
      go_wp2
      go_ret
      exact ⟨rfl, hb.out⟩
end Go.Proofs.YtbadpmghlclfkaaDoor
