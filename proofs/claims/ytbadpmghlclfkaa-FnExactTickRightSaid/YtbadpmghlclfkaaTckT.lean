/- Slices of ticks, copied and compared by the laws. -/
import Derived.Test.YtbadpmghlclfkaaTckS
import Derived.Test.YtbadpmghlclfkaaStmT
namespace Go.Proofs.Ytbadpmghlclfkaa
open Go.RowKit

set_option maxHeartbeats 1000000 in
theorem toTick_any (x : Tik) (w : World) :
    Calls Try.prog 7 #[tikA x] w (Gives (tikA x) w) := by
  unfold tikA
  go_enter Try.func7, Try.ntmps7
  go_wp2
  refine bodyPost_ret (v := .agg #[.int .i64 x.kind, .int .i64 x.seat, .string x.text]) (by simp [results, Try.results7, go_sem]) rfl ⟨rfl, ?_⟩
  exact (((Below.refl _ _).alloc (Nat.le_refl _) _).alloc (by simp) _).alloc (by simp; omega) _
/-- A copy. -/
def TCopyEnd (l : List Tik) (w : World) (e : Ending) (w' : World) : Prop := ∃ v, e = .returned v ∧ OwnTiks w' w.heap.size v l ∧ Below w.heap.size w w'
set_option maxHeartbeats 1000000 in
theorem toTicks_any (v : Value) (l : List Tik) (w : World) (hv : Tiks w v l) (hl : l.length ≤ 1048576) :
    Calls Try.prog 11 #[v] w (TCopyEnd l w) := by
  obtain ⟨i0, hi, hz0, hz1, hz2⟩ := info_parts Try.info26
  obtain ⟨A, cap, rfl⟩ := hv.form
  have hv' := Lib.hid hv
  clear hv
  have hbel := Lib.hid (Below.refl w.heap.size w)
  go_enter Try.func11, Try.ntmps11
  go_wp2_with (at_make; refine wpList_make_some rfl (.tmp 6) (.tmp 6) 32 rfl w.heap.size 26 i0 _ 3 32 Try.underlying32 hi hz0 hz1 hz2 _ _ _ _ l.length rfl rfl rfl rfl (by omega) (by omega) hbel.out (Nat.le_refl _) ?_; intro w1 cs0 hr1 hc0 hb1; have hr0 := Lib.hid (TikTill.none_ hc0); replace hr1 := Lib.hid hr1; replace hb1 := Lib.hid hb1; clear hc0)
  go_loopw [4] (fun i wr => ∃ (k : Nat) (cs : List Value), k ≤ l.length ∧ i = .int .i64 k ∧ Hid (Blk wr w.heap.size 26 cs) ∧ Hid (TikTill cs l k) ∧ Hid (Below w.heap.size w wr)) (fun i _ => l.length - (intOf i).toNat)
  case atStart => exact ⟨0, cs0, Nat.zero_le _, rfl, hr1, hr0, hb1⟩
  case round =>
    obtain ⟨k, cs, hk, rfl, hr, ht, hb⟩ := hrel
    have hwlt := hr.out.lt
    by_cases hlt : k < l.length
    · have hlt' : (k : Int) < (l.length : Int) := by omega
      have hsecs := Lib.hid (hv'.out.below hb.out)
      obtain ⟨b, off, rfl, hbk, c0, c1, c2⟩ := hsecs.out.three k hlt
      go_wp2_with (go_at_call 7; refine (toTick_any l[k] _).mono ?_; rintro e w2 ⟨rfl, hb2⟩; unfold tikA; replace hr := Lib.hid (hr.out.up hb2); replace hb := Lib.hid (Below.then_ hb.out hb2 (Nat.le_refl _)); have hcl : k * 3 + 2 < cs.length := (by have := ht.out.1; omega); have d0 := hr.out.cell (k * 3) (by omega); have d1 := hr.out.cell (k * 3 + 1) (by omega); have d2 := hr.out.cell (k * 3 + 2) (by omega); have f0 := hr.out.free (k * 3); have f1 := hr.out.free (k * 3 + 1); have f2 := hr.out.free (k * 3 + 2); clear c0 c1 c2 hb2)
      have hr3 := Lib.hid (hr.out.trip (k * 3) (k * 3 + 1) (k * 3 + 2) (.int .i64 l[k].kind) (.int .i64 l[k].seat) (.string l[k].text))
      have ht3 := Lib.hid (ht.out.put hlt)
      have hb3 := Lib.hid (below_trip hb.out (Nat.le_refl w.heap.size) (k * 3) (k * 3 + 1) (k * 3 + 2) (.int .i64 l[k].kind) (.int .i64 l[k].seat) (.string l[k].text))
      clear hr ht hb
      go_roundw
      case rel => exact ⟨k + 1, _, by omega, by go_num, hr3, ht3, hb3⟩
      case measure => simp [intOf]; omega
    · have hlt' : ¬ (k : Int) < (l.length : Int) := by omega
      have hcs := ht.out.all (by omega)
      subst hcs
      have hO := Lib.hid (show OwnTiks wr w.heap.size (.slice (some ⟨w.heap.size, 0, none⟩) l.length l.length) l from ⟨hl, hv'.out.2.1, _, rfl, Nat.le_refl _, hr.out⟩)
      go_wp2
      go_ret
      exact ⟨_, rfl, hO.out, hb.out⟩

set_option maxHeartbeats 1000000 in
theorem eqTick_self (x : Tik) (w : World) :
    Calls Try.prog 19 #[tikA x, tikA x] w (Gives (.bool true) w) := by
  have hbb := Lib.hid (fun (o1 o2 : Obj) => ((Below.refl w.heap.size w).alloc (Nat.le_refl _) o1).alloc (by simp) o2)
  unfold tikA
  go_enter Try.func19, Try.ntmps19
  go_wp2
  go_ret
  exact ⟨rfl, hbb.out _ _⟩
set_option maxHeartbeats 2000000 in
theorem eqTicks_same (v u : Value) (l : List Tik) (w : World) (hv : Tiks w v l) (hu : Tiks w u l) :
    Calls Try.prog 13 #[v, u] w (Gives (.bool true) w) := by
  obtain ⟨A, cap, rfl⟩ := hv.form
  obtain ⟨A2, cap2, rfl⟩ := hu.form
  have hl := hv.1
  unfold maxLen at hl
  have hv' := Lib.hid hv
  have hu' := Lib.hid hu
  clear hv hu
  go_enter Try.func13, Try.ntmps13
  go_wp2
  go_loopw [5] (fun i wr => ∃ k : Nat, k ≤ l.length ∧ i = .int .i64 k ∧ Hid (Below w.heap.size w wr)) (fun i _ => l.length - (intOf i).toNat)
  case atStart => exact ⟨0, Nat.zero_le _, rfl, Lib.hid (Below.refl _ _)⟩
  case round =>
    obtain ⟨k, hk, rfl, hb⟩ := hrel
    by_cases hlt : k < l.length
    · have hlt' : (k : Int) < (l.length : Int) := by omega
      have hs1 := Lib.hid (hv'.out.below hb.out)
      have hs2 := Lib.hid (hu'.out.below hb.out)
      obtain ⟨b, off, rfl, hbk, c0, c1, c2⟩ := hs1.out.three k hlt
      obtain ⟨b2, off2, rfl, hbk2, d0, d1, d2⟩ := hs2.out.three k hlt
      replace hb := Lib.hid (below_drew' hb.out)
      go_wp2
      go_region_held3 (fun w' => w'.cell? ⟨b, off + k * 3, none⟩ = some (.int .i64 l[k].kind) ∧ w'.cell? ⟨b, off + k * 3 + 1, none⟩ = some (.int .i64 l[k].seat) ∧ w'.cell? ⟨b, off + k * 3 + 2, none⟩ = some (.string l[k].text) ∧ w'.cell? ⟨b2, off2 + k * 3, none⟩ = some (.int .i64 l[k].kind) ∧ w'.cell? ⟨b2, off2 + k * 3 + 1, none⟩ = some (.int .i64 l[k].seat) ∧ w'.cell? ⟨b2, off2 + k * 3 + 2, none⟩ = some (.string l[k].text)) (first | exact ⟨c0, c1, c2, d0, d1, d2⟩ | go_keep)
        ((go_at_call 19; refine (eqTick_self l[k] _).mono ?_; rintro e w1 ⟨rfl, hb1⟩; replace c0 := cell_below hb1 (Nat.le_refl _) _ _ c0; replace c1 := cell_below hb1 (Nat.le_refl _) _ _ c1; replace c2 := cell_below hb1 (Nat.le_refl _) _ _ c2; replace d0 := cell_below hb1 (Nat.le_refl _) _ _ d0; replace d1 := cell_below hb1 (Nat.le_refl _) _ _ d1; replace d2 := cell_below hb1 (Nat.le_refl _) _ _ d2; replace hb := Lib.hid (Below.then_ hb.out hb1 (Nat.le_refl _)); clear hb1))
      all_goals go_wp2
      go_roundw
      case rel => exact ⟨k + 1, by omega, by go_num, hb⟩
      case measure => simp [intOf]; omega
    · have hlt' : ¬ (k : Int) < (l.length : Int) := by omega
      go_wp2
      go_ret
      exact ⟨rfl, hb.out⟩
end Go.Proofs.Ytbadpmghlclfkaa
