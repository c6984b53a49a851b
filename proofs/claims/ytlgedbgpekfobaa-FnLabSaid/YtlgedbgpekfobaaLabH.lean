/- The program's marked texts: all marks, compared. -/
import Derived.Test.YtlgedbgpekfobaaLabG
namespace Go.Proofs.Ytlgedbgpekfobaa
open Go.RowKit

/-- All bits of the marks together. -/
def orI (a b : Int) : Int := bits .or .i64 a b
def markL (l : List Int) : Int := l.foldl orI 0
theorem markL_succ (l : List Int) (k : Nat) (hk : k < l.length) : markL (l.take (k + 1)) = orI (markL (l.take k)) l[k] := by
  unfold markL; rw [List.take_succ_eq_append_getElem hk, List.foldl_append]; rfl
def markT (t : ByteArray) (l : List Int) : Int := if labB t l = true then markL l else 0
theorem markT_no {t : ByteArray} {l : List Int} (h : labB t l = false) : markT t l = 0 := by rw [markT, if_neg (by rw [h]; simp)]
theorem markT_ok {t : ByteArray} {l : List Int} (h : labB t l = true) : markT t l = markL l := by rw [markT, if_pos h]
def IntIs (n : Int) (w : World) (e : Ending) (w' : World) : Prop := e = .returned (.int .i64 n) ∧ Below w.heap.size w w'
theorem IntIs.of {n m : Int} {w w' : World} (h : m = n) (k : Below w.heap.size w w') : IntIs n w (.returned (.int .i64 m)) w' := by subst h; exact ⟨rfl, k⟩
set_option maxHeartbeats 4000000 in
theorem implMarkOf_any (t : ByteArray) (v : Value) (l : List Int) (w : World) (ht : t.size ≤ 1048576) (hv : Ints w v l) :
    Calls Try.prog 27 #[.agg #[.string t, v]] w (IntIs (markT t l) w) := by
  have hl1 := hv.1
  obtain ⟨A1, cap1, rfl⟩ := hv.form
  have hv' := Lib.hid hv
  clear hv
  have hbb := Lib.hid (fun (o1 : Obj) => (Below.refl w.heap.size w).alloc (Nat.le_refl _) o1)
  by_cases h1 : labB t l = true
  · have e := Lib.hid (markT_ok h1)
    go_enter Try.func27, Try.ntmps27
    go_wp2_with (go_at_call 31; refine (implLabRight_any t _ l _ ht (hv'.out.alloc _)).mono ?_; rintro e1 w1 ⟨rfl, hb1⟩; have B1 : Blk w1 w.heap.size 25 [.string t, .slice A1 l.length cap1] := Blk.up (heap_alloc_new w (.cells #[.string t, .slice A1 l.length cap1] 25)) hb1; obtain ⟨x0, x1, xf0, xf1⟩ := B1.two; replace hb1 := Lib.hid hb1; replace B1 := Lib.hid B1)
    have hva := Lib.hid ((hv'.out.alloc _).below hb1.out)
    go_loop [3, 12] (fun a i => ∃ k : Nat, k ≤ l.length ∧ i = .int .i64 k ∧ a = .int .i64 (markL (l.take k))) (fun _ i => l.length - (intOf i).toNat)
    case atStart => exact ⟨0, Nat.zero_le _, rfl, rfl⟩
    case round =>
      obtain ⟨k, hk, rfl, rfl⟩ := hrel
      by_cases hlt : k < l.length
      · obtain ⟨b, off, rfl, hbk, hck⟩ := hva.out.at_ k hlt
        have hlt' : (k : Int) < (l.length : Int) := by omega
        have hs := Lib.hid (markL_succ l k hlt)
        go_wp2
        go_round
        case rel => exact ⟨k + 1, by omega, by go_num, by rw [hs.out]; rfl⟩
        case measure => simp [intOf]; omega
      · have hlt' : ¬ (k : Int) < (l.length : Int) := by omega
        have hs := Lib.hid (show markL (l.take k) = markT t l by rw [List.take_of_length_le (by omega)]; exact e.out.symm)
        go_wp2
        go_ret
        exact IntIs.of hs.out (Below.then_ (hbb.out _) hb1.out (Nat.le_refl _))
  · have h1' : labB t l = false := by simpa using h1
    have e := Lib.hid (markT_no h1')
    clear h1
    go_enter Try.func27, Try.ntmps27
    go_wp2_with (go_at_call 31; refine (implLabRight_any t _ l _ ht (hv'.out.alloc _)).mono ?_; rintro e1 w1 ⟨rfl, hb1⟩; have B1 : Blk w1 w.heap.size 25 [.string t, .slice A1 l.length cap1] := Blk.up (heap_alloc_new w (.cells #[.string t, .slice A1 l.length cap1] 25)) hb1; obtain ⟨x0, x1, xf0, xf1⟩ := B1.two; replace hb1 := Lib.hid hb1; replace B1 := Lib.hid B1)
    go_ret
    exact IntIs.of e.out.symm (Below.then_ (hbb.out _) hb1.out (Nat.le_refl _))
set_option maxHeartbeats 1000000 in
theorem implLabSame_any (t s : ByteArray) (v u : Value) (l m : List Int) (w : World) (hv : Ints w v l) (hu : Ints w u m) :
    Calls Try.prog 29 #[.agg #[.string t, v], .agg #[.string s, u]] w (LookEnd (alikeB t s l m) w) := by
  have hbb := Lib.hid (fun (o1 o2 : Obj) => ((Below.refl w.heap.size w).alloc (Nat.le_refl _) o1).alloc (by simp) o2)
  obtain ⟨A, cap, rfl⟩ := hv.form
  obtain ⟨A2, cap2, rfl⟩ := hu.form
  have hv' := Lib.hid hv
  have hu' := Lib.hid hu
  clear hv hu
  by_cases h0 : t = s
  · subst h0
    have e := Lib.hid (alike_yes (t := t) (s := t) (l := l) (m := m) rfl)
    go_enter Try.func29, Try.ntmps29
    go_wp2_with (go_at_call 50; refine (equal_any _ _ l m _ ((hv'.out.alloc _).alloc _) ((hu'.out.alloc _).alloc _)).mono ?_; rintro e w1 ⟨rfl, hb⟩; replace hb := Lib.hid hb)
    go_ret
    exact LookEnd.of (by rw [e.out]) (Below.then_ (hbb.out _ _) hb.out (Nat.le_refl _))
  · have h1 := str_ne h0
    have e := Lib.hid (alike_no (l := l) (m := m) h0)
    clear h0
    go_enter Try.func29, Try.ntmps29
    go_wp2
    go_ret
    exact LookEnd.of e.out.symm (hbb.out _ _)
end Go.Proofs.Ytlgedbgpekfobaa
