/- The inputs of PutNum and PutText. -/
import Derived.Test.YtgbfndfjcolpjaaDoorDrawB
namespace Go.Proofs.YtgbfndfjcolpjaaDoor
open Go.RowKit

set_option maxRecDepth 100000 in
set_option maxHeartbeats 2000000 in
theorem l01Any_any (g : Nat) (A : Option Addr) (len B : Nat) (w : World) (hs : Src w B g A len) :
    Calls Tryd.prog 19 #[.pointer (some ⟨g, 0, none⟩)] w fun e w' => IntEnd e ∧ Src w' B g A len ∧ w.grownBy w' (some g) := by
  have hgr := Lib.hid (grown_self w (some g))
  replace hs := Lib.hid hs
  go_enter Tryd.func19, Tryd.ntmps19
  go_wp2_with (first
    | (go_at_call 24; refine (one_any _ _ A len B (by omega) _ hs.out).mono ?_; rintro e w2 ⟨⟨q, rfl⟩, hs', hg⟩; replace hs := Lib.hid hs'; replace hgr := Lib.hid (hgr.out.trans hg); clear hg hs')
    | (go_at_call 29; refine (edge_any _ A len B _ hs.out).mono ?_; rintro e w5 ⟨⟨x, hx, rfl⟩, hs', hg⟩; replace hs := Lib.hid hs'; replace hgr := Lib.hid (hgr.out.trans hg); clear hg hs')
    | (go_at_call 25; refine (n_any _ _ A len B (by omega) _ hs.out).mono ?_; rintro e w3 ⟨⟨v, hv, rfl⟩, hs', hg⟩; have hv2 : (v : Int) < 1099511627776 := (by omega); replace hs := Lib.hid hs'; replace hgr := Lib.hid (hgr.out.trans hg); clear hg hs'))
  all_goals go_ret
  · exact ⟨⟨x, hx, rfl⟩, hs.out, hgr.out⟩
  · exact ⟨⟨_, by omega, rfl⟩, hs.out, hgr.out⟩
set_option maxRecDepth 100000 in
set_option maxHeartbeats 2000000 in
theorem drawPutNum_any (A : Option Addr) (len cap B : Nat) (w : World) (hB : B ≤ w.heap.size) (hr : Readable w B A len) :
    Calls Tryd.prog 6 #[.slice A len cap] w fun e w' => IntEnd e ∧ Below w.heap.size w w' := by
  have hr' := Lib.hid hr
  have hr1 := hr.1
  clear hr
  go_enter Tryd.func6, Tryd.ntmps6
  go_wp2_with (first
    | (go_at_call 18; refine (source_any A len cap B _ hB hr'.out).mono ?_; rintro e w1 ⟨rfl, hs, hb⟩; replace hs := Lib.hid hs; replace hb := Lib.hid hb)
    | (go_at_call 19; refine (l01Any_any _ A len B _ hs.out).mono ?_; rintro e w5 ⟨⟨x, hx, rfl⟩, hs', hg⟩; replace hb := Lib.hid (below_step hb.out hg (Nat.le_refl _) (Nat.le_refl _)); clear hg hs'))
  go_ret
  exact ⟨⟨x, hx, rfl⟩, hb.out⟩
set_option maxRecDepth 100000 in
set_option maxHeartbeats 2000000 in
theorem drawPutText_any (A : Option Addr) (len cap B : Nat) (w : World) (hB : B ≤ w.heap.size) (hr : Readable w B A len) :
    Calls Tryd.prog 10 #[.slice A len cap] w fun e w' => StrEnd 20002 e ∧ Below w.heap.size w w' := by
  obtain ⟨i0, hi, hz0, hz1, hz2⟩ := info_parts Tryd.uinfo5
  have hr' := Lib.hid hr
  have hr1 := hr.1
  clear hr
  go_enter Tryd.func10, Tryd.ntmps10
  go_wp2_with (first
    | (go_at_call 18; refine (source_any A len cap B _ hB hr'.out).mono ?_; rintro e w1 ⟨rfl, hs, hb⟩; replace hs := Lib.hid hs; replace hb := Lib.hid hb)
    | (go_at_call 24; refine (one_any _ _ A len B (by omega) _ hs.out).mono ?_; rintro e w2 ⟨⟨q, rfl⟩, hs', hg⟩; replace hs := Lib.hid hs'; replace hb := Lib.hid (below_step hb.out hg (Nat.le_refl _) (Nat.le_refl _)); clear hg hs')
    | (go_at_call 25; refine (n_any _ _ A len B (by omega) _ hs.out).mono ?_; rintro e w3 ⟨⟨v, hv, rfl⟩, hs', hg⟩; have hv2 : (v : Int) < 100 := (by omega); replace hs := Lib.hid hs'; replace hb := Lib.hid (below_step hb.out hg (Nat.le_refl _) (Nat.le_refl _)); clear hg hs')
    | (go_at_call 26; refine (bytes_any _ _ A len B (by omega) _ hs.out).mono ?_; rintro e w4 ⟨⟨l, hl, rfl⟩, hs', hg⟩; replace hs := Lib.hid hs'; replace hb := Lib.hid (below_step hb.out hg (Nat.le_refl _) (Nat.le_refl _)); clear hg hs')
    | (at_make; refine wpList_make_full _ rfl _ _ _ rfl w.heap.size 5 i0 (.int .u8 0) 1 Tryd.underlying22 hi hz0 hz1 _ _ _ _ (19999 + v) rfl rfl (by first | rfl | omega) (by first | rfl | omega) (by rw [hz2]; omega) (by unfold maxLen; omega) hb.out.size ?_; intro w5 ho hg; have hconv := own_string (P := Tryd.prog) (dst := 9) Tryd.underlying22 Tryd.underlying5 Tryd.underlying9 (own_zeros ho); replace hb := Lib.hid (hb.out.grown hg hb.out.size (fun _ e => by cases e)); clear ho hg))
  all_goals go_ret
  · exact ⟨StrEnd.of (List.replicate (19999 + v) 0) (by rw [List.length_replicate]; omega), hb.out⟩
  · exact ⟨StrEnd.of l (by omega), hb.out⟩
end Go.Proofs.YtgbfndfjcolpjaaDoor
