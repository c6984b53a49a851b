/- SameShape of the program and of the model. -/
import Derived.Test.YtlkgdnkfjijneaaVaultQ
import Derived.Deep.QuietTactic
import Derived.BigQuiet
import Derived.WalkSmall
namespace Go.Proofs.Ytlkgdnkfjijneaa
open Go.RowKit

set_option maxHeartbeats 4000000 in
theorem implShape_any (A : Option Addr) (cap : Nat) (A2 : Option Addr) (cap2 : Nat) (l m : List Sec) (w : World) (hv : Secs w (.slice A l.length cap) l) (hu : Secs w (.slice A2 m.length cap2) m) :
    Calls Try.prog 18 #[.slice A l.length cap, .slice A2 m.length cap2] w (Gives (.bool (shapeB l m)) w) := by
  have hs1 := Lib.hid hv
  have hs2 := Lib.hid hu
  clear hv hu
  have hW := Lib.hid (Below.refl w.heap.size w)
  have e := Lib.hid (shape_frames l m)
  cases ha : vaultB l with
  | false =>
    have e2 := Lib.hid (show shapeB l m = false by rw [e.out, ha]; rfl)
    go_enter Try.func18, Try.ntmps18
    go_wp2_with (go_at_call_of 13 (Value.slice A l.length cap); refine (implVault_any _ l _ hs1.out).mono ?_; rintro e w1 ⟨rfl, hb⟩; rw [ha]; replace hs1 := Lib.hid (hs1.out.below hb); replace hs2 := Lib.hid (hs2.out.below hb); replace hW := Lib.hid (Below.then_ hW.out hb (Nat.le_refl _)); clear hb)
    go_ret
    exact ⟨by rw [e2.out]; rfl, hW.out⟩
  | true =>
    cases hb' : vaultB m with
    | false =>
      have e2 := Lib.hid (show shapeB l m = false by rw [e.out, ha, hb']; rfl)
      go_enter Try.func18, Try.ntmps18
      go_wp2_with (first | (go_at_call_of 13 (Value.slice A l.length cap); refine (implVault_any _ l _ hs1.out).mono ?_; rintro e w1 ⟨rfl, hb⟩; rw [ha]; replace hs1 := Lib.hid (hs1.out.below hb); replace hs2 := Lib.hid (hs2.out.below hb); replace hW := Lib.hid (Below.then_ hW.out hb (Nat.le_refl _)); clear hb) | (go_at_call_of 13 (Value.slice A2 m.length cap2); refine (implVault_any _ m _ hs2.out).mono ?_; rintro e w1 ⟨rfl, hb⟩; rw [hb']; replace hs1 := Lib.hid (hs1.out.below hb); replace hs2 := Lib.hid (hs2.out.below hb); replace hW := Lib.hid (Below.then_ hW.out hb (Nat.le_refl _)); clear hb))
      go_ret
      exact ⟨by rw [e2.out]; rfl, hW.out⟩
    | true =>
      have e2 := Lib.hid (show shapeB l m = framesB l m by rw [e.out, ha, hb']; rfl)
      go_enter Try.func18, Try.ntmps18
      go_wp2_with (first | (go_at_call_of 13 (Value.slice A l.length cap); refine (implVault_any _ l _ hs1.out).mono ?_; rintro e w1 ⟨rfl, hb⟩; rw [ha]; replace hs1 := Lib.hid (hs1.out.below hb); replace hs2 := Lib.hid (hs2.out.below hb); replace hW := Lib.hid (Below.then_ hW.out hb (Nat.le_refl _)); clear hb) | (go_at_call_of 13 (Value.slice A2 m.length cap2); refine (implVault_any _ m _ hs2.out).mono ?_; rintro e w1 ⟨rfl, hb⟩; rw [hb']; replace hs1 := Lib.hid (hs1.out.below hb); replace hs2 := Lib.hid (hs2.out.below hb); replace hW := Lib.hid (Below.then_ hW.out hb (Nat.le_refl _)); clear hb) | (go_at_call 31; refine (equalFrames_any _ _ l m _ hs1.out hs2.out).mono ?_; rintro e w1 ⟨rfl, hb⟩; replace hW := Lib.hid (Below.then_ hW.out hb (Nat.le_refl _)); clear hb))
      go_ret
      exact ⟨by rw [e2.out]; rfl, hW.out⟩
set_option maxRecDepth 20000 in
set_option maxHeartbeats 4000000 in
theorem specShape_any (A : Option Addr) (cap : Nat) (A2 : Option Addr) (cap2 : Nat) (l m : List Sec) (w : World) (hv : Secs w (.slice A l.length cap) l) (hu : Secs w (.slice A2 m.length cap2) m) (hm1 : ∀ x ∈ l, secSmall x) (hm2 : ∀ x ∈ m, secSmall x) :
    Calls Try.prog 17 #[.slice A l.length cap, .slice A2 m.length cap2] w (Gives (.bool (shapeB l m)) w) := by
  have hl := hv.1
  have hm := hu.1
  unfold maxLen at hl hm
  have hs1 := Lib.hid hv
  have hs2 := Lib.hid hu
  replace hm1 := Lib.hid hm1
  replace hm2 := Lib.hid hm2
  clear hv hu
  have hW := Lib.hid (Below.refl w.heap.size w)
  have e := Lib.hid (shape_frames l m)
  cases ha : vaultB l with
  | false =>
    have e2 := Lib.hid (show shapeB l m = false by rw [e.out, ha]; rfl)
    go_enter Try.func17, Try.ntmps17
    go_wp2_with (first | (go_at_call_of 11 (Value.slice A l.length cap); refine (specVault_any _ l _ hs1.out hm1.out).mono ?_; rintro e w1 ⟨rfl, hb⟩; rw [ha]; replace hs1 := Lib.hid (hs1.out.below hb); replace hs2 := Lib.hid (hs2.out.below hb); replace hW := Lib.hid (Below.then_ hW.out hb (Nat.le_refl _)); clear hb) | (go_at_call_of 11 (Value.slice A2 m.length cap2); refine (specVault_any _ m _ hs2.out hm2.out).mono ?_; rintro e w1 ⟨rfl, hb⟩; rw [hb']; replace hs1 := Lib.hid (hs1.out.below hb); replace hs2 := Lib.hid (hs2.out.below hb); replace hW := Lib.hid (Below.then_ hW.out hb (Nat.le_refl _)); clear hb))
    go_ret
    exact ⟨by rw [e2.out]; rfl, hW.out⟩
  | true =>
    cases hb' : vaultB m with
    | false =>
      have e2 := Lib.hid (show shapeB l m = false by rw [e.out, ha, hb']; rfl)
      go_enter Try.func17, Try.ntmps17
      go_wp2_with (first | (go_at_call_of 11 (Value.slice A l.length cap); refine (specVault_any _ l _ hs1.out hm1.out).mono ?_; rintro e w1 ⟨rfl, hb⟩; rw [ha]; replace hs1 := Lib.hid (hs1.out.below hb); replace hs2 := Lib.hid (hs2.out.below hb); replace hW := Lib.hid (Below.then_ hW.out hb (Nat.le_refl _)); clear hb) | (go_at_call_of 11 (Value.slice A2 m.length cap2); refine (specVault_any _ m _ hs2.out hm2.out).mono ?_; rintro e w1 ⟨rfl, hb⟩; rw [hb']; replace hs1 := Lib.hid (hs1.out.below hb); replace hs2 := Lib.hid (hs2.out.below hb); replace hW := Lib.hid (Below.then_ hW.out hb (Nat.le_refl _)); clear hb))
      go_ret
      exact ⟨by rw [e2.out]; rfl, hW.out⟩
    | true =>
      have e2 := Lib.hid (show shapeB l m = framesB l m by rw [e.out, ha, hb']; rfl)
      by_cases hlen : l.length = m.length
      · replace hs1 := Lib.hid (show Secs w (.slice A m.length cap) l by rw [← hlen]; exact hs1.out)
        rw [hlen]
        replace hlen := Lib.hid hlen
        clear hl
        go_enter Try.func17, Try.ntmps17
        go_wp2_with (first | (go_at_call_of 11 (Value.slice A m.length cap); refine (specVault_any _ l _ hs1.out hm1.out).mono ?_; rintro e w1 ⟨rfl, hb⟩; rw [ha]; replace hs1 := Lib.hid (hs1.out.below hb); replace hs2 := Lib.hid (hs2.out.below hb); replace hW := Lib.hid (Below.then_ hW.out hb (Nat.le_refl _)); clear hb) | (go_at_call_of 11 (Value.slice A2 m.length cap2); refine (specVault_any _ m _ hs2.out hm2.out).mono ?_; rintro e w1 ⟨rfl, hb⟩; rw [hb']; replace hs1 := Lib.hid (hs1.out.below hb); replace hs2 := Lib.hid (hs2.out.below hb); replace hW := Lib.hid (Below.then_ hW.out hb (Nat.le_refl _)); clear hb))
        obtain ⟨w5, hw5⟩ : ∃ w5 : World, w5 = w1 := ⟨_, rfl⟩
        rw [← hw5] at hs1 hs2 hW ⊢
        clear hw5
        go_loopw [5] (fun i wr => ∃ k : Nat, k ≤ m.length ∧ i = .int .i64 (k : Int) ∧ Hid (framesTo l m k = true) ∧ Hid (Below w5.heap.size w5 wr)) (fun i _ => m.length - (intOf i).toNat)
        case atStart => exact ⟨0, Nat.zero_le _, rfl, Lib.hid rfl, Lib.hid (Below.refl _ _)⟩
        case round =>
          obtain ⟨k, hk, rfl, hup, hb⟩ := hrel
          by_cases hlt2 : k < m.length
          · have hlt2' : (k : Int) < (m.length : Int) := by omega
            have hlt := Lib.hid (show k < l.length by rw [hlen.out]; exact hlt2)
            have hsb1 := Lib.hid (hs1.out.below hb.out)
            have hsb2 := Lib.hid (hs2.out.below hb.out)
            obtain ⟨b, off, rfl, hbk, c0, c1, c2, c3⟩ := hsb1.out.four k hlt.out
            obtain ⟨b2, off2, rfl, hbk2, d0, d1, d2, d3⟩ := hsb2.out.four k hlt2
            rcases frame_ways (l[k]'hlt.out) m[k] with ⟨h1, hf⟩ | ⟨h1, h2, hf⟩ | ⟨h1, h2, h3, hf⟩ | ⟨h1, h2, h3, h4, hf⟩ | ⟨h1, h2, h3, h4, hf⟩
            · have hbad := Lib.hid (framesB_bad hlt.out (by rw [frameAt_of hlt.out hlt2]; exact hf))
              clear hf hup
              replace h1 := str_ne h1
              go_wp2
              go_big_quiet (fail)
              go_wp2
              go_ret
              exact ⟨by rw [e2.out, hbad.out]; rfl, hW.out.trans ((below_drewN hb.out _).mono hW.out.size)⟩
            · have hbad := Lib.hid (framesB_bad hlt.out (by rw [frameAt_of hlt.out hlt2]; exact hf))
              clear hf hup
              rw [← h1] at d0
              clear h1
              have h5 := bne_yes h2
              go_wp2
              go_big_quiet (fail)
              go_wp2
              go_ret
              exact ⟨by rw [e2.out, hbad.out]; rfl, hW.out.trans ((below_drewN hb.out _).mono hW.out.size)⟩
            · have hbad := Lib.hid (framesB_bad hlt.out (by rw [frameAt_of hlt.out hlt2]; exact hf))
              clear hf hup
              rw [← h1] at d0
              clear h1
              rw [← h2] at d1
              clear h2
              replace h3 := str_ne h3
              go_wp2
              go_big_quiet (fail)
              go_wp2
              go_ret
              exact ⟨by rw [e2.out, hbad.out]; rfl, hW.out.trans ((below_drewN hb.out _).mono hW.out.size)⟩
            · have hbad := Lib.hid (framesB_bad hlt.out (by rw [frameAt_of hlt.out hlt2]; exact hf))
              clear hf hup
              rw [← h1] at d0
              clear h1
              rw [← h2] at d1
              clear h2
              rw [← h3] at d3
              clear h3
              replace h4 := nat_ne h4
              go_wp2
              go_big_quiet (fail)
              go_wp2
              go_ret
              exact ⟨by rw [e2.out, hbad.out]; rfl, hW.out.trans ((below_drewN hb.out _).mono hW.out.size)⟩
            · have hup2 := Lib.hid (show framesTo l m (k + 1) = true by rw [framesTo_succ, hup.out, frameAt_of hlt.out hlt2, hf]; rfl)
              clear hf hup
              rw [← h1] at d0
              clear h1
              rw [← h2] at d1
              clear h2
              rw [← h3] at d3
              clear h3
              replace h4 := nat_eq h4
              go_wp2
              go_big_quiet (fail)
              go_wp2
              go_roundw
              case rel => exact ⟨k + 1, by omega, by go_num, hup2, Lib.hid (below_drewN hb.out _)⟩
              case measure => simp [intOf]; omega
          · have hlt' : ¬ (k : Int) < (m.length : Int) := by omega
            obtain rfl : k = m.length := by omega
            have hyes := Lib.hid (framesB_yes hlen.out (by rw [hlen.out]; exact hup.out))
            go_wp2
            go_ret
            exact ⟨by rw [e2.out, hyes.out]; rfl, hW.out.trans (hb.out.mono hW.out.size)⟩
      · have hne2 := nat_ne hlen
        have hbad := Lib.hid (framesB_no hlen)
        go_enter Try.func17, Try.ntmps17
        go_wp2_with (first | (go_at_call_of 11 (Value.slice A l.length cap); refine (specVault_any _ l _ hs1.out hm1.out).mono ?_; rintro e w1 ⟨rfl, hb⟩; rw [ha]; replace hs1 := Lib.hid (hs1.out.below hb); replace hs2 := Lib.hid (hs2.out.below hb); replace hW := Lib.hid (Below.then_ hW.out hb (Nat.le_refl _)); clear hb) | (go_at_call_of 11 (Value.slice A2 m.length cap2); refine (specVault_any _ m _ hs2.out hm2.out).mono ?_; rintro e w1 ⟨rfl, hb⟩; rw [hb']; replace hs1 := Lib.hid (hs1.out.below hb); replace hs2 := Lib.hid (hs2.out.below hb); replace hW := Lib.hid (Below.then_ hW.out hb (Nat.le_refl _)); clear hb))
        go_ret
        exact ⟨by rw [e2.out, hbad.out]; rfl, hW.out⟩
end Go.Proofs.Ytlkgdnkfjijneaa
