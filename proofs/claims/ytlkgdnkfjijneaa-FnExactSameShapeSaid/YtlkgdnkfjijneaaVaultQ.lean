/- SameShape of the program and of the model. -/
import Derived.Test.YtlkgdnkfjijneaaVaultU
import Derived.StillTailTactics
namespace Go.Proofs.Ytlkgdnkfjijneaa
open Go.RowKit

theorem str_eq {t s : ByteArray} (h : t = s) : (t.toList == s.toList) = true := by subst h; simp
theorem int_ne {a b : Int} (h : ¬ a = b) : (a == b) = false := by simpa using h
theorem int_eq {a b : Int} (h : a = b) : (a == b) = true := by simpa using h
theorem bne_yes {a b : Int} (h : ¬ a = b) : (a != b) = true := by rw [bne, int_ne h]; rfl
theorem nat_ne {a b : Nat} (h : ¬ a = b) : ((a : Int) == (b : Int)) = false := int_ne (by omega)
theorem nat_eq {a b : Nat} (h : a = b) : ((a : Int) == (b : Int)) = true := int_eq (by omega)
/-- The five ways in which two secrets compare. -/
theorem frame_ways (x y : Sec) : (¬ x.name = y.name ∧ frameB x y = false) ∨ (x.name = y.name ∧ ¬ x.seat = y.seat ∧ frameB x y = false) ∨ (x.name = y.name ∧ x.seat = y.seat ∧ ¬ x.prompt = y.prompt ∧ frameB x y = false) ∨
    (x.name = y.name ∧ x.seat = y.seat ∧ x.prompt = y.prompt ∧ ¬ x.word.size = y.word.size ∧ frameB x y = false) ∨ (x.name = y.name ∧ x.seat = y.seat ∧ x.prompt = y.prompt ∧ x.word.size = y.word.size ∧ frameB x y = true) := by
  by_cases h1 : x.name = y.name
  · by_cases h2 : x.seat = y.seat
    · by_cases h3 : x.prompt = y.prompt
      · by_cases h4 : x.word.size = y.word.size
        · exact .inr (.inr (.inr (.inr ⟨h1, h2, h3, h4, by simp [frameB, h1, h2, h3, h4]⟩)))
        · exact .inr (.inr (.inr (.inl ⟨h1, h2, h3, h4, by simp [frameB, h4]⟩)))
      · exact .inr (.inr (.inl ⟨h1, h2, h3, by simp [frameB, h3]⟩))
    · exact .inr (.inl ⟨h1, h2, by simp [frameB, h2]⟩)
  · exact .inl ⟨h1, by simp [frameB, h1]⟩
set_option maxHeartbeats 2000000 in
theorem sameFrame_any (x y : Sec) (w : World) :
    Calls Try.prog 32 #[secA x, secA y] w (Gives (.bool (frameB x y)) w) := by
  have hbb := Lib.hid (fun (o1 o2 : Obj) => ((Below.refl w.heap.size w).alloc (Nat.le_refl _) o1).alloc (by simp) o2)
  unfold secA
  rcases frame_ways x y with ⟨h1, hf⟩ | ⟨h1, h2, hf⟩ | ⟨h1, h2, h3, hf⟩ | ⟨h1, h2, h3, h4, hf⟩ | ⟨h1, h2, h3, h4, hf⟩
  · replace h1 := str_ne h1
    replace hf := Lib.hid hf
    go_enter Try.func32, Try.ntmps32
    go_wp2
    go_ret
    exact ⟨by rw [hf.out]; rfl, hbb.out _ _⟩
  · replace h1 := str_eq h1
    replace h2 := int_ne h2
    replace hf := Lib.hid hf
    go_enter Try.func32, Try.ntmps32
    go_wp2
    go_ret
    exact ⟨by rw [hf.out]; rfl, hbb.out _ _⟩
  · replace h1 := str_eq h1
    replace h2 := int_eq h2
    replace h3 := str_ne h3
    replace hf := Lib.hid hf
    go_enter Try.func32, Try.ntmps32
    go_wp2
    go_ret
    exact ⟨by rw [hf.out]; rfl, hbb.out _ _⟩
  · replace h1 := str_eq h1
    replace h2 := int_eq h2
    replace h3 := str_eq h3
    replace h4 := nat_ne h4
    replace hf := Lib.hid hf
    go_enter Try.func32, Try.ntmps32
    go_wp2
    go_ret
    exact ⟨by rw [hf.out]; rfl, hbb.out _ _⟩
  · replace h1 := str_eq h1
    replace h2 := int_eq h2
    replace h3 := str_eq h3
    replace h4 := nat_eq h4
    replace hf := Lib.hid hf
    go_enter Try.func32, Try.ntmps32
    go_wp2
    go_ret
    exact ⟨by rw [hf.out]; rfl, hbb.out _ _⟩
def framesB (a b : List Sec) : Bool := decide (a.length = b.length) && framesTo a b a.length
theorem framesB_no {a b : List Sec} (h : ¬ a.length = b.length) : framesB a b = false := by simp [framesB, h]
theorem framesB_bad {a b : List Sec} {k : Nat} (hk : k < a.length) (h : frameAt a b k = false) : framesB a b = false := by
  have : framesTo a b a.length = false := by
    cases hu : framesTo a b a.length with
    | false => rfl
    | true => rw [List.all_eq_true.1 hu k (by simpa using hk)] at h; cases h
  simp [framesB, this]
theorem framesB_yes {a b : List Sec} (h : a.length = b.length) (h2 : framesTo a b a.length = true) : framesB a b = true := by unfold framesB; rw [h2]; simp [h]
theorem shape_frames (a b : List Sec) : shapeB a b = (vaultB a && (vaultB b && framesB a b)) := by simp [shapeB, framesB, Bool.and_assoc]
set_option maxHeartbeats 2000000 in
theorem equalFrames_any (v u : Value) (l m : List Sec) (w : World) (hv : Secs w v l) (hu : Secs w u m) :
    Calls Try.prog 31 #[v, u, .func (.func 32) #[] #[]] w (Gives (.bool (framesB l m)) w) := by
  obtain ⟨A, cap, rfl⟩ := hv.form
  obtain ⟨A2, cap2, rfl⟩ := hu.form
  have hl := hv.1
  have hm := hu.1
  unfold maxLen at hl hm
  have hv' := Lib.hid hv
  have hu' := Lib.hid hu
  clear hv hu
  by_cases hlen : l.length = m.length
  · rw [hlen]
    replace hlen := Lib.hid hlen
    clear hl
    go_enter Try.func31, Try.ntmps31
    go_wp2
    go_loopw [17] (fun i wr => ∃ k : Nat, k ≤ m.length ∧ i = .int .i64 (k : Int) ∧ Hid (framesTo l m k = true) ∧ Hid (Below w.heap.size w wr)) (fun i _ => m.length - (intOf i).toNat)
    case atStart => exact ⟨0, Nat.zero_le _, rfl, Lib.hid rfl, Lib.hid (Below.refl _ _)⟩
    case round =>
      obtain ⟨k, hk, rfl, hup, hb⟩ := hrel
      by_cases hlt2 : k < m.length
      · have hlt2' : (k : Int) < (m.length : Int) := by omega
        have hlt := Lib.hid (show k < l.length by rw [hlen.out]; exact hlt2)
        have hs1 := Lib.hid (hv'.out.below hb.out)
        have hs2 := Lib.hid (hu'.out.below hb.out)
        obtain ⟨b, off, rfl, hbk, c0, c1, c2, c3⟩ := hs1.out.four k hlt.out
        obtain ⟨b2, off2, rfl, hbk2, d0, d1, d2, d3⟩ := hs2.out.four k hlt2
        have hbb := Lib.hid (fun (o1 o2 : Obj) => (hb.out.alloc hb.out.size o1).alloc (Nat.le_trans hb.out.size (by simp)) o2)
        cases hf : frameB (l[k]'hlt.out) m[k] with
        | false =>
          have hbad := Lib.hid (framesB_bad hlt.out (by rw [frameAt_of hlt.out hlt2]; exact hf))
          clear hup
          go_wp2_with (go_at_call 32; refine (sameFrame_any (l[k]'hlt.out) m[k] _).mono ?_; rintro e w1 ⟨rfl, hb1⟩; rw [hf]; have hb2 := Lib.hid (Below.then_ (hbb.out _ _) hb1 (Nat.le_refl _)); clear hb1)
          go_ret
          exact ⟨by rw [hbad.out]; rfl, hb2.out⟩
        | true =>
          have hup2 := Lib.hid (show framesTo l m (k + 1) = true by rw [framesTo_succ, hup.out, frameAt_of hlt.out hlt2, hf]; rfl)
          clear hup
          go_wp2_with (go_at_call 32; refine (sameFrame_any (l[k]'hlt.out) m[k] _).mono ?_; rintro e w1 ⟨rfl, hb1⟩; rw [hf]; have hb2 := Lib.hid (Below.then_ (hbb.out _ _) hb1 (Nat.le_refl _)); clear hb1)
          go_roundw
          case rel => exact ⟨k + 1, by omega, by go_num, hup2, hb2⟩
          case measure => simp [intOf]; omega
      · have hlt' : ¬ (k : Int) < (m.length : Int) := by omega
        obtain rfl : k = m.length := by omega
        have hyes := Lib.hid (framesB_yes hlen.out (by rw [hlen.out]; exact hup.out))
        go_wp2
        go_ret
        exact ⟨by rw [hyes.out]; rfl, hb.out⟩
  · have hne := nat_ne hlen
    have hbad := Lib.hid (framesB_no hlen)
    go_enter Try.func31, Try.ntmps31
    go_wp2
    go_ret
    exact ⟨by rw [hbad.out]; rfl, Below.refl _ _⟩
end Go.Proofs.Ytlkgdnkfjijneaa
