/- The program's marked texts: cut, redacted, all marks. -/
import Derived.Test.YtlgedbgpekfobaaLabE
namespace Go.Proofs.Ytlgedbgpekfobaa
open Go.RowKit

def cutR (t : ByteArray) (l : List Int) (a b : Int) : LabR := if labB t l = true then (if 0 ≤ a ∧ a ≤ b ∧ b ≤ (t.size : Int) then ⟨0, bytesOf ((t.data.toList.drop a.toNat).take (b.toNat - a.toNat)), (l.drop a.toNat).take (b.toNat - a.toNat)⟩ else noLab 8) else noLab 1
theorem cutR_no {t : ByteArray} {l : List Int} {a b : Int} (h : labB t l = false) : cutR t l a b = noLab 1 := by rw [cutR, if_neg (by rw [h]; simp)]
theorem cutR_range {t : ByteArray} {l : List Int} {a b : Int} (h : labB t l = true) (h1 : ¬ (0 ≤ a ∧ a ≤ b ∧ b ≤ (t.size : Int))) : cutR t l a b = noLab 8 := by rw [cutR, if_pos h, if_neg h1]
theorem cutR_ok {t : ByteArray} {l : List Int} {a b : Nat} (h : labB t l = true) (h1 : a ≤ b) (h2 : b ≤ t.size) : cutR t l (a : Int) (b : Int) = ⟨0, bytesOf ((t.data.toList.drop a).take (b - a)), (l.drop a).take (b - a)⟩ := by rw [cutR, if_pos h, if_pos (by omega)]; rfl
theorem cells_part (T : List UInt8) (l : List Int) (a n : Nat) : ((cellsL T l).drop a).take n = cellsL ((T.drop a).take n) ((l.drop a).take n) := by
  unfold cellsL; rw [List.drop_zipWith, List.take_zipWith]
set_option maxHeartbeats 4000000 in
theorem implLabCut_any (t : ByteArray) (v : Value) (l : List Int) (a b : Int) (w : World) (ht : t.size ≤ 1048576) (hv : Ints w v l) (ha : -9223372036854775808 ≤ a ∧ a ≤ 9223372036854775807) (hb : -9223372036854775808 ≤ b ∧ b ≤ 9223372036854775807) :
    Calls Try.prog 20 #[.agg #[.string t, v], .int .i64 a, .int .i64 b] w (LabOutEnd w.heap.size (cutR t l a b) w) := by
  obtain ⟨A1, cap1, rfl⟩ := hv.form
  have hv' := Lib.hid hv
  clear hv
  have hbb := Lib.hid (fun (o1 o2 : Obj) => ((Below.refl w.heap.size w).alloc (Nat.le_refl _) o1).alloc (by simp) o2)
  by_cases h1 : labB t l = true
  · by_cases h2 : 0 ≤ a ∧ a ≤ b ∧ b ≤ (t.size : Int)
    · obtain ⟨h20, h21, h22⟩ := h2
      obtain ⟨p, rfl⟩ : ∃ p : Nat, a = (p : Int) := ⟨a.toNat, by omega⟩
      obtain ⟨q, rfl⟩ : ∃ q : Nat, b = (q : Int) := ⟨b.toNat, by omega⟩
      have hpq : p ≤ q := by omega
      have hqt : q ≤ t.size := by omega
      have e := Lib.hid (cutR_ok h1 hpq hqt)
      obtain ⟨hp2, hp1, hp3⟩ := labB_parts h1
      replace hp1 := Lib.hid hp1
      replace hp3 := Lib.hid hp3
      have hT := Lib.hid (show t.data.toList.length = l.length by rw [hp1.out]; simp)
      have hcl := Lib.hid ((cellsL_len t.data.toList l hT.out).trans hp1.out)
      obtain ⟨T, hTd⟩ : ∃ T, T = (t.data.toList.drop p).take (q - p) := ⟨_, rfl⟩
      obtain ⟨L, hLd⟩ : ∃ L, L = (l.drop p).take (q - p) := ⟨_, rfl⟩
      rw [← hTd, ← hLd] at e
      have hll := hp1.out
      have hTl : T.length = q - p := by rw [hTd]; simp; omega
      have hLl : L.length = q - p := by rw [hLd]; simp; omega
      have hTT := Lib.hid (hTl.trans hLl.symm)
      have hLL := Lib.hid (show L.length ≤ 1048576 by omega)
      have hmm := Lib.hid (show ∀ x ∈ L, 0 ≤ x ∧ x ≤ 15 from fun x hx => hp3.out x (by rw [hLd] at hx; exact List.mem_of_mem_drop (List.mem_of_mem_take hx)))
      have hcp := Lib.hid (cells_part t.data.toList l p (q - p))
      replace hLl := Lib.hid hLl
      clear hTl hll
      have hrd : ∀ (W : World) (g : Nat), Blk W g 70 (cellsL t.data.toList l) → Reads W (.slice (some ⟨g, p, none⟩) (q - p) (q - p)) (cellsL T L) := by
        intro W g hk
        rw [hTd, hLd, ← hcp.out]
        exact hk.part hpq (by rw [hcl.out]; exact hqt)
      replace hrd := Lib.hid hrd
      by_cases hqp : q = p
      · subst hqp
        have hT0 : T = [] := by rw [hTd]; simp
        have hL0 : L = [] := by rw [hLd]; simp
        subst hT0 hL0
        clear hTd hLd
        go_enter Try.func20, Try.ntmps20
        go_wp2_with (first
          | (go_at_call 31; refine (implLabRight_any t _ l _ ht ((hv'.out.alloc _).alloc _)).mono ?_; rintro e1 w1 ⟨rfl, hb1⟩; obtain ⟨B1, B2⟩ := boxes2 w [.string t, .slice A1 l.length cap1] [.string ⟨#[]⟩, .slice none 0 0, .int .i64 0] 25 29; replace B1 := B1.up hb1; replace B2 := B2.up hb1; obtain ⟨x0, x1, xf0, xf1⟩ := B1.two; obtain ⟨r0, r1, r2, rf0, rf1, rf2⟩ := B2.three; replace hb1 := Lib.hid hb1; replace B1 := Lib.hid B1; replace B2 := Lib.hid B2)
          | (go_at_call 42; refine (cellsOf_any t l _ _ hp1.out (((hv'.out.alloc _).alloc _).below hb1.out)).mono ?_; rintro e1 w2 ⟨g, rfl, hg, hk, hb2⟩; rw [hcl.out]; replace B1 := Lib.hid (B1.out.up hb2); replace B2 := Lib.hid (B2.out.up hb2); replace hg := Lib.hid hg; replace hk := Lib.hid hk; replace hb2 := Lib.hid hb2)
          | (go_at_call 43; refine (lab_any [] [] _ _ hTT.out hLL.out hmm.out (Reads.empty _ _ _)).mono ?_; rintro e1 w3 ⟨A, cap, rfl, ho, hb3⟩; clear r0 r1 r2 rf0 rf1 rf2; obtain ⟨r0, r1, r2, rf0, rf1, rf2⟩ := (B2.out.up hb3).three; have hwz := B2.out.lt; replace ho := Lib.hid ho; replace hb3 := Lib.hid hb3))
        refine bodyPost_ret (v := .agg #[.string (bytesOf []), .slice A 0 cap, .int .i64 0]) (by simp [results, Try.results20, go_sem, r0, r1, r2]) rfl ?_
        rw [e.out]
        exact LabOutEnd.yes (R := ⟨0, bytesOf [], []⟩) rfl (ho.out.set3 (by omega) (by omega) _ _ _) (below_set3 (Below.then_ (Below.then_ (Below.then_ (hbb.out _ _) hb1.out (Nat.le_refl _)) hb2.out (Nat.le_refl _)) hb3.out (Nat.le_refl _)) (by omega) _ _ _)
      · replace hTd := Lib.hid hTd
        replace hLd := Lib.hid hLd
        go_enter Try.func20, Try.ntmps20
        go_wp2_with (first
          | (go_at_call 31; refine (implLabRight_any t _ l _ ht ((hv'.out.alloc _).alloc _)).mono ?_; rintro e1 w1 ⟨rfl, hb1⟩; obtain ⟨B1, B2⟩ := boxes2 w [.string t, .slice A1 l.length cap1] [.string ⟨#[]⟩, .slice none 0 0, .int .i64 0] 25 29; replace B1 := B1.up hb1; replace B2 := B2.up hb1; obtain ⟨x0, x1, xf0, xf1⟩ := B1.two; obtain ⟨r0, r1, r2, rf0, rf1, rf2⟩ := B2.three; replace hb1 := Lib.hid hb1; replace B1 := Lib.hid B1; replace B2 := Lib.hid B2)
          | (go_at_call 42; refine (cellsOf_any t l _ _ hp1.out (((hv'.out.alloc _).alloc _).below hb1.out)).mono ?_; rintro e1 w2 ⟨g, rfl, hg, hk, hb2⟩; rw [hcl.out]; replace B1 := Lib.hid (B1.out.up hb2); replace B2 := Lib.hid (B2.out.up hb2); replace hg := Lib.hid hg; replace hk := Lib.hid hk; replace hb2 := Lib.hid hb2)
          | (go_at_call 43; refine (lab_any T L _ _ hTT.out hLL.out hmm.out (hrd.out _ _ hk.out)).mono ?_; rintro e1 w3 ⟨A, cap, rfl, ho, hb3⟩; clear r0 r1 r2 rf0 rf1 rf2; obtain ⟨r0, r1, r2, rf0, rf1, rf2⟩ := (B2.out.up hb3).three; have hwz := B2.out.lt; replace ho := Lib.hid ho; replace hb3 := Lib.hid hb3))
        refine bodyPost_ret (v := .agg #[.string (bytesOf T), .slice A L.length cap, .int .i64 0]) (by simp [results, Try.results20, go_sem, r0, r1, r2]) rfl ?_
        rw [e.out]
        exact LabOutEnd.yes (R := ⟨0, bytesOf T, L⟩) rfl (ho.out.set3 (by omega) (by omega) _ _ _) (below_set3 (Below.then_ (Below.then_ (Below.then_ (hbb.out _ _) hb1.out (Nat.le_refl _)) hb2.out (Nat.le_refl _)) hb3.out (Nat.le_refl _)) (by omega) _ _ _)
    · have e := Lib.hid (cutR_range h1 h2)
      by_cases c1 : a < 0
      · clear h2
        go_enter Try.func20, Try.ntmps20
        go_wp2_with (go_at_call 31; refine (implLabRight_any t _ l _ ht ((hv'.out.alloc _).alloc _)).mono ?_; rintro e1 w1 ⟨rfl, hb1⟩; obtain ⟨B1, B2⟩ := boxes2 w [.string t, .slice A1 l.length cap1] [.string ⟨#[]⟩, .slice none 0 0, .int .i64 0] 25 29; replace B1 := B1.up hb1; replace B2 := B2.up hb1; obtain ⟨x0, x1, xf0, xf1⟩ := B1.two; obtain ⟨r0, r1, r2, rf0, rf1, rf2⟩ := B2.three; replace hb1 := Lib.hid hb1; replace B1 := Lib.hid B1; replace B2 := Lib.hid B2)
        exact bodyPost_ret (v := .agg #[.string ⟨#[]⟩, .slice none 0 0, .int .i64 8]) (by simp [results, Try.results20, go_sem, r0, r1, r2]) rfl (LabOutEnd.none_ e.out (below_set3 (Below.then_ (hbb.out _ _) hb1.out (Nat.le_refl _)) (by omega) _ _ _))
      · by_cases c2 : b < a
        · clear h2
          go_enter Try.func20, Try.ntmps20
          go_wp2_with (go_at_call 31; refine (implLabRight_any t _ l _ ht ((hv'.out.alloc _).alloc _)).mono ?_; rintro e1 w1 ⟨rfl, hb1⟩; obtain ⟨B1, B2⟩ := boxes2 w [.string t, .slice A1 l.length cap1] [.string ⟨#[]⟩, .slice none 0 0, .int .i64 0] 25 29; replace B1 := B1.up hb1; replace B2 := B2.up hb1; obtain ⟨x0, x1, xf0, xf1⟩ := B1.two; obtain ⟨r0, r1, r2, rf0, rf1, rf2⟩ := B2.three; replace hb1 := Lib.hid hb1; replace B1 := Lib.hid B1; replace B2 := Lib.hid B2)
          exact bodyPost_ret (v := .agg #[.string ⟨#[]⟩, .slice none 0 0, .int .i64 8]) (by simp [results, Try.results20, go_sem, r0, r1, r2]) rfl (LabOutEnd.none_ e.out (below_set3 (Below.then_ (hbb.out _ _) hb1.out (Nat.le_refl _)) (by omega) _ _ _))
        · have c3 : (t.size : Int) < b := by omega
          clear h2
          go_enter Try.func20, Try.ntmps20
          go_wp2_with (go_at_call 31; refine (implLabRight_any t _ l _ ht ((hv'.out.alloc _).alloc _)).mono ?_; rintro e1 w1 ⟨rfl, hb1⟩; obtain ⟨B1, B2⟩ := boxes2 w [.string t, .slice A1 l.length cap1] [.string ⟨#[]⟩, .slice none 0 0, .int .i64 0] 25 29; replace B1 := B1.up hb1; replace B2 := B2.up hb1; obtain ⟨x0, x1, xf0, xf1⟩ := B1.two; obtain ⟨r0, r1, r2, rf0, rf1, rf2⟩ := B2.three; replace hb1 := Lib.hid hb1; replace B1 := Lib.hid B1; replace B2 := Lib.hid B2)
          exact bodyPost_ret (v := .agg #[.string ⟨#[]⟩, .slice none 0 0, .int .i64 8]) (by simp [results, Try.results20, go_sem, r0, r1, r2]) rfl (LabOutEnd.none_ e.out (below_set3 (Below.then_ (hbb.out _ _) hb1.out (Nat.le_refl _)) (by omega) _ _ _))
  · have h1' : labB t l = false := by simpa using h1
    have e := Lib.hid (cutR_no (a := a) (b := b) h1')
    clear h1
    go_enter Try.func20, Try.ntmps20
    go_wp2_with (go_at_call 31; refine (implLabRight_any t _ l _ ht ((hv'.out.alloc _).alloc _)).mono ?_; rintro e1 w1 ⟨rfl, hb1⟩; obtain ⟨B1, B2⟩ := boxes2 w [.string t, .slice A1 l.length cap1] [.string ⟨#[]⟩, .slice none 0 0, .int .i64 0] 25 29; replace B1 := B1.up hb1; replace B2 := B2.up hb1; obtain ⟨x0, x1, xf0, xf1⟩ := B1.two; obtain ⟨r0, r1, r2, rf0, rf1, rf2⟩ := B2.three; replace hb1 := Lib.hid hb1; replace B1 := Lib.hid B1; replace B2 := Lib.hid B2)
    exact bodyPost_ret (v := .agg #[.string ⟨#[]⟩, .slice none 0 0, .int .i64 1]) (by simp [results, Try.results20, go_sem, r0, r1, r2]) rfl (LabOutEnd.none_ e.out (below_set3 (Below.then_ (hbb.out _ _) hb1.out (Nat.le_refl _)) (by omega) _ _ _))
end Go.Proofs.Ytlgedbgpekfobaa
