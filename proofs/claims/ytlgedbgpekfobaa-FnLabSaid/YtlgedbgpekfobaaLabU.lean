/- The model's marked texts: joined and cut. -/
import Derived.Test.YtlgedbgpekfobaaLabT
namespace Go.Proofs.Ytlgedbgpekfobaa
open Go.RowKit

theorem empty_own (w : World) (e : TypeId) (g base : Nat) (hg : g = w.heap.size) (hb : base ≤ g) : (w.alloc (.cells #[] e)).ownsRow base e 1 (.slice (some ⟨g, 0, none⟩) 0 0) ([] : List Value).length [] := by
  subst hg
  exact Blk.owns (cs := []) (heap_alloc_new w _) rfl (by simp) hb
theorem Ints.reads {w : World} {v : Value} {l : List Int} (h : Ints w v l) : Reads w v (l.map intV) := by
  obtain ⟨h1, A, cap, rfl, _, h2⟩ := h
  refine ⟨A, cap, by simp, fun h0 => ?_⟩
  obtain ⟨b, off, rfl, hc⟩ := h2 (by simpa using h0)
  exact ⟨b, off, rfl, fun i hi => by rw [hc i (by simpa using hi)]; simp [intV]⟩
theorem ints_one {l : List Int} : ∀ y ∈ l.map intV, y.oneCell' = true := by
  intro y hy
  rw [List.mem_map] at hy
  obtain ⟨n, _, rfl⟩ := hy
  rfl
theorem own_ints {w : World} {base : Nat} {v : Value} {l : List Int} {xs : List Value} (h : w.ownsRow base 2 1 v xs.length xs) (hx : xs = l.map intV) (hl : l.length ≤ 1048576) : OwnInts w base v l := by
  subst hx
  rw [List.length_map] at h
  exact ⟨hl, h⟩
theorem bytes_append (t s : ByteArray) : bytesOf (t.data.toList ++ s.data.toList) = t ++ s := by
  cases t with | mk a => cases s with | mk b =>
  apply ByteArray.ext
  simp [bytesOf]
set_option maxHeartbeats 8000000 in
theorem specJoin_any (t s : ByteArray) (v u : Value) (l m : List Int) (w : World) (ht : t.size ≤ 1048576) (hs : s.size ≤ 1048576) (hlm : l.length + m.length ≤ 1048576) (hv : Ints w v l) (hu : Ints w u m) :
    Calls Try.prog 47 #[.agg #[.string t, v], .agg #[.string s, u]] w (LabEnd w.heap.size (t ++ s) (l ++ m) w) := by
  obtain ⟨i0, hi, hz0, hz1, hz2⟩ := info_parts Try.info2
  obtain ⟨A1, cap1, rfl⟩ := hv.form
  obtain ⟨A2, cap2, rfl⟩ := hu.form
  have hadd := fun (w : World) => run_string_add_sum (P := Try.prog) w t s (by omega)
  have hbb := Lib.hid (fun (o1 o2 o3 : Obj) => (((Below.refl w.heap.size w).alloc (Nat.le_refl _) o1).alloc (by simp) o2).alloc (by simp; omega) o3)
  obtain ⟨B1, B2, B3⟩ := boxes3 w [.string t, .slice A1 l.length cap1] [.string s, .slice A2 m.length cap2] [.string ⟨#[]⟩, .slice none 0 0] 25 25 25
  replace B1 := Lib.hid B1
  replace B2 := Lib.hid B2
  replace B3 := Lib.hid B3
  have hbW := Lib.hid (below_drew' (hbb.out (.cells #[.string t, .slice A1 l.length cap1] 25) (.cells #[.string s, .slice A2 m.length cap2] 25) (.cells #[.string ⟨#[]⟩, .slice none 0 0] 25)))
  have hv' := Lib.hid hv
  have hu' := Lib.hid hu
  have hll := Lib.hid (show (l ++ m).length ≤ 1048576 by rw [List.length_append]; exact hlm)
  have hl0 := Lib.hid (show (([] : List Value).length + (l.map intV).length ≤ 1048576) by simp; omega)
  have hl1 := Lib.hid (show ((l.map intV).length + (m.map intV).length ≤ 1048576) by simp; omega)
  have hE := Lib.hid (empty_own ((((w.alloc (.cells #[.string t, .slice A1 l.length cap1] 25)).alloc (.cells #[.string s, .slice A2 m.length cap2] 25)).alloc (.cells #[.string ⟨#[]⟩, .slice none 0 0] 25)).drew) 2 (w.heap.size + 1 + 1 + 1) (w.heap.size + 3) (by simp) (Nat.le_refl _))
  have hne1 : ¬ w.heap.size = w.heap.size + 1 + 1 := by omega
  have hne2 : ¬ w.heap.size + 1 + 1 = w.heap.size := by omega
  have hbA := Lib.hid (hbW.out.alloc (by simp; omega) (.cells #[] 2))
  have hRv := Lib.hid (hv.below hbA.out).reads
  have hsz := Lib.hid (show w.heap.size + 3 ≤ ((((w.alloc (.cells #[.string t, .slice A1 l.length cap1] 25)).alloc (.cells #[.string s, .slice A2 m.length cap2] 25)).alloc (.cells #[.string ⟨#[]⟩, .slice none 0 0] 25)).drew.alloc (.cells #[] 2)).heap.size by simp)
  clear hv hu
  go_enter Try.func47, Try.ntmps47
  go_wp2
  go_region_held3 (fun w' => w'.cell? ⟨w.heap.size, 0, none⟩ = some (.string t) ∧ w'.cell? ⟨w.heap.size, 1, none⟩ = some (.slice A1 l.length cap1) ∧ w'.cell? ⟨w.heap.size + 1, 0, none⟩ = some (.string s) ∧ w'.cell? ⟨w.heap.size + 1, 1, none⟩ = some (.slice A2 m.length cap2)) (first | exact ⟨x0, x1, y0, y1⟩ | go_keep)
    (first
      | (refine step_append_reads (by rfl) (.tmp 10) (.tmp 12) 23 (by rfl) (w.heap.size + 3) 2 i0 (.int .i64 0) 8 Try.underlying23 hi hz0 hz1 hz2 rfl (by decide) _ _ [] (l.map intV) (by rfl) hE.out (by rfl) hRv.out ints_one hl0.out (Below.refl _ _) hsz.out ?_; intro v1 w1 ho1 hb1; rw [List.nil_append] at ho1; replace B1 := Lib.hid ((B1.out.drew.alloc _).below hb1 (by omega)); replace B2 := Lib.hid ((B2.out.drew.alloc _).below hb1 (by omega)); replace B3 := Lib.hid ((B3.out.drew.alloc _).below hb1 (by omega)); obtain ⟨x0, x1, xf0, xf1⟩ := B1.out.two; obtain ⟨y0, y1, yf0, yf1⟩ := B2.out.two; have hbw1 := Lib.hid (hbA.out.trans (hb1.mono (by omega))); replace ho1 := Lib.hid ho1; replace hb1 := Lib.hid (Nat.le_trans hsz.out hb1.size))
      | (refine step_append_reads (by rfl) (.tmp 13) (.tmp 15) 23 (by rfl) (w.heap.size + 3) 2 i0 (.int .i64 0) 8 Try.underlying23 hi hz0 hz1 hz2 rfl (by decide) _ _ (l.map intV) (m.map intV) (by rfl) ho1.out (by rfl) ((hu'.out.below hbw1.out).reads) ints_one hl1.out (Below.refl _ _) hb1.out ?_; intro v2 w2 ho2 hb2; replace ho2 := own_ints (l := l ++ m) ho2 (by simp) hll.out; obtain ⟨A, cap, rfl⟩ := ho2.form; replace B1 := Lib.hid (B1.out.below hb2 (by omega)); replace B2 := Lib.hid (B2.out.below hb2 (by omega)); replace B3 := Lib.hid (B3.out.below hb2 (by omega)); clear x0 x1 xf0 xf1 y0 y1 yf0 yf1; obtain ⟨x0, x1, xf0, xf1⟩ := B1.out.two; obtain ⟨y0, y1, yf0, yf1⟩ := B2.out.two; obtain ⟨r0, r1, rf0, rf1⟩ := B3.out.two; have hbw2 := Lib.hid (hbw1.out.trans (hb2.mono (by omega))); replace ho2 := Lib.hid ho2; clear hb2))
  all_goals
    go_wp2
    refine bodyPost_ret (v := .agg #[.string (t ++ s), .slice A (l ++ m).length cap]) (by simp [results, Try.results47, go_sem, r0, r1]) rfl ?_
    exact LabEnd.of rfl (ho2.out.set2 (by omega) (by omega) _ _) (below_set2 hbw2.out (by omega) _ _)
end Go.Proofs.Ytlgedbgpekfobaa
