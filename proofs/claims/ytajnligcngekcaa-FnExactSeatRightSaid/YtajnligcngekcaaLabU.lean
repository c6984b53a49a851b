/- The model's marked texts: joined and cut. -/
import Derived.Test.YtajnligcngekcaaLabT
namespace Go.Proofs.Ytajnligcngekcaa
open Go.RowKit

theorem empty_own (w : World) (e : TypeId) (g base : Nat) (hg : g = w.heap.size) (hb : base ≤ g) : (w.alloc (.cells #[] e)).ownsRow base e 1 (.slice (some ⟨g, 0, none⟩) 0 0) ([] : List Value).length [] := by
  subst hg
  exact Blk.owns (cs := []) (heap_alloc_new w _) rfl (by simp) hb
theorem Ints.reads {w : World} {v : Value} {l : List Int} (h : Ints w v l) : Reads w v (l.map intV) := by
  obtain ⟨h1, A, cap, rfl, _, h2⟩ := h
  refine ⟨A, cap, by simp, fun h0 => ?_⟩
  obtain ⟨b, off, rfl, hc⟩ := h2 (by simpa using h0)
  exact ⟨b, off, rfl, fun i hi => by rw [hc i (by simpa using hi)]; simp [intV]⟩
theorem ints_one {l : List Int} : ∀ y ∈ l.map intV, y.oneCell' = true := by
  intro y hy
  rw [List.mem_map] at hy
  obtain ⟨n, _, rfl⟩ := hy
  rfl
theorem own_ints {w : World} {base : Nat} {v : Value} {l : List Int} {xs : List Value} (h : w.ownsRow base 2 1 v xs.length xs) (hx : xs = l.map intV) (hl : l.length ≤ 1048576) : OwnInts w base v l := by
  subst hx
  rw [List.length_map] at h
  exact ⟨hl, h⟩
theorem bytes_append (t s : ByteArray) : bytesOf (t.data.toList ++ s.data.toList) = t ++ s := by
  cases t with | mk a => cases s with | mk b =>
  apply ByteArray.ext
  simp [bytesOf]
end Go.Proofs.Ytajnligcngekcaa
