/- '[]byte(s)': a row known cell by cell, and back. -/
import Derived.Test.YtbadpmghlclfkaaDoorBase
namespace Go.Proofs.YtbadpmghlclfkaaDoor
open Go.RowKit

/-- A row that holds the bytes l, from its first cell on; none is frozen. -/
def Buf (w : World) (g : Nat) (l : List UInt8) : Prop := g < w.heap.size ∧ ∀ j (hj : j < l.length), w.cell? ⟨g, j, none⟩ = some (byteV l[j]) ∧ w.frozen? ⟨g, j, none⟩ = false
theorem to_bytes (w : World) (l : List UInt8) (k : Nat) (hk : k = l.length) : ∃ (cap : Nat) (w' : World), (convert 9 22 (.string (bytesOf l))).run Tryd.prog w = .ok (.slice (some ⟨w.heap.size, 0, none⟩) k cap) w' ∧ Buf w' w.heap.size l ∧ Below w.heap.size w w' := by
  subst hk
  refine ⟨_, _, by rw [← bytesOf_size]; exact run_bytes_of_string w 9 22 5 (bytesOf l) Tryd.underlying9 Tryd.underlying22 Tryd.underlying5, ⟨by simp, fun j hj => ?_⟩, ?_⟩
  · have hj' : j < (bytesOf l).data.size := by show j < l.toArray.size; simpa using hj
    have hblk := heap_alloc_new w.drew (.cells (bytesRow (bytesOf l) (grownCap w (bytesOf l).size 0 5)) 5 ((bytesRow (bytesOf l) (grownCap w (bytesOf l).size 0 5)).size, (bytesRow (bytesOf l) (grownCap w (bytesOf l).size 0 5)).size + 1))
    have hat := bytesRow_at (bytesOf l) (grownCap w (bytesOf l).size 0 5) j hj'
    have hlt := (Array.getElem?_eq_some_iff.1 hat).1
    have hsz : w.drew.heap.size = w.heap.size := rfl
    rw [hsz] at hblk
    constructor
    · unfold World.cell?
      rw [hblk]
      show (bytesRow _ _)[j]? = _
      rw [hat]; rfl
    · unfold World.frozen?
      rw [hblk]
      simp
      omega
  · exact ⟨rfl, rfl, rfl, by simp, fun k hk => Below.heap_alloc w.drew _ k hk⟩
theorem Buf.keep {w w' : World} {g b : Nat} {l : List UInt8} (h : Buf w g l) (k : Below b w w') (hb : g < b) : Buf w' g l := by
  refine ⟨Nat.lt_of_lt_of_le h.1 k.size, fun j hj => ?_⟩
  have e := k.block g hb
  obtain ⟨h1, h2⟩ := h.2 j hj
  exact ⟨by rw [World.cell?_of_block (w := w) (w' := w') e]; exact h1, by unfold World.frozen? at h2 ⊢; rw [e]; exact h2⟩
theorem Buf.set {w : World} {g v : Nat} {l : List UInt8} (h : Buf w g l) (_hv : v < l.length) (c : UInt8) : Buf (w.setCell ⟨g, v, none⟩ (.int .u8 (c.toNat : Int))).drew g (l.set v c) := by
  refine ⟨by simpa [World.setCell, World.drew, -World.drew_eq] using h.1, fun j hj => ?_⟩
  rw [List.length_set] at hj
  obtain ⟨h1, h2⟩ := h.2 j hj
  refine ⟨?_, (World.frozen?_setCell w _ _ _).trans h2⟩
  show (w.setCell ⟨g, v, none⟩ (.int .u8 (c.toNat : Int))).cell? ⟨g, j, none⟩ = _
  by_cases hjv : v = j
  · subst hjv
    rw [World.cell?_setCell_same' _ _ _ (by rw [h1]; rfl), List.getElem_set_self]; rfl
  · rw [World.cell?_setCell_other _ _ _ _ (by intro e; injection e with e1 e2; exact hjv e2), h1, List.getElem_set_ne hjv]
theorem Buf.string {w : World} {g k cap : Nat} {l : List UInt8} (h : Buf w g l) (hk : k = l.length) : (convert 22 9 (.slice (some ⟨g, 0, none⟩) k cap)).run Tryd.prog w = .ok (.string (bytesOf l)) w := by
  subst hk
  refine run_convert_bytes_back w 22 9 5 ⟨g, 0, none⟩ cap l Tryd.underlying22 Tryd.underlying5 Tryd.underlying9 fun j hj => ?_
  have e1 : (⟨g, 0, none⟩ : Addr).add j = ⟨g, j, none⟩ := by unfold Addr.add; split <;> simp_all
  rw [e1]; exact (h.2 j hj).1
end Go.Proofs.YtbadpmghlclfkaaDoor
