/- Twin of the program. -/
import Derived.Test.YtbadpmghlclfkaaDoorVaultC
import Derived.Test.YtbadpmghlclfkaaDoorVaultV
namespace Go.Proofs.YtbadpmghlclfkaaDoor
open Go.RowKit

theorem Blk.eightAt {w : World} {g : Nat} {t : TypeId} {cs : List Value} (h : Blk w g t cs) (i : Nat) (hi : i + 3 < cs.length) :
    w.cell? ⟨g, i, none⟩ = some (cs[i]'(by omega)) ∧ w.cell? ⟨g, i + 1, none⟩ = some (cs[i + 1]'(by omega)) ∧ w.cell? ⟨g, i + 2, none⟩ = some (cs[i + 2]'(by omega)) ∧ w.cell? ⟨g, i + 3, none⟩ = some cs[i + 3] ∧
      w.frozen? ⟨g, i, none⟩ = false ∧ w.frozen? ⟨g, i + 1, none⟩ = false ∧ w.frozen? ⟨g, i + 2, none⟩ = false ∧ w.frozen? ⟨g, i + 3, none⟩ = false :=
  ⟨h.cell i (by omega), h.cell (i + 1) (by omega), h.cell (i + 2) (by omega), h.cell (i + 3) hi, h.free i, h.free (i + 1), h.free (i + 2), h.free (i + 3)⟩
/-- A vault that a call answers: none, or one of new memory. -/
def GotSecs (w : World) (base : Nat) (v : Value) (l : List Sec) : Prop := (l = [] ∧ v = .slice none 0 0) ∨ OwnSecs w base v l
def TwinEnd (l : List Sec) (w : World) (e : Ending) (w' : World) : Prop := ∃ v, e = .returned v ∧ GotSecs w' w.heap.size v l ∧ Below w.heap.size w w'
theorem TwinEnd.none_ {l : List Sec} {w w' : World} (h : l = []) (k : Below w.heap.size w w') : TwinEnd l w (.returned (.slice none 0 0)) w' := ⟨_, rfl, .inl ⟨h, rfl⟩, k⟩
theorem twinL_no {l : List Sec} {n : Int} (h : ¬ (vaultB l = true ∧ 0 ≤ n ∧ n ≤ 25)) : twinL l n = [] := if_neg h
theorem twinS_wf {x : Sec} (n : Nat) (h : SecWf x) : SecWf (twinS n x) := by
  refine ⟨h.1, ?_, h.2.2.1, h.2.2.2⟩
  show (bytesOf (turnL n x.word.data.toList)).size ≤ maxLen
  rw [bytesOf_size, turnL, List.length_map, str_len]
  exact h.2.1
theorem sec_small {x : Sec} (h : secOk x = true) : x.name.size ≤ 1048576 ∧ x.prompt.size ≤ 1048576 := by
  obtain ⟨h1, _, _, _, h5⟩ := secOk_parts h
  have h2 := (word_parts h1).2.1
  have h3 : x.prompt.data.toList.length ≤ 40 := by simp only [globOk, Bool.and_eq_true, decide_eq_true_eq] at h5; exact h5.1.2
  rw [str_len] at h2 h3
  omega
theorem cell_off4 {w : World} {g G : Nat} (hne : g ≠ G) (i j k m o : Nat) (a b c d : Value) :
    ((((w.setCell ⟨G, i, none⟩ a).setCell ⟨G, j, none⟩ b).setCell ⟨G, k, none⟩ c).setCell ⟨G, m, none⟩ d).cell? ⟨g, o, none⟩ = w.cell? ⟨g, o, none⟩ :=
  World.cell?_of_block (a := ⟨g, o, none⟩) ((((Below.heap_setCell _ ⟨G, m, none⟩ d g hne).trans (Below.heap_setCell _ ⟨G, k, none⟩ c g hne)).trans (Below.heap_setCell _ ⟨G, j, none⟩ b g hne)).trans (Below.heap_setCell w ⟨G, i, none⟩ a g hne))
theorem off4 {w : World} {g G : Nat} {x0 x1 x2 x3 : Value} (hne : g ≠ G) (i j k m : Nat) (a b c d : Value) (h0 : w.cell? ⟨g, 0, none⟩ = some x0) (h1 : w.cell? ⟨g, 1, none⟩ = some x1) (h2 : w.cell? ⟨g, 2, none⟩ = some x2) (h3 : w.cell? ⟨g, 3, none⟩ = some x3) :
    ((((w.setCell ⟨G, i, none⟩ a).setCell ⟨G, j, none⟩ b).setCell ⟨G, k, none⟩ c).setCell ⟨G, m, none⟩ d).cell? ⟨g, 0, none⟩ = some x0 ∧ ((((w.setCell ⟨G, i, none⟩ a).setCell ⟨G, j, none⟩ b).setCell ⟨G, k, none⟩ c).setCell ⟨G, m, none⟩ d).cell? ⟨g, 1, none⟩ = some x1 ∧
      ((((w.setCell ⟨G, i, none⟩ a).setCell ⟨G, j, none⟩ b).setCell ⟨G, k, none⟩ c).setCell ⟨G, m, none⟩ d).cell? ⟨g, 2, none⟩ = some x2 ∧ ((((w.setCell ⟨G, i, none⟩ a).setCell ⟨G, j, none⟩ b).setCell ⟨G, k, none⟩ c).setCell ⟨G, m, none⟩ d).cell? ⟨g, 3, none⟩ = some x3 :=
  ⟨(cell_off4 hne i j k m 0 a b c d).trans h0, (cell_off4 hne i j k m 1 a b c d).trans h1, (cell_off4 hne i j k m 2 a b c d).trans h2, (cell_off4 hne i j k m 3 a b c d).trans h3⟩
theorem wrap32_small (n : Nat) (h : n ≤ 1000) : IntKind.i32.wrap (n : Int) = (n : Int) := by
  have hm : (n : Int) % 4294967296 = n := by omega
  unfold IntKind.wrap
  simp [IntKind.bits, IntKind.signed, hm]
  omega
end Go.Proofs.YtbadpmghlclfkaaDoor
