/- A part's word, of the program and of the model. -/
import Derived.Test.YtbadpmghlclfkaaDoorTxtE
import Derived.Test.YtbadpmghlclfkaaDoorStmA
import Derived.Test.YtbadpmghlclfkaaDoorKnown
namespace Go.Proofs.YtbadpmghlclfkaaDoor
open Go.RowKit

theorem part_size {p : Prt} (h : partOk p = true) : p.text.size ≤ 30 := by
  have hl : ∀ t : ByteArray, (tx t).length = t.size := fun t => by simp [tx]
  rcases part_cases h with ⟨_, h1, _⟩ | ⟨_, h1, _⟩ | ⟨_, h1, _⟩
  · exact h1
  · have := (word_parts h1).2.1; rw [hl] at this; omega
  · have := (word_parts h1).2.1; rw [hl] at this; omega
theorem digs3_len (n : Nat) : (digs3 n).length ≤ 3 := by
  unfold digs3
  split
  · simp
  · split <;> simp
theorem itoa_short (n : Int) (h0 : 0 ≤ n) (h1 : n ≤ 200) : (Lib.itoa n).length ≤ 3 := by rw [itoa_digs n h0 h1]; exact digs3_len _
theorem specDecI_any (n : Int) (w : World) (h0 : 0 ≤ n) (h1 : n ≤ 1000000) : Calls Tryd.prog 88 #[.int .i64 n] w (Gives (.string (bytesOf (Lib.itoa n))) w) := by
  obtain ⟨k, rfl⟩ : ∃ k : Nat, n = (k : Int) := ⟨n.toNat, by omega⟩
  exact specDec_any k w (by omega)
end Go.Proofs.YtbadpmghlclfkaaDoor
