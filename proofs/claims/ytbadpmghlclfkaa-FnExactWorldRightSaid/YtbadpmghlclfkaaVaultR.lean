/- VaultRight of the program and of the model. -/
import Derived.Test.YtbadpmghlclfkaaVaultT
import Derived.Test.YtbadpmghlclfkaaGlobP
import Derived.Test.YtbadpmghlclfkaaIs
namespace Go.Proofs.Ytbadpmghlclfkaa
open Go.RowKit

theorem seatPlace_any (n : Int) (w : World) :
    Calls Try.prog 17 #[.int .i64 n] w fun e w' => e = .returned (.bool (isB n 0 2)) ∧ w = w' := by
  by_cases h0 : 0 ≤ n
  · by_cases h2 : n < 3
    · have e := Lib.hid (isB_yes (lo := 0) (hi := 2) h0 (show n ≤ 2 by omega))
      go_enter Try.func17, Try.ntmps17
      go_wp2
      go_ret
      exact ⟨ret_bool e.out.symm, rfl⟩
    · have e := Lib.hid (isB_no (n := n) (lo := 0) (hi := 2) (by omega))
      go_enter Try.func17, Try.ntmps17
      go_wp2
      go_ret
      exact ⟨ret_bool e.out.symm, rfl⟩
  · have e := Lib.hid (isB_no (n := n) (lo := 0) (hi := 2) (by omega))
    go_enter Try.func17, Try.ntmps17
    go_wp2
    go_ret
    exact ⟨ret_bool e.out.symm, rfl⟩
theorem secOk_eq (x : Sec) : secOk x = (wordB x.name.data.toList && (isB x.seat 0 2 && (wordB x.word.data.toList && globOk x.prompt.data.toList))) := by
  unfold secOk isB
  simp only [Bool.decide_and, Bool.and_assoc]
/-- What is known, by and by, of a box of four cells. -/
theorem box4 {w : World} (x : Sec) (t : TypeId) : Blk (w.alloc (.cells #[.string x.name, .int .i64 x.seat, .string x.word, .string x.prompt] t)) w.heap.size t (secV x) := heap_alloc_new w _
end Go.Proofs.Ytbadpmghlclfkaa
