/- StmtRight of the program. -/
import Derived.Test.YtejmfpaegkgkjaaStmD
import Derived.Test.YtejmfpaegkgkjaaKnown
namespace Go.Proofs.Ytejmfpaegkgkjaa
open Go.RowKit

/-- All fields of two statements are alike. -/
def sameStmB (x y : Stm) : Bool := decide (x.kind = y.kind) && (sameL x.name.data.toList y.name.data.toList && (sameL x.text.data.toList y.text.data.toList && (decide (x.num = y.num) && (decide (x.dest = y.dest) && sameP x.parts y.parts))))
set_option maxHeartbeats 4000000 in
theorem sameStmt_any (x y : Stm) (A A2 : Option Addr) (n cap n2 cap2 : Nat) (w : World) (hv : Prts w (.slice A n cap) x.parts) (hu : Prts w (.slice A2 n2 cap2) y.parts) :
    Calls Try.prog 39 #[stmA x (.slice A n cap), stmA y (.slice A2 n2 cap2)] w (Gives (.bool (sameStmB x y)) w) := by
  have hb := Lib.hid (((Below.refl w.heap.size w).alloc (Nat.le_refl _) (.cells #[.int .i64 x.kind, .string x.name, .string x.text, .int .i64 x.num, .int .i64 x.dest, .slice A n cap] 36)).alloc (by simp) (.cells #[.int .i64 y.kind, .string y.name, .string y.text, .int .i64 y.num, .int .i64 y.dest, .slice A2 n2 cap2] 36))
  replace hv := Lib.hid ((hv.alloc (.cells #[.int .i64 x.kind, .string x.name, .string x.text, .int .i64 x.num, .int .i64 x.dest, .slice A n cap] 36)).alloc (.cells #[.int .i64 y.kind, .string y.name, .string y.text, .int .i64 y.num, .int .i64 y.dest, .slice A2 n2 cap2] 36))
  replace hu := Lib.hid ((hu.alloc (.cells #[.int .i64 x.kind, .string x.name, .string x.text, .int .i64 x.num, .int .i64 x.dest, .slice A n cap] 36)).alloc (.cells #[.int .i64 y.kind, .string y.name, .string y.text, .int .i64 y.num, .int .i64 y.dest, .slice A2 n2 cap2] 36))
  unfold stmA
  by_cases h0 : x.kind = y.kind
  · have h0' : (x.kind == y.kind) = true := by simpa using h0
    cases h1 : sameL x.name.data.toList y.name.data.toList with
    | false =>
      have h1' : (x.name.toList == y.name.toList) = false := by rw [ByteArray.toList_eq, ByteArray.toList_eq]; exact beq_eq_false_iff_ne.2 (of_decide_eq_false h1)
      have e2 := Lib.hid (show sameStmB x y = false from by unfold sameStmB; simp [h0, h1])
      clear h0 h1
      go_enter Try.func39, Try.ntmps39
      go_wp2
      go_ret
      exact ⟨by rw [e2.out]; rfl, hb.out⟩
    | true =>
      have h1' : (x.name.toList == y.name.toList) = true := by rw [ByteArray.toList_eq, ByteArray.toList_eq]; exact beq_iff_eq.2 (of_decide_eq_true h1)
      cases h2 : sameL x.text.data.toList y.text.data.toList with
      | false =>
        have h2' : (x.text.toList == y.text.toList) = false := by rw [ByteArray.toList_eq, ByteArray.toList_eq]; exact beq_eq_false_iff_ne.2 (of_decide_eq_false h2)
        have e2 := Lib.hid (show sameStmB x y = false from by unfold sameStmB; simp [h0, h1, h2])
        clear h0 h1 h2
        go_enter Try.func39, Try.ntmps39
        go_wp2
        go_ret
        exact ⟨by rw [e2.out]; rfl, hb.out⟩
      | true =>
        have h2' : (x.text.toList == y.text.toList) = true := by rw [ByteArray.toList_eq, ByteArray.toList_eq]; exact beq_iff_eq.2 (of_decide_eq_true h2)
        by_cases h3 : x.num = y.num
        · have h3' : (x.num == y.num) = true := by simpa using h3
          by_cases h4 : x.dest = y.dest
          · have h4' : (x.dest == y.dest) = true := by simpa using h4
            cases h5 : sameP x.parts y.parts with
            | false =>
              have e2 := Lib.hid (show sameStmB x y = false from by unfold sameStmB; simp [h0, h1, h2, h3, h4, h5])
              clear h0 h1 h2 h3 h4
              go_enter Try.func39, Try.ntmps39
              go_wp2_with (go_at_call 45; refine (equalParts_any _ _ _ _ _ hv.out hu.out).mono ?_; rintro e w1 ⟨rfl, m, rfl⟩; rw [h5])
              go_ret
              exact ⟨by rw [e2.out]; rfl, below_drewN hb.out _⟩
            | true =>
              have e2 := Lib.hid (show sameStmB x y = true from by unfold sameStmB; simp [h0, h1, h2, h3, h4, h5])
              clear h0 h1 h2 h3 h4
              go_enter Try.func39, Try.ntmps39
              go_wp2_with (go_at_call 45; refine (equalParts_any _ _ _ _ _ hv.out hu.out).mono ?_; rintro e w1 ⟨rfl, m, rfl⟩; rw [h5])
              go_ret
              exact ⟨by rw [e2.out]; rfl, below_drewN hb.out _⟩
          · have h4' : (x.dest == y.dest) = false := by simpa using h4
            have e2 := Lib.hid (show sameStmB x y = false from by unfold sameStmB; simp [h0, h1, h2, h3, h4])
            clear h0 h1 h2 h3 h4
            go_enter Try.func39, Try.ntmps39
            go_wp2
            go_ret
            exact ⟨by rw [e2.out]; rfl, hb.out⟩
        · have h3' : (x.num == y.num) = false := by simpa using h3
          have e2 := Lib.hid (show sameStmB x y = false from by unfold sameStmB; simp [h0, h1, h2, h3])
          clear h0 h1 h2 h3
          go_enter Try.func39, Try.ntmps39
          go_wp2
          go_ret
          exact ⟨by rw [e2.out]; rfl, hb.out⟩
  · have h0' : (x.kind == y.kind) = false := by simpa using h0
    have e2 := Lib.hid (show sameStmB x y = false from by unfold sameStmB; simp [h0])
    clear h0
    go_enter Try.func39, Try.ntmps39
    go_wp2
    go_ret
    exact ⟨by rw [e2.out]; rfl, hb.out⟩
def cut1 (x : Stm) : Stm := ⟨1, x.name, ⟨#[]⟩, 0, 0, x.parts⟩
def cut2 (x : Stm) : Stm := ⟨2, x.name, x.text, 0, 0, []⟩
def cut3 (x : Stm) : Stm := ⟨3, ⟨#[]⟩, ⟨#[]⟩, x.num, 0, x.parts⟩
def cut4 (x : Stm) : Stm := ⟨4, x.name, x.text, x.num, x.dest, []⟩
def cut5 (x : Stm) : Stm := ⟨5, ⟨#[]⟩, ⟨#[]⟩, 0, 0, x.parts⟩
def cut6 (x : Stm) : Stm := ⟨6, x.name, x.text, 0, x.dest, []⟩
def cut7 (x : Stm) : Stm := ⟨7, ⟨#[]⟩, ⟨#[]⟩, 0, x.dest, []⟩
def cut8 (x : Stm) : Stm := ⟨8, ⟨#[]⟩, ⟨#[]⟩, x.num, 0, []⟩
theorem cut1_same (x : Stm) (h : x.kind = 1) : sameStmB x (cut1 x) = restB x := by unfold restB sameStmB cut1; rw [h]; simp [textless, numless, destless, sameL, sameP]
theorem cut2_same (x : Stm) (h : x.kind = 2) : sameStmB x (cut2 x) = restB x := by unfold restB sameStmB cut2; rw [h]; simp [numless, destless, partless, sameL]
theorem cut3_same (x : Stm) (h : x.kind = 3) : sameStmB x (cut3 x) = restB x := by unfold restB sameStmB cut3; rw [h]; simp [nameless, textless, destless, sameL, sameP]
theorem cut4_same (x : Stm) (h : x.kind = 4) : sameStmB x (cut4 x) = restB x := by unfold restB sameStmB cut4; rw [h]; simp [partless, sameL]
theorem cut5_same (x : Stm) (h : x.kind = 5) : sameStmB x (cut5 x) = restB x := by unfold restB sameStmB cut5; rw [h]; simp [nameless, textless, numless, destless, sameL, sameP]
theorem cut6_same (x : Stm) (h : x.kind = 6) : sameStmB x (cut6 x) = restB x := by unfold restB sameStmB cut6; rw [h]; simp [numless, partless, sameL]
theorem cut7_same (x : Stm) (h : x.kind = 7) : sameStmB x (cut7 x) = restB x := by unfold restB sameStmB cut7; rw [h]; simp [nameless, textless, numless, partless, sameL]
theorem cut8_same (x : Stm) (h : x.kind = 8) : sameStmB x (cut8 x) = restB x := by unfold restB sameStmB cut8; rw [h]; simp [nameless, textless, destless, partless, sameL]
theorem Prts.nil (w : World) : Prts w (.slice none 0 0) [] := ⟨by simp, by simp, none, 0, rfl, fun h => by simp at h⟩
end Go.Proofs.Ytejmfpaegkgkjaa
