/- A statement as one of its kind, and back; what each kind asks. -/
import Derived.Test.YtejmfpaegkgkjaaStmB
import Derived.Test.YtejmfpaegkgkjaaSeatA
namespace Go.Proofs.Ytejmfpaegkgkjaa
open Go.RowKit

def stmA (x : Stm) (v : Value) : Value := .agg #[.int .i64 x.kind, .string x.name, .string x.text, .int .i64 x.num, .int .i64 x.dest, v]
def stmV (x : Stm) (v : Value) : List Value := [.int .i64 x.kind, .string x.name, .string x.text, .int .i64 x.num, .int .i64 x.dest, v]
theorem stm_box {w : World} (x : Stm) (v : Value) (t : TypeId) : Blk (w.alloc (.cells #[.int .i64 x.kind, .string x.name, .string x.text, .int .i64 x.num, .int .i64 x.dest, v] t)) w.heap.size t (stmV x v) := heap_alloc_new w _
/-- What the fields of a statement may be. -/
def StmWf (x : Stm) : Prop := x.name.size ≤ maxLen ∧ x.text.size ≤ maxLen ∧ int64B x.kind ∧ int64B x.num ∧ int64B x.dest
/-- The kind's own fields. -/
def kind1 (x : Stm) (v : Value) : Value := .agg #[.string x.name, v]
def kind2 (x : Stm) (_ : Value) : Value := .agg #[.string x.name, .string x.text]
def kind3 (x : Stm) (v : Value) : Value := .agg #[.int .i64 x.num, v]
def kind4 (x : Stm) (_ : Value) : Value := .agg #[.int .i64 x.num, .string x.text, .string x.name, .int .i64 x.dest]
def kind5 (_ : Stm) (v : Value) : Value := .agg #[v]
def kind6 (x : Stm) (_ : Value) : Value := .agg #[.string x.name, .string x.text, .int .i64 x.dest]
def kind7 (x : Stm) (_ : Value) : Value := .agg #[.int .i64 x.dest]
def kind8 (x : Stm) (_ : Value) : Value := .agg #[.int .i64 x.num]
def kindV (x : Stm) (v : Value) : Value :=
  if x.kind = 1 then .iface 72 (kind1 x v) else if x.kind = 2 then .iface 74 (kind2 x v) else if x.kind = 3 then .iface 76 (kind3 x v) else if x.kind = 4 then .iface 78 (kind4 x v) else if x.kind = 5 then .iface 80 (kind5 x v) else if x.kind = 6 then .iface 82 (kind6 x v) else if x.kind = 7 then .iface 84 (kind7 x v) else if x.kind = 8 then .iface 86 (kind8 x v) else .nilIface
set_option maxHeartbeats 4000000 in
theorem kindOf_any (x : Stm) (A : Option Addr) (n cap : Nat) (w : World) : Calls Try.prog 38 #[stmA x (.slice A n cap)] w (Gives (kindV x (.slice A n cap)) w) := by
  have hb := Lib.hid ((Below.refl w.heap.size w).alloc (Nat.le_refl _) (.cells #[.int .i64 x.kind, .string x.name, .string x.text, .int .i64 x.num, .int .i64 x.dest, .slice A n cap] 36))
  unfold stmA
  by_cases k1 : x.kind = 1
  · have e := Lib.hid (show kindV x (.slice A n cap) = .iface 72 (.agg #[.string x.name, .slice A n cap]) by simp [kindV, k1, kind1])
    have c1 : (x.kind == 1) = true := by simpa using k1
    clear k1
    go_enter Try.func38, Try.ntmps38
    go_wp2
    go_ret
    exact ⟨by rw [e.out]; rfl, hb.out⟩
  · have d1 : (x.kind == 1) = false := by simp; omega
    by_cases k2 : x.kind = 2
    · have e := Lib.hid (show kindV x (.slice A n cap) = .iface 74 (.agg #[.string x.name, .string x.text]) by simp [kindV, k2, kind2])
      have c1 : (x.kind == 1) = false := by simp; omega
      have c2 : (x.kind == 2) = true := by simpa using k2
      clear k2
      go_enter Try.func38, Try.ntmps38
      go_wp2
      go_ret
      exact ⟨by rw [e.out]; rfl, hb.out⟩
    · have d2 : (x.kind == 2) = false := by simp; omega
      by_cases k3 : x.kind = 3
      · have e := Lib.hid (show kindV x (.slice A n cap) = .iface 76 (.agg #[.int .i64 x.num, .slice A n cap]) by simp [kindV, k3, kind3])
        have c1 : (x.kind == 1) = false := by simp; omega
        have c2 : (x.kind == 2) = false := by simp; omega
        have c3 : (x.kind == 3) = true := by simpa using k3
        clear k3
        go_enter Try.func38, Try.ntmps38
        go_wp2
        go_ret
        exact ⟨by rw [e.out]; rfl, hb.out⟩
      · have d3 : (x.kind == 3) = false := by simp; omega
        by_cases k4 : x.kind = 4
        · have e := Lib.hid (show kindV x (.slice A n cap) = .iface 78 (.agg #[.int .i64 x.num, .string x.text, .string x.name, .int .i64 x.dest]) by simp [kindV, k4, kind4])
          have c1 : (x.kind == 1) = false := by simp; omega
          have c2 : (x.kind == 2) = false := by simp; omega
          have c3 : (x.kind == 3) = false := by simp; omega
          have c4 : (x.kind == 4) = true := by simpa using k4
          clear k4
          go_enter Try.func38, Try.ntmps38
          go_wp2
          go_ret
          exact ⟨by rw [e.out]; rfl, hb.out⟩
        · have d4 : (x.kind == 4) = false := by simp; omega
          by_cases k5 : x.kind = 5
          · have e := Lib.hid (show kindV x (.slice A n cap) = .iface 80 (.agg #[.slice A n cap]) by simp [kindV, k5, kind5])
            have c1 : (x.kind == 1) = false := by simp; omega
            have c2 : (x.kind == 2) = false := by simp; omega
            have c3 : (x.kind == 3) = false := by simp; omega
            have c4 : (x.kind == 4) = false := by simp; omega
            have c5 : (x.kind == 5) = true := by simpa using k5
            clear k5
            go_enter Try.func38, Try.ntmps38
            go_wp2
            go_ret
            exact ⟨by rw [e.out]; rfl, hb.out⟩
          · have d5 : (x.kind == 5) = false := by simp; omega
            by_cases k6 : x.kind = 6
            · have e := Lib.hid (show kindV x (.slice A n cap) = .iface 82 (.agg #[.string x.name, .string x.text, .int .i64 x.dest]) by simp [kindV, k6, kind6])
              have c1 : (x.kind == 1) = false := by simp; omega
              have c2 : (x.kind == 2) = false := by simp; omega
              have c3 : (x.kind == 3) = false := by simp; omega
              have c4 : (x.kind == 4) = false := by simp; omega
              have c5 : (x.kind == 5) = false := by simp; omega
              have c6 : (x.kind == 6) = true := by simpa using k6
              clear k6
              go_enter Try.func38, Try.ntmps38
              go_wp2
              go_ret
              exact ⟨by rw [e.out]; rfl, hb.out⟩
            · have d6 : (x.kind == 6) = false := by simp; omega
              by_cases k7 : x.kind = 7
              · have e := Lib.hid (show kindV x (.slice A n cap) = .iface 84 (.agg #[.int .i64 x.dest]) by simp [kindV, k7, kind7])
                have c1 : (x.kind == 1) = false := by simp; omega
                have c2 : (x.kind == 2) = false := by simp; omega
                have c3 : (x.kind == 3) = false := by simp; omega
                have c4 : (x.kind == 4) = false := by simp; omega
                have c5 : (x.kind == 5) = false := by simp; omega
                have c6 : (x.kind == 6) = false := by simp; omega
                have c7 : (x.kind == 7) = true := by simpa using k7
                clear k7
                go_enter Try.func38, Try.ntmps38
                go_wp2
                go_ret
                exact ⟨by rw [e.out]; rfl, hb.out⟩
              · have d7 : (x.kind == 7) = false := by simp; omega
                by_cases k8 : x.kind = 8
                · have e := Lib.hid (show kindV x (.slice A n cap) = .iface 86 (.agg #[.int .i64 x.num]) by simp [kindV, k8, kind8])
                  have c1 : (x.kind == 1) = false := by simp; omega
                  have c2 : (x.kind == 2) = false := by simp; omega
                  have c3 : (x.kind == 3) = false := by simp; omega
                  have c4 : (x.kind == 4) = false := by simp; omega
                  have c5 : (x.kind == 5) = false := by simp; omega
                  have c6 : (x.kind == 6) = false := by simp; omega
                  have c7 : (x.kind == 7) = false := by simp; omega
                  have c8 : (x.kind == 8) = true := by simpa using k8
                  clear k8
                  go_enter Try.func38, Try.ntmps38
                  go_wp2
                  go_ret
                  exact ⟨by rw [e.out]; rfl, hb.out⟩
                · have d8 : (x.kind == 8) = false := by simp; omega
                  have e := Lib.hid (show kindV x (.slice A n cap) = .nilIface by simp [kindV, k1, k2, k3, k4, k5, k6, k7, k8])
                  clear k1 k2 k3 k4 k5 k6 k7 k8
                  go_enter Try.func38, Try.ntmps38
                  go_wp2
                  go_ret
                  exact ⟨by rw [e.out]; rfl, hb.out⟩
theorem ta_1_1 (v : Value) (w : World) : (Instr.typeAssert (.iface 72 v) 59 72 true).run Try.prog w = .ok (.tuple #[v, .bool true]) w := by kernel_rfl
theorem ta_2_1 (v : Value) (w : World) : (Instr.typeAssert (.iface 74 v) 59 72 true).run Try.prog w = .ok (.tuple #[.agg #[.string ByteArray.empty, .slice none 0 0], .bool false]) w := by kernel_rfl
theorem ta_2_2 (v : Value) (w : World) : (Instr.typeAssert (.iface 74 v) 59 74 true).run Try.prog w = .ok (.tuple #[v, .bool true]) w := by kernel_rfl
theorem ta_3_1 (v : Value) (w : World) : (Instr.typeAssert (.iface 76 v) 59 72 true).run Try.prog w = .ok (.tuple #[.agg #[.string ByteArray.empty, .slice none 0 0], .bool false]) w := by kernel_rfl
theorem ta_3_2 (v : Value) (w : World) : (Instr.typeAssert (.iface 76 v) 59 74 true).run Try.prog w = .ok (.tuple #[.agg #[.string ByteArray.empty, .string ByteArray.empty], .bool false]) w := by kernel_rfl
theorem ta_3_3 (v : Value) (w : World) : (Instr.typeAssert (.iface 76 v) 59 76 true).run Try.prog w = .ok (.tuple #[v, .bool true]) w := by kernel_rfl
theorem ta_4_1 (v : Value) (w : World) : (Instr.typeAssert (.iface 78 v) 59 72 true).run Try.prog w = .ok (.tuple #[.agg #[.string ByteArray.empty, .slice none 0 0], .bool false]) w := by kernel_rfl
theorem ta_4_2 (v : Value) (w : World) : (Instr.typeAssert (.iface 78 v) 59 74 true).run Try.prog w = .ok (.tuple #[.agg #[.string ByteArray.empty, .string ByteArray.empty], .bool false]) w := by kernel_rfl
theorem ta_4_3 (v : Value) (w : World) : (Instr.typeAssert (.iface 78 v) 59 76 true).run Try.prog w = .ok (.tuple #[.agg #[.int .i64 0, .slice none 0 0], .bool false]) w := by kernel_rfl
theorem ta_4_4 (v : Value) (w : World) : (Instr.typeAssert (.iface 78 v) 59 78 true).run Try.prog w = .ok (.tuple #[v, .bool true]) w := by kernel_rfl
theorem ta_5_1 (v : Value) (w : World) : (Instr.typeAssert (.iface 80 v) 59 72 true).run Try.prog w = .ok (.tuple #[.agg #[.string ByteArray.empty, .slice none 0 0], .bool false]) w := by kernel_rfl
theorem ta_5_2 (v : Value) (w : World) : (Instr.typeAssert (.iface 80 v) 59 74 true).run Try.prog w = .ok (.tuple #[.agg #[.string ByteArray.empty, .string ByteArray.empty], .bool false]) w := by kernel_rfl
theorem ta_5_3 (v : Value) (w : World) : (Instr.typeAssert (.iface 80 v) 59 76 true).run Try.prog w = .ok (.tuple #[.agg #[.int .i64 0, .slice none 0 0], .bool false]) w := by kernel_rfl
theorem ta_5_4 (v : Value) (w : World) : (Instr.typeAssert (.iface 80 v) 59 78 true).run Try.prog w = .ok (.tuple #[.agg #[.int .i64 0, .string ByteArray.empty, .string ByteArray.empty, .int .i64 0], .bool false]) w := by kernel_rfl
theorem ta_5_5 (v : Value) (w : World) : (Instr.typeAssert (.iface 80 v) 59 80 true).run Try.prog w = .ok (.tuple #[v, .bool true]) w := by kernel_rfl
theorem ta_6_1 (v : Value) (w : World) : (Instr.typeAssert (.iface 82 v) 59 72 true).run Try.prog w = .ok (.tuple #[.agg #[.string ByteArray.empty, .slice none 0 0], .bool false]) w := by kernel_rfl
theorem ta_6_2 (v : Value) (w : World) : (Instr.typeAssert (.iface 82 v) 59 74 true).run Try.prog w = .ok (.tuple #[.agg #[.string ByteArray.empty, .string ByteArray.empty], .bool false]) w := by kernel_rfl
theorem ta_6_3 (v : Value) (w : World) : (Instr.typeAssert (.iface 82 v) 59 76 true).run Try.prog w = .ok (.tuple #[.agg #[.int .i64 0, .slice none 0 0], .bool false]) w := by kernel_rfl
theorem ta_6_4 (v : Value) (w : World) : (Instr.typeAssert (.iface 82 v) 59 78 true).run Try.prog w = .ok (.tuple #[.agg #[.int .i64 0, .string ByteArray.empty, .string ByteArray.empty, .int .i64 0], .bool false]) w := by kernel_rfl
theorem ta_6_5 (v : Value) (w : World) : (Instr.typeAssert (.iface 82 v) 59 80 true).run Try.prog w = .ok (.tuple #[.agg #[.slice none 0 0], .bool false]) w := by kernel_rfl
theorem ta_6_6 (v : Value) (w : World) : (Instr.typeAssert (.iface 82 v) 59 82 true).run Try.prog w = .ok (.tuple #[v, .bool true]) w := by kernel_rfl
theorem ta_7_1 (v : Value) (w : World) : (Instr.typeAssert (.iface 84 v) 59 72 true).run Try.prog w = .ok (.tuple #[.agg #[.string ByteArray.empty, .slice none 0 0], .bool false]) w := by kernel_rfl
theorem ta_7_2 (v : Value) (w : World) : (Instr.typeAssert (.iface 84 v) 59 74 true).run Try.prog w = .ok (.tuple #[.agg #[.string ByteArray.empty, .string ByteArray.empty], .bool false]) w := by kernel_rfl
theorem ta_7_3 (v : Value) (w : World) : (Instr.typeAssert (.iface 84 v) 59 76 true).run Try.prog w = .ok (.tuple #[.agg #[.int .i64 0, .slice none 0 0], .bool false]) w := by kernel_rfl
theorem ta_7_4 (v : Value) (w : World) : (Instr.typeAssert (.iface 84 v) 59 78 true).run Try.prog w = .ok (.tuple #[.agg #[.int .i64 0, .string ByteArray.empty, .string ByteArray.empty, .int .i64 0], .bool false]) w := by kernel_rfl
theorem ta_7_5 (v : Value) (w : World) : (Instr.typeAssert (.iface 84 v) 59 80 true).run Try.prog w = .ok (.tuple #[.agg #[.slice none 0 0], .bool false]) w := by kernel_rfl
theorem ta_7_6 (v : Value) (w : World) : (Instr.typeAssert (.iface 84 v) 59 82 true).run Try.prog w = .ok (.tuple #[.agg #[.string ByteArray.empty, .string ByteArray.empty, .int .i64 0], .bool false]) w := by kernel_rfl
theorem ta_7_7 (v : Value) (w : World) : (Instr.typeAssert (.iface 84 v) 59 84 true).run Try.prog w = .ok (.tuple #[v, .bool true]) w := by kernel_rfl
theorem ta_8_1 (v : Value) (w : World) : (Instr.typeAssert (.iface 86 v) 59 72 true).run Try.prog w = .ok (.tuple #[.agg #[.string ByteArray.empty, .slice none 0 0], .bool false]) w := by kernel_rfl
theorem ta_8_2 (v : Value) (w : World) : (Instr.typeAssert (.iface 86 v) 59 74 true).run Try.prog w = .ok (.tuple #[.agg #[.string ByteArray.empty, .string ByteArray.empty], .bool false]) w := by kernel_rfl
theorem ta_8_3 (v : Value) (w : World) : (Instr.typeAssert (.iface 86 v) 59 76 true).run Try.prog w = .ok (.tuple #[.agg #[.int .i64 0, .slice none 0 0], .bool false]) w := by kernel_rfl
theorem ta_8_4 (v : Value) (w : World) : (Instr.typeAssert (.iface 86 v) 59 78 true).run Try.prog w = .ok (.tuple #[.agg #[.int .i64 0, .string ByteArray.empty, .string ByteArray.empty, .int .i64 0], .bool false]) w := by kernel_rfl
theorem ta_8_5 (v : Value) (w : World) : (Instr.typeAssert (.iface 86 v) 59 80 true).run Try.prog w = .ok (.tuple #[.agg #[.slice none 0 0], .bool false]) w := by kernel_rfl
theorem ta_8_6 (v : Value) (w : World) : (Instr.typeAssert (.iface 86 v) 59 82 true).run Try.prog w = .ok (.tuple #[.agg #[.string ByteArray.empty, .string ByteArray.empty, .int .i64 0], .bool false]) w := by kernel_rfl
theorem ta_8_7 (v : Value) (w : World) : (Instr.typeAssert (.iface 86 v) 59 84 true).run Try.prog w = .ok (.tuple #[.agg #[.int .i64 0], .bool false]) w := by kernel_rfl
theorem ta_8_8 (v : Value) (w : World) : (Instr.typeAssert (.iface 86 v) 59 86 true).run Try.prog w = .ok (.tuple #[v, .bool true]) w := by kernel_rfl
theorem ta_9_1 (w : World) : (Instr.typeAssert .nilIface 59 72 true).run Try.prog w = .ok (.tuple #[.agg #[.string ByteArray.empty, .slice none 0 0], .bool false]) w := by kernel_rfl
theorem ta_9_2 (w : World) : (Instr.typeAssert .nilIface 59 74 true).run Try.prog w = .ok (.tuple #[.agg #[.string ByteArray.empty, .string ByteArray.empty], .bool false]) w := by kernel_rfl
theorem ta_9_3 (w : World) : (Instr.typeAssert .nilIface 59 76 true).run Try.prog w = .ok (.tuple #[.agg #[.int .i64 0, .slice none 0 0], .bool false]) w := by kernel_rfl
theorem ta_9_4 (w : World) : (Instr.typeAssert .nilIface 59 78 true).run Try.prog w = .ok (.tuple #[.agg #[.int .i64 0, .string ByteArray.empty, .string ByteArray.empty, .int .i64 0], .bool false]) w := by kernel_rfl
theorem ta_9_5 (w : World) : (Instr.typeAssert .nilIface 59 80 true).run Try.prog w = .ok (.tuple #[.agg #[.slice none 0 0], .bool false]) w := by kernel_rfl
theorem ta_9_6 (w : World) : (Instr.typeAssert .nilIface 59 82 true).run Try.prog w = .ok (.tuple #[.agg #[.string ByteArray.empty, .string ByteArray.empty, .int .i64 0], .bool false]) w := by kernel_rfl
theorem ta_9_7 (w : World) : (Instr.typeAssert .nilIface 59 84 true).run Try.prog w = .ok (.tuple #[.agg #[.int .i64 0], .bool false]) w := by kernel_rfl
theorem ta_9_8 (w : World) : (Instr.typeAssert .nilIface 59 86 true).run Try.prog w = .ok (.tuple #[.agg #[.int .i64 0], .bool false]) w := by kernel_rfl
set_option maxRecDepth 20000 in
set_option maxHeartbeats 2000000 in
theorem stmtOf1_any (x : Stm) (A : Option Addr) (n cap : Nat) (w : World) : Calls Try.prog 40 #[.iface 72 (kind1 x (.slice A n cap))] w (Gives (.agg #[.int .i64 1, .string x.name, .string ⟨#[]⟩, .int .i64 0, .int .i64 0, .slice A n cap]) w) := by
  unfold kind1
  have t1 := ta_1_1
  go_enter Try.func40, Try.ntmps40
  go_wp2
  refine bodyPost_ret (v := .agg #[.int .i64 1, .string x.name, .string ⟨#[]⟩, .int .i64 0, .int .i64 0, .slice A n cap]) (by simp [results, Try.results40, go_sem]) rfl ⟨rfl, ?_⟩
  exact ((Below.refl _ _).alloc (Nat.le_refl _) _).alloc (by simp) _
set_option maxRecDepth 20000 in
set_option maxHeartbeats 2000000 in
theorem stmtOf2_any (x : Stm) (A : Option Addr) (n cap : Nat) (w : World) : Calls Try.prog 40 #[.iface 74 (kind2 x (.slice A n cap))] w (Gives (.agg #[.int .i64 2, .string x.name, .string x.text, .int .i64 0, .int .i64 0, .slice none 0 0]) w) := by
  unfold kind2
  have t1 := ta_2_1; have t2 := ta_2_2
  go_enter Try.func40, Try.ntmps40
  go_wp2
  refine bodyPost_ret (v := .agg #[.int .i64 2, .string x.name, .string x.text, .int .i64 0, .int .i64 0, .slice none 0 0]) (by simp [results, Try.results40, go_sem]) rfl ⟨rfl, ?_⟩
  exact ((Below.refl _ _).alloc (Nat.le_refl _) _).alloc (by simp) _
set_option maxRecDepth 20000 in
set_option maxHeartbeats 2000000 in
theorem stmtOf3_any (x : Stm) (A : Option Addr) (n cap : Nat) (w : World) : Calls Try.prog 40 #[.iface 76 (kind3 x (.slice A n cap))] w (Gives (.agg #[.int .i64 3, .string ⟨#[]⟩, .string ⟨#[]⟩, .int .i64 x.num, .int .i64 0, .slice A n cap]) w) := by
  unfold kind3
  have t1 := ta_3_1; have t2 := ta_3_2; have t3 := ta_3_3
  go_enter Try.func40, Try.ntmps40
  go_wp2
  refine bodyPost_ret (v := .agg #[.int .i64 3, .string ⟨#[]⟩, .string ⟨#[]⟩, .int .i64 x.num, .int .i64 0, .slice A n cap]) (by simp [results, Try.results40, go_sem]) rfl ⟨rfl, ?_⟩
  exact ((Below.refl _ _).alloc (Nat.le_refl _) _).alloc (by simp) _
set_option maxRecDepth 20000 in
set_option maxHeartbeats 2000000 in
theorem stmtOf4_any (x : Stm) (A : Option Addr) (n cap : Nat) (w : World) : Calls Try.prog 40 #[.iface 78 (kind4 x (.slice A n cap))] w (Gives (.agg #[.int .i64 4, .string x.name, .string x.text, .int .i64 x.num, .int .i64 x.dest, .slice none 0 0]) w) := by
  unfold kind4
  have t1 := ta_4_1; have t2 := ta_4_2; have t3 := ta_4_3; have t4 := ta_4_4
  go_enter Try.func40, Try.ntmps40
  go_wp2
  refine bodyPost_ret (v := .agg #[.int .i64 4, .string x.name, .string x.text, .int .i64 x.num, .int .i64 x.dest, .slice none 0 0]) (by simp [results, Try.results40, go_sem]) rfl ⟨rfl, ?_⟩
  exact ((Below.refl _ _).alloc (Nat.le_refl _) _).alloc (by simp) _
set_option maxRecDepth 20000 in
set_option maxHeartbeats 2000000 in
theorem stmtOf5_any (x : Stm) (A : Option Addr) (n cap : Nat) (w : World) : Calls Try.prog 40 #[.iface 80 (kind5 x (.slice A n cap))] w (Gives (.agg #[.int .i64 5, .string ⟨#[]⟩, .string ⟨#[]⟩, .int .i64 0, .int .i64 0, .slice A n cap]) w) := by
  unfold kind5
  have t1 := ta_5_1; have t2 := ta_5_2; have t3 := ta_5_3; have t4 := ta_5_4; have t5 := ta_5_5
  go_enter Try.func40, Try.ntmps40
  go_wp2
  refine bodyPost_ret (v := .agg #[.int .i64 5, .string ⟨#[]⟩, .string ⟨#[]⟩, .int .i64 0, .int .i64 0, .slice A n cap]) (by simp [results, Try.results40, go_sem]) rfl ⟨rfl, ?_⟩
  exact ((Below.refl _ _).alloc (Nat.le_refl _) _).alloc (by simp) _
set_option maxRecDepth 20000 in
set_option maxHeartbeats 2000000 in
theorem stmtOf6_any (x : Stm) (A : Option Addr) (n cap : Nat) (w : World) : Calls Try.prog 40 #[.iface 82 (kind6 x (.slice A n cap))] w (Gives (.agg #[.int .i64 6, .string x.name, .string x.text, .int .i64 0, .int .i64 x.dest, .slice none 0 0]) w) := by
  unfold kind6
  have t1 := ta_6_1; have t2 := ta_6_2; have t3 := ta_6_3; have t4 := ta_6_4; have t5 := ta_6_5; have t6 := ta_6_6
  go_enter Try.func40, Try.ntmps40
  go_wp2
  refine bodyPost_ret (v := .agg #[.int .i64 6, .string x.name, .string x.text, .int .i64 0, .int .i64 x.dest, .slice none 0 0]) (by simp [results, Try.results40, go_sem]) rfl ⟨rfl, ?_⟩
  exact ((Below.refl _ _).alloc (Nat.le_refl _) _).alloc (by simp) _
set_option maxRecDepth 20000 in
set_option maxHeartbeats 2000000 in
theorem stmtOf7_any (x : Stm) (A : Option Addr) (n cap : Nat) (w : World) : Calls Try.prog 40 #[.iface 84 (kind7 x (.slice A n cap))] w (Gives (.agg #[.int .i64 7, .string ⟨#[]⟩, .string ⟨#[]⟩, .int .i64 0, .int .i64 x.dest, .slice none 0 0]) w) := by
  unfold kind7
  have t1 := ta_7_1; have t2 := ta_7_2; have t3 := ta_7_3; have t4 := ta_7_4; have t5 := ta_7_5; have t6 := ta_7_6; have t7 := ta_7_7
  go_enter Try.func40, Try.ntmps40
  go_wp2
  refine bodyPost_ret (v := .agg #[.int .i64 7, .string ⟨#[]⟩, .string ⟨#[]⟩, .int .i64 0, .int .i64 x.dest, .slice none 0 0]) (by simp [results, Try.results40, go_sem]) rfl ⟨rfl, ?_⟩
  exact ((Below.refl _ _).alloc (Nat.le_refl _) _).alloc (by simp) _
set_option maxRecDepth 20000 in
set_option maxHeartbeats 2000000 in
theorem stmtOf8_any (x : Stm) (A : Option Addr) (n cap : Nat) (w : World) : Calls Try.prog 40 #[.iface 86 (kind8 x (.slice A n cap))] w (Gives (.agg #[.int .i64 8, .string ⟨#[]⟩, .string ⟨#[]⟩, .int .i64 x.num, .int .i64 0, .slice none 0 0]) w) := by
  unfold kind8
  have t1 := ta_8_1; have t2 := ta_8_2; have t3 := ta_8_3; have t4 := ta_8_4; have t5 := ta_8_5; have t6 := ta_8_6; have t7 := ta_8_7; have t8 := ta_8_8
  go_enter Try.func40, Try.ntmps40
  go_wp2
  refine bodyPost_ret (v := .agg #[.int .i64 8, .string ⟨#[]⟩, .string ⟨#[]⟩, .int .i64 x.num, .int .i64 0, .slice none 0 0]) (by simp [results, Try.results40, go_sem]) rfl ⟨rfl, ?_⟩
  exact ((Below.refl _ _).alloc (Nat.le_refl _) _).alloc (by simp) _
set_option maxRecDepth 20000 in
set_option maxHeartbeats 2000000 in
theorem stmtOf9_any (w : World) : Calls Try.prog 40 #[.nilIface] w (Gives (.agg #[.int .i64 0, .string ⟨#[]⟩, .string ⟨#[]⟩, .int .i64 0, .int .i64 0, .slice none 0 0]) w) := by
  skip
  have t1 := ta_9_1; have t2 := ta_9_2; have t3 := ta_9_3; have t4 := ta_9_4; have t5 := ta_9_5; have t6 := ta_9_6; have t7 := ta_9_7; have t8 := ta_9_8
  go_enter Try.func40, Try.ntmps40
  go_wp2
  refine bodyPost_ret (v := .agg #[.int .i64 0, .string ⟨#[]⟩, .string ⟨#[]⟩, .int .i64 0, .int .i64 0, .slice none 0 0]) (by simp [results, Try.results40, go_sem]) rfl ⟨rfl, ?_⟩
  exact (Below.refl _ _).alloc (Nat.le_refl _) _
end Go.Proofs.Ytejmfpaegkgkjaa
