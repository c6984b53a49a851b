/- What a kind of statement has, by the model; what is asked of a statement, by tests. -/
import Derived.Test.YtejmfpaegkgkjaaStmC
import Derived.Test.YtejmfpaegkgkjaaGlobP
import Derived.Test.YtejmfpaegkgkjaaGv
import Derived.Test.YtejmfpaegkgkjaaIs
namespace Go.Proofs.Ytejmfpaegkgkjaa
open Go.RowKit

theorem takes1_any (n : Int) (hk : n = 1) (w : World) : Calls Try.prog 33 #[.int .i64 n] w fun e w' => e = .returned (.string ⟨#[110, 112]⟩) ∧ w = w' := by
  have c1 : (n == 1) = true := by simpa using hk
  clear hk
  go_enter Try.func33, Try.ntmps33
  go_wp2
  go_ret
  exact ⟨rfl, rfl⟩
theorem takes2_any (n : Int) (hk : n = 2) (w : World) : Calls Try.prog 33 #[.int .i64 n] w fun e w' => e = .returned (.string ⟨#[110, 116]⟩) ∧ w = w' := by
  have c1 : (n == 1) = false := by simp; omega
  have c2 : (n == 2) = true := by simpa using hk
  clear hk
  go_enter Try.func33, Try.ntmps33
  go_wp2
  go_ret
  exact ⟨rfl, rfl⟩
theorem takes3_any (n : Int) (hk : n = 3) (w : World) : Calls Try.prog 33 #[.int .i64 n] w fun e w' => e = .returned (.string ⟨#[78, 112]⟩) ∧ w = w' := by
  have c1 : (n == 1) = false := by simp; omega
  have c2 : (n == 2) = false := by simp; omega
  have c3 : (n == 3) = true := by simpa using hk
  clear hk
  go_enter Try.func33, Try.ntmps33
  go_wp2
  go_ret
  exact ⟨rfl, rfl⟩
theorem takes4_any (n : Int) (hk : n = 4) (w : World) : Calls Try.prog 33 #[.int .i64 n] w fun e w' => e = .returned (.string ⟨#[78, 116, 110, 111]⟩) ∧ w = w' := by
  have c1 : (n == 1) = false := by simp; omega
  have c2 : (n == 2) = false := by simp; omega
  have c3 : (n == 3) = false := by simp; omega
  have c4 : (n == 4) = true := by simpa using hk
  clear hk
  go_enter Try.func33, Try.ntmps33
  go_wp2
  go_ret
  exact ⟨rfl, rfl⟩
theorem takes5_any (n : Int) (hk : n = 5) (w : World) : Calls Try.prog 33 #[.int .i64 n] w fun e w' => e = .returned (.string ⟨#[112]⟩) ∧ w = w' := by
  have c1 : (n == 1) = false := by simp; omega
  have c2 : (n == 2) = false := by simp; omega
  have c3 : (n == 3) = false := by simp; omega
  have c4 : (n == 4) = false := by simp; omega
  have c5 : (n == 5) = true := by simpa using hk
  clear hk
  go_enter Try.func33, Try.ntmps33
  go_wp2
  go_ret
  exact ⟨rfl, rfl⟩
theorem takes6_any (n : Int) (hk : n = 6) (w : World) : Calls Try.prog 33 #[.int .i64 n] w fun e w' => e = .returned (.string ⟨#[110, 116, 111]⟩) ∧ w = w' := by
  have c1 : (n == 1) = false := by simp; omega
  have c2 : (n == 2) = false := by simp; omega
  have c3 : (n == 3) = false := by simp; omega
  have c4 : (n == 4) = false := by simp; omega
  have c5 : (n == 5) = false := by simp; omega
  have c6 : (n == 6) = true := by simpa using hk
  clear hk
  go_enter Try.func33, Try.ntmps33
  go_wp2
  go_ret
  exact ⟨rfl, rfl⟩
theorem takes7_any (n : Int) (hk : n = 7) (w : World) : Calls Try.prog 33 #[.int .i64 n] w fun e w' => e = .returned (.string ⟨#[111]⟩) ∧ w = w' := by
  have c1 : (n == 1) = false := by simp; omega
  have c2 : (n == 2) = false := by simp; omega
  have c3 : (n == 3) = false := by simp; omega
  have c4 : (n == 4) = false := by simp; omega
  have c5 : (n == 5) = false := by simp; omega
  have c6 : (n == 6) = false := by simp; omega
  have c7 : (n == 7) = true := by simpa using hk
  clear hk
  go_enter Try.func33, Try.ntmps33
  go_wp2
  go_ret
  exact ⟨rfl, rfl⟩
theorem takes8_any (n : Int) (hk : n = 8) (w : World) : Calls Try.prog 33 #[.int .i64 n] w fun e w' => e = .returned (.string ⟨#[78]⟩) ∧ w = w' := by
  have c1 : (n == 1) = false := by simp; omega
  have c2 : (n == 2) = false := by simp; omega
  have c3 : (n == 3) = false := by simp; omega
  have c4 : (n == 4) = false := by simp; omega
  have c5 : (n == 5) = false := by simp; omega
  have c6 : (n == 6) = false := by simp; omega
  have c7 : (n == 7) = false := by simp; omega
  have c8 : (n == 8) = true := by simpa using hk
  clear hk
  go_enter Try.func33, Try.ntmps33
  go_wp2
  go_ret
  exact ⟨rfl, rfl⟩
theorem takes9_any (n : Int) (k1 : ¬ n = 1) (k2 : ¬ n = 2) (k3 : ¬ n = 3) (k4 : ¬ n = 4) (k5 : ¬ n = 5) (k6 : ¬ n = 6) (k7 : ¬ n = 7) (k8 : ¬ n = 8) (w : World) : Calls Try.prog 33 #[.int .i64 n] w fun e w' => e = .returned (.string ⟨#[]⟩) ∧ w = w' := by
  have c1 : (n == 1) = false := by simp; omega
  have c2 : (n == 2) = false := by simp; omega
  have c3 : (n == 3) = false := by simp; omega
  have c4 : (n == 4) = false := by simp; omega
  have c5 : (n == 5) = false := by simp; omega
  have c6 : (n == 6) = false := by simp; omega
  have c7 : (n == 7) = false := by simp; omega
  have c8 : (n == 8) = false := by simp; omega
  clear k1 k2 k3 k4 k5 k6 k7 k8
  go_enter Try.func33, Try.ntmps33
  go_wp2
  go_ret
  exact ⟨rfl, rfl⟩
theorem form1 (x : Stm) (h : x.kind = 1) : stmtOk x = (((wordB x.name.data.toList) && (partsB x.parts)) && ((textless x) && ((numless x) && !(!destless x)))) := by unfold stmtOk rightB restB; rw [h]; simp
theorem form2 (x : Stm) (h : x.kind = 2) : stmtOk x = (((wordB x.name.data.toList) && (wordB x.text.data.toList)) && ((numless x) && (!(!destless x) && !(!partless x)))) := by unfold stmtOk rightB restB; rw [h]; simp
theorem form3 (x : Stm) (h : x.kind = 3) : stmtOk x = (((rng x.num 0 2) && (partsB x.parts)) && ((nameless x) && ((textless x) && !(!destless x)))) := by unfold stmtOk rightB restB; rw [h]; simp
theorem form4 (x : Stm) (h : x.kind = 4) : stmtOk x = (((rng x.num 0 2) && ((globOk x.text.data.toList) && ((plainB 33 x.text.data.toList) && ((wordB x.name.data.toList) && (rng x.dest 0 40))))) && !(!partless x)) := by unfold stmtOk rightB restB; rw [h]; simp
theorem form5 (x : Stm) (h : x.kind = 5) : stmtOk x = ((partsB x.parts) && ((nameless x) && ((textless x) && ((numless x) && !(!destless x))))) := by unfold stmtOk rightB restB; rw [h]; simp
theorem form6 (x : Stm) (h : x.kind = 6) : stmtOk x = (((wordB x.name.data.toList) && ((decide (x.text.size ≤ 30)) && ((plainB 33 x.text.data.toList) && (!(decide (x.text.data.toList = [46])) && (rng x.dest 0 40))))) && ((numless x) && !(!partless x))) := by unfold stmtOk rightB restB; rw [h]; simp
theorem form7 (x : Stm) (h : x.kind = 7) : stmtOk x = ((rng x.dest 0 40) && ((nameless x) && ((textless x) && ((numless x) && !(!partless x))))) := by unfold stmtOk rightB restB; rw [h]; simp
theorem form8 (x : Stm) (h : x.kind = 8) : stmtOk x = ((rng x.num 0 99) && ((nameless x) && ((textless x) && (!(!destless x) && !(!partless x))))) := by unfold stmtOk rightB restB; rw [h]; simp
theorem empty_word {x : Stm} (h : nameless x = true) : wordB x.name.data.toList = false := word_short (.inl (by rw [of_decide_eq_true h]; simp))
theorem no_parts {x : Stm} (h : (!partless x) = false) : partsB x.parts = true := by
  have h2 : partless x = true := by simpa using h
  have h3 : x.parts = [] := of_decide_eq_true h2
  rw [h3]; rfl
theorem no_dest {x : Stm} (h : (!destless x) = false) : rng x.dest 0 40 = true := by
  have h2 : destless x = true := by simpa using h
  have h3 : x.dest = 0 := of_decide_eq_true h2
  rw [h3]; rfl

theorem prts_none {w : World} {A : Option Addr} {n cap : Nat} {x : Stm} (h : Prts w (.slice A n cap) x.parts) : decide (0 < n) = (!partless x) := by
  obtain ⟨_, _, A', c', e, _⟩ := h
  cases e
  unfold partless sameP
  cases hp : x.parts with
  | nil => simp
  | cons a l => simp
theorem dest_ne (x : Stm) : (x.dest != 0) = (!destless x) := by
  unfold destless
  by_cases h : x.dest = 0
  · simp [h]
  · simp [h]
theorem name_no {x : Stm} {E : Bool} (h : nameless x = E) : (!x.name.toList.isEmpty) = !E := by
  rw [← h, ByteArray.toList_eq]
  unfold nameless sameL
  cases x.name.data.toList <;> simp
theorem text_yes {x : Stm} (h : textless x = true) : x.text.toList = [] := by rw [ByteArray.toList_eq]; exact of_decide_eq_true h
theorem text_no {x : Stm} (h : textless x = false) : ¬ x.text.toList = [] := by rw [ByteArray.toList_eq]; exact of_decide_eq_false h
theorem dot_yes {x : Stm} (h : decide (x.text.data.toList = [46]) = true) : (x.text.toList == [46]) = true := by rw [ByteArray.toList_eq]; exact beq_iff_eq.2 (of_decide_eq_true h)
theorem dot_no {x : Stm} (h : decide (x.text.data.toList = [46]) = false) : (x.text.toList == [46]) = false := by rw [ByteArray.toList_eq]; exact beq_eq_false_iff_ne.2 (of_decide_eq_false h)
theorem glob_size {l : List UInt8} (h : globOk l = true) : l.length ≤ 40 := by
  simp only [globOk, Bool.and_eq_true, decide_eq_true_eq] at h
  omega
end Go.Proofs.Ytejmfpaegkgkjaa
