/- Statements: how large, copied, compared by the laws. -/
import Derived.Test.YtejmfpaegkgkjaaStmC
namespace Go.Proofs.Ytejmfpaegkgkjaa
open Go.RowKit

theorem OwnPrts.setCell {w : World} {base g : Nat} {v : Value} {l : List Prt} (h : OwnPrts w base v l) (i : Nat) (u : Value) (hg : g < base) : OwnPrts (w.setCell ⟨g, i, none⟩ u) base v l := by
  obtain ⟨h1, h2, g', rfl, hb, hk⟩ := h
  exact ⟨h1, h2, g', rfl, hb, hk.setOther (by omega) i u⟩
theorem OwnPrts.mono {w : World} {b b2 : Nat} {v : Value} {l : List Prt} (h : OwnPrts w b v l) (k : b2 ≤ b) : OwnPrts w b2 v l := by
  obtain ⟨h1, h2, g', rfl, hb, hk⟩ := h
  exact ⟨h1, h2, g', rfl, Nat.le_trans k hb, hk⟩
theorem OwnPrts.set6 {w : World} {base g : Nat} {v : Value} {l : List Prt} (h : OwnPrts w base v l) (hg : g < base) (x0 x1 x2 x3 x4 x5 : Value) :
    OwnPrts ((((((w.setCell ⟨g, 0, none⟩ x0).setCell ⟨g, 1, none⟩ x1).setCell ⟨g, 2, none⟩ x2).setCell ⟨g, 3, none⟩ x3).setCell ⟨g, 4, none⟩ x4).setCell ⟨g, 5, none⟩ x5) base v l :=
  (((((h.setCell _ _ hg).setCell _ _ hg).setCell _ _ hg).setCell _ _ hg).setCell _ _ hg).setCell _ _ hg
def stmSmall (x : Stm) : Prop := x.name.size ≤ 1048576 ∧ x.text.size ≤ 1048576 ∧ PSmall x.parts
set_option maxHeartbeats 2000000 in
theorem szStmt_any (x : Stm) (A : Option Addr) (n cap : Nat) (left : Int) (w : World) (wf : StmWf x) (hv : Prts w (.slice A n cap) x.parts) (h0 : 0 ≤ left) (h1 : left ≤ 1048576) :
    Calls Try.prog 12 #[stmA x (.slice A n cap), .int .i64 left] w (SzOut (stmSmall x) left w) := by
  have hb := Lib.hid ((Below.refl w.heap.size w).alloc (Nat.le_refl _) (.cells #[.int .i64 x.kind, .string x.name, .string x.text, .int .i64 x.num, .int .i64 x.dest, .slice A n cap] 31))
  replace hv := Lib.hid (hv.alloc (.cells #[.int .i64 x.kind, .string x.name, .string x.text, .int .i64 x.num, .int .i64 x.dest, .slice A n cap] 31))
  obtain ⟨n1, n2, -⟩ := wf
  unfold maxLen at n1 n2
  have n1' : (x.name.size : Int) ≤ 9223372036854775807 := by omega
  have n2' : (x.text.size : Int) ≤ 9223372036854775807 := by omega
  unfold stmA
  by_cases c1 : left - x.name.size < 0
  · go_enter Try.func12, Try.ntmps12
    go_wp2
    go_ret
    exact ⟨-1, rfl, .inl rfl, hb.out⟩
  · by_cases c2 : left - x.name.size - x.text.size < 0
    · go_enter Try.func12, Try.ntmps12
      go_wp2
      go_ret
      exact ⟨-1, rfl, .inl rfl, hb.out⟩
    · go_enter Try.func12, Try.ntmps12
      go_wp2_with (go_at_call 32; refine (szParts_any _ x.parts (left - x.name.size - x.text.size) _ hv.out (by omega) (by omega)).mono ?_; rintro e w1 ⟨r, rfl, hr, hb1⟩; replace hb := Lib.hid (Below.then_ hb.out hb1 (Nat.le_refl _)); clear hb1; rcases hr with rfl | ⟨r0, r1, hsm⟩)
      · go_wp2
        go_ret
        exact ⟨-1, rfl, .inl rfl, hb.out⟩
      · have r2 : ¬ r < 0 := by omega
        have hend := Lib.hid (show 0 ≤ r ∧ r ≤ left ∧ stmSmall x from ⟨r0, by omega, by omega, by omega, hsm⟩)
        clear hsm
        go_wp2
        go_ret
        exact ⟨r, rfl, .inr hend.out, hb.out⟩
/-- A copy of a statement. -/
def SCopyEnd (x : Stm) (w : World) (e : Ending) (w' : World) : Prop := ∃ A n cap, e = .returned (stmA x (.slice A n cap)) ∧ OwnPrts w' w.heap.size (.slice A n cap) x.parts ∧ Below w.heap.size w w'
set_option maxHeartbeats 4000000 in
theorem toStmt_any (x : Stm) (A : Option Addr) (n cap : Nat) (w : World) (hv : Prts w (.slice A n cap) x.parts) (hl : x.parts.length ≤ 1048576) :
    Calls Try.prog 14 #[stmA x (.slice A n cap)] w (SCopyEnd x w) := by
  have hv' := Lib.hid hv
  clear hv
  unfold stmA
  go_enter Try.func14, Try.ntmps14
  go_wp2_with (go_at_call 37; refine (toParts_any _ x.parts _ (((hv'.out.alloc _).alloc _).alloc _) hl).mono ?_; rintro e w1 ⟨v2, rfl, ho, hb⟩; obtain ⟨g2, rfl⟩ := ho.form; obtain ⟨hc, hf⟩ := bcell hb; have hz := hb.size; simp only [World.size_alloc] at hz; replace ho := Lib.hid ho; replace hb := Lib.hid hb)
  refine bodyPost_ret (v := .agg #[.int .i64 x.kind, .string x.name, .string x.text, .int .i64 x.num, .int .i64 x.dest, .slice (some ⟨g2, 0, none⟩) x.parts.length x.parts.length]) (by simp [results, Try.results14, go_sem, hc]) rfl ⟨_, _, _, rfl, ?_, ?_⟩
  · exact (((ho.out.setCell _ _ (by simp)).set6 (by simp) _ _ _ _ _ _)).mono (by simp; omega)
  · exact below_set6 ((((((Below.refl _ _).alloc (Nat.le_refl _) _).alloc (by simp) _).alloc (by simp; omega) _).trans (hb.out.mono (by simp; omega))).setCell (by simp; omega) _) (by simp) _ _ _ _ _ _
set_option maxHeartbeats 4000000 in
theorem eqStmt_same (x : Stm) (A A2 : Option Addr) (n cap n2 cap2 : Nat) (w : World) (hv : Prts w (.slice A n cap) x.parts) (hu : Prts w (.slice A2 n2 cap2) x.parts) :
    Calls Try.prog 16 #[stmA x (.slice A n cap), stmA x (.slice A2 n2 cap2)] w (Gives (.bool true) w) := by
  have hb := Lib.hid (((Below.refl w.heap.size w).alloc (Nat.le_refl _) (.cells #[.int .i64 x.kind, .string x.name, .string x.text, .int .i64 x.num, .int .i64 x.dest, .slice A n cap] 36)).alloc (by simp) (.cells #[.int .i64 x.kind, .string x.name, .string x.text, .int .i64 x.num, .int .i64 x.dest, .slice A2 n2 cap2] 36))
  replace hv := Lib.hid ((hv.alloc (.cells #[.int .i64 x.kind, .string x.name, .string x.text, .int .i64 x.num, .int .i64 x.dest, .slice A n cap] 36)).alloc (.cells #[.int .i64 x.kind, .string x.name, .string x.text, .int .i64 x.num, .int .i64 x.dest, .slice A2 n2 cap2] 36))
  replace hu := Lib.hid ((hu.alloc (.cells #[.int .i64 x.kind, .string x.name, .string x.text, .int .i64 x.num, .int .i64 x.dest, .slice A n cap] 36)).alloc (.cells #[.int .i64 x.kind, .string x.name, .string x.text, .int .i64 x.num, .int .i64 x.dest, .slice A2 n2 cap2] 36))
  unfold stmA
  go_enter Try.func16, Try.ntmps16
  go_wp2_with (go_at_call 41; refine (eqParts_same _ _ x.parts _ hv.out hu.out).mono ?_; rintro e w1 ⟨rfl, hb1⟩; replace hb := Lib.hid (Below.then_ hb.out hb1 (Nat.le_refl _)); clear hb1)
  go_ret
  exact ⟨rfl, hb.out⟩
end Go.Proofs.Ytejmfpaegkgkjaa
