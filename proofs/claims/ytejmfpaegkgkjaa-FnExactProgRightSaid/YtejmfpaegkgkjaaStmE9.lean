/- StmtRight of the program, kind none. -/
import Derived.Test.YtejmfpaegkgkjaaStmE
import Derived.Test.YtejmfpaegkgkjaaKnown
namespace Go.Proofs.Ytejmfpaegkgkjaa
open Go.RowKit
set_option maxRecDepth 20000 in
set_option maxHeartbeats 8000000 in
theorem implStmt9_any (x : Stm) (A : Option Addr) (n cap : Nat) (w : World) (hv : Prts w (.slice A n cap) x.parts) (k1 : ¬ x.kind = 1) (k2 : ¬ x.kind = 2) (k3 : ¬ x.kind = 3) (k4 : ¬ x.kind = 4) (k5 : ¬ x.kind = 5) (k6 : ¬ x.kind = 6) (k7 : ¬ x.kind = 7) (k8 : ¬ x.kind = 8) : Calls Try.prog 15 #[stmA x (.slice A n cap)] w (Gives (.bool (stmtOk x)) w) := by
  have hb := Lib.hid ((Below.refl w.heap.size w).alloc (Nat.le_refl _) (.cells #[.int .i64 x.kind, .string x.name, .string x.text, .int .i64 x.num, .int .i64 x.dest, .slice A n cap] 36))
  have hk := Lib.hid (stm_box (w := w) x (.slice A n cap) 36)
  replace hv := Lib.hid (hv.alloc (.cells #[.int .i64 x.kind, .string x.name, .string x.text, .int .i64 x.num, .int .i64 x.dest, .slice A n cap] 36))
  have hkind := Lib.hid (show kindV x (.slice A n cap) = .nilIface by simp [kindV, k1, k2, k3, k4, k5, k6, k7, k8])
  have e2 := Lib.hid (show stmtOk x = false by simp [stmtOk, rightB, k1, k2, k3, k4, k5, k6, k7, k8])
  clear k1 k2 k3 k4 k5 k6 k7 k8
  unfold stmA
  go_enter Try.func15, Try.ntmps15
  go_wp2_with (go_at_call 38; refine (kindOf_any x A n cap _).mono ?_; rintro e w1 ⟨rfl, hb1⟩; rw [hkind.out]; replace hv := Lib.hid (hv.out.below hb1); replace hk := Lib.hid (hk.out.up hb1); replace hb := Lib.hid (Below.then_ hb.out hb1 (Nat.le_refl _)); clear hb1)
  refine wp_region_known [(.is (.nilIface)), (.is (.bool false)), (.is (.bool false)), .any, (.is undef), (.is (.bool false)), (.is (.bool false)), .any, .any, .any, .any, (.is (.bool false)), (.is (.bool false))] (by kernel_rfl) (by kernel_rfl) (by kernel_rfl) ⟨?_, ?_, ?_, ?_, ?_, ?_, ?_, ?_, ?_, ?_, ?_, ?_, ?_, trivial⟩ ?_
  · intro y W next hl hJ hd hn
    refine Or.inl ⟨wanted_free rfl, fun ev ec ef hev => ?_⟩
    have e3 : ev (.tmp 3) = .nilIface := hev 3 _ ((hl.2 3 (by kernel_rfl)).trans (by kernel_rfl))
    clear hd hl hev
    replace hJ := Lib.hid hJ
    go_simp
    exact hn _ _ (Below.refl _ _) rfl
  · intro y W next hl hJ hd hn
    refine Or.inl ⟨wanted_free rfl, fun ev ec ef hev => ?_⟩
    have e6 : ev (.tmp 6) =  (.nilIface) := hev 6 _ ((hl.1 0 6 (by kernel_rfl) (by kernel_rfl)).trans (congrArg some (show y 0 =  (.nilIface) from hd 0 (by kernel_rfl))))
    clear hd hl hev
    replace hJ := Lib.hid hJ
    go_simp
    exact hn _ _ (Below.refl _ _) rfl
  · intro y W next hl hJ hd hn
    refine Or.inl ⟨wanted_free rfl, fun ev ec ef hev => ?_⟩
    have e7 : ev (.tmp 7) =  (.bool false) := hev 7 _ ((hl.1 1 7 (by kernel_rfl) (by kernel_rfl)).trans (congrArg some (show y 1 =  (.bool false) from hd 1 (by kernel_rfl))))
    clear hd hl hev
    replace hJ := Lib.hid hJ
    go_simp
    exact hn _ _ (Below.refl _ _) rfl
  · intro y W next hl hJ hd hn
    exact Or.inr ⟨wanted_not (j := 2) (d := 8) rfl rfl rfl ((hl.1 2 8 (by kernel_rfl) (by kernel_rfl)).trans (congrArg some (show y 2 = .bool false from hd 2 (by kernel_rfl)))), hn _ _ (Below.refl _ _) trivial⟩
  · intro y W next hl hJ hd hn
    exact Or.inr ⟨wanted_not (j := 2) (d := 8) rfl rfl rfl ((hl.1 2 8 (by kernel_rfl) (by kernel_rfl)).trans (congrArg some (show y 2 = .bool false from hd 2 (by kernel_rfl)))), hn _ _ (Below.refl _ _) rfl⟩
  · intro y W next hl hJ hd hn
    refine Or.inl ⟨wanted_free rfl, fun ev ec ef hev => ?_⟩
    have e8 : ev (.tmp 8) =  (.bool false) := hev 8 _ ((hl.1 2 8 (by kernel_rfl) (by kernel_rfl)).trans (congrArg some (show y 2 =  (.bool false) from hd 2 (by kernel_rfl))))
    have e10 : ev (.tmp 10) =  undef := hev 10 _ ((hl.1 4 10 (by kernel_rfl) (by kernel_rfl)).trans (congrArg some (show y 4 =  undef from hd 4 (by kernel_rfl))))
    clear hd hl hev
    replace hJ := Lib.hid hJ
    go_simp
    exact hn _ _ (Below.refl _ _) rfl
  · intro y W next hl hJ hd hn
    refine Or.inl ⟨wanted_free rfl, fun ev ec ef hev => ?_⟩
    have e11 : ev (.tmp 11) =  (.bool false) := hev 11 _ ((hl.1 5 11 (by kernel_rfl) (by kernel_rfl)).trans (congrArg some (show y 5 =  (.bool false) from hd 5 (by kernel_rfl))))
    clear hd hl hev
    replace hJ := Lib.hid hJ
    go_simp
    exact hn _ _ (Below.refl _ _) rfl
  · intro y W next hl hJ hd hn
    exact Or.inr ⟨wanted_not (j := 6) (d := 12) rfl rfl rfl ((hl.1 6 12 (by kernel_rfl) (by kernel_rfl)).trans (congrArg some (show y 6 = .bool false from hd 6 (by kernel_rfl)))), hn _ _ (Below.refl _ _) trivial⟩
  · intro y W next hl hJ hd hn
    exact Or.inr ⟨wanted_not (j := 6) (d := 12) rfl rfl rfl ((hl.1 6 12 (by kernel_rfl) (by kernel_rfl)).trans (congrArg some (show y 6 = .bool false from hd 6 (by kernel_rfl)))), hn _ _ (Below.refl _ _) trivial⟩
  · intro y W next hl hJ hd hn
    exact Or.inr ⟨wanted_not (j := 6) (d := 12) rfl rfl rfl ((hl.1 6 12 (by kernel_rfl) (by kernel_rfl)).trans (congrArg some (show y 6 = .bool false from hd 6 (by kernel_rfl)))), hn _ _ (Below.refl _ _) trivial⟩
  · intro y W next hl hJ hd hn
    exact Or.inr ⟨wanted_not (j := 6) (d := 12) rfl rfl rfl ((hl.1 6 12 (by kernel_rfl) (by kernel_rfl)).trans (congrArg some (show y 6 = .bool false from hd 6 (by kernel_rfl)))), hn _ _ (Below.refl _ _) trivial⟩
  · intro y W next hl hJ hd hn
    refine Or.inl ⟨wanted_free rfl, fun ev ec ef hev => ?_⟩
    have e12 : ev (.tmp 12) =  (.bool false) := hev 12 _ ((hl.1 6 12 (by kernel_rfl) (by kernel_rfl)).trans (congrArg some (show y 6 =  (.bool false) from hd 6 (by kernel_rfl))))
    have e16 := hev 16 _ (hl.1 10 16 (by kernel_rfl) (by kernel_rfl))
    clear hd hl hev
    replace hJ := Lib.hid hJ
    go_simp
    exact hn _ _ (Below.refl _ _) rfl
  · intro y W next hl hJ hd hn
    refine Or.inl ⟨wanted_free rfl, fun ev ec ef hev => ?_⟩
    have e17 : ev (.tmp 17) =  (.bool false) := hev 17 _ ((hl.1 11 17 (by kernel_rfl) (by kernel_rfl)).trans (congrArg some (show y 11 =  (.bool false) from hd 11 (by kernel_rfl))))
    clear hd hl hev
    replace hJ := Lib.hid hJ
    go_simp
    exact hn _ _ (Below.refl _ _) rfl
  · intro y W hb3 hall
    have hy : y 12 = .bool false := hall 12 (by decide)
    replace hb := Lib.hid (below_then hb.out hb3 (Nat.le_refl _))
    clear hall hb3
    simp only [lay_cons, lay_nil]
    rw [hy]
    clear hy
    simp only [Act.put, List.setIfInBounds_toArray]
    simp only [List.set_cons_succ, List.set_cons_zero]
    go_wp2
    go_ret
    exact ⟨by rw [e2.out]; rfl, hb.out⟩

end Go.Proofs.Ytejmfpaegkgkjaa
