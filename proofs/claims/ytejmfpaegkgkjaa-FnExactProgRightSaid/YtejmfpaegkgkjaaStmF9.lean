/- StmtRight of the model, kind none. -/
import Derived.Test.YtejmfpaegkgkjaaStmF
namespace Go.Proofs.Ytejmfpaegkgkjaa
open Go.RowKit

set_option maxRecDepth 100000 in
set_option maxHeartbeats 16000000 in
theorem specStmt9_any (x : Stm) (A : Option Addr) (n cap : Nat) (w : World) (wf : StmWf x) (hv : Prts w (.slice A n cap) x.parts) (k1 : ¬ x.kind = 1) (k2 : ¬ x.kind = 2) (k3 : ¬ x.kind = 3) (k4 : ¬ x.kind = 4) (k5 : ¬ x.kind = 5) (k6 : ¬ x.kind = 6) (k7 : ¬ x.kind = 7) (k8 : ¬ x.kind = 8) : Calls Try.prog 13 #[stmA x (.slice A n cap)] w (Gives (.bool (stmtOk x)) w) := by
  have hb := Lib.hid ((Below.refl w.heap.size w).alloc (Nat.le_refl _) (.cells #[.int .i64 x.kind, .string x.name, .string x.text, .int .i64 x.num, .int .i64 x.dest, .slice A n cap] 36))
  have hk := Lib.hid (stm_box (w := w) x (.slice A n cap) 36)
  have hL0 := prts_none hv
  replace hv := Lib.hid (hv.alloc (.cells #[.int .i64 x.kind, .string x.name, .string x.text, .int .i64 x.num, .int .i64 x.dest, .slice A n cap] 36))
  have hform := Lib.hid (show stmtOk x = false by simp [stmtOk, rightB, k1, k2, k3, k4, k5, k6, k7, k8])
  have htk := Lib.hid (fun w => takes9_any x.kind k1 k2 k3 k4 k5 k6 k7 k8 w)
  clear k1 k2 k3 k4 k5 k6 k7 k8
  obtain ⟨hm, ht, -⟩ := wf
  have hmi : (x.name.size : Int) ≤ 9223372036854775807 := by unfold maxLen at hm; omega
  have hti : (x.text.size : Int) ≤ 9223372036854775807 := by unfold maxLen at ht; omega
  replace hm := Lib.hid hm
  replace ht := Lib.hid ht
  obtain ⟨E, hE⟩ : ∃ E, nameless x = E := ⟨_, rfl⟩
  obtain ⟨WN, hWN⟩ : ∃ W, wordB x.name.data.toList = W := ⟨_, rfl⟩
  obtain ⟨P, hP⟩ : ∃ P, partsB x.parts = P := ⟨_, rfl⟩
  obtain ⟨L, hL⟩ : ∃ L, (!partless x) = L := ⟨_, rfl⟩
  obtain ⟨D, hD⟩ : ∃ D, rng x.dest 0 40 = D := ⟨_, rfl⟩
  obtain ⟨Z, hZ⟩ : ∃ Z, (!destless x) = Z := ⟨_, rfl⟩
  have i1 := Lib.hid (fun h : E = true => hWN.symm.trans (empty_word (hE.trans h)))
  have i2 := Lib.hid (fun h : L = false => hP.symm.trans (no_parts (hL.trans h)))
  have i3 := Lib.hid (fun h : Z = false => hD.symm.trans (no_dest (hZ.trans h)))
  have hE1 := Lib.hid (name_no hE)
  have hL2 := Lib.hid (hL0.trans hL)
  have hZ2 := Lib.hid ((dest_ne x).trans hZ)
  replace hE := Lib.hid hE
  replace hWN := Lib.hid hWN
  replace hP := Lib.hid hP
  replace hL := Lib.hid hL
  replace hD := Lib.hid hD
  replace hZ := Lib.hid hZ
  clear hL0
  unfold stmA
  go_enter Try.func13, Try.ntmps13
  go_wp2_with (go_at_call 33; refine (htk.out _).mono ?_; rintro e w1 ⟨rfl, rfl⟩)
  refine wp_region_known [(.is (.string ⟨#[]⟩)), (.is (.bool true)), (.is (.bool true)), (.is undef), (.is undef), (.is undef), (.is undef), (.is undef), (.is undef), (.is (.bool true)), (.is (.bool true)), (.is undef), (.is undef), (.is undef), (.is undef), (.is undef), (.is undef), (.is undef), (.is undef), (.is undef), (.is (.bool true)), (.is (.bool true)), (.is undef), (.is undef), (.is undef), (.is undef), (.is (.bool true)), (.is (.bool true)), (.is undef), (.is undef), (.is undef), (.is undef), (.is undef), (.is undef), (.is undef), (.is undef), (.is undef), (.is (.bool true)), (.is (.bool true)), (.is undef), (.is undef), (.is undef), (.is undef), (.is (.bool true)), (.is (.bool true)), (.is undef), (.is undef), (.is undef), (.is undef), (.is undef), (.is undef), (.is undef), (.is undef), (.is (.bool true))] (by kernel_rfl) (by kernel_rfl) (by kernel_rfl) ⟨?_, ?_, ?_, ?_, ?_, ?_, ?_, ?_, ?_, ?_, ?_, ?_, ?_, ?_, ?_, ?_, ?_, ?_, ?_, ?_, ?_, ?_, ?_, ?_, ?_, ?_, ?_, ?_, ?_, ?_, ?_, ?_, ?_, ?_, ?_, ?_, ?_, ?_, ?_, ?_, ?_, ?_, ?_, ?_, ?_, ?_, ?_, ?_, ?_, ?_, ?_, ?_, ?_, ?_, trivial⟩ ?_
  · intro y W next hl hJ hd hn
    refine Or.inl ⟨wanted_free rfl, fun ev ec ef hev => ?_⟩
    have e3 : ev (.tmp 3) = .string ⟨#[]⟩ := hev 3 _ ((hl.2 3 (by kernel_rfl)).trans (by kernel_rfl))
    clear hd hl hev
    replace hJ := Lib.hid hJ
    go_simp
    exact hn _ _ (Below.refl _ _) rfl
  · intro y W next hl hJ hd hn
    refine Or.inl ⟨wanted_free rfl, fun ev ec ef hev => ?_⟩
    have e7 : ev (.tmp 7) = .string ⟨#[]⟩ := hev 7 _ ((hl.1 0 7 (by kernel_rfl) (by kernel_rfl)).trans (congrArg some (show y 0 = (.string ⟨#[]⟩) from hd 0 (by kernel_rfl))))
    clear hd hl hev
    replace hJ := Lib.hid hJ
    go_simp
    refine hn _ _ (Below.refl _ _) ?_
    (first | rfl | (rfl))
  · intro y W next hl hJ hd hn
    refine Or.inl ⟨wanted_free rfl, fun ev ec ef hev => ?_⟩
    have e8 : ev (.tmp 8) = .bool true := hev 8 _ ((hl.1 1 8 (by kernel_rfl) (by kernel_rfl)).trans (congrArg some (show y 1 = (.bool true) from hd 1 (by kernel_rfl))))
    clear hd hl hev
    replace hJ := Lib.hid hJ
    go_simp
    exact hn _ _ (Below.refl _ _) rfl
  · intro y W next hl hJ hd hn
    exact Or.inr ⟨wanted_not (j := 2) (d := 9) rfl rfl rfl ((hl.1 2 9 (by kernel_rfl) (by kernel_rfl)).trans (congrArg some (show y 2 = .bool true from hd 2 (by kernel_rfl)))), hn _ _ (Below.refl _ _) rfl⟩
  · intro y W next hl hJ hd hn
    exact Or.inr ⟨wanted_not (j := 2) (d := 9) rfl rfl rfl ((hl.1 2 9 (by kernel_rfl) (by kernel_rfl)).trans (congrArg some (show y 2 = .bool true from hd 2 (by kernel_rfl)))), hn _ _ (Below.refl _ _) rfl⟩
  · intro y W next hl hJ hd hn
    exact Or.inr ⟨wanted_not (j := 2) (d := 9) rfl rfl rfl ((hl.1 2 9 (by kernel_rfl) (by kernel_rfl)).trans (congrArg some (show y 2 = .bool true from hd 2 (by kernel_rfl)))), hn _ _ (Below.refl _ _) rfl⟩
  · intro y W next hl hJ hd hn
    exact Or.inr ⟨wanted_not (j := 2) (d := 9) rfl rfl rfl ((hl.1 2 9 (by kernel_rfl) (by kernel_rfl)).trans (congrArg some (show y 2 = .bool true from hd 2 (by kernel_rfl)))), hn _ _ (Below.refl _ _) rfl⟩
  · intro y W next hl hJ hd hn
    exact Or.inr ⟨wanted_not (j := 2) (d := 9) rfl rfl rfl ((hl.1 2 9 (by kernel_rfl) (by kernel_rfl)).trans (congrArg some (show y 2 = .bool true from hd 2 (by kernel_rfl)))), hn _ _ (Below.refl _ _) rfl⟩
  · intro y W next hl hJ hd hn
    exact Or.inr ⟨wanted_not (j := 2) (d := 9) rfl rfl rfl ((hl.1 2 9 (by kernel_rfl) (by kernel_rfl)).trans (congrArg some (show y 2 = .bool true from hd 2 (by kernel_rfl)))), hn _ _ (Below.refl _ _) rfl⟩
  · intro y W next hl hJ hd hn
    refine Or.inl ⟨wanted_free rfl, fun ev ec ef hev => ?_⟩
    have e9 : ev (.tmp 9) = .bool true := hev 9 _ ((hl.1 2 9 (by kernel_rfl) (by kernel_rfl)).trans (congrArg some (show y 2 = (.bool true) from hd 2 (by kernel_rfl))))
    clear hd hl hev
    replace hJ := Lib.hid hJ
    go_simp
    exact hn _ _ (Below.refl _ _) rfl
  · intro y W next hl hJ hd hn
    refine Or.inl ⟨wanted_free rfl, fun ev ec ef hev => ?_⟩
    have e16 : ev (.tmp 16) = .bool true := hev 16 _ ((hl.1 9 16 (by kernel_rfl) (by kernel_rfl)).trans (congrArg some (show y 9 = (.bool true) from hd 9 (by kernel_rfl))))
    clear hd hl hev
    replace hJ := Lib.hid hJ
    go_simp
    exact hn _ _ (Below.refl _ _) rfl
  · intro y W next hl hJ hd hn
    exact Or.inr ⟨wanted_not (j := 10) (d := 17) rfl rfl rfl ((hl.1 10 17 (by kernel_rfl) (by kernel_rfl)).trans (congrArg some (show y 10 = .bool true from hd 10 (by kernel_rfl)))), hn _ _ (Below.refl _ _) rfl⟩
  · intro y W next hl hJ hd hn
    exact Or.inr ⟨wanted_not (j := 10) (d := 17) rfl rfl rfl ((hl.1 10 17 (by kernel_rfl) (by kernel_rfl)).trans (congrArg some (show y 10 = .bool true from hd 10 (by kernel_rfl)))), hn _ _ (Below.refl _ _) rfl⟩
  · intro y W next hl hJ hd hn
    exact Or.inr ⟨wanted_not (j := 10) (d := 17) rfl rfl rfl ((hl.1 10 17 (by kernel_rfl) (by kernel_rfl)).trans (congrArg some (show y 10 = .bool true from hd 10 (by kernel_rfl)))), hn _ _ (Below.refl _ _) rfl⟩
  · intro y W next hl hJ hd hn
    exact Or.inr ⟨wanted_not (j := 10) (d := 17) rfl rfl rfl ((hl.1 10 17 (by kernel_rfl) (by kernel_rfl)).trans (congrArg some (show y 10 = .bool true from hd 10 (by kernel_rfl)))), hn _ _ (Below.refl _ _) rfl⟩
  · intro y W next hl hJ hd hn
    exact Or.inr ⟨wanted_undef (j := 14) (d := 21) rfl rfl rfl ((hl.1 14 21 (by kernel_rfl) (by kernel_rfl)).trans (congrArg some (show y 14 = undef from hd 14 (by kernel_rfl)))), hn _ _ (Below.refl _ _) rfl⟩
  · intro y W next hl hJ hd hn
    exact Or.inr ⟨wanted_undef (j := 14) (d := 21) rfl rfl rfl ((hl.1 14 21 (by kernel_rfl) (by kernel_rfl)).trans (congrArg some (show y 14 = undef from hd 14 (by kernel_rfl)))), hn _ _ (Below.refl _ _) rfl⟩
  · intro y W next hl hJ hd hn
    exact Or.inr ⟨wanted_undef (j := 14) (d := 21) rfl rfl rfl ((hl.1 14 21 (by kernel_rfl) (by kernel_rfl)).trans (congrArg some (show y 14 = undef from hd 14 (by kernel_rfl)))), hn _ _ (Below.refl _ _) rfl⟩
  · intro y W next hl hJ hd hn
    exact Or.inr ⟨wanted_undef (j := 14) (d := 21) rfl rfl rfl ((hl.1 14 21 (by kernel_rfl) (by kernel_rfl)).trans (congrArg some (show y 14 = undef from hd 14 (by kernel_rfl)))), hn _ _ (Below.refl _ _) rfl⟩
  · intro y W next hl hJ hd hn
    exact Or.inr ⟨wanted_not (j := 10) (d := 17) rfl rfl rfl ((hl.1 10 17 (by kernel_rfl) (by kernel_rfl)).trans (congrArg some (show y 10 = .bool true from hd 10 (by kernel_rfl)))), hn _ _ (Below.refl _ _) rfl⟩
  · intro y W next hl hJ hd hn
    refine Or.inl ⟨wanted_free rfl, fun ev ec ef hev => ?_⟩
    have e17 : ev (.tmp 17) = .bool true := hev 17 _ ((hl.1 10 17 (by kernel_rfl) (by kernel_rfl)).trans (congrArg some (show y 10 = (.bool true) from hd 10 (by kernel_rfl))))
    clear hd hl hev
    replace hJ := Lib.hid hJ
    go_simp
    exact hn _ _ (Below.refl _ _) rfl
  · intro y W next hl hJ hd hn
    refine Or.inl ⟨wanted_free rfl, fun ev ec ef hev => ?_⟩
    have e27 : ev (.tmp 27) = .bool true := hev 27 _ ((hl.1 20 27 (by kernel_rfl) (by kernel_rfl)).trans (congrArg some (show y 20 = (.bool true) from hd 20 (by kernel_rfl))))
    clear hd hl hev
    replace hJ := Lib.hid hJ
    go_simp
    exact hn _ _ (Below.refl _ _) rfl
  · intro y W next hl hJ hd hn
    exact Or.inr ⟨wanted_not (j := 21) (d := 28) rfl rfl rfl ((hl.1 21 28 (by kernel_rfl) (by kernel_rfl)).trans (congrArg some (show y 21 = .bool true from hd 21 (by kernel_rfl)))), hn _ _ (Below.refl _ _) rfl⟩
  · intro y W next hl hJ hd hn
    exact Or.inr ⟨wanted_not (j := 21) (d := 28) rfl rfl rfl ((hl.1 21 28 (by kernel_rfl) (by kernel_rfl)).trans (congrArg some (show y 21 = .bool true from hd 21 (by kernel_rfl)))), hn _ _ (Below.refl _ _) rfl⟩
  · intro y W next hl hJ hd hn
    exact Or.inr ⟨wanted_not (j := 21) (d := 28) rfl rfl rfl ((hl.1 21 28 (by kernel_rfl) (by kernel_rfl)).trans (congrArg some (show y 21 = .bool true from hd 21 (by kernel_rfl)))), hn _ _ (Below.refl _ _) rfl⟩
  · intro y W next hl hJ hd hn
    exact Or.inr ⟨wanted_not (j := 21) (d := 28) rfl rfl rfl ((hl.1 21 28 (by kernel_rfl) (by kernel_rfl)).trans (congrArg some (show y 21 = .bool true from hd 21 (by kernel_rfl)))), hn _ _ (Below.refl _ _) rfl⟩
  · intro y W next hl hJ hd hn
    refine Or.inl ⟨wanted_free rfl, fun ev ec ef hev => ?_⟩
    have e28 : ev (.tmp 28) = .bool true := hev 28 _ ((hl.1 21 28 (by kernel_rfl) (by kernel_rfl)).trans (congrArg some (show y 21 = (.bool true) from hd 21 (by kernel_rfl))))
    clear hd hl hev
    replace hJ := Lib.hid hJ
    go_simp
    exact hn _ _ (Below.refl _ _) rfl
  · intro y W next hl hJ hd hn
    refine Or.inl ⟨wanted_free rfl, fun ev ec ef hev => ?_⟩
    have e33 : ev (.tmp 33) = .bool true := hev 33 _ ((hl.1 26 33 (by kernel_rfl) (by kernel_rfl)).trans (congrArg some (show y 26 = (.bool true) from hd 26 (by kernel_rfl))))
    clear hd hl hev
    replace hJ := Lib.hid hJ
    go_simp
    exact hn _ _ (Below.refl _ _) rfl
  · intro y W next hl hJ hd hn
    exact Or.inr ⟨wanted_not (j := 27) (d := 34) rfl rfl rfl ((hl.1 27 34 (by kernel_rfl) (by kernel_rfl)).trans (congrArg some (show y 27 = .bool true from hd 27 (by kernel_rfl)))), hn _ _ (Below.refl _ _) rfl⟩
  · intro y W next hl hJ hd hn
    exact Or.inr ⟨wanted_not (j := 27) (d := 34) rfl rfl rfl ((hl.1 27 34 (by kernel_rfl) (by kernel_rfl)).trans (congrArg some (show y 27 = .bool true from hd 27 (by kernel_rfl)))), hn _ _ (Below.refl _ _) rfl⟩
  · intro y W next hl hJ hd hn
    exact Or.inr ⟨wanted_not (j := 27) (d := 34) rfl rfl rfl ((hl.1 27 34 (by kernel_rfl) (by kernel_rfl)).trans (congrArg some (show y 27 = .bool true from hd 27 (by kernel_rfl)))), hn _ _ (Below.refl _ _) rfl⟩
  · intro y W next hl hJ hd hn
    exact Or.inr ⟨wanted_not (j := 27) (d := 34) rfl rfl rfl ((hl.1 27 34 (by kernel_rfl) (by kernel_rfl)).trans (congrArg some (show y 27 = .bool true from hd 27 (by kernel_rfl)))), hn _ _ (Below.refl _ _) rfl⟩
  · intro y W next hl hJ hd hn
    exact Or.inr ⟨wanted_undef (j := 31) (d := 38) rfl rfl rfl ((hl.1 31 38 (by kernel_rfl) (by kernel_rfl)).trans (congrArg some (show y 31 = undef from hd 31 (by kernel_rfl)))), hn _ _ (Below.refl _ _) rfl⟩
  · intro y W next hl hJ hd hn
    exact Or.inr ⟨wanted_undef (j := 31) (d := 38) rfl rfl rfl ((hl.1 31 38 (by kernel_rfl) (by kernel_rfl)).trans (congrArg some (show y 31 = undef from hd 31 (by kernel_rfl)))), hn _ _ (Below.refl _ _) rfl⟩
  · intro y W next hl hJ hd hn
    exact Or.inr ⟨wanted_undef (j := 31) (d := 38) rfl rfl rfl ((hl.1 31 38 (by kernel_rfl) (by kernel_rfl)).trans (congrArg some (show y 31 = undef from hd 31 (by kernel_rfl)))), hn _ _ (Below.refl _ _) rfl⟩
  · intro y W next hl hJ hd hn
    exact Or.inr ⟨wanted_undef (j := 31) (d := 38) rfl rfl rfl ((hl.1 31 38 (by kernel_rfl) (by kernel_rfl)).trans (congrArg some (show y 31 = undef from hd 31 (by kernel_rfl)))), hn _ _ (Below.refl _ _) rfl⟩
  · intro y W next hl hJ hd hn
    exact Or.inr ⟨wanted_not (j := 27) (d := 34) rfl rfl rfl ((hl.1 27 34 (by kernel_rfl) (by kernel_rfl)).trans (congrArg some (show y 27 = .bool true from hd 27 (by kernel_rfl)))), hn _ _ (Below.refl _ _) rfl⟩
  · intro y W next hl hJ hd hn
    refine Or.inl ⟨wanted_free rfl, fun ev ec ef hev => ?_⟩
    have e34 : ev (.tmp 34) = .bool true := hev 34 _ ((hl.1 27 34 (by kernel_rfl) (by kernel_rfl)).trans (congrArg some (show y 27 = (.bool true) from hd 27 (by kernel_rfl))))
    clear hd hl hev
    replace hJ := Lib.hid hJ
    go_simp
    exact hn _ _ (Below.refl _ _) rfl
  · intro y W next hl hJ hd hn
    refine Or.inl ⟨wanted_free rfl, fun ev ec ef hev => ?_⟩
    have e44 : ev (.tmp 44) = .bool true := hev 44 _ ((hl.1 37 44 (by kernel_rfl) (by kernel_rfl)).trans (congrArg some (show y 37 = (.bool true) from hd 37 (by kernel_rfl))))
    clear hd hl hev
    replace hJ := Lib.hid hJ
    go_simp
    exact hn _ _ (Below.refl _ _) rfl
  · intro y W next hl hJ hd hn
    exact Or.inr ⟨wanted_not (j := 38) (d := 45) rfl rfl rfl ((hl.1 38 45 (by kernel_rfl) (by kernel_rfl)).trans (congrArg some (show y 38 = .bool true from hd 38 (by kernel_rfl)))), hn _ _ (Below.refl _ _) rfl⟩
  · intro y W next hl hJ hd hn
    exact Or.inr ⟨wanted_not (j := 38) (d := 45) rfl rfl rfl ((hl.1 38 45 (by kernel_rfl) (by kernel_rfl)).trans (congrArg some (show y 38 = .bool true from hd 38 (by kernel_rfl)))), hn _ _ (Below.refl _ _) rfl⟩
  · intro y W next hl hJ hd hn
    exact Or.inr ⟨wanted_not (j := 38) (d := 45) rfl rfl rfl ((hl.1 38 45 (by kernel_rfl) (by kernel_rfl)).trans (congrArg some (show y 38 = .bool true from hd 38 (by kernel_rfl)))), hn _ _ (Below.refl _ _) rfl⟩
  · intro y W next hl hJ hd hn
    exact Or.inr ⟨wanted_not (j := 38) (d := 45) rfl rfl rfl ((hl.1 38 45 (by kernel_rfl) (by kernel_rfl)).trans (congrArg some (show y 38 = .bool true from hd 38 (by kernel_rfl)))), hn _ _ (Below.refl _ _) rfl⟩
  · intro y W next hl hJ hd hn
    refine Or.inl ⟨wanted_free rfl, fun ev ec ef hev => ?_⟩
    have e45 : ev (.tmp 45) = .bool true := hev 45 _ ((hl.1 38 45 (by kernel_rfl) (by kernel_rfl)).trans (congrArg some (show y 38 = (.bool true) from hd 38 (by kernel_rfl))))
    clear hd hl hev
    replace hJ := Lib.hid hJ
    go_simp
    exact hn _ _ (Below.refl _ _) rfl
  · intro y W next hl hJ hd hn
    refine Or.inl ⟨wanted_free rfl, fun ev ec ef hev => ?_⟩
    have e50 : ev (.tmp 50) = .bool true := hev 50 _ ((hl.1 43 50 (by kernel_rfl) (by kernel_rfl)).trans (congrArg some (show y 43 = (.bool true) from hd 43 (by kernel_rfl))))
    clear hd hl hev
    replace hJ := Lib.hid hJ
    go_simp
    exact hn _ _ (Below.refl _ _) rfl
  · intro y W next hl hJ hd hn
    exact Or.inr ⟨wanted_not (j := 44) (d := 51) rfl rfl rfl ((hl.1 44 51 (by kernel_rfl) (by kernel_rfl)).trans (congrArg some (show y 44 = .bool true from hd 44 (by kernel_rfl)))), hn _ _ (Below.refl _ _) rfl⟩
  · intro y W next hl hJ hd hn
    exact Or.inr ⟨wanted_not (j := 44) (d := 51) rfl rfl rfl ((hl.1 44 51 (by kernel_rfl) (by kernel_rfl)).trans (congrArg some (show y 44 = .bool true from hd 44 (by kernel_rfl)))), hn _ _ (Below.refl _ _) rfl⟩
  · intro y W next hl hJ hd hn
    exact Or.inr ⟨wanted_not (j := 44) (d := 51) rfl rfl rfl ((hl.1 44 51 (by kernel_rfl) (by kernel_rfl)).trans (congrArg some (show y 44 = .bool true from hd 44 (by kernel_rfl)))), hn _ _ (Below.refl _ _) rfl⟩
  · intro y W next hl hJ hd hn
    exact Or.inr ⟨wanted_not (j := 44) (d := 51) rfl rfl rfl ((hl.1 44 51 (by kernel_rfl) (by kernel_rfl)).trans (congrArg some (show y 44 = .bool true from hd 44 (by kernel_rfl)))), hn _ _ (Below.refl _ _) rfl⟩
  · intro y W next hl hJ hd hn
    exact Or.inr ⟨wanted_undef (j := 48) (d := 55) rfl rfl rfl ((hl.1 48 55 (by kernel_rfl) (by kernel_rfl)).trans (congrArg some (show y 48 = undef from hd 48 (by kernel_rfl)))), hn _ _ (Below.refl _ _) rfl⟩
  · intro y W next hl hJ hd hn
    exact Or.inr ⟨wanted_undef (j := 48) (d := 55) rfl rfl rfl ((hl.1 48 55 (by kernel_rfl) (by kernel_rfl)).trans (congrArg some (show y 48 = undef from hd 48 (by kernel_rfl)))), hn _ _ (Below.refl _ _) rfl⟩
  · intro y W next hl hJ hd hn
    exact Or.inr ⟨wanted_undef (j := 48) (d := 55) rfl rfl rfl ((hl.1 48 55 (by kernel_rfl) (by kernel_rfl)).trans (congrArg some (show y 48 = undef from hd 48 (by kernel_rfl)))), hn _ _ (Below.refl _ _) rfl⟩
  · intro y W next hl hJ hd hn
    exact Or.inr ⟨wanted_not (j := 44) (d := 51) rfl rfl rfl ((hl.1 44 51 (by kernel_rfl) (by kernel_rfl)).trans (congrArg some (show y 44 = .bool true from hd 44 (by kernel_rfl)))), hn _ _ (Below.refl _ _) rfl⟩
  · intro y W next hl hJ hd hn
    refine Or.inl ⟨wanted_free rfl, fun ev ec ef hev => ?_⟩
    have e51 : ev (.tmp 51) = .bool true := hev 51 _ ((hl.1 44 51 (by kernel_rfl) (by kernel_rfl)).trans (congrArg some (show y 44 = (.bool true) from hd 44 (by kernel_rfl))))
    clear hd hl hev
    replace hJ := Lib.hid hJ
    go_simp
    exact hn _ _ (Below.refl _ _) rfl
  · intro y W3 hb3 hall
    have hy : y 53 = .bool true := hall 53 (by decide)
    replace hk := Lib.hid (hk.out.below hb3 hk.out.lt)
    replace hb := Lib.hid (below_then hb.out hb3 (Nat.le_refl _))
    clear hall hb3
    simp only [lay_cons, lay_nil]
    rw [hy]
    clear hy
    simp only [Act.put, List.setIfInBounds_toArray]
    simp only [List.set_cons_succ, List.set_cons_zero]
    go_wp2
    go_ret
    exact ⟨by rw [hform.out]; rfl, hb.out⟩
end Go.Proofs.Ytejmfpaegkgkjaa
