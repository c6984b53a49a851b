/- StmtRight of the program, kind 6. -/
import Derived.Test.YtejmfpaegkgkjaaStmE
import Derived.Test.YtejmfpaegkgkjaaKnown
namespace Go.Proofs.Ytejmfpaegkgkjaa
open Go.RowKit
set_option maxRecDepth 20000 in
set_option maxHeartbeats 8000000 in
theorem implStmt6_any (x : Stm) (A : Option Addr) (n cap : Nat) (w : World) (wf : StmWf x) (hv : Prts w (.slice A n cap) x.parts) (hkd : x.kind = 6) : Calls Try.prog 15 #[stmA x (.slice A n cap)] w (Gives (.bool (stmtOk x)) w) := by
  have hb := Lib.hid ((Below.refl w.heap.size w).alloc (Nat.le_refl _) (.cells #[.int .i64 x.kind, .string x.name, .string x.text, .int .i64 x.num, .int .i64 x.dest, .slice A n cap] 36))
  have hk := Lib.hid (stm_box (w := w) x (.slice A n cap) 36)
  replace hv := Lib.hid (hv.alloc (.cells #[.int .i64 x.kind, .string x.name, .string x.text, .int .i64 x.num, .int .i64 x.dest, .slice A n cap] 36))
  have hkind := Lib.hid (show kindV x (.slice A n cap) = .iface 82 (kind6 x (.slice A n cap)) by simp [kindV, hkd])
  have hcs := Lib.hid (cut6_same x hkd)
  have hro := Lib.hid (show stmtOk x = (right6 x && restB x) by simp [stmtOk, rightB, right6, hkd])
  clear hkd
  unfold stmA
  cases hr : right6 x with
  | false =>
    have e2 := Lib.hid (show stmtOk x = false by rw [hro.out, hr]; rfl)
    go_enter Try.func15, Try.ntmps15
    go_wp2_with (go_at_call 38; refine (kindOf_any x A n cap _).mono ?_; rintro e w1 ⟨rfl, hb1⟩; rw [hkind.out]; replace hv := Lib.hid (hv.out.below hb1); replace hk := Lib.hid (hk.out.up hb1); replace hb := Lib.hid (Below.then_ hb.out hb1 (Nat.le_refl _)); clear hb1)
    refine wp_region_known [(.is (.iface 82 (kind6 x (.slice A n cap)))), (.is (.bool true)), (.is (.bool true)), (.is (.iface 82 (kind6 x (.slice A n cap)))), (.is (.bool false)), (.is (.bool false)), (.is (.bool false)), .any, .any, .any, .any, (.is (.bool false)), (.is (.bool false))] (by kernel_rfl) (by kernel_rfl) (by kernel_rfl) ⟨?_, ?_, ?_, ?_, ?_, ?_, ?_, ?_, ?_, ?_, ?_, ?_, ?_, trivial⟩ ?_
    · intro y W next hl hJ hd hn
      refine Or.inl ⟨wanted_free rfl, fun ev ec ef hev => ?_⟩
      have e3 : ev (.tmp 3) = .iface 82 (kind6 x (.slice A n cap)) := hev 3 _ ((hl.2 3 (by kernel_rfl)).trans (by kernel_rfl))
      clear hd hl hev
      replace hJ := Lib.hid hJ
      go_simp
      exact hn _ _ (Below.refl _ _) rfl
    · intro y W next hl hJ hd hn
      refine Or.inl ⟨wanted_free rfl, fun ev ec ef hev => ?_⟩
      have e6 : ev (.tmp 6) =  (.iface 82 (kind6 x (.slice A n cap))) := hev 6 _ ((hl.1 0 6 (by kernel_rfl) (by kernel_rfl)).trans (congrArg some (show y 0 =  (.iface 82 (kind6 x (.slice A n cap))) from hd 0 (by kernel_rfl))))
      clear hd hl hev
      replace hJ := Lib.hid hJ
      go_simp
      exact hn _ _ (Below.refl _ _) rfl
    · intro y W next hl hJ hd hn
      refine Or.inl ⟨wanted_free rfl, fun ev ec ef hev => ?_⟩
      have e7 : ev (.tmp 7) =  (.bool true) := hev 7 _ ((hl.1 1 7 (by kernel_rfl) (by kernel_rfl)).trans (congrArg some (show y 1 =  (.bool true) from hd 1 (by kernel_rfl))))
      clear hd hl hev
      replace hJ := Lib.hid hJ
      go_simp
      exact hn _ _ (Below.refl _ _) rfl
    · intro y W next hl hJ hd hn
      refine Or.inl ⟨wanted_of (j := 2) (d := 8) rfl rfl rfl ((hl.1 2 8 (by kernel_rfl) (by kernel_rfl)).trans (congrArg some (show y 2 = .bool true from hd 2 (by kernel_rfl)))), fun ev ec ef hev => ?_⟩
      have e3 : ev (.tmp 3) = .iface 82 (kind6 x (.slice A n cap)) := hev 3 _ ((hl.2 3 (by kernel_rfl)).trans (by kernel_rfl))
      clear hd hl hev
      replace hJ := Lib.hid hJ
      go_simp
      exact hn _ _ (Below.refl _ _) rfl
    · intro y W next hl hJ hd hn
      refine Or.inl ⟨wanted_of (j := 2) (d := 8) rfl rfl rfl ((hl.1 2 8 (by kernel_rfl) (by kernel_rfl)).trans (congrArg some (show y 2 = .bool true from hd 2 (by kernel_rfl)))), fun ev ec ef hev => ?_⟩
      have e9 : ev (.tmp 9) =  (.iface 82 (kind6 x (.slice A n cap))) := hev 9 _ ((hl.1 3 9 (by kernel_rfl) (by kernel_rfl)).trans (congrArg some (show y 3 =  (.iface 82 (kind6 x (.slice A n cap))) from hd 3 (by kernel_rfl))))
      clear hd hl hev
      replace hJ := Lib.hid hJ
      go_simp
      refine (right6_any x A n cap _ wf (hv.out.below hJ.out)).mono ?_
      rintro e w' ⟨rfl, hb⟩
      exact ⟨_, rfl, hn _ _ hb (by rw [hr]; rfl)⟩
    · intro y W next hl hJ hd hn
      refine Or.inl ⟨wanted_free rfl, fun ev ec ef hev => ?_⟩
      have e8 : ev (.tmp 8) =  (.bool true) := hev 8 _ ((hl.1 2 8 (by kernel_rfl) (by kernel_rfl)).trans (congrArg some (show y 2 =  (.bool true) from hd 2 (by kernel_rfl))))
      have e10 : ev (.tmp 10) =  (.bool false) := hev 10 _ ((hl.1 4 10 (by kernel_rfl) (by kernel_rfl)).trans (congrArg some (show y 4 =  (.bool false) from hd 4 (by kernel_rfl))))
      clear hd hl hev
      replace hJ := Lib.hid hJ
      go_simp
      exact hn _ _ (Below.refl _ _) rfl
    · intro y W next hl hJ hd hn
      refine Or.inl ⟨wanted_free rfl, fun ev ec ef hev => ?_⟩
      have e11 : ev (.tmp 11) =  (.bool false) := hev 11 _ ((hl.1 5 11 (by kernel_rfl) (by kernel_rfl)).trans (congrArg some (show y 5 =  (.bool false) from hd 5 (by kernel_rfl))))
      clear hd hl hev
      replace hJ := Lib.hid hJ
      go_simp
      exact hn _ _ (Below.refl _ _) rfl
    · intro y W next hl hJ hd hn
      exact Or.inr ⟨wanted_not (j := 6) (d := 12) rfl rfl rfl ((hl.1 6 12 (by kernel_rfl) (by kernel_rfl)).trans (congrArg some (show y 6 = .bool false from hd 6 (by kernel_rfl)))), hn _ _ (Below.refl _ _) trivial⟩
    · intro y W next hl hJ hd hn
      exact Or.inr ⟨wanted_not (j := 6) (d := 12) rfl rfl rfl ((hl.1 6 12 (by kernel_rfl) (by kernel_rfl)).trans (congrArg some (show y 6 = .bool false from hd 6 (by kernel_rfl)))), hn _ _ (Below.refl _ _) trivial⟩
    · intro y W next hl hJ hd hn
      exact Or.inr ⟨wanted_not (j := 6) (d := 12) rfl rfl rfl ((hl.1 6 12 (by kernel_rfl) (by kernel_rfl)).trans (congrArg some (show y 6 = .bool false from hd 6 (by kernel_rfl)))), hn _ _ (Below.refl _ _) trivial⟩
    · intro y W next hl hJ hd hn
      exact Or.inr ⟨wanted_not (j := 6) (d := 12) rfl rfl rfl ((hl.1 6 12 (by kernel_rfl) (by kernel_rfl)).trans (congrArg some (show y 6 = .bool false from hd 6 (by kernel_rfl)))), hn _ _ (Below.refl _ _) trivial⟩
    · intro y W next hl hJ hd hn
      refine Or.inl ⟨wanted_free rfl, fun ev ec ef hev => ?_⟩
      have e12 : ev (.tmp 12) =  (.bool false) := hev 12 _ ((hl.1 6 12 (by kernel_rfl) (by kernel_rfl)).trans (congrArg some (show y 6 =  (.bool false) from hd 6 (by kernel_rfl))))
      have e16 := hev 16 _ (hl.1 10 16 (by kernel_rfl) (by kernel_rfl))
      clear hd hl hev
      replace hJ := Lib.hid hJ
      go_simp
      exact hn _ _ (Below.refl _ _) rfl
    · intro y W next hl hJ hd hn
      refine Or.inl ⟨wanted_free rfl, fun ev ec ef hev => ?_⟩
      have e17 : ev (.tmp 17) =  (.bool false) := hev 17 _ ((hl.1 11 17 (by kernel_rfl) (by kernel_rfl)).trans (congrArg some (show y 11 =  (.bool false) from hd 11 (by kernel_rfl))))
      clear hd hl hev
      replace hJ := Lib.hid hJ
      go_simp
      exact hn _ _ (Below.refl _ _) rfl
    · intro y W hb3 hall
      have hy : y 12 = .bool false := hall 12 (by decide)
      replace hb := Lib.hid (below_then hb.out hb3 (Nat.le_refl _))
      clear hall hb3
      simp only [lay_cons, lay_nil]
      rw [hy]
      clear hy
      simp only [Act.put, List.setIfInBounds_toArray]
      simp only [List.set_cons_succ, List.set_cons_zero]
      go_wp2
      go_ret
      exact ⟨by rw [e2.out]; rfl, hb.out⟩
  | true =>
    cases hs : sameStmB x (cut6 x) with
    | false =>
      have e2 := Lib.hid (show stmtOk x = false by rw [hro.out, hr, ← hcs.out, hs]; rfl)
      go_enter Try.func15, Try.ntmps15
      go_wp2_with (go_at_call 38; refine (kindOf_any x A n cap _).mono ?_; rintro e w1 ⟨rfl, hb1⟩; rw [hkind.out]; replace hv := Lib.hid (hv.out.below hb1); replace hk := Lib.hid (hk.out.up hb1); replace hb := Lib.hid (Below.then_ hb.out hb1 (Nat.le_refl _)); clear hb1)
      refine wp_region_known [(.is (.iface 82 (kind6 x (.slice A n cap)))), (.is (.bool true)), (.is (.bool true)), (.is (.iface 82 (kind6 x (.slice A n cap)))), (.is (.bool true)), (.is (.bool true)), (.is (.bool true)), (.is (.agg #[.int .i64 x.kind, .string x.name, .string x.text, .int .i64 x.num, .int .i64 x.dest, .slice A n cap])), (.is (.iface 82 (kind6 x (.slice A n cap)))), (.is (stmA (cut6 x) (.slice none 0 0))), (.is (.bool false)), (.is (.bool false)), (.is (.bool false))] (by kernel_rfl) (by kernel_rfl) (by kernel_rfl) ⟨?_, ?_, ?_, ?_, ?_, ?_, ?_, ?_, ?_, ?_, ?_, ?_, ?_, trivial⟩ ?_
      · intro y W next hl hJ hd hn
        refine Or.inl ⟨wanted_free rfl, fun ev ec ef hev => ?_⟩
        have e3 : ev (.tmp 3) = .iface 82 (kind6 x (.slice A n cap)) := hev 3 _ ((hl.2 3 (by kernel_rfl)).trans (by kernel_rfl))
        clear hd hl hev
        replace hJ := Lib.hid hJ
        go_simp
        exact hn _ _ (Below.refl _ _) rfl
      · intro y W next hl hJ hd hn
        refine Or.inl ⟨wanted_free rfl, fun ev ec ef hev => ?_⟩
        have e6 : ev (.tmp 6) =  (.iface 82 (kind6 x (.slice A n cap))) := hev 6 _ ((hl.1 0 6 (by kernel_rfl) (by kernel_rfl)).trans (congrArg some (show y 0 =  (.iface 82 (kind6 x (.slice A n cap))) from hd 0 (by kernel_rfl))))
        clear hd hl hev
        replace hJ := Lib.hid hJ
        go_simp
        exact hn _ _ (Below.refl _ _) rfl
      · intro y W next hl hJ hd hn
        refine Or.inl ⟨wanted_free rfl, fun ev ec ef hev => ?_⟩
        have e7 : ev (.tmp 7) =  (.bool true) := hev 7 _ ((hl.1 1 7 (by kernel_rfl) (by kernel_rfl)).trans (congrArg some (show y 1 =  (.bool true) from hd 1 (by kernel_rfl))))
        clear hd hl hev
        replace hJ := Lib.hid hJ
        go_simp
        exact hn _ _ (Below.refl _ _) rfl
      · intro y W next hl hJ hd hn
        refine Or.inl ⟨wanted_of (j := 2) (d := 8) rfl rfl rfl ((hl.1 2 8 (by kernel_rfl) (by kernel_rfl)).trans (congrArg some (show y 2 = .bool true from hd 2 (by kernel_rfl)))), fun ev ec ef hev => ?_⟩
        have e3 : ev (.tmp 3) = .iface 82 (kind6 x (.slice A n cap)) := hev 3 _ ((hl.2 3 (by kernel_rfl)).trans (by kernel_rfl))
        clear hd hl hev
        replace hJ := Lib.hid hJ
        go_simp
        exact hn _ _ (Below.refl _ _) rfl
      · intro y W next hl hJ hd hn
        refine Or.inl ⟨wanted_of (j := 2) (d := 8) rfl rfl rfl ((hl.1 2 8 (by kernel_rfl) (by kernel_rfl)).trans (congrArg some (show y 2 = .bool true from hd 2 (by kernel_rfl)))), fun ev ec ef hev => ?_⟩
        have e9 : ev (.tmp 9) =  (.iface 82 (kind6 x (.slice A n cap))) := hev 9 _ ((hl.1 3 9 (by kernel_rfl) (by kernel_rfl)).trans (congrArg some (show y 3 =  (.iface 82 (kind6 x (.slice A n cap))) from hd 3 (by kernel_rfl))))
        clear hd hl hev
        replace hJ := Lib.hid hJ
        go_simp
        refine (right6_any x A n cap _ wf (hv.out.below hJ.out)).mono ?_
        rintro e w' ⟨rfl, hb⟩
        exact ⟨_, rfl, hn _ _ hb (by rw [hr]; rfl)⟩
      · intro y W next hl hJ hd hn
        refine Or.inl ⟨wanted_free rfl, fun ev ec ef hev => ?_⟩
        have e8 : ev (.tmp 8) =  (.bool true) := hev 8 _ ((hl.1 2 8 (by kernel_rfl) (by kernel_rfl)).trans (congrArg some (show y 2 =  (.bool true) from hd 2 (by kernel_rfl))))
        have e10 : ev (.tmp 10) =  (.bool true) := hev 10 _ ((hl.1 4 10 (by kernel_rfl) (by kernel_rfl)).trans (congrArg some (show y 4 =  (.bool true) from hd 4 (by kernel_rfl))))
        clear hd hl hev
        replace hJ := Lib.hid hJ
        go_simp
        exact hn _ _ (Below.refl _ _) rfl
      · intro y W next hl hJ hd hn
        refine Or.inl ⟨wanted_free rfl, fun ev ec ef hev => ?_⟩
        have e11 : ev (.tmp 11) =  (.bool true) := hev 11 _ ((hl.1 5 11 (by kernel_rfl) (by kernel_rfl)).trans (congrArg some (show y 5 =  (.bool true) from hd 5 (by kernel_rfl))))
        clear hd hl hev
        replace hJ := Lib.hid hJ
        go_simp
        exact hn _ _ (Below.refl _ _) rfl
      · intro y W next hl hJ hd hn
        refine Or.inl ⟨wanted_of (j := 6) (d := 12) rfl rfl rfl ((hl.1 6 12 (by kernel_rfl) (by kernel_rfl)).trans (congrArg some (show y 6 = .bool true from hd 6 (by kernel_rfl)))), fun ev ec ef hev => ?_⟩
        have e1 : ev (.tmp 1) = .pointer (some ⟨w.heap.size, 0, none⟩) := hev 1 _ ((hl.2 1 (by kernel_rfl)).trans (by kernel_rfl))
        clear hd hl hev
        obtain ⟨x0, x1, x2, x3, x4, x5, -⟩ := (hk.out.below hJ hk.out.lt).six
        replace hJ := Lib.hid hJ
        go_simp
        exact hn _ _ (Below.refl _ _) rfl
      · intro y W next hl hJ hd hn
        refine Or.inl ⟨wanted_of (j := 6) (d := 12) rfl rfl rfl ((hl.1 6 12 (by kernel_rfl) (by kernel_rfl)).trans (congrArg some (show y 6 = .bool true from hd 6 (by kernel_rfl)))), fun ev ec ef hev => ?_⟩
        have e3 : ev (.tmp 3) = .iface 82 (kind6 x (.slice A n cap)) := hev 3 _ ((hl.2 3 (by kernel_rfl)).trans (by kernel_rfl))
        clear hd hl hev
        replace hJ := Lib.hid hJ
        go_simp
        exact hn _ _ (Below.refl _ _) rfl
      · intro y W next hl hJ hd hn
        refine Or.inl ⟨wanted_of (j := 6) (d := 12) rfl rfl rfl ((hl.1 6 12 (by kernel_rfl) (by kernel_rfl)).trans (congrArg some (show y 6 = .bool true from hd 6 (by kernel_rfl)))), fun ev ec ef hev => ?_⟩
        have e14 : ev (.tmp 14) =  (.iface 82 (kind6 x (.slice A n cap))) := hev 14 _ ((hl.1 8 14 (by kernel_rfl) (by kernel_rfl)).trans (congrArg some (show y 8 =  (.iface 82 (kind6 x (.slice A n cap))) from hd 8 (by kernel_rfl))))
        clear hd hl hev
        replace hJ := Lib.hid hJ
        go_simp
        refine (stmtOf6_any x A n cap _).mono ?_
        rintro e w' ⟨rfl, hb⟩
        exact ⟨_, rfl, hn _ _ hb rfl⟩
      · intro y W next hl hJ hd hn
        refine Or.inl ⟨wanted_of (j := 6) (d := 12) rfl rfl rfl ((hl.1 6 12 (by kernel_rfl) (by kernel_rfl)).trans (congrArg some (show y 6 = .bool true from hd 6 (by kernel_rfl)))), fun ev ec ef hev => ?_⟩
        have e13 : ev (.tmp 13) =  (.agg #[.int .i64 x.kind, .string x.name, .string x.text, .int .i64 x.num, .int .i64 x.dest, .slice A n cap]) := hev 13 _ ((hl.1 7 13 (by kernel_rfl) (by kernel_rfl)).trans (congrArg some (show y 7 =  (.agg #[.int .i64 x.kind, .string x.name, .string x.text, .int .i64 x.num, .int .i64 x.dest, .slice A n cap]) from hd 7 (by kernel_rfl))))
        have e15 : ev (.tmp 15) =  (stmA (cut6 x) (.slice none 0 0)) := hev 15 _ ((hl.1 9 15 (by kernel_rfl) (by kernel_rfl)).trans (congrArg some (show y 9 =  (stmA (cut6 x) (.slice none 0 0)) from hd 9 (by kernel_rfl))))
        clear hd hl hev
        replace hJ := Lib.hid hJ
        go_simp
        refine (sameStmt_any x (cut6 x) _ _ _ _ _ _ _ (hv.out.below hJ.out) (Prts.nil _)).mono ?_
        rintro e w' ⟨rfl, hb⟩
        exact ⟨_, rfl, hn _ _ hb (by rw [hs]; rfl)⟩
      · intro y W next hl hJ hd hn
        refine Or.inl ⟨wanted_free rfl, fun ev ec ef hev => ?_⟩
        have e12 : ev (.tmp 12) =  (.bool true) := hev 12 _ ((hl.1 6 12 (by kernel_rfl) (by kernel_rfl)).trans (congrArg some (show y 6 =  (.bool true) from hd 6 (by kernel_rfl))))
        have e16 : ev (.tmp 16) =  (.bool false) := hev 16 _ ((hl.1 10 16 (by kernel_rfl) (by kernel_rfl)).trans (congrArg some (show y 10 =  (.bool false) from hd 10 (by kernel_rfl))))
        clear hd hl hev
        replace hJ := Lib.hid hJ
        go_simp
        exact hn _ _ (Below.refl _ _) rfl
      · intro y W next hl hJ hd hn
        refine Or.inl ⟨wanted_free rfl, fun ev ec ef hev => ?_⟩
        have e17 : ev (.tmp 17) =  (.bool false) := hev 17 _ ((hl.1 11 17 (by kernel_rfl) (by kernel_rfl)).trans (congrArg some (show y 11 =  (.bool false) from hd 11 (by kernel_rfl))))
        clear hd hl hev
        replace hJ := Lib.hid hJ
        go_simp
        exact hn _ _ (Below.refl _ _) rfl
      · intro y W hb3 hall
        have hy : y 12 = .bool false := hall 12 (by decide)
        replace hb := Lib.hid (below_then hb.out hb3 (Nat.le_refl _))
        clear hall hb3
        simp only [lay_cons, lay_nil]
        rw [hy]
        clear hy
        simp only [Act.put, List.setIfInBounds_toArray]
        simp only [List.set_cons_succ, List.set_cons_zero]
        go_wp2
        go_ret
        exact ⟨by rw [e2.out]; rfl, hb.out⟩
    | true =>
      have e2 := Lib.hid (show stmtOk x = true by rw [hro.out, hr, ← hcs.out, hs]; rfl)
      go_enter Try.func15, Try.ntmps15
      go_wp2_with (go_at_call 38; refine (kindOf_any x A n cap _).mono ?_; rintro e w1 ⟨rfl, hb1⟩; rw [hkind.out]; replace hv := Lib.hid (hv.out.below hb1); replace hk := Lib.hid (hk.out.up hb1); replace hb := Lib.hid (Below.then_ hb.out hb1 (Nat.le_refl _)); clear hb1)
      refine wp_region_known [(.is (.iface 82 (kind6 x (.slice A n cap)))), (.is (.bool true)), (.is (.bool true)), (.is (.iface 82 (kind6 x (.slice A n cap)))), (.is (.bool true)), (.is (.bool true)), (.is (.bool true)), (.is (.agg #[.int .i64 x.kind, .string x.name, .string x.text, .int .i64 x.num, .int .i64 x.dest, .slice A n cap])), (.is (.iface 82 (kind6 x (.slice A n cap)))), (.is (stmA (cut6 x) (.slice none 0 0))), (.is (.bool true)), (.is (.bool true)), (.is (.bool true))] (by kernel_rfl) (by kernel_rfl) (by kernel_rfl) ⟨?_, ?_, ?_, ?_, ?_, ?_, ?_, ?_, ?_, ?_, ?_, ?_, ?_, trivial⟩ ?_
      · intro y W next hl hJ hd hn
        refine Or.inl ⟨wanted_free rfl, fun ev ec ef hev => ?_⟩
        have e3 : ev (.tmp 3) = .iface 82 (kind6 x (.slice A n cap)) := hev 3 _ ((hl.2 3 (by kernel_rfl)).trans (by kernel_rfl))
        clear hd hl hev
        replace hJ := Lib.hid hJ
        go_simp
        exact hn _ _ (Below.refl _ _) rfl
      · intro y W next hl hJ hd hn
        refine Or.inl ⟨wanted_free rfl, fun ev ec ef hev => ?_⟩
        have e6 : ev (.tmp 6) =  (.iface 82 (kind6 x (.slice A n cap))) := hev 6 _ ((hl.1 0 6 (by kernel_rfl) (by kernel_rfl)).trans (congrArg some (show y 0 =  (.iface 82 (kind6 x (.slice A n cap))) from hd 0 (by kernel_rfl))))
        clear hd hl hev
        replace hJ := Lib.hid hJ
        go_simp
        exact hn _ _ (Below.refl _ _) rfl
      · intro y W next hl hJ hd hn
        refine Or.inl ⟨wanted_free rfl, fun ev ec ef hev => ?_⟩
        have e7 : ev (.tmp 7) =  (.bool true) := hev 7 _ ((hl.1 1 7 (by kernel_rfl) (by kernel_rfl)).trans (congrArg some (show y 1 =  (.bool true) from hd 1 (by kernel_rfl))))
        clear hd hl hev
        replace hJ := Lib.hid hJ
        go_simp
        exact hn _ _ (Below.refl _ _) rfl
      · intro y W next hl hJ hd hn
        refine Or.inl ⟨wanted_of (j := 2) (d := 8) rfl rfl rfl ((hl.1 2 8 (by kernel_rfl) (by kernel_rfl)).trans (congrArg some (show y 2 = .bool true from hd 2 (by kernel_rfl)))), fun ev ec ef hev => ?_⟩
        have e3 : ev (.tmp 3) = .iface 82 (kind6 x (.slice A n cap)) := hev 3 _ ((hl.2 3 (by kernel_rfl)).trans (by kernel_rfl))
        clear hd hl hev
        replace hJ := Lib.hid hJ
        go_simp
        exact hn _ _ (Below.refl _ _) rfl
      · intro y W next hl hJ hd hn
        refine Or.inl ⟨wanted_of (j := 2) (d := 8) rfl rfl rfl ((hl.1 2 8 (by kernel_rfl) (by kernel_rfl)).trans (congrArg some (show y 2 = .bool true from hd 2 (by kernel_rfl)))), fun ev ec ef hev => ?_⟩
        have e9 : ev (.tmp 9) =  (.iface 82 (kind6 x (.slice A n cap))) := hev 9 _ ((hl.1 3 9 (by kernel_rfl) (by kernel_rfl)).trans (congrArg some (show y 3 =  (.iface 82 (kind6 x (.slice A n cap))) from hd 3 (by kernel_rfl))))
        clear hd hl hev
        replace hJ := Lib.hid hJ
        go_simp
        refine (right6_any x A n cap _ wf (hv.out.below hJ.out)).mono ?_
        rintro e w' ⟨rfl, hb⟩
        exact ⟨_, rfl, hn _ _ hb (by rw [hr]; rfl)⟩
      · intro y W next hl hJ hd hn
        refine Or.inl ⟨wanted_free rfl, fun ev ec ef hev => ?_⟩
        have e8 : ev (.tmp 8) =  (.bool true) := hev 8 _ ((hl.1 2 8 (by kernel_rfl) (by kernel_rfl)).trans (congrArg some (show y 2 =  (.bool true) from hd 2 (by kernel_rfl))))
        have e10 : ev (.tmp 10) =  (.bool true) := hev 10 _ ((hl.1 4 10 (by kernel_rfl) (by kernel_rfl)).trans (congrArg some (show y 4 =  (.bool true) from hd 4 (by kernel_rfl))))
        clear hd hl hev
        replace hJ := Lib.hid hJ
        go_simp
        exact hn _ _ (Below.refl _ _) rfl
      · intro y W next hl hJ hd hn
        refine Or.inl ⟨wanted_free rfl, fun ev ec ef hev => ?_⟩
        have e11 : ev (.tmp 11) =  (.bool true) := hev 11 _ ((hl.1 5 11 (by kernel_rfl) (by kernel_rfl)).trans (congrArg some (show y 5 =  (.bool true) from hd 5 (by kernel_rfl))))
        clear hd hl hev
        replace hJ := Lib.hid hJ
        go_simp
        exact hn _ _ (Below.refl _ _) rfl
      · intro y W next hl hJ hd hn
        refine Or.inl ⟨wanted_of (j := 6) (d := 12) rfl rfl rfl ((hl.1 6 12 (by kernel_rfl) (by kernel_rfl)).trans (congrArg some (show y 6 = .bool true from hd 6 (by kernel_rfl)))), fun ev ec ef hev => ?_⟩
        have e1 : ev (.tmp 1) = .pointer (some ⟨w.heap.size, 0, none⟩) := hev 1 _ ((hl.2 1 (by kernel_rfl)).trans (by kernel_rfl))
        clear hd hl hev
        obtain ⟨x0, x1, x2, x3, x4, x5, -⟩ := (hk.out.below hJ hk.out.lt).six
        replace hJ := Lib.hid hJ
        go_simp
        exact hn _ _ (Below.refl _ _) rfl
      · intro y W next hl hJ hd hn
        refine Or.inl ⟨wanted_of (j := 6) (d := 12) rfl rfl rfl ((hl.1 6 12 (by kernel_rfl) (by kernel_rfl)).trans (congrArg some (show y 6 = .bool true from hd 6 (by kernel_rfl)))), fun ev ec ef hev => ?_⟩
        have e3 : ev (.tmp 3) = .iface 82 (kind6 x (.slice A n cap)) := hev 3 _ ((hl.2 3 (by kernel_rfl)).trans (by kernel_rfl))
        clear hd hl hev
        replace hJ := Lib.hid hJ
        go_simp
        exact hn _ _ (Below.refl _ _) rfl
      · intro y W next hl hJ hd hn
        refine Or.inl ⟨wanted_of (j := 6) (d := 12) rfl rfl rfl ((hl.1 6 12 (by kernel_rfl) (by kernel_rfl)).trans (congrArg some (show y 6 = .bool true from hd 6 (by kernel_rfl)))), fun ev ec ef hev => ?_⟩
        have e14 : ev (.tmp 14) =  (.iface 82 (kind6 x (.slice A n cap))) := hev 14 _ ((hl.1 8 14 (by kernel_rfl) (by kernel_rfl)).trans (congrArg some (show y 8 =  (.iface 82 (kind6 x (.slice A n cap))) from hd 8 (by kernel_rfl))))
        clear hd hl hev
        replace hJ := Lib.hid hJ
        go_simp
        refine (stmtOf6_any x A n cap _).mono ?_
        rintro e w' ⟨rfl, hb⟩
        exact ⟨_, rfl, hn _ _ hb rfl⟩
      · intro y W next hl hJ hd hn
        refine Or.inl ⟨wanted_of (j := 6) (d := 12) rfl rfl rfl ((hl.1 6 12 (by kernel_rfl) (by kernel_rfl)).trans (congrArg some (show y 6 = .bool true from hd 6 (by kernel_rfl)))), fun ev ec ef hev => ?_⟩
        have e13 : ev (.tmp 13) =  (.agg #[.int .i64 x.kind, .string x.name, .string x.text, .int .i64 x.num, .int .i64 x.dest, .slice A n cap]) := hev 13 _ ((hl.1 7 13 (by kernel_rfl) (by kernel_rfl)).trans (congrArg some (show y 7 =  (.agg #[.int .i64 x.kind, .string x.name, .string x.text, .int .i64 x.num, .int .i64 x.dest, .slice A n cap]) from hd 7 (by kernel_rfl))))
        have e15 : ev (.tmp 15) =  (stmA (cut6 x) (.slice none 0 0)) := hev 15 _ ((hl.1 9 15 (by kernel_rfl) (by kernel_rfl)).trans (congrArg some (show y 9 =  (stmA (cut6 x) (.slice none 0 0)) from hd 9 (by kernel_rfl))))
        clear hd hl hev
        replace hJ := Lib.hid hJ
        go_simp
        refine (sameStmt_any x (cut6 x) _ _ _ _ _ _ _ (hv.out.below hJ.out) (Prts.nil _)).mono ?_
        rintro e w' ⟨rfl, hb⟩
        exact ⟨_, rfl, hn _ _ hb (by rw [hs]; rfl)⟩
      · intro y W next hl hJ hd hn
        refine Or.inl ⟨wanted_free rfl, fun ev ec ef hev => ?_⟩
        have e12 : ev (.tmp 12) =  (.bool true) := hev 12 _ ((hl.1 6 12 (by kernel_rfl) (by kernel_rfl)).trans (congrArg some (show y 6 =  (.bool true) from hd 6 (by kernel_rfl))))
        have e16 : ev (.tmp 16) =  (.bool true) := hev 16 _ ((hl.1 10 16 (by kernel_rfl) (by kernel_rfl)).trans (congrArg some (show y 10 =  (.bool true) from hd 10 (by kernel_rfl))))
        clear hd hl hev
        replace hJ := Lib.hid hJ
        go_simp
        exact hn _ _ (Below.refl _ _) rfl
      · intro y W next hl hJ hd hn
        refine Or.inl ⟨wanted_free rfl, fun ev ec ef hev => ?_⟩
        have e17 : ev (.tmp 17) =  (.bool true) := hev 17 _ ((hl.1 11 17 (by kernel_rfl) (by kernel_rfl)).trans (congrArg some (show y 11 =  (.bool true) from hd 11 (by kernel_rfl))))
        clear hd hl hev
        replace hJ := Lib.hid hJ
        go_simp
        exact hn _ _ (Below.refl _ _) rfl
      · intro y W hb3 hall
        have hy : y 12 = .bool true := hall 12 (by decide)
        replace hb := Lib.hid (below_then hb.out hb3 (Nat.le_refl _))
        clear hall hb3
        simp only [lay_cons, lay_nil]
        rw [hy]
        clear hy
        simp only [Act.put, List.setIfInBounds_toArray]
        simp only [List.set_cons_succ, List.set_cons_zero]
        go_wp2
        go_ret
        exact ⟨by rw [e2.out]; rfl, hb.out⟩

end Go.Proofs.Ytejmfpaegkgkjaa
