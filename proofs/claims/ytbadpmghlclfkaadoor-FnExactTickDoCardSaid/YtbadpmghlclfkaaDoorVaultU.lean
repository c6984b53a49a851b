/- VaultRight of the model. -/
import Derived.Test.YtbadpmghlclfkaaDoorVaultV
namespace Go.Proofs.YtbadpmghlclfkaaDoor
open Go.RowKit

theorem okAt_fall {l : List Sec} {k : Nat} (h : k + 1 < l.length) (hle : lessB l[k].name l[k + 1].name = false) : okAt l (k + 1) = false := by rw [okAt_of h, riseB_of h, hle]; simp
set_option maxRecDepth 20000 in
set_option maxHeartbeats 40000000 in
theorem specVault_any (v : Value) (l : List Sec) (w : World) (hv : Secs w v l) (hsml : ∀ x ∈ l, secSmall x) :
    Calls Tryd.prog 66 #[v] w (Gives (.bool (vaultB l)) w) := by
  obtain ⟨A, cap, rfl⟩ := hv.form
  have hl := hv.1
  unfold maxLen at hl
  have hv' := Lib.hid hv
  replace hsml := Lib.hid hsml
  clear hv
  by_cases h4 : l.length ≤ 4
  · have h4' : ¬ (4 : Int) < (l.length : Int) := by omega
    go_enter Tryd.func66, Tryd.ntmps66
    go_wp2
    go_loopw [3] (fun i wr => ∃ k : Nat, k ≤ l.length ∧ i = .int .i64 (k : Int) ∧ Hid (upTo l k = true) ∧ Hid (Below w.heap.size w wr)) (fun i _ => l.length - (intOf i).toNat)
    case atStart => exact ⟨0, Nat.zero_le _, rfl, Lib.hid rfl, Lib.hid (Below.refl _ _)⟩
    case round =>
      obtain ⟨k, hk, rfl, hup, hb⟩ := hrel
      by_cases hlt : k < l.length
      · have hlt' : (k : Int) < (l.length : Int) := by omega
        have hsecs := Lib.hid (hv'.out.below hb.out)
        obtain ⟨b, off, rfl, hbk, c0, c1, c2, c3⟩ := hsecs.out.four k hlt
        have hwf := Lib.hid (hsecs.out.wf hlt)
        have hsm := Lib.hid (hsml.out _ (List.getElem_mem hlt)).2.2
        cases k with
        | zero =>
          cases hc1 : wordB l[0].name.data.toList with
          | false =>
            simp only [Nat.zero_mul, Nat.add_zero] at c0 c1 c2 c3
            have hbad := Lib.hid (vaultB_bad hlt (okAt_bad hlt (show secOk l[0] = false by rw [secOk_eq, hc1]; rfl)))
            clear hup
            obtain ⟨V, hV⟩ : ∃ V, V = wr.alloc (.cells #[.string l[0].name, .int .i64 l[0].seat, .string l[0].word, .string l[0].prompt] 100) := ⟨_, rfl⟩
            have hbx := Lib.hid (box4 (w := wr) l[0] 100)
            rw [← hV] at hbx
            have hb2 := Lib.hid (show Below w.heap.size w V by rw [hV]; exact hb.out.alloc hb.out.size _)
            go_wp2
            rw [← hV]
            replace hsecs := Lib.hid (show Secs V (.slice (some ⟨b, off, none⟩) l.length cap) l by rw [hV]; exact hsecs.out.alloc _)
            clear hV c0 c1 c2 c3
            refine wp_region_known [(.is (.pointer (some ⟨wr.heap.size, 0, none⟩))), (.is (.string l[0].name)), (.is (.bool false)), (.is (.bool true)), (.is (.bool true)), .any, .any, (.is undef), .any, .any, .any, .any, .any, .any, .any, .any, .any, .any, (.is (.bool true)), (.is (.bool true)), .any, .any, .any, .any, (.is (.bool true)), (.is (.bool true)), .any, .any, .any, .any, (.is (.bool true)), (.is (.bool true)), .any, .any, .any, .any, (.is (.bool true))] (by kernel_rfl) (by kernel_rfl) (by kernel_rfl) ⟨?_, ?_, ?_, ?_, ?_, ?_, ?_, ?_, ?_, ?_, ?_, ?_, ?_, ?_, ?_, ?_, ?_, ?_, ?_, ?_, ?_, ?_, ?_, ?_, ?_, ?_, ?_, ?_, ?_, ?_, ?_, ?_, ?_, ?_, ?_, ?_, ?_, trivial⟩ ?_
            · intro y W next hl hJ hd hn
              refine Or.inl ⟨wanted_free rfl, fun ev ec ef hev => ?_⟩
              have e4 : ev (.tmp 4) = .pointer (some ⟨wr.heap.size, 0, none⟩) := hev 4 _ ((hl.2 4 (by kernel_rfl)).trans (by kernel_rfl))
              clear hd hl hev
              replace hJ := Lib.hid hJ
              go_simp
              exact hn _ _ (Below.refl _ _) rfl
            · intro y W next hl hJ hd hn
              refine Or.inl ⟨wanted_free rfl, fun ev ec ef hev => ?_⟩
              have e18 : ev (.tmp 18) =  (.pointer (some ⟨wr.heap.size, 0, none⟩)) := hev 18 _ ((hl.1 0 18 (by kernel_rfl) (by kernel_rfl)).trans (congrArg some (show y 0 =  (.pointer (some ⟨wr.heap.size, 0, none⟩)) from hd 0 (by kernel_rfl))))
              clear hd hl hev
              obtain ⟨x0, x1, x2, x3⟩ := (hbx.out.below hJ hbx.out.lt).four
              replace hJ := Lib.hid hJ
              go_simp
              exact hn _ _ (Below.refl _ _) rfl
            · intro y W next hl hJ hd hn
              refine Or.inl ⟨wanted_free rfl, fun ev ec ef hev => ?_⟩
              have e19 : ev (.tmp 19) =  (.string l[0].name) := hev 19 _ ((hl.1 1 19 (by kernel_rfl) (by kernel_rfl)).trans (congrArg some (show y 1 =  (.string l[0].name) from hd 1 (by kernel_rfl))))
              clear hd hl hev
              replace hJ := Lib.hid hJ
              go_simp
              refine (specWord_any _ hwf.out.1 _).mono ?_
              rintro e w' ⟨rfl, rfl⟩
              exact ⟨_, rfl, hn _ _ (Below.refl _ _) (by rw [hc1]; rfl)⟩
            · intro y W next hl hJ hd hn
              refine Or.inl ⟨wanted_free rfl, fun ev ec ef hev => ?_⟩
              have e20 : ev (.tmp 20) =  (.bool false) := hev 20 _ ((hl.1 2 20 (by kernel_rfl) (by kernel_rfl)).trans (congrArg some (show y 2 =  (.bool false) from hd 2 (by kernel_rfl))))
              clear hd hl hev
              replace hJ := Lib.hid hJ
              go_simp
              exact hn _ _ (Below.refl _ _) rfl
            · intro y W next hl hJ hd hn
              refine Or.inl ⟨wanted_free rfl, fun ev ec ef hev => ?_⟩
              have e21 : ev (.tmp 21) =  (.bool true) := hev 21 _ ((hl.1 3 21 (by kernel_rfl) (by kernel_rfl)).trans (congrArg some (show y 3 =  (.bool true) from hd 3 (by kernel_rfl))))
              clear hd hl hev
              replace hJ := Lib.hid hJ
              go_simp
              exact hn _ _ (Below.refl _ _) rfl
            · intro y W next hl hJ hd hn
              exact Or.inr ⟨wanted_not (j := 4) (d := 22) rfl rfl rfl ((hl.1 4 22 (by kernel_rfl) (by kernel_rfl)).trans (congrArg some (show y 4 = .bool true from hd 4 (by kernel_rfl)))), hn _ _ (Below.refl _ _) trivial⟩
            · intro y W next hl hJ hd hn
              exact Or.inr ⟨wanted_not (j := 4) (d := 22) rfl rfl rfl ((hl.1 4 22 (by kernel_rfl) (by kernel_rfl)).trans (congrArg some (show y 4 = .bool true from hd 4 (by kernel_rfl)))), hn _ _ (Below.refl _ _) trivial⟩
            · intro y W next hl hJ hd hn
              exact Or.inr ⟨wanted_not (j := 4) (d := 22) rfl rfl rfl ((hl.1 4 22 (by kernel_rfl) (by kernel_rfl)).trans (congrArg some (show y 4 = .bool true from hd 4 (by kernel_rfl)))), hn _ _ (Below.refl _ _) rfl⟩
            · intro y W next hl hJ hd hn
              exact Or.inr ⟨wanted_undef (j := 7) (d := 25) rfl rfl rfl ((hl.1 7 25 (by kernel_rfl) (by kernel_rfl)).trans (congrArg some (show y 7 = undef from hd 7 (by kernel_rfl)))), hn _ _ (Below.refl _ _) trivial⟩
            · intro y W next hl hJ hd hn
              exact Or.inr ⟨wanted_undef (j := 7) (d := 25) rfl rfl rfl ((hl.1 7 25 (by kernel_rfl) (by kernel_rfl)).trans (congrArg some (show y 7 = undef from hd 7 (by kernel_rfl)))), hn _ _ (Below.refl _ _) trivial⟩
            · intro y W next hl hJ hd hn
              exact Or.inr ⟨wanted_undef (j := 7) (d := 25) rfl rfl rfl ((hl.1 7 25 (by kernel_rfl) (by kernel_rfl)).trans (congrArg some (show y 7 = undef from hd 7 (by kernel_rfl)))), hn _ _ (Below.refl _ _) trivial⟩
            · intro y W next hl hJ hd hn
              exact Or.inr ⟨wanted_undef (j := 7) (d := 25) rfl rfl rfl ((hl.1 7 25 (by kernel_rfl) (by kernel_rfl)).trans (congrArg some (show y 7 = undef from hd 7 (by kernel_rfl)))), hn _ _ (Below.refl _ _) trivial⟩
            · intro y W next hl hJ hd hn
              exact Or.inr ⟨wanted_undef (j := 7) (d := 25) rfl rfl rfl ((hl.1 7 25 (by kernel_rfl) (by kernel_rfl)).trans (congrArg some (show y 7 = undef from hd 7 (by kernel_rfl)))), hn _ _ (Below.refl _ _) trivial⟩
            · intro y W next hl hJ hd hn
              exact Or.inr ⟨wanted_undef (j := 7) (d := 25) rfl rfl rfl ((hl.1 7 25 (by kernel_rfl) (by kernel_rfl)).trans (congrArg some (show y 7 = undef from hd 7 (by kernel_rfl)))), hn _ _ (Below.refl _ _) trivial⟩
            · intro y W next hl hJ hd hn
              exact Or.inr ⟨wanted_undef (j := 7) (d := 25) rfl rfl rfl ((hl.1 7 25 (by kernel_rfl) (by kernel_rfl)).trans (congrArg some (show y 7 = undef from hd 7 (by kernel_rfl)))), hn _ _ (Below.refl _ _) trivial⟩
            · intro y W next hl hJ hd hn
              exact Or.inr ⟨wanted_undef (j := 7) (d := 25) rfl rfl rfl ((hl.1 7 25 (by kernel_rfl) (by kernel_rfl)).trans (congrArg some (show y 7 = undef from hd 7 (by kernel_rfl)))), hn _ _ (Below.refl _ _) trivial⟩
            · intro y W next hl hJ hd hn
              exact Or.inr ⟨wanted_undef (j := 7) (d := 25) rfl rfl rfl ((hl.1 7 25 (by kernel_rfl) (by kernel_rfl)).trans (congrArg some (show y 7 = undef from hd 7 (by kernel_rfl)))), hn _ _ (Below.refl _ _) trivial⟩
            · intro y W next hl hJ hd hn
              exact Or.inr ⟨wanted_not (j := 4) (d := 22) rfl rfl rfl ((hl.1 4 22 (by kernel_rfl) (by kernel_rfl)).trans (congrArg some (show y 4 = .bool true from hd 4 (by kernel_rfl)))), hn _ _ (Below.refl _ _) trivial⟩
            · intro y W next hl hJ hd hn
              refine Or.inl ⟨wanted_free rfl, fun ev ec ef hev => ?_⟩
              have e22 : ev (.tmp 22) =  (.bool true) := hev 22 _ ((hl.1 4 22 (by kernel_rfl) (by kernel_rfl)).trans (congrArg some (show y 4 =  (.bool true) from hd 4 (by kernel_rfl))))
              have e35 := hev 35 _ (hl.1 17 35 (by kernel_rfl) (by kernel_rfl))
              clear hd hl hev
              replace hJ := Lib.hid hJ
              go_simp
              exact hn _ _ (Below.refl _ _) rfl
            · intro y W next hl hJ hd hn
              refine Or.inl ⟨wanted_free rfl, fun ev ec ef hev => ?_⟩
              have e36 : ev (.tmp 36) =  (.bool true) := hev 36 _ ((hl.1 18 36 (by kernel_rfl) (by kernel_rfl)).trans (congrArg some (show y 18 =  (.bool true) from hd 18 (by kernel_rfl))))
              clear hd hl hev
              replace hJ := Lib.hid hJ
              go_simp
              exact hn _ _ (Below.refl _ _) rfl
            · intro y W next hl hJ hd hn
              exact Or.inr ⟨wanted_not (j := 19) (d := 37) rfl rfl rfl ((hl.1 19 37 (by kernel_rfl) (by kernel_rfl)).trans (congrArg some (show y 19 = .bool true from hd 19 (by kernel_rfl)))), hn _ _ (Below.refl _ _) trivial⟩
            · intro y W next hl hJ hd hn
              exact Or.inr ⟨wanted_not (j := 19) (d := 37) rfl rfl rfl ((hl.1 19 37 (by kernel_rfl) (by kernel_rfl)).trans (congrArg some (show y 19 = .bool true from hd 19 (by kernel_rfl)))), hn _ _ (Below.refl _ _) trivial⟩
            · intro y W next hl hJ hd hn
              exact Or.inr ⟨wanted_not (j := 19) (d := 37) rfl rfl rfl ((hl.1 19 37 (by kernel_rfl) (by kernel_rfl)).trans (congrArg some (show y 19 = .bool true from hd 19 (by kernel_rfl)))), hn _ _ (Below.refl _ _) trivial⟩
            · intro y W next hl hJ hd hn
              exact Or.inr ⟨wanted_not (j := 19) (d := 37) rfl rfl rfl ((hl.1 19 37 (by kernel_rfl) (by kernel_rfl)).trans (congrArg some (show y 19 = .bool true from hd 19 (by kernel_rfl)))), hn _ _ (Below.refl _ _) trivial⟩
            · intro y W next hl hJ hd hn
              refine Or.inl ⟨wanted_free rfl, fun ev ec ef hev => ?_⟩
              have e37 : ev (.tmp 37) =  (.bool true) := hev 37 _ ((hl.1 19 37 (by kernel_rfl) (by kernel_rfl)).trans (congrArg some (show y 19 =  (.bool true) from hd 19 (by kernel_rfl))))
              have e41 := hev 41 _ (hl.1 23 41 (by kernel_rfl) (by kernel_rfl))
              clear hd hl hev
              replace hJ := Lib.hid hJ
              go_simp
              exact hn _ _ (Below.refl _ _) rfl
            · intro y W next hl hJ hd hn
              refine Or.inl ⟨wanted_free rfl, fun ev ec ef hev => ?_⟩
              have e42 : ev (.tmp 42) =  (.bool true) := hev 42 _ ((hl.1 24 42 (by kernel_rfl) (by kernel_rfl)).trans (congrArg some (show y 24 =  (.bool true) from hd 24 (by kernel_rfl))))
              clear hd hl hev
              replace hJ := Lib.hid hJ
              go_simp
              exact hn _ _ (Below.refl _ _) rfl
            · intro y W next hl hJ hd hn
              exact Or.inr ⟨wanted_not (j := 25) (d := 43) rfl rfl rfl ((hl.1 25 43 (by kernel_rfl) (by kernel_rfl)).trans (congrArg some (show y 25 = .bool true from hd 25 (by kernel_rfl)))), hn _ _ (Below.refl _ _) trivial⟩
            · intro y W next hl hJ hd hn
              exact Or.inr ⟨wanted_not (j := 25) (d := 43) rfl rfl rfl ((hl.1 25 43 (by kernel_rfl) (by kernel_rfl)).trans (congrArg some (show y 25 = .bool true from hd 25 (by kernel_rfl)))), hn _ _ (Below.refl _ _) trivial⟩
            · intro y W next hl hJ hd hn
              exact Or.inr ⟨wanted_not (j := 25) (d := 43) rfl rfl rfl ((hl.1 25 43 (by kernel_rfl) (by kernel_rfl)).trans (congrArg some (show y 25 = .bool true from hd 25 (by kernel_rfl)))), hn _ _ (Below.refl _ _) trivial⟩
            · intro y W next hl hJ hd hn
              exact Or.inr ⟨wanted_not (j := 25) (d := 43) rfl rfl rfl ((hl.1 25 43 (by kernel_rfl) (by kernel_rfl)).trans (congrArg some (show y 25 = .bool true from hd 25 (by kernel_rfl)))), hn _ _ (Below.refl _ _) trivial⟩
            · intro y W next hl hJ hd hn
              refine Or.inl ⟨wanted_free rfl, fun ev ec ef hev => ?_⟩
              have e43 : ev (.tmp 43) =  (.bool true) := hev 43 _ ((hl.1 25 43 (by kernel_rfl) (by kernel_rfl)).trans (congrArg some (show y 25 =  (.bool true) from hd 25 (by kernel_rfl))))
              have e47 := hev 47 _ (hl.1 29 47 (by kernel_rfl) (by kernel_rfl))
              clear hd hl hev
              replace hJ := Lib.hid hJ
              go_simp
              exact hn _ _ (Below.refl _ _) rfl
            · intro y W next hl hJ hd hn
              refine Or.inl ⟨wanted_free rfl, fun ev ec ef hev => ?_⟩
              have e48 : ev (.tmp 48) =  (.bool true) := hev 48 _ ((hl.1 30 48 (by kernel_rfl) (by kernel_rfl)).trans (congrArg some (show y 30 =  (.bool true) from hd 30 (by kernel_rfl))))
              clear hd hl hev
              replace hJ := Lib.hid hJ
              go_simp
              exact hn _ _ (Below.refl _ _) rfl
            · intro y W next hl hJ hd hn
              exact Or.inr ⟨wanted_not (j := 31) (d := 49) rfl rfl rfl ((hl.1 31 49 (by kernel_rfl) (by kernel_rfl)).trans (congrArg some (show y 31 = .bool true from hd 31 (by kernel_rfl)))), hn _ _ (Below.refl _ _) trivial⟩
            · intro y W next hl hJ hd hn
              exact Or.inr ⟨wanted_not (j := 31) (d := 49) rfl rfl rfl ((hl.1 31 49 (by kernel_rfl) (by kernel_rfl)).trans (congrArg some (show y 31 = .bool true from hd 31 (by kernel_rfl)))), hn _ _ (Below.refl _ _) trivial⟩
            · intro y W next hl hJ hd hn
              exact Or.inr ⟨wanted_not (j := 31) (d := 49) rfl rfl rfl ((hl.1 31 49 (by kernel_rfl) (by kernel_rfl)).trans (congrArg some (show y 31 = .bool true from hd 31 (by kernel_rfl)))), hn _ _ (Below.refl _ _) trivial⟩
            · intro y W next hl hJ hd hn
              exact Or.inr ⟨wanted_not (j := 31) (d := 49) rfl rfl rfl ((hl.1 31 49 (by kernel_rfl) (by kernel_rfl)).trans (congrArg some (show y 31 = .bool true from hd 31 (by kernel_rfl)))), hn _ _ (Below.refl _ _) trivial⟩
            · intro y W next hl hJ hd hn
              refine Or.inl ⟨wanted_free rfl, fun ev ec ef hev => ?_⟩
              have e49 : ev (.tmp 49) =  (.bool true) := hev 49 _ ((hl.1 31 49 (by kernel_rfl) (by kernel_rfl)).trans (congrArg some (show y 31 =  (.bool true) from hd 31 (by kernel_rfl))))
              have e53 := hev 53 _ (hl.1 35 53 (by kernel_rfl) (by kernel_rfl))
              clear hd hl hev
              replace hJ := Lib.hid hJ
              go_simp
              exact hn _ _ (Below.refl _ _) rfl

            · intro y W hb3 hall
              have hy : y 36 = .bool true := hall 36 (by decide)
              replace hb2 := Lib.hid (below_then hb2.out hb3 (Nat.le_refl _))
              clear hall hb3
              simp only [lay_cons, lay_nil]
              rw [hy]
              clear hy
              simp only [Act.put, List.setIfInBounds_toArray]
              simp only [List.set_cons_succ, List.set_cons_zero]
              go_wp2
              go_ret
              exact ⟨by rw [hbad.out]; rfl, hb2.out⟩
          | true =>
            cases hc2 : isB l[0].seat 0 2 with
            | false =>
              simp only [Nat.zero_mul, Nat.add_zero] at c0 c1 c2 c3
              have hbad := Lib.hid (vaultB_bad hlt (okAt_bad hlt (show secOk l[0] = false by rw [secOk_eq, hc1, hc2]; rfl)))
              clear hup
              obtain ⟨V, hV⟩ : ∃ V, V = wr.alloc (.cells #[.string l[0].name, .int .i64 l[0].seat, .string l[0].word, .string l[0].prompt] 100) := ⟨_, rfl⟩
              have hbx := Lib.hid (box4 (w := wr) l[0] 100)
              rw [← hV] at hbx
              have hb2 := Lib.hid (show Below w.heap.size w V by rw [hV]; exact hb.out.alloc hb.out.size _)
              go_wp2
              rw [← hV]
              replace hsecs := Lib.hid (show Secs V (.slice (some ⟨b, off, none⟩) l.length cap) l by rw [hV]; exact hsecs.out.alloc _)
              clear hV c0 c1 c2 c3
              refine wp_region_known [(.is (.pointer (some ⟨wr.heap.size, 0, none⟩))), (.is (.string l[0].name)), (.is (.bool true)), (.is (.bool false)), (.is (.bool false)), (.is (.int .i64 ((0 : Nat) : Int))), (.is (.bool false)), (.is (.bool false)), .any, .any, .any, .any, .any, .any, .any, .any, .any, (.is (.bool false)), (.is (.bool false)), (.is (.bool false)), (.is (.pointer (some ⟨wr.heap.size, 1, none⟩))), (.is (.int .i64 l[0].seat)), (.is (.bool false)), (.is (.bool true)), (.is (.bool true)), (.is (.bool true)), .any, .any, .any, .any, (.is (.bool true)), (.is (.bool true)), .any, .any, .any, .any, (.is (.bool true))] (by kernel_rfl) (by kernel_rfl) (by kernel_rfl) ⟨?_, ?_, ?_, ?_, ?_, ?_, ?_, ?_, ?_, ?_, ?_, ?_, ?_, ?_, ?_, ?_, ?_, ?_, ?_, ?_, ?_, ?_, ?_, ?_, ?_, ?_, ?_, ?_, ?_, ?_, ?_, ?_, ?_, ?_, ?_, ?_, ?_, trivial⟩ ?_
              · intro y W next hl hJ hd hn
                refine Or.inl ⟨wanted_free rfl, fun ev ec ef hev => ?_⟩
                have e4 : ev (.tmp 4) = .pointer (some ⟨wr.heap.size, 0, none⟩) := hev 4 _ ((hl.2 4 (by kernel_rfl)).trans (by kernel_rfl))
                clear hd hl hev
                replace hJ := Lib.hid hJ
                go_simp
                exact hn _ _ (Below.refl _ _) rfl
              · intro y W next hl hJ hd hn
                refine Or.inl ⟨wanted_free rfl, fun ev ec ef hev => ?_⟩
                have e18 : ev (.tmp 18) =  (.pointer (some ⟨wr.heap.size, 0, none⟩)) := hev 18 _ ((hl.1 0 18 (by kernel_rfl) (by kernel_rfl)).trans (congrArg some (show y 0 =  (.pointer (some ⟨wr.heap.size, 0, none⟩)) from hd 0 (by kernel_rfl))))
                clear hd hl hev
                obtain ⟨x0, x1, x2, x3⟩ := (hbx.out.below hJ hbx.out.lt).four
                replace hJ := Lib.hid hJ
                go_simp
                exact hn _ _ (Below.refl _ _) rfl
              · intro y W next hl hJ hd hn
                refine Or.inl ⟨wanted_free rfl, fun ev ec ef hev => ?_⟩
                have e19 : ev (.tmp 19) =  (.string l[0].name) := hev 19 _ ((hl.1 1 19 (by kernel_rfl) (by kernel_rfl)).trans (congrArg some (show y 1 =  (.string l[0].name) from hd 1 (by kernel_rfl))))
                clear hd hl hev
                replace hJ := Lib.hid hJ
                go_simp
                refine (specWord_any _ hwf.out.1 _).mono ?_
                rintro e w' ⟨rfl, rfl⟩
                exact ⟨_, rfl, hn _ _ (Below.refl _ _) (by rw [hc1]; rfl)⟩
              · intro y W next hl hJ hd hn
                refine Or.inl ⟨wanted_free rfl, fun ev ec ef hev => ?_⟩
                have e20 : ev (.tmp 20) =  (.bool true) := hev 20 _ ((hl.1 2 20 (by kernel_rfl) (by kernel_rfl)).trans (congrArg some (show y 2 =  (.bool true) from hd 2 (by kernel_rfl))))
                clear hd hl hev
                replace hJ := Lib.hid hJ
                go_simp
                exact hn _ _ (Below.refl _ _) rfl
              · intro y W next hl hJ hd hn
                refine Or.inl ⟨wanted_free rfl, fun ev ec ef hev => ?_⟩
                have e21 : ev (.tmp 21) =  (.bool false) := hev 21 _ ((hl.1 3 21 (by kernel_rfl) (by kernel_rfl)).trans (congrArg some (show y 3 =  (.bool false) from hd 3 (by kernel_rfl))))
                clear hd hl hev
                replace hJ := Lib.hid hJ
                go_simp
                exact hn _ _ (Below.refl _ _) rfl
              · intro y W next hl hJ hd hn
                refine Or.inl ⟨wanted_of (j := 4) (d := 22) rfl rfl rfl ((hl.1 4 22 (by kernel_rfl) (by kernel_rfl)).trans (congrArg some (show y 4 = .bool false from hd 4 (by kernel_rfl)))), fun ev ec ef hev => ?_⟩
                have e3 : ev (.tmp 3) = .int .i64 ((0 : Nat) : Int) := hev 3 _ ((hl.2 3 (by kernel_rfl)).trans (by kernel_rfl))
                clear hd hl hev
                replace hJ := Lib.hid hJ
                go_simp
                exact hn _ _ (Below.refl _ _) rfl
              · intro y W next hl hJ hd hn
                refine Or.inl ⟨wanted_of (j := 4) (d := 22) rfl rfl rfl ((hl.1 4 22 (by kernel_rfl) (by kernel_rfl)).trans (congrArg some (show y 4 = .bool false from hd 4 (by kernel_rfl)))), fun ev ec ef hev => ?_⟩
                have e23 : ev (.tmp 23) =  (.int .i64 ((0 : Nat) : Int)) := hev 23 _ ((hl.1 5 23 (by kernel_rfl) (by kernel_rfl)).trans (congrArg some (show y 5 =  (.int .i64 ((0 : Nat) : Int)) from hd 5 (by kernel_rfl))))
                clear hd hl hev
                replace hJ := Lib.hid hJ
                go_simp
                exact hn _ _ (Below.refl _ _) rfl
              · intro y W next hl hJ hd hn
                refine Or.inl ⟨wanted_of (j := 4) (d := 22) rfl rfl rfl ((hl.1 4 22 (by kernel_rfl) (by kernel_rfl)).trans (congrArg some (show y 4 = .bool false from hd 4 (by kernel_rfl)))), fun ev ec ef hev => ?_⟩
                have e24 : ev (.tmp 24) =  (.bool false) := hev 24 _ ((hl.1 6 24 (by kernel_rfl) (by kernel_rfl)).trans (congrArg some (show y 6 =  (.bool false) from hd 6 (by kernel_rfl))))
                clear hd hl hev
                replace hJ := Lib.hid hJ
                go_simp
                exact hn _ _ (Below.refl _ _) rfl
              · intro y W next hl hJ hd hn
                exact Or.inr ⟨wanted_not (j := 7) (d := 25) rfl rfl rfl ((hl.1 7 25 (by kernel_rfl) (by kernel_rfl)).trans (congrArg some (show y 7 = .bool false from hd 7 (by kernel_rfl)))), hn _ _ (Below.refl _ _) trivial⟩
              · intro y W next hl hJ hd hn
                exact Or.inr ⟨wanted_not (j := 7) (d := 25) rfl rfl rfl ((hl.1 7 25 (by kernel_rfl) (by kernel_rfl)).trans (congrArg some (show y 7 = .bool false from hd 7 (by kernel_rfl)))), hn _ _ (Below.refl _ _) trivial⟩
              · intro y W next hl hJ hd hn
                exact Or.inr ⟨wanted_not (j := 7) (d := 25) rfl rfl rfl ((hl.1 7 25 (by kernel_rfl) (by kernel_rfl)).trans (congrArg some (show y 7 = .bool false from hd 7 (by kernel_rfl)))), hn _ _ (Below.refl _ _) trivial⟩
              · intro y W next hl hJ hd hn
                exact Or.inr ⟨wanted_not (j := 7) (d := 25) rfl rfl rfl ((hl.1 7 25 (by kernel_rfl) (by kernel_rfl)).trans (congrArg some (show y 7 = .bool false from hd 7 (by kernel_rfl)))), hn _ _ (Below.refl _ _) trivial⟩
              · intro y W next hl hJ hd hn
                exact Or.inr ⟨wanted_not (j := 7) (d := 25) rfl rfl rfl ((hl.1 7 25 (by kernel_rfl) (by kernel_rfl)).trans (congrArg some (show y 7 = .bool false from hd 7 (by kernel_rfl)))), hn _ _ (Below.refl _ _) trivial⟩
              · intro y W next hl hJ hd hn
                exact Or.inr ⟨wanted_not (j := 7) (d := 25) rfl rfl rfl ((hl.1 7 25 (by kernel_rfl) (by kernel_rfl)).trans (congrArg some (show y 7 = .bool false from hd 7 (by kernel_rfl)))), hn _ _ (Below.refl _ _) trivial⟩
              · intro y W next hl hJ hd hn
                exact Or.inr ⟨wanted_not (j := 7) (d := 25) rfl rfl rfl ((hl.1 7 25 (by kernel_rfl) (by kernel_rfl)).trans (congrArg some (show y 7 = .bool false from hd 7 (by kernel_rfl)))), hn _ _ (Below.refl _ _) trivial⟩
              · intro y W next hl hJ hd hn
                exact Or.inr ⟨wanted_not (j := 7) (d := 25) rfl rfl rfl ((hl.1 7 25 (by kernel_rfl) (by kernel_rfl)).trans (congrArg some (show y 7 = .bool false from hd 7 (by kernel_rfl)))), hn _ _ (Below.refl _ _) trivial⟩
              · intro y W next hl hJ hd hn
                exact Or.inr ⟨wanted_not (j := 7) (d := 25) rfl rfl rfl ((hl.1 7 25 (by kernel_rfl) (by kernel_rfl)).trans (congrArg some (show y 7 = .bool false from hd 7 (by kernel_rfl)))), hn _ _ (Below.refl _ _) trivial⟩
              · intro y W next hl hJ hd hn
                refine Or.inl ⟨wanted_of (j := 4) (d := 22) rfl rfl rfl ((hl.1 4 22 (by kernel_rfl) (by kernel_rfl)).trans (congrArg some (show y 4 = .bool false from hd 4 (by kernel_rfl)))), fun ev ec ef hev => ?_⟩
                have e25 : ev (.tmp 25) =  (.bool false) := hev 25 _ ((hl.1 7 25 (by kernel_rfl) (by kernel_rfl)).trans (congrArg some (show y 7 =  (.bool false) from hd 7 (by kernel_rfl))))
                have e34 := hev 34 _ (hl.1 16 34 (by kernel_rfl) (by kernel_rfl))
                clear hd hl hev
                replace hJ := Lib.hid hJ
                go_simp
                exact hn _ _ (Below.refl _ _) rfl
              · intro y W next hl hJ hd hn
                refine Or.inl ⟨wanted_free rfl, fun ev ec ef hev => ?_⟩
                have e22 : ev (.tmp 22) =  (.bool false) := hev 22 _ ((hl.1 4 22 (by kernel_rfl) (by kernel_rfl)).trans (congrArg some (show y 4 =  (.bool false) from hd 4 (by kernel_rfl))))
                have e35 : ev (.tmp 35) =  (.bool false) := hev 35 _ ((hl.1 17 35 (by kernel_rfl) (by kernel_rfl)).trans (congrArg some (show y 17 =  (.bool false) from hd 17 (by kernel_rfl))))
                clear hd hl hev
                replace hJ := Lib.hid hJ
                go_simp
                exact hn _ _ (Below.refl _ _) rfl
              · intro y W next hl hJ hd hn
                refine Or.inl ⟨wanted_free rfl, fun ev ec ef hev => ?_⟩
                have e36 : ev (.tmp 36) =  (.bool false) := hev 36 _ ((hl.1 18 36 (by kernel_rfl) (by kernel_rfl)).trans (congrArg some (show y 18 =  (.bool false) from hd 18 (by kernel_rfl))))
                clear hd hl hev
                replace hJ := Lib.hid hJ
                go_simp
                exact hn _ _ (Below.refl _ _) rfl
              · intro y W next hl hJ hd hn
                refine Or.inl ⟨wanted_of (j := 19) (d := 37) rfl rfl rfl ((hl.1 19 37 (by kernel_rfl) (by kernel_rfl)).trans (congrArg some (show y 19 = .bool false from hd 19 (by kernel_rfl)))), fun ev ec ef hev => ?_⟩
                have e4 : ev (.tmp 4) = .pointer (some ⟨wr.heap.size, 0, none⟩) := hev 4 _ ((hl.2 4 (by kernel_rfl)).trans (by kernel_rfl))
                clear hd hl hev
                replace hJ := Lib.hid hJ
                go_simp
                exact hn _ _ (Below.refl _ _) rfl
              · intro y W next hl hJ hd hn
                refine Or.inl ⟨wanted_of (j := 19) (d := 37) rfl rfl rfl ((hl.1 19 37 (by kernel_rfl) (by kernel_rfl)).trans (congrArg some (show y 19 = .bool false from hd 19 (by kernel_rfl)))), fun ev ec ef hev => ?_⟩
                have e38 : ev (.tmp 38) =  (.pointer (some ⟨wr.heap.size, 1, none⟩)) := hev 38 _ ((hl.1 20 38 (by kernel_rfl) (by kernel_rfl)).trans (congrArg some (show y 20 =  (.pointer (some ⟨wr.heap.size, 1, none⟩)) from hd 20 (by kernel_rfl))))
                clear hd hl hev
                obtain ⟨x0, x1, x2, x3⟩ := (hbx.out.below hJ hbx.out.lt).four
                replace hJ := Lib.hid hJ
                go_simp
                exact hn _ _ (Below.refl _ _) rfl
              · intro y W next hl hJ hd hn
                refine Or.inl ⟨wanted_of (j := 19) (d := 37) rfl rfl rfl ((hl.1 19 37 (by kernel_rfl) (by kernel_rfl)).trans (congrArg some (show y 19 = .bool false from hd 19 (by kernel_rfl)))), fun ev ec ef hev => ?_⟩
                have e39 : ev (.tmp 39) =  (.int .i64 l[0].seat) := hev 39 _ ((hl.1 21 39 (by kernel_rfl) (by kernel_rfl)).trans (congrArg some (show y 21 =  (.int .i64 l[0].seat) from hd 21 (by kernel_rfl))))
                clear hd hl hev
                replace hJ := Lib.hid hJ
                go_simp
                refine (is_any _ _ _ _).mono ?_
                rintro e w' ⟨rfl, rfl⟩
                exact ⟨_, rfl, hn _ _ (Below.refl _ _) (by rw [hc2]; rfl)⟩
              · intro y W next hl hJ hd hn
                refine Or.inl ⟨wanted_of (j := 19) (d := 37) rfl rfl rfl ((hl.1 19 37 (by kernel_rfl) (by kernel_rfl)).trans (congrArg some (show y 19 = .bool false from hd 19 (by kernel_rfl)))), fun ev ec ef hev => ?_⟩
                have e40 : ev (.tmp 40) =  (.bool false) := hev 40 _ ((hl.1 22 40 (by kernel_rfl) (by kernel_rfl)).trans (congrArg some (show y 22 =  (.bool false) from hd 22 (by kernel_rfl))))
                clear hd hl hev
                replace hJ := Lib.hid hJ
                go_simp
                exact hn _ _ (Below.refl _ _) rfl
              · intro y W next hl hJ hd hn
                refine Or.inl ⟨wanted_free rfl, fun ev ec ef hev => ?_⟩
                have e37 : ev (.tmp 37) =  (.bool false) := hev 37 _ ((hl.1 19 37 (by kernel_rfl) (by kernel_rfl)).trans (congrArg some (show y 19 =  (.bool false) from hd 19 (by kernel_rfl))))
                have e41 : ev (.tmp 41) =  (.bool true) := hev 41 _ ((hl.1 23 41 (by kernel_rfl) (by kernel_rfl)).trans (congrArg some (show y 23 =  (.bool true) from hd 23 (by kernel_rfl))))
                clear hd hl hev
                replace hJ := Lib.hid hJ
                go_simp
                exact hn _ _ (Below.refl _ _) rfl
              · intro y W next hl hJ hd hn
                refine Or.inl ⟨wanted_free rfl, fun ev ec ef hev => ?_⟩
                have e42 : ev (.tmp 42) =  (.bool true) := hev 42 _ ((hl.1 24 42 (by kernel_rfl) (by kernel_rfl)).trans (congrArg some (show y 24 =  (.bool true) from hd 24 (by kernel_rfl))))
                clear hd hl hev
                replace hJ := Lib.hid hJ
                go_simp
                exact hn _ _ (Below.refl _ _) rfl
              · intro y W next hl hJ hd hn
                exact Or.inr ⟨wanted_not (j := 25) (d := 43) rfl rfl rfl ((hl.1 25 43 (by kernel_rfl) (by kernel_rfl)).trans (congrArg some (show y 25 = .bool true from hd 25 (by kernel_rfl)))), hn _ _ (Below.refl _ _) trivial⟩
              · intro y W next hl hJ hd hn
                exact Or.inr ⟨wanted_not (j := 25) (d := 43) rfl rfl rfl ((hl.1 25 43 (by kernel_rfl) (by kernel_rfl)).trans (congrArg some (show y 25 = .bool true from hd 25 (by kernel_rfl)))), hn _ _ (Below.refl _ _) trivial⟩
              · intro y W next hl hJ hd hn
                exact Or.inr ⟨wanted_not (j := 25) (d := 43) rfl rfl rfl ((hl.1 25 43 (by kernel_rfl) (by kernel_rfl)).trans (congrArg some (show y 25 = .bool true from hd 25 (by kernel_rfl)))), hn _ _ (Below.refl _ _) trivial⟩
              · intro y W next hl hJ hd hn
                exact Or.inr ⟨wanted_not (j := 25) (d := 43) rfl rfl rfl ((hl.1 25 43 (by kernel_rfl) (by kernel_rfl)).trans (congrArg some (show y 25 = .bool true from hd 25 (by kernel_rfl)))), hn _ _ (Below.refl _ _) trivial⟩
              · intro y W next hl hJ hd hn
                refine Or.inl ⟨wanted_free rfl, fun ev ec ef hev => ?_⟩
                have e43 : ev (.tmp 43) =  (.bool true) := hev 43 _ ((hl.1 25 43 (by kernel_rfl) (by kernel_rfl)).trans (congrArg some (show y 25 =  (.bool true) from hd 25 (by kernel_rfl))))
                have e47 := hev 47 _ (hl.1 29 47 (by kernel_rfl) (by kernel_rfl))
                clear hd hl hev
                replace hJ := Lib.hid hJ
                go_simp
                exact hn _ _ (Below.refl _ _) rfl
              · intro y W next hl hJ hd hn
                refine Or.inl ⟨wanted_free rfl, fun ev ec ef hev => ?_⟩
                have e48 : ev (.tmp 48) =  (.bool true) := hev 48 _ ((hl.1 30 48 (by kernel_rfl) (by kernel_rfl)).trans (congrArg some (show y 30 =  (.bool true) from hd 30 (by kernel_rfl))))
                clear hd hl hev
                replace hJ := Lib.hid hJ
                go_simp
                exact hn _ _ (Below.refl _ _) rfl
              · intro y W next hl hJ hd hn
                exact Or.inr ⟨wanted_not (j := 31) (d := 49) rfl rfl rfl ((hl.1 31 49 (by kernel_rfl) (by kernel_rfl)).trans (congrArg some (show y 31 = .bool true from hd 31 (by kernel_rfl)))), hn _ _ (Below.refl _ _) trivial⟩
              · intro y W next hl hJ hd hn
                exact Or.inr ⟨wanted_not (j := 31) (d := 49) rfl rfl rfl ((hl.1 31 49 (by kernel_rfl) (by kernel_rfl)).trans (congrArg some (show y 31 = .bool true from hd 31 (by kernel_rfl)))), hn _ _ (Below.refl _ _) trivial⟩
              · intro y W next hl hJ hd hn
                exact Or.inr ⟨wanted_not (j := 31) (d := 49) rfl rfl rfl ((hl.1 31 49 (by kernel_rfl) (by kernel_rfl)).trans (congrArg some (show y 31 = .bool true from hd 31 (by kernel_rfl)))), hn _ _ (Below.refl _ _) trivial⟩
              · intro y W next hl hJ hd hn
                exact Or.inr ⟨wanted_not (j := 31) (d := 49) rfl rfl rfl ((hl.1 31 49 (by kernel_rfl) (by kernel_rfl)).trans (congrArg some (show y 31 = .bool true from hd 31 (by kernel_rfl)))), hn _ _ (Below.refl _ _) trivial⟩
              · intro y W next hl hJ hd hn
                refine Or.inl ⟨wanted_free rfl, fun ev ec ef hev => ?_⟩
                have e49 : ev (.tmp 49) =  (.bool true) := hev 49 _ ((hl.1 31 49 (by kernel_rfl) (by kernel_rfl)).trans (congrArg some (show y 31 =  (.bool true) from hd 31 (by kernel_rfl))))
                have e53 := hev 53 _ (hl.1 35 53 (by kernel_rfl) (by kernel_rfl))
                clear hd hl hev
                replace hJ := Lib.hid hJ
                go_simp
                exact hn _ _ (Below.refl _ _) rfl

              · intro y W hb3 hall
                have hy : y 36 = .bool true := hall 36 (by decide)
                replace hb2 := Lib.hid (below_then hb2.out hb3 (Nat.le_refl _))
                clear hall hb3
                simp only [lay_cons, lay_nil]
                rw [hy]
                clear hy
                simp only [Act.put, List.setIfInBounds_toArray]
                simp only [List.set_cons_succ, List.set_cons_zero]
                go_wp2
                go_ret
                exact ⟨by rw [hbad.out]; rfl, hb2.out⟩
            | true =>
              cases hc3 : wordB l[0].word.data.toList with
              | false =>
                simp only [Nat.zero_mul, Nat.add_zero] at c0 c1 c2 c3
                have hbad := Lib.hid (vaultB_bad hlt (okAt_bad hlt (show secOk l[0] = false by rw [secOk_eq, hc1, hc2, hc3]; rfl)))
                clear hup
                obtain ⟨V, hV⟩ : ∃ V, V = wr.alloc (.cells #[.string l[0].name, .int .i64 l[0].seat, .string l[0].word, .string l[0].prompt] 100) := ⟨_, rfl⟩
                have hbx := Lib.hid (box4 (w := wr) l[0] 100)
                rw [← hV] at hbx
                have hb2 := Lib.hid (show Below w.heap.size w V by rw [hV]; exact hb.out.alloc hb.out.size _)
                go_wp2
                rw [← hV]
                replace hsecs := Lib.hid (show Secs V (.slice (some ⟨b, off, none⟩) l.length cap) l by rw [hV]; exact hsecs.out.alloc _)
                clear hV c0 c1 c2 c3
                refine wp_region_known [(.is (.pointer (some ⟨wr.heap.size, 0, none⟩))), (.is (.string l[0].name)), (.is (.bool true)), (.is (.bool false)), (.is (.bool false)), (.is (.int .i64 ((0 : Nat) : Int))), (.is (.bool false)), (.is (.bool false)), .any, .any, .any, .any, .any, .any, .any, .any, .any, (.is (.bool false)), (.is (.bool false)), (.is (.bool false)), (.is (.pointer (some ⟨wr.heap.size, 1, none⟩))), (.is (.int .i64 l[0].seat)), (.is (.bool true)), (.is (.bool false)), (.is (.bool false)), (.is (.bool false)), (.is (.pointer (some ⟨wr.heap.size, 2, none⟩))), (.is (.string l[0].word)), (.is (.bool false)), (.is (.bool true)), (.is (.bool true)), (.is (.bool true)), .any, .any, .any, .any, (.is (.bool true))] (by kernel_rfl) (by kernel_rfl) (by kernel_rfl) ⟨?_, ?_, ?_, ?_, ?_, ?_, ?_, ?_, ?_, ?_, ?_, ?_, ?_, ?_, ?_, ?_, ?_, ?_, ?_, ?_, ?_, ?_, ?_, ?_, ?_, ?_, ?_, ?_, ?_, ?_, ?_, ?_, ?_, ?_, ?_, ?_, ?_, trivial⟩ ?_
                · intro y W next hl hJ hd hn
                  refine Or.inl ⟨wanted_free rfl, fun ev ec ef hev => ?_⟩
                  have e4 : ev (.tmp 4) = .pointer (some ⟨wr.heap.size, 0, none⟩) := hev 4 _ ((hl.2 4 (by kernel_rfl)).trans (by kernel_rfl))
                  clear hd hl hev
                  replace hJ := Lib.hid hJ
                  go_simp
                  exact hn _ _ (Below.refl _ _) rfl
                · intro y W next hl hJ hd hn
                  refine Or.inl ⟨wanted_free rfl, fun ev ec ef hev => ?_⟩
                  have e18 : ev (.tmp 18) =  (.pointer (some ⟨wr.heap.size, 0, none⟩)) := hev 18 _ ((hl.1 0 18 (by kernel_rfl) (by kernel_rfl)).trans (congrArg some (show y 0 =  (.pointer (some ⟨wr.heap.size, 0, none⟩)) from hd 0 (by kernel_rfl))))
                  clear hd hl hev
                  obtain ⟨x0, x1, x2, x3⟩ := (hbx.out.below hJ hbx.out.lt).four
                  replace hJ := Lib.hid hJ
                  go_simp
                  exact hn _ _ (Below.refl _ _) rfl
                · intro y W next hl hJ hd hn
                  refine Or.inl ⟨wanted_free rfl, fun ev ec ef hev => ?_⟩
                  have e19 : ev (.tmp 19) =  (.string l[0].name) := hev 19 _ ((hl.1 1 19 (by kernel_rfl) (by kernel_rfl)).trans (congrArg some (show y 1 =  (.string l[0].name) from hd 1 (by kernel_rfl))))
                  clear hd hl hev
                  replace hJ := Lib.hid hJ
                  go_simp
                  refine (specWord_any _ hwf.out.1 _).mono ?_
                  rintro e w' ⟨rfl, rfl⟩
                  exact ⟨_, rfl, hn _ _ (Below.refl _ _) (by rw [hc1]; rfl)⟩
                · intro y W next hl hJ hd hn
                  refine Or.inl ⟨wanted_free rfl, fun ev ec ef hev => ?_⟩
                  have e20 : ev (.tmp 20) =  (.bool true) := hev 20 _ ((hl.1 2 20 (by kernel_rfl) (by kernel_rfl)).trans (congrArg some (show y 2 =  (.bool true) from hd 2 (by kernel_rfl))))
                  clear hd hl hev
                  replace hJ := Lib.hid hJ
                  go_simp
                  exact hn _ _ (Below.refl _ _) rfl
                · intro y W next hl hJ hd hn
                  refine Or.inl ⟨wanted_free rfl, fun ev ec ef hev => ?_⟩
                  have e21 : ev (.tmp 21) =  (.bool false) := hev 21 _ ((hl.1 3 21 (by kernel_rfl) (by kernel_rfl)).trans (congrArg some (show y 3 =  (.bool false) from hd 3 (by kernel_rfl))))
                  clear hd hl hev
                  replace hJ := Lib.hid hJ
                  go_simp
                  exact hn _ _ (Below.refl _ _) rfl
                · intro y W next hl hJ hd hn
                  refine Or.inl ⟨wanted_of (j := 4) (d := 22) rfl rfl rfl ((hl.1 4 22 (by kernel_rfl) (by kernel_rfl)).trans (congrArg some (show y 4 = .bool false from hd 4 (by kernel_rfl)))), fun ev ec ef hev => ?_⟩
                  have e3 : ev (.tmp 3) = .int .i64 ((0 : Nat) : Int) := hev 3 _ ((hl.2 3 (by kernel_rfl)).trans (by kernel_rfl))
                  clear hd hl hev
                  replace hJ := Lib.hid hJ
                  go_simp
                  exact hn _ _ (Below.refl _ _) rfl
                · intro y W next hl hJ hd hn
                  refine Or.inl ⟨wanted_of (j := 4) (d := 22) rfl rfl rfl ((hl.1 4 22 (by kernel_rfl) (by kernel_rfl)).trans (congrArg some (show y 4 = .bool false from hd 4 (by kernel_rfl)))), fun ev ec ef hev => ?_⟩
                  have e23 : ev (.tmp 23) =  (.int .i64 ((0 : Nat) : Int)) := hev 23 _ ((hl.1 5 23 (by kernel_rfl) (by kernel_rfl)).trans (congrArg some (show y 5 =  (.int .i64 ((0 : Nat) : Int)) from hd 5 (by kernel_rfl))))
                  clear hd hl hev
                  replace hJ := Lib.hid hJ
                  go_simp
                  exact hn _ _ (Below.refl _ _) rfl
                · intro y W next hl hJ hd hn
                  refine Or.inl ⟨wanted_of (j := 4) (d := 22) rfl rfl rfl ((hl.1 4 22 (by kernel_rfl) (by kernel_rfl)).trans (congrArg some (show y 4 = .bool false from hd 4 (by kernel_rfl)))), fun ev ec ef hev => ?_⟩
                  have e24 : ev (.tmp 24) =  (.bool false) := hev 24 _ ((hl.1 6 24 (by kernel_rfl) (by kernel_rfl)).trans (congrArg some (show y 6 =  (.bool false) from hd 6 (by kernel_rfl))))
                  clear hd hl hev
                  replace hJ := Lib.hid hJ
                  go_simp
                  exact hn _ _ (Below.refl _ _) rfl
                · intro y W next hl hJ hd hn
                  exact Or.inr ⟨wanted_not (j := 7) (d := 25) rfl rfl rfl ((hl.1 7 25 (by kernel_rfl) (by kernel_rfl)).trans (congrArg some (show y 7 = .bool false from hd 7 (by kernel_rfl)))), hn _ _ (Below.refl _ _) trivial⟩
                · intro y W next hl hJ hd hn
                  exact Or.inr ⟨wanted_not (j := 7) (d := 25) rfl rfl rfl ((hl.1 7 25 (by kernel_rfl) (by kernel_rfl)).trans (congrArg some (show y 7 = .bool false from hd 7 (by kernel_rfl)))), hn _ _ (Below.refl _ _) trivial⟩
                · intro y W next hl hJ hd hn
                  exact Or.inr ⟨wanted_not (j := 7) (d := 25) rfl rfl rfl ((hl.1 7 25 (by kernel_rfl) (by kernel_rfl)).trans (congrArg some (show y 7 = .bool false from hd 7 (by kernel_rfl)))), hn _ _ (Below.refl _ _) trivial⟩
                · intro y W next hl hJ hd hn
                  exact Or.inr ⟨wanted_not (j := 7) (d := 25) rfl rfl rfl ((hl.1 7 25 (by kernel_rfl) (by kernel_rfl)).trans (congrArg some (show y 7 = .bool false from hd 7 (by kernel_rfl)))), hn _ _ (Below.refl _ _) trivial⟩
                · intro y W next hl hJ hd hn
                  exact Or.inr ⟨wanted_not (j := 7) (d := 25) rfl rfl rfl ((hl.1 7 25 (by kernel_rfl) (by kernel_rfl)).trans (congrArg some (show y 7 = .bool false from hd 7 (by kernel_rfl)))), hn _ _ (Below.refl _ _) trivial⟩
                · intro y W next hl hJ hd hn
                  exact Or.inr ⟨wanted_not (j := 7) (d := 25) rfl rfl rfl ((hl.1 7 25 (by kernel_rfl) (by kernel_rfl)).trans (congrArg some (show y 7 = .bool false from hd 7 (by kernel_rfl)))), hn _ _ (Below.refl _ _) trivial⟩
                · intro y W next hl hJ hd hn
                  exact Or.inr ⟨wanted_not (j := 7) (d := 25) rfl rfl rfl ((hl.1 7 25 (by kernel_rfl) (by kernel_rfl)).trans (congrArg some (show y 7 = .bool false from hd 7 (by kernel_rfl)))), hn _ _ (Below.refl _ _) trivial⟩
                · intro y W next hl hJ hd hn
                  exact Or.inr ⟨wanted_not (j := 7) (d := 25) rfl rfl rfl ((hl.1 7 25 (by kernel_rfl) (by kernel_rfl)).trans (congrArg some (show y 7 = .bool false from hd 7 (by kernel_rfl)))), hn _ _ (Below.refl _ _) trivial⟩
                · intro y W next hl hJ hd hn
                  exact Or.inr ⟨wanted_not (j := 7) (d := 25) rfl rfl rfl ((hl.1 7 25 (by kernel_rfl) (by kernel_rfl)).trans (congrArg some (show y 7 = .bool false from hd 7 (by kernel_rfl)))), hn _ _ (Below.refl _ _) trivial⟩
                · intro y W next hl hJ hd hn
                  refine Or.inl ⟨wanted_of (j := 4) (d := 22) rfl rfl rfl ((hl.1 4 22 (by kernel_rfl) (by kernel_rfl)).trans (congrArg some (show y 4 = .bool false from hd 4 (by kernel_rfl)))), fun ev ec ef hev => ?_⟩
                  have e25 : ev (.tmp 25) =  (.bool false) := hev 25 _ ((hl.1 7 25 (by kernel_rfl) (by kernel_rfl)).trans (congrArg some (show y 7 =  (.bool false) from hd 7 (by kernel_rfl))))
                  have e34 := hev 34 _ (hl.1 16 34 (by kernel_rfl) (by kernel_rfl))
                  clear hd hl hev
                  replace hJ := Lib.hid hJ
                  go_simp
                  exact hn _ _ (Below.refl _ _) rfl
                · intro y W next hl hJ hd hn
                  refine Or.inl ⟨wanted_free rfl, fun ev ec ef hev => ?_⟩
                  have e22 : ev (.tmp 22) =  (.bool false) := hev 22 _ ((hl.1 4 22 (by kernel_rfl) (by kernel_rfl)).trans (congrArg some (show y 4 =  (.bool false) from hd 4 (by kernel_rfl))))
                  have e35 : ev (.tmp 35) =  (.bool false) := hev 35 _ ((hl.1 17 35 (by kernel_rfl) (by kernel_rfl)).trans (congrArg some (show y 17 =  (.bool false) from hd 17 (by kernel_rfl))))
                  clear hd hl hev
                  replace hJ := Lib.hid hJ
                  go_simp
                  exact hn _ _ (Below.refl _ _) rfl
                · intro y W next hl hJ hd hn
                  refine Or.inl ⟨wanted_free rfl, fun ev ec ef hev => ?_⟩
                  have e36 : ev (.tmp 36) =  (.bool false) := hev 36 _ ((hl.1 18 36 (by kernel_rfl) (by kernel_rfl)).trans (congrArg some (show y 18 =  (.bool false) from hd 18 (by kernel_rfl))))
                  clear hd hl hev
                  replace hJ := Lib.hid hJ
                  go_simp
                  exact hn _ _ (Below.refl _ _) rfl
                · intro y W next hl hJ hd hn
                  refine Or.inl ⟨wanted_of (j := 19) (d := 37) rfl rfl rfl ((hl.1 19 37 (by kernel_rfl) (by kernel_rfl)).trans (congrArg some (show y 19 = .bool false from hd 19 (by kernel_rfl)))), fun ev ec ef hev => ?_⟩
                  have e4 : ev (.tmp 4) = .pointer (some ⟨wr.heap.size, 0, none⟩) := hev 4 _ ((hl.2 4 (by kernel_rfl)).trans (by kernel_rfl))
                  clear hd hl hev
                  replace hJ := Lib.hid hJ
                  go_simp
                  exact hn _ _ (Below.refl _ _) rfl
                · intro y W next hl hJ hd hn
                  refine Or.inl ⟨wanted_of (j := 19) (d := 37) rfl rfl rfl ((hl.1 19 37 (by kernel_rfl) (by kernel_rfl)).trans (congrArg some (show y 19 = .bool false from hd 19 (by kernel_rfl)))), fun ev ec ef hev => ?_⟩
                  have e38 : ev (.tmp 38) =  (.pointer (some ⟨wr.heap.size, 1, none⟩)) := hev 38 _ ((hl.1 20 38 (by kernel_rfl) (by kernel_rfl)).trans (congrArg some (show y 20 =  (.pointer (some ⟨wr.heap.size, 1, none⟩)) from hd 20 (by kernel_rfl))))
                  clear hd hl hev
                  obtain ⟨x0, x1, x2, x3⟩ := (hbx.out.below hJ hbx.out.lt).four
                  replace hJ := Lib.hid hJ
                  go_simp
                  exact hn _ _ (Below.refl _ _) rfl
                · intro y W next hl hJ hd hn
                  refine Or.inl ⟨wanted_of (j := 19) (d := 37) rfl rfl rfl ((hl.1 19 37 (by kernel_rfl) (by kernel_rfl)).trans (congrArg some (show y 19 = .bool false from hd 19 (by kernel_rfl)))), fun ev ec ef hev => ?_⟩
                  have e39 : ev (.tmp 39) =  (.int .i64 l[0].seat) := hev 39 _ ((hl.1 21 39 (by kernel_rfl) (by kernel_rfl)).trans (congrArg some (show y 21 =  (.int .i64 l[0].seat) from hd 21 (by kernel_rfl))))
                  clear hd hl hev
                  replace hJ := Lib.hid hJ
                  go_simp
                  refine (is_any _ _ _ _).mono ?_
                  rintro e w' ⟨rfl, rfl⟩
                  exact ⟨_, rfl, hn _ _ (Below.refl _ _) (by rw [hc2]; rfl)⟩
                · intro y W next hl hJ hd hn
                  refine Or.inl ⟨wanted_of (j := 19) (d := 37) rfl rfl rfl ((hl.1 19 37 (by kernel_rfl) (by kernel_rfl)).trans (congrArg some (show y 19 = .bool false from hd 19 (by kernel_rfl)))), fun ev ec ef hev => ?_⟩
                  have e40 : ev (.tmp 40) =  (.bool true) := hev 40 _ ((hl.1 22 40 (by kernel_rfl) (by kernel_rfl)).trans (congrArg some (show y 22 =  (.bool true) from hd 22 (by kernel_rfl))))
                  clear hd hl hev
                  replace hJ := Lib.hid hJ
                  go_simp
                  exact hn _ _ (Below.refl _ _) rfl
                · intro y W next hl hJ hd hn
                  refine Or.inl ⟨wanted_free rfl, fun ev ec ef hev => ?_⟩
                  have e37 : ev (.tmp 37) =  (.bool false) := hev 37 _ ((hl.1 19 37 (by kernel_rfl) (by kernel_rfl)).trans (congrArg some (show y 19 =  (.bool false) from hd 19 (by kernel_rfl))))
                  have e41 : ev (.tmp 41) =  (.bool false) := hev 41 _ ((hl.1 23 41 (by kernel_rfl) (by kernel_rfl)).trans (congrArg some (show y 23 =  (.bool false) from hd 23 (by kernel_rfl))))
                  clear hd hl hev
                  replace hJ := Lib.hid hJ
                  go_simp
                  exact hn _ _ (Below.refl _ _) rfl
                · intro y W next hl hJ hd hn
                  refine Or.inl ⟨wanted_free rfl, fun ev ec ef hev => ?_⟩
                  have e42 : ev (.tmp 42) =  (.bool false) := hev 42 _ ((hl.1 24 42 (by kernel_rfl) (by kernel_rfl)).trans (congrArg some (show y 24 =  (.bool false) from hd 24 (by kernel_rfl))))
                  clear hd hl hev
                  replace hJ := Lib.hid hJ
                  go_simp
                  exact hn _ _ (Below.refl _ _) rfl
                · intro y W next hl hJ hd hn
                  refine Or.inl ⟨wanted_of (j := 25) (d := 43) rfl rfl rfl ((hl.1 25 43 (by kernel_rfl) (by kernel_rfl)).trans (congrArg some (show y 25 = .bool false from hd 25 (by kernel_rfl)))), fun ev ec ef hev => ?_⟩
                  have e4 : ev (.tmp 4) = .pointer (some ⟨wr.heap.size, 0, none⟩) := hev 4 _ ((hl.2 4 (by kernel_rfl)).trans (by kernel_rfl))
                  clear hd hl hev
                  replace hJ := Lib.hid hJ
                  go_simp
                  exact hn _ _ (Below.refl _ _) rfl
                · intro y W next hl hJ hd hn
                  refine Or.inl ⟨wanted_of (j := 25) (d := 43) rfl rfl rfl ((hl.1 25 43 (by kernel_rfl) (by kernel_rfl)).trans (congrArg some (show y 25 = .bool false from hd 25 (by kernel_rfl)))), fun ev ec ef hev => ?_⟩
                  have e44 : ev (.tmp 44) =  (.pointer (some ⟨wr.heap.size, 2, none⟩)) := hev 44 _ ((hl.1 26 44 (by kernel_rfl) (by kernel_rfl)).trans (congrArg some (show y 26 =  (.pointer (some ⟨wr.heap.size, 2, none⟩)) from hd 26 (by kernel_rfl))))
                  clear hd hl hev
                  obtain ⟨x0, x1, x2, x3⟩ := (hbx.out.below hJ hbx.out.lt).four
                  replace hJ := Lib.hid hJ
                  go_simp
                  exact hn _ _ (Below.refl _ _) rfl
                · intro y W next hl hJ hd hn
                  refine Or.inl ⟨wanted_of (j := 25) (d := 43) rfl rfl rfl ((hl.1 25 43 (by kernel_rfl) (by kernel_rfl)).trans (congrArg some (show y 25 = .bool false from hd 25 (by kernel_rfl)))), fun ev ec ef hev => ?_⟩
                  have e45 : ev (.tmp 45) =  (.string l[0].word) := hev 45 _ ((hl.1 27 45 (by kernel_rfl) (by kernel_rfl)).trans (congrArg some (show y 27 =  (.string l[0].word) from hd 27 (by kernel_rfl))))
                  clear hd hl hev
                  replace hJ := Lib.hid hJ
                  go_simp
                  refine (specWord_any _ hwf.out.2.1 _).mono ?_
                  rintro e w' ⟨rfl, rfl⟩
                  exact ⟨_, rfl, hn _ _ (Below.refl _ _) (by rw [hc3]; rfl)⟩
                · intro y W next hl hJ hd hn
                  refine Or.inl ⟨wanted_of (j := 25) (d := 43) rfl rfl rfl ((hl.1 25 43 (by kernel_rfl) (by kernel_rfl)).trans (congrArg some (show y 25 = .bool false from hd 25 (by kernel_rfl)))), fun ev ec ef hev => ?_⟩
                  have e46 : ev (.tmp 46) =  (.bool false) := hev 46 _ ((hl.1 28 46 (by kernel_rfl) (by kernel_rfl)).trans (congrArg some (show y 28 =  (.bool false) from hd 28 (by kernel_rfl))))
                  clear hd hl hev
                  replace hJ := Lib.hid hJ
                  go_simp
                  exact hn _ _ (Below.refl _ _) rfl
                · intro y W next hl hJ hd hn
                  refine Or.inl ⟨wanted_free rfl, fun ev ec ef hev => ?_⟩
                  have e43 : ev (.tmp 43) =  (.bool false) := hev 43 _ ((hl.1 25 43 (by kernel_rfl) (by kernel_rfl)).trans (congrArg some (show y 25 =  (.bool false) from hd 25 (by kernel_rfl))))
                  have e47 : ev (.tmp 47) =  (.bool true) := hev 47 _ ((hl.1 29 47 (by kernel_rfl) (by kernel_rfl)).trans (congrArg some (show y 29 =  (.bool true) from hd 29 (by kernel_rfl))))
                  clear hd hl hev
                  replace hJ := Lib.hid hJ
                  go_simp
                  exact hn _ _ (Below.refl _ _) rfl
                · intro y W next hl hJ hd hn
                  refine Or.inl ⟨wanted_free rfl, fun ev ec ef hev => ?_⟩
                  have e48 : ev (.tmp 48) =  (.bool true) := hev 48 _ ((hl.1 30 48 (by kernel_rfl) (by kernel_rfl)).trans (congrArg some (show y 30 =  (.bool true) from hd 30 (by kernel_rfl))))
                  clear hd hl hev
                  replace hJ := Lib.hid hJ
                  go_simp
                  exact hn _ _ (Below.refl _ _) rfl
                · intro y W next hl hJ hd hn
                  exact Or.inr ⟨wanted_not (j := 31) (d := 49) rfl rfl rfl ((hl.1 31 49 (by kernel_rfl) (by kernel_rfl)).trans (congrArg some (show y 31 = .bool true from hd 31 (by kernel_rfl)))), hn _ _ (Below.refl _ _) trivial⟩
                · intro y W next hl hJ hd hn
                  exact Or.inr ⟨wanted_not (j := 31) (d := 49) rfl rfl rfl ((hl.1 31 49 (by kernel_rfl) (by kernel_rfl)).trans (congrArg some (show y 31 = .bool true from hd 31 (by kernel_rfl)))), hn _ _ (Below.refl _ _) trivial⟩
                · intro y W next hl hJ hd hn
                  exact Or.inr ⟨wanted_not (j := 31) (d := 49) rfl rfl rfl ((hl.1 31 49 (by kernel_rfl) (by kernel_rfl)).trans (congrArg some (show y 31 = .bool true from hd 31 (by kernel_rfl)))), hn _ _ (Below.refl _ _) trivial⟩
                · intro y W next hl hJ hd hn
                  exact Or.inr ⟨wanted_not (j := 31) (d := 49) rfl rfl rfl ((hl.1 31 49 (by kernel_rfl) (by kernel_rfl)).trans (congrArg some (show y 31 = .bool true from hd 31 (by kernel_rfl)))), hn _ _ (Below.refl _ _) trivial⟩
                · intro y W next hl hJ hd hn
                  refine Or.inl ⟨wanted_free rfl, fun ev ec ef hev => ?_⟩
                  have e49 : ev (.tmp 49) =  (.bool true) := hev 49 _ ((hl.1 31 49 (by kernel_rfl) (by kernel_rfl)).trans (congrArg some (show y 31 =  (.bool true) from hd 31 (by kernel_rfl))))
                  have e53 := hev 53 _ (hl.1 35 53 (by kernel_rfl) (by kernel_rfl))
                  clear hd hl hev
                  replace hJ := Lib.hid hJ
                  go_simp
                  exact hn _ _ (Below.refl _ _) rfl

                · intro y W hb3 hall
                  have hy : y 36 = .bool true := hall 36 (by decide)
                  replace hb2 := Lib.hid (below_then hb2.out hb3 (Nat.le_refl _))
                  clear hall hb3
                  simp only [lay_cons, lay_nil]
                  rw [hy]
                  clear hy
                  simp only [Act.put, List.setIfInBounds_toArray]
                  simp only [List.set_cons_succ, List.set_cons_zero]
                  go_wp2
                  go_ret
                  exact ⟨by rw [hbad.out]; rfl, hb2.out⟩
              | true =>
                cases hc4 : globOk l[0].prompt.data.toList with
                | false =>
                  simp only [Nat.zero_mul, Nat.add_zero] at c0 c1 c2 c3
                  have hbad := Lib.hid (vaultB_bad hlt (okAt_bad hlt (show secOk l[0] = false by rw [secOk_eq, hc1, hc2, hc3, hc4]; rfl)))
                  clear hup
                  obtain ⟨V, hV⟩ : ∃ V, V = wr.alloc (.cells #[.string l[0].name, .int .i64 l[0].seat, .string l[0].word, .string l[0].prompt] 100) := ⟨_, rfl⟩
                  have hbx := Lib.hid (box4 (w := wr) l[0] 100)
                  rw [← hV] at hbx
                  have hb2 := Lib.hid (show Below w.heap.size w V by rw [hV]; exact hb.out.alloc hb.out.size _)
                  go_wp2
                  rw [← hV]
                  replace hsecs := Lib.hid (show Secs V (.slice (some ⟨b, off, none⟩) l.length cap) l by rw [hV]; exact hsecs.out.alloc _)
                  clear hV c0 c1 c2 c3
                  refine wp_region_known [(.is (.pointer (some ⟨wr.heap.size, 0, none⟩))), (.is (.string l[0].name)), (.is (.bool true)), (.is (.bool false)), (.is (.bool false)), (.is (.int .i64 ((0 : Nat) : Int))), (.is (.bool false)), (.is (.bool false)), .any, .any, .any, .any, .any, .any, .any, .any, .any, (.is (.bool false)), (.is (.bool false)), (.is (.bool false)), (.is (.pointer (some ⟨wr.heap.size, 1, none⟩))), (.is (.int .i64 l[0].seat)), (.is (.bool true)), (.is (.bool false)), (.is (.bool false)), (.is (.bool false)), (.is (.pointer (some ⟨wr.heap.size, 2, none⟩))), (.is (.string l[0].word)), (.is (.bool true)), (.is (.bool false)), (.is (.bool false)), (.is (.bool false)), (.is (.pointer (some ⟨wr.heap.size, 3, none⟩))), (.is (.string l[0].prompt)), (.is (.bool false)), (.is (.bool true)), (.is (.bool true))] (by kernel_rfl) (by kernel_rfl) (by kernel_rfl) ⟨?_, ?_, ?_, ?_, ?_, ?_, ?_, ?_, ?_, ?_, ?_, ?_, ?_, ?_, ?_, ?_, ?_, ?_, ?_, ?_, ?_, ?_, ?_, ?_, ?_, ?_, ?_, ?_, ?_, ?_, ?_, ?_, ?_, ?_, ?_, ?_, ?_, trivial⟩ ?_
                  · intro y W next hl hJ hd hn
                    refine Or.inl ⟨wanted_free rfl, fun ev ec ef hev => ?_⟩
                    have e4 : ev (.tmp 4) = .pointer (some ⟨wr.heap.size, 0, none⟩) := hev 4 _ ((hl.2 4 (by kernel_rfl)).trans (by kernel_rfl))
                    clear hd hl hev
                    replace hJ := Lib.hid hJ
                    go_simp
                    exact hn _ _ (Below.refl _ _) rfl
                  · intro y W next hl hJ hd hn
                    refine Or.inl ⟨wanted_free rfl, fun ev ec ef hev => ?_⟩
                    have e18 : ev (.tmp 18) =  (.pointer (some ⟨wr.heap.size, 0, none⟩)) := hev 18 _ ((hl.1 0 18 (by kernel_rfl) (by kernel_rfl)).trans (congrArg some (show y 0 =  (.pointer (some ⟨wr.heap.size, 0, none⟩)) from hd 0 (by kernel_rfl))))
                    clear hd hl hev
                    obtain ⟨x0, x1, x2, x3⟩ := (hbx.out.below hJ hbx.out.lt).four
                    replace hJ := Lib.hid hJ
                    go_simp
                    exact hn _ _ (Below.refl _ _) rfl
                  · intro y W next hl hJ hd hn
                    refine Or.inl ⟨wanted_free rfl, fun ev ec ef hev => ?_⟩
                    have e19 : ev (.tmp 19) =  (.string l[0].name) := hev 19 _ ((hl.1 1 19 (by kernel_rfl) (by kernel_rfl)).trans (congrArg some (show y 1 =  (.string l[0].name) from hd 1 (by kernel_rfl))))
                    clear hd hl hev
                    replace hJ := Lib.hid hJ
                    go_simp
                    refine (specWord_any _ hwf.out.1 _).mono ?_
                    rintro e w' ⟨rfl, rfl⟩
                    exact ⟨_, rfl, hn _ _ (Below.refl _ _) (by rw [hc1]; rfl)⟩
                  · intro y W next hl hJ hd hn
                    refine Or.inl ⟨wanted_free rfl, fun ev ec ef hev => ?_⟩
                    have e20 : ev (.tmp 20) =  (.bool true) := hev 20 _ ((hl.1 2 20 (by kernel_rfl) (by kernel_rfl)).trans (congrArg some (show y 2 =  (.bool true) from hd 2 (by kernel_rfl))))
                    clear hd hl hev
                    replace hJ := Lib.hid hJ
                    go_simp
                    exact hn _ _ (Below.refl _ _) rfl
                  · intro y W next hl hJ hd hn
                    refine Or.inl ⟨wanted_free rfl, fun ev ec ef hev => ?_⟩
                    have e21 : ev (.tmp 21) =  (.bool false) := hev 21 _ ((hl.1 3 21 (by kernel_rfl) (by kernel_rfl)).trans (congrArg some (show y 3 =  (.bool false) from hd 3 (by kernel_rfl))))
                    clear hd hl hev
                    replace hJ := Lib.hid hJ
                    go_simp
                    exact hn _ _ (Below.refl _ _) rfl
                  · intro y W next hl hJ hd hn
                    refine Or.inl ⟨wanted_of (j := 4) (d := 22) rfl rfl rfl ((hl.1 4 22 (by kernel_rfl) (by kernel_rfl)).trans (congrArg some (show y 4 = .bool false from hd 4 (by kernel_rfl)))), fun ev ec ef hev => ?_⟩
                    have e3 : ev (.tmp 3) = .int .i64 ((0 : Nat) : Int) := hev 3 _ ((hl.2 3 (by kernel_rfl)).trans (by kernel_rfl))
                    clear hd hl hev
                    replace hJ := Lib.hid hJ
                    go_simp
                    exact hn _ _ (Below.refl _ _) rfl
                  · intro y W next hl hJ hd hn
                    refine Or.inl ⟨wanted_of (j := 4) (d := 22) rfl rfl rfl ((hl.1 4 22 (by kernel_rfl) (by kernel_rfl)).trans (congrArg some (show y 4 = .bool false from hd 4 (by kernel_rfl)))), fun ev ec ef hev => ?_⟩
                    have e23 : ev (.tmp 23) =  (.int .i64 ((0 : Nat) : Int)) := hev 23 _ ((hl.1 5 23 (by kernel_rfl) (by kernel_rfl)).trans (congrArg some (show y 5 =  (.int .i64 ((0 : Nat) : Int)) from hd 5 (by kernel_rfl))))
                    clear hd hl hev
                    replace hJ := Lib.hid hJ
                    go_simp
                    exact hn _ _ (Below.refl _ _) rfl
                  · intro y W next hl hJ hd hn
                    refine Or.inl ⟨wanted_of (j := 4) (d := 22) rfl rfl rfl ((hl.1 4 22 (by kernel_rfl) (by kernel_rfl)).trans (congrArg some (show y 4 = .bool false from hd 4 (by kernel_rfl)))), fun ev ec ef hev => ?_⟩
                    have e24 : ev (.tmp 24) =  (.bool false) := hev 24 _ ((hl.1 6 24 (by kernel_rfl) (by kernel_rfl)).trans (congrArg some (show y 6 =  (.bool false) from hd 6 (by kernel_rfl))))
                    clear hd hl hev
                    replace hJ := Lib.hid hJ
                    go_simp
                    exact hn _ _ (Below.refl _ _) rfl
                  · intro y W next hl hJ hd hn
                    exact Or.inr ⟨wanted_not (j := 7) (d := 25) rfl rfl rfl ((hl.1 7 25 (by kernel_rfl) (by kernel_rfl)).trans (congrArg some (show y 7 = .bool false from hd 7 (by kernel_rfl)))), hn _ _ (Below.refl _ _) trivial⟩
                  · intro y W next hl hJ hd hn
                    exact Or.inr ⟨wanted_not (j := 7) (d := 25) rfl rfl rfl ((hl.1 7 25 (by kernel_rfl) (by kernel_rfl)).trans (congrArg some (show y 7 = .bool false from hd 7 (by kernel_rfl)))), hn _ _ (Below.refl _ _) trivial⟩
                  · intro y W next hl hJ hd hn
                    exact Or.inr ⟨wanted_not (j := 7) (d := 25) rfl rfl rfl ((hl.1 7 25 (by kernel_rfl) (by kernel_rfl)).trans (congrArg some (show y 7 = .bool false from hd 7 (by kernel_rfl)))), hn _ _ (Below.refl _ _) trivial⟩
                  · intro y W next hl hJ hd hn
                    exact Or.inr ⟨wanted_not (j := 7) (d := 25) rfl rfl rfl ((hl.1 7 25 (by kernel_rfl) (by kernel_rfl)).trans (congrArg some (show y 7 = .bool false from hd 7 (by kernel_rfl)))), hn _ _ (Below.refl _ _) trivial⟩
                  · intro y W next hl hJ hd hn
                    exact Or.inr ⟨wanted_not (j := 7) (d := 25) rfl rfl rfl ((hl.1 7 25 (by kernel_rfl) (by kernel_rfl)).trans (congrArg some (show y 7 = .bool false from hd 7 (by kernel_rfl)))), hn _ _ (Below.refl _ _) trivial⟩
                  · intro y W next hl hJ hd hn
                    exact Or.inr ⟨wanted_not (j := 7) (d := 25) rfl rfl rfl ((hl.1 7 25 (by kernel_rfl) (by kernel_rfl)).trans (congrArg some (show y 7 = .bool false from hd 7 (by kernel_rfl)))), hn _ _ (Below.refl _ _) trivial⟩
                  · intro y W next hl hJ hd hn
                    exact Or.inr ⟨wanted_not (j := 7) (d := 25) rfl rfl rfl ((hl.1 7 25 (by kernel_rfl) (by kernel_rfl)).trans (congrArg some (show y 7 = .bool false from hd 7 (by kernel_rfl)))), hn _ _ (Below.refl _ _) trivial⟩
                  · intro y W next hl hJ hd hn
                    exact Or.inr ⟨wanted_not (j := 7) (d := 25) rfl rfl rfl ((hl.1 7 25 (by kernel_rfl) (by kernel_rfl)).trans (congrArg some (show y 7 = .bool false from hd 7 (by kernel_rfl)))), hn _ _ (Below.refl _ _) trivial⟩
                  · intro y W next hl hJ hd hn
                    exact Or.inr ⟨wanted_not (j := 7) (d := 25) rfl rfl rfl ((hl.1 7 25 (by kernel_rfl) (by kernel_rfl)).trans (congrArg some (show y 7 = .bool false from hd 7 (by kernel_rfl)))), hn _ _ (Below.refl _ _) trivial⟩
                  · intro y W next hl hJ hd hn
                    refine Or.inl ⟨wanted_of (j := 4) (d := 22) rfl rfl rfl ((hl.1 4 22 (by kernel_rfl) (by kernel_rfl)).trans (congrArg some (show y 4 = .bool false from hd 4 (by kernel_rfl)))), fun ev ec ef hev => ?_⟩
                    have e25 : ev (.tmp 25) =  (.bool false) := hev 25 _ ((hl.1 7 25 (by kernel_rfl) (by kernel_rfl)).trans (congrArg some (show y 7 =  (.bool false) from hd 7 (by kernel_rfl))))
                    have e34 := hev 34 _ (hl.1 16 34 (by kernel_rfl) (by kernel_rfl))
                    clear hd hl hev
                    replace hJ := Lib.hid hJ
                    go_simp
                    exact hn _ _ (Below.refl _ _) rfl
                  · intro y W next hl hJ hd hn
                    refine Or.inl ⟨wanted_free rfl, fun ev ec ef hev => ?_⟩
                    have e22 : ev (.tmp 22) =  (.bool false) := hev 22 _ ((hl.1 4 22 (by kernel_rfl) (by kernel_rfl)).trans (congrArg some (show y 4 =  (.bool false) from hd 4 (by kernel_rfl))))
                    have e35 : ev (.tmp 35) =  (.bool false) := hev 35 _ ((hl.1 17 35 (by kernel_rfl) (by kernel_rfl)).trans (congrArg some (show y 17 =  (.bool false) from hd 17 (by kernel_rfl))))
                    clear hd hl hev
                    replace hJ := Lib.hid hJ
                    go_simp
                    exact hn _ _ (Below.refl _ _) rfl
                  · intro y W next hl hJ hd hn
                    refine Or.inl ⟨wanted_free rfl, fun ev ec ef hev => ?_⟩
                    have e36 : ev (.tmp 36) =  (.bool false) := hev 36 _ ((hl.1 18 36 (by kernel_rfl) (by kernel_rfl)).trans (congrArg some (show y 18 =  (.bool false) from hd 18 (by kernel_rfl))))
                    clear hd hl hev
                    replace hJ := Lib.hid hJ
                    go_simp
                    exact hn _ _ (Below.refl _ _) rfl
                  · intro y W next hl hJ hd hn
                    refine Or.inl ⟨wanted_of (j := 19) (d := 37) rfl rfl rfl ((hl.1 19 37 (by kernel_rfl) (by kernel_rfl)).trans (congrArg some (show y 19 = .bool false from hd 19 (by kernel_rfl)))), fun ev ec ef hev => ?_⟩
                    have e4 : ev (.tmp 4) = .pointer (some ⟨wr.heap.size, 0, none⟩) := hev 4 _ ((hl.2 4 (by kernel_rfl)).trans (by kernel_rfl))
                    clear hd hl hev
                    replace hJ := Lib.hid hJ
                    go_simp
                    exact hn _ _ (Below.refl _ _) rfl
                  · intro y W next hl hJ hd hn
                    refine Or.inl ⟨wanted_of (j := 19) (d := 37) rfl rfl rfl ((hl.1 19 37 (by kernel_rfl) (by kernel_rfl)).trans (congrArg some (show y 19 = .bool false from hd 19 (by kernel_rfl)))), fun ev ec ef hev => ?_⟩
                    have e38 : ev (.tmp 38) =  (.pointer (some ⟨wr.heap.size, 1, none⟩)) := hev 38 _ ((hl.1 20 38 (by kernel_rfl) (by kernel_rfl)).trans (congrArg some (show y 20 =  (.pointer (some ⟨wr.heap.size, 1, none⟩)) from hd 20 (by kernel_rfl))))
                    clear hd hl hev
                    obtain ⟨x0, x1, x2, x3⟩ := (hbx.out.below hJ hbx.out.lt).four
                    replace hJ := Lib.hid hJ
                    go_simp
                    exact hn _ _ (Below.refl _ _) rfl
                  · intro y W next hl hJ hd hn
                    refine Or.inl ⟨wanted_of (j := 19) (d := 37) rfl rfl rfl ((hl.1 19 37 (by kernel_rfl) (by kernel_rfl)).trans (congrArg some (show y 19 = .bool false from hd 19 (by kernel_rfl)))), fun ev ec ef hev => ?_⟩
                    have e39 : ev (.tmp 39) =  (.int .i64 l[0].seat) := hev 39 _ ((hl.1 21 39 (by kernel_rfl) (by kernel_rfl)).trans (congrArg some (show y 21 =  (.int .i64 l[0].seat) from hd 21 (by kernel_rfl))))
                    clear hd hl hev
                    replace hJ := Lib.hid hJ
                    go_simp
                    refine (is_any _ _ _ _).mono ?_
                    rintro e w' ⟨rfl, rfl⟩
                    exact ⟨_, rfl, hn _ _ (Below.refl _ _) (by rw [hc2]; rfl)⟩
                  · intro y W next hl hJ hd hn
                    refine Or.inl ⟨wanted_of (j := 19) (d := 37) rfl rfl rfl ((hl.1 19 37 (by kernel_rfl) (by kernel_rfl)).trans (congrArg some (show y 19 = .bool false from hd 19 (by kernel_rfl)))), fun ev ec ef hev => ?_⟩
                    have e40 : ev (.tmp 40) =  (.bool true) := hev 40 _ ((hl.1 22 40 (by kernel_rfl) (by kernel_rfl)).trans (congrArg some (show y 22 =  (.bool true) from hd 22 (by kernel_rfl))))
                    clear hd hl hev
                    replace hJ := Lib.hid hJ
                    go_simp
                    exact hn _ _ (Below.refl _ _) rfl
                  · intro y W next hl hJ hd hn
                    refine Or.inl ⟨wanted_free rfl, fun ev ec ef hev => ?_⟩
                    have e37 : ev (.tmp 37) =  (.bool false) := hev 37 _ ((hl.1 19 37 (by kernel_rfl) (by kernel_rfl)).trans (congrArg some (show y 19 =  (.bool false) from hd 19 (by kernel_rfl))))
                    have e41 : ev (.tmp 41) =  (.bool false) := hev 41 _ ((hl.1 23 41 (by kernel_rfl) (by kernel_rfl)).trans (congrArg some (show y 23 =  (.bool false) from hd 23 (by kernel_rfl))))
                    clear hd hl hev
                    replace hJ := Lib.hid hJ
                    go_simp
                    exact hn _ _ (Below.refl _ _) rfl
                  · intro y W next hl hJ hd hn
                    refine Or.inl ⟨wanted_free rfl, fun ev ec ef hev => ?_⟩
                    have e42 : ev (.tmp 42) =  (.bool false) := hev 42 _ ((hl.1 24 42 (by kernel_rfl) (by kernel_rfl)).trans (congrArg some (show y 24 =  (.bool false) from hd 24 (by kernel_rfl))))
                    clear hd hl hev
                    replace hJ := Lib.hid hJ
                    go_simp
                    exact hn _ _ (Below.refl _ _) rfl
                  · intro y W next hl hJ hd hn
                    refine Or.inl ⟨wanted_of (j := 25) (d := 43) rfl rfl rfl ((hl.1 25 43 (by kernel_rfl) (by kernel_rfl)).trans (congrArg some (show y 25 = .bool false from hd 25 (by kernel_rfl)))), fun ev ec ef hev => ?_⟩
                    have e4 : ev (.tmp 4) = .pointer (some ⟨wr.heap.size, 0, none⟩) := hev 4 _ ((hl.2 4 (by kernel_rfl)).trans (by kernel_rfl))
                    clear hd hl hev
                    replace hJ := Lib.hid hJ
                    go_simp
                    exact hn _ _ (Below.refl _ _) rfl
                  · intro y W next hl hJ hd hn
                    refine Or.inl ⟨wanted_of (j := 25) (d := 43) rfl rfl rfl ((hl.1 25 43 (by kernel_rfl) (by kernel_rfl)).trans (congrArg some (show y 25 = .bool false from hd 25 (by kernel_rfl)))), fun ev ec ef hev => ?_⟩
                    have e44 : ev (.tmp 44) =  (.pointer (some ⟨wr.heap.size, 2, none⟩)) := hev 44 _ ((hl.1 26 44 (by kernel_rfl) (by kernel_rfl)).trans (congrArg some (show y 26 =  (.pointer (some ⟨wr.heap.size, 2, none⟩)) from hd 26 (by kernel_rfl))))
                    clear hd hl hev
                    obtain ⟨x0, x1, x2, x3⟩ := (hbx.out.below hJ hbx.out.lt).four
                    replace hJ := Lib.hid hJ
                    go_simp
                    exact hn _ _ (Below.refl _ _) rfl
                  · intro y W next hl hJ hd hn
                    refine Or.inl ⟨wanted_of (j := 25) (d := 43) rfl rfl rfl ((hl.1 25 43 (by kernel_rfl) (by kernel_rfl)).trans (congrArg some (show y 25 = .bool false from hd 25 (by kernel_rfl)))), fun ev ec ef hev => ?_⟩
                    have e45 : ev (.tmp 45) =  (.string l[0].word) := hev 45 _ ((hl.1 27 45 (by kernel_rfl) (by kernel_rfl)).trans (congrArg some (show y 27 =  (.string l[0].word) from hd 27 (by kernel_rfl))))
                    clear hd hl hev
                    replace hJ := Lib.hid hJ
                    go_simp
                    refine (specWord_any _ hwf.out.2.1 _).mono ?_
                    rintro e w' ⟨rfl, rfl⟩
                    exact ⟨_, rfl, hn _ _ (Below.refl _ _) (by rw [hc3]; rfl)⟩
                  · intro y W next hl hJ hd hn
                    refine Or.inl ⟨wanted_of (j := 25) (d := 43) rfl rfl rfl ((hl.1 25 43 (by kernel_rfl) (by kernel_rfl)).trans (congrArg some (show y 25 = .bool false from hd 25 (by kernel_rfl)))), fun ev ec ef hev => ?_⟩
                    have e46 : ev (.tmp 46) =  (.bool true) := hev 46 _ ((hl.1 28 46 (by kernel_rfl) (by kernel_rfl)).trans (congrArg some (show y 28 =  (.bool true) from hd 28 (by kernel_rfl))))
                    clear hd hl hev
                    replace hJ := Lib.hid hJ
                    go_simp
                    exact hn _ _ (Below.refl _ _) rfl
                  · intro y W next hl hJ hd hn
                    refine Or.inl ⟨wanted_free rfl, fun ev ec ef hev => ?_⟩
                    have e43 : ev (.tmp 43) =  (.bool false) := hev 43 _ ((hl.1 25 43 (by kernel_rfl) (by kernel_rfl)).trans (congrArg some (show y 25 =  (.bool false) from hd 25 (by kernel_rfl))))
                    have e47 : ev (.tmp 47) =  (.bool false) := hev 47 _ ((hl.1 29 47 (by kernel_rfl) (by kernel_rfl)).trans (congrArg some (show y 29 =  (.bool false) from hd 29 (by kernel_rfl))))
                    clear hd hl hev
                    replace hJ := Lib.hid hJ
                    go_simp
                    exact hn _ _ (Below.refl _ _) rfl
                  · intro y W next hl hJ hd hn
                    refine Or.inl ⟨wanted_free rfl, fun ev ec ef hev => ?_⟩
                    have e48 : ev (.tmp 48) =  (.bool false) := hev 48 _ ((hl.1 30 48 (by kernel_rfl) (by kernel_rfl)).trans (congrArg some (show y 30 =  (.bool false) from hd 30 (by kernel_rfl))))
                    clear hd hl hev
                    replace hJ := Lib.hid hJ
                    go_simp
                    exact hn _ _ (Below.refl _ _) rfl
                  · intro y W next hl hJ hd hn
                    refine Or.inl ⟨wanted_of (j := 31) (d := 49) rfl rfl rfl ((hl.1 31 49 (by kernel_rfl) (by kernel_rfl)).trans (congrArg some (show y 31 = .bool false from hd 31 (by kernel_rfl)))), fun ev ec ef hev => ?_⟩
                    have e4 : ev (.tmp 4) = .pointer (some ⟨wr.heap.size, 0, none⟩) := hev 4 _ ((hl.2 4 (by kernel_rfl)).trans (by kernel_rfl))
                    clear hd hl hev
                    replace hJ := Lib.hid hJ
                    go_simp
                    exact hn _ _ (Below.refl _ _) rfl
                  · intro y W next hl hJ hd hn
                    refine Or.inl ⟨wanted_of (j := 31) (d := 49) rfl rfl rfl ((hl.1 31 49 (by kernel_rfl) (by kernel_rfl)).trans (congrArg some (show y 31 = .bool false from hd 31 (by kernel_rfl)))), fun ev ec ef hev => ?_⟩
                    have e50 : ev (.tmp 50) =  (.pointer (some ⟨wr.heap.size, 3, none⟩)) := hev 50 _ ((hl.1 32 50 (by kernel_rfl) (by kernel_rfl)).trans (congrArg some (show y 32 =  (.pointer (some ⟨wr.heap.size, 3, none⟩)) from hd 32 (by kernel_rfl))))
                    clear hd hl hev
                    obtain ⟨x0, x1, x2, x3⟩ := (hbx.out.below hJ hbx.out.lt).four
                    replace hJ := Lib.hid hJ
                    go_simp
                    exact hn _ _ (Below.refl _ _) rfl
                  · intro y W next hl hJ hd hn
                    refine Or.inl ⟨wanted_of (j := 31) (d := 49) rfl rfl rfl ((hl.1 31 49 (by kernel_rfl) (by kernel_rfl)).trans (congrArg some (show y 31 = .bool false from hd 31 (by kernel_rfl)))), fun ev ec ef hev => ?_⟩
                    have e51 : ev (.tmp 51) =  (.string l[0].prompt) := hev 51 _ ((hl.1 33 51 (by kernel_rfl) (by kernel_rfl)).trans (congrArg some (show y 33 =  (.string l[0].prompt) from hd 33 (by kernel_rfl))))
                    clear hd hl hev
                    replace hJ := Lib.hid hJ
                    go_simp
                    refine (specRight_any _ hsm.out _).mono ?_
                    rintro e w' ⟨rfl, hb⟩
                    exact ⟨_, rfl, hn _ _ hb (by rw [hc4]; rfl)⟩
                  · intro y W next hl hJ hd hn
                    refine Or.inl ⟨wanted_of (j := 31) (d := 49) rfl rfl rfl ((hl.1 31 49 (by kernel_rfl) (by kernel_rfl)).trans (congrArg some (show y 31 = .bool false from hd 31 (by kernel_rfl)))), fun ev ec ef hev => ?_⟩
                    have e52 : ev (.tmp 52) =  (.bool false) := hev 52 _ ((hl.1 34 52 (by kernel_rfl) (by kernel_rfl)).trans (congrArg some (show y 34 =  (.bool false) from hd 34 (by kernel_rfl))))
                    clear hd hl hev
                    replace hJ := Lib.hid hJ
                    go_simp
                    exact hn _ _ (Below.refl _ _) rfl
                  · intro y W next hl hJ hd hn
                    refine Or.inl ⟨wanted_free rfl, fun ev ec ef hev => ?_⟩
                    have e49 : ev (.tmp 49) =  (.bool false) := hev 49 _ ((hl.1 31 49 (by kernel_rfl) (by kernel_rfl)).trans (congrArg some (show y 31 =  (.bool false) from hd 31 (by kernel_rfl))))
                    have e53 : ev (.tmp 53) =  (.bool true) := hev 53 _ ((hl.1 35 53 (by kernel_rfl) (by kernel_rfl)).trans (congrArg some (show y 35 =  (.bool true) from hd 35 (by kernel_rfl))))
                    clear hd hl hev
                    replace hJ := Lib.hid hJ
                    go_simp
                    exact hn _ _ (Below.refl _ _) rfl

                  · intro y W hb3 hall
                    have hy : y 36 = .bool true := hall 36 (by decide)
                    replace hb2 := Lib.hid (below_then hb2.out hb3 (Nat.le_refl _))
                    clear hall hb3
                    simp only [lay_cons, lay_nil]
                    rw [hy]
                    clear hy
                    simp only [Act.put, List.setIfInBounds_toArray]
                    simp only [List.set_cons_succ, List.set_cons_zero]
                    go_wp2
                    go_ret
                    exact ⟨by rw [hbad.out]; rfl, hb2.out⟩
                | true =>
                  simp only [Nat.zero_mul, Nat.add_zero] at c0 c1 c2 c3
                  have hup2 := Lib.hid (show upTo l 1 = true by rw [upTo_succ, hup.out, okAt_first hlt (show secOk l[0] = true by rw [secOk_eq, hc1, hc2, hc3, hc4]; rfl)]; rfl)
                  clear hup
                  obtain ⟨V, hV⟩ : ∃ V, V = wr.alloc (.cells #[.string l[0].name, .int .i64 l[0].seat, .string l[0].word, .string l[0].prompt] 100) := ⟨_, rfl⟩
                  have hbx := Lib.hid (box4 (w := wr) l[0] 100)
                  rw [← hV] at hbx
                  have hb2 := Lib.hid (show Below w.heap.size w V by rw [hV]; exact hb.out.alloc hb.out.size _)
                  go_wp2
                  rw [← hV]
                  replace hsecs := Lib.hid (show Secs V (.slice (some ⟨b, off, none⟩) l.length cap) l by rw [hV]; exact hsecs.out.alloc _)
                  clear hV c0 c1 c2 c3
                  refine wp_region_known [(.is (.pointer (some ⟨wr.heap.size, 0, none⟩))), (.is (.string l[0].name)), (.is (.bool true)), (.is (.bool false)), (.is (.bool false)), (.is (.int .i64 ((0 : Nat) : Int))), (.is (.bool false)), (.is (.bool false)), .any, .any, .any, .any, .any, .any, .any, .any, .any, (.is (.bool false)), (.is (.bool false)), (.is (.bool false)), (.is (.pointer (some ⟨wr.heap.size, 1, none⟩))), (.is (.int .i64 l[0].seat)), (.is (.bool true)), (.is (.bool false)), (.is (.bool false)), (.is (.bool false)), (.is (.pointer (some ⟨wr.heap.size, 2, none⟩))), (.is (.string l[0].word)), (.is (.bool true)), (.is (.bool false)), (.is (.bool false)), (.is (.bool false)), (.is (.pointer (some ⟨wr.heap.size, 3, none⟩))), (.is (.string l[0].prompt)), (.is (.bool true)), (.is (.bool false)), (.is (.bool false))] (by kernel_rfl) (by kernel_rfl) (by kernel_rfl) ⟨?_, ?_, ?_, ?_, ?_, ?_, ?_, ?_, ?_, ?_, ?_, ?_, ?_, ?_, ?_, ?_, ?_, ?_, ?_, ?_, ?_, ?_, ?_, ?_, ?_, ?_, ?_, ?_, ?_, ?_, ?_, ?_, ?_, ?_, ?_, ?_, ?_, trivial⟩ ?_
                  · intro y W next hl hJ hd hn
                    refine Or.inl ⟨wanted_free rfl, fun ev ec ef hev => ?_⟩
                    have e4 : ev (.tmp 4) = .pointer (some ⟨wr.heap.size, 0, none⟩) := hev 4 _ ((hl.2 4 (by kernel_rfl)).trans (by kernel_rfl))
                    clear hd hl hev
                    replace hJ := Lib.hid hJ
                    go_simp
                    exact hn _ _ (Below.refl _ _) rfl
                  · intro y W next hl hJ hd hn
                    refine Or.inl ⟨wanted_free rfl, fun ev ec ef hev => ?_⟩
                    have e18 : ev (.tmp 18) =  (.pointer (some ⟨wr.heap.size, 0, none⟩)) := hev 18 _ ((hl.1 0 18 (by kernel_rfl) (by kernel_rfl)).trans (congrArg some (show y 0 =  (.pointer (some ⟨wr.heap.size, 0, none⟩)) from hd 0 (by kernel_rfl))))
                    clear hd hl hev
                    obtain ⟨x0, x1, x2, x3⟩ := (hbx.out.below hJ hbx.out.lt).four
                    replace hJ := Lib.hid hJ
                    go_simp
                    exact hn _ _ (Below.refl _ _) rfl
                  · intro y W next hl hJ hd hn
                    refine Or.inl ⟨wanted_free rfl, fun ev ec ef hev => ?_⟩
                    have e19 : ev (.tmp 19) =  (.string l[0].name) := hev 19 _ ((hl.1 1 19 (by kernel_rfl) (by kernel_rfl)).trans (congrArg some (show y 1 =  (.string l[0].name) from hd 1 (by kernel_rfl))))
                    clear hd hl hev
                    replace hJ := Lib.hid hJ
                    go_simp
                    refine (specWord_any _ hwf.out.1 _).mono ?_
                    rintro e w' ⟨rfl, rfl⟩
                    exact ⟨_, rfl, hn _ _ (Below.refl _ _) (by rw [hc1]; rfl)⟩
                  · intro y W next hl hJ hd hn
                    refine Or.inl ⟨wanted_free rfl, fun ev ec ef hev => ?_⟩
                    have e20 : ev (.tmp 20) =  (.bool true) := hev 20 _ ((hl.1 2 20 (by kernel_rfl) (by kernel_rfl)).trans (congrArg some (show y 2 =  (.bool true) from hd 2 (by kernel_rfl))))
                    clear hd hl hev
                    replace hJ := Lib.hid hJ
                    go_simp
                    exact hn _ _ (Below.refl _ _) rfl
                  · intro y W next hl hJ hd hn
                    refine Or.inl ⟨wanted_free rfl, fun ev ec ef hev => ?_⟩
                    have e21 : ev (.tmp 21) =  (.bool false) := hev 21 _ ((hl.1 3 21 (by kernel_rfl) (by kernel_rfl)).trans (congrArg some (show y 3 =  (.bool false) from hd 3 (by kernel_rfl))))
                    clear hd hl hev
                    replace hJ := Lib.hid hJ
                    go_simp
                    exact hn _ _ (Below.refl _ _) rfl
                  · intro y W next hl hJ hd hn
                    refine Or.inl ⟨wanted_of (j := 4) (d := 22) rfl rfl rfl ((hl.1 4 22 (by kernel_rfl) (by kernel_rfl)).trans (congrArg some (show y 4 = .bool false from hd 4 (by kernel_rfl)))), fun ev ec ef hev => ?_⟩
                    have e3 : ev (.tmp 3) = .int .i64 ((0 : Nat) : Int) := hev 3 _ ((hl.2 3 (by kernel_rfl)).trans (by kernel_rfl))
                    clear hd hl hev
                    replace hJ := Lib.hid hJ
                    go_simp
                    exact hn _ _ (Below.refl _ _) rfl
                  · intro y W next hl hJ hd hn
                    refine Or.inl ⟨wanted_of (j := 4) (d := 22) rfl rfl rfl ((hl.1 4 22 (by kernel_rfl) (by kernel_rfl)).trans (congrArg some (show y 4 = .bool false from hd 4 (by kernel_rfl)))), fun ev ec ef hev => ?_⟩
                    have e23 : ev (.tmp 23) =  (.int .i64 ((0 : Nat) : Int)) := hev 23 _ ((hl.1 5 23 (by kernel_rfl) (by kernel_rfl)).trans (congrArg some (show y 5 =  (.int .i64 ((0 : Nat) : Int)) from hd 5 (by kernel_rfl))))
                    clear hd hl hev
                    replace hJ := Lib.hid hJ
                    go_simp
                    exact hn _ _ (Below.refl _ _) rfl
                  · intro y W next hl hJ hd hn
                    refine Or.inl ⟨wanted_of (j := 4) (d := 22) rfl rfl rfl ((hl.1 4 22 (by kernel_rfl) (by kernel_rfl)).trans (congrArg some (show y 4 = .bool false from hd 4 (by kernel_rfl)))), fun ev ec ef hev => ?_⟩
                    have e24 : ev (.tmp 24) =  (.bool false) := hev 24 _ ((hl.1 6 24 (by kernel_rfl) (by kernel_rfl)).trans (congrArg some (show y 6 =  (.bool false) from hd 6 (by kernel_rfl))))
                    clear hd hl hev
                    replace hJ := Lib.hid hJ
                    go_simp
                    exact hn _ _ (Below.refl _ _) rfl
                  · intro y W next hl hJ hd hn
                    exact Or.inr ⟨wanted_not (j := 7) (d := 25) rfl rfl rfl ((hl.1 7 25 (by kernel_rfl) (by kernel_rfl)).trans (congrArg some (show y 7 = .bool false from hd 7 (by kernel_rfl)))), hn _ _ (Below.refl _ _) trivial⟩
                  · intro y W next hl hJ hd hn
                    exact Or.inr ⟨wanted_not (j := 7) (d := 25) rfl rfl rfl ((hl.1 7 25 (by kernel_rfl) (by kernel_rfl)).trans (congrArg some (show y 7 = .bool false from hd 7 (by kernel_rfl)))), hn _ _ (Below.refl _ _) trivial⟩
                  · intro y W next hl hJ hd hn
                    exact Or.inr ⟨wanted_not (j := 7) (d := 25) rfl rfl rfl ((hl.1 7 25 (by kernel_rfl) (by kernel_rfl)).trans (congrArg some (show y 7 = .bool false from hd 7 (by kernel_rfl)))), hn _ _ (Below.refl _ _) trivial⟩
                  · intro y W next hl hJ hd hn
                    exact Or.inr ⟨wanted_not (j := 7) (d := 25) rfl rfl rfl ((hl.1 7 25 (by kernel_rfl) (by kernel_rfl)).trans (congrArg some (show y 7 = .bool false from hd 7 (by kernel_rfl)))), hn _ _ (Below.refl _ _) trivial⟩
                  · intro y W next hl hJ hd hn
                    exact Or.inr ⟨wanted_not (j := 7) (d := 25) rfl rfl rfl ((hl.1 7 25 (by kernel_rfl) (by kernel_rfl)).trans (congrArg some (show y 7 = .bool false from hd 7 (by kernel_rfl)))), hn _ _ (Below.refl _ _) trivial⟩
                  · intro y W next hl hJ hd hn
                    exact Or.inr ⟨wanted_not (j := 7) (d := 25) rfl rfl rfl ((hl.1 7 25 (by kernel_rfl) (by kernel_rfl)).trans (congrArg some (show y 7 = .bool false from hd 7 (by kernel_rfl)))), hn _ _ (Below.refl _ _) trivial⟩
                  · intro y W next hl hJ hd hn
                    exact Or.inr ⟨wanted_not (j := 7) (d := 25) rfl rfl rfl ((hl.1 7 25 (by kernel_rfl) (by kernel_rfl)).trans (congrArg some (show y 7 = .bool false from hd 7 (by kernel_rfl)))), hn _ _ (Below.refl _ _) trivial⟩
                  · intro y W next hl hJ hd hn
                    exact Or.inr ⟨wanted_not (j := 7) (d := 25) rfl rfl rfl ((hl.1 7 25 (by kernel_rfl) (by kernel_rfl)).trans (congrArg some (show y 7 = .bool false from hd 7 (by kernel_rfl)))), hn _ _ (Below.refl _ _) trivial⟩
                  · intro y W next hl hJ hd hn
                    exact Or.inr ⟨wanted_not (j := 7) (d := 25) rfl rfl rfl ((hl.1 7 25 (by kernel_rfl) (by kernel_rfl)).trans (congrArg some (show y 7 = .bool false from hd 7 (by kernel_rfl)))), hn _ _ (Below.refl _ _) trivial⟩
                  · intro y W next hl hJ hd hn
                    refine Or.inl ⟨wanted_of (j := 4) (d := 22) rfl rfl rfl ((hl.1 4 22 (by kernel_rfl) (by kernel_rfl)).trans (congrArg some (show y 4 = .bool false from hd 4 (by kernel_rfl)))), fun ev ec ef hev => ?_⟩
                    have e25 : ev (.tmp 25) =  (.bool false) := hev 25 _ ((hl.1 7 25 (by kernel_rfl) (by kernel_rfl)).trans (congrArg some (show y 7 =  (.bool false) from hd 7 (by kernel_rfl))))
                    have e34 := hev 34 _ (hl.1 16 34 (by kernel_rfl) (by kernel_rfl))
                    clear hd hl hev
                    replace hJ := Lib.hid hJ
                    go_simp
                    exact hn _ _ (Below.refl _ _) rfl
                  · intro y W next hl hJ hd hn
                    refine Or.inl ⟨wanted_free rfl, fun ev ec ef hev => ?_⟩
                    have e22 : ev (.tmp 22) =  (.bool false) := hev 22 _ ((hl.1 4 22 (by kernel_rfl) (by kernel_rfl)).trans (congrArg some (show y 4 =  (.bool false) from hd 4 (by kernel_rfl))))
                    have e35 : ev (.tmp 35) =  (.bool false) := hev 35 _ ((hl.1 17 35 (by kernel_rfl) (by kernel_rfl)).trans (congrArg some (show y 17 =  (.bool false) from hd 17 (by kernel_rfl))))
                    clear hd hl hev
                    replace hJ := Lib.hid hJ
                    go_simp
                    exact hn _ _ (Below.refl _ _) rfl
                  · intro y W next hl hJ hd hn
                    refine Or.inl ⟨wanted_free rfl, fun ev ec ef hev => ?_⟩
                    have e36 : ev (.tmp 36) =  (.bool false) := hev 36 _ ((hl.1 18 36 (by kernel_rfl) (by kernel_rfl)).trans (congrArg some (show y 18 =  (.bool false) from hd 18 (by kernel_rfl))))
                    clear hd hl hev
                    replace hJ := Lib.hid hJ
                    go_simp
                    exact hn _ _ (Below.refl _ _) rfl
                  · intro y W next hl hJ hd hn
                    refine Or.inl ⟨wanted_of (j := 19) (d := 37) rfl rfl rfl ((hl.1 19 37 (by kernel_rfl) (by kernel_rfl)).trans (congrArg some (show y 19 = .bool false from hd 19 (by kernel_rfl)))), fun ev ec ef hev => ?_⟩
                    have e4 : ev (.tmp 4) = .pointer (some ⟨wr.heap.size, 0, none⟩) := hev 4 _ ((hl.2 4 (by kernel_rfl)).trans (by kernel_rfl))
                    clear hd hl hev
                    replace hJ := Lib.hid hJ
                    go_simp
                    exact hn _ _ (Below.refl _ _) rfl
                  · intro y W next hl hJ hd hn
                    refine Or.inl ⟨wanted_of (j := 19) (d := 37) rfl rfl rfl ((hl.1 19 37 (by kernel_rfl) (by kernel_rfl)).trans (congrArg some (show y 19 = .bool false from hd 19 (by kernel_rfl)))), fun ev ec ef hev => ?_⟩
                    have e38 : ev (.tmp 38) =  (.pointer (some ⟨wr.heap.size, 1, none⟩)) := hev 38 _ ((hl.1 20 38 (by kernel_rfl) (by kernel_rfl)).trans (congrArg some (show y 20 =  (.pointer (some ⟨wr.heap.size, 1, none⟩)) from hd 20 (by kernel_rfl))))
                    clear hd hl hev
                    obtain ⟨x0, x1, x2, x3⟩ := (hbx.out.below hJ hbx.out.lt).four
                    replace hJ := Lib.hid hJ
                    go_simp
                    exact hn _ _ (Below.refl _ _) rfl
                  · intro y W next hl hJ hd hn
                    refine Or.inl ⟨wanted_of (j := 19) (d := 37) rfl rfl rfl ((hl.1 19 37 (by kernel_rfl) (by kernel_rfl)).trans (congrArg some (show y 19 = .bool false from hd 19 (by kernel_rfl)))), fun ev ec ef hev => ?_⟩
                    have e39 : ev (.tmp 39) =  (.int .i64 l[0].seat) := hev 39 _ ((hl.1 21 39 (by kernel_rfl) (by kernel_rfl)).trans (congrArg some (show y 21 =  (.int .i64 l[0].seat) from hd 21 (by kernel_rfl))))
                    clear hd hl hev
                    replace hJ := Lib.hid hJ
                    go_simp
                    refine (is_any _ _ _ _).mono ?_
                    rintro e w' ⟨rfl, rfl⟩
                    exact ⟨_, rfl, hn _ _ (Below.refl _ _) (by rw [hc2]; rfl)⟩
                  · intro y W next hl hJ hd hn
                    refine Or.inl ⟨wanted_of (j := 19) (d := 37) rfl rfl rfl ((hl.1 19 37 (by kernel_rfl) (by kernel_rfl)).trans (congrArg some (show y 19 = .bool false from hd 19 (by kernel_rfl)))), fun ev ec ef hev => ?_⟩
                    have e40 : ev (.tmp 40) =  (.bool true) := hev 40 _ ((hl.1 22 40 (by kernel_rfl) (by kernel_rfl)).trans (congrArg some (show y 22 =  (.bool true) from hd 22 (by kernel_rfl))))
                    clear hd hl hev
                    replace hJ := Lib.hid hJ
                    go_simp
                    exact hn _ _ (Below.refl _ _) rfl
                  · intro y W next hl hJ hd hn
                    refine Or.inl ⟨wanted_free rfl, fun ev ec ef hev => ?_⟩
                    have e37 : ev (.tmp 37) =  (.bool false) := hev 37 _ ((hl.1 19 37 (by kernel_rfl) (by kernel_rfl)).trans (congrArg some (show y 19 =  (.bool false) from hd 19 (by kernel_rfl))))
                    have e41 : ev (.tmp 41) =  (.bool false) := hev 41 _ ((hl.1 23 41 (by kernel_rfl) (by kernel_rfl)).trans (congrArg some (show y 23 =  (.bool false) from hd 23 (by kernel_rfl))))
                    clear hd hl hev
                    replace hJ := Lib.hid hJ
                    go_simp
                    exact hn _ _ (Below.refl _ _) rfl
                  · intro y W next hl hJ hd hn
                    refine Or.inl ⟨wanted_free rfl, fun ev ec ef hev => ?_⟩
                    have e42 : ev (.tmp 42) =  (.bool false) := hev 42 _ ((hl.1 24 42 (by kernel_rfl) (by kernel_rfl)).trans (congrArg some (show y 24 =  (.bool false) from hd 24 (by kernel_rfl))))
                    clear hd hl hev
                    replace hJ := Lib.hid hJ
                    go_simp
                    exact hn _ _ (Below.refl _ _) rfl
                  · intro y W next hl hJ hd hn
                    refine Or.inl ⟨wanted_of (j := 25) (d := 43) rfl rfl rfl ((hl.1 25 43 (by kernel_rfl) (by kernel_rfl)).trans (congrArg some (show y 25 = .bool false from hd 25 (by kernel_rfl)))), fun ev ec ef hev => ?_⟩
                    have e4 : ev (.tmp 4) = .pointer (some ⟨wr.heap.size, 0, none⟩) := hev 4 _ ((hl.2 4 (by kernel_rfl)).trans (by kernel_rfl))
                    clear hd hl hev
                    replace hJ := Lib.hid hJ
                    go_simp
                    exact hn _ _ (Below.refl _ _) rfl
                  · intro y W next hl hJ hd hn
                    refine Or.inl ⟨wanted_of (j := 25) (d := 43) rfl rfl rfl ((hl.1 25 43 (by kernel_rfl) (by kernel_rfl)).trans (congrArg some (show y 25 = .bool false from hd 25 (by kernel_rfl)))), fun ev ec ef hev => ?_⟩
                    have e44 : ev (.tmp 44) =  (.pointer (some ⟨wr.heap.size, 2, none⟩)) := hev 44 _ ((hl.1 26 44 (by kernel_rfl) (by kernel_rfl)).trans (congrArg some (show y 26 =  (.pointer (some ⟨wr.heap.size, 2, none⟩)) from hd 26 (by kernel_rfl))))
                    clear hd hl hev
                    obtain ⟨x0, x1, x2, x3⟩ := (hbx.out.below hJ hbx.out.lt).four
                    replace hJ := Lib.hid hJ
                    go_simp
                    exact hn _ _ (Below.refl _ _) rfl
                  · intro y W next hl hJ hd hn
                    refine Or.inl ⟨wanted_of (j := 25) (d := 43) rfl rfl rfl ((hl.1 25 43 (by kernel_rfl) (by kernel_rfl)).trans (congrArg some (show y 25 = .bool false from hd 25 (by kernel_rfl)))), fun ev ec ef hev => ?_⟩
                    have e45 : ev (.tmp 45) =  (.string l[0].word) := hev 45 _ ((hl.1 27 45 (by kernel_rfl) (by kernel_rfl)).trans (congrArg some (show y 27 =  (.string l[0].word) from hd 27 (by kernel_rfl))))
                    clear hd hl hev
                    replace hJ := Lib.hid hJ
                    go_simp
                    refine (specWord_any _ hwf.out.2.1 _).mono ?_
                    rintro e w' ⟨rfl, rfl⟩
                    exact ⟨_, rfl, hn _ _ (Below.refl _ _) (by rw [hc3]; rfl)⟩
                  · intro y W next hl hJ hd hn
                    refine Or.inl ⟨wanted_of (j := 25) (d := 43) rfl rfl rfl ((hl.1 25 43 (by kernel_rfl) (by kernel_rfl)).trans (congrArg some (show y 25 = .bool false from hd 25 (by kernel_rfl)))), fun ev ec ef hev => ?_⟩
                    have e46 : ev (.tmp 46) =  (.bool true) := hev 46 _ ((hl.1 28 46 (by kernel_rfl) (by kernel_rfl)).trans (congrArg some (show y 28 =  (.bool true) from hd 28 (by kernel_rfl))))
                    clear hd hl hev
                    replace hJ := Lib.hid hJ
                    go_simp
                    exact hn _ _ (Below.refl _ _) rfl
                  · intro y W next hl hJ hd hn
                    refine Or.inl ⟨wanted_free rfl, fun ev ec ef hev => ?_⟩
                    have e43 : ev (.tmp 43) =  (.bool false) := hev 43 _ ((hl.1 25 43 (by kernel_rfl) (by kernel_rfl)).trans (congrArg some (show y 25 =  (.bool false) from hd 25 (by kernel_rfl))))
                    have e47 : ev (.tmp 47) =  (.bool false) := hev 47 _ ((hl.1 29 47 (by kernel_rfl) (by kernel_rfl)).trans (congrArg some (show y 29 =  (.bool false) from hd 29 (by kernel_rfl))))
                    clear hd hl hev
                    replace hJ := Lib.hid hJ
                    go_simp
                    exact hn _ _ (Below.refl _ _) rfl
                  · intro y W next hl hJ hd hn
                    refine Or.inl ⟨wanted_free rfl, fun ev ec ef hev => ?_⟩
                    have e48 : ev (.tmp 48) =  (.bool false) := hev 48 _ ((hl.1 30 48 (by kernel_rfl) (by kernel_rfl)).trans (congrArg some (show y 30 =  (.bool false) from hd 30 (by kernel_rfl))))
                    clear hd hl hev
                    replace hJ := Lib.hid hJ
                    go_simp
                    exact hn _ _ (Below.refl _ _) rfl
                  · intro y W next hl hJ hd hn
                    refine Or.inl ⟨wanted_of (j := 31) (d := 49) rfl rfl rfl ((hl.1 31 49 (by kernel_rfl) (by kernel_rfl)).trans (congrArg some (show y 31 = .bool false from hd 31 (by kernel_rfl)))), fun ev ec ef hev => ?_⟩
                    have e4 : ev (.tmp 4) = .pointer (some ⟨wr.heap.size, 0, none⟩) := hev 4 _ ((hl.2 4 (by kernel_rfl)).trans (by kernel_rfl))
                    clear hd hl hev
                    replace hJ := Lib.hid hJ
                    go_simp
                    exact hn _ _ (Below.refl _ _) rfl
                  · intro y W next hl hJ hd hn
                    refine Or.inl ⟨wanted_of (j := 31) (d := 49) rfl rfl rfl ((hl.1 31 49 (by kernel_rfl) (by kernel_rfl)).trans (congrArg some (show y 31 = .bool false from hd 31 (by kernel_rfl)))), fun ev ec ef hev => ?_⟩
                    have e50 : ev (.tmp 50) =  (.pointer (some ⟨wr.heap.size, 3, none⟩)) := hev 50 _ ((hl.1 32 50 (by kernel_rfl) (by kernel_rfl)).trans (congrArg some (show y 32 =  (.pointer (some ⟨wr.heap.size, 3, none⟩)) from hd 32 (by kernel_rfl))))
                    clear hd hl hev
                    obtain ⟨x0, x1, x2, x3⟩ := (hbx.out.below hJ hbx.out.lt).four
                    replace hJ := Lib.hid hJ
                    go_simp
                    exact hn _ _ (Below.refl _ _) rfl
                  · intro y W next hl hJ hd hn
                    refine Or.inl ⟨wanted_of (j := 31) (d := 49) rfl rfl rfl ((hl.1 31 49 (by kernel_rfl) (by kernel_rfl)).trans (congrArg some (show y 31 = .bool false from hd 31 (by kernel_rfl)))), fun ev ec ef hev => ?_⟩
                    have e51 : ev (.tmp 51) =  (.string l[0].prompt) := hev 51 _ ((hl.1 33 51 (by kernel_rfl) (by kernel_rfl)).trans (congrArg some (show y 33 =  (.string l[0].prompt) from hd 33 (by kernel_rfl))))
                    clear hd hl hev
                    replace hJ := Lib.hid hJ
                    go_simp
                    refine (specRight_any _ hsm.out _).mono ?_
                    rintro e w' ⟨rfl, hb⟩
                    exact ⟨_, rfl, hn _ _ hb (by rw [hc4]; rfl)⟩
                  · intro y W next hl hJ hd hn
                    refine Or.inl ⟨wanted_of (j := 31) (d := 49) rfl rfl rfl ((hl.1 31 49 (by kernel_rfl) (by kernel_rfl)).trans (congrArg some (show y 31 = .bool false from hd 31 (by kernel_rfl)))), fun ev ec ef hev => ?_⟩
                    have e52 : ev (.tmp 52) =  (.bool true) := hev 52 _ ((hl.1 34 52 (by kernel_rfl) (by kernel_rfl)).trans (congrArg some (show y 34 =  (.bool true) from hd 34 (by kernel_rfl))))
                    clear hd hl hev
                    replace hJ := Lib.hid hJ
                    go_simp
                    exact hn _ _ (Below.refl _ _) rfl
                  · intro y W next hl hJ hd hn
                    refine Or.inl ⟨wanted_free rfl, fun ev ec ef hev => ?_⟩
                    have e49 : ev (.tmp 49) =  (.bool false) := hev 49 _ ((hl.1 31 49 (by kernel_rfl) (by kernel_rfl)).trans (congrArg some (show y 31 =  (.bool false) from hd 31 (by kernel_rfl))))
                    have e53 : ev (.tmp 53) =  (.bool false) := hev 53 _ ((hl.1 35 53 (by kernel_rfl) (by kernel_rfl)).trans (congrArg some (show y 35 =  (.bool false) from hd 35 (by kernel_rfl))))
                    clear hd hl hev
                    replace hJ := Lib.hid hJ
                    go_simp
                    exact hn _ _ (Below.refl _ _) rfl

                  · intro y W hb3 hall
                    have hy : y 36 = .bool false := hall 36 (by decide)
                    replace hb2 := Lib.hid (below_then hb2.out hb3 (Nat.le_refl _))
                    clear hall hb3
                    simp only [lay_cons, lay_nil]
                    rw [hy]
                    clear hy
                    simp only [Act.put, List.setIfInBounds_toArray]
                    simp only [List.set_cons_succ, List.set_cons_zero]
                    go_wp2
                    go_roundw
                    case rel => exact ⟨0 + 1, by omega, by go_num, hup2, hb2⟩
                    case measure => simp [intOf]; omega
        | succ j =>
          cases hc1 : wordB l[j + 1].name.data.toList with
          | false =>
            have hbad := Lib.hid (vaultB_bad hlt (okAt_bad hlt (show secOk l[j + 1] = false by rw [secOk_eq, hc1]; rfl)))
            clear hup
            obtain ⟨V, hV⟩ : ∃ V, V = wr.alloc (.cells #[.string l[j + 1].name, .int .i64 l[j + 1].seat, .string l[j + 1].word, .string l[j + 1].prompt] 100) := ⟨_, rfl⟩
            have hbx := Lib.hid (box4 (w := wr) l[j + 1] 100)
            rw [← hV] at hbx
            have hb2 := Lib.hid (show Below w.heap.size w V by rw [hV]; exact hb.out.alloc hb.out.size _)
            have hsub := Lib.hid (show ((j + 1 : Nat) : Int) - 1 = (j : Int) by omega)
            go_wp2
            rw [← hV]
            replace hsecs := Lib.hid (show Secs V (.slice (some ⟨b, off, none⟩) l.length cap) l by rw [hV]; exact hsecs.out.alloc _)
            clear hV c0 c1 c2 c3
            refine wp_region_known [(.is (.pointer (some ⟨wr.heap.size, 0, none⟩))), (.is (.string l[j + 1].name)), (.is (.bool false)), (.is (.bool true)), (.is (.bool true)), .any, .any, (.is undef), .any, .any, .any, .any, .any, .any, .any, .any, .any, .any, (.is (.bool true)), (.is (.bool true)), .any, .any, .any, .any, (.is (.bool true)), (.is (.bool true)), .any, .any, .any, .any, (.is (.bool true)), (.is (.bool true)), .any, .any, .any, .any, (.is (.bool true))] (by kernel_rfl) (by kernel_rfl) (by kernel_rfl) ⟨?_, ?_, ?_, ?_, ?_, ?_, ?_, ?_, ?_, ?_, ?_, ?_, ?_, ?_, ?_, ?_, ?_, ?_, ?_, ?_, ?_, ?_, ?_, ?_, ?_, ?_, ?_, ?_, ?_, ?_, ?_, ?_, ?_, ?_, ?_, ?_, ?_, trivial⟩ ?_
            · intro y W next hl hJ hd hn
              refine Or.inl ⟨wanted_free rfl, fun ev ec ef hev => ?_⟩
              have e4 : ev (.tmp 4) = .pointer (some ⟨wr.heap.size, 0, none⟩) := hev 4 _ ((hl.2 4 (by kernel_rfl)).trans (by kernel_rfl))
              clear hd hl hev
              replace hJ := Lib.hid hJ
              go_simp
              exact hn _ _ (Below.refl _ _) rfl
            · intro y W next hl hJ hd hn
              refine Or.inl ⟨wanted_free rfl, fun ev ec ef hev => ?_⟩
              have e18 : ev (.tmp 18) =  (.pointer (some ⟨wr.heap.size, 0, none⟩)) := hev 18 _ ((hl.1 0 18 (by kernel_rfl) (by kernel_rfl)).trans (congrArg some (show y 0 =  (.pointer (some ⟨wr.heap.size, 0, none⟩)) from hd 0 (by kernel_rfl))))
              clear hd hl hev
              obtain ⟨x0, x1, x2, x3⟩ := (hbx.out.below hJ hbx.out.lt).four
              replace hJ := Lib.hid hJ
              go_simp
              exact hn _ _ (Below.refl _ _) rfl
            · intro y W next hl hJ hd hn
              refine Or.inl ⟨wanted_free rfl, fun ev ec ef hev => ?_⟩
              have e19 : ev (.tmp 19) =  (.string l[j + 1].name) := hev 19 _ ((hl.1 1 19 (by kernel_rfl) (by kernel_rfl)).trans (congrArg some (show y 1 =  (.string l[j + 1].name) from hd 1 (by kernel_rfl))))
              clear hd hl hev
              replace hJ := Lib.hid hJ
              go_simp
              refine (specWord_any _ hwf.out.1 _).mono ?_
              rintro e w' ⟨rfl, rfl⟩
              exact ⟨_, rfl, hn _ _ (Below.refl _ _) (by rw [hc1]; rfl)⟩
            · intro y W next hl hJ hd hn
              refine Or.inl ⟨wanted_free rfl, fun ev ec ef hev => ?_⟩
              have e20 : ev (.tmp 20) =  (.bool false) := hev 20 _ ((hl.1 2 20 (by kernel_rfl) (by kernel_rfl)).trans (congrArg some (show y 2 =  (.bool false) from hd 2 (by kernel_rfl))))
              clear hd hl hev
              replace hJ := Lib.hid hJ
              go_simp
              exact hn _ _ (Below.refl _ _) rfl
            · intro y W next hl hJ hd hn
              refine Or.inl ⟨wanted_free rfl, fun ev ec ef hev => ?_⟩
              have e21 : ev (.tmp 21) =  (.bool true) := hev 21 _ ((hl.1 3 21 (by kernel_rfl) (by kernel_rfl)).trans (congrArg some (show y 3 =  (.bool true) from hd 3 (by kernel_rfl))))
              clear hd hl hev
              replace hJ := Lib.hid hJ
              go_simp
              exact hn _ _ (Below.refl _ _) rfl
            · intro y W next hl hJ hd hn
              exact Or.inr ⟨wanted_not (j := 4) (d := 22) rfl rfl rfl ((hl.1 4 22 (by kernel_rfl) (by kernel_rfl)).trans (congrArg some (show y 4 = .bool true from hd 4 (by kernel_rfl)))), hn _ _ (Below.refl _ _) trivial⟩
            · intro y W next hl hJ hd hn
              exact Or.inr ⟨wanted_not (j := 4) (d := 22) rfl rfl rfl ((hl.1 4 22 (by kernel_rfl) (by kernel_rfl)).trans (congrArg some (show y 4 = .bool true from hd 4 (by kernel_rfl)))), hn _ _ (Below.refl _ _) trivial⟩
            · intro y W next hl hJ hd hn
              exact Or.inr ⟨wanted_not (j := 4) (d := 22) rfl rfl rfl ((hl.1 4 22 (by kernel_rfl) (by kernel_rfl)).trans (congrArg some (show y 4 = .bool true from hd 4 (by kernel_rfl)))), hn _ _ (Below.refl _ _) rfl⟩
            · intro y W next hl hJ hd hn
              exact Or.inr ⟨wanted_undef (j := 7) (d := 25) rfl rfl rfl ((hl.1 7 25 (by kernel_rfl) (by kernel_rfl)).trans (congrArg some (show y 7 = undef from hd 7 (by kernel_rfl)))), hn _ _ (Below.refl _ _) trivial⟩
            · intro y W next hl hJ hd hn
              exact Or.inr ⟨wanted_undef (j := 7) (d := 25) rfl rfl rfl ((hl.1 7 25 (by kernel_rfl) (by kernel_rfl)).trans (congrArg some (show y 7 = undef from hd 7 (by kernel_rfl)))), hn _ _ (Below.refl _ _) trivial⟩
            · intro y W next hl hJ hd hn
              exact Or.inr ⟨wanted_undef (j := 7) (d := 25) rfl rfl rfl ((hl.1 7 25 (by kernel_rfl) (by kernel_rfl)).trans (congrArg some (show y 7 = undef from hd 7 (by kernel_rfl)))), hn _ _ (Below.refl _ _) trivial⟩
            · intro y W next hl hJ hd hn
              exact Or.inr ⟨wanted_undef (j := 7) (d := 25) rfl rfl rfl ((hl.1 7 25 (by kernel_rfl) (by kernel_rfl)).trans (congrArg some (show y 7 = undef from hd 7 (by kernel_rfl)))), hn _ _ (Below.refl _ _) trivial⟩
            · intro y W next hl hJ hd hn
              exact Or.inr ⟨wanted_undef (j := 7) (d := 25) rfl rfl rfl ((hl.1 7 25 (by kernel_rfl) (by kernel_rfl)).trans (congrArg some (show y 7 = undef from hd 7 (by kernel_rfl)))), hn _ _ (Below.refl _ _) trivial⟩
            · intro y W next hl hJ hd hn
              exact Or.inr ⟨wanted_undef (j := 7) (d := 25) rfl rfl rfl ((hl.1 7 25 (by kernel_rfl) (by kernel_rfl)).trans (congrArg some (show y 7 = undef from hd 7 (by kernel_rfl)))), hn _ _ (Below.refl _ _) trivial⟩
            · intro y W next hl hJ hd hn
              exact Or.inr ⟨wanted_undef (j := 7) (d := 25) rfl rfl rfl ((hl.1 7 25 (by kernel_rfl) (by kernel_rfl)).trans (congrArg some (show y 7 = undef from hd 7 (by kernel_rfl)))), hn _ _ (Below.refl _ _) trivial⟩
            · intro y W next hl hJ hd hn
              exact Or.inr ⟨wanted_undef (j := 7) (d := 25) rfl rfl rfl ((hl.1 7 25 (by kernel_rfl) (by kernel_rfl)).trans (congrArg some (show y 7 = undef from hd 7 (by kernel_rfl)))), hn _ _ (Below.refl _ _) trivial⟩
            · intro y W next hl hJ hd hn
              exact Or.inr ⟨wanted_undef (j := 7) (d := 25) rfl rfl rfl ((hl.1 7 25 (by kernel_rfl) (by kernel_rfl)).trans (congrArg some (show y 7 = undef from hd 7 (by kernel_rfl)))), hn _ _ (Below.refl _ _) trivial⟩
            · intro y W next hl hJ hd hn
              exact Or.inr ⟨wanted_not (j := 4) (d := 22) rfl rfl rfl ((hl.1 4 22 (by kernel_rfl) (by kernel_rfl)).trans (congrArg some (show y 4 = .bool true from hd 4 (by kernel_rfl)))), hn _ _ (Below.refl _ _) trivial⟩
            · intro y W next hl hJ hd hn
              refine Or.inl ⟨wanted_free rfl, fun ev ec ef hev => ?_⟩
              have e22 : ev (.tmp 22) =  (.bool true) := hev 22 _ ((hl.1 4 22 (by kernel_rfl) (by kernel_rfl)).trans (congrArg some (show y 4 =  (.bool true) from hd 4 (by kernel_rfl))))
              have e35 := hev 35 _ (hl.1 17 35 (by kernel_rfl) (by kernel_rfl))
              clear hd hl hev
              replace hJ := Lib.hid hJ
              go_simp
              exact hn _ _ (Below.refl _ _) rfl
            · intro y W next hl hJ hd hn
              refine Or.inl ⟨wanted_free rfl, fun ev ec ef hev => ?_⟩
              have e36 : ev (.tmp 36) =  (.bool true) := hev 36 _ ((hl.1 18 36 (by kernel_rfl) (by kernel_rfl)).trans (congrArg some (show y 18 =  (.bool true) from hd 18 (by kernel_rfl))))
              clear hd hl hev
              replace hJ := Lib.hid hJ
              go_simp
              exact hn _ _ (Below.refl _ _) rfl
            · intro y W next hl hJ hd hn
              exact Or.inr ⟨wanted_not (j := 19) (d := 37) rfl rfl rfl ((hl.1 19 37 (by kernel_rfl) (by kernel_rfl)).trans (congrArg some (show y 19 = .bool true from hd 19 (by kernel_rfl)))), hn _ _ (Below.refl _ _) trivial⟩
            · intro y W next hl hJ hd hn
              exact Or.inr ⟨wanted_not (j := 19) (d := 37) rfl rfl rfl ((hl.1 19 37 (by kernel_rfl) (by kernel_rfl)).trans (congrArg some (show y 19 = .bool true from hd 19 (by kernel_rfl)))), hn _ _ (Below.refl _ _) trivial⟩
            · intro y W next hl hJ hd hn
              exact Or.inr ⟨wanted_not (j := 19) (d := 37) rfl rfl rfl ((hl.1 19 37 (by kernel_rfl) (by kernel_rfl)).trans (congrArg some (show y 19 = .bool true from hd 19 (by kernel_rfl)))), hn _ _ (Below.refl _ _) trivial⟩
            · intro y W next hl hJ hd hn
              exact Or.inr ⟨wanted_not (j := 19) (d := 37) rfl rfl rfl ((hl.1 19 37 (by kernel_rfl) (by kernel_rfl)).trans (congrArg some (show y 19 = .bool true from hd 19 (by kernel_rfl)))), hn _ _ (Below.refl _ _) trivial⟩
            · intro y W next hl hJ hd hn
              refine Or.inl ⟨wanted_free rfl, fun ev ec ef hev => ?_⟩
              have e37 : ev (.tmp 37) =  (.bool true) := hev 37 _ ((hl.1 19 37 (by kernel_rfl) (by kernel_rfl)).trans (congrArg some (show y 19 =  (.bool true) from hd 19 (by kernel_rfl))))
              have e41 := hev 41 _ (hl.1 23 41 (by kernel_rfl) (by kernel_rfl))
              clear hd hl hev
              replace hJ := Lib.hid hJ
              go_simp
              exact hn _ _ (Below.refl _ _) rfl
            · intro y W next hl hJ hd hn
              refine Or.inl ⟨wanted_free rfl, fun ev ec ef hev => ?_⟩
              have e42 : ev (.tmp 42) =  (.bool true) := hev 42 _ ((hl.1 24 42 (by kernel_rfl) (by kernel_rfl)).trans (congrArg some (show y 24 =  (.bool true) from hd 24 (by kernel_rfl))))
              clear hd hl hev
              replace hJ := Lib.hid hJ
              go_simp
              exact hn _ _ (Below.refl _ _) rfl
            · intro y W next hl hJ hd hn
              exact Or.inr ⟨wanted_not (j := 25) (d := 43) rfl rfl rfl ((hl.1 25 43 (by kernel_rfl) (by kernel_rfl)).trans (congrArg some (show y 25 = .bool true from hd 25 (by kernel_rfl)))), hn _ _ (Below.refl _ _) trivial⟩
            · intro y W next hl hJ hd hn
              exact Or.inr ⟨wanted_not (j := 25) (d := 43) rfl rfl rfl ((hl.1 25 43 (by kernel_rfl) (by kernel_rfl)).trans (congrArg some (show y 25 = .bool true from hd 25 (by kernel_rfl)))), hn _ _ (Below.refl _ _) trivial⟩
            · intro y W next hl hJ hd hn
              exact Or.inr ⟨wanted_not (j := 25) (d := 43) rfl rfl rfl ((hl.1 25 43 (by kernel_rfl) (by kernel_rfl)).trans (congrArg some (show y 25 = .bool true from hd 25 (by kernel_rfl)))), hn _ _ (Below.refl _ _) trivial⟩
            · intro y W next hl hJ hd hn
              exact Or.inr ⟨wanted_not (j := 25) (d := 43) rfl rfl rfl ((hl.1 25 43 (by kernel_rfl) (by kernel_rfl)).trans (congrArg some (show y 25 = .bool true from hd 25 (by kernel_rfl)))), hn _ _ (Below.refl _ _) trivial⟩
            · intro y W next hl hJ hd hn
              refine Or.inl ⟨wanted_free rfl, fun ev ec ef hev => ?_⟩
              have e43 : ev (.tmp 43) =  (.bool true) := hev 43 _ ((hl.1 25 43 (by kernel_rfl) (by kernel_rfl)).trans (congrArg some (show y 25 =  (.bool true) from hd 25 (by kernel_rfl))))
              have e47 := hev 47 _ (hl.1 29 47 (by kernel_rfl) (by kernel_rfl))
              clear hd hl hev
              replace hJ := Lib.hid hJ
              go_simp
              exact hn _ _ (Below.refl _ _) rfl
            · intro y W next hl hJ hd hn
              refine Or.inl ⟨wanted_free rfl, fun ev ec ef hev => ?_⟩
              have e48 : ev (.tmp 48) =  (.bool true) := hev 48 _ ((hl.1 30 48 (by kernel_rfl) (by kernel_rfl)).trans (congrArg some (show y 30 =  (.bool true) from hd 30 (by kernel_rfl))))
              clear hd hl hev
              replace hJ := Lib.hid hJ
              go_simp
              exact hn _ _ (Below.refl _ _) rfl
            · intro y W next hl hJ hd hn
              exact Or.inr ⟨wanted_not (j := 31) (d := 49) rfl rfl rfl ((hl.1 31 49 (by kernel_rfl) (by kernel_rfl)).trans (congrArg some (show y 31 = .bool true from hd 31 (by kernel_rfl)))), hn _ _ (Below.refl _ _) trivial⟩
            · intro y W next hl hJ hd hn
              exact Or.inr ⟨wanted_not (j := 31) (d := 49) rfl rfl rfl ((hl.1 31 49 (by kernel_rfl) (by kernel_rfl)).trans (congrArg some (show y 31 = .bool true from hd 31 (by kernel_rfl)))), hn _ _ (Below.refl _ _) trivial⟩
            · intro y W next hl hJ hd hn
              exact Or.inr ⟨wanted_not (j := 31) (d := 49) rfl rfl rfl ((hl.1 31 49 (by kernel_rfl) (by kernel_rfl)).trans (congrArg some (show y 31 = .bool true from hd 31 (by kernel_rfl)))), hn _ _ (Below.refl _ _) trivial⟩
            · intro y W next hl hJ hd hn
              exact Or.inr ⟨wanted_not (j := 31) (d := 49) rfl rfl rfl ((hl.1 31 49 (by kernel_rfl) (by kernel_rfl)).trans (congrArg some (show y 31 = .bool true from hd 31 (by kernel_rfl)))), hn _ _ (Below.refl _ _) trivial⟩
            · intro y W next hl hJ hd hn
              refine Or.inl ⟨wanted_free rfl, fun ev ec ef hev => ?_⟩
              have e49 : ev (.tmp 49) =  (.bool true) := hev 49 _ ((hl.1 31 49 (by kernel_rfl) (by kernel_rfl)).trans (congrArg some (show y 31 =  (.bool true) from hd 31 (by kernel_rfl))))
              have e53 := hev 53 _ (hl.1 35 53 (by kernel_rfl) (by kernel_rfl))
              clear hd hl hev
              replace hJ := Lib.hid hJ
              go_simp
              exact hn _ _ (Below.refl _ _) rfl

            · intro y W hb3 hall
              have hy : y 36 = .bool true := hall 36 (by decide)
              replace hb2 := Lib.hid (below_then hb2.out hb3 (Nat.le_refl _))
              clear hall hb3
              simp only [lay_cons, lay_nil]
              rw [hy]
              clear hy
              simp only [Act.put, List.setIfInBounds_toArray]
              simp only [List.set_cons_succ, List.set_cons_zero]
              go_wp2
              go_ret
              exact ⟨by rw [hbad.out]; rfl, hb2.out⟩
          | true =>
            cases hle : lessB l[j].name l[j + 1].name with
            | false =>
              have hbad := Lib.hid (vaultB_bad hlt (okAt_fall hlt hle))
              clear hup
              obtain ⟨V, hV⟩ : ∃ V, V = wr.alloc (.cells #[.string l[j + 1].name, .int .i64 l[j + 1].seat, .string l[j + 1].word, .string l[j + 1].prompt] 100) := ⟨_, rfl⟩
              have hbx := Lib.hid (box4 (w := wr) l[j + 1] 100)
              rw [← hV] at hbx
              have hb2 := Lib.hid (show Below w.heap.size w V by rw [hV]; exact hb.out.alloc hb.out.size _)
              have hsub := Lib.hid (show ((j + 1 : Nat) : Int) - 1 = (j : Int) by omega)
              go_wp2
              rw [← hV]
              replace hsecs := Lib.hid (show Secs V (.slice (some ⟨b, off, none⟩) l.length cap) l by rw [hV]; exact hsecs.out.alloc _)
              clear hV c0 c1 c2 c3
              refine wp_region_known [(.is (.pointer (some ⟨wr.heap.size, 0, none⟩))), (.is (.string l[j + 1].name)), (.is (.bool true)), (.is (.bool false)), (.is (.bool false)), (.is (.int .i64 ((j + 1 : Nat) : Int))), (.is (.bool true)), (.is (.bool true)), (.is (.slice (some ⟨b, off, none⟩) l.length cap)), (.is (.int .i64 ((j + 1 : Nat) : Int))), (.is (.int .i64 (j : Int))), (.is (.pointer (some ⟨b, off + j * 4, none⟩))), (.is (.pointer (some ⟨b, off + j * 4, none⟩))), (.is (.string l[j].name)), (.is (.pointer (some ⟨wr.heap.size, 0, none⟩))), (.is (.string l[j + 1].name)), (.is (.bool true)), (.is (.bool true)), (.is (.bool true)), (.is (.bool true)), .any, .any, .any, .any, (.is (.bool true)), (.is (.bool true)), .any, .any, .any, .any, (.is (.bool true)), (.is (.bool true)), .any, .any, .any, .any, (.is (.bool true))] (by kernel_rfl) (by kernel_rfl) (by kernel_rfl) ⟨?_, ?_, ?_, ?_, ?_, ?_, ?_, ?_, ?_, ?_, ?_, ?_, ?_, ?_, ?_, ?_, ?_, ?_, ?_, ?_, ?_, ?_, ?_, ?_, ?_, ?_, ?_, ?_, ?_, ?_, ?_, ?_, ?_, ?_, ?_, ?_, ?_, trivial⟩ ?_
              · intro y W next hl hJ hd hn
                refine Or.inl ⟨wanted_free rfl, fun ev ec ef hev => ?_⟩
                have e4 : ev (.tmp 4) = .pointer (some ⟨wr.heap.size, 0, none⟩) := hev 4 _ ((hl.2 4 (by kernel_rfl)).trans (by kernel_rfl))
                clear hd hl hev
                replace hJ := Lib.hid hJ
                go_simp
                exact hn _ _ (Below.refl _ _) rfl
              · intro y W next hl hJ hd hn
                refine Or.inl ⟨wanted_free rfl, fun ev ec ef hev => ?_⟩
                have e18 : ev (.tmp 18) =  (.pointer (some ⟨wr.heap.size, 0, none⟩)) := hev 18 _ ((hl.1 0 18 (by kernel_rfl) (by kernel_rfl)).trans (congrArg some (show y 0 =  (.pointer (some ⟨wr.heap.size, 0, none⟩)) from hd 0 (by kernel_rfl))))
                clear hd hl hev
                obtain ⟨x0, x1, x2, x3⟩ := (hbx.out.below hJ hbx.out.lt).four
                replace hJ := Lib.hid hJ
                go_simp
                exact hn _ _ (Below.refl _ _) rfl
              · intro y W next hl hJ hd hn
                refine Or.inl ⟨wanted_free rfl, fun ev ec ef hev => ?_⟩
                have e19 : ev (.tmp 19) =  (.string l[j + 1].name) := hev 19 _ ((hl.1 1 19 (by kernel_rfl) (by kernel_rfl)).trans (congrArg some (show y 1 =  (.string l[j + 1].name) from hd 1 (by kernel_rfl))))
                clear hd hl hev
                replace hJ := Lib.hid hJ
                go_simp
                refine (specWord_any _ hwf.out.1 _).mono ?_
                rintro e w' ⟨rfl, rfl⟩
                exact ⟨_, rfl, hn _ _ (Below.refl _ _) (by rw [hc1]; rfl)⟩
              · intro y W next hl hJ hd hn
                refine Or.inl ⟨wanted_free rfl, fun ev ec ef hev => ?_⟩
                have e20 : ev (.tmp 20) =  (.bool true) := hev 20 _ ((hl.1 2 20 (by kernel_rfl) (by kernel_rfl)).trans (congrArg some (show y 2 =  (.bool true) from hd 2 (by kernel_rfl))))
                clear hd hl hev
                replace hJ := Lib.hid hJ
                go_simp
                exact hn _ _ (Below.refl _ _) rfl
              · intro y W next hl hJ hd hn
                refine Or.inl ⟨wanted_free rfl, fun ev ec ef hev => ?_⟩
                have e21 : ev (.tmp 21) =  (.bool false) := hev 21 _ ((hl.1 3 21 (by kernel_rfl) (by kernel_rfl)).trans (congrArg some (show y 3 =  (.bool false) from hd 3 (by kernel_rfl))))
                clear hd hl hev
                replace hJ := Lib.hid hJ
                go_simp
                exact hn _ _ (Below.refl _ _) rfl
              · intro y W next hl hJ hd hn
                refine Or.inl ⟨wanted_of (j := 4) (d := 22) rfl rfl rfl ((hl.1 4 22 (by kernel_rfl) (by kernel_rfl)).trans (congrArg some (show y 4 = .bool false from hd 4 (by kernel_rfl)))), fun ev ec ef hev => ?_⟩
                have e3 : ev (.tmp 3) = .int .i64 ((j + 1 : Nat) : Int) := hev 3 _ ((hl.2 3 (by kernel_rfl)).trans (by kernel_rfl))
                clear hd hl hev
                replace hJ := Lib.hid hJ
                go_simp
                exact hn _ _ (Below.refl _ _) rfl
              · intro y W next hl hJ hd hn
                refine Or.inl ⟨wanted_of (j := 4) (d := 22) rfl rfl rfl ((hl.1 4 22 (by kernel_rfl) (by kernel_rfl)).trans (congrArg some (show y 4 = .bool false from hd 4 (by kernel_rfl)))), fun ev ec ef hev => ?_⟩
                have e23 : ev (.tmp 23) =  (.int .i64 ((j + 1 : Nat) : Int)) := hev 23 _ ((hl.1 5 23 (by kernel_rfl) (by kernel_rfl)).trans (congrArg some (show y 5 =  (.int .i64 ((j + 1 : Nat) : Int)) from hd 5 (by kernel_rfl))))
                clear hd hl hev
                replace hJ := Lib.hid hJ
                go_simp
                exact hn _ _ (Below.refl _ _) rfl
              · intro y W next hl hJ hd hn
                refine Or.inl ⟨wanted_of (j := 4) (d := 22) rfl rfl rfl ((hl.1 4 22 (by kernel_rfl) (by kernel_rfl)).trans (congrArg some (show y 4 = .bool false from hd 4 (by kernel_rfl)))), fun ev ec ef hev => ?_⟩
                have e24 : ev (.tmp 24) =  (.bool true) := hev 24 _ ((hl.1 6 24 (by kernel_rfl) (by kernel_rfl)).trans (congrArg some (show y 6 =  (.bool true) from hd 6 (by kernel_rfl))))
                clear hd hl hev
                replace hJ := Lib.hid hJ
                go_simp
                exact hn _ _ (Below.refl _ _) rfl
              · intro y W next hl hJ hd hn
                refine Or.inl ⟨wanted_of (j := 7) (d := 25) rfl rfl rfl ((hl.1 7 25 (by kernel_rfl) (by kernel_rfl)).trans (congrArg some (show y 7 = .bool true from hd 7 (by kernel_rfl)))), fun ev ec ef hev => ?_⟩
                have e0 : ev (.tmp 0) = .slice (some ⟨b, off, none⟩) l.length cap := hev 0 _ ((hl.2 0 (by kernel_rfl)).trans (by kernel_rfl))
                clear hd hl hev
                replace hJ := Lib.hid hJ
                go_simp
                exact hn _ _ (Below.refl _ _) rfl
              · intro y W next hl hJ hd hn
                refine Or.inl ⟨wanted_of (j := 7) (d := 25) rfl rfl rfl ((hl.1 7 25 (by kernel_rfl) (by kernel_rfl)).trans (congrArg some (show y 7 = .bool true from hd 7 (by kernel_rfl)))), fun ev ec ef hev => ?_⟩
                have e3 : ev (.tmp 3) = .int .i64 ((j + 1 : Nat) : Int) := hev 3 _ ((hl.2 3 (by kernel_rfl)).trans (by kernel_rfl))
                clear hd hl hev
                replace hJ := Lib.hid hJ
                go_simp
                exact hn _ _ (Below.refl _ _) rfl
              · intro y W next hl hJ hd hn
                refine Or.inl ⟨wanted_of (j := 7) (d := 25) rfl rfl rfl ((hl.1 7 25 (by kernel_rfl) (by kernel_rfl)).trans (congrArg some (show y 7 = .bool true from hd 7 (by kernel_rfl)))), fun ev ec ef hev => ?_⟩
                have e27 : ev (.tmp 27) =  (.int .i64 ((j + 1 : Nat) : Int)) := hev 27 _ ((hl.1 9 27 (by kernel_rfl) (by kernel_rfl)).trans (congrArg some (show y 9 =  (.int .i64 ((j + 1 : Nat) : Int)) from hd 9 (by kernel_rfl))))
                clear hd hl hev
                replace hJ := Lib.hid hJ
                have hsub := hsub.out
                go_simp
                refine hn _ _ (Below.refl _ _) ?_
                show Value.int .i64 _ = Value.int .i64 (j : Int)
                rw [wrap_small (j : Int) (by omega) (by omega)]
              · intro y W next hl hJ hd hn
                refine Or.inl ⟨wanted_of (j := 7) (d := 25) rfl rfl rfl ((hl.1 7 25 (by kernel_rfl) (by kernel_rfl)).trans (congrArg some (show y 7 = .bool true from hd 7 (by kernel_rfl)))), fun ev ec ef hev => ?_⟩
                have e26 : ev (.tmp 26) =  (.slice (some ⟨b, off, none⟩) l.length cap) := hev 26 _ ((hl.1 8 26 (by kernel_rfl) (by kernel_rfl)).trans (congrArg some (show y 8 =  (.slice (some ⟨b, off, none⟩) l.length cap) from hd 8 (by kernel_rfl))))
                have e28 : ev (.tmp 28) =  (.int .i64 (j : Int)) := hev 28 _ ((hl.1 10 28 (by kernel_rfl) (by kernel_rfl)).trans (congrArg some (show y 10 =  (.int .i64 (j : Int)) from hd 10 (by kernel_rfl))))
                clear hd hl hev
                have hjl : j < l.length := by omega
                replace hJ := Lib.hid hJ
                go_simp
                exact hn _ _ (Below.refl _ _) rfl
              · intro y W next hl hJ hd hn
                refine Or.inl ⟨wanted_of (j := 7) (d := 25) rfl rfl rfl ((hl.1 7 25 (by kernel_rfl) (by kernel_rfl)).trans (congrArg some (show y 7 = .bool true from hd 7 (by kernel_rfl)))), fun ev ec ef hev => ?_⟩
                have e29 : ev (.tmp 29) =  (.pointer (some ⟨b, off + j * 4, none⟩)) := hev 29 _ ((hl.1 11 29 (by kernel_rfl) (by kernel_rfl)).trans (congrArg some (show y 11 =  (.pointer (some ⟨b, off + j * 4, none⟩)) from hd 11 (by kernel_rfl))))
                clear hd hl hev
                replace hJ := Lib.hid hJ
                go_simp
                exact hn _ _ (Below.refl _ _) rfl
              · intro y W next hl hJ hd hn
                refine Or.inl ⟨wanted_of (j := 7) (d := 25) rfl rfl rfl ((hl.1 7 25 (by kernel_rfl) (by kernel_rfl)).trans (congrArg some (show y 7 = .bool true from hd 7 (by kernel_rfl)))), fun ev ec ef hev => ?_⟩
                have e30 : ev (.tmp 30) =  (.pointer (some ⟨b, off + j * 4, none⟩)) := hev 30 _ ((hl.1 12 30 (by kernel_rfl) (by kernel_rfl)).trans (congrArg some (show y 12 =  (.pointer (some ⟨b, off + j * 4, none⟩)) from hd 12 (by kernel_rfl))))
                clear hd hl hev
                obtain ⟨b', off', e', hb', p0, p1, p2, p3⟩ := (hsecs.out.below hJ).four j (by omega)
                cases e'
                replace hJ := Lib.hid hJ
                go_simp
                exact hn _ _ (Below.refl _ _) rfl
              · intro y W next hl hJ hd hn
                refine Or.inl ⟨wanted_of (j := 7) (d := 25) rfl rfl rfl ((hl.1 7 25 (by kernel_rfl) (by kernel_rfl)).trans (congrArg some (show y 7 = .bool true from hd 7 (by kernel_rfl)))), fun ev ec ef hev => ?_⟩
                have e4 : ev (.tmp 4) = .pointer (some ⟨wr.heap.size, 0, none⟩) := hev 4 _ ((hl.2 4 (by kernel_rfl)).trans (by kernel_rfl))
                clear hd hl hev
                replace hJ := Lib.hid hJ
                go_simp
                exact hn _ _ (Below.refl _ _) rfl
              · intro y W next hl hJ hd hn
                refine Or.inl ⟨wanted_of (j := 7) (d := 25) rfl rfl rfl ((hl.1 7 25 (by kernel_rfl) (by kernel_rfl)).trans (congrArg some (show y 7 = .bool true from hd 7 (by kernel_rfl)))), fun ev ec ef hev => ?_⟩
                have e32 : ev (.tmp 32) =  (.pointer (some ⟨wr.heap.size, 0, none⟩)) := hev 32 _ ((hl.1 14 32 (by kernel_rfl) (by kernel_rfl)).trans (congrArg some (show y 14 =  (.pointer (some ⟨wr.heap.size, 0, none⟩)) from hd 14 (by kernel_rfl))))
                clear hd hl hev
                obtain ⟨x0, x1, x2, x3⟩ := (hbx.out.below hJ hbx.out.lt).four
                replace hJ := Lib.hid hJ
                go_simp
                exact hn _ _ (Below.refl _ _) rfl
              · intro y W next hl hJ hd hn
                refine Or.inl ⟨wanted_of (j := 7) (d := 25) rfl rfl rfl ((hl.1 7 25 (by kernel_rfl) (by kernel_rfl)).trans (congrArg some (show y 7 = .bool true from hd 7 (by kernel_rfl)))), fun ev ec ef hev => ?_⟩
                have e31 : ev (.tmp 31) =  (.string l[j].name) := hev 31 _ ((hl.1 13 31 (by kernel_rfl) (by kernel_rfl)).trans (congrArg some (show y 13 =  (.string l[j].name) from hd 13 (by kernel_rfl))))
                have e33 : ev (.tmp 33) =  (.string l[j + 1].name) := hev 33 _ ((hl.1 15 33 (by kernel_rfl) (by kernel_rfl)).trans (congrArg some (show y 15 =  (.string l[j + 1].name) from hd 15 (by kernel_rfl))))
                clear hd hl hev
                replace hJ := Lib.hid hJ
                go_simp
                refine hn _ _ (Below.refl _ _) ?_
                show Value.bool (!lessB l[j].name l[j + 1].name) = _
                rw [hle]; rfl
              · intro y W next hl hJ hd hn
                refine Or.inl ⟨wanted_of (j := 4) (d := 22) rfl rfl rfl ((hl.1 4 22 (by kernel_rfl) (by kernel_rfl)).trans (congrArg some (show y 4 = .bool false from hd 4 (by kernel_rfl)))), fun ev ec ef hev => ?_⟩
                have e25 : ev (.tmp 25) =  (.bool true) := hev 25 _ ((hl.1 7 25 (by kernel_rfl) (by kernel_rfl)).trans (congrArg some (show y 7 =  (.bool true) from hd 7 (by kernel_rfl))))
                have e34 : ev (.tmp 34) =  (.bool true) := hev 34 _ ((hl.1 16 34 (by kernel_rfl) (by kernel_rfl)).trans (congrArg some (show y 16 =  (.bool true) from hd 16 (by kernel_rfl))))
                clear hd hl hev
                replace hJ := Lib.hid hJ
                go_simp
                exact hn _ _ (Below.refl _ _) rfl
              · intro y W next hl hJ hd hn
                refine Or.inl ⟨wanted_free rfl, fun ev ec ef hev => ?_⟩
                have e22 : ev (.tmp 22) =  (.bool false) := hev 22 _ ((hl.1 4 22 (by kernel_rfl) (by kernel_rfl)).trans (congrArg some (show y 4 =  (.bool false) from hd 4 (by kernel_rfl))))
                have e35 : ev (.tmp 35) =  (.bool true) := hev 35 _ ((hl.1 17 35 (by kernel_rfl) (by kernel_rfl)).trans (congrArg some (show y 17 =  (.bool true) from hd 17 (by kernel_rfl))))
                clear hd hl hev
                replace hJ := Lib.hid hJ
                go_simp
                exact hn _ _ (Below.refl _ _) rfl
              · intro y W next hl hJ hd hn
                refine Or.inl ⟨wanted_free rfl, fun ev ec ef hev => ?_⟩
                have e36 : ev (.tmp 36) =  (.bool true) := hev 36 _ ((hl.1 18 36 (by kernel_rfl) (by kernel_rfl)).trans (congrArg some (show y 18 =  (.bool true) from hd 18 (by kernel_rfl))))
                clear hd hl hev
                replace hJ := Lib.hid hJ
                go_simp
                exact hn _ _ (Below.refl _ _) rfl
              · intro y W next hl hJ hd hn
                exact Or.inr ⟨wanted_not (j := 19) (d := 37) rfl rfl rfl ((hl.1 19 37 (by kernel_rfl) (by kernel_rfl)).trans (congrArg some (show y 19 = .bool true from hd 19 (by kernel_rfl)))), hn _ _ (Below.refl _ _) trivial⟩
              · intro y W next hl hJ hd hn
                exact Or.inr ⟨wanted_not (j := 19) (d := 37) rfl rfl rfl ((hl.1 19 37 (by kernel_rfl) (by kernel_rfl)).trans (congrArg some (show y 19 = .bool true from hd 19 (by kernel_rfl)))), hn _ _ (Below.refl _ _) trivial⟩
              · intro y W next hl hJ hd hn
                exact Or.inr ⟨wanted_not (j := 19) (d := 37) rfl rfl rfl ((hl.1 19 37 (by kernel_rfl) (by kernel_rfl)).trans (congrArg some (show y 19 = .bool true from hd 19 (by kernel_rfl)))), hn _ _ (Below.refl _ _) trivial⟩
              · intro y W next hl hJ hd hn
                exact Or.inr ⟨wanted_not (j := 19) (d := 37) rfl rfl rfl ((hl.1 19 37 (by kernel_rfl) (by kernel_rfl)).trans (congrArg some (show y 19 = .bool true from hd 19 (by kernel_rfl)))), hn _ _ (Below.refl _ _) trivial⟩
              · intro y W next hl hJ hd hn
                refine Or.inl ⟨wanted_free rfl, fun ev ec ef hev => ?_⟩
                have e37 : ev (.tmp 37) =  (.bool true) := hev 37 _ ((hl.1 19 37 (by kernel_rfl) (by kernel_rfl)).trans (congrArg some (show y 19 =  (.bool true) from hd 19 (by kernel_rfl))))
                have e41 := hev 41 _ (hl.1 23 41 (by kernel_rfl) (by kernel_rfl))
                clear hd hl hev
                replace hJ := Lib.hid hJ
                go_simp
                exact hn _ _ (Below.refl _ _) rfl
              · intro y W next hl hJ hd hn
                refine Or.inl ⟨wanted_free rfl, fun ev ec ef hev => ?_⟩
                have e42 : ev (.tmp 42) =  (.bool true) := hev 42 _ ((hl.1 24 42 (by kernel_rfl) (by kernel_rfl)).trans (congrArg some (show y 24 =  (.bool true) from hd 24 (by kernel_rfl))))
                clear hd hl hev
                replace hJ := Lib.hid hJ
                go_simp
                exact hn _ _ (Below.refl _ _) rfl
              · intro y W next hl hJ hd hn
                exact Or.inr ⟨wanted_not (j := 25) (d := 43) rfl rfl rfl ((hl.1 25 43 (by kernel_rfl) (by kernel_rfl)).trans (congrArg some (show y 25 = .bool true from hd 25 (by kernel_rfl)))), hn _ _ (Below.refl _ _) trivial⟩
              · intro y W next hl hJ hd hn
                exact Or.inr ⟨wanted_not (j := 25) (d := 43) rfl rfl rfl ((hl.1 25 43 (by kernel_rfl) (by kernel_rfl)).trans (congrArg some (show y 25 = .bool true from hd 25 (by kernel_rfl)))), hn _ _ (Below.refl _ _) trivial⟩
              · intro y W next hl hJ hd hn
                exact Or.inr ⟨wanted_not (j := 25) (d := 43) rfl rfl rfl ((hl.1 25 43 (by kernel_rfl) (by kernel_rfl)).trans (congrArg some (show y 25 = .bool true from hd 25 (by kernel_rfl)))), hn _ _ (Below.refl _ _) trivial⟩
              · intro y W next hl hJ hd hn
                exact Or.inr ⟨wanted_not (j := 25) (d := 43) rfl rfl rfl ((hl.1 25 43 (by kernel_rfl) (by kernel_rfl)).trans (congrArg some (show y 25 = .bool true from hd 25 (by kernel_rfl)))), hn _ _ (Below.refl _ _) trivial⟩
              · intro y W next hl hJ hd hn
                refine Or.inl ⟨wanted_free rfl, fun ev ec ef hev => ?_⟩
                have e43 : ev (.tmp 43) =  (.bool true) := hev 43 _ ((hl.1 25 43 (by kernel_rfl) (by kernel_rfl)).trans (congrArg some (show y 25 =  (.bool true) from hd 25 (by kernel_rfl))))
                have e47 := hev 47 _ (hl.1 29 47 (by kernel_rfl) (by kernel_rfl))
                clear hd hl hev
                replace hJ := Lib.hid hJ
                go_simp
                exact hn _ _ (Below.refl _ _) rfl
              · intro y W next hl hJ hd hn
                refine Or.inl ⟨wanted_free rfl, fun ev ec ef hev => ?_⟩
                have e48 : ev (.tmp 48) =  (.bool true) := hev 48 _ ((hl.1 30 48 (by kernel_rfl) (by kernel_rfl)).trans (congrArg some (show y 30 =  (.bool true) from hd 30 (by kernel_rfl))))
                clear hd hl hev
                replace hJ := Lib.hid hJ
                go_simp
                exact hn _ _ (Below.refl _ _) rfl
              · intro y W next hl hJ hd hn
                exact Or.inr ⟨wanted_not (j := 31) (d := 49) rfl rfl rfl ((hl.1 31 49 (by kernel_rfl) (by kernel_rfl)).trans (congrArg some (show y 31 = .bool true from hd 31 (by kernel_rfl)))), hn _ _ (Below.refl _ _) trivial⟩
              · intro y W next hl hJ hd hn
                exact Or.inr ⟨wanted_not (j := 31) (d := 49) rfl rfl rfl ((hl.1 31 49 (by kernel_rfl) (by kernel_rfl)).trans (congrArg some (show y 31 = .bool true from hd 31 (by kernel_rfl)))), hn _ _ (Below.refl _ _) trivial⟩
              · intro y W next hl hJ hd hn
                exact Or.inr ⟨wanted_not (j := 31) (d := 49) rfl rfl rfl ((hl.1 31 49 (by kernel_rfl) (by kernel_rfl)).trans (congrArg some (show y 31 = .bool true from hd 31 (by kernel_rfl)))), hn _ _ (Below.refl _ _) trivial⟩
              · intro y W next hl hJ hd hn
                exact Or.inr ⟨wanted_not (j := 31) (d := 49) rfl rfl rfl ((hl.1 31 49 (by kernel_rfl) (by kernel_rfl)).trans (congrArg some (show y 31 = .bool true from hd 31 (by kernel_rfl)))), hn _ _ (Below.refl _ _) trivial⟩
              · intro y W next hl hJ hd hn
                refine Or.inl ⟨wanted_free rfl, fun ev ec ef hev => ?_⟩
                have e49 : ev (.tmp 49) =  (.bool true) := hev 49 _ ((hl.1 31 49 (by kernel_rfl) (by kernel_rfl)).trans (congrArg some (show y 31 =  (.bool true) from hd 31 (by kernel_rfl))))
                have e53 := hev 53 _ (hl.1 35 53 (by kernel_rfl) (by kernel_rfl))
                clear hd hl hev
                replace hJ := Lib.hid hJ
                go_simp
                exact hn _ _ (Below.refl _ _) rfl

              · intro y W hb3 hall
                have hy : y 36 = .bool true := hall 36 (by decide)
                replace hb2 := Lib.hid (below_then hb2.out hb3 (Nat.le_refl _))
                clear hall hb3
                simp only [lay_cons, lay_nil]
                rw [hy]
                clear hy
                simp only [Act.put, List.setIfInBounds_toArray]
                simp only [List.set_cons_succ, List.set_cons_zero]
                go_wp2
                go_ret
                exact ⟨by rw [hbad.out]; rfl, hb2.out⟩
            | true =>
              cases hc2 : isB l[j + 1].seat 0 2 with
              | false =>
                have hbad := Lib.hid (vaultB_bad hlt (okAt_bad hlt (show secOk l[j + 1] = false by rw [secOk_eq, hc1, hc2]; rfl)))
                clear hup
                obtain ⟨V, hV⟩ : ∃ V, V = wr.alloc (.cells #[.string l[j + 1].name, .int .i64 l[j + 1].seat, .string l[j + 1].word, .string l[j + 1].prompt] 100) := ⟨_, rfl⟩
                have hbx := Lib.hid (box4 (w := wr) l[j + 1] 100)
                rw [← hV] at hbx
                have hb2 := Lib.hid (show Below w.heap.size w V by rw [hV]; exact hb.out.alloc hb.out.size _)
                have hsub := Lib.hid (show ((j + 1 : Nat) : Int) - 1 = (j : Int) by omega)
                go_wp2
                rw [← hV]
                replace hsecs := Lib.hid (show Secs V (.slice (some ⟨b, off, none⟩) l.length cap) l by rw [hV]; exact hsecs.out.alloc _)
                clear hV c0 c1 c2 c3
                refine wp_region_known [(.is (.pointer (some ⟨wr.heap.size, 0, none⟩))), (.is (.string l[j + 1].name)), (.is (.bool true)), (.is (.bool false)), (.is (.bool false)), (.is (.int .i64 ((j + 1 : Nat) : Int))), (.is (.bool true)), (.is (.bool true)), (.is (.slice (some ⟨b, off, none⟩) l.length cap)), (.is (.int .i64 ((j + 1 : Nat) : Int))), (.is (.int .i64 (j : Int))), (.is (.pointer (some ⟨b, off + j * 4, none⟩))), (.is (.pointer (some ⟨b, off + j * 4, none⟩))), (.is (.string l[j].name)), (.is (.pointer (some ⟨wr.heap.size, 0, none⟩))), (.is (.string l[j + 1].name)), (.is (.bool false)), (.is (.bool false)), (.is (.bool false)), (.is (.bool false)), (.is (.pointer (some ⟨wr.heap.size, 1, none⟩))), (.is (.int .i64 l[j + 1].seat)), (.is (.bool false)), (.is (.bool true)), (.is (.bool true)), (.is (.bool true)), .any, .any, .any, .any, (.is (.bool true)), (.is (.bool true)), .any, .any, .any, .any, (.is (.bool true))] (by kernel_rfl) (by kernel_rfl) (by kernel_rfl) ⟨?_, ?_, ?_, ?_, ?_, ?_, ?_, ?_, ?_, ?_, ?_, ?_, ?_, ?_, ?_, ?_, ?_, ?_, ?_, ?_, ?_, ?_, ?_, ?_, ?_, ?_, ?_, ?_, ?_, ?_, ?_, ?_, ?_, ?_, ?_, ?_, ?_, trivial⟩ ?_
                · intro y W next hl hJ hd hn
                  refine Or.inl ⟨wanted_free rfl, fun ev ec ef hev => ?_⟩
                  have e4 : ev (.tmp 4) = .pointer (some ⟨wr.heap.size, 0, none⟩) := hev 4 _ ((hl.2 4 (by kernel_rfl)).trans (by kernel_rfl))
                  clear hd hl hev
                  replace hJ := Lib.hid hJ
                  go_simp
                  exact hn _ _ (Below.refl _ _) rfl
                · intro y W next hl hJ hd hn
                  refine Or.inl ⟨wanted_free rfl, fun ev ec ef hev => ?_⟩
                  have e18 : ev (.tmp 18) =  (.pointer (some ⟨wr.heap.size, 0, none⟩)) := hev 18 _ ((hl.1 0 18 (by kernel_rfl) (by kernel_rfl)).trans (congrArg some (show y 0 =  (.pointer (some ⟨wr.heap.size, 0, none⟩)) from hd 0 (by kernel_rfl))))
                  clear hd hl hev
                  obtain ⟨x0, x1, x2, x3⟩ := (hbx.out.below hJ hbx.out.lt).four
                  replace hJ := Lib.hid hJ
                  go_simp
                  exact hn _ _ (Below.refl _ _) rfl
                · intro y W next hl hJ hd hn
                  refine Or.inl ⟨wanted_free rfl, fun ev ec ef hev => ?_⟩
                  have e19 : ev (.tmp 19) =  (.string l[j + 1].name) := hev 19 _ ((hl.1 1 19 (by kernel_rfl) (by kernel_rfl)).trans (congrArg some (show y 1 =  (.string l[j + 1].name) from hd 1 (by kernel_rfl))))
                  clear hd hl hev
                  replace hJ := Lib.hid hJ
                  go_simp
                  refine (specWord_any _ hwf.out.1 _).mono ?_
                  rintro e w' ⟨rfl, rfl⟩
                  exact ⟨_, rfl, hn _ _ (Below.refl _ _) (by rw [hc1]; rfl)⟩
                · intro y W next hl hJ hd hn
                  refine Or.inl ⟨wanted_free rfl, fun ev ec ef hev => ?_⟩
                  have e20 : ev (.tmp 20) =  (.bool true) := hev 20 _ ((hl.1 2 20 (by kernel_rfl) (by kernel_rfl)).trans (congrArg some (show y 2 =  (.bool true) from hd 2 (by kernel_rfl))))
                  clear hd hl hev
                  replace hJ := Lib.hid hJ
                  go_simp
                  exact hn _ _ (Below.refl _ _) rfl
                · intro y W next hl hJ hd hn
                  refine Or.inl ⟨wanted_free rfl, fun ev ec ef hev => ?_⟩
                  have e21 : ev (.tmp 21) =  (.bool false) := hev 21 _ ((hl.1 3 21 (by kernel_rfl) (by kernel_rfl)).trans (congrArg some (show y 3 =  (.bool false) from hd 3 (by kernel_rfl))))
                  clear hd hl hev
                  replace hJ := Lib.hid hJ
                  go_simp
                  exact hn _ _ (Below.refl _ _) rfl
                · intro y W next hl hJ hd hn
                  refine Or.inl ⟨wanted_of (j := 4) (d := 22) rfl rfl rfl ((hl.1 4 22 (by kernel_rfl) (by kernel_rfl)).trans (congrArg some (show y 4 = .bool false from hd 4 (by kernel_rfl)))), fun ev ec ef hev => ?_⟩
                  have e3 : ev (.tmp 3) = .int .i64 ((j + 1 : Nat) : Int) := hev 3 _ ((hl.2 3 (by kernel_rfl)).trans (by kernel_rfl))
                  clear hd hl hev
                  replace hJ := Lib.hid hJ
                  go_simp
                  exact hn _ _ (Below.refl _ _) rfl
                · intro y W next hl hJ hd hn
                  refine Or.inl ⟨wanted_of (j := 4) (d := 22) rfl rfl rfl ((hl.1 4 22 (by kernel_rfl) (by kernel_rfl)).trans (congrArg some (show y 4 = .bool false from hd 4 (by kernel_rfl)))), fun ev ec ef hev => ?_⟩
                  have e23 : ev (.tmp 23) =  (.int .i64 ((j + 1 : Nat) : Int)) := hev 23 _ ((hl.1 5 23 (by kernel_rfl) (by kernel_rfl)).trans (congrArg some (show y 5 =  (.int .i64 ((j + 1 : Nat) : Int)) from hd 5 (by kernel_rfl))))
                  clear hd hl hev
                  replace hJ := Lib.hid hJ
                  go_simp
                  exact hn _ _ (Below.refl _ _) rfl
                · intro y W next hl hJ hd hn
                  refine Or.inl ⟨wanted_of (j := 4) (d := 22) rfl rfl rfl ((hl.1 4 22 (by kernel_rfl) (by kernel_rfl)).trans (congrArg some (show y 4 = .bool false from hd 4 (by kernel_rfl)))), fun ev ec ef hev => ?_⟩
                  have e24 : ev (.tmp 24) =  (.bool true) := hev 24 _ ((hl.1 6 24 (by kernel_rfl) (by kernel_rfl)).trans (congrArg some (show y 6 =  (.bool true) from hd 6 (by kernel_rfl))))
                  clear hd hl hev
                  replace hJ := Lib.hid hJ
                  go_simp
                  exact hn _ _ (Below.refl _ _) rfl
                · intro y W next hl hJ hd hn
                  refine Or.inl ⟨wanted_of (j := 7) (d := 25) rfl rfl rfl ((hl.1 7 25 (by kernel_rfl) (by kernel_rfl)).trans (congrArg some (show y 7 = .bool true from hd 7 (by kernel_rfl)))), fun ev ec ef hev => ?_⟩
                  have e0 : ev (.tmp 0) = .slice (some ⟨b, off, none⟩) l.length cap := hev 0 _ ((hl.2 0 (by kernel_rfl)).trans (by kernel_rfl))
                  clear hd hl hev
                  replace hJ := Lib.hid hJ
                  go_simp
                  exact hn _ _ (Below.refl _ _) rfl
                · intro y W next hl hJ hd hn
                  refine Or.inl ⟨wanted_of (j := 7) (d := 25) rfl rfl rfl ((hl.1 7 25 (by kernel_rfl) (by kernel_rfl)).trans (congrArg some (show y 7 = .bool true from hd 7 (by kernel_rfl)))), fun ev ec ef hev => ?_⟩
                  have e3 : ev (.tmp 3) = .int .i64 ((j + 1 : Nat) : Int) := hev 3 _ ((hl.2 3 (by kernel_rfl)).trans (by kernel_rfl))
                  clear hd hl hev
                  replace hJ := Lib.hid hJ
                  go_simp
                  exact hn _ _ (Below.refl _ _) rfl
                · intro y W next hl hJ hd hn
                  refine Or.inl ⟨wanted_of (j := 7) (d := 25) rfl rfl rfl ((hl.1 7 25 (by kernel_rfl) (by kernel_rfl)).trans (congrArg some (show y 7 = .bool true from hd 7 (by kernel_rfl)))), fun ev ec ef hev => ?_⟩
                  have e27 : ev (.tmp 27) =  (.int .i64 ((j + 1 : Nat) : Int)) := hev 27 _ ((hl.1 9 27 (by kernel_rfl) (by kernel_rfl)).trans (congrArg some (show y 9 =  (.int .i64 ((j + 1 : Nat) : Int)) from hd 9 (by kernel_rfl))))
                  clear hd hl hev
                  replace hJ := Lib.hid hJ
                  have hsub := hsub.out
                  go_simp
                  refine hn _ _ (Below.refl _ _) ?_
                  show Value.int .i64 _ = Value.int .i64 (j : Int)
                  rw [wrap_small (j : Int) (by omega) (by omega)]
                · intro y W next hl hJ hd hn
                  refine Or.inl ⟨wanted_of (j := 7) (d := 25) rfl rfl rfl ((hl.1 7 25 (by kernel_rfl) (by kernel_rfl)).trans (congrArg some (show y 7 = .bool true from hd 7 (by kernel_rfl)))), fun ev ec ef hev => ?_⟩
                  have e26 : ev (.tmp 26) =  (.slice (some ⟨b, off, none⟩) l.length cap) := hev 26 _ ((hl.1 8 26 (by kernel_rfl) (by kernel_rfl)).trans (congrArg some (show y 8 =  (.slice (some ⟨b, off, none⟩) l.length cap) from hd 8 (by kernel_rfl))))
                  have e28 : ev (.tmp 28) =  (.int .i64 (j : Int)) := hev 28 _ ((hl.1 10 28 (by kernel_rfl) (by kernel_rfl)).trans (congrArg some (show y 10 =  (.int .i64 (j : Int)) from hd 10 (by kernel_rfl))))
                  clear hd hl hev
                  have hjl : j < l.length := by omega
                  replace hJ := Lib.hid hJ
                  go_simp
                  exact hn _ _ (Below.refl _ _) rfl
                · intro y W next hl hJ hd hn
                  refine Or.inl ⟨wanted_of (j := 7) (d := 25) rfl rfl rfl ((hl.1 7 25 (by kernel_rfl) (by kernel_rfl)).trans (congrArg some (show y 7 = .bool true from hd 7 (by kernel_rfl)))), fun ev ec ef hev => ?_⟩
                  have e29 : ev (.tmp 29) =  (.pointer (some ⟨b, off + j * 4, none⟩)) := hev 29 _ ((hl.1 11 29 (by kernel_rfl) (by kernel_rfl)).trans (congrArg some (show y 11 =  (.pointer (some ⟨b, off + j * 4, none⟩)) from hd 11 (by kernel_rfl))))
                  clear hd hl hev
                  replace hJ := Lib.hid hJ
                  go_simp
                  exact hn _ _ (Below.refl _ _) rfl
                · intro y W next hl hJ hd hn
                  refine Or.inl ⟨wanted_of (j := 7) (d := 25) rfl rfl rfl ((hl.1 7 25 (by kernel_rfl) (by kernel_rfl)).trans (congrArg some (show y 7 = .bool true from hd 7 (by kernel_rfl)))), fun ev ec ef hev => ?_⟩
                  have e30 : ev (.tmp 30) =  (.pointer (some ⟨b, off + j * 4, none⟩)) := hev 30 _ ((hl.1 12 30 (by kernel_rfl) (by kernel_rfl)).trans (congrArg some (show y 12 =  (.pointer (some ⟨b, off + j * 4, none⟩)) from hd 12 (by kernel_rfl))))
                  clear hd hl hev
                  obtain ⟨b', off', e', hb', p0, p1, p2, p3⟩ := (hsecs.out.below hJ).four j (by omega)
                  cases e'
                  replace hJ := Lib.hid hJ
                  go_simp
                  exact hn _ _ (Below.refl _ _) rfl
                · intro y W next hl hJ hd hn
                  refine Or.inl ⟨wanted_of (j := 7) (d := 25) rfl rfl rfl ((hl.1 7 25 (by kernel_rfl) (by kernel_rfl)).trans (congrArg some (show y 7 = .bool true from hd 7 (by kernel_rfl)))), fun ev ec ef hev => ?_⟩
                  have e4 : ev (.tmp 4) = .pointer (some ⟨wr.heap.size, 0, none⟩) := hev 4 _ ((hl.2 4 (by kernel_rfl)).trans (by kernel_rfl))
                  clear hd hl hev
                  replace hJ := Lib.hid hJ
                  go_simp
                  exact hn _ _ (Below.refl _ _) rfl
                · intro y W next hl hJ hd hn
                  refine Or.inl ⟨wanted_of (j := 7) (d := 25) rfl rfl rfl ((hl.1 7 25 (by kernel_rfl) (by kernel_rfl)).trans (congrArg some (show y 7 = .bool true from hd 7 (by kernel_rfl)))), fun ev ec ef hev => ?_⟩
                  have e32 : ev (.tmp 32) =  (.pointer (some ⟨wr.heap.size, 0, none⟩)) := hev 32 _ ((hl.1 14 32 (by kernel_rfl) (by kernel_rfl)).trans (congrArg some (show y 14 =  (.pointer (some ⟨wr.heap.size, 0, none⟩)) from hd 14 (by kernel_rfl))))
                  clear hd hl hev
                  obtain ⟨x0, x1, x2, x3⟩ := (hbx.out.below hJ hbx.out.lt).four
                  replace hJ := Lib.hid hJ
                  go_simp
                  exact hn _ _ (Below.refl _ _) rfl
                · intro y W next hl hJ hd hn
                  refine Or.inl ⟨wanted_of (j := 7) (d := 25) rfl rfl rfl ((hl.1 7 25 (by kernel_rfl) (by kernel_rfl)).trans (congrArg some (show y 7 = .bool true from hd 7 (by kernel_rfl)))), fun ev ec ef hev => ?_⟩
                  have e31 : ev (.tmp 31) =  (.string l[j].name) := hev 31 _ ((hl.1 13 31 (by kernel_rfl) (by kernel_rfl)).trans (congrArg some (show y 13 =  (.string l[j].name) from hd 13 (by kernel_rfl))))
                  have e33 : ev (.tmp 33) =  (.string l[j + 1].name) := hev 33 _ ((hl.1 15 33 (by kernel_rfl) (by kernel_rfl)).trans (congrArg some (show y 15 =  (.string l[j + 1].name) from hd 15 (by kernel_rfl))))
                  clear hd hl hev
                  replace hJ := Lib.hid hJ
                  go_simp
                  refine hn _ _ (Below.refl _ _) ?_
                  show Value.bool (!lessB l[j].name l[j + 1].name) = _
                  rw [hle]; rfl
                · intro y W next hl hJ hd hn
                  refine Or.inl ⟨wanted_of (j := 4) (d := 22) rfl rfl rfl ((hl.1 4 22 (by kernel_rfl) (by kernel_rfl)).trans (congrArg some (show y 4 = .bool false from hd 4 (by kernel_rfl)))), fun ev ec ef hev => ?_⟩
                  have e25 : ev (.tmp 25) =  (.bool true) := hev 25 _ ((hl.1 7 25 (by kernel_rfl) (by kernel_rfl)).trans (congrArg some (show y 7 =  (.bool true) from hd 7 (by kernel_rfl))))
                  have e34 : ev (.tmp 34) =  (.bool false) := hev 34 _ ((hl.1 16 34 (by kernel_rfl) (by kernel_rfl)).trans (congrArg some (show y 16 =  (.bool false) from hd 16 (by kernel_rfl))))
                  clear hd hl hev
                  replace hJ := Lib.hid hJ
                  go_simp
                  exact hn _ _ (Below.refl _ _) rfl
                · intro y W next hl hJ hd hn
                  refine Or.inl ⟨wanted_free rfl, fun ev ec ef hev => ?_⟩
                  have e22 : ev (.tmp 22) =  (.bool false) := hev 22 _ ((hl.1 4 22 (by kernel_rfl) (by kernel_rfl)).trans (congrArg some (show y 4 =  (.bool false) from hd 4 (by kernel_rfl))))
                  have e35 : ev (.tmp 35) =  (.bool false) := hev 35 _ ((hl.1 17 35 (by kernel_rfl) (by kernel_rfl)).trans (congrArg some (show y 17 =  (.bool false) from hd 17 (by kernel_rfl))))
                  clear hd hl hev
                  replace hJ := Lib.hid hJ
                  go_simp
                  exact hn _ _ (Below.refl _ _) rfl
                · intro y W next hl hJ hd hn
                  refine Or.inl ⟨wanted_free rfl, fun ev ec ef hev => ?_⟩
                  have e36 : ev (.tmp 36) =  (.bool false) := hev 36 _ ((hl.1 18 36 (by kernel_rfl) (by kernel_rfl)).trans (congrArg some (show y 18 =  (.bool false) from hd 18 (by kernel_rfl))))
                  clear hd hl hev
                  replace hJ := Lib.hid hJ
                  go_simp
                  exact hn _ _ (Below.refl _ _) rfl
                · intro y W next hl hJ hd hn
                  refine Or.inl ⟨wanted_of (j := 19) (d := 37) rfl rfl rfl ((hl.1 19 37 (by kernel_rfl) (by kernel_rfl)).trans (congrArg some (show y 19 = .bool false from hd 19 (by kernel_rfl)))), fun ev ec ef hev => ?_⟩
                  have e4 : ev (.tmp 4) = .pointer (some ⟨wr.heap.size, 0, none⟩) := hev 4 _ ((hl.2 4 (by kernel_rfl)).trans (by kernel_rfl))
                  clear hd hl hev
                  replace hJ := Lib.hid hJ
                  go_simp
                  exact hn _ _ (Below.refl _ _) rfl
                · intro y W next hl hJ hd hn
                  refine Or.inl ⟨wanted_of (j := 19) (d := 37) rfl rfl rfl ((hl.1 19 37 (by kernel_rfl) (by kernel_rfl)).trans (congrArg some (show y 19 = .bool false from hd 19 (by kernel_rfl)))), fun ev ec ef hev => ?_⟩
                  have e38 : ev (.tmp 38) =  (.pointer (some ⟨wr.heap.size, 1, none⟩)) := hev 38 _ ((hl.1 20 38 (by kernel_rfl) (by kernel_rfl)).trans (congrArg some (show y 20 =  (.pointer (some ⟨wr.heap.size, 1, none⟩)) from hd 20 (by kernel_rfl))))
                  clear hd hl hev
                  obtain ⟨x0, x1, x2, x3⟩ := (hbx.out.below hJ hbx.out.lt).four
                  replace hJ := Lib.hid hJ
                  go_simp
                  exact hn _ _ (Below.refl _ _) rfl
                · intro y W next hl hJ hd hn
                  refine Or.inl ⟨wanted_of (j := 19) (d := 37) rfl rfl rfl ((hl.1 19 37 (by kernel_rfl) (by kernel_rfl)).trans (congrArg some (show y 19 = .bool false from hd 19 (by kernel_rfl)))), fun ev ec ef hev => ?_⟩
                  have e39 : ev (.tmp 39) =  (.int .i64 l[j + 1].seat) := hev 39 _ ((hl.1 21 39 (by kernel_rfl) (by kernel_rfl)).trans (congrArg some (show y 21 =  (.int .i64 l[j + 1].seat) from hd 21 (by kernel_rfl))))
                  clear hd hl hev
                  replace hJ := Lib.hid hJ
                  go_simp
                  refine (is_any _ _ _ _).mono ?_
                  rintro e w' ⟨rfl, rfl⟩
                  exact ⟨_, rfl, hn _ _ (Below.refl _ _) (by rw [hc2]; rfl)⟩
                · intro y W next hl hJ hd hn
                  refine Or.inl ⟨wanted_of (j := 19) (d := 37) rfl rfl rfl ((hl.1 19 37 (by kernel_rfl) (by kernel_rfl)).trans (congrArg some (show y 19 = .bool false from hd 19 (by kernel_rfl)))), fun ev ec ef hev => ?_⟩
                  have e40 : ev (.tmp 40) =  (.bool false) := hev 40 _ ((hl.1 22 40 (by kernel_rfl) (by kernel_rfl)).trans (congrArg some (show y 22 =  (.bool false) from hd 22 (by kernel_rfl))))
                  clear hd hl hev
                  replace hJ := Lib.hid hJ
                  go_simp
                  exact hn _ _ (Below.refl _ _) rfl
                · intro y W next hl hJ hd hn
                  refine Or.inl ⟨wanted_free rfl, fun ev ec ef hev => ?_⟩
                  have e37 : ev (.tmp 37) =  (.bool false) := hev 37 _ ((hl.1 19 37 (by kernel_rfl) (by kernel_rfl)).trans (congrArg some (show y 19 =  (.bool false) from hd 19 (by kernel_rfl))))
                  have e41 : ev (.tmp 41) =  (.bool true) := hev 41 _ ((hl.1 23 41 (by kernel_rfl) (by kernel_rfl)).trans (congrArg some (show y 23 =  (.bool true) from hd 23 (by kernel_rfl))))
                  clear hd hl hev
                  replace hJ := Lib.hid hJ
                  go_simp
                  exact hn _ _ (Below.refl _ _) rfl
                · intro y W next hl hJ hd hn
                  refine Or.inl ⟨wanted_free rfl, fun ev ec ef hev => ?_⟩
                  have e42 : ev (.tmp 42) =  (.bool true) := hev 42 _ ((hl.1 24 42 (by kernel_rfl) (by kernel_rfl)).trans (congrArg some (show y 24 =  (.bool true) from hd 24 (by kernel_rfl))))
                  clear hd hl hev
                  replace hJ := Lib.hid hJ
                  go_simp
                  exact hn _ _ (Below.refl _ _) rfl
                · intro y W next hl hJ hd hn
                  exact Or.inr ⟨wanted_not (j := 25) (d := 43) rfl rfl rfl ((hl.1 25 43 (by kernel_rfl) (by kernel_rfl)).trans (congrArg some (show y 25 = .bool true from hd 25 (by kernel_rfl)))), hn _ _ (Below.refl _ _) trivial⟩
                · intro y W next hl hJ hd hn
                  exact Or.inr ⟨wanted_not (j := 25) (d := 43) rfl rfl rfl ((hl.1 25 43 (by kernel_rfl) (by kernel_rfl)).trans (congrArg some (show y 25 = .bool true from hd 25 (by kernel_rfl)))), hn _ _ (Below.refl _ _) trivial⟩
                · intro y W next hl hJ hd hn
                  exact Or.inr ⟨wanted_not (j := 25) (d := 43) rfl rfl rfl ((hl.1 25 43 (by kernel_rfl) (by kernel_rfl)).trans (congrArg some (show y 25 = .bool true from hd 25 (by kernel_rfl)))), hn _ _ (Below.refl _ _) trivial⟩
                · intro y W next hl hJ hd hn
                  exact Or.inr ⟨wanted_not (j := 25) (d := 43) rfl rfl rfl ((hl.1 25 43 (by kernel_rfl) (by kernel_rfl)).trans (congrArg some (show y 25 = .bool true from hd 25 (by kernel_rfl)))), hn _ _ (Below.refl _ _) trivial⟩
                · intro y W next hl hJ hd hn
                  refine Or.inl ⟨wanted_free rfl, fun ev ec ef hev => ?_⟩
                  have e43 : ev (.tmp 43) =  (.bool true) := hev 43 _ ((hl.1 25 43 (by kernel_rfl) (by kernel_rfl)).trans (congrArg some (show y 25 =  (.bool true) from hd 25 (by kernel_rfl))))
                  have e47 := hev 47 _ (hl.1 29 47 (by kernel_rfl) (by kernel_rfl))
                  clear hd hl hev
                  replace hJ := Lib.hid hJ
                  go_simp
                  exact hn _ _ (Below.refl _ _) rfl
                · intro y W next hl hJ hd hn
                  refine Or.inl ⟨wanted_free rfl, fun ev ec ef hev => ?_⟩
                  have e48 : ev (.tmp 48) =  (.bool true) := hev 48 _ ((hl.1 30 48 (by kernel_rfl) (by kernel_rfl)).trans (congrArg some (show y 30 =  (.bool true) from hd 30 (by kernel_rfl))))
                  clear hd hl hev
                  replace hJ := Lib.hid hJ
                  go_simp
                  exact hn _ _ (Below.refl _ _) rfl
                · intro y W next hl hJ hd hn
                  exact Or.inr ⟨wanted_not (j := 31) (d := 49) rfl rfl rfl ((hl.1 31 49 (by kernel_rfl) (by kernel_rfl)).trans (congrArg some (show y 31 = .bool true from hd 31 (by kernel_rfl)))), hn _ _ (Below.refl _ _) trivial⟩
                · intro y W next hl hJ hd hn
                  exact Or.inr ⟨wanted_not (j := 31) (d := 49) rfl rfl rfl ((hl.1 31 49 (by kernel_rfl) (by kernel_rfl)).trans (congrArg some (show y 31 = .bool true from hd 31 (by kernel_rfl)))), hn _ _ (Below.refl _ _) trivial⟩
                · intro y W next hl hJ hd hn
                  exact Or.inr ⟨wanted_not (j := 31) (d := 49) rfl rfl rfl ((hl.1 31 49 (by kernel_rfl) (by kernel_rfl)).trans (congrArg some (show y 31 = .bool true from hd 31 (by kernel_rfl)))), hn _ _ (Below.refl _ _) trivial⟩
                · intro y W next hl hJ hd hn
                  exact Or.inr ⟨wanted_not (j := 31) (d := 49) rfl rfl rfl ((hl.1 31 49 (by kernel_rfl) (by kernel_rfl)).trans (congrArg some (show y 31 = .bool true from hd 31 (by kernel_rfl)))), hn _ _ (Below.refl _ _) trivial⟩
                · intro y W next hl hJ hd hn
                  refine Or.inl ⟨wanted_free rfl, fun ev ec ef hev => ?_⟩
                  have e49 : ev (.tmp 49) =  (.bool true) := hev 49 _ ((hl.1 31 49 (by kernel_rfl) (by kernel_rfl)).trans (congrArg some (show y 31 =  (.bool true) from hd 31 (by kernel_rfl))))
                  have e53 := hev 53 _ (hl.1 35 53 (by kernel_rfl) (by kernel_rfl))
                  clear hd hl hev
                  replace hJ := Lib.hid hJ
                  go_simp
                  exact hn _ _ (Below.refl _ _) rfl

                · intro y W hb3 hall
                  have hy : y 36 = .bool true := hall 36 (by decide)
                  replace hb2 := Lib.hid (below_then hb2.out hb3 (Nat.le_refl _))
                  clear hall hb3
                  simp only [lay_cons, lay_nil]
                  rw [hy]
                  clear hy
                  simp only [Act.put, List.setIfInBounds_toArray]
                  simp only [List.set_cons_succ, List.set_cons_zero]
                  go_wp2
                  go_ret
                  exact ⟨by rw [hbad.out]; rfl, hb2.out⟩
              | true =>
                cases hc3 : wordB l[j + 1].word.data.toList with
                | false =>
                  have hbad := Lib.hid (vaultB_bad hlt (okAt_bad hlt (show secOk l[j + 1] = false by rw [secOk_eq, hc1, hc2, hc3]; rfl)))
                  clear hup
                  obtain ⟨V, hV⟩ : ∃ V, V = wr.alloc (.cells #[.string l[j + 1].name, .int .i64 l[j + 1].seat, .string l[j + 1].word, .string l[j + 1].prompt] 100) := ⟨_, rfl⟩
                  have hbx := Lib.hid (box4 (w := wr) l[j + 1] 100)
                  rw [← hV] at hbx
                  have hb2 := Lib.hid (show Below w.heap.size w V by rw [hV]; exact hb.out.alloc hb.out.size _)
                  have hsub := Lib.hid (show ((j + 1 : Nat) : Int) - 1 = (j : Int) by omega)
                  go_wp2
                  rw [← hV]
                  replace hsecs := Lib.hid (show Secs V (.slice (some ⟨b, off, none⟩) l.length cap) l by rw [hV]; exact hsecs.out.alloc _)
                  clear hV c0 c1 c2 c3
                  refine wp_region_known [(.is (.pointer (some ⟨wr.heap.size, 0, none⟩))), (.is (.string l[j + 1].name)), (.is (.bool true)), (.is (.bool false)), (.is (.bool false)), (.is (.int .i64 ((j + 1 : Nat) : Int))), (.is (.bool true)), (.is (.bool true)), (.is (.slice (some ⟨b, off, none⟩) l.length cap)), (.is (.int .i64 ((j + 1 : Nat) : Int))), (.is (.int .i64 (j : Int))), (.is (.pointer (some ⟨b, off + j * 4, none⟩))), (.is (.pointer (some ⟨b, off + j * 4, none⟩))), (.is (.string l[j].name)), (.is (.pointer (some ⟨wr.heap.size, 0, none⟩))), (.is (.string l[j + 1].name)), (.is (.bool false)), (.is (.bool false)), (.is (.bool false)), (.is (.bool false)), (.is (.pointer (some ⟨wr.heap.size, 1, none⟩))), (.is (.int .i64 l[j + 1].seat)), (.is (.bool true)), (.is (.bool false)), (.is (.bool false)), (.is (.bool false)), (.is (.pointer (some ⟨wr.heap.size, 2, none⟩))), (.is (.string l[j + 1].word)), (.is (.bool false)), (.is (.bool true)), (.is (.bool true)), (.is (.bool true)), .any, .any, .any, .any, (.is (.bool true))] (by kernel_rfl) (by kernel_rfl) (by kernel_rfl) ⟨?_, ?_, ?_, ?_, ?_, ?_, ?_, ?_, ?_, ?_, ?_, ?_, ?_, ?_, ?_, ?_, ?_, ?_, ?_, ?_, ?_, ?_, ?_, ?_, ?_, ?_, ?_, ?_, ?_, ?_, ?_, ?_, ?_, ?_, ?_, ?_, ?_, trivial⟩ ?_
                  · intro y W next hl hJ hd hn
                    refine Or.inl ⟨wanted_free rfl, fun ev ec ef hev => ?_⟩
                    have e4 : ev (.tmp 4) = .pointer (some ⟨wr.heap.size, 0, none⟩) := hev 4 _ ((hl.2 4 (by kernel_rfl)).trans (by kernel_rfl))
                    clear hd hl hev
                    replace hJ := Lib.hid hJ
                    go_simp
                    exact hn _ _ (Below.refl _ _) rfl
                  · intro y W next hl hJ hd hn
                    refine Or.inl ⟨wanted_free rfl, fun ev ec ef hev => ?_⟩
                    have e18 : ev (.tmp 18) =  (.pointer (some ⟨wr.heap.size, 0, none⟩)) := hev 18 _ ((hl.1 0 18 (by kernel_rfl) (by kernel_rfl)).trans (congrArg some (show y 0 =  (.pointer (some ⟨wr.heap.size, 0, none⟩)) from hd 0 (by kernel_rfl))))
                    clear hd hl hev
                    obtain ⟨x0, x1, x2, x3⟩ := (hbx.out.below hJ hbx.out.lt).four
                    replace hJ := Lib.hid hJ
                    go_simp
                    exact hn _ _ (Below.refl _ _) rfl
                  · intro y W next hl hJ hd hn
                    refine Or.inl ⟨wanted_free rfl, fun ev ec ef hev => ?_⟩
                    have e19 : ev (.tmp 19) =  (.string l[j + 1].name) := hev 19 _ ((hl.1 1 19 (by kernel_rfl) (by kernel_rfl)).trans (congrArg some (show y 1 =  (.string l[j + 1].name) from hd 1 (by kernel_rfl))))
                    clear hd hl hev
                    replace hJ := Lib.hid hJ
                    go_simp
                    refine (specWord_any _ hwf.out.1 _).mono ?_
                    rintro e w' ⟨rfl, rfl⟩
                    exact ⟨_, rfl, hn _ _ (Below.refl _ _) (by rw [hc1]; rfl)⟩
                  · intro y W next hl hJ hd hn
                    refine Or.inl ⟨wanted_free rfl, fun ev ec ef hev => ?_⟩
                    have e20 : ev (.tmp 20) =  (.bool true) := hev 20 _ ((hl.1 2 20 (by kernel_rfl) (by kernel_rfl)).trans (congrArg some (show y 2 =  (.bool true) from hd 2 (by kernel_rfl))))
                    clear hd hl hev
                    replace hJ := Lib.hid hJ
                    go_simp
                    exact hn _ _ (Below.refl _ _) rfl
                  · intro y W next hl hJ hd hn
                    refine Or.inl ⟨wanted_free rfl, fun ev ec ef hev => ?_⟩
                    have e21 : ev (.tmp 21) =  (.bool false) := hev 21 _ ((hl.1 3 21 (by kernel_rfl) (by kernel_rfl)).trans (congrArg some (show y 3 =  (.bool false) from hd 3 (by kernel_rfl))))
                    clear hd hl hev
                    replace hJ := Lib.hid hJ
                    go_simp
                    exact hn _ _ (Below.refl _ _) rfl
                  · intro y W next hl hJ hd hn
                    refine Or.inl ⟨wanted_of (j := 4) (d := 22) rfl rfl rfl ((hl.1 4 22 (by kernel_rfl) (by kernel_rfl)).trans (congrArg some (show y 4 = .bool false from hd 4 (by kernel_rfl)))), fun ev ec ef hev => ?_⟩
                    have e3 : ev (.tmp 3) = .int .i64 ((j + 1 : Nat) : Int) := hev 3 _ ((hl.2 3 (by kernel_rfl)).trans (by kernel_rfl))
                    clear hd hl hev
                    replace hJ := Lib.hid hJ
                    go_simp
                    exact hn _ _ (Below.refl _ _) rfl
                  · intro y W next hl hJ hd hn
                    refine Or.inl ⟨wanted_of (j := 4) (d := 22) rfl rfl rfl ((hl.1 4 22 (by kernel_rfl) (by kernel_rfl)).trans (congrArg some (show y 4 = .bool false from hd 4 (by kernel_rfl)))), fun ev ec ef hev => ?_⟩
                    have e23 : ev (.tmp 23) =  (.int .i64 ((j + 1 : Nat) : Int)) := hev 23 _ ((hl.1 5 23 (by kernel_rfl) (by kernel_rfl)).trans (congrArg some (show y 5 =  (.int .i64 ((j + 1 : Nat) : Int)) from hd 5 (by kernel_rfl))))
                    clear hd hl hev
                    replace hJ := Lib.hid hJ
                    go_simp
                    exact hn _ _ (Below.refl _ _) rfl
                  · intro y W next hl hJ hd hn
                    refine Or.inl ⟨wanted_of (j := 4) (d := 22) rfl rfl rfl ((hl.1 4 22 (by kernel_rfl) (by kernel_rfl)).trans (congrArg some (show y 4 = .bool false from hd 4 (by kernel_rfl)))), fun ev ec ef hev => ?_⟩
                    have e24 : ev (.tmp 24) =  (.bool true) := hev 24 _ ((hl.1 6 24 (by kernel_rfl) (by kernel_rfl)).trans (congrArg some (show y 6 =  (.bool true) from hd 6 (by kernel_rfl))))
                    clear hd hl hev
                    replace hJ := Lib.hid hJ
                    go_simp
                    exact hn _ _ (Below.refl _ _) rfl
                  · intro y W next hl hJ hd hn
                    refine Or.inl ⟨wanted_of (j := 7) (d := 25) rfl rfl rfl ((hl.1 7 25 (by kernel_rfl) (by kernel_rfl)).trans (congrArg some (show y 7 = .bool true from hd 7 (by kernel_rfl)))), fun ev ec ef hev => ?_⟩
                    have e0 : ev (.tmp 0) = .slice (some ⟨b, off, none⟩) l.length cap := hev 0 _ ((hl.2 0 (by kernel_rfl)).trans (by kernel_rfl))
                    clear hd hl hev
                    replace hJ := Lib.hid hJ
                    go_simp
                    exact hn _ _ (Below.refl _ _) rfl
                  · intro y W next hl hJ hd hn
                    refine Or.inl ⟨wanted_of (j := 7) (d := 25) rfl rfl rfl ((hl.1 7 25 (by kernel_rfl) (by kernel_rfl)).trans (congrArg some (show y 7 = .bool true from hd 7 (by kernel_rfl)))), fun ev ec ef hev => ?_⟩
                    have e3 : ev (.tmp 3) = .int .i64 ((j + 1 : Nat) : Int) := hev 3 _ ((hl.2 3 (by kernel_rfl)).trans (by kernel_rfl))
                    clear hd hl hev
                    replace hJ := Lib.hid hJ
                    go_simp
                    exact hn _ _ (Below.refl _ _) rfl
                  · intro y W next hl hJ hd hn
                    refine Or.inl ⟨wanted_of (j := 7) (d := 25) rfl rfl rfl ((hl.1 7 25 (by kernel_rfl) (by kernel_rfl)).trans (congrArg some (show y 7 = .bool true from hd 7 (by kernel_rfl)))), fun ev ec ef hev => ?_⟩
                    have e27 : ev (.tmp 27) =  (.int .i64 ((j + 1 : Nat) : Int)) := hev 27 _ ((hl.1 9 27 (by kernel_rfl) (by kernel_rfl)).trans (congrArg some (show y 9 =  (.int .i64 ((j + 1 : Nat) : Int)) from hd 9 (by kernel_rfl))))
                    clear hd hl hev
                    replace hJ := Lib.hid hJ
                    have hsub := hsub.out
                    go_simp
                    refine hn _ _ (Below.refl _ _) ?_
                    show Value.int .i64 _ = Value.int .i64 (j : Int)
                    rw [wrap_small (j : Int) (by omega) (by omega)]
                  · intro y W next hl hJ hd hn
                    refine Or.inl ⟨wanted_of (j := 7) (d := 25) rfl rfl rfl ((hl.1 7 25 (by kernel_rfl) (by kernel_rfl)).trans (congrArg some (show y 7 = .bool true from hd 7 (by kernel_rfl)))), fun ev ec ef hev => ?_⟩
                    have e26 : ev (.tmp 26) =  (.slice (some ⟨b, off, none⟩) l.length cap) := hev 26 _ ((hl.1 8 26 (by kernel_rfl) (by kernel_rfl)).trans (congrArg some (show y 8 =  (.slice (some ⟨b, off, none⟩) l.length cap) from hd 8 (by kernel_rfl))))
                    have e28 : ev (.tmp 28) =  (.int .i64 (j : Int)) := hev 28 _ ((hl.1 10 28 (by kernel_rfl) (by kernel_rfl)).trans (congrArg some (show y 10 =  (.int .i64 (j : Int)) from hd 10 (by kernel_rfl))))
                    clear hd hl hev
                    have hjl : j < l.length := by omega
                    replace hJ := Lib.hid hJ
                    go_simp
                    exact hn _ _ (Below.refl _ _) rfl
                  · intro y W next hl hJ hd hn
                    refine Or.inl ⟨wanted_of (j := 7) (d := 25) rfl rfl rfl ((hl.1 7 25 (by kernel_rfl) (by kernel_rfl)).trans (congrArg some (show y 7 = .bool true from hd 7 (by kernel_rfl)))), fun ev ec ef hev => ?_⟩
                    have e29 : ev (.tmp 29) =  (.pointer (some ⟨b, off + j * 4, none⟩)) := hev 29 _ ((hl.1 11 29 (by kernel_rfl) (by kernel_rfl)).trans (congrArg some (show y 11 =  (.pointer (some ⟨b, off + j * 4, none⟩)) from hd 11 (by kernel_rfl))))
                    clear hd hl hev
                    replace hJ := Lib.hid hJ
                    go_simp
                    exact hn _ _ (Below.refl _ _) rfl
                  · intro y W next hl hJ hd hn
                    refine Or.inl ⟨wanted_of (j := 7) (d := 25) rfl rfl rfl ((hl.1 7 25 (by kernel_rfl) (by kernel_rfl)).trans (congrArg some (show y 7 = .bool true from hd 7 (by kernel_rfl)))), fun ev ec ef hev => ?_⟩
                    have e30 : ev (.tmp 30) =  (.pointer (some ⟨b, off + j * 4, none⟩)) := hev 30 _ ((hl.1 12 30 (by kernel_rfl) (by kernel_rfl)).trans (congrArg some (show y 12 =  (.pointer (some ⟨b, off + j * 4, none⟩)) from hd 12 (by kernel_rfl))))
                    clear hd hl hev
                    obtain ⟨b', off', e', hb', p0, p1, p2, p3⟩ := (hsecs.out.below hJ).four j (by omega)
                    cases e'
                    replace hJ := Lib.hid hJ
                    go_simp
                    exact hn _ _ (Below.refl _ _) rfl
                  · intro y W next hl hJ hd hn
                    refine Or.inl ⟨wanted_of (j := 7) (d := 25) rfl rfl rfl ((hl.1 7 25 (by kernel_rfl) (by kernel_rfl)).trans (congrArg some (show y 7 = .bool true from hd 7 (by kernel_rfl)))), fun ev ec ef hev => ?_⟩
                    have e4 : ev (.tmp 4) = .pointer (some ⟨wr.heap.size, 0, none⟩) := hev 4 _ ((hl.2 4 (by kernel_rfl)).trans (by kernel_rfl))
                    clear hd hl hev
                    replace hJ := Lib.hid hJ
                    go_simp
                    exact hn _ _ (Below.refl _ _) rfl
                  · intro y W next hl hJ hd hn
                    refine Or.inl ⟨wanted_of (j := 7) (d := 25) rfl rfl rfl ((hl.1 7 25 (by kernel_rfl) (by kernel_rfl)).trans (congrArg some (show y 7 = .bool true from hd 7 (by kernel_rfl)))), fun ev ec ef hev => ?_⟩
                    have e32 : ev (.tmp 32) =  (.pointer (some ⟨wr.heap.size, 0, none⟩)) := hev 32 _ ((hl.1 14 32 (by kernel_rfl) (by kernel_rfl)).trans (congrArg some (show y 14 =  (.pointer (some ⟨wr.heap.size, 0, none⟩)) from hd 14 (by kernel_rfl))))
                    clear hd hl hev
                    obtain ⟨x0, x1, x2, x3⟩ := (hbx.out.below hJ hbx.out.lt).four
                    replace hJ := Lib.hid hJ
                    go_simp
                    exact hn _ _ (Below.refl _ _) rfl
                  · intro y W next hl hJ hd hn
                    refine Or.inl ⟨wanted_of (j := 7) (d := 25) rfl rfl rfl ((hl.1 7 25 (by kernel_rfl) (by kernel_rfl)).trans (congrArg some (show y 7 = .bool true from hd 7 (by kernel_rfl)))), fun ev ec ef hev => ?_⟩
                    have e31 : ev (.tmp 31) =  (.string l[j].name) := hev 31 _ ((hl.1 13 31 (by kernel_rfl) (by kernel_rfl)).trans (congrArg some (show y 13 =  (.string l[j].name) from hd 13 (by kernel_rfl))))
                    have e33 : ev (.tmp 33) =  (.string l[j + 1].name) := hev 33 _ ((hl.1 15 33 (by kernel_rfl) (by kernel_rfl)).trans (congrArg some (show y 15 =  (.string l[j + 1].name) from hd 15 (by kernel_rfl))))
                    clear hd hl hev
                    replace hJ := Lib.hid hJ
                    go_simp
                    refine hn _ _ (Below.refl _ _) ?_
                    show Value.bool (!lessB l[j].name l[j + 1].name) = _
                    rw [hle]; rfl
                  · intro y W next hl hJ hd hn
                    refine Or.inl ⟨wanted_of (j := 4) (d := 22) rfl rfl rfl ((hl.1 4 22 (by kernel_rfl) (by kernel_rfl)).trans (congrArg some (show y 4 = .bool false from hd 4 (by kernel_rfl)))), fun ev ec ef hev => ?_⟩
                    have e25 : ev (.tmp 25) =  (.bool true) := hev 25 _ ((hl.1 7 25 (by kernel_rfl) (by kernel_rfl)).trans (congrArg some (show y 7 =  (.bool true) from hd 7 (by kernel_rfl))))
                    have e34 : ev (.tmp 34) =  (.bool false) := hev 34 _ ((hl.1 16 34 (by kernel_rfl) (by kernel_rfl)).trans (congrArg some (show y 16 =  (.bool false) from hd 16 (by kernel_rfl))))
                    clear hd hl hev
                    replace hJ := Lib.hid hJ
                    go_simp
                    exact hn _ _ (Below.refl _ _) rfl
                  · intro y W next hl hJ hd hn
                    refine Or.inl ⟨wanted_free rfl, fun ev ec ef hev => ?_⟩
                    have e22 : ev (.tmp 22) =  (.bool false) := hev 22 _ ((hl.1 4 22 (by kernel_rfl) (by kernel_rfl)).trans (congrArg some (show y 4 =  (.bool false) from hd 4 (by kernel_rfl))))
                    have e35 : ev (.tmp 35) =  (.bool false) := hev 35 _ ((hl.1 17 35 (by kernel_rfl) (by kernel_rfl)).trans (congrArg some (show y 17 =  (.bool false) from hd 17 (by kernel_rfl))))
                    clear hd hl hev
                    replace hJ := Lib.hid hJ
                    go_simp
                    exact hn _ _ (Below.refl _ _) rfl
                  · intro y W next hl hJ hd hn
                    refine Or.inl ⟨wanted_free rfl, fun ev ec ef hev => ?_⟩
                    have e36 : ev (.tmp 36) =  (.bool false) := hev 36 _ ((hl.1 18 36 (by kernel_rfl) (by kernel_rfl)).trans (congrArg some (show y 18 =  (.bool false) from hd 18 (by kernel_rfl))))
                    clear hd hl hev
                    replace hJ := Lib.hid hJ
                    go_simp
                    exact hn _ _ (Below.refl _ _) rfl
                  · intro y W next hl hJ hd hn
                    refine Or.inl ⟨wanted_of (j := 19) (d := 37) rfl rfl rfl ((hl.1 19 37 (by kernel_rfl) (by kernel_rfl)).trans (congrArg some (show y 19 = .bool false from hd 19 (by kernel_rfl)))), fun ev ec ef hev => ?_⟩
                    have e4 : ev (.tmp 4) = .pointer (some ⟨wr.heap.size, 0, none⟩) := hev 4 _ ((hl.2 4 (by kernel_rfl)).trans (by kernel_rfl))
                    clear hd hl hev
                    replace hJ := Lib.hid hJ
                    go_simp
                    exact hn _ _ (Below.refl _ _) rfl
                  · intro y W next hl hJ hd hn
                    refine Or.inl ⟨wanted_of (j := 19) (d := 37) rfl rfl rfl ((hl.1 19 37 (by kernel_rfl) (by kernel_rfl)).trans (congrArg some (show y 19 = .bool false from hd 19 (by kernel_rfl)))), fun ev ec ef hev => ?_⟩
                    have e38 : ev (.tmp 38) =  (.pointer (some ⟨wr.heap.size, 1, none⟩)) := hev 38 _ ((hl.1 20 38 (by kernel_rfl) (by kernel_rfl)).trans (congrArg some (show y 20 =  (.pointer (some ⟨wr.heap.size, 1, none⟩)) from hd 20 (by kernel_rfl))))
                    clear hd hl hev
                    obtain ⟨x0, x1, x2, x3⟩ := (hbx.out.below hJ hbx.out.lt).four
                    replace hJ := Lib.hid hJ
                    go_simp
                    exact hn _ _ (Below.refl _ _) rfl
                  · intro y W next hl hJ hd hn
                    refine Or.inl ⟨wanted_of (j := 19) (d := 37) rfl rfl rfl ((hl.1 19 37 (by kernel_rfl) (by kernel_rfl)).trans (congrArg some (show y 19 = .bool false from hd 19 (by kernel_rfl)))), fun ev ec ef hev => ?_⟩
                    have e39 : ev (.tmp 39) =  (.int .i64 l[j + 1].seat) := hev 39 _ ((hl.1 21 39 (by kernel_rfl) (by kernel_rfl)).trans (congrArg some (show y 21 =  (.int .i64 l[j + 1].seat) from hd 21 (by kernel_rfl))))
                    clear hd hl hev
                    replace hJ := Lib.hid hJ
                    go_simp
                    refine (is_any _ _ _ _).mono ?_
                    rintro e w' ⟨rfl, rfl⟩
                    exact ⟨_, rfl, hn _ _ (Below.refl _ _) (by rw [hc2]; rfl)⟩
                  · intro y W next hl hJ hd hn
                    refine Or.inl ⟨wanted_of (j := 19) (d := 37) rfl rfl rfl ((hl.1 19 37 (by kernel_rfl) (by kernel_rfl)).trans (congrArg some (show y 19 = .bool false from hd 19 (by kernel_rfl)))), fun ev ec ef hev => ?_⟩
                    have e40 : ev (.tmp 40) =  (.bool true) := hev 40 _ ((hl.1 22 40 (by kernel_rfl) (by kernel_rfl)).trans (congrArg some (show y 22 =  (.bool true) from hd 22 (by kernel_rfl))))
                    clear hd hl hev
                    replace hJ := Lib.hid hJ
                    go_simp
                    exact hn _ _ (Below.refl _ _) rfl
                  · intro y W next hl hJ hd hn
                    refine Or.inl ⟨wanted_free rfl, fun ev ec ef hev => ?_⟩
                    have e37 : ev (.tmp 37) =  (.bool false) := hev 37 _ ((hl.1 19 37 (by kernel_rfl) (by kernel_rfl)).trans (congrArg some (show y 19 =  (.bool false) from hd 19 (by kernel_rfl))))
                    have e41 : ev (.tmp 41) =  (.bool false) := hev 41 _ ((hl.1 23 41 (by kernel_rfl) (by kernel_rfl)).trans (congrArg some (show y 23 =  (.bool false) from hd 23 (by kernel_rfl))))
                    clear hd hl hev
                    replace hJ := Lib.hid hJ
                    go_simp
                    exact hn _ _ (Below.refl _ _) rfl
                  · intro y W next hl hJ hd hn
                    refine Or.inl ⟨wanted_free rfl, fun ev ec ef hev => ?_⟩
                    have e42 : ev (.tmp 42) =  (.bool false) := hev 42 _ ((hl.1 24 42 (by kernel_rfl) (by kernel_rfl)).trans (congrArg some (show y 24 =  (.bool false) from hd 24 (by kernel_rfl))))
                    clear hd hl hev
                    replace hJ := Lib.hid hJ
                    go_simp
                    exact hn _ _ (Below.refl _ _) rfl
                  · intro y W next hl hJ hd hn
                    refine Or.inl ⟨wanted_of (j := 25) (d := 43) rfl rfl rfl ((hl.1 25 43 (by kernel_rfl) (by kernel_rfl)).trans (congrArg some (show y 25 = .bool false from hd 25 (by kernel_rfl)))), fun ev ec ef hev => ?_⟩
                    have e4 : ev (.tmp 4) = .pointer (some ⟨wr.heap.size, 0, none⟩) := hev 4 _ ((hl.2 4 (by kernel_rfl)).trans (by kernel_rfl))
                    clear hd hl hev
                    replace hJ := Lib.hid hJ
                    go_simp
                    exact hn _ _ (Below.refl _ _) rfl
                  · intro y W next hl hJ hd hn
                    refine Or.inl ⟨wanted_of (j := 25) (d := 43) rfl rfl rfl ((hl.1 25 43 (by kernel_rfl) (by kernel_rfl)).trans (congrArg some (show y 25 = .bool false from hd 25 (by kernel_rfl)))), fun ev ec ef hev => ?_⟩
                    have e44 : ev (.tmp 44) =  (.pointer (some ⟨wr.heap.size, 2, none⟩)) := hev 44 _ ((hl.1 26 44 (by kernel_rfl) (by kernel_rfl)).trans (congrArg some (show y 26 =  (.pointer (some ⟨wr.heap.size, 2, none⟩)) from hd 26 (by kernel_rfl))))
                    clear hd hl hev
                    obtain ⟨x0, x1, x2, x3⟩ := (hbx.out.below hJ hbx.out.lt).four
                    replace hJ := Lib.hid hJ
                    go_simp
                    exact hn _ _ (Below.refl _ _) rfl
                  · intro y W next hl hJ hd hn
                    refine Or.inl ⟨wanted_of (j := 25) (d := 43) rfl rfl rfl ((hl.1 25 43 (by kernel_rfl) (by kernel_rfl)).trans (congrArg some (show y 25 = .bool false from hd 25 (by kernel_rfl)))), fun ev ec ef hev => ?_⟩
                    have e45 : ev (.tmp 45) =  (.string l[j + 1].word) := hev 45 _ ((hl.1 27 45 (by kernel_rfl) (by kernel_rfl)).trans (congrArg some (show y 27 =  (.string l[j + 1].word) from hd 27 (by kernel_rfl))))
                    clear hd hl hev
                    replace hJ := Lib.hid hJ
                    go_simp
                    refine (specWord_any _ hwf.out.2.1 _).mono ?_
                    rintro e w' ⟨rfl, rfl⟩
                    exact ⟨_, rfl, hn _ _ (Below.refl _ _) (by rw [hc3]; rfl)⟩
                  · intro y W next hl hJ hd hn
                    refine Or.inl ⟨wanted_of (j := 25) (d := 43) rfl rfl rfl ((hl.1 25 43 (by kernel_rfl) (by kernel_rfl)).trans (congrArg some (show y 25 = .bool false from hd 25 (by kernel_rfl)))), fun ev ec ef hev => ?_⟩
                    have e46 : ev (.tmp 46) =  (.bool false) := hev 46 _ ((hl.1 28 46 (by kernel_rfl) (by kernel_rfl)).trans (congrArg some (show y 28 =  (.bool false) from hd 28 (by kernel_rfl))))
                    clear hd hl hev
                    replace hJ := Lib.hid hJ
                    go_simp
                    exact hn _ _ (Below.refl _ _) rfl
                  · intro y W next hl hJ hd hn
                    refine Or.inl ⟨wanted_free rfl, fun ev ec ef hev => ?_⟩
                    have e43 : ev (.tmp 43) =  (.bool false) := hev 43 _ ((hl.1 25 43 (by kernel_rfl) (by kernel_rfl)).trans (congrArg some (show y 25 =  (.bool false) from hd 25 (by kernel_rfl))))
                    have e47 : ev (.tmp 47) =  (.bool true) := hev 47 _ ((hl.1 29 47 (by kernel_rfl) (by kernel_rfl)).trans (congrArg some (show y 29 =  (.bool true) from hd 29 (by kernel_rfl))))
                    clear hd hl hev
                    replace hJ := Lib.hid hJ
                    go_simp
                    exact hn _ _ (Below.refl _ _) rfl
                  · intro y W next hl hJ hd hn
                    refine Or.inl ⟨wanted_free rfl, fun ev ec ef hev => ?_⟩
                    have e48 : ev (.tmp 48) =  (.bool true) := hev 48 _ ((hl.1 30 48 (by kernel_rfl) (by kernel_rfl)).trans (congrArg some (show y 30 =  (.bool true) from hd 30 (by kernel_rfl))))
                    clear hd hl hev
                    replace hJ := Lib.hid hJ
                    go_simp
                    exact hn _ _ (Below.refl _ _) rfl
                  · intro y W next hl hJ hd hn
                    exact Or.inr ⟨wanted_not (j := 31) (d := 49) rfl rfl rfl ((hl.1 31 49 (by kernel_rfl) (by kernel_rfl)).trans (congrArg some (show y 31 = .bool true from hd 31 (by kernel_rfl)))), hn _ _ (Below.refl _ _) trivial⟩
                  · intro y W next hl hJ hd hn
                    exact Or.inr ⟨wanted_not (j := 31) (d := 49) rfl rfl rfl ((hl.1 31 49 (by kernel_rfl) (by kernel_rfl)).trans (congrArg some (show y 31 = .bool true from hd 31 (by kernel_rfl)))), hn _ _ (Below.refl _ _) trivial⟩
                  · intro y W next hl hJ hd hn
                    exact Or.inr ⟨wanted_not (j := 31) (d := 49) rfl rfl rfl ((hl.1 31 49 (by kernel_rfl) (by kernel_rfl)).trans (congrArg some (show y 31 = .bool true from hd 31 (by kernel_rfl)))), hn _ _ (Below.refl _ _) trivial⟩
                  · intro y W next hl hJ hd hn
                    exact Or.inr ⟨wanted_not (j := 31) (d := 49) rfl rfl rfl ((hl.1 31 49 (by kernel_rfl) (by kernel_rfl)).trans (congrArg some (show y 31 = .bool true from hd 31 (by kernel_rfl)))), hn _ _ (Below.refl _ _) trivial⟩
                  · intro y W next hl hJ hd hn
                    refine Or.inl ⟨wanted_free rfl, fun ev ec ef hev => ?_⟩
                    have e49 : ev (.tmp 49) =  (.bool true) := hev 49 _ ((hl.1 31 49 (by kernel_rfl) (by kernel_rfl)).trans (congrArg some (show y 31 =  (.bool true) from hd 31 (by kernel_rfl))))
                    have e53 := hev 53 _ (hl.1 35 53 (by kernel_rfl) (by kernel_rfl))
                    clear hd hl hev
                    replace hJ := Lib.hid hJ
                    go_simp
                    exact hn _ _ (Below.refl _ _) rfl

                  · intro y W hb3 hall
                    have hy : y 36 = .bool true := hall 36 (by decide)
                    replace hb2 := Lib.hid (below_then hb2.out hb3 (Nat.le_refl _))
                    clear hall hb3
                    simp only [lay_cons, lay_nil]
                    rw [hy]
                    clear hy
                    simp only [Act.put, List.setIfInBounds_toArray]
                    simp only [List.set_cons_succ, List.set_cons_zero]
                    go_wp2
                    go_ret
                    exact ⟨by rw [hbad.out]; rfl, hb2.out⟩
                | true =>
                  cases hc4 : globOk l[j + 1].prompt.data.toList with
                  | false =>
                    have hbad := Lib.hid (vaultB_bad hlt (okAt_bad hlt (show secOk l[j + 1] = false by rw [secOk_eq, hc1, hc2, hc3, hc4]; rfl)))
                    clear hup
                    obtain ⟨V, hV⟩ : ∃ V, V = wr.alloc (.cells #[.string l[j + 1].name, .int .i64 l[j + 1].seat, .string l[j + 1].word, .string l[j + 1].prompt] 100) := ⟨_, rfl⟩
                    have hbx := Lib.hid (box4 (w := wr) l[j + 1] 100)
                    rw [← hV] at hbx
                    have hb2 := Lib.hid (show Below w.heap.size w V by rw [hV]; exact hb.out.alloc hb.out.size _)
                    have hsub := Lib.hid (show ((j + 1 : Nat) : Int) - 1 = (j : Int) by omega)
                    go_wp2
                    rw [← hV]
                    replace hsecs := Lib.hid (show Secs V (.slice (some ⟨b, off, none⟩) l.length cap) l by rw [hV]; exact hsecs.out.alloc _)
                    clear hV c0 c1 c2 c3
                    refine wp_region_known [(.is (.pointer (some ⟨wr.heap.size, 0, none⟩))), (.is (.string l[j + 1].name)), (.is (.bool true)), (.is (.bool false)), (.is (.bool false)), (.is (.int .i64 ((j + 1 : Nat) : Int))), (.is (.bool true)), (.is (.bool true)), (.is (.slice (some ⟨b, off, none⟩) l.length cap)), (.is (.int .i64 ((j + 1 : Nat) : Int))), (.is (.int .i64 (j : Int))), (.is (.pointer (some ⟨b, off + j * 4, none⟩))), (.is (.pointer (some ⟨b, off + j * 4, none⟩))), (.is (.string l[j].name)), (.is (.pointer (some ⟨wr.heap.size, 0, none⟩))), (.is (.string l[j + 1].name)), (.is (.bool false)), (.is (.bool false)), (.is (.bool false)), (.is (.bool false)), (.is (.pointer (some ⟨wr.heap.size, 1, none⟩))), (.is (.int .i64 l[j + 1].seat)), (.is (.bool true)), (.is (.bool false)), (.is (.bool false)), (.is (.bool false)), (.is (.pointer (some ⟨wr.heap.size, 2, none⟩))), (.is (.string l[j + 1].word)), (.is (.bool true)), (.is (.bool false)), (.is (.bool false)), (.is (.bool false)), (.is (.pointer (some ⟨wr.heap.size, 3, none⟩))), (.is (.string l[j + 1].prompt)), (.is (.bool false)), (.is (.bool true)), (.is (.bool true))] (by kernel_rfl) (by kernel_rfl) (by kernel_rfl) ⟨?_, ?_, ?_, ?_, ?_, ?_, ?_, ?_, ?_, ?_, ?_, ?_, ?_, ?_, ?_, ?_, ?_, ?_, ?_, ?_, ?_, ?_, ?_, ?_, ?_, ?_, ?_, ?_, ?_, ?_, ?_, ?_, ?_, ?_, ?_, ?_, ?_, trivial⟩ ?_
                    · intro y W next hl hJ hd hn
                      refine Or.inl ⟨wanted_free rfl, fun ev ec ef hev => ?_⟩
                      have e4 : ev (.tmp 4) = .pointer (some ⟨wr.heap.size, 0, none⟩) := hev 4 _ ((hl.2 4 (by kernel_rfl)).trans (by kernel_rfl))
                      clear hd hl hev
                      replace hJ := Lib.hid hJ
                      go_simp
                      exact hn _ _ (Below.refl _ _) rfl
                    · intro y W next hl hJ hd hn
                      refine Or.inl ⟨wanted_free rfl, fun ev ec ef hev => ?_⟩
                      have e18 : ev (.tmp 18) =  (.pointer (some ⟨wr.heap.size, 0, none⟩)) := hev 18 _ ((hl.1 0 18 (by kernel_rfl) (by kernel_rfl)).trans (congrArg some (show y 0 =  (.pointer (some ⟨wr.heap.size, 0, none⟩)) from hd 0 (by kernel_rfl))))
                      clear hd hl hev
                      obtain ⟨x0, x1, x2, x3⟩ := (hbx.out.below hJ hbx.out.lt).four
                      replace hJ := Lib.hid hJ
                      go_simp
                      exact hn _ _ (Below.refl _ _) rfl
                    · intro y W next hl hJ hd hn
                      refine Or.inl ⟨wanted_free rfl, fun ev ec ef hev => ?_⟩
                      have e19 : ev (.tmp 19) =  (.string l[j + 1].name) := hev 19 _ ((hl.1 1 19 (by kernel_rfl) (by kernel_rfl)).trans (congrArg some (show y 1 =  (.string l[j + 1].name) from hd 1 (by kernel_rfl))))
                      clear hd hl hev
                      replace hJ := Lib.hid hJ
                      go_simp
                      refine (specWord_any _ hwf.out.1 _).mono ?_
                      rintro e w' ⟨rfl, rfl⟩
                      exact ⟨_, rfl, hn _ _ (Below.refl _ _) (by rw [hc1]; rfl)⟩
                    · intro y W next hl hJ hd hn
                      refine Or.inl ⟨wanted_free rfl, fun ev ec ef hev => ?_⟩
                      have e20 : ev (.tmp 20) =  (.bool true) := hev 20 _ ((hl.1 2 20 (by kernel_rfl) (by kernel_rfl)).trans (congrArg some (show y 2 =  (.bool true) from hd 2 (by kernel_rfl))))
                      clear hd hl hev
                      replace hJ := Lib.hid hJ
                      go_simp
                      exact hn _ _ (Below.refl _ _) rfl
                    · intro y W next hl hJ hd hn
                      refine Or.inl ⟨wanted_free rfl, fun ev ec ef hev => ?_⟩
                      have e21 : ev (.tmp 21) =  (.bool false) := hev 21 _ ((hl.1 3 21 (by kernel_rfl) (by kernel_rfl)).trans (congrArg some (show y 3 =  (.bool false) from hd 3 (by kernel_rfl))))
                      clear hd hl hev
                      replace hJ := Lib.hid hJ
                      go_simp
                      exact hn _ _ (Below.refl _ _) rfl
                    · intro y W next hl hJ hd hn
                      refine Or.inl ⟨wanted_of (j := 4) (d := 22) rfl rfl rfl ((hl.1 4 22 (by kernel_rfl) (by kernel_rfl)).trans (congrArg some (show y 4 = .bool false from hd 4 (by kernel_rfl)))), fun ev ec ef hev => ?_⟩
                      have e3 : ev (.tmp 3) = .int .i64 ((j + 1 : Nat) : Int) := hev 3 _ ((hl.2 3 (by kernel_rfl)).trans (by kernel_rfl))
                      clear hd hl hev
                      replace hJ := Lib.hid hJ
                      go_simp
                      exact hn _ _ (Below.refl _ _) rfl
                    · intro y W next hl hJ hd hn
                      refine Or.inl ⟨wanted_of (j := 4) (d := 22) rfl rfl rfl ((hl.1 4 22 (by kernel_rfl) (by kernel_rfl)).trans (congrArg some (show y 4 = .bool false from hd 4 (by kernel_rfl)))), fun ev ec ef hev => ?_⟩
                      have e23 : ev (.tmp 23) =  (.int .i64 ((j + 1 : Nat) : Int)) := hev 23 _ ((hl.1 5 23 (by kernel_rfl) (by kernel_rfl)).trans (congrArg some (show y 5 =  (.int .i64 ((j + 1 : Nat) : Int)) from hd 5 (by kernel_rfl))))
                      clear hd hl hev
                      replace hJ := Lib.hid hJ
                      go_simp
                      exact hn _ _ (Below.refl _ _) rfl
                    · intro y W next hl hJ hd hn
                      refine Or.inl ⟨wanted_of (j := 4) (d := 22) rfl rfl rfl ((hl.1 4 22 (by kernel_rfl) (by kernel_rfl)).trans (congrArg some (show y 4 = .bool false from hd 4 (by kernel_rfl)))), fun ev ec ef hev => ?_⟩
                      have e24 : ev (.tmp 24) =  (.bool true) := hev 24 _ ((hl.1 6 24 (by kernel_rfl) (by kernel_rfl)).trans (congrArg some (show y 6 =  (.bool true) from hd 6 (by kernel_rfl))))
                      clear hd hl hev
                      replace hJ := Lib.hid hJ
                      go_simp
                      exact hn _ _ (Below.refl _ _) rfl
                    · intro y W next hl hJ hd hn
                      refine Or.inl ⟨wanted_of (j := 7) (d := 25) rfl rfl rfl ((hl.1 7 25 (by kernel_rfl) (by kernel_rfl)).trans (congrArg some (show y 7 = .bool true from hd 7 (by kernel_rfl)))), fun ev ec ef hev => ?_⟩
                      have e0 : ev (.tmp 0) = .slice (some ⟨b, off, none⟩) l.length cap := hev 0 _ ((hl.2 0 (by kernel_rfl)).trans (by kernel_rfl))
                      clear hd hl hev
                      replace hJ := Lib.hid hJ
                      go_simp
                      exact hn _ _ (Below.refl _ _) rfl
                    · intro y W next hl hJ hd hn
                      refine Or.inl ⟨wanted_of (j := 7) (d := 25) rfl rfl rfl ((hl.1 7 25 (by kernel_rfl) (by kernel_rfl)).trans (congrArg some (show y 7 = .bool true from hd 7 (by kernel_rfl)))), fun ev ec ef hev => ?_⟩
                      have e3 : ev (.tmp 3) = .int .i64 ((j + 1 : Nat) : Int) := hev 3 _ ((hl.2 3 (by kernel_rfl)).trans (by kernel_rfl))
                      clear hd hl hev
                      replace hJ := Lib.hid hJ
                      go_simp
                      exact hn _ _ (Below.refl _ _) rfl
                    · intro y W next hl hJ hd hn
                      refine Or.inl ⟨wanted_of (j := 7) (d := 25) rfl rfl rfl ((hl.1 7 25 (by kernel_rfl) (by kernel_rfl)).trans (congrArg some (show y 7 = .bool true from hd 7 (by kernel_rfl)))), fun ev ec ef hev => ?_⟩
                      have e27 : ev (.tmp 27) =  (.int .i64 ((j + 1 : Nat) : Int)) := hev 27 _ ((hl.1 9 27 (by kernel_rfl) (by kernel_rfl)).trans (congrArg some (show y 9 =  (.int .i64 ((j + 1 : Nat) : Int)) from hd 9 (by kernel_rfl))))
                      clear hd hl hev
                      replace hJ := Lib.hid hJ
                      have hsub := hsub.out
                      go_simp
                      refine hn _ _ (Below.refl _ _) ?_
                      show Value.int .i64 _ = Value.int .i64 (j : Int)
                      rw [wrap_small (j : Int) (by omega) (by omega)]
                    · intro y W next hl hJ hd hn
                      refine Or.inl ⟨wanted_of (j := 7) (d := 25) rfl rfl rfl ((hl.1 7 25 (by kernel_rfl) (by kernel_rfl)).trans (congrArg some (show y 7 = .bool true from hd 7 (by kernel_rfl)))), fun ev ec ef hev => ?_⟩
                      have e26 : ev (.tmp 26) =  (.slice (some ⟨b, off, none⟩) l.length cap) := hev 26 _ ((hl.1 8 26 (by kernel_rfl) (by kernel_rfl)).trans (congrArg some (show y 8 =  (.slice (some ⟨b, off, none⟩) l.length cap) from hd 8 (by kernel_rfl))))
                      have e28 : ev (.tmp 28) =  (.int .i64 (j : Int)) := hev 28 _ ((hl.1 10 28 (by kernel_rfl) (by kernel_rfl)).trans (congrArg some (show y 10 =  (.int .i64 (j : Int)) from hd 10 (by kernel_rfl))))
                      clear hd hl hev
                      have hjl : j < l.length := by omega
                      replace hJ := Lib.hid hJ
                      go_simp
                      exact hn _ _ (Below.refl _ _) rfl
                    · intro y W next hl hJ hd hn
                      refine Or.inl ⟨wanted_of (j := 7) (d := 25) rfl rfl rfl ((hl.1 7 25 (by kernel_rfl) (by kernel_rfl)).trans (congrArg some (show y 7 = .bool true from hd 7 (by kernel_rfl)))), fun ev ec ef hev => ?_⟩
                      have e29 : ev (.tmp 29) =  (.pointer (some ⟨b, off + j * 4, none⟩)) := hev 29 _ ((hl.1 11 29 (by kernel_rfl) (by kernel_rfl)).trans (congrArg some (show y 11 =  (.pointer (some ⟨b, off + j * 4, none⟩)) from hd 11 (by kernel_rfl))))
                      clear hd hl hev
                      replace hJ := Lib.hid hJ
                      go_simp
                      exact hn _ _ (Below.refl _ _) rfl
                    · intro y W next hl hJ hd hn
                      refine Or.inl ⟨wanted_of (j := 7) (d := 25) rfl rfl rfl ((hl.1 7 25 (by kernel_rfl) (by kernel_rfl)).trans (congrArg some (show y 7 = .bool true from hd 7 (by kernel_rfl)))), fun ev ec ef hev => ?_⟩
                      have e30 : ev (.tmp 30) =  (.pointer (some ⟨b, off + j * 4, none⟩)) := hev 30 _ ((hl.1 12 30 (by kernel_rfl) (by kernel_rfl)).trans (congrArg some (show y 12 =  (.pointer (some ⟨b, off + j * 4, none⟩)) from hd 12 (by kernel_rfl))))
                      clear hd hl hev
                      obtain ⟨b', off', e', hb', p0, p1, p2, p3⟩ := (hsecs.out.below hJ).four j (by omega)
                      cases e'
                      replace hJ := Lib.hid hJ
                      go_simp
                      exact hn _ _ (Below.refl _ _) rfl
                    · intro y W next hl hJ hd hn
                      refine Or.inl ⟨wanted_of (j := 7) (d := 25) rfl rfl rfl ((hl.1 7 25 (by kernel_rfl) (by kernel_rfl)).trans (congrArg some (show y 7 = .bool true from hd 7 (by kernel_rfl)))), fun ev ec ef hev => ?_⟩
                      have e4 : ev (.tmp 4) = .pointer (some ⟨wr.heap.size, 0, none⟩) := hev 4 _ ((hl.2 4 (by kernel_rfl)).trans (by kernel_rfl))
                      clear hd hl hev
                      replace hJ := Lib.hid hJ
                      go_simp
                      exact hn _ _ (Below.refl _ _) rfl
                    · intro y W next hl hJ hd hn
                      refine Or.inl ⟨wanted_of (j := 7) (d := 25) rfl rfl rfl ((hl.1 7 25 (by kernel_rfl) (by kernel_rfl)).trans (congrArg some (show y 7 = .bool true from hd 7 (by kernel_rfl)))), fun ev ec ef hev => ?_⟩
                      have e32 : ev (.tmp 32) =  (.pointer (some ⟨wr.heap.size, 0, none⟩)) := hev 32 _ ((hl.1 14 32 (by kernel_rfl) (by kernel_rfl)).trans (congrArg some (show y 14 =  (.pointer (some ⟨wr.heap.size, 0, none⟩)) from hd 14 (by kernel_rfl))))
                      clear hd hl hev
                      obtain ⟨x0, x1, x2, x3⟩ := (hbx.out.below hJ hbx.out.lt).four
                      replace hJ := Lib.hid hJ
                      go_simp
                      exact hn _ _ (Below.refl _ _) rfl
                    · intro y W next hl hJ hd hn
                      refine Or.inl ⟨wanted_of (j := 7) (d := 25) rfl rfl rfl ((hl.1 7 25 (by kernel_rfl) (by kernel_rfl)).trans (congrArg some (show y 7 = .bool true from hd 7 (by kernel_rfl)))), fun ev ec ef hev => ?_⟩
                      have e31 : ev (.tmp 31) =  (.string l[j].name) := hev 31 _ ((hl.1 13 31 (by kernel_rfl) (by kernel_rfl)).trans (congrArg some (show y 13 =  (.string l[j].name) from hd 13 (by kernel_rfl))))
                      have e33 : ev (.tmp 33) =  (.string l[j + 1].name) := hev 33 _ ((hl.1 15 33 (by kernel_rfl) (by kernel_rfl)).trans (congrArg some (show y 15 =  (.string l[j + 1].name) from hd 15 (by kernel_rfl))))
                      clear hd hl hev
                      replace hJ := Lib.hid hJ
                      go_simp
                      refine hn _ _ (Below.refl _ _) ?_
                      show Value.bool (!lessB l[j].name l[j + 1].name) = _
                      rw [hle]; rfl
                    · intro y W next hl hJ hd hn
                      refine Or.inl ⟨wanted_of (j := 4) (d := 22) rfl rfl rfl ((hl.1 4 22 (by kernel_rfl) (by kernel_rfl)).trans (congrArg some (show y 4 = .bool false from hd 4 (by kernel_rfl)))), fun ev ec ef hev => ?_⟩
                      have e25 : ev (.tmp 25) =  (.bool true) := hev 25 _ ((hl.1 7 25 (by kernel_rfl) (by kernel_rfl)).trans (congrArg some (show y 7 =  (.bool true) from hd 7 (by kernel_rfl))))
                      have e34 : ev (.tmp 34) =  (.bool false) := hev 34 _ ((hl.1 16 34 (by kernel_rfl) (by kernel_rfl)).trans (congrArg some (show y 16 =  (.bool false) from hd 16 (by kernel_rfl))))
                      clear hd hl hev
                      replace hJ := Lib.hid hJ
                      go_simp
                      exact hn _ _ (Below.refl _ _) rfl
                    · intro y W next hl hJ hd hn
                      refine Or.inl ⟨wanted_free rfl, fun ev ec ef hev => ?_⟩
                      have e22 : ev (.tmp 22) =  (.bool false) := hev 22 _ ((hl.1 4 22 (by kernel_rfl) (by kernel_rfl)).trans (congrArg some (show y 4 =  (.bool false) from hd 4 (by kernel_rfl))))
                      have e35 : ev (.tmp 35) =  (.bool false) := hev 35 _ ((hl.1 17 35 (by kernel_rfl) (by kernel_rfl)).trans (congrArg some (show y 17 =  (.bool false) from hd 17 (by kernel_rfl))))
                      clear hd hl hev
                      replace hJ := Lib.hid hJ
                      go_simp
                      exact hn _ _ (Below.refl _ _) rfl
                    · intro y W next hl hJ hd hn
                      refine Or.inl ⟨wanted_free rfl, fun ev ec ef hev => ?_⟩
                      have e36 : ev (.tmp 36) =  (.bool false) := hev 36 _ ((hl.1 18 36 (by kernel_rfl) (by kernel_rfl)).trans (congrArg some (show y 18 =  (.bool false) from hd 18 (by kernel_rfl))))
                      clear hd hl hev
                      replace hJ := Lib.hid hJ
                      go_simp
                      exact hn _ _ (Below.refl _ _) rfl
                    · intro y W next hl hJ hd hn
                      refine Or.inl ⟨wanted_of (j := 19) (d := 37) rfl rfl rfl ((hl.1 19 37 (by kernel_rfl) (by kernel_rfl)).trans (congrArg some (show y 19 = .bool false from hd 19 (by kernel_rfl)))), fun ev ec ef hev => ?_⟩
                      have e4 : ev (.tmp 4) = .pointer (some ⟨wr.heap.size, 0, none⟩) := hev 4 _ ((hl.2 4 (by kernel_rfl)).trans (by kernel_rfl))
                      clear hd hl hev
                      replace hJ := Lib.hid hJ
                      go_simp
                      exact hn _ _ (Below.refl _ _) rfl
                    · intro y W next hl hJ hd hn
                      refine Or.inl ⟨wanted_of (j := 19) (d := 37) rfl rfl rfl ((hl.1 19 37 (by kernel_rfl) (by kernel_rfl)).trans (congrArg some (show y 19 = .bool false from hd 19 (by kernel_rfl)))), fun ev ec ef hev => ?_⟩
                      have e38 : ev (.tmp 38) =  (.pointer (some ⟨wr.heap.size, 1, none⟩)) := hev 38 _ ((hl.1 20 38 (by kernel_rfl) (by kernel_rfl)).trans (congrArg some (show y 20 =  (.pointer (some ⟨wr.heap.size, 1, none⟩)) from hd 20 (by kernel_rfl))))
                      clear hd hl hev
                      obtain ⟨x0, x1, x2, x3⟩ := (hbx.out.below hJ hbx.out.lt).four
                      replace hJ := Lib.hid hJ
                      go_simp
                      exact hn _ _ (Below.refl _ _) rfl
                    · intro y W next hl hJ hd hn
                      refine Or.inl ⟨wanted_of (j := 19) (d := 37) rfl rfl rfl ((hl.1 19 37 (by kernel_rfl) (by kernel_rfl)).trans (congrArg some (show y 19 = .bool false from hd 19 (by kernel_rfl)))), fun ev ec ef hev => ?_⟩
                      have e39 : ev (.tmp 39) =  (.int .i64 l[j + 1].seat) := hev 39 _ ((hl.1 21 39 (by kernel_rfl) (by kernel_rfl)).trans (congrArg some (show y 21 =  (.int .i64 l[j + 1].seat) from hd 21 (by kernel_rfl))))
                      clear hd hl hev
                      replace hJ := Lib.hid hJ
                      go_simp
                      refine (is_any _ _ _ _).mono ?_
                      rintro e w' ⟨rfl, rfl⟩
                      exact ⟨_, rfl, hn _ _ (Below.refl _ _) (by rw [hc2]; rfl)⟩
                    · intro y W next hl hJ hd hn
                      refine Or.inl ⟨wanted_of (j := 19) (d := 37) rfl rfl rfl ((hl.1 19 37 (by kernel_rfl) (by kernel_rfl)).trans (congrArg some (show y 19 = .bool false from hd 19 (by kernel_rfl)))), fun ev ec ef hev => ?_⟩
                      have e40 : ev (.tmp 40) =  (.bool true) := hev 40 _ ((hl.1 22 40 (by kernel_rfl) (by kernel_rfl)).trans (congrArg some (show y 22 =  (.bool true) from hd 22 (by kernel_rfl))))
                      clear hd hl hev
                      replace hJ := Lib.hid hJ
                      go_simp
                      exact hn _ _ (Below.refl _ _) rfl
                    · intro y W next hl hJ hd hn
                      refine Or.inl ⟨wanted_free rfl, fun ev ec ef hev => ?_⟩
                      have e37 : ev (.tmp 37) =  (.bool false) := hev 37 _ ((hl.1 19 37 (by kernel_rfl) (by kernel_rfl)).trans (congrArg some (show y 19 =  (.bool false) from hd 19 (by kernel_rfl))))
                      have e41 : ev (.tmp 41) =  (.bool false) := hev 41 _ ((hl.1 23 41 (by kernel_rfl) (by kernel_rfl)).trans (congrArg some (show y 23 =  (.bool false) from hd 23 (by kernel_rfl))))
                      clear hd hl hev
                      replace hJ := Lib.hid hJ
                      go_simp
                      exact hn _ _ (Below.refl _ _) rfl
                    · intro y W next hl hJ hd hn
                      refine Or.inl ⟨wanted_free rfl, fun ev ec ef hev => ?_⟩
                      have e42 : ev (.tmp 42) =  (.bool false) := hev 42 _ ((hl.1 24 42 (by kernel_rfl) (by kernel_rfl)).trans (congrArg some (show y 24 =  (.bool false) from hd 24 (by kernel_rfl))))
                      clear hd hl hev
                      replace hJ := Lib.hid hJ
                      go_simp
                      exact hn _ _ (Below.refl _ _) rfl
                    · intro y W next hl hJ hd hn
                      refine Or.inl ⟨wanted_of (j := 25) (d := 43) rfl rfl rfl ((hl.1 25 43 (by kernel_rfl) (by kernel_rfl)).trans (congrArg some (show y 25 = .bool false from hd 25 (by kernel_rfl)))), fun ev ec ef hev => ?_⟩
                      have e4 : ev (.tmp 4) = .pointer (some ⟨wr.heap.size, 0, none⟩) := hev 4 _ ((hl.2 4 (by kernel_rfl)).trans (by kernel_rfl))
                      clear hd hl hev
                      replace hJ := Lib.hid hJ
                      go_simp
                      exact hn _ _ (Below.refl _ _) rfl
                    · intro y W next hl hJ hd hn
                      refine Or.inl ⟨wanted_of (j := 25) (d := 43) rfl rfl rfl ((hl.1 25 43 (by kernel_rfl) (by kernel_rfl)).trans (congrArg some (show y 25 = .bool false from hd 25 (by kernel_rfl)))), fun ev ec ef hev => ?_⟩
                      have e44 : ev (.tmp 44) =  (.pointer (some ⟨wr.heap.size, 2, none⟩)) := hev 44 _ ((hl.1 26 44 (by kernel_rfl) (by kernel_rfl)).trans (congrArg some (show y 26 =  (.pointer (some ⟨wr.heap.size, 2, none⟩)) from hd 26 (by kernel_rfl))))
                      clear hd hl hev
                      obtain ⟨x0, x1, x2, x3⟩ := (hbx.out.below hJ hbx.out.lt).four
                      replace hJ := Lib.hid hJ
                      go_simp
                      exact hn _ _ (Below.refl _ _) rfl
                    · intro y W next hl hJ hd hn
                      refine Or.inl ⟨wanted_of (j := 25) (d := 43) rfl rfl rfl ((hl.1 25 43 (by kernel_rfl) (by kernel_rfl)).trans (congrArg some (show y 25 = .bool false from hd 25 (by kernel_rfl)))), fun ev ec ef hev => ?_⟩
                      have e45 : ev (.tmp 45) =  (.string l[j + 1].word) := hev 45 _ ((hl.1 27 45 (by kernel_rfl) (by kernel_rfl)).trans (congrArg some (show y 27 =  (.string l[j + 1].word) from hd 27 (by kernel_rfl))))
                      clear hd hl hev
                      replace hJ := Lib.hid hJ
                      go_simp
                      refine (specWord_any _ hwf.out.2.1 _).mono ?_
                      rintro e w' ⟨rfl, rfl⟩
                      exact ⟨_, rfl, hn _ _ (Below.refl _ _) (by rw [hc3]; rfl)⟩
                    · intro y W next hl hJ hd hn
                      refine Or.inl ⟨wanted_of (j := 25) (d := 43) rfl rfl rfl ((hl.1 25 43 (by kernel_rfl) (by kernel_rfl)).trans (congrArg some (show y 25 = .bool false from hd 25 (by kernel_rfl)))), fun ev ec ef hev => ?_⟩
                      have e46 : ev (.tmp 46) =  (.bool true) := hev 46 _ ((hl.1 28 46 (by kernel_rfl) (by kernel_rfl)).trans (congrArg some (show y 28 =  (.bool true) from hd 28 (by kernel_rfl))))
                      clear hd hl hev
                      replace hJ := Lib.hid hJ
                      go_simp
                      exact hn _ _ (Below.refl _ _) rfl
                    · intro y W next hl hJ hd hn
                      refine Or.inl ⟨wanted_free rfl, fun ev ec ef hev => ?_⟩
                      have e43 : ev (.tmp 43) =  (.bool false) := hev 43 _ ((hl.1 25 43 (by kernel_rfl) (by kernel_rfl)).trans (congrArg some (show y 25 =  (.bool false) from hd 25 (by kernel_rfl))))
                      have e47 : ev (.tmp 47) =  (.bool false) := hev 47 _ ((hl.1 29 47 (by kernel_rfl) (by kernel_rfl)).trans (congrArg some (show y 29 =  (.bool false) from hd 29 (by kernel_rfl))))
                      clear hd hl hev
                      replace hJ := Lib.hid hJ
                      go_simp
                      exact hn _ _ (Below.refl _ _) rfl
                    · intro y W next hl hJ hd hn
                      refine Or.inl ⟨wanted_free rfl, fun ev ec ef hev => ?_⟩
                      have e48 : ev (.tmp 48) =  (.bool false) := hev 48 _ ((hl.1 30 48 (by kernel_rfl) (by kernel_rfl)).trans (congrArg some (show y 30 =  (.bool false) from hd 30 (by kernel_rfl))))
                      clear hd hl hev
                      replace hJ := Lib.hid hJ
                      go_simp
                      exact hn _ _ (Below.refl _ _) rfl
                    · intro y W next hl hJ hd hn
                      refine Or.inl ⟨wanted_of (j := 31) (d := 49) rfl rfl rfl ((hl.1 31 49 (by kernel_rfl) (by kernel_rfl)).trans (congrArg some (show y 31 = .bool false from hd 31 (by kernel_rfl)))), fun ev ec ef hev => ?_⟩
                      have e4 : ev (.tmp 4) = .pointer (some ⟨wr.heap.size, 0, none⟩) := hev 4 _ ((hl.2 4 (by kernel_rfl)).trans (by kernel_rfl))
                      clear hd hl hev
                      replace hJ := Lib.hid hJ
                      go_simp
                      exact hn _ _ (Below.refl _ _) rfl
                    · intro y W next hl hJ hd hn
                      refine Or.inl ⟨wanted_of (j := 31) (d := 49) rfl rfl rfl ((hl.1 31 49 (by kernel_rfl) (by kernel_rfl)).trans (congrArg some (show y 31 = .bool false from hd 31 (by kernel_rfl)))), fun ev ec ef hev => ?_⟩
                      have e50 : ev (.tmp 50) =  (.pointer (some ⟨wr.heap.size, 3, none⟩)) := hev 50 _ ((hl.1 32 50 (by kernel_rfl) (by kernel_rfl)).trans (congrArg some (show y 32 =  (.pointer (some ⟨wr.heap.size, 3, none⟩)) from hd 32 (by kernel_rfl))))
                      clear hd hl hev
                      obtain ⟨x0, x1, x2, x3⟩ := (hbx.out.below hJ hbx.out.lt).four
                      replace hJ := Lib.hid hJ
                      go_simp
                      exact hn _ _ (Below.refl _ _) rfl
                    · intro y W next hl hJ hd hn
                      refine Or.inl ⟨wanted_of (j := 31) (d := 49) rfl rfl rfl ((hl.1 31 49 (by kernel_rfl) (by kernel_rfl)).trans (congrArg some (show y 31 = .bool false from hd 31 (by kernel_rfl)))), fun ev ec ef hev => ?_⟩
                      have e51 : ev (.tmp 51) =  (.string l[j + 1].prompt) := hev 51 _ ((hl.1 33 51 (by kernel_rfl) (by kernel_rfl)).trans (congrArg some (show y 33 =  (.string l[j + 1].prompt) from hd 33 (by kernel_rfl))))
                      clear hd hl hev
                      replace hJ := Lib.hid hJ
                      go_simp
                      refine (specRight_any _ hsm.out _).mono ?_
                      rintro e w' ⟨rfl, hb⟩
                      exact ⟨_, rfl, hn _ _ hb (by rw [hc4]; rfl)⟩
                    · intro y W next hl hJ hd hn
                      refine Or.inl ⟨wanted_of (j := 31) (d := 49) rfl rfl rfl ((hl.1 31 49 (by kernel_rfl) (by kernel_rfl)).trans (congrArg some (show y 31 = .bool false from hd 31 (by kernel_rfl)))), fun ev ec ef hev => ?_⟩
                      have e52 : ev (.tmp 52) =  (.bool false) := hev 52 _ ((hl.1 34 52 (by kernel_rfl) (by kernel_rfl)).trans (congrArg some (show y 34 =  (.bool false) from hd 34 (by kernel_rfl))))
                      clear hd hl hev
                      replace hJ := Lib.hid hJ
                      go_simp
                      exact hn _ _ (Below.refl _ _) rfl
                    · intro y W next hl hJ hd hn
                      refine Or.inl ⟨wanted_free rfl, fun ev ec ef hev => ?_⟩
                      have e49 : ev (.tmp 49) =  (.bool false) := hev 49 _ ((hl.1 31 49 (by kernel_rfl) (by kernel_rfl)).trans (congrArg some (show y 31 =  (.bool false) from hd 31 (by kernel_rfl))))
                      have e53 : ev (.tmp 53) =  (.bool true) := hev 53 _ ((hl.1 35 53 (by kernel_rfl) (by kernel_rfl)).trans (congrArg some (show y 35 =  (.bool true) from hd 35 (by kernel_rfl))))
                      clear hd hl hev
                      replace hJ := Lib.hid hJ
                      go_simp
                      exact hn _ _ (Below.refl _ _) rfl

                    · intro y W hb3 hall
                      have hy : y 36 = .bool true := hall 36 (by decide)
                      replace hb2 := Lib.hid (below_then hb2.out hb3 (Nat.le_refl _))
                      clear hall hb3
                      simp only [lay_cons, lay_nil]
                      rw [hy]
                      clear hy
                      simp only [Act.put, List.setIfInBounds_toArray]
                      simp only [List.set_cons_succ, List.set_cons_zero]
                      go_wp2
                      go_ret
                      exact ⟨by rw [hbad.out]; rfl, hb2.out⟩
                  | true =>
                    have hup2 := Lib.hid (show upTo l (j + 1 + 1) = true by rw [upTo_succ, hup.out, okAt_next hlt (show secOk l[j + 1] = true by rw [secOk_eq, hc1, hc2, hc3, hc4]; rfl), hle]; rfl)
                    clear hup
                    obtain ⟨V, hV⟩ : ∃ V, V = wr.alloc (.cells #[.string l[j + 1].name, .int .i64 l[j + 1].seat, .string l[j + 1].word, .string l[j + 1].prompt] 100) := ⟨_, rfl⟩
                    have hbx := Lib.hid (box4 (w := wr) l[j + 1] 100)
                    rw [← hV] at hbx
                    have hb2 := Lib.hid (show Below w.heap.size w V by rw [hV]; exact hb.out.alloc hb.out.size _)
                    have hsub := Lib.hid (show ((j + 1 : Nat) : Int) - 1 = (j : Int) by omega)
                    go_wp2
                    rw [← hV]
                    replace hsecs := Lib.hid (show Secs V (.slice (some ⟨b, off, none⟩) l.length cap) l by rw [hV]; exact hsecs.out.alloc _)
                    clear hV c0 c1 c2 c3
                    refine wp_region_known [(.is (.pointer (some ⟨wr.heap.size, 0, none⟩))), (.is (.string l[j + 1].name)), (.is (.bool true)), (.is (.bool false)), (.is (.bool false)), (.is (.int .i64 ((j + 1 : Nat) : Int))), (.is (.bool true)), (.is (.bool true)), (.is (.slice (some ⟨b, off, none⟩) l.length cap)), (.is (.int .i64 ((j + 1 : Nat) : Int))), (.is (.int .i64 (j : Int))), (.is (.pointer (some ⟨b, off + j * 4, none⟩))), (.is (.pointer (some ⟨b, off + j * 4, none⟩))), (.is (.string l[j].name)), (.is (.pointer (some ⟨wr.heap.size, 0, none⟩))), (.is (.string l[j + 1].name)), (.is (.bool false)), (.is (.bool false)), (.is (.bool false)), (.is (.bool false)), (.is (.pointer (some ⟨wr.heap.size, 1, none⟩))), (.is (.int .i64 l[j + 1].seat)), (.is (.bool true)), (.is (.bool false)), (.is (.bool false)), (.is (.bool false)), (.is (.pointer (some ⟨wr.heap.size, 2, none⟩))), (.is (.string l[j + 1].word)), (.is (.bool true)), (.is (.bool false)), (.is (.bool false)), (.is (.bool false)), (.is (.pointer (some ⟨wr.heap.size, 3, none⟩))), (.is (.string l[j + 1].prompt)), (.is (.bool true)), (.is (.bool false)), (.is (.bool false))] (by kernel_rfl) (by kernel_rfl) (by kernel_rfl) ⟨?_, ?_, ?_, ?_, ?_, ?_, ?_, ?_, ?_, ?_, ?_, ?_, ?_, ?_, ?_, ?_, ?_, ?_, ?_, ?_, ?_, ?_, ?_, ?_, ?_, ?_, ?_, ?_, ?_, ?_, ?_, ?_, ?_, ?_, ?_, ?_, ?_, trivial⟩ ?_
                    · intro y W next hl hJ hd hn
                      refine Or.inl ⟨wanted_free rfl, fun ev ec ef hev => ?_⟩
                      have e4 : ev (.tmp 4) = .pointer (some ⟨wr.heap.size, 0, none⟩) := hev 4 _ ((hl.2 4 (by kernel_rfl)).trans (by kernel_rfl))
                      clear hd hl hev
                      replace hJ := Lib.hid hJ
                      go_simp
                      exact hn _ _ (Below.refl _ _) rfl
                    · intro y W next hl hJ hd hn
                      refine Or.inl ⟨wanted_free rfl, fun ev ec ef hev => ?_⟩
                      have e18 : ev (.tmp 18) =  (.pointer (some ⟨wr.heap.size, 0, none⟩)) := hev 18 _ ((hl.1 0 18 (by kernel_rfl) (by kernel_rfl)).trans (congrArg some (show y 0 =  (.pointer (some ⟨wr.heap.size, 0, none⟩)) from hd 0 (by kernel_rfl))))
                      clear hd hl hev
                      obtain ⟨x0, x1, x2, x3⟩ := (hbx.out.below hJ hbx.out.lt).four
                      replace hJ := Lib.hid hJ
                      go_simp
                      exact hn _ _ (Below.refl _ _) rfl
                    · intro y W next hl hJ hd hn
                      refine Or.inl ⟨wanted_free rfl, fun ev ec ef hev => ?_⟩
                      have e19 : ev (.tmp 19) =  (.string l[j + 1].name) := hev 19 _ ((hl.1 1 19 (by kernel_rfl) (by kernel_rfl)).trans (congrArg some (show y 1 =  (.string l[j + 1].name) from hd 1 (by kernel_rfl))))
                      clear hd hl hev
                      replace hJ := Lib.hid hJ
                      go_simp
                      refine (specWord_any _ hwf.out.1 _).mono ?_
                      rintro e w' ⟨rfl, rfl⟩
                      exact ⟨_, rfl, hn _ _ (Below.refl _ _) (by rw [hc1]; rfl)⟩
                    · intro y W next hl hJ hd hn
                      refine Or.inl ⟨wanted_free rfl, fun ev ec ef hev => ?_⟩
                      have e20 : ev (.tmp 20) =  (.bool true) := hev 20 _ ((hl.1 2 20 (by kernel_rfl) (by kernel_rfl)).trans (congrArg some (show y 2 =  (.bool true) from hd 2 (by kernel_rfl))))
                      clear hd hl hev
                      replace hJ := Lib.hid hJ
                      go_simp
                      exact hn _ _ (Below.refl _ _) rfl
                    · intro y W next hl hJ hd hn
                      refine Or.inl ⟨wanted_free rfl, fun ev ec ef hev => ?_⟩
                      have e21 : ev (.tmp 21) =  (.bool false) := hev 21 _ ((hl.1 3 21 (by kernel_rfl) (by kernel_rfl)).trans (congrArg some (show y 3 =  (.bool false) from hd 3 (by kernel_rfl))))
                      clear hd hl hev
                      replace hJ := Lib.hid hJ
                      go_simp
                      exact hn _ _ (Below.refl _ _) rfl
                    · intro y W next hl hJ hd hn
                      refine Or.inl ⟨wanted_of (j := 4) (d := 22) rfl rfl rfl ((hl.1 4 22 (by kernel_rfl) (by kernel_rfl)).trans (congrArg some (show y 4 = .bool false from hd 4 (by kernel_rfl)))), fun ev ec ef hev => ?_⟩
                      have e3 : ev (.tmp 3) = .int .i64 ((j + 1 : Nat) : Int) := hev 3 _ ((hl.2 3 (by kernel_rfl)).trans (by kernel_rfl))
                      clear hd hl hev
                      replace hJ := Lib.hid hJ
                      go_simp
                      exact hn _ _ (Below.refl _ _) rfl
                    · intro y W next hl hJ hd hn
                      refine Or.inl ⟨wanted_of (j := 4) (d := 22) rfl rfl rfl ((hl.1 4 22 (by kernel_rfl) (by kernel_rfl)).trans (congrArg some (show y 4 = .bool false from hd 4 (by kernel_rfl)))), fun ev ec ef hev => ?_⟩
                      have e23 : ev (.tmp 23) =  (.int .i64 ((j + 1 : Nat) : Int)) := hev 23 _ ((hl.1 5 23 (by kernel_rfl) (by kernel_rfl)).trans (congrArg some (show y 5 =  (.int .i64 ((j + 1 : Nat) : Int)) from hd 5 (by kernel_rfl))))
                      clear hd hl hev
                      replace hJ := Lib.hid hJ
                      go_simp
                      exact hn _ _ (Below.refl _ _) rfl
                    · intro y W next hl hJ hd hn
                      refine Or.inl ⟨wanted_of (j := 4) (d := 22) rfl rfl rfl ((hl.1 4 22 (by kernel_rfl) (by kernel_rfl)).trans (congrArg some (show y 4 = .bool false from hd 4 (by kernel_rfl)))), fun ev ec ef hev => ?_⟩
                      have e24 : ev (.tmp 24) =  (.bool true) := hev 24 _ ((hl.1 6 24 (by kernel_rfl) (by kernel_rfl)).trans (congrArg some (show y 6 =  (.bool true) from hd 6 (by kernel_rfl))))
                      clear hd hl hev
                      replace hJ := Lib.hid hJ
                      go_simp
                      exact hn _ _ (Below.refl _ _) rfl
                    · intro y W next hl hJ hd hn
                      refine Or.inl ⟨wanted_of (j := 7) (d := 25) rfl rfl rfl ((hl.1 7 25 (by kernel_rfl) (by kernel_rfl)).trans (congrArg some (show y 7 = .bool true from hd 7 (by kernel_rfl)))), fun ev ec ef hev => ?_⟩
                      have e0 : ev (.tmp 0) = .slice (some ⟨b, off, none⟩) l.length cap := hev 0 _ ((hl.2 0 (by kernel_rfl)).trans (by kernel_rfl))
                      clear hd hl hev
                      replace hJ := Lib.hid hJ
                      go_simp
                      exact hn _ _ (Below.refl _ _) rfl
                    · intro y W next hl hJ hd hn
                      refine Or.inl ⟨wanted_of (j := 7) (d := 25) rfl rfl rfl ((hl.1 7 25 (by kernel_rfl) (by kernel_rfl)).trans (congrArg some (show y 7 = .bool true from hd 7 (by kernel_rfl)))), fun ev ec ef hev => ?_⟩
                      have e3 : ev (.tmp 3) = .int .i64 ((j + 1 : Nat) : Int) := hev 3 _ ((hl.2 3 (by kernel_rfl)).trans (by kernel_rfl))
                      clear hd hl hev
                      replace hJ := Lib.hid hJ
                      go_simp
                      exact hn _ _ (Below.refl _ _) rfl
                    · intro y W next hl hJ hd hn
                      refine Or.inl ⟨wanted_of (j := 7) (d := 25) rfl rfl rfl ((hl.1 7 25 (by kernel_rfl) (by kernel_rfl)).trans (congrArg some (show y 7 = .bool true from hd 7 (by kernel_rfl)))), fun ev ec ef hev => ?_⟩
                      have e27 : ev (.tmp 27) =  (.int .i64 ((j + 1 : Nat) : Int)) := hev 27 _ ((hl.1 9 27 (by kernel_rfl) (by kernel_rfl)).trans (congrArg some (show y 9 =  (.int .i64 ((j + 1 : Nat) : Int)) from hd 9 (by kernel_rfl))))
                      clear hd hl hev
                      replace hJ := Lib.hid hJ
                      have hsub := hsub.out
                      go_simp
                      refine hn _ _ (Below.refl _ _) ?_
                      show Value.int .i64 _ = Value.int .i64 (j : Int)
                      rw [wrap_small (j : Int) (by omega) (by omega)]
                    · intro y W next hl hJ hd hn
                      refine Or.inl ⟨wanted_of (j := 7) (d := 25) rfl rfl rfl ((hl.1 7 25 (by kernel_rfl) (by kernel_rfl)).trans (congrArg some (show y 7 = .bool true from hd 7 (by kernel_rfl)))), fun ev ec ef hev => ?_⟩
                      have e26 : ev (.tmp 26) =  (.slice (some ⟨b, off, none⟩) l.length cap) := hev 26 _ ((hl.1 8 26 (by kernel_rfl) (by kernel_rfl)).trans (congrArg some (show y 8 =  (.slice (some ⟨b, off, none⟩) l.length cap) from hd 8 (by kernel_rfl))))
                      have e28 : ev (.tmp 28) =  (.int .i64 (j : Int)) := hev 28 _ ((hl.1 10 28 (by kernel_rfl) (by kernel_rfl)).trans (congrArg some (show y 10 =  (.int .i64 (j : Int)) from hd 10 (by kernel_rfl))))
                      clear hd hl hev
                      have hjl : j < l.length := by omega
                      replace hJ := Lib.hid hJ
                      go_simp
                      exact hn _ _ (Below.refl _ _) rfl
                    · intro y W next hl hJ hd hn
                      refine Or.inl ⟨wanted_of (j := 7) (d := 25) rfl rfl rfl ((hl.1 7 25 (by kernel_rfl) (by kernel_rfl)).trans (congrArg some (show y 7 = .bool true from hd 7 (by kernel_rfl)))), fun ev ec ef hev => ?_⟩
                      have e29 : ev (.tmp 29) =  (.pointer (some ⟨b, off + j * 4, none⟩)) := hev 29 _ ((hl.1 11 29 (by kernel_rfl) (by kernel_rfl)).trans (congrArg some (show y 11 =  (.pointer (some ⟨b, off + j * 4, none⟩)) from hd 11 (by kernel_rfl))))
                      clear hd hl hev
                      replace hJ := Lib.hid hJ
                      go_simp
                      exact hn _ _ (Below.refl _ _) rfl
                    · intro y W next hl hJ hd hn
                      refine Or.inl ⟨wanted_of (j := 7) (d := 25) rfl rfl rfl ((hl.1 7 25 (by kernel_rfl) (by kernel_rfl)).trans (congrArg some (show y 7 = .bool true from hd 7 (by kernel_rfl)))), fun ev ec ef hev => ?_⟩
                      have e30 : ev (.tmp 30) =  (.pointer (some ⟨b, off + j * 4, none⟩)) := hev 30 _ ((hl.1 12 30 (by kernel_rfl) (by kernel_rfl)).trans (congrArg some (show y 12 =  (.pointer (some ⟨b, off + j * 4, none⟩)) from hd 12 (by kernel_rfl))))
                      clear hd hl hev
                      obtain ⟨b', off', e', hb', p0, p1, p2, p3⟩ := (hsecs.out.below hJ).four j (by omega)
                      cases e'
                      replace hJ := Lib.hid hJ
                      go_simp
                      exact hn _ _ (Below.refl _ _) rfl
                    · intro y W next hl hJ hd hn
                      refine Or.inl ⟨wanted_of (j := 7) (d := 25) rfl rfl rfl ((hl.1 7 25 (by kernel_rfl) (by kernel_rfl)).trans (congrArg some (show y 7 = .bool true from hd 7 (by kernel_rfl)))), fun ev ec ef hev => ?_⟩
                      have e4 : ev (.tmp 4) = .pointer (some ⟨wr.heap.size, 0, none⟩) := hev 4 _ ((hl.2 4 (by kernel_rfl)).trans (by kernel_rfl))
                      clear hd hl hev
                      replace hJ := Lib.hid hJ
                      go_simp
                      exact hn _ _ (Below.refl _ _) rfl
                    · intro y W next hl hJ hd hn
                      refine Or.inl ⟨wanted_of (j := 7) (d := 25) rfl rfl rfl ((hl.1 7 25 (by kernel_rfl) (by kernel_rfl)).trans (congrArg some (show y 7 = .bool true from hd 7 (by kernel_rfl)))), fun ev ec ef hev => ?_⟩
                      have e32 : ev (.tmp 32) =  (.pointer (some ⟨wr.heap.size, 0, none⟩)) := hev 32 _ ((hl.1 14 32 (by kernel_rfl) (by kernel_rfl)).trans (congrArg some (show y 14 =  (.pointer (some ⟨wr.heap.size, 0, none⟩)) from hd 14 (by kernel_rfl))))
                      clear hd hl hev
                      obtain ⟨x0, x1, x2, x3⟩ := (hbx.out.below hJ hbx.out.lt).four
                      replace hJ := Lib.hid hJ
                      go_simp
                      exact hn _ _ (Below.refl _ _) rfl
                    · intro y W next hl hJ hd hn
                      refine Or.inl ⟨wanted_of (j := 7) (d := 25) rfl rfl rfl ((hl.1 7 25 (by kernel_rfl) (by kernel_rfl)).trans (congrArg some (show y 7 = .bool true from hd 7 (by kernel_rfl)))), fun ev ec ef hev => ?_⟩
                      have e31 : ev (.tmp 31) =  (.string l[j].name) := hev 31 _ ((hl.1 13 31 (by kernel_rfl) (by kernel_rfl)).trans (congrArg some (show y 13 =  (.string l[j].name) from hd 13 (by kernel_rfl))))
                      have e33 : ev (.tmp 33) =  (.string l[j + 1].name) := hev 33 _ ((hl.1 15 33 (by kernel_rfl) (by kernel_rfl)).trans (congrArg some (show y 15 =  (.string l[j + 1].name) from hd 15 (by kernel_rfl))))
                      clear hd hl hev
                      replace hJ := Lib.hid hJ
                      go_simp
                      refine hn _ _ (Below.refl _ _) ?_
                      show Value.bool (!lessB l[j].name l[j + 1].name) = _
                      rw [hle]; rfl
                    · intro y W next hl hJ hd hn
                      refine Or.inl ⟨wanted_of (j := 4) (d := 22) rfl rfl rfl ((hl.1 4 22 (by kernel_rfl) (by kernel_rfl)).trans (congrArg some (show y 4 = .bool false from hd 4 (by kernel_rfl)))), fun ev ec ef hev => ?_⟩
                      have e25 : ev (.tmp 25) =  (.bool true) := hev 25 _ ((hl.1 7 25 (by kernel_rfl) (by kernel_rfl)).trans (congrArg some (show y 7 =  (.bool true) from hd 7 (by kernel_rfl))))
                      have e34 : ev (.tmp 34) =  (.bool false) := hev 34 _ ((hl.1 16 34 (by kernel_rfl) (by kernel_rfl)).trans (congrArg some (show y 16 =  (.bool false) from hd 16 (by kernel_rfl))))
                      clear hd hl hev
                      replace hJ := Lib.hid hJ
                      go_simp
                      exact hn _ _ (Below.refl _ _) rfl
                    · intro y W next hl hJ hd hn
                      refine Or.inl ⟨wanted_free rfl, fun ev ec ef hev => ?_⟩
                      have e22 : ev (.tmp 22) =  (.bool false) := hev 22 _ ((hl.1 4 22 (by kernel_rfl) (by kernel_rfl)).trans (congrArg some (show y 4 =  (.bool false) from hd 4 (by kernel_rfl))))
                      have e35 : ev (.tmp 35) =  (.bool false) := hev 35 _ ((hl.1 17 35 (by kernel_rfl) (by kernel_rfl)).trans (congrArg some (show y 17 =  (.bool false) from hd 17 (by kernel_rfl))))
                      clear hd hl hev
                      replace hJ := Lib.hid hJ
                      go_simp
                      exact hn _ _ (Below.refl _ _) rfl
                    · intro y W next hl hJ hd hn
                      refine Or.inl ⟨wanted_free rfl, fun ev ec ef hev => ?_⟩
                      have e36 : ev (.tmp 36) =  (.bool false) := hev 36 _ ((hl.1 18 36 (by kernel_rfl) (by kernel_rfl)).trans (congrArg some (show y 18 =  (.bool false) from hd 18 (by kernel_rfl))))
                      clear hd hl hev
                      replace hJ := Lib.hid hJ
                      go_simp
                      exact hn _ _ (Below.refl _ _) rfl
                    · intro y W next hl hJ hd hn
                      refine Or.inl ⟨wanted_of (j := 19) (d := 37) rfl rfl rfl ((hl.1 19 37 (by kernel_rfl) (by kernel_rfl)).trans (congrArg some (show y 19 = .bool false from hd 19 (by kernel_rfl)))), fun ev ec ef hev => ?_⟩
                      have e4 : ev (.tmp 4) = .pointer (some ⟨wr.heap.size, 0, none⟩) := hev 4 _ ((hl.2 4 (by kernel_rfl)).trans (by kernel_rfl))
                      clear hd hl hev
                      replace hJ := Lib.hid hJ
                      go_simp
                      exact hn _ _ (Below.refl _ _) rfl
                    · intro y W next hl hJ hd hn
                      refine Or.inl ⟨wanted_of (j := 19) (d := 37) rfl rfl rfl ((hl.1 19 37 (by kernel_rfl) (by kernel_rfl)).trans (congrArg some (show y 19 = .bool false from hd 19 (by kernel_rfl)))), fun ev ec ef hev => ?_⟩
                      have e38 : ev (.tmp 38) =  (.pointer (some ⟨wr.heap.size, 1, none⟩)) := hev 38 _ ((hl.1 20 38 (by kernel_rfl) (by kernel_rfl)).trans (congrArg some (show y 20 =  (.pointer (some ⟨wr.heap.size, 1, none⟩)) from hd 20 (by kernel_rfl))))
                      clear hd hl hev
                      obtain ⟨x0, x1, x2, x3⟩ := (hbx.out.below hJ hbx.out.lt).four
                      replace hJ := Lib.hid hJ
                      go_simp
                      exact hn _ _ (Below.refl _ _) rfl
                    · intro y W next hl hJ hd hn
                      refine Or.inl ⟨wanted_of (j := 19) (d := 37) rfl rfl rfl ((hl.1 19 37 (by kernel_rfl) (by kernel_rfl)).trans (congrArg some (show y 19 = .bool false from hd 19 (by kernel_rfl)))), fun ev ec ef hev => ?_⟩
                      have e39 : ev (.tmp 39) =  (.int .i64 l[j + 1].seat) := hev 39 _ ((hl.1 21 39 (by kernel_rfl) (by kernel_rfl)).trans (congrArg some (show y 21 =  (.int .i64 l[j + 1].seat) from hd 21 (by kernel_rfl))))
                      clear hd hl hev
                      replace hJ := Lib.hid hJ
                      go_simp
                      refine (is_any _ _ _ _).mono ?_
                      rintro e w' ⟨rfl, rfl⟩
                      exact ⟨_, rfl, hn _ _ (Below.refl _ _) (by rw [hc2]; rfl)⟩
                    · intro y W next hl hJ hd hn
                      refine Or.inl ⟨wanted_of (j := 19) (d := 37) rfl rfl rfl ((hl.1 19 37 (by kernel_rfl) (by kernel_rfl)).trans (congrArg some (show y 19 = .bool false from hd 19 (by kernel_rfl)))), fun ev ec ef hev => ?_⟩
                      have e40 : ev (.tmp 40) =  (.bool true) := hev 40 _ ((hl.1 22 40 (by kernel_rfl) (by kernel_rfl)).trans (congrArg some (show y 22 =  (.bool true) from hd 22 (by kernel_rfl))))
                      clear hd hl hev
                      replace hJ := Lib.hid hJ
                      go_simp
                      exact hn _ _ (Below.refl _ _) rfl
                    · intro y W next hl hJ hd hn
                      refine Or.inl ⟨wanted_free rfl, fun ev ec ef hev => ?_⟩
                      have e37 : ev (.tmp 37) =  (.bool false) := hev 37 _ ((hl.1 19 37 (by kernel_rfl) (by kernel_rfl)).trans (congrArg some (show y 19 =  (.bool false) from hd 19 (by kernel_rfl))))
                      have e41 : ev (.tmp 41) =  (.bool false) := hev 41 _ ((hl.1 23 41 (by kernel_rfl) (by kernel_rfl)).trans (congrArg some (show y 23 =  (.bool false) from hd 23 (by kernel_rfl))))
                      clear hd hl hev
                      replace hJ := Lib.hid hJ
                      go_simp
                      exact hn _ _ (Below.refl _ _) rfl
                    · intro y W next hl hJ hd hn
                      refine Or.inl ⟨wanted_free rfl, fun ev ec ef hev => ?_⟩
                      have e42 : ev (.tmp 42) =  (.bool false) := hev 42 _ ((hl.1 24 42 (by kernel_rfl) (by kernel_rfl)).trans (congrArg some (show y 24 =  (.bool false) from hd 24 (by kernel_rfl))))
                      clear hd hl hev
                      replace hJ := Lib.hid hJ
                      go_simp
                      exact hn _ _ (Below.refl _ _) rfl
                    · intro y W next hl hJ hd hn
                      refine Or.inl ⟨wanted_of (j := 25) (d := 43) rfl rfl rfl ((hl.1 25 43 (by kernel_rfl) (by kernel_rfl)).trans (congrArg some (show y 25 = .bool false from hd 25 (by kernel_rfl)))), fun ev ec ef hev => ?_⟩
                      have e4 : ev (.tmp 4) = .pointer (some ⟨wr.heap.size, 0, none⟩) := hev 4 _ ((hl.2 4 (by kernel_rfl)).trans (by kernel_rfl))
                      clear hd hl hev
                      replace hJ := Lib.hid hJ
                      go_simp
                      exact hn _ _ (Below.refl _ _) rfl
                    · intro y W next hl hJ hd hn
                      refine Or.inl ⟨wanted_of (j := 25) (d := 43) rfl rfl rfl ((hl.1 25 43 (by kernel_rfl) (by kernel_rfl)).trans (congrArg some (show y 25 = .bool false from hd 25 (by kernel_rfl)))), fun ev ec ef hev => ?_⟩
                      have e44 : ev (.tmp 44) =  (.pointer (some ⟨wr.heap.size, 2, none⟩)) := hev 44 _ ((hl.1 26 44 (by kernel_rfl) (by kernel_rfl)).trans (congrArg some (show y 26 =  (.pointer (some ⟨wr.heap.size, 2, none⟩)) from hd 26 (by kernel_rfl))))
                      clear hd hl hev
                      obtain ⟨x0, x1, x2, x3⟩ := (hbx.out.below hJ hbx.out.lt).four
                      replace hJ := Lib.hid hJ
                      go_simp
                      exact hn _ _ (Below.refl _ _) rfl
                    · intro y W next hl hJ hd hn
                      refine Or.inl ⟨wanted_of (j := 25) (d := 43) rfl rfl rfl ((hl.1 25 43 (by kernel_rfl) (by kernel_rfl)).trans (congrArg some (show y 25 = .bool false from hd 25 (by kernel_rfl)))), fun ev ec ef hev => ?_⟩
                      have e45 : ev (.tmp 45) =  (.string l[j + 1].word) := hev 45 _ ((hl.1 27 45 (by kernel_rfl) (by kernel_rfl)).trans (congrArg some (show y 27 =  (.string l[j + 1].word) from hd 27 (by kernel_rfl))))
                      clear hd hl hev
                      replace hJ := Lib.hid hJ
                      go_simp
                      refine (specWord_any _ hwf.out.2.1 _).mono ?_
                      rintro e w' ⟨rfl, rfl⟩
                      exact ⟨_, rfl, hn _ _ (Below.refl _ _) (by rw [hc3]; rfl)⟩
                    · intro y W next hl hJ hd hn
                      refine Or.inl ⟨wanted_of (j := 25) (d := 43) rfl rfl rfl ((hl.1 25 43 (by kernel_rfl) (by kernel_rfl)).trans (congrArg some (show y 25 = .bool false from hd 25 (by kernel_rfl)))), fun ev ec ef hev => ?_⟩
                      have e46 : ev (.tmp 46) =  (.bool true) := hev 46 _ ((hl.1 28 46 (by kernel_rfl) (by kernel_rfl)).trans (congrArg some (show y 28 =  (.bool true) from hd 28 (by kernel_rfl))))
                      clear hd hl hev
                      replace hJ := Lib.hid hJ
                      go_simp
                      exact hn _ _ (Below.refl _ _) rfl
                    · intro y W next hl hJ hd hn
                      refine Or.inl ⟨wanted_free rfl, fun ev ec ef hev => ?_⟩
                      have e43 : ev (.tmp 43) =  (.bool false) := hev 43 _ ((hl.1 25 43 (by kernel_rfl) (by kernel_rfl)).trans (congrArg some (show y 25 =  (.bool false) from hd 25 (by kernel_rfl))))
                      have e47 : ev (.tmp 47) =  (.bool false) := hev 47 _ ((hl.1 29 47 (by kernel_rfl) (by kernel_rfl)).trans (congrArg some (show y 29 =  (.bool false) from hd 29 (by kernel_rfl))))
                      clear hd hl hev
                      replace hJ := Lib.hid hJ
                      go_simp
                      exact hn _ _ (Below.refl _ _) rfl
                    · intro y W next hl hJ hd hn
                      refine Or.inl ⟨wanted_free rfl, fun ev ec ef hev => ?_⟩
                      have e48 : ev (.tmp 48) =  (.bool false) := hev 48 _ ((hl.1 30 48 (by kernel_rfl) (by kernel_rfl)).trans (congrArg some (show y 30 =  (.bool false) from hd 30 (by kernel_rfl))))
                      clear hd hl hev
                      replace hJ := Lib.hid hJ
                      go_simp
                      exact hn _ _ (Below.refl _ _) rfl
                    · intro y W next hl hJ hd hn
                      refine Or.inl ⟨wanted_of (j := 31) (d := 49) rfl rfl rfl ((hl.1 31 49 (by kernel_rfl) (by kernel_rfl)).trans (congrArg some (show y 31 = .bool false from hd 31 (by kernel_rfl)))), fun ev ec ef hev => ?_⟩
                      have e4 : ev (.tmp 4) = .pointer (some ⟨wr.heap.size, 0, none⟩) := hev 4 _ ((hl.2 4 (by kernel_rfl)).trans (by kernel_rfl))
                      clear hd hl hev
                      replace hJ := Lib.hid hJ
                      go_simp
                      exact hn _ _ (Below.refl _ _) rfl
                    · intro y W next hl hJ hd hn
                      refine Or.inl ⟨wanted_of (j := 31) (d := 49) rfl rfl rfl ((hl.1 31 49 (by kernel_rfl) (by kernel_rfl)).trans (congrArg some (show y 31 = .bool false from hd 31 (by kernel_rfl)))), fun ev ec ef hev => ?_⟩
                      have e50 : ev (.tmp 50) =  (.pointer (some ⟨wr.heap.size, 3, none⟩)) := hev 50 _ ((hl.1 32 50 (by kernel_rfl) (by kernel_rfl)).trans (congrArg some (show y 32 =  (.pointer (some ⟨wr.heap.size, 3, none⟩)) from hd 32 (by kernel_rfl))))
                      clear hd hl hev
                      obtain ⟨x0, x1, x2, x3⟩ := (hbx.out.below hJ hbx.out.lt).four
                      replace hJ := Lib.hid hJ
                      go_simp
                      exact hn _ _ (Below.refl _ _) rfl
                    · intro y W next hl hJ hd hn
                      refine Or.inl ⟨wanted_of (j := 31) (d := 49) rfl rfl rfl ((hl.1 31 49 (by kernel_rfl) (by kernel_rfl)).trans (congrArg some (show y 31 = .bool false from hd 31 (by kernel_rfl)))), fun ev ec ef hev => ?_⟩
                      have e51 : ev (.tmp 51) =  (.string l[j + 1].prompt) := hev 51 _ ((hl.1 33 51 (by kernel_rfl) (by kernel_rfl)).trans (congrArg some (show y 33 =  (.string l[j + 1].prompt) from hd 33 (by kernel_rfl))))
                      clear hd hl hev
                      replace hJ := Lib.hid hJ
                      go_simp
                      refine (specRight_any _ hsm.out _).mono ?_
                      rintro e w' ⟨rfl, hb⟩
                      exact ⟨_, rfl, hn _ _ hb (by rw [hc4]; rfl)⟩
                    · intro y W next hl hJ hd hn
                      refine Or.inl ⟨wanted_of (j := 31) (d := 49) rfl rfl rfl ((hl.1 31 49 (by kernel_rfl) (by kernel_rfl)).trans (congrArg some (show y 31 = .bool false from hd 31 (by kernel_rfl)))), fun ev ec ef hev => ?_⟩
                      have e52 : ev (.tmp 52) =  (.bool true) := hev 52 _ ((hl.1 34 52 (by kernel_rfl) (by kernel_rfl)).trans (congrArg some (show y 34 =  (.bool true) from hd 34 (by kernel_rfl))))
                      clear hd hl hev
                      replace hJ := Lib.hid hJ
                      go_simp
                      exact hn _ _ (Below.refl _ _) rfl
                    · intro y W next hl hJ hd hn
                      refine Or.inl ⟨wanted_free rfl, fun ev ec ef hev => ?_⟩
                      have e49 : ev (.tmp 49) =  (.bool false) := hev 49 _ ((hl.1 31 49 (by kernel_rfl) (by kernel_rfl)).trans (congrArg some (show y 31 =  (.bool false) from hd 31 (by kernel_rfl))))
                      have e53 : ev (.tmp 53) =  (.bool false) := hev 53 _ ((hl.1 35 53 (by kernel_rfl) (by kernel_rfl)).trans (congrArg some (show y 35 =  (.bool false) from hd 35 (by kernel_rfl))))
                      clear hd hl hev
                      replace hJ := Lib.hid hJ
                      go_simp
                      exact hn _ _ (Below.refl _ _) rfl

                    · intro y W hb3 hall
                      have hy : y 36 = .bool false := hall 36 (by decide)
                      replace hb2 := Lib.hid (below_then hb2.out hb3 (Nat.le_refl _))
                      clear hall hb3
                      simp only [lay_cons, lay_nil]
                      rw [hy]
                      clear hy
                      simp only [Act.put, List.setIfInBounds_toArray]
                      simp only [List.set_cons_succ, List.set_cons_zero]
                      go_wp2
                      go_roundw
                      case rel => exact ⟨j + 1 + 1, by omega, by go_num, hup2, hb2⟩
                      case measure => simp [intOf]; omega
      · have hlt' : ¬ (k : Int) < (l.length : Int) := by omega
        obtain rfl : k = l.length := by omega
        have hyes := Lib.hid (vaultB_yes h4 hup.out)
        go_wp2
        go_ret
        exact ⟨by rw [hyes.out]; rfl, hb.out⟩
  · have hbad := Lib.hid (vaultB_long h4)
    have h4' : (4 : Int) < (l.length : Int) := by omega
    go_enter Tryd.func66, Tryd.ntmps66
    go_wp2
    go_ret
    exact ⟨by rw [hbad.out]; rfl, Below.refl _ _⟩
end Go.Proofs.YtbadpmghlclfkaaDoor
