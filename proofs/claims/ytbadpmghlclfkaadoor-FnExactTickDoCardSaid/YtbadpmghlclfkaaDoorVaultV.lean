/- VaultRight of the program. -/
import Derived.Test.YtbadpmghlclfkaaDoorVaultR
import Derived.Test.YtbadpmghlclfkaaDoorKnown
namespace Go.Proofs.YtbadpmghlclfkaaDoor
open Go.RowKit

theorem okAt_first {l : List Sec} (h : 0 < l.length) (hs : secOk l[0] = true) : okAt l 0 = true := by rw [okAt_of h, hs]; rfl
theorem okAt_next {l : List Sec} {k : Nat} (h : k + 1 < l.length) (hs : secOk l[k + 1] = true) : okAt l (k + 1) = lessB l[k].name l[k + 1].name := by rw [okAt_of h, hs, riseB_of h]; simp
theorem okAt_bad {l : List Sec} {k : Nat} (h : k < l.length) (hs : secOk l[k] = false) : okAt l k = false := by rw [okAt_of h, hs]; rfl
set_option maxRecDepth 20000 in
set_option maxHeartbeats 8000000 in
theorem implVault_any (v : Value) (l : List Sec) (w : World) (hv : Secs w v l) :
    Calls Tryd.prog 71 #[v] w (Gives (.bool (vaultB l)) w) := by
  obtain ⟨A, cap, rfl⟩ := hv.form
  have hl := hv.1
  unfold maxLen at hl
  have hv' := Lib.hid hv
  clear hv
  by_cases h4 : l.length ≤ 4
  · have h4' : ¬ (4 : Int) < (l.length : Int) := by omega
    go_enter Tryd.func71, Tryd.ntmps71
    go_wp2
    go_loopw [10] (fun i wr => ∃ k : Nat, k ≤ l.length ∧ i = .int .i64 (k : Int) ∧ Hid (upTo l k = true) ∧ Hid (Below w.heap.size w wr)) (fun i _ => l.length - (intOf i).toNat)
    case atStart => exact ⟨0, Nat.zero_le _, rfl, Lib.hid rfl, Lib.hid (Below.refl _ _)⟩
    case round =>
      obtain ⟨k, hk, rfl, hup, hb⟩ := hrel
      by_cases hlt : k < l.length
      · have hlt' : (k : Int) < (l.length : Int) := by omega
        have hsecs := Lib.hid (hv'.out.below hb.out)
        obtain ⟨b, off, rfl, hbk, c0, c1, c2, c3⟩ := hsecs.out.four k hlt
        have hwf := Lib.hid (hsecs.out.wf hlt)
        cases hs : secOk l[k] with
        | false =>
          obtain ⟨V, hV⟩ : ∃ V, V = wr.alloc (.cells #[.string l[k].name, .int .i64 l[k].seat, .string l[k].word, .string l[k].prompt] 100) := ⟨_, rfl⟩
          have hbx := Lib.hid (box4 (w := wr) l[k] 100)
          rw [← hV] at hbx
          have hb2 := Lib.hid (show Below w.heap.size w V by rw [hV]; exact hb.out.alloc hb.out.size _)
          have hbad := Lib.hid (vaultB_bad hlt (okAt_bad hlt hs))
          clear hup
          go_wp2
          rw [← hV]
          replace hsecs := Lib.hid (show Secs V (.slice (some ⟨b, off, none⟩) l.length cap) l by rw [hV]; exact hsecs.out.alloc _)
          clear hV c0 c1 c2 c3
          refine wp_region_known [(.is (.agg #[.string l[k].name, .int .i64 l[k].seat, .string l[k].word, .string l[k].prompt])), (.is (.bool false)), (.is (.bool true)), (.is (.bool true)), .any, .any, (.is undef), .any, .any, .any, .any, .any, .any, .any, .any, .any, .any, (.is (.bool true))] (by kernel_rfl) (by kernel_rfl) (by kernel_rfl) ⟨?_, ?_, ?_, ?_, ?_, ?_, ?_, ?_, ?_, ?_, ?_, ?_, ?_, ?_, ?_, ?_, ?_, ?_, trivial⟩ ?_
          · intro y W next hl hJ hd hn
            refine Or.inl ⟨wanted_free rfl, fun ev ec ef hev => ?_⟩
            have e4 : ev (.tmp 4) = .pointer (some ⟨wr.heap.size, 0, none⟩) := hev 4 _ ((hl.2 4 (by kernel_rfl)).trans (by kernel_rfl))
            clear hd hl hev
            obtain ⟨x0, x1, x2, x3⟩ := (hbx.out.below hJ hbx.out.lt).four
            replace hJ := Lib.hid hJ
            go_simp
            exact hn _ _ (Below.refl _ _) rfl
          · intro y W next hl hJ hd hn
            refine Or.inl ⟨wanted_free rfl, fun ev ec ef hev => ?_⟩
            have e15 : ev (.tmp 15) =  (.agg #[.string l[k].name, .int .i64 l[k].seat, .string l[k].word, .string l[k].prompt]) := hev 15 _ ((hl.1 0 15 (by kernel_rfl) (by kernel_rfl)).trans (congrArg some (show y 0 =  (.agg #[.string l[k].name, .int .i64 l[k].seat, .string l[k].word, .string l[k].prompt]) from hd 0 (by kernel_rfl))))
            clear hd hl hev
            replace hJ := Lib.hid hJ
            go_simp
            refine (secretRight_any l[k] hwf.out _).mono ?_
            rintro e w' ⟨rfl, hb⟩
            exact ⟨_, rfl, hn _ _ hb (by rw [hs]; rfl)⟩
          · intro y W next hl hJ hd hn
            refine Or.inl ⟨wanted_free rfl, fun ev ec ef hev => ?_⟩
            have e16 : ev (.tmp 16) =  (.bool false) := hev 16 _ ((hl.1 1 16 (by kernel_rfl) (by kernel_rfl)).trans (congrArg some (show y 1 =  (.bool false) from hd 1 (by kernel_rfl))))
            clear hd hl hev
            replace hJ := Lib.hid hJ
            go_simp
            exact hn _ _ (Below.refl _ _) rfl
          · intro y W next hl hJ hd hn
            refine Or.inl ⟨wanted_free rfl, fun ev ec ef hev => ?_⟩
            have e17 : ev (.tmp 17) =  (.bool true) := hev 17 _ ((hl.1 2 17 (by kernel_rfl) (by kernel_rfl)).trans (congrArg some (show y 2 =  (.bool true) from hd 2 (by kernel_rfl))))
            clear hd hl hev
            replace hJ := Lib.hid hJ
            go_simp
            exact hn _ _ (Below.refl _ _) rfl
          · intro y W next hl hJ hd hn
            exact Or.inr ⟨wanted_not (j := 3) (d := 18) rfl rfl rfl ((hl.1 3 18 (by kernel_rfl) (by kernel_rfl)).trans (congrArg some (show y 3 = .bool true from hd 3 (by kernel_rfl)))), hn _ _ (Below.refl _ _) trivial⟩
          · intro y W next hl hJ hd hn
            exact Or.inr ⟨wanted_not (j := 3) (d := 18) rfl rfl rfl ((hl.1 3 18 (by kernel_rfl) (by kernel_rfl)).trans (congrArg some (show y 3 = .bool true from hd 3 (by kernel_rfl)))), hn _ _ (Below.refl _ _) trivial⟩
          · intro y W next hl hJ hd hn
            exact Or.inr ⟨wanted_not (j := 3) (d := 18) rfl rfl rfl ((hl.1 3 18 (by kernel_rfl) (by kernel_rfl)).trans (congrArg some (show y 3 = .bool true from hd 3 (by kernel_rfl)))), hn _ _ (Below.refl _ _) rfl⟩
          · intro y W next hl hJ hd hn
            exact Or.inr ⟨wanted_undef (j := 6) (d := 21) rfl rfl rfl ((hl.1 6 21 (by kernel_rfl) (by kernel_rfl)).trans (congrArg some (show y 6 = undef from hd 6 (by kernel_rfl)))), hn _ _ (Below.refl _ _) trivial⟩
          · intro y W next hl hJ hd hn
            exact Or.inr ⟨wanted_undef (j := 6) (d := 21) rfl rfl rfl ((hl.1 6 21 (by kernel_rfl) (by kernel_rfl)).trans (congrArg some (show y 6 = undef from hd 6 (by kernel_rfl)))), hn _ _ (Below.refl _ _) trivial⟩
          · intro y W next hl hJ hd hn
            exact Or.inr ⟨wanted_undef (j := 6) (d := 21) rfl rfl rfl ((hl.1 6 21 (by kernel_rfl) (by kernel_rfl)).trans (congrArg some (show y 6 = undef from hd 6 (by kernel_rfl)))), hn _ _ (Below.refl _ _) trivial⟩
          · intro y W next hl hJ hd hn
            exact Or.inr ⟨wanted_undef (j := 6) (d := 21) rfl rfl rfl ((hl.1 6 21 (by kernel_rfl) (by kernel_rfl)).trans (congrArg some (show y 6 = undef from hd 6 (by kernel_rfl)))), hn _ _ (Below.refl _ _) trivial⟩
          · intro y W next hl hJ hd hn
            exact Or.inr ⟨wanted_undef (j := 6) (d := 21) rfl rfl rfl ((hl.1 6 21 (by kernel_rfl) (by kernel_rfl)).trans (congrArg some (show y 6 = undef from hd 6 (by kernel_rfl)))), hn _ _ (Below.refl _ _) trivial⟩
          · intro y W next hl hJ hd hn
            exact Or.inr ⟨wanted_undef (j := 6) (d := 21) rfl rfl rfl ((hl.1 6 21 (by kernel_rfl) (by kernel_rfl)).trans (congrArg some (show y 6 = undef from hd 6 (by kernel_rfl)))), hn _ _ (Below.refl _ _) trivial⟩
          · intro y W next hl hJ hd hn
            exact Or.inr ⟨wanted_undef (j := 6) (d := 21) rfl rfl rfl ((hl.1 6 21 (by kernel_rfl) (by kernel_rfl)).trans (congrArg some (show y 6 = undef from hd 6 (by kernel_rfl)))), hn _ _ (Below.refl _ _) trivial⟩
          · intro y W next hl hJ hd hn
            exact Or.inr ⟨wanted_undef (j := 6) (d := 21) rfl rfl rfl ((hl.1 6 21 (by kernel_rfl) (by kernel_rfl)).trans (congrArg some (show y 6 = undef from hd 6 (by kernel_rfl)))), hn _ _ (Below.refl _ _) trivial⟩
          · intro y W next hl hJ hd hn
            exact Or.inr ⟨wanted_undef (j := 6) (d := 21) rfl rfl rfl ((hl.1 6 21 (by kernel_rfl) (by kernel_rfl)).trans (congrArg some (show y 6 = undef from hd 6 (by kernel_rfl)))), hn _ _ (Below.refl _ _) trivial⟩
          · intro y W next hl hJ hd hn
            exact Or.inr ⟨wanted_not (j := 3) (d := 18) rfl rfl rfl ((hl.1 3 18 (by kernel_rfl) (by kernel_rfl)).trans (congrArg some (show y 3 = .bool true from hd 3 (by kernel_rfl)))), hn _ _ (Below.refl _ _) trivial⟩
          · intro y W next hl hJ hd hn
            refine Or.inl ⟨wanted_free rfl, fun ev ec ef hev => ?_⟩
            have e18 : ev (.tmp 18) =  (.bool true) := hev 18 _ ((hl.1 3 18 (by kernel_rfl) (by kernel_rfl)).trans (congrArg some (show y 3 =  (.bool true) from hd 3 (by kernel_rfl))))
            have e31 := hev 31 _ (hl.1 16 31 (by kernel_rfl) (by kernel_rfl))
            clear hd hl hev
            replace hJ := Lib.hid hJ
            go_simp
            exact hn _ _ (Below.refl _ _) rfl

          · intro y W hb3 hall
            have hy : y 17 = .bool true := hall 17 (by decide)
            replace hb2 := Lib.hid (below_then hb2.out hb3 (Nat.le_refl _))
            clear hall hb3
            simp only [lay_cons, lay_nil]
            rw [hy]
            clear hy
            simp only [Act.put, List.setIfInBounds_toArray]
            simp only [List.set_cons_succ, List.set_cons_zero]
            go_wp2
            go_ret
            exact ⟨by rw [hbad.out]; rfl, hb2.out⟩
        | true =>
          cases k with
          | zero =>
            simp only [Nat.zero_mul, Nat.add_zero] at c0 c1 c2 c3
            have hup2 := Lib.hid (show upTo l 1 = true by rw [upTo_succ, hup.out, okAt_first hlt hs]; rfl)
            clear hup
            obtain ⟨V, hV⟩ : ∃ V, V = wr.alloc (.cells #[.string l[0].name, .int .i64 l[0].seat, .string l[0].word, .string l[0].prompt] 100) := ⟨_, rfl⟩
            have hbx := Lib.hid (box4 (w := wr) l[0] 100)
            rw [← hV] at hbx
            have hb2 := Lib.hid (show Below w.heap.size w V by rw [hV]; exact hb.out.alloc hb.out.size _)
            go_wp2
            rw [← hV]
            replace hsecs := Lib.hid (show Secs V (.slice (some ⟨b, off, none⟩) l.length cap) l by rw [hV]; exact hsecs.out.alloc _)
            clear hV c0 c1 c2 c3
            refine wp_region_known [(.is (.agg #[.string l[0].name, .int .i64 l[0].seat, .string l[0].word, .string l[0].prompt])), (.is (.bool true)), (.is (.bool false)), (.is (.bool false)), (.is (.int .i64 ((0 : Nat) : Int))), (.is (.bool false)), (.is (.bool false)), .any, .any, .any, .any, .any, .any, .any, .any, .any, (.is (.bool false)), (.is (.bool false))] (by kernel_rfl) (by kernel_rfl) (by kernel_rfl) ⟨?_, ?_, ?_, ?_, ?_, ?_, ?_, ?_, ?_, ?_, ?_, ?_, ?_, ?_, ?_, ?_, ?_, ?_, trivial⟩ ?_
            · intro y W next hl hJ hd hn
              refine Or.inl ⟨wanted_free rfl, fun ev ec ef hev => ?_⟩
              have e4 : ev (.tmp 4) = .pointer (some ⟨wr.heap.size, 0, none⟩) := hev 4 _ ((hl.2 4 (by kernel_rfl)).trans (by kernel_rfl))
              clear hd hl hev
              obtain ⟨x0, x1, x2, x3⟩ := (hbx.out.below hJ hbx.out.lt).four
              replace hJ := Lib.hid hJ
              go_simp
              exact hn _ _ (Below.refl _ _) rfl
            · intro y W next hl hJ hd hn
              refine Or.inl ⟨wanted_free rfl, fun ev ec ef hev => ?_⟩
              have e15 : ev (.tmp 15) =  (.agg #[.string l[0].name, .int .i64 l[0].seat, .string l[0].word, .string l[0].prompt]) := hev 15 _ ((hl.1 0 15 (by kernel_rfl) (by kernel_rfl)).trans (congrArg some (show y 0 =  (.agg #[.string l[0].name, .int .i64 l[0].seat, .string l[0].word, .string l[0].prompt]) from hd 0 (by kernel_rfl))))
              clear hd hl hev
              replace hJ := Lib.hid hJ
              go_simp
              refine (secretRight_any l[0] hwf.out _).mono ?_
              rintro e w' ⟨rfl, hb⟩
              exact ⟨_, rfl, hn _ _ hb (by rw [hs]; rfl)⟩
            · intro y W next hl hJ hd hn
              refine Or.inl ⟨wanted_free rfl, fun ev ec ef hev => ?_⟩
              have e16 : ev (.tmp 16) =  (.bool true) := hev 16 _ ((hl.1 1 16 (by kernel_rfl) (by kernel_rfl)).trans (congrArg some (show y 1 =  (.bool true) from hd 1 (by kernel_rfl))))
              clear hd hl hev
              replace hJ := Lib.hid hJ
              go_simp
              exact hn _ _ (Below.refl _ _) rfl
            · intro y W next hl hJ hd hn
              refine Or.inl ⟨wanted_free rfl, fun ev ec ef hev => ?_⟩
              have e17 : ev (.tmp 17) =  (.bool false) := hev 17 _ ((hl.1 2 17 (by kernel_rfl) (by kernel_rfl)).trans (congrArg some (show y 2 =  (.bool false) from hd 2 (by kernel_rfl))))
              clear hd hl hev
              replace hJ := Lib.hid hJ
              go_simp
              exact hn _ _ (Below.refl _ _) rfl
            · intro y W next hl hJ hd hn
              refine Or.inl ⟨wanted_of (j := 3) (d := 18) rfl rfl rfl ((hl.1 3 18 (by kernel_rfl) (by kernel_rfl)).trans (congrArg some (show y 3 = .bool false from hd 3 (by kernel_rfl)))), fun ev ec ef hev => ?_⟩
              have e3 : ev (.tmp 3) = .int .i64 ((0 : Nat) : Int) := hev 3 _ ((hl.2 3 (by kernel_rfl)).trans (by kernel_rfl))
              clear hd hl hev
              replace hJ := Lib.hid hJ
              go_simp
              exact hn _ _ (Below.refl _ _) rfl
            · intro y W next hl hJ hd hn
              refine Or.inl ⟨wanted_of (j := 3) (d := 18) rfl rfl rfl ((hl.1 3 18 (by kernel_rfl) (by kernel_rfl)).trans (congrArg some (show y 3 = .bool false from hd 3 (by kernel_rfl)))), fun ev ec ef hev => ?_⟩
              have e19 : ev (.tmp 19) =  (.int .i64 ((0 : Nat) : Int)) := hev 19 _ ((hl.1 4 19 (by kernel_rfl) (by kernel_rfl)).trans (congrArg some (show y 4 =  (.int .i64 ((0 : Nat) : Int)) from hd 4 (by kernel_rfl))))
              clear hd hl hev
              replace hJ := Lib.hid hJ
              go_simp
              exact hn _ _ (Below.refl _ _) rfl
            · intro y W next hl hJ hd hn
              refine Or.inl ⟨wanted_of (j := 3) (d := 18) rfl rfl rfl ((hl.1 3 18 (by kernel_rfl) (by kernel_rfl)).trans (congrArg some (show y 3 = .bool false from hd 3 (by kernel_rfl)))), fun ev ec ef hev => ?_⟩
              have e20 : ev (.tmp 20) =  (.bool false) := hev 20 _ ((hl.1 5 20 (by kernel_rfl) (by kernel_rfl)).trans (congrArg some (show y 5 =  (.bool false) from hd 5 (by kernel_rfl))))
              clear hd hl hev
              replace hJ := Lib.hid hJ
              go_simp
              exact hn _ _ (Below.refl _ _) rfl
            · intro y W next hl hJ hd hn
              exact Or.inr ⟨wanted_not (j := 6) (d := 21) rfl rfl rfl ((hl.1 6 21 (by kernel_rfl) (by kernel_rfl)).trans (congrArg some (show y 6 = .bool false from hd 6 (by kernel_rfl)))), hn _ _ (Below.refl _ _) trivial⟩
            · intro y W next hl hJ hd hn
              exact Or.inr ⟨wanted_not (j := 6) (d := 21) rfl rfl rfl ((hl.1 6 21 (by kernel_rfl) (by kernel_rfl)).trans (congrArg some (show y 6 = .bool false from hd 6 (by kernel_rfl)))), hn _ _ (Below.refl _ _) trivial⟩
            · intro y W next hl hJ hd hn
              exact Or.inr ⟨wanted_not (j := 6) (d := 21) rfl rfl rfl ((hl.1 6 21 (by kernel_rfl) (by kernel_rfl)).trans (congrArg some (show y 6 = .bool false from hd 6 (by kernel_rfl)))), hn _ _ (Below.refl _ _) trivial⟩
            · intro y W next hl hJ hd hn
              exact Or.inr ⟨wanted_not (j := 6) (d := 21) rfl rfl rfl ((hl.1 6 21 (by kernel_rfl) (by kernel_rfl)).trans (congrArg some (show y 6 = .bool false from hd 6 (by kernel_rfl)))), hn _ _ (Below.refl _ _) trivial⟩
            · intro y W next hl hJ hd hn
              exact Or.inr ⟨wanted_not (j := 6) (d := 21) rfl rfl rfl ((hl.1 6 21 (by kernel_rfl) (by kernel_rfl)).trans (congrArg some (show y 6 = .bool false from hd 6 (by kernel_rfl)))), hn _ _ (Below.refl _ _) trivial⟩
            · intro y W next hl hJ hd hn
              exact Or.inr ⟨wanted_not (j := 6) (d := 21) rfl rfl rfl ((hl.1 6 21 (by kernel_rfl) (by kernel_rfl)).trans (congrArg some (show y 6 = .bool false from hd 6 (by kernel_rfl)))), hn _ _ (Below.refl _ _) trivial⟩
            · intro y W next hl hJ hd hn
              exact Or.inr ⟨wanted_not (j := 6) (d := 21) rfl rfl rfl ((hl.1 6 21 (by kernel_rfl) (by kernel_rfl)).trans (congrArg some (show y 6 = .bool false from hd 6 (by kernel_rfl)))), hn _ _ (Below.refl _ _) trivial⟩
            · intro y W next hl hJ hd hn
              exact Or.inr ⟨wanted_not (j := 6) (d := 21) rfl rfl rfl ((hl.1 6 21 (by kernel_rfl) (by kernel_rfl)).trans (congrArg some (show y 6 = .bool false from hd 6 (by kernel_rfl)))), hn _ _ (Below.refl _ _) trivial⟩
            · intro y W next hl hJ hd hn
              exact Or.inr ⟨wanted_not (j := 6) (d := 21) rfl rfl rfl ((hl.1 6 21 (by kernel_rfl) (by kernel_rfl)).trans (congrArg some (show y 6 = .bool false from hd 6 (by kernel_rfl)))), hn _ _ (Below.refl _ _) trivial⟩
            · intro y W next hl hJ hd hn
              refine Or.inl ⟨wanted_of (j := 3) (d := 18) rfl rfl rfl ((hl.1 3 18 (by kernel_rfl) (by kernel_rfl)).trans (congrArg some (show y 3 = .bool false from hd 3 (by kernel_rfl)))), fun ev ec ef hev => ?_⟩
              have e21 : ev (.tmp 21) =  (.bool false) := hev 21 _ ((hl.1 6 21 (by kernel_rfl) (by kernel_rfl)).trans (congrArg some (show y 6 =  (.bool false) from hd 6 (by kernel_rfl))))
              have e30 := hev 30 _ (hl.1 15 30 (by kernel_rfl) (by kernel_rfl))
              clear hd hl hev
              replace hJ := Lib.hid hJ
              go_simp
              exact hn _ _ (Below.refl _ _) rfl
            · intro y W next hl hJ hd hn
              refine Or.inl ⟨wanted_free rfl, fun ev ec ef hev => ?_⟩
              have e18 : ev (.tmp 18) =  (.bool false) := hev 18 _ ((hl.1 3 18 (by kernel_rfl) (by kernel_rfl)).trans (congrArg some (show y 3 =  (.bool false) from hd 3 (by kernel_rfl))))
              have e31 : ev (.tmp 31) =  (.bool false) := hev 31 _ ((hl.1 16 31 (by kernel_rfl) (by kernel_rfl)).trans (congrArg some (show y 16 =  (.bool false) from hd 16 (by kernel_rfl))))
              clear hd hl hev
              replace hJ := Lib.hid hJ
              go_simp
              exact hn _ _ (Below.refl _ _) rfl

            · intro y W hb3 hall
              have hy : y 17 = .bool false := hall 17 (by decide)
              replace hb2 := Lib.hid (below_then hb2.out hb3 (Nat.le_refl _))
              clear hall hb3
              simp only [lay_cons, lay_nil]
              rw [hy]
              clear hy
              simp only [Act.put, List.setIfInBounds_toArray]
              simp only [List.set_cons_succ, List.set_cons_zero]
              go_wp2
              go_roundw
              case rel => exact ⟨0 + 1, by omega, by go_num, hup2, hb2⟩
              case measure => simp [intOf]; omega
          | succ j =>
            cases hle : lessB l[j].name l[j + 1].name with
            | true =>
              have hup2 := Lib.hid (show upTo l (j + 1 + 1) = true by rw [upTo_succ, hup.out, okAt_next hlt hs, hle]; rfl)
              clear hup
              obtain ⟨V, hV⟩ : ∃ V, V = wr.alloc (.cells #[.string l[j + 1].name, .int .i64 l[j + 1].seat, .string l[j + 1].word, .string l[j + 1].prompt] 100) := ⟨_, rfl⟩
              have hbx := Lib.hid (box4 (w := wr) l[j + 1] 100)
              rw [← hV] at hbx
              have hb2 := Lib.hid (show Below w.heap.size w V by rw [hV]; exact hb.out.alloc hb.out.size _)
              have hsub := Lib.hid (show ((j + 1 : Nat) : Int) - 1 = (j : Int) by omega)
              go_wp2
              rw [← hV]
              replace hsecs := Lib.hid (show Secs V (.slice (some ⟨b, off, none⟩) l.length cap) l by rw [hV]; exact hsecs.out.alloc _)
              clear hV c0 c1 c2 c3
              refine wp_region_known [(.is (.agg #[.string l[j + 1].name, .int .i64 l[j + 1].seat, .string l[j + 1].word, .string l[j + 1].prompt])), (.is (.bool true)), (.is (.bool false)), (.is (.bool false)), (.is (.int .i64 ((j + 1 : Nat) : Int))), (.is (.bool true)), (.is (.bool true)), (.is (.slice (some ⟨b, off, none⟩) l.length cap)), (.is (.int .i64 ((j + 1 : Nat) : Int))), (.is (.int .i64 (j : Int))), (.is (.pointer (some ⟨b, off + j * 4, none⟩))), (.is (.pointer (some ⟨b, off + j * 4, none⟩))), (.is (.string l[j].name)), (.is (.pointer (some ⟨wr.heap.size, 0, none⟩))), (.is (.string l[j + 1].name)), (.is (.bool false)), (.is (.bool false)), (.is (.bool false))] (by kernel_rfl) (by kernel_rfl) (by kernel_rfl) ⟨?_, ?_, ?_, ?_, ?_, ?_, ?_, ?_, ?_, ?_, ?_, ?_, ?_, ?_, ?_, ?_, ?_, ?_, trivial⟩ ?_
              · intro y W next hl hJ hd hn
                refine Or.inl ⟨wanted_free rfl, fun ev ec ef hev => ?_⟩
                have e4 : ev (.tmp 4) = .pointer (some ⟨wr.heap.size, 0, none⟩) := hev 4 _ ((hl.2 4 (by kernel_rfl)).trans (by kernel_rfl))
                clear hd hl hev
                obtain ⟨x0, x1, x2, x3⟩ := (hbx.out.below hJ hbx.out.lt).four
                replace hJ := Lib.hid hJ
                go_simp
                exact hn _ _ (Below.refl _ _) rfl
              · intro y W next hl hJ hd hn
                refine Or.inl ⟨wanted_free rfl, fun ev ec ef hev => ?_⟩
                have e15 : ev (.tmp 15) =  (.agg #[.string l[j + 1].name, .int .i64 l[j + 1].seat, .string l[j + 1].word, .string l[j + 1].prompt]) := hev 15 _ ((hl.1 0 15 (by kernel_rfl) (by kernel_rfl)).trans (congrArg some (show y 0 =  (.agg #[.string l[j + 1].name, .int .i64 l[j + 1].seat, .string l[j + 1].word, .string l[j + 1].prompt]) from hd 0 (by kernel_rfl))))
                clear hd hl hev
                replace hJ := Lib.hid hJ
                go_simp
                refine (secretRight_any l[j + 1] hwf.out _).mono ?_
                rintro e w' ⟨rfl, hb⟩
                exact ⟨_, rfl, hn _ _ hb (by rw [hs]; rfl)⟩
              · intro y W next hl hJ hd hn
                refine Or.inl ⟨wanted_free rfl, fun ev ec ef hev => ?_⟩
                have e16 : ev (.tmp 16) =  (.bool true) := hev 16 _ ((hl.1 1 16 (by kernel_rfl) (by kernel_rfl)).trans (congrArg some (show y 1 =  (.bool true) from hd 1 (by kernel_rfl))))
                clear hd hl hev
                replace hJ := Lib.hid hJ
                go_simp
                exact hn _ _ (Below.refl _ _) rfl
              · intro y W next hl hJ hd hn
                refine Or.inl ⟨wanted_free rfl, fun ev ec ef hev => ?_⟩
                have e17 : ev (.tmp 17) =  (.bool false) := hev 17 _ ((hl.1 2 17 (by kernel_rfl) (by kernel_rfl)).trans (congrArg some (show y 2 =  (.bool false) from hd 2 (by kernel_rfl))))
                clear hd hl hev
                replace hJ := Lib.hid hJ
                go_simp
                exact hn _ _ (Below.refl _ _) rfl
              · intro y W next hl hJ hd hn
                refine Or.inl ⟨wanted_of (j := 3) (d := 18) rfl rfl rfl ((hl.1 3 18 (by kernel_rfl) (by kernel_rfl)).trans (congrArg some (show y 3 = .bool false from hd 3 (by kernel_rfl)))), fun ev ec ef hev => ?_⟩
                have e3 : ev (.tmp 3) = .int .i64 ((j + 1 : Nat) : Int) := hev 3 _ ((hl.2 3 (by kernel_rfl)).trans (by kernel_rfl))
                clear hd hl hev
                replace hJ := Lib.hid hJ
                go_simp
                exact hn _ _ (Below.refl _ _) rfl
              · intro y W next hl hJ hd hn
                refine Or.inl ⟨wanted_of (j := 3) (d := 18) rfl rfl rfl ((hl.1 3 18 (by kernel_rfl) (by kernel_rfl)).trans (congrArg some (show y 3 = .bool false from hd 3 (by kernel_rfl)))), fun ev ec ef hev => ?_⟩
                have e19 : ev (.tmp 19) =  (.int .i64 ((j + 1 : Nat) : Int)) := hev 19 _ ((hl.1 4 19 (by kernel_rfl) (by kernel_rfl)).trans (congrArg some (show y 4 =  (.int .i64 ((j + 1 : Nat) : Int)) from hd 4 (by kernel_rfl))))
                clear hd hl hev
                replace hJ := Lib.hid hJ
                go_simp
                exact hn _ _ (Below.refl _ _) rfl
              · intro y W next hl hJ hd hn
                refine Or.inl ⟨wanted_of (j := 3) (d := 18) rfl rfl rfl ((hl.1 3 18 (by kernel_rfl) (by kernel_rfl)).trans (congrArg some (show y 3 = .bool false from hd 3 (by kernel_rfl)))), fun ev ec ef hev => ?_⟩
                have e20 : ev (.tmp 20) =  (.bool true) := hev 20 _ ((hl.1 5 20 (by kernel_rfl) (by kernel_rfl)).trans (congrArg some (show y 5 =  (.bool true) from hd 5 (by kernel_rfl))))
                clear hd hl hev
                replace hJ := Lib.hid hJ
                go_simp
                exact hn _ _ (Below.refl _ _) rfl
              · intro y W next hl hJ hd hn
                refine Or.inl ⟨wanted_of (j := 6) (d := 21) rfl rfl rfl ((hl.1 6 21 (by kernel_rfl) (by kernel_rfl)).trans (congrArg some (show y 6 = .bool true from hd 6 (by kernel_rfl)))), fun ev ec ef hev => ?_⟩
                have e0 : ev (.tmp 0) = .slice (some ⟨b, off, none⟩) l.length cap := hev 0 _ ((hl.2 0 (by kernel_rfl)).trans (by kernel_rfl))
                clear hd hl hev
                replace hJ := Lib.hid hJ
                go_simp
                exact hn _ _ (Below.refl _ _) rfl
              · intro y W next hl hJ hd hn
                refine Or.inl ⟨wanted_of (j := 6) (d := 21) rfl rfl rfl ((hl.1 6 21 (by kernel_rfl) (by kernel_rfl)).trans (congrArg some (show y 6 = .bool true from hd 6 (by kernel_rfl)))), fun ev ec ef hev => ?_⟩
                have e3 : ev (.tmp 3) = .int .i64 ((j + 1 : Nat) : Int) := hev 3 _ ((hl.2 3 (by kernel_rfl)).trans (by kernel_rfl))
                clear hd hl hev
                replace hJ := Lib.hid hJ
                go_simp
                exact hn _ _ (Below.refl _ _) rfl
              · intro y W next hl hJ hd hn
                refine Or.inl ⟨wanted_of (j := 6) (d := 21) rfl rfl rfl ((hl.1 6 21 (by kernel_rfl) (by kernel_rfl)).trans (congrArg some (show y 6 = .bool true from hd 6 (by kernel_rfl)))), fun ev ec ef hev => ?_⟩
                have e23 : ev (.tmp 23) =  (.int .i64 ((j + 1 : Nat) : Int)) := hev 23 _ ((hl.1 8 23 (by kernel_rfl) (by kernel_rfl)).trans (congrArg some (show y 8 =  (.int .i64 ((j + 1 : Nat) : Int)) from hd 8 (by kernel_rfl))))
                clear hd hl hev
                replace hJ := Lib.hid hJ
                have hsub := hsub.out
                go_simp
                refine hn _ _ (Below.refl _ _) ?_
                show Value.int .i64 _ = Value.int .i64 (j : Int)
                rw [wrap_small (j : Int) (by omega) (by omega)]
              · intro y W next hl hJ hd hn
                refine Or.inl ⟨wanted_of (j := 6) (d := 21) rfl rfl rfl ((hl.1 6 21 (by kernel_rfl) (by kernel_rfl)).trans (congrArg some (show y 6 = .bool true from hd 6 (by kernel_rfl)))), fun ev ec ef hev => ?_⟩
                have e22 : ev (.tmp 22) =  (.slice (some ⟨b, off, none⟩) l.length cap) := hev 22 _ ((hl.1 7 22 (by kernel_rfl) (by kernel_rfl)).trans (congrArg some (show y 7 =  (.slice (some ⟨b, off, none⟩) l.length cap) from hd 7 (by kernel_rfl))))
                have e24 : ev (.tmp 24) =  (.int .i64 (j : Int)) := hev 24 _ ((hl.1 9 24 (by kernel_rfl) (by kernel_rfl)).trans (congrArg some (show y 9 =  (.int .i64 (j : Int)) from hd 9 (by kernel_rfl))))
                clear hd hl hev
                have hjl : j < l.length := by omega
                replace hJ := Lib.hid hJ
                go_simp
                exact hn _ _ (Below.refl _ _) rfl
              · intro y W next hl hJ hd hn
                refine Or.inl ⟨wanted_of (j := 6) (d := 21) rfl rfl rfl ((hl.1 6 21 (by kernel_rfl) (by kernel_rfl)).trans (congrArg some (show y 6 = .bool true from hd 6 (by kernel_rfl)))), fun ev ec ef hev => ?_⟩
                have e25 : ev (.tmp 25) =  (.pointer (some ⟨b, off + j * 4, none⟩)) := hev 25 _ ((hl.1 10 25 (by kernel_rfl) (by kernel_rfl)).trans (congrArg some (show y 10 =  (.pointer (some ⟨b, off + j * 4, none⟩)) from hd 10 (by kernel_rfl))))
                clear hd hl hev
                replace hJ := Lib.hid hJ
                go_simp
                exact hn _ _ (Below.refl _ _) rfl
              · intro y W next hl hJ hd hn
                refine Or.inl ⟨wanted_of (j := 6) (d := 21) rfl rfl rfl ((hl.1 6 21 (by kernel_rfl) (by kernel_rfl)).trans (congrArg some (show y 6 = .bool true from hd 6 (by kernel_rfl)))), fun ev ec ef hev => ?_⟩
                have e26 : ev (.tmp 26) =  (.pointer (some ⟨b, off + j * 4, none⟩)) := hev 26 _ ((hl.1 11 26 (by kernel_rfl) (by kernel_rfl)).trans (congrArg some (show y 11 =  (.pointer (some ⟨b, off + j * 4, none⟩)) from hd 11 (by kernel_rfl))))
                clear hd hl hev
                obtain ⟨b', off', e', hb', p0, p1, p2, p3⟩ := (hsecs.out.below hJ).four j (by omega)
                cases e'
                replace hJ := Lib.hid hJ
                go_simp
                exact hn _ _ (Below.refl _ _) rfl
              · intro y W next hl hJ hd hn
                refine Or.inl ⟨wanted_of (j := 6) (d := 21) rfl rfl rfl ((hl.1 6 21 (by kernel_rfl) (by kernel_rfl)).trans (congrArg some (show y 6 = .bool true from hd 6 (by kernel_rfl)))), fun ev ec ef hev => ?_⟩
                have e4 : ev (.tmp 4) = .pointer (some ⟨wr.heap.size, 0, none⟩) := hev 4 _ ((hl.2 4 (by kernel_rfl)).trans (by kernel_rfl))
                clear hd hl hev
                replace hJ := Lib.hid hJ
                go_simp
                exact hn _ _ (Below.refl _ _) rfl
              · intro y W next hl hJ hd hn
                refine Or.inl ⟨wanted_of (j := 6) (d := 21) rfl rfl rfl ((hl.1 6 21 (by kernel_rfl) (by kernel_rfl)).trans (congrArg some (show y 6 = .bool true from hd 6 (by kernel_rfl)))), fun ev ec ef hev => ?_⟩
                have e28 : ev (.tmp 28) =  (.pointer (some ⟨wr.heap.size, 0, none⟩)) := hev 28 _ ((hl.1 13 28 (by kernel_rfl) (by kernel_rfl)).trans (congrArg some (show y 13 =  (.pointer (some ⟨wr.heap.size, 0, none⟩)) from hd 13 (by kernel_rfl))))
                clear hd hl hev
                obtain ⟨x0, x1, x2, x3⟩ := (hbx.out.below hJ hbx.out.lt).four
                replace hJ := Lib.hid hJ
                go_simp
                exact hn _ _ (Below.refl _ _) rfl
              · intro y W next hl hJ hd hn
                refine Or.inl ⟨wanted_of (j := 6) (d := 21) rfl rfl rfl ((hl.1 6 21 (by kernel_rfl) (by kernel_rfl)).trans (congrArg some (show y 6 = .bool true from hd 6 (by kernel_rfl)))), fun ev ec ef hev => ?_⟩
                have e27 : ev (.tmp 27) =  (.string l[j].name) := hev 27 _ ((hl.1 12 27 (by kernel_rfl) (by kernel_rfl)).trans (congrArg some (show y 12 =  (.string l[j].name) from hd 12 (by kernel_rfl))))
                have e29 : ev (.tmp 29) =  (.string l[j + 1].name) := hev 29 _ ((hl.1 14 29 (by kernel_rfl) (by kernel_rfl)).trans (congrArg some (show y 14 =  (.string l[j + 1].name) from hd 14 (by kernel_rfl))))
                clear hd hl hev
                replace hJ := Lib.hid hJ
                go_simp
                refine hn _ _ (Below.refl _ _) ?_
                show Value.bool (!lessB l[j].name l[j + 1].name) = _
                rw [hle]; rfl
              · intro y W next hl hJ hd hn
                refine Or.inl ⟨wanted_of (j := 3) (d := 18) rfl rfl rfl ((hl.1 3 18 (by kernel_rfl) (by kernel_rfl)).trans (congrArg some (show y 3 = .bool false from hd 3 (by kernel_rfl)))), fun ev ec ef hev => ?_⟩
                have e21 : ev (.tmp 21) =  (.bool true) := hev 21 _ ((hl.1 6 21 (by kernel_rfl) (by kernel_rfl)).trans (congrArg some (show y 6 =  (.bool true) from hd 6 (by kernel_rfl))))
                have e30 : ev (.tmp 30) =  (.bool false) := hev 30 _ ((hl.1 15 30 (by kernel_rfl) (by kernel_rfl)).trans (congrArg some (show y 15 =  (.bool false) from hd 15 (by kernel_rfl))))
                clear hd hl hev
                replace hJ := Lib.hid hJ
                go_simp
                exact hn _ _ (Below.refl _ _) rfl
              · intro y W next hl hJ hd hn
                refine Or.inl ⟨wanted_free rfl, fun ev ec ef hev => ?_⟩
                have e18 : ev (.tmp 18) =  (.bool false) := hev 18 _ ((hl.1 3 18 (by kernel_rfl) (by kernel_rfl)).trans (congrArg some (show y 3 =  (.bool false) from hd 3 (by kernel_rfl))))
                have e31 : ev (.tmp 31) =  (.bool false) := hev 31 _ ((hl.1 16 31 (by kernel_rfl) (by kernel_rfl)).trans (congrArg some (show y 16 =  (.bool false) from hd 16 (by kernel_rfl))))
                clear hd hl hev
                replace hJ := Lib.hid hJ
                go_simp
                exact hn _ _ (Below.refl _ _) rfl

              · intro y W hb3 hall
                have hy : y 17 = .bool false := hall 17 (by decide)
                replace hb2 := Lib.hid (below_then hb2.out hb3 (Nat.le_refl _))
                clear hall hb3
                simp only [lay_cons, lay_nil]
                rw [hy]
                clear hy
                simp only [Act.put, List.setIfInBounds_toArray]
                simp only [List.set_cons_succ, List.set_cons_zero]
                go_wp2
                go_roundw
                case rel => exact ⟨j + 1 + 1, by omega, by go_num, hup2, hb2⟩
                case measure => simp [intOf]; omega
            | false =>
              have hbad := Lib.hid (vaultB_bad hlt (show okAt l (j + 1) = false by rw [okAt_next hlt hs, hle]))
              clear hup
              obtain ⟨V, hV⟩ : ∃ V, V = wr.alloc (.cells #[.string l[j + 1].name, .int .i64 l[j + 1].seat, .string l[j + 1].word, .string l[j + 1].prompt] 100) := ⟨_, rfl⟩
              have hbx := Lib.hid (box4 (w := wr) l[j + 1] 100)
              rw [← hV] at hbx
              have hb2 := Lib.hid (show Below w.heap.size w V by rw [hV]; exact hb.out.alloc hb.out.size _)
              have hsub := Lib.hid (show ((j + 1 : Nat) : Int) - 1 = (j : Int) by omega)
              go_wp2
              rw [← hV]
              replace hsecs := Lib.hid (show Secs V (.slice (some ⟨b, off, none⟩) l.length cap) l by rw [hV]; exact hsecs.out.alloc _)
              clear hV c0 c1 c2 c3
              refine wp_region_known [(.is (.agg #[.string l[j + 1].name, .int .i64 l[j + 1].seat, .string l[j + 1].word, .string l[j + 1].prompt])), (.is (.bool true)), (.is (.bool false)), (.is (.bool false)), (.is (.int .i64 ((j + 1 : Nat) : Int))), (.is (.bool true)), (.is (.bool true)), (.is (.slice (some ⟨b, off, none⟩) l.length cap)), (.is (.int .i64 ((j + 1 : Nat) : Int))), (.is (.int .i64 (j : Int))), (.is (.pointer (some ⟨b, off + j * 4, none⟩))), (.is (.pointer (some ⟨b, off + j * 4, none⟩))), (.is (.string l[j].name)), (.is (.pointer (some ⟨wr.heap.size, 0, none⟩))), (.is (.string l[j + 1].name)), (.is (.bool true)), (.is (.bool true)), (.is (.bool true))] (by kernel_rfl) (by kernel_rfl) (by kernel_rfl) ⟨?_, ?_, ?_, ?_, ?_, ?_, ?_, ?_, ?_, ?_, ?_, ?_, ?_, ?_, ?_, ?_, ?_, ?_, trivial⟩ ?_
              · intro y W next hl hJ hd hn
                refine Or.inl ⟨wanted_free rfl, fun ev ec ef hev => ?_⟩
                have e4 : ev (.tmp 4) = .pointer (some ⟨wr.heap.size, 0, none⟩) := hev 4 _ ((hl.2 4 (by kernel_rfl)).trans (by kernel_rfl))
                clear hd hl hev
                obtain ⟨x0, x1, x2, x3⟩ := (hbx.out.below hJ hbx.out.lt).four
                replace hJ := Lib.hid hJ
                go_simp
                exact hn _ _ (Below.refl _ _) rfl
              · intro y W next hl hJ hd hn
                refine Or.inl ⟨wanted_free rfl, fun ev ec ef hev => ?_⟩
                have e15 : ev (.tmp 15) =  (.agg #[.string l[j + 1].name, .int .i64 l[j + 1].seat, .string l[j + 1].word, .string l[j + 1].prompt]) := hev 15 _ ((hl.1 0 15 (by kernel_rfl) (by kernel_rfl)).trans (congrArg some (show y 0 =  (.agg #[.string l[j + 1].name, .int .i64 l[j + 1].seat, .string l[j + 1].word, .string l[j + 1].prompt]) from hd 0 (by kernel_rfl))))
                clear hd hl hev
                replace hJ := Lib.hid hJ
                go_simp
                refine (secretRight_any l[j + 1] hwf.out _).mono ?_
                rintro e w' ⟨rfl, hb⟩
                exact ⟨_, rfl, hn _ _ hb (by rw [hs]; rfl)⟩
              · intro y W next hl hJ hd hn
                refine Or.inl ⟨wanted_free rfl, fun ev ec ef hev => ?_⟩
                have e16 : ev (.tmp 16) =  (.bool true) := hev 16 _ ((hl.1 1 16 (by kernel_rfl) (by kernel_rfl)).trans (congrArg some (show y 1 =  (.bool true) from hd 1 (by kernel_rfl))))
                clear hd hl hev
                replace hJ := Lib.hid hJ
                go_simp
                exact hn _ _ (Below.refl _ _) rfl
              · intro y W next hl hJ hd hn
                refine Or.inl ⟨wanted_free rfl, fun ev ec ef hev => ?_⟩
                have e17 : ev (.tmp 17) =  (.bool false) := hev 17 _ ((hl.1 2 17 (by kernel_rfl) (by kernel_rfl)).trans (congrArg some (show y 2 =  (.bool false) from hd 2 (by kernel_rfl))))
                clear hd hl hev
                replace hJ := Lib.hid hJ
                go_simp
                exact hn _ _ (Below.refl _ _) rfl
              · intro y W next hl hJ hd hn
                refine Or.inl ⟨wanted_of (j := 3) (d := 18) rfl rfl rfl ((hl.1 3 18 (by kernel_rfl) (by kernel_rfl)).trans (congrArg some (show y 3 = .bool false from hd 3 (by kernel_rfl)))), fun ev ec ef hev => ?_⟩
                have e3 : ev (.tmp 3) = .int .i64 ((j + 1 : Nat) : Int) := hev 3 _ ((hl.2 3 (by kernel_rfl)).trans (by kernel_rfl))
                clear hd hl hev
                replace hJ := Lib.hid hJ
                go_simp
                exact hn _ _ (Below.refl _ _) rfl
              · intro y W next hl hJ hd hn
                refine Or.inl ⟨wanted_of (j := 3) (d := 18) rfl rfl rfl ((hl.1 3 18 (by kernel_rfl) (by kernel_rfl)).trans (congrArg some (show y 3 = .bool false from hd 3 (by kernel_rfl)))), fun ev ec ef hev => ?_⟩
                have e19 : ev (.tmp 19) =  (.int .i64 ((j + 1 : Nat) : Int)) := hev 19 _ ((hl.1 4 19 (by kernel_rfl) (by kernel_rfl)).trans (congrArg some (show y 4 =  (.int .i64 ((j + 1 : Nat) : Int)) from hd 4 (by kernel_rfl))))
                clear hd hl hev
                replace hJ := Lib.hid hJ
                go_simp
                exact hn _ _ (Below.refl _ _) rfl
              · intro y W next hl hJ hd hn
                refine Or.inl ⟨wanted_of (j := 3) (d := 18) rfl rfl rfl ((hl.1 3 18 (by kernel_rfl) (by kernel_rfl)).trans (congrArg some (show y 3 = .bool false from hd 3 (by kernel_rfl)))), fun ev ec ef hev => ?_⟩
                have e20 : ev (.tmp 20) =  (.bool true) := hev 20 _ ((hl.1 5 20 (by kernel_rfl) (by kernel_rfl)).trans (congrArg some (show y 5 =  (.bool true) from hd 5 (by kernel_rfl))))
                clear hd hl hev
                replace hJ := Lib.hid hJ
                go_simp
                exact hn _ _ (Below.refl _ _) rfl
              · intro y W next hl hJ hd hn
                refine Or.inl ⟨wanted_of (j := 6) (d := 21) rfl rfl rfl ((hl.1 6 21 (by kernel_rfl) (by kernel_rfl)).trans (congrArg some (show y 6 = .bool true from hd 6 (by kernel_rfl)))), fun ev ec ef hev => ?_⟩
                have e0 : ev (.tmp 0) = .slice (some ⟨b, off, none⟩) l.length cap := hev 0 _ ((hl.2 0 (by kernel_rfl)).trans (by kernel_rfl))
                clear hd hl hev
                replace hJ := Lib.hid hJ
                go_simp
                exact hn _ _ (Below.refl _ _) rfl
              · intro y W next hl hJ hd hn
                refine Or.inl ⟨wanted_of (j := 6) (d := 21) rfl rfl rfl ((hl.1 6 21 (by kernel_rfl) (by kernel_rfl)).trans (congrArg some (show y 6 = .bool true from hd 6 (by kernel_rfl)))), fun ev ec ef hev => ?_⟩
                have e3 : ev (.tmp 3) = .int .i64 ((j + 1 : Nat) : Int) := hev 3 _ ((hl.2 3 (by kernel_rfl)).trans (by kernel_rfl))
                clear hd hl hev
                replace hJ := Lib.hid hJ
                go_simp
                exact hn _ _ (Below.refl _ _) rfl
              · intro y W next hl hJ hd hn
                refine Or.inl ⟨wanted_of (j := 6) (d := 21) rfl rfl rfl ((hl.1 6 21 (by kernel_rfl) (by kernel_rfl)).trans (congrArg some (show y 6 = .bool true from hd 6 (by kernel_rfl)))), fun ev ec ef hev => ?_⟩
                have e23 : ev (.tmp 23) =  (.int .i64 ((j + 1 : Nat) : Int)) := hev 23 _ ((hl.1 8 23 (by kernel_rfl) (by kernel_rfl)).trans (congrArg some (show y 8 =  (.int .i64 ((j + 1 : Nat) : Int)) from hd 8 (by kernel_rfl))))
                clear hd hl hev
                replace hJ := Lib.hid hJ
                have hsub := hsub.out
                go_simp
                refine hn _ _ (Below.refl _ _) ?_
                show Value.int .i64 _ = Value.int .i64 (j : Int)
                rw [wrap_small (j : Int) (by omega) (by omega)]
              · intro y W next hl hJ hd hn
                refine Or.inl ⟨wanted_of (j := 6) (d := 21) rfl rfl rfl ((hl.1 6 21 (by kernel_rfl) (by kernel_rfl)).trans (congrArg some (show y 6 = .bool true from hd 6 (by kernel_rfl)))), fun ev ec ef hev => ?_⟩
                have e22 : ev (.tmp 22) =  (.slice (some ⟨b, off, none⟩) l.length cap) := hev 22 _ ((hl.1 7 22 (by kernel_rfl) (by kernel_rfl)).trans (congrArg some (show y 7 =  (.slice (some ⟨b, off, none⟩) l.length cap) from hd 7 (by kernel_rfl))))
                have e24 : ev (.tmp 24) =  (.int .i64 (j : Int)) := hev 24 _ ((hl.1 9 24 (by kernel_rfl) (by kernel_rfl)).trans (congrArg some (show y 9 =  (.int .i64 (j : Int)) from hd 9 (by kernel_rfl))))
                clear hd hl hev
                have hjl : j < l.length := by omega
                replace hJ := Lib.hid hJ
                go_simp
                exact hn _ _ (Below.refl _ _) rfl
              · intro y W next hl hJ hd hn
                refine Or.inl ⟨wanted_of (j := 6) (d := 21) rfl rfl rfl ((hl.1 6 21 (by kernel_rfl) (by kernel_rfl)).trans (congrArg some (show y 6 = .bool true from hd 6 (by kernel_rfl)))), fun ev ec ef hev => ?_⟩
                have e25 : ev (.tmp 25) =  (.pointer (some ⟨b, off + j * 4, none⟩)) := hev 25 _ ((hl.1 10 25 (by kernel_rfl) (by kernel_rfl)).trans (congrArg some (show y 10 =  (.pointer (some ⟨b, off + j * 4, none⟩)) from hd 10 (by kernel_rfl))))
                clear hd hl hev
                replace hJ := Lib.hid hJ
                go_simp
                exact hn _ _ (Below.refl _ _) rfl
              · intro y W next hl hJ hd hn
                refine Or.inl ⟨wanted_of (j := 6) (d := 21) rfl rfl rfl ((hl.1 6 21 (by kernel_rfl) (by kernel_rfl)).trans (congrArg some (show y 6 = .bool true from hd 6 (by kernel_rfl)))), fun ev ec ef hev => ?_⟩
                have e26 : ev (.tmp 26) =  (.pointer (some ⟨b, off + j * 4, none⟩)) := hev 26 _ ((hl.1 11 26 (by kernel_rfl) (by kernel_rfl)).trans (congrArg some (show y 11 =  (.pointer (some ⟨b, off + j * 4, none⟩)) from hd 11 (by kernel_rfl))))
                clear hd hl hev
                obtain ⟨b', off', e', hb', p0, p1, p2, p3⟩ := (hsecs.out.below hJ).four j (by omega)
                cases e'
                replace hJ := Lib.hid hJ
                go_simp
                exact hn _ _ (Below.refl _ _) rfl
              · intro y W next hl hJ hd hn
                refine Or.inl ⟨wanted_of (j := 6) (d := 21) rfl rfl rfl ((hl.1 6 21 (by kernel_rfl) (by kernel_rfl)).trans (congrArg some (show y 6 = .bool true from hd 6 (by kernel_rfl)))), fun ev ec ef hev => ?_⟩
                have e4 : ev (.tmp 4) = .pointer (some ⟨wr.heap.size, 0, none⟩) := hev 4 _ ((hl.2 4 (by kernel_rfl)).trans (by kernel_rfl))
                clear hd hl hev
                replace hJ := Lib.hid hJ
                go_simp
                exact hn _ _ (Below.refl _ _) rfl
              · intro y W next hl hJ hd hn
                refine Or.inl ⟨wanted_of (j := 6) (d := 21) rfl rfl rfl ((hl.1 6 21 (by kernel_rfl) (by kernel_rfl)).trans (congrArg some (show y 6 = .bool true from hd 6 (by kernel_rfl)))), fun ev ec ef hev => ?_⟩
                have e28 : ev (.tmp 28) =  (.pointer (some ⟨wr.heap.size, 0, none⟩)) := hev 28 _ ((hl.1 13 28 (by kernel_rfl) (by kernel_rfl)).trans (congrArg some (show y 13 =  (.pointer (some ⟨wr.heap.size, 0, none⟩)) from hd 13 (by kernel_rfl))))
                clear hd hl hev
                obtain ⟨x0, x1, x2, x3⟩ := (hbx.out.below hJ hbx.out.lt).four
                replace hJ := Lib.hid hJ
                go_simp
                exact hn _ _ (Below.refl _ _) rfl
              · intro y W next hl hJ hd hn
                refine Or.inl ⟨wanted_of (j := 6) (d := 21) rfl rfl rfl ((hl.1 6 21 (by kernel_rfl) (by kernel_rfl)).trans (congrArg some (show y 6 = .bool true from hd 6 (by kernel_rfl)))), fun ev ec ef hev => ?_⟩
                have e27 : ev (.tmp 27) =  (.string l[j].name) := hev 27 _ ((hl.1 12 27 (by kernel_rfl) (by kernel_rfl)).trans (congrArg some (show y 12 =  (.string l[j].name) from hd 12 (by kernel_rfl))))
                have e29 : ev (.tmp 29) =  (.string l[j + 1].name) := hev 29 _ ((hl.1 14 29 (by kernel_rfl) (by kernel_rfl)).trans (congrArg some (show y 14 =  (.string l[j + 1].name) from hd 14 (by kernel_rfl))))
                clear hd hl hev
                replace hJ := Lib.hid hJ
                go_simp
                refine hn _ _ (Below.refl _ _) ?_
                show Value.bool (!lessB l[j].name l[j + 1].name) = _
                rw [hle]; rfl
              · intro y W next hl hJ hd hn
                refine Or.inl ⟨wanted_of (j := 3) (d := 18) rfl rfl rfl ((hl.1 3 18 (by kernel_rfl) (by kernel_rfl)).trans (congrArg some (show y 3 = .bool false from hd 3 (by kernel_rfl)))), fun ev ec ef hev => ?_⟩
                have e21 : ev (.tmp 21) =  (.bool true) := hev 21 _ ((hl.1 6 21 (by kernel_rfl) (by kernel_rfl)).trans (congrArg some (show y 6 =  (.bool true) from hd 6 (by kernel_rfl))))
                have e30 : ev (.tmp 30) =  (.bool true) := hev 30 _ ((hl.1 15 30 (by kernel_rfl) (by kernel_rfl)).trans (congrArg some (show y 15 =  (.bool true) from hd 15 (by kernel_rfl))))
                clear hd hl hev
                replace hJ := Lib.hid hJ
                go_simp
                exact hn _ _ (Below.refl _ _) rfl
              · intro y W next hl hJ hd hn
                refine Or.inl ⟨wanted_free rfl, fun ev ec ef hev => ?_⟩
                have e18 : ev (.tmp 18) =  (.bool false) := hev 18 _ ((hl.1 3 18 (by kernel_rfl) (by kernel_rfl)).trans (congrArg some (show y 3 =  (.bool false) from hd 3 (by kernel_rfl))))
                have e31 : ev (.tmp 31) =  (.bool true) := hev 31 _ ((hl.1 16 31 (by kernel_rfl) (by kernel_rfl)).trans (congrArg some (show y 16 =  (.bool true) from hd 16 (by kernel_rfl))))
                clear hd hl hev
                replace hJ := Lib.hid hJ
                go_simp
                exact hn _ _ (Below.refl _ _) rfl

              · intro y W hb3 hall
                have hy : y 17 = .bool true := hall 17 (by decide)
                replace hb2 := Lib.hid (below_then hb2.out hb3 (Nat.le_refl _))
                clear hall hb3
                simp only [lay_cons, lay_nil]
                rw [hy]
                clear hy
                simp only [Act.put, List.setIfInBounds_toArray]
                simp only [List.set_cons_succ, List.set_cons_zero]
                go_wp2
                go_ret
                exact ⟨by rw [hbad.out]; rfl, hb2.out⟩
      · have hlt' : ¬ (k : Int) < (l.length : Int) := by omega
        obtain rfl : k = l.length := by omega
        have hyes := Lib.hid (vaultB_yes h4 hup.out)
        go_wp2
        go_ret
        exact ⟨by rw [hyes.out]; rfl, hb.out⟩
  · have hbad := Lib.hid (vaultB_long h4)
    have h4' : (4 : Int) < (l.length : Int) := by omega
    go_enter Tryd.func71, Tryd.ntmps71
    go_wp2
    go_ret
    exact ⟨by rw [hbad.out]; rfl, Below.refl _ _⟩
end Go.Proofs.YtbadpmghlclfkaaDoor
