/- StmtRight of the model, kind 7. -/
import Derived.Test.YtejmfpaegkgkjaaStmF
namespace Go.Proofs.Ytejmfpaegkgkjaa
open Go.RowKit

set_option maxRecDepth 100000 in
set_option maxHeartbeats 16000000 in
theorem specStmt7_any (x : Stm) (A : Option Addr) (n cap : Nat) (w : World) (wf : StmWf x) (hv : Prts w (.slice A n cap) x.parts) (hkd : x.kind = 7) : Calls Try.prog 13 #[stmA x (.slice A n cap)] w (Gives (.bool (stmtOk x)) w) := by
  have hb := Lib.hid ((Below.refl w.heap.size w).alloc (Nat.le_refl _) (.cells #[.int .i64 x.kind, .string x.name, .string x.text, .int .i64 x.num, .int .i64 x.dest, .slice A n cap] 36))
  have hk := Lib.hid (stm_box (w := w) x (.slice A n cap) 36)
  have hL0 := prts_none hv
  replace hv := Lib.hid (hv.alloc (.cells #[.int .i64 x.kind, .string x.name, .string x.text, .int .i64 x.num, .int .i64 x.dest, .slice A n cap] 36))
  have hform := Lib.hid (form7 x hkd)
  have htk := Lib.hid (fun w => takes7_any x.kind hkd w)
  have c2 : (x.kind == 2) = false := by simp; omega
  have c3 : (x.kind == 3) = false := by simp; omega
  have c4 : (x.kind == 4) = false := by simp; omega
  have c6 : (x.kind == 6) = false := by simp; omega
  have c8 : (x.kind == 8) = false := by simp; omega
  clear hkd
  obtain ⟨hm, ht, -⟩ := wf
  have hmi : (x.name.size : Int) ≤ 9223372036854775807 := by unfold maxLen at hm; omega
  have hti : (x.text.size : Int) ≤ 9223372036854775807 := by unfold maxLen at ht; omega
  replace hm := Lib.hid hm
  replace ht := Lib.hid ht
  obtain ⟨E, hE⟩ : ∃ E, nameless x = E := ⟨_, rfl⟩
  obtain ⟨WN, hWN⟩ : ∃ W, wordB x.name.data.toList = W := ⟨_, rfl⟩
  obtain ⟨P, hP⟩ : ∃ P, partsB x.parts = P := ⟨_, rfl⟩
  obtain ⟨L, hL⟩ : ∃ L, (!partless x) = L := ⟨_, rfl⟩
  obtain ⟨D, hD⟩ : ∃ D, rng x.dest 0 40 = D := ⟨_, rfl⟩
  obtain ⟨Z, hZ⟩ : ∃ Z, (!destless x) = Z := ⟨_, rfl⟩
  have i1 := Lib.hid (fun h : E = true => hWN.symm.trans (empty_word (hE.trans h)))
  have i2 := Lib.hid (fun h : L = false => hP.symm.trans (no_parts (hL.trans h)))
  have i3 := Lib.hid (fun h : Z = false => hD.symm.trans (no_dest (hZ.trans h)))
  have hform2 := Lib.hid (show stmtOk x = _ from hform.out)
  have hE1 := Lib.hid (name_no hE)
  have hL2 := Lib.hid (hL0.trans hL)
  have hZ2 := Lib.hid ((dest_ne x).trans hZ)
  replace hE := Lib.hid hE
  replace hWN := Lib.hid hWN
  replace hP := Lib.hid hP
  replace hL := Lib.hid hL
  replace hD := Lib.hid hD
  replace hZ := Lib.hid hZ
  clear hL0
  unfold stmA
  go_enter Try.func13, Try.ntmps13
  go_wp2_with (go_at_call 33; refine (htk.out _).mono ?_; rintro e w1 ⟨rfl, rfl⟩)
  refine wp_region_known [(.is (.string ⟨#[111]⟩)), (.is (.bool false)), (.is (.bool false)), (.is (.string ⟨#[111]⟩)), (.is (.bool false)), (.is (.pointer (some ⟨w.heap.size, 1, none⟩))), (.is (.string x.name)), (.is (.bool (!E))), (.is (.bool (!E))), (.is (.bool (!E))), (.is (.bool (!E))), (.is (gv E (.pointer (some ⟨w.heap.size, 1, none⟩)))), (.is (gv E (.string x.name))), (.is (gv E (.bool (!E)))), (.is (gv E (.bool (!E)))), (.is (gv (E && (!E)) (.pointer (some ⟨w.heap.size, 1, none⟩)))), (.is (gv (E && (!E)) (.string x.name))), (.is (gv (E && (!E)) (.bool WN))), (.is (gv (E && (!E)) (.bool (!WN)))), (.is (gv E (.bool ((!E) && (!WN))))), (.is (.bool ((!E) || ((!E) && (!WN))))), (.is (.bool ((!E) || ((!E) && (!WN))))), (.is (gv (!((!E) || ((!E) && (!WN)))) (.pointer (some ⟨w.heap.size, 5, none⟩)))), (.is (gv (!((!E) || ((!E) && (!WN)))) (.slice A n cap))), (.is (gv (!((!E) || ((!E) && (!WN)))) (.bool P))), (.is (gv (!((!E) || ((!E) && (!WN)))) (.bool (!P)))), (.is (.bool (((!E) || ((!E) && (!WN))) || (!P)))), (.is (.bool (((!E) || ((!E) && (!WN))) || (!P)))), (.is (gv (!(((!E) || ((!E) && (!WN))) || (!P))) (.string ⟨#[111]⟩))), (.is (gv (!(((!E) || ((!E) && (!WN))) || (!P))) (.bool false))), (.is (gv (!(((!E) || ((!E) && (!WN))) || (!P))) (.bool true))), (.is (gv (!(((!E) || ((!E) && (!WN))) || (!P))) (.bool true))), (.is (gv (!(((!E) || ((!E) && (!WN))) || (!P))) (.pointer (some ⟨w.heap.size, 5, none⟩)))), (.is (gv (!(((!E) || ((!E) && (!WN))) || (!P))) (.slice A n cap))), (.is (gv (!(((!E) || ((!E) && (!WN))) || (!P))) (.int .i64 (n : Int)))), (.is (gv (!(((!E) || ((!E) && (!WN))) || (!P))) (.bool L))), (.is (gv (!(((!E) || ((!E) && (!WN))) || (!P))) (.bool L))), (.is (.bool ((((!E) || ((!E) && (!WN))) || (!P)) || L))), (.is (.bool ((((!E) || ((!E) && (!WN))) || (!P)) || L))), (.is (gv (!((((!E) || ((!E) && (!WN))) || (!P)) || L)) (.pointer (some ⟨w.heap.size, 4, none⟩)))), (.is (gv (!((((!E) || ((!E) && (!WN))) || (!P)) || L)) (.int .i64 x.dest))), (.is (gv (!((((!E) || ((!E) && (!WN))) || (!P)) || L)) (.bool D))), (.is (gv (!((((!E) || ((!E) && (!WN))) || (!P)) || L)) (.bool (!D)))), (.is (.bool (((((!E) || ((!E) && (!WN))) || (!P)) || L) || (!D)))), (.is (.bool (((((!E) || ((!E) && (!WN))) || (!P)) || L) || (!D)))), (.is (gv (!(((((!E) || ((!E) && (!WN))) || (!P)) || L) || (!D))) (.string ⟨#[111]⟩))), (.is (gv (!(((((!E) || ((!E) && (!WN))) || (!P)) || L) || (!D))) (.bool true))), (.is (gv (!(((((!E) || ((!E) && (!WN))) || (!P)) || L) || (!D))) (.bool false))), (.is (gv (!(((((!E) || ((!E) && (!WN))) || (!P)) || L) || (!D))) (.bool false))), (.is undef), (.is undef), (.is undef), (.is (gv (!(((((!E) || ((!E) && (!WN))) || (!P)) || L) || (!D))) (.bool false))), (.is (.bool (((((!E) || ((!E) && (!WN))) || (!P)) || L) || (!D))))] (by kernel_rfl) (by kernel_rfl) (by kernel_rfl) ⟨?_, ?_, ?_, ?_, ?_, ?_, ?_, ?_, ?_, ?_, ?_, ?_, ?_, ?_, ?_, ?_, ?_, ?_, ?_, ?_, ?_, ?_, ?_, ?_, ?_, ?_, ?_, ?_, ?_, ?_, ?_, ?_, ?_, ?_, ?_, ?_, ?_, ?_, ?_, ?_, ?_, ?_, ?_, ?_, ?_, ?_, ?_, ?_, ?_, ?_, ?_, ?_, ?_, ?_, trivial⟩ ?_
  · intro y W next hl hJ hd hn
    refine Or.inl ⟨wanted_free rfl, fun ev ec ef hev => ?_⟩
    have e3 : ev (.tmp 3) = .string ⟨#[111]⟩ := hev 3 _ ((hl.2 3 (by kernel_rfl)).trans (by kernel_rfl))
    clear hd hl hev
    replace hJ := Lib.hid hJ
    go_simp
    exact hn _ _ (Below.refl _ _) rfl
  · intro y W next hl hJ hd hn
    refine Or.inl ⟨wanted_free rfl, fun ev ec ef hev => ?_⟩
    have e7 : ev (.tmp 7) = .string ⟨#[111]⟩ := hev 7 _ ((hl.1 0 7 (by kernel_rfl) (by kernel_rfl)).trans (congrArg some (show y 0 = (.string ⟨#[111]⟩) from hd 0 (by kernel_rfl))))
    clear hd hl hev
    replace hJ := Lib.hid hJ
    go_simp
    refine hn _ _ (Below.refl _ _) ?_
    (first | rfl | (rfl))
  · intro y W next hl hJ hd hn
    refine Or.inl ⟨wanted_free rfl, fun ev ec ef hev => ?_⟩
    have e8 : ev (.tmp 8) = .bool false := hev 8 _ ((hl.1 1 8 (by kernel_rfl) (by kernel_rfl)).trans (congrArg some (show y 1 = (.bool false) from hd 1 (by kernel_rfl))))
    clear hd hl hev
    replace hJ := Lib.hid hJ
    go_simp
    exact hn _ _ (Below.refl _ _) rfl
  · intro y W next hl hJ hd hn
    refine Or.inl ⟨wanted_of (j := 2) (d := 9) rfl rfl rfl ((hl.1 2 9 (by kernel_rfl) (by kernel_rfl)).trans (congrArg some (show y 2 = .bool false from hd 2 (by kernel_rfl)))), fun ev ec ef hev => ?_⟩
    have e3 : ev (.tmp 3) = .string ⟨#[111]⟩ := hev 3 _ ((hl.2 3 (by kernel_rfl)).trans (by kernel_rfl))
    clear hd hl hev
    replace hJ := Lib.hid hJ
    go_simp
    exact hn _ _ (Below.refl _ _) rfl
  · intro y W next hl hJ hd hn
    refine Or.inl ⟨wanted_of (j := 2) (d := 9) rfl rfl rfl ((hl.1 2 9 (by kernel_rfl) (by kernel_rfl)).trans (congrArg some (show y 2 = .bool false from hd 2 (by kernel_rfl)))), fun ev ec ef hev => ?_⟩
    have e10 : ev (.tmp 10) = .string ⟨#[111]⟩ := hev 10 _ ((hl.1 3 10 (by kernel_rfl) (by kernel_rfl)).trans (congrArg some (show y 3 = (.string ⟨#[111]⟩) from hd 3 (by kernel_rfl))))
    clear hd hl hev
    replace hJ := Lib.hid hJ
    go_simp
    refine (specHas_any ⟨#[111]⟩ 110 (by decide) _).mono ?_
    rintro e w' ⟨rfl, rfl⟩
    refine ⟨_, rfl, hn _ _ (Below.refl _ _) ?_⟩
    rfl
  · intro y W next hl hJ hd hn
    refine Or.inl ⟨wanted_of (j := 2) (d := 9) rfl rfl rfl ((hl.1 2 9 (by kernel_rfl) (by kernel_rfl)).trans (congrArg some (show y 2 = .bool false from hd 2 (by kernel_rfl)))), fun ev ec ef hev => ?_⟩
    have e1 : ev (.tmp 1) = .pointer (some ⟨w.heap.size, 0, none⟩) := hev 1 _ ((hl.2 1 (by kernel_rfl)).trans (by kernel_rfl))
    clear hd hl hev
    replace hJ := Lib.hid hJ
    go_simp
    exact hn _ _ (Below.refl _ _) rfl
  · intro y W next hl hJ hd hn
    refine Or.inl ⟨wanted_of (j := 2) (d := 9) rfl rfl rfl ((hl.1 2 9 (by kernel_rfl) (by kernel_rfl)).trans (congrArg some (show y 2 = .bool false from hd 2 (by kernel_rfl)))), fun ev ec ef hev => ?_⟩
    have e12 : ev (.tmp 12) = .pointer (some ⟨w.heap.size, 1, none⟩) := hev 12 _ ((hl.1 5 12 (by kernel_rfl) (by kernel_rfl)).trans (congrArg some (show y 5 = (.pointer (some ⟨w.heap.size, 1, none⟩)) from hd 5 (by kernel_rfl))))
    clear hd hl hev
    obtain ⟨x0, x1, x2, x3, x4, x5, -⟩ := (hk.out.below hJ hk.out.lt).six
    replace hJ := Lib.hid hJ
    go_simp
    exact hn _ _ (Below.refl _ _) rfl
  · intro y W next hl hJ hd hn
    refine Or.inl ⟨wanted_of (j := 2) (d := 9) rfl rfl rfl ((hl.1 2 9 (by kernel_rfl) (by kernel_rfl)).trans (congrArg some (show y 2 = .bool false from hd 2 (by kernel_rfl)))), fun ev ec ef hev => ?_⟩
    have e13 : ev (.tmp 13) = .string x.name := hev 13 _ ((hl.1 6 13 (by kernel_rfl) (by kernel_rfl)).trans (congrArg some (show y 6 = (.string x.name) from hd 6 (by kernel_rfl))))
    clear hd hl hev
    replace hJ := Lib.hid hJ
    go_simp
    refine hn _ _ (Below.refl _ _) ?_
    first | exact congrArg Value.bool hE1.out
  · intro y W next hl hJ hd hn
    refine Or.inl ⟨wanted_of (j := 2) (d := 9) rfl rfl rfl ((hl.1 2 9 (by kernel_rfl) (by kernel_rfl)).trans (congrArg some (show y 2 = .bool false from hd 2 (by kernel_rfl)))), fun ev ec ef hev => ?_⟩
    have e11 : ev (.tmp 11) = .bool false := hev 11 _ ((hl.1 4 11 (by kernel_rfl) (by kernel_rfl)).trans (congrArg some (show y 4 = (.bool false) from hd 4 (by kernel_rfl))))
    have e14 : ev (.tmp 14) = .bool (!E) := hev 14 _ ((hl.1 7 14 (by kernel_rfl) (by kernel_rfl)).trans (congrArg some (show y 7 = (.bool (!E)) from hd 7 (by kernel_rfl))))
    clear hd hl hev
    replace hJ := Lib.hid hJ
    go_simp
    refine hn _ _ (Below.refl _ _) ?_
    (first | rfl | (cases E <;> rfl))
  · intro y W next hl hJ hd hn
    refine Or.inl ⟨wanted_free rfl, fun ev ec ef hev => ?_⟩
    have e9 : ev (.tmp 9) = .bool false := hev 9 _ ((hl.1 2 9 (by kernel_rfl) (by kernel_rfl)).trans (congrArg some (show y 2 = (.bool false) from hd 2 (by kernel_rfl))))
    have e15 : ev (.tmp 15) = .bool (!E) := hev 15 _ ((hl.1 8 15 (by kernel_rfl) (by kernel_rfl)).trans (congrArg some (show y 8 = (.bool (!E)) from hd 8 (by kernel_rfl))))
    clear hd hl hev
    replace hJ := Lib.hid hJ
    go_simp
    refine hn _ _ (Below.refl _ _) ?_
    (first | rfl | (cases E <;> rfl))
  · intro y W next hl hJ hd hn
    refine Or.inl ⟨wanted_free rfl, fun ev ec ef hev => ?_⟩
    have e16 : ev (.tmp 16) = .bool (!E) := hev 16 _ ((hl.1 9 16 (by kernel_rfl) (by kernel_rfl)).trans (congrArg some (show y 9 = (.bool (!E)) from hd 9 (by kernel_rfl))))
    clear hd hl hev
    replace hJ := Lib.hid hJ
    go_simp
    exact hn _ _ (Below.refl _ _) rfl
  · intro y W next hl hJ hd hn
    cases hw : E with
    | true =>
      refine Or.inl ⟨wanted_gv_yes (j := 10) (d := 17) (x := true) (z := (!E)) rfl rfl rfl ((hl.1 10 17 (by kernel_rfl) (by kernel_rfl)).trans (congrArg some ((show y 10 = .bool (!E) from hd 10 (by kernel_rfl)).trans (gv_one _).symm))) ((show ∀ E : Bool, E = true → (true && ((!E) == false)) = true from by decide) E hw), fun ev ec ef hev => ?_⟩
      have e1 : ev (.tmp 1) = .pointer (some ⟨w.heap.size, 0, none⟩) := hev 1 _ ((hl.2 1 (by kernel_rfl)).trans (by kernel_rfl))
      clear hd hl hev
      replace hw := Lib.hid hw
      replace hJ := Lib.hid hJ
      go_simp
      exact hn _ _ (Below.refl _ _) (gv_t' hw.out rfl)
    | false =>
      exact Or.inr ⟨wanted_gv_no (j := 10) (d := 17) (x := true) (z := (!E)) rfl rfl rfl ((hl.1 10 17 (by kernel_rfl) (by kernel_rfl)).trans (congrArg some ((show y 10 = .bool (!E) from hd 10 (by kernel_rfl)).trans (gv_one _).symm))) ((show ∀ E : Bool, E = false → (true && ((!E) == false)) = false from by decide) E hw), hn _ _ (Below.refl _ _) (gv_f hw).symm⟩
  · intro y W next hl hJ hd hn
    cases hw : E with
    | true =>
      refine Or.inl ⟨wanted_gv_yes (j := 10) (d := 17) (x := true) (z := (!E)) rfl rfl rfl ((hl.1 10 17 (by kernel_rfl) (by kernel_rfl)).trans (congrArg some ((show y 10 = .bool (!E) from hd 10 (by kernel_rfl)).trans (gv_one _).symm))) ((show ∀ E : Bool, E = true → (true && ((!E) == false)) = true from by decide) E hw), fun ev ec ef hev => ?_⟩
      have e18 : ev (.tmp 18) = .pointer (some ⟨w.heap.size, 1, none⟩) := hev 18 _ ((hl.1 11 18 (by kernel_rfl) (by kernel_rfl)).trans (congrArg some ((show y 11 = (gv E (.pointer (some ⟨w.heap.size, 1, none⟩))) from hd 11 (by kernel_rfl)).trans (gv_t ((show ∀ E : Bool, E = true → E = true from by decide) E hw)))))
      clear hd hl hev
      replace hw := Lib.hid hw
      obtain ⟨x0, x1, x2, x3, x4, x5, -⟩ := (hk.out.below hJ hk.out.lt).six
      replace hJ := Lib.hid hJ
      go_simp
      exact hn _ _ (Below.refl _ _) (gv_t' hw.out rfl)
    | false =>
      exact Or.inr ⟨wanted_gv_no (j := 10) (d := 17) (x := true) (z := (!E)) rfl rfl rfl ((hl.1 10 17 (by kernel_rfl) (by kernel_rfl)).trans (congrArg some ((show y 10 = .bool (!E) from hd 10 (by kernel_rfl)).trans (gv_one _).symm))) ((show ∀ E : Bool, E = false → (true && ((!E) == false)) = false from by decide) E hw), hn _ _ (Below.refl _ _) (gv_f hw).symm⟩
  · intro y W next hl hJ hd hn
    cases hw : E with
    | true =>
      refine Or.inl ⟨wanted_gv_yes (j := 10) (d := 17) (x := true) (z := (!E)) rfl rfl rfl ((hl.1 10 17 (by kernel_rfl) (by kernel_rfl)).trans (congrArg some ((show y 10 = .bool (!E) from hd 10 (by kernel_rfl)).trans (gv_one _).symm))) ((show ∀ E : Bool, E = true → (true && ((!E) == false)) = true from by decide) E hw), fun ev ec ef hev => ?_⟩
      have e19 : ev (.tmp 19) = .string x.name := hev 19 _ ((hl.1 12 19 (by kernel_rfl) (by kernel_rfl)).trans (congrArg some ((show y 12 = (gv E (.string x.name)) from hd 12 (by kernel_rfl)).trans (gv_t ((show ∀ E : Bool, E = true → E = true from by decide) E hw)))))
      clear hd hl hev
      replace hw := Lib.hid hw
      replace hJ := Lib.hid hJ
      go_simp
      refine hn _ _ (Below.refl _ _) (gv_t' hw.out ?_)
      first | exact congrArg Value.bool hE1.out
    | false =>
      exact Or.inr ⟨wanted_gv_no (j := 10) (d := 17) (x := true) (z := (!E)) rfl rfl rfl ((hl.1 10 17 (by kernel_rfl) (by kernel_rfl)).trans (congrArg some ((show y 10 = .bool (!E) from hd 10 (by kernel_rfl)).trans (gv_one _).symm))) ((show ∀ E : Bool, E = false → (true && ((!E) == false)) = false from by decide) E hw), hn _ _ (Below.refl _ _) (gv_f hw).symm⟩
  · intro y W next hl hJ hd hn
    cases hw : E with
    | true =>
      refine Or.inl ⟨wanted_gv_yes (j := 10) (d := 17) (x := true) (z := (!E)) rfl rfl rfl ((hl.1 10 17 (by kernel_rfl) (by kernel_rfl)).trans (congrArg some ((show y 10 = .bool (!E) from hd 10 (by kernel_rfl)).trans (gv_one _).symm))) ((show ∀ E : Bool, E = true → (true && ((!E) == false)) = true from by decide) E hw), fun ev ec ef hev => ?_⟩
      have e20 : ev (.tmp 20) = .bool (!E) := hev 20 _ ((hl.1 13 20 (by kernel_rfl) (by kernel_rfl)).trans (congrArg some ((show y 13 = (gv E (.bool (!E))) from hd 13 (by kernel_rfl)).trans (gv_t ((show ∀ E : Bool, E = true → E = true from by decide) E hw)))))
      clear hd hl hev
      replace hw := Lib.hid hw
      replace hJ := Lib.hid hJ
      go_simp
      exact hn _ _ (Below.refl _ _) (gv_t' hw.out rfl)
    | false =>
      exact Or.inr ⟨wanted_gv_no (j := 10) (d := 17) (x := true) (z := (!E)) rfl rfl rfl ((hl.1 10 17 (by kernel_rfl) (by kernel_rfl)).trans (congrArg some ((show y 10 = .bool (!E) from hd 10 (by kernel_rfl)).trans (gv_one _).symm))) ((show ∀ E : Bool, E = false → (true && ((!E) == false)) = false from by decide) E hw), hn _ _ (Below.refl _ _) (gv_f hw).symm⟩
  · intro y W next hl hJ hd hn
    cases hw : (E && (!E)) with
    | true =>
      refine Or.inl ⟨wanted_gv_yes (j := 14) (d := 21) (x := E) (z := (!E)) rfl rfl rfl ((hl.1 14 21 (by kernel_rfl) (by kernel_rfl)).trans (congrArg some (show y 14 = (gv E (.bool (!E))) from hd 14 (by kernel_rfl)))) ((show ∀ E : Bool, (E && (!E)) = true → (E && ((!E) == true)) = true from by decide) E hw), fun ev ec ef hev => ?_⟩
      have e1 : ev (.tmp 1) = .pointer (some ⟨w.heap.size, 0, none⟩) := hev 1 _ ((hl.2 1 (by kernel_rfl)).trans (by kernel_rfl))
      clear hd hl hev
      replace hw := Lib.hid hw
      replace hJ := Lib.hid hJ
      go_simp
      exact hn _ _ (Below.refl _ _) (gv_t' hw.out rfl)
    | false =>
      exact Or.inr ⟨wanted_gv_no (j := 14) (d := 21) (x := E) (z := (!E)) rfl rfl rfl ((hl.1 14 21 (by kernel_rfl) (by kernel_rfl)).trans (congrArg some (show y 14 = (gv E (.bool (!E))) from hd 14 (by kernel_rfl)))) ((show ∀ E : Bool, (E && (!E)) = false → (E && ((!E) == true)) = false from by decide) E hw), hn _ _ (Below.refl _ _) (gv_f hw).symm⟩
  · intro y W next hl hJ hd hn
    cases hw : (E && (!E)) with
    | true =>
      refine Or.inl ⟨wanted_gv_yes (j := 14) (d := 21) (x := E) (z := (!E)) rfl rfl rfl ((hl.1 14 21 (by kernel_rfl) (by kernel_rfl)).trans (congrArg some (show y 14 = (gv E (.bool (!E))) from hd 14 (by kernel_rfl)))) ((show ∀ E : Bool, (E && (!E)) = true → (E && ((!E) == true)) = true from by decide) E hw), fun ev ec ef hev => ?_⟩
      have e22 : ev (.tmp 22) = .pointer (some ⟨w.heap.size, 1, none⟩) := hev 22 _ ((hl.1 15 22 (by kernel_rfl) (by kernel_rfl)).trans (congrArg some ((show y 15 = (gv (E && (!E)) (.pointer (some ⟨w.heap.size, 1, none⟩))) from hd 15 (by kernel_rfl)).trans (gv_t ((show ∀ E : Bool, (E && (!E)) = true → (E && (!E)) = true from by decide) E hw)))))
      clear hd hl hev
      replace hw := Lib.hid hw
      obtain ⟨x0, x1, x2, x3, x4, x5, -⟩ := (hk.out.below hJ hk.out.lt).six
      replace hJ := Lib.hid hJ
      go_simp
      exact hn _ _ (Below.refl _ _) (gv_t' hw.out rfl)
    | false =>
      exact Or.inr ⟨wanted_gv_no (j := 14) (d := 21) (x := E) (z := (!E)) rfl rfl rfl ((hl.1 14 21 (by kernel_rfl) (by kernel_rfl)).trans (congrArg some (show y 14 = (gv E (.bool (!E))) from hd 14 (by kernel_rfl)))) ((show ∀ E : Bool, (E && (!E)) = false → (E && ((!E) == true)) = false from by decide) E hw), hn _ _ (Below.refl _ _) (gv_f hw).symm⟩
  · intro y W next hl hJ hd hn
    cases hw : (E && (!E)) with
    | true =>
      refine Or.inl ⟨wanted_gv_yes (j := 14) (d := 21) (x := E) (z := (!E)) rfl rfl rfl ((hl.1 14 21 (by kernel_rfl) (by kernel_rfl)).trans (congrArg some (show y 14 = (gv E (.bool (!E))) from hd 14 (by kernel_rfl)))) ((show ∀ E : Bool, (E && (!E)) = true → (E && ((!E) == true)) = true from by decide) E hw), fun ev ec ef hev => ?_⟩
      have e23 : ev (.tmp 23) = .string x.name := hev 23 _ ((hl.1 16 23 (by kernel_rfl) (by kernel_rfl)).trans (congrArg some ((show y 16 = (gv (E && (!E)) (.string x.name)) from hd 16 (by kernel_rfl)).trans (gv_t ((show ∀ E : Bool, (E && (!E)) = true → (E && (!E)) = true from by decide) E hw)))))
      clear hd hl hev
      replace hw := Lib.hid hw
      replace hJ := Lib.hid hJ
      go_simp
      refine (specWord_any x.name hm.out _).mono ?_
      rintro e w' ⟨rfl, rfl⟩
      refine ⟨_, rfl, hn _ _ (Below.refl _ _) (gv_t' hw.out ?_)⟩
      exact congrArg Value.bool hWN.out
    | false =>
      exact Or.inr ⟨wanted_gv_no (j := 14) (d := 21) (x := E) (z := (!E)) rfl rfl rfl ((hl.1 14 21 (by kernel_rfl) (by kernel_rfl)).trans (congrArg some (show y 14 = (gv E (.bool (!E))) from hd 14 (by kernel_rfl)))) ((show ∀ E : Bool, (E && (!E)) = false → (E && ((!E) == true)) = false from by decide) E hw), hn _ _ (Below.refl _ _) (gv_f hw).symm⟩
  · intro y W next hl hJ hd hn
    cases hw : (E && (!E)) with
    | true =>
      refine Or.inl ⟨wanted_gv_yes (j := 14) (d := 21) (x := E) (z := (!E)) rfl rfl rfl ((hl.1 14 21 (by kernel_rfl) (by kernel_rfl)).trans (congrArg some (show y 14 = (gv E (.bool (!E))) from hd 14 (by kernel_rfl)))) ((show ∀ E : Bool, (E && (!E)) = true → (E && ((!E) == true)) = true from by decide) E hw), fun ev ec ef hev => ?_⟩
      have e24 : ev (.tmp 24) = .bool WN := hev 24 _ ((hl.1 17 24 (by kernel_rfl) (by kernel_rfl)).trans (congrArg some ((show y 17 = (gv (E && (!E)) (.bool WN)) from hd 17 (by kernel_rfl)).trans (gv_t ((show ∀ E : Bool, (E && (!E)) = true → (E && (!E)) = true from by decide) E hw)))))
      clear hd hl hev
      replace hw := Lib.hid hw
      replace hJ := Lib.hid hJ
      go_simp
      refine hn _ _ (Below.refl _ _) (gv_t' hw.out ?_)
      (first | rfl | (cases WN <;> rfl))
    | false =>
      exact Or.inr ⟨wanted_gv_no (j := 14) (d := 21) (x := E) (z := (!E)) rfl rfl rfl ((hl.1 14 21 (by kernel_rfl) (by kernel_rfl)).trans (congrArg some (show y 14 = (gv E (.bool (!E))) from hd 14 (by kernel_rfl)))) ((show ∀ E : Bool, (E && (!E)) = false → (E && ((!E) == true)) = false from by decide) E hw), hn _ _ (Below.refl _ _) (gv_f hw).symm⟩
  · intro y W next hl hJ hd hn
    cases hw : E with
    | true =>
      refine Or.inl ⟨wanted_gv_yes (j := 10) (d := 17) (x := true) (z := (!E)) rfl rfl rfl ((hl.1 10 17 (by kernel_rfl) (by kernel_rfl)).trans (congrArg some ((show y 10 = .bool (!E) from hd 10 (by kernel_rfl)).trans (gv_one _).symm))) ((show ∀ E : Bool, E = true → (true && ((!E) == false)) = true from by decide) E hw), fun ev ec ef hev => ?_⟩
      have e21 : ev (.tmp 21) = .bool (!E) := hev 21 _ ((hl.1 14 21 (by kernel_rfl) (by kernel_rfl)).trans (congrArg some ((show y 14 = (gv E (.bool (!E))) from hd 14 (by kernel_rfl)).trans (gv_t ((show ∀ E : Bool, E = true → E = true from by decide) E hw)))))
      cases hc : (!E) with
      | true =>
        rw [hc] at e21
        have e25 : ev (.tmp 25) = .bool (!WN) := hev 25 _ ((hl.1 18 25 (by kernel_rfl) (by kernel_rfl)).trans (congrArg some ((show y 18 = (gv (E && (!E)) (.bool (!WN))) from hd 18 (by kernel_rfl)).trans (gv_t ((show ∀ E : Bool, E = true → (!E) = true → (E && (!E)) = true from by decide) E hw hc)))))
        clear hd hl hev
        replace hw := Lib.hid hw
        replace hc := Lib.hid hc
        replace hJ := Lib.hid hJ
        go_simp
        refine hn _ _ (Below.refl _ _) (gv_t' hw.out ?_)
        exact congrArg Value.bool ((show ∀ E WN : Bool, (!E) = true → (!WN) = ((!E) && (!WN)) from by decide) E WN hc.out)
      | false =>
        rw [hc] at e21
        clear hd hl hev
        replace hw := Lib.hid hw
        replace hc := Lib.hid hc
        replace hJ := Lib.hid hJ
        go_simp
        refine hn _ _ (Below.refl _ _) (gv_t' hw.out ?_)
        exact congrArg Value.bool ((show ∀ E WN : Bool, (!E) = false → false = ((!E) && (!WN)) from by decide) E WN hc.out)
    | false =>
      exact Or.inr ⟨wanted_gv_no (j := 10) (d := 17) (x := true) (z := (!E)) rfl rfl rfl ((hl.1 10 17 (by kernel_rfl) (by kernel_rfl)).trans (congrArg some ((show y 10 = .bool (!E) from hd 10 (by kernel_rfl)).trans (gv_one _).symm))) ((show ∀ E : Bool, E = false → (true && ((!E) == false)) = false from by decide) E hw), hn _ _ (Below.refl _ _) (gv_f hw).symm⟩
  · intro y W next hl hJ hd hn
    refine Or.inl ⟨wanted_free rfl, fun ev ec ef hev => ?_⟩
    have e17 : ev (.tmp 17) = .bool (!E) := hev 17 _ ((hl.1 10 17 (by kernel_rfl) (by kernel_rfl)).trans (congrArg some (show y 10 = (.bool (!E)) from hd 10 (by kernel_rfl))))
    cases hc : (!E) with
    | true =>
      rw [hc] at e17
      clear hd hl hev
      replace hc := Lib.hid hc
      replace hJ := Lib.hid hJ
      go_simp
      refine hn _ _ (Below.refl _ _) ?_
      exact congrArg Value.bool ((show ∀ E WN : Bool, (!E) = true → true = ((!E) || ((!E) && (!WN))) from by decide) E WN hc.out)
    | false =>
      rw [hc] at e17
      have e26 : ev (.tmp 26) = .bool ((!E) && (!WN)) := hev 26 _ ((hl.1 19 26 (by kernel_rfl) (by kernel_rfl)).trans (congrArg some ((show y 19 = (gv E (.bool ((!E) && (!WN)))) from hd 19 (by kernel_rfl)).trans (gv_t ((show ∀ E : Bool, (!E) = false → E = true from by decide) E hc)))))
      clear hd hl hev
      replace hc := Lib.hid hc
      replace hJ := Lib.hid hJ
      go_simp
      refine hn _ _ (Below.refl _ _) ?_
      exact congrArg Value.bool ((show ∀ E WN : Bool, (!E) = false → ((!E) && (!WN)) = ((!E) || ((!E) && (!WN))) from by decide) E WN hc.out)
  · intro y W next hl hJ hd hn
    refine Or.inl ⟨wanted_free rfl, fun ev ec ef hev => ?_⟩
    have e27 : ev (.tmp 27) = .bool ((!E) || ((!E) && (!WN))) := hev 27 _ ((hl.1 20 27 (by kernel_rfl) (by kernel_rfl)).trans (congrArg some (show y 20 = (.bool ((!E) || ((!E) && (!WN)))) from hd 20 (by kernel_rfl))))
    clear hd hl hev
    replace hJ := Lib.hid hJ
    go_simp
    exact hn _ _ (Below.refl _ _) rfl
  · intro y W next hl hJ hd hn
    cases hw : (!((!E) || ((!E) && (!WN)))) with
    | true =>
      refine Or.inl ⟨wanted_gv_yes (j := 21) (d := 28) (x := true) (z := ((!E) || ((!E) && (!WN)))) rfl rfl rfl ((hl.1 21 28 (by kernel_rfl) (by kernel_rfl)).trans (congrArg some ((show y 21 = .bool ((!E) || ((!E) && (!WN))) from hd 21 (by kernel_rfl)).trans (gv_one _).symm))) ((show ∀ E WN : Bool, (!((!E) || ((!E) && (!WN)))) = true → (true && (((!E) || ((!E) && (!WN))) == false)) = true from by decide) E WN hw), fun ev ec ef hev => ?_⟩
      have e1 : ev (.tmp 1) = .pointer (some ⟨w.heap.size, 0, none⟩) := hev 1 _ ((hl.2 1 (by kernel_rfl)).trans (by kernel_rfl))
      clear hd hl hev
      replace hw := Lib.hid hw
      replace hJ := Lib.hid hJ
      go_simp
      exact hn _ _ (Below.refl _ _) (gv_t' hw.out rfl)
    | false =>
      exact Or.inr ⟨wanted_gv_no (j := 21) (d := 28) (x := true) (z := ((!E) || ((!E) && (!WN)))) rfl rfl rfl ((hl.1 21 28 (by kernel_rfl) (by kernel_rfl)).trans (congrArg some ((show y 21 = .bool ((!E) || ((!E) && (!WN))) from hd 21 (by kernel_rfl)).trans (gv_one _).symm))) ((show ∀ E WN : Bool, (!((!E) || ((!E) && (!WN)))) = false → (true && (((!E) || ((!E) && (!WN))) == false)) = false from by decide) E WN hw), hn _ _ (Below.refl _ _) (gv_f hw).symm⟩
  · intro y W next hl hJ hd hn
    cases hw : (!((!E) || ((!E) && (!WN)))) with
    | true =>
      refine Or.inl ⟨wanted_gv_yes (j := 21) (d := 28) (x := true) (z := ((!E) || ((!E) && (!WN)))) rfl rfl rfl ((hl.1 21 28 (by kernel_rfl) (by kernel_rfl)).trans (congrArg some ((show y 21 = .bool ((!E) || ((!E) && (!WN))) from hd 21 (by kernel_rfl)).trans (gv_one _).symm))) ((show ∀ E WN : Bool, (!((!E) || ((!E) && (!WN)))) = true → (true && (((!E) || ((!E) && (!WN))) == false)) = true from by decide) E WN hw), fun ev ec ef hev => ?_⟩
      have e29 : ev (.tmp 29) = .pointer (some ⟨w.heap.size, 5, none⟩) := hev 29 _ ((hl.1 22 29 (by kernel_rfl) (by kernel_rfl)).trans (congrArg some ((show y 22 = (gv (!((!E) || ((!E) && (!WN)))) (.pointer (some ⟨w.heap.size, 5, none⟩))) from hd 22 (by kernel_rfl)).trans (gv_t ((show ∀ E WN : Bool, (!((!E) || ((!E) && (!WN)))) = true → (!((!E) || ((!E) && (!WN)))) = true from by decide) E WN hw)))))
      clear hd hl hev
      replace hw := Lib.hid hw
      obtain ⟨x0, x1, x2, x3, x4, x5, -⟩ := (hk.out.below hJ hk.out.lt).six
      replace hJ := Lib.hid hJ
      go_simp
      exact hn _ _ (Below.refl _ _) (gv_t' hw.out rfl)
    | false =>
      exact Or.inr ⟨wanted_gv_no (j := 21) (d := 28) (x := true) (z := ((!E) || ((!E) && (!WN)))) rfl rfl rfl ((hl.1 21 28 (by kernel_rfl) (by kernel_rfl)).trans (congrArg some ((show y 21 = .bool ((!E) || ((!E) && (!WN))) from hd 21 (by kernel_rfl)).trans (gv_one _).symm))) ((show ∀ E WN : Bool, (!((!E) || ((!E) && (!WN)))) = false → (true && (((!E) || ((!E) && (!WN))) == false)) = false from by decide) E WN hw), hn _ _ (Below.refl _ _) (gv_f hw).symm⟩
  · intro y W next hl hJ hd hn
    cases hw : (!((!E) || ((!E) && (!WN)))) with
    | true =>
      refine Or.inl ⟨wanted_gv_yes (j := 21) (d := 28) (x := true) (z := ((!E) || ((!E) && (!WN)))) rfl rfl rfl ((hl.1 21 28 (by kernel_rfl) (by kernel_rfl)).trans (congrArg some ((show y 21 = .bool ((!E) || ((!E) && (!WN))) from hd 21 (by kernel_rfl)).trans (gv_one _).symm))) ((show ∀ E WN : Bool, (!((!E) || ((!E) && (!WN)))) = true → (true && (((!E) || ((!E) && (!WN))) == false)) = true from by decide) E WN hw), fun ev ec ef hev => ?_⟩
      have e30 : ev (.tmp 30) = .slice A n cap := hev 30 _ ((hl.1 23 30 (by kernel_rfl) (by kernel_rfl)).trans (congrArg some ((show y 23 = (gv (!((!E) || ((!E) && (!WN)))) (.slice A n cap)) from hd 23 (by kernel_rfl)).trans (gv_t ((show ∀ E WN : Bool, (!((!E) || ((!E) && (!WN)))) = true → (!((!E) || ((!E) && (!WN)))) = true from by decide) E WN hw)))))
      clear hd hl hev
      replace hw := Lib.hid hw
      replace hJ := Lib.hid hJ
      go_simp
      refine (specPartsB_any _ x.parts _ (hv.out.below hJ.out)).mono ?_
      rintro e w' ⟨rfl, hb⟩
      refine ⟨_, rfl, hn _ _ hb (gv_t' hw.out ?_)⟩
      exact congrArg Value.bool hP.out
    | false =>
      exact Or.inr ⟨wanted_gv_no (j := 21) (d := 28) (x := true) (z := ((!E) || ((!E) && (!WN)))) rfl rfl rfl ((hl.1 21 28 (by kernel_rfl) (by kernel_rfl)).trans (congrArg some ((show y 21 = .bool ((!E) || ((!E) && (!WN))) from hd 21 (by kernel_rfl)).trans (gv_one _).symm))) ((show ∀ E WN : Bool, (!((!E) || ((!E) && (!WN)))) = false → (true && (((!E) || ((!E) && (!WN))) == false)) = false from by decide) E WN hw), hn _ _ (Below.refl _ _) (gv_f hw).symm⟩
  · intro y W next hl hJ hd hn
    cases hw : (!((!E) || ((!E) && (!WN)))) with
    | true =>
      refine Or.inl ⟨wanted_gv_yes (j := 21) (d := 28) (x := true) (z := ((!E) || ((!E) && (!WN)))) rfl rfl rfl ((hl.1 21 28 (by kernel_rfl) (by kernel_rfl)).trans (congrArg some ((show y 21 = .bool ((!E) || ((!E) && (!WN))) from hd 21 (by kernel_rfl)).trans (gv_one _).symm))) ((show ∀ E WN : Bool, (!((!E) || ((!E) && (!WN)))) = true → (true && (((!E) || ((!E) && (!WN))) == false)) = true from by decide) E WN hw), fun ev ec ef hev => ?_⟩
      have e31 : ev (.tmp 31) = .bool P := hev 31 _ ((hl.1 24 31 (by kernel_rfl) (by kernel_rfl)).trans (congrArg some ((show y 24 = (gv (!((!E) || ((!E) && (!WN)))) (.bool P)) from hd 24 (by kernel_rfl)).trans (gv_t ((show ∀ E WN : Bool, (!((!E) || ((!E) && (!WN)))) = true → (!((!E) || ((!E) && (!WN)))) = true from by decide) E WN hw)))))
      clear hd hl hev
      replace hw := Lib.hid hw
      replace hJ := Lib.hid hJ
      go_simp
      refine hn _ _ (Below.refl _ _) (gv_t' hw.out ?_)
      (first | rfl | (cases P <;> rfl))
    | false =>
      exact Or.inr ⟨wanted_gv_no (j := 21) (d := 28) (x := true) (z := ((!E) || ((!E) && (!WN)))) rfl rfl rfl ((hl.1 21 28 (by kernel_rfl) (by kernel_rfl)).trans (congrArg some ((show y 21 = .bool ((!E) || ((!E) && (!WN))) from hd 21 (by kernel_rfl)).trans (gv_one _).symm))) ((show ∀ E WN : Bool, (!((!E) || ((!E) && (!WN)))) = false → (true && (((!E) || ((!E) && (!WN))) == false)) = false from by decide) E WN hw), hn _ _ (Below.refl _ _) (gv_f hw).symm⟩
  · intro y W next hl hJ hd hn
    refine Or.inl ⟨wanted_free rfl, fun ev ec ef hev => ?_⟩
    have e28 : ev (.tmp 28) = .bool ((!E) || ((!E) && (!WN))) := hev 28 _ ((hl.1 21 28 (by kernel_rfl) (by kernel_rfl)).trans (congrArg some (show y 21 = (.bool ((!E) || ((!E) && (!WN)))) from hd 21 (by kernel_rfl))))
    cases hc : ((!E) || ((!E) && (!WN))) with
    | true =>
      rw [hc] at e28
      clear hd hl hev
      replace hc := Lib.hid hc
      replace hJ := Lib.hid hJ
      go_simp
      refine hn _ _ (Below.refl _ _) ?_
      exact congrArg Value.bool ((show ∀ E WN P : Bool, ((!E) || ((!E) && (!WN))) = true → true = (((!E) || ((!E) && (!WN))) || (!P)) from by decide) E WN P hc.out)
    | false =>
      rw [hc] at e28
      have e32 : ev (.tmp 32) = .bool (!P) := hev 32 _ ((hl.1 25 32 (by kernel_rfl) (by kernel_rfl)).trans (congrArg some ((show y 25 = (gv (!((!E) || ((!E) && (!WN)))) (.bool (!P))) from hd 25 (by kernel_rfl)).trans (gv_t ((show ∀ E WN : Bool, ((!E) || ((!E) && (!WN))) = false → (!((!E) || ((!E) && (!WN)))) = true from by decide) E WN hc)))))
      clear hd hl hev
      replace hc := Lib.hid hc
      replace hJ := Lib.hid hJ
      go_simp
      refine hn _ _ (Below.refl _ _) ?_
      exact congrArg Value.bool ((show ∀ E WN P : Bool, ((!E) || ((!E) && (!WN))) = false → (!P) = (((!E) || ((!E) && (!WN))) || (!P)) from by decide) E WN P hc.out)
  · intro y W next hl hJ hd hn
    refine Or.inl ⟨wanted_free rfl, fun ev ec ef hev => ?_⟩
    have e33 : ev (.tmp 33) = .bool (((!E) || ((!E) && (!WN))) || (!P)) := hev 33 _ ((hl.1 26 33 (by kernel_rfl) (by kernel_rfl)).trans (congrArg some (show y 26 = (.bool (((!E) || ((!E) && (!WN))) || (!P))) from hd 26 (by kernel_rfl))))
    clear hd hl hev
    replace hJ := Lib.hid hJ
    go_simp
    exact hn _ _ (Below.refl _ _) rfl
  · intro y W next hl hJ hd hn
    cases hw : (!(((!E) || ((!E) && (!WN))) || (!P))) with
    | true =>
      refine Or.inl ⟨wanted_gv_yes (j := 27) (d := 34) (x := true) (z := (((!E) || ((!E) && (!WN))) || (!P))) rfl rfl rfl ((hl.1 27 34 (by kernel_rfl) (by kernel_rfl)).trans (congrArg some ((show y 27 = .bool (((!E) || ((!E) && (!WN))) || (!P)) from hd 27 (by kernel_rfl)).trans (gv_one _).symm))) ((show ∀ E WN P : Bool, (!(((!E) || ((!E) && (!WN))) || (!P))) = true → (true && ((((!E) || ((!E) && (!WN))) || (!P)) == false)) = true from by decide) E WN P hw), fun ev ec ef hev => ?_⟩
      have e3 : ev (.tmp 3) = .string ⟨#[111]⟩ := hev 3 _ ((hl.2 3 (by kernel_rfl)).trans (by kernel_rfl))
      clear hd hl hev
      replace hw := Lib.hid hw
      replace hJ := Lib.hid hJ
      go_simp
      exact hn _ _ (Below.refl _ _) (gv_t' hw.out rfl)
    | false =>
      exact Or.inr ⟨wanted_gv_no (j := 27) (d := 34) (x := true) (z := (((!E) || ((!E) && (!WN))) || (!P))) rfl rfl rfl ((hl.1 27 34 (by kernel_rfl) (by kernel_rfl)).trans (congrArg some ((show y 27 = .bool (((!E) || ((!E) && (!WN))) || (!P)) from hd 27 (by kernel_rfl)).trans (gv_one _).symm))) ((show ∀ E WN P : Bool, (!(((!E) || ((!E) && (!WN))) || (!P))) = false → (true && ((((!E) || ((!E) && (!WN))) || (!P)) == false)) = false from by decide) E WN P hw), hn _ _ (Below.refl _ _) (gv_f hw).symm⟩
  · intro y W next hl hJ hd hn
    cases hw : (!(((!E) || ((!E) && (!WN))) || (!P))) with
    | true =>
      refine Or.inl ⟨wanted_gv_yes (j := 27) (d := 34) (x := true) (z := (((!E) || ((!E) && (!WN))) || (!P))) rfl rfl rfl ((hl.1 27 34 (by kernel_rfl) (by kernel_rfl)).trans (congrArg some ((show y 27 = .bool (((!E) || ((!E) && (!WN))) || (!P)) from hd 27 (by kernel_rfl)).trans (gv_one _).symm))) ((show ∀ E WN P : Bool, (!(((!E) || ((!E) && (!WN))) || (!P))) = true → (true && ((((!E) || ((!E) && (!WN))) || (!P)) == false)) = true from by decide) E WN P hw), fun ev ec ef hev => ?_⟩
      have e35 : ev (.tmp 35) = .string ⟨#[111]⟩ := hev 35 _ ((hl.1 28 35 (by kernel_rfl) (by kernel_rfl)).trans (congrArg some ((show y 28 = (gv (!(((!E) || ((!E) && (!WN))) || (!P))) (.string ⟨#[111]⟩)) from hd 28 (by kernel_rfl)).trans (gv_t ((show ∀ E WN P : Bool, (!(((!E) || ((!E) && (!WN))) || (!P))) = true → (!(((!E) || ((!E) && (!WN))) || (!P))) = true from by decide) E WN P hw)))))
      clear hd hl hev
      replace hw := Lib.hid hw
      replace hJ := Lib.hid hJ
      go_simp
      refine (specHas_any ⟨#[111]⟩ 112 (by decide) _).mono ?_
      rintro e w' ⟨rfl, rfl⟩
      refine ⟨_, rfl, hn _ _ (Below.refl _ _) (gv_t' hw.out ?_)⟩
      rfl
    | false =>
      exact Or.inr ⟨wanted_gv_no (j := 27) (d := 34) (x := true) (z := (((!E) || ((!E) && (!WN))) || (!P))) rfl rfl rfl ((hl.1 27 34 (by kernel_rfl) (by kernel_rfl)).trans (congrArg some ((show y 27 = .bool (((!E) || ((!E) && (!WN))) || (!P)) from hd 27 (by kernel_rfl)).trans (gv_one _).symm))) ((show ∀ E WN P : Bool, (!(((!E) || ((!E) && (!WN))) || (!P))) = false → (true && ((((!E) || ((!E) && (!WN))) || (!P)) == false)) = false from by decide) E WN P hw), hn _ _ (Below.refl _ _) (gv_f hw).symm⟩
  · intro y W next hl hJ hd hn
    cases hw : (!(((!E) || ((!E) && (!WN))) || (!P))) with
    | true =>
      refine Or.inl ⟨wanted_gv_yes (j := 27) (d := 34) (x := true) (z := (((!E) || ((!E) && (!WN))) || (!P))) rfl rfl rfl ((hl.1 27 34 (by kernel_rfl) (by kernel_rfl)).trans (congrArg some ((show y 27 = .bool (((!E) || ((!E) && (!WN))) || (!P)) from hd 27 (by kernel_rfl)).trans (gv_one _).symm))) ((show ∀ E WN P : Bool, (!(((!E) || ((!E) && (!WN))) || (!P))) = true → (true && ((((!E) || ((!E) && (!WN))) || (!P)) == false)) = true from by decide) E WN P hw), fun ev ec ef hev => ?_⟩
      have e36 : ev (.tmp 36) = .bool false := hev 36 _ ((hl.1 29 36 (by kernel_rfl) (by kernel_rfl)).trans (congrArg some ((show y 29 = (gv (!(((!E) || ((!E) && (!WN))) || (!P))) (.bool false)) from hd 29 (by kernel_rfl)).trans (gv_t ((show ∀ E WN P : Bool, (!(((!E) || ((!E) && (!WN))) || (!P))) = true → (!(((!E) || ((!E) && (!WN))) || (!P))) = true from by decide) E WN P hw)))))
      clear hd hl hev
      replace hw := Lib.hid hw
      replace hJ := Lib.hid hJ
      go_simp
      refine hn _ _ (Below.refl _ _) (gv_t' hw.out ?_)
      (first | rfl | (rfl))
    | false =>
      exact Or.inr ⟨wanted_gv_no (j := 27) (d := 34) (x := true) (z := (((!E) || ((!E) && (!WN))) || (!P))) rfl rfl rfl ((hl.1 27 34 (by kernel_rfl) (by kernel_rfl)).trans (congrArg some ((show y 27 = .bool (((!E) || ((!E) && (!WN))) || (!P)) from hd 27 (by kernel_rfl)).trans (gv_one _).symm))) ((show ∀ E WN P : Bool, (!(((!E) || ((!E) && (!WN))) || (!P))) = false → (true && ((((!E) || ((!E) && (!WN))) || (!P)) == false)) = false from by decide) E WN P hw), hn _ _ (Below.refl _ _) (gv_f hw).symm⟩
  · intro y W next hl hJ hd hn
    cases hw : (!(((!E) || ((!E) && (!WN))) || (!P))) with
    | true =>
      refine Or.inl ⟨wanted_gv_yes (j := 27) (d := 34) (x := true) (z := (((!E) || ((!E) && (!WN))) || (!P))) rfl rfl rfl ((hl.1 27 34 (by kernel_rfl) (by kernel_rfl)).trans (congrArg some ((show y 27 = .bool (((!E) || ((!E) && (!WN))) || (!P)) from hd 27 (by kernel_rfl)).trans (gv_one _).symm))) ((show ∀ E WN P : Bool, (!(((!E) || ((!E) && (!WN))) || (!P))) = true → (true && ((((!E) || ((!E) && (!WN))) || (!P)) == false)) = true from by decide) E WN P hw), fun ev ec ef hev => ?_⟩
      have e37 : ev (.tmp 37) = .bool true := hev 37 _ ((hl.1 30 37 (by kernel_rfl) (by kernel_rfl)).trans (congrArg some ((show y 30 = (gv (!(((!E) || ((!E) && (!WN))) || (!P))) (.bool true)) from hd 30 (by kernel_rfl)).trans (gv_t ((show ∀ E WN P : Bool, (!(((!E) || ((!E) && (!WN))) || (!P))) = true → (!(((!E) || ((!E) && (!WN))) || (!P))) = true from by decide) E WN P hw)))))
      clear hd hl hev
      replace hw := Lib.hid hw
      replace hJ := Lib.hid hJ
      go_simp
      exact hn _ _ (Below.refl _ _) (gv_t' hw.out rfl)
    | false =>
      exact Or.inr ⟨wanted_gv_no (j := 27) (d := 34) (x := true) (z := (((!E) || ((!E) && (!WN))) || (!P))) rfl rfl rfl ((hl.1 27 34 (by kernel_rfl) (by kernel_rfl)).trans (congrArg some ((show y 27 = .bool (((!E) || ((!E) && (!WN))) || (!P)) from hd 27 (by kernel_rfl)).trans (gv_one _).symm))) ((show ∀ E WN P : Bool, (!(((!E) || ((!E) && (!WN))) || (!P))) = false → (true && ((((!E) || ((!E) && (!WN))) || (!P)) == false)) = false from by decide) E WN P hw), hn _ _ (Below.refl _ _) (gv_f hw).symm⟩
  · intro y W next hl hJ hd hn
    cases hw : (!(((!E) || ((!E) && (!WN))) || (!P))) with
    | true =>
      refine Or.inl ⟨wanted_gv_yes (j := 31) (d := 38) (x := (!(((!E) || ((!E) && (!WN))) || (!P)))) (z := true) rfl rfl rfl ((hl.1 31 38 (by kernel_rfl) (by kernel_rfl)).trans (congrArg some (show y 31 = (gv (!(((!E) || ((!E) && (!WN))) || (!P))) (.bool true)) from hd 31 (by kernel_rfl)))) ((show ∀ E WN P : Bool, (!(((!E) || ((!E) && (!WN))) || (!P))) = true → ((!(((!E) || ((!E) && (!WN))) || (!P))) && (true == true)) = true from by decide) E WN P hw), fun ev ec ef hev => ?_⟩
      have e1 : ev (.tmp 1) = .pointer (some ⟨w.heap.size, 0, none⟩) := hev 1 _ ((hl.2 1 (by kernel_rfl)).trans (by kernel_rfl))
      clear hd hl hev
      replace hw := Lib.hid hw
      replace hJ := Lib.hid hJ
      go_simp
      exact hn _ _ (Below.refl _ _) (gv_t' hw.out rfl)
    | false =>
      exact Or.inr ⟨wanted_gv_no (j := 31) (d := 38) (x := (!(((!E) || ((!E) && (!WN))) || (!P)))) (z := true) rfl rfl rfl ((hl.1 31 38 (by kernel_rfl) (by kernel_rfl)).trans (congrArg some (show y 31 = (gv (!(((!E) || ((!E) && (!WN))) || (!P))) (.bool true)) from hd 31 (by kernel_rfl)))) ((show ∀ E WN P : Bool, (!(((!E) || ((!E) && (!WN))) || (!P))) = false → ((!(((!E) || ((!E) && (!WN))) || (!P))) && (true == true)) = false from by decide) E WN P hw), hn _ _ (Below.refl _ _) (gv_f hw).symm⟩
  · intro y W next hl hJ hd hn
    cases hw : (!(((!E) || ((!E) && (!WN))) || (!P))) with
    | true =>
      refine Or.inl ⟨wanted_gv_yes (j := 31) (d := 38) (x := (!(((!E) || ((!E) && (!WN))) || (!P)))) (z := true) rfl rfl rfl ((hl.1 31 38 (by kernel_rfl) (by kernel_rfl)).trans (congrArg some (show y 31 = (gv (!(((!E) || ((!E) && (!WN))) || (!P))) (.bool true)) from hd 31 (by kernel_rfl)))) ((show ∀ E WN P : Bool, (!(((!E) || ((!E) && (!WN))) || (!P))) = true → ((!(((!E) || ((!E) && (!WN))) || (!P))) && (true == true)) = true from by decide) E WN P hw), fun ev ec ef hev => ?_⟩
      have e39 : ev (.tmp 39) = .pointer (some ⟨w.heap.size, 5, none⟩) := hev 39 _ ((hl.1 32 39 (by kernel_rfl) (by kernel_rfl)).trans (congrArg some ((show y 32 = (gv (!(((!E) || ((!E) && (!WN))) || (!P))) (.pointer (some ⟨w.heap.size, 5, none⟩))) from hd 32 (by kernel_rfl)).trans (gv_t ((show ∀ E WN P : Bool, (!(((!E) || ((!E) && (!WN))) || (!P))) = true → (!(((!E) || ((!E) && (!WN))) || (!P))) = true from by decide) E WN P hw)))))
      clear hd hl hev
      replace hw := Lib.hid hw
      obtain ⟨x0, x1, x2, x3, x4, x5, -⟩ := (hk.out.below hJ hk.out.lt).six
      replace hJ := Lib.hid hJ
      go_simp
      exact hn _ _ (Below.refl _ _) (gv_t' hw.out rfl)
    | false =>
      exact Or.inr ⟨wanted_gv_no (j := 31) (d := 38) (x := (!(((!E) || ((!E) && (!WN))) || (!P)))) (z := true) rfl rfl rfl ((hl.1 31 38 (by kernel_rfl) (by kernel_rfl)).trans (congrArg some (show y 31 = (gv (!(((!E) || ((!E) && (!WN))) || (!P))) (.bool true)) from hd 31 (by kernel_rfl)))) ((show ∀ E WN P : Bool, (!(((!E) || ((!E) && (!WN))) || (!P))) = false → ((!(((!E) || ((!E) && (!WN))) || (!P))) && (true == true)) = false from by decide) E WN P hw), hn _ _ (Below.refl _ _) (gv_f hw).symm⟩
  · intro y W next hl hJ hd hn
    cases hw : (!(((!E) || ((!E) && (!WN))) || (!P))) with
    | true =>
      refine Or.inl ⟨wanted_gv_yes (j := 31) (d := 38) (x := (!(((!E) || ((!E) && (!WN))) || (!P)))) (z := true) rfl rfl rfl ((hl.1 31 38 (by kernel_rfl) (by kernel_rfl)).trans (congrArg some (show y 31 = (gv (!(((!E) || ((!E) && (!WN))) || (!P))) (.bool true)) from hd 31 (by kernel_rfl)))) ((show ∀ E WN P : Bool, (!(((!E) || ((!E) && (!WN))) || (!P))) = true → ((!(((!E) || ((!E) && (!WN))) || (!P))) && (true == true)) = true from by decide) E WN P hw), fun ev ec ef hev => ?_⟩
      have e40 : ev (.tmp 40) = .slice A n cap := hev 40 _ ((hl.1 33 40 (by kernel_rfl) (by kernel_rfl)).trans (congrArg some ((show y 33 = (gv (!(((!E) || ((!E) && (!WN))) || (!P))) (.slice A n cap)) from hd 33 (by kernel_rfl)).trans (gv_t ((show ∀ E WN P : Bool, (!(((!E) || ((!E) && (!WN))) || (!P))) = true → (!(((!E) || ((!E) && (!WN))) || (!P))) = true from by decide) E WN P hw)))))
      clear hd hl hev
      replace hw := Lib.hid hw
      replace hJ := Lib.hid hJ
      go_simp
      exact hn _ _ (Below.refl _ _) (gv_t' hw.out rfl)
    | false =>
      exact Or.inr ⟨wanted_gv_no (j := 31) (d := 38) (x := (!(((!E) || ((!E) && (!WN))) || (!P)))) (z := true) rfl rfl rfl ((hl.1 31 38 (by kernel_rfl) (by kernel_rfl)).trans (congrArg some (show y 31 = (gv (!(((!E) || ((!E) && (!WN))) || (!P))) (.bool true)) from hd 31 (by kernel_rfl)))) ((show ∀ E WN P : Bool, (!(((!E) || ((!E) && (!WN))) || (!P))) = false → ((!(((!E) || ((!E) && (!WN))) || (!P))) && (true == true)) = false from by decide) E WN P hw), hn _ _ (Below.refl _ _) (gv_f hw).symm⟩
  · intro y W next hl hJ hd hn
    cases hw : (!(((!E) || ((!E) && (!WN))) || (!P))) with
    | true =>
      refine Or.inl ⟨wanted_gv_yes (j := 31) (d := 38) (x := (!(((!E) || ((!E) && (!WN))) || (!P)))) (z := true) rfl rfl rfl ((hl.1 31 38 (by kernel_rfl) (by kernel_rfl)).trans (congrArg some (show y 31 = (gv (!(((!E) || ((!E) && (!WN))) || (!P))) (.bool true)) from hd 31 (by kernel_rfl)))) ((show ∀ E WN P : Bool, (!(((!E) || ((!E) && (!WN))) || (!P))) = true → ((!(((!E) || ((!E) && (!WN))) || (!P))) && (true == true)) = true from by decide) E WN P hw), fun ev ec ef hev => ?_⟩
      have e41 : ev (.tmp 41) = .int .i64 (n : Int) := hev 41 _ ((hl.1 34 41 (by kernel_rfl) (by kernel_rfl)).trans (congrArg some ((show y 34 = (gv (!(((!E) || ((!E) && (!WN))) || (!P))) (.int .i64 (n : Int))) from hd 34 (by kernel_rfl)).trans (gv_t ((show ∀ E WN P : Bool, (!(((!E) || ((!E) && (!WN))) || (!P))) = true → (!(((!E) || ((!E) && (!WN))) || (!P))) = true from by decide) E WN P hw)))))
      clear hd hl hev
      replace hw := Lib.hid hw
      replace hJ := Lib.hid hJ
      go_simp
      refine hn _ _ (Below.refl _ _) (gv_t' hw.out ?_)
      exact congrArg Value.bool hL2.out
    | false =>
      exact Or.inr ⟨wanted_gv_no (j := 31) (d := 38) (x := (!(((!E) || ((!E) && (!WN))) || (!P)))) (z := true) rfl rfl rfl ((hl.1 31 38 (by kernel_rfl) (by kernel_rfl)).trans (congrArg some (show y 31 = (gv (!(((!E) || ((!E) && (!WN))) || (!P))) (.bool true)) from hd 31 (by kernel_rfl)))) ((show ∀ E WN P : Bool, (!(((!E) || ((!E) && (!WN))) || (!P))) = false → ((!(((!E) || ((!E) && (!WN))) || (!P))) && (true == true)) = false from by decide) E WN P hw), hn _ _ (Below.refl _ _) (gv_f hw).symm⟩
  · intro y W next hl hJ hd hn
    cases hw : (!(((!E) || ((!E) && (!WN))) || (!P))) with
    | true =>
      refine Or.inl ⟨wanted_gv_yes (j := 27) (d := 34) (x := true) (z := (((!E) || ((!E) && (!WN))) || (!P))) rfl rfl rfl ((hl.1 27 34 (by kernel_rfl) (by kernel_rfl)).trans (congrArg some ((show y 27 = .bool (((!E) || ((!E) && (!WN))) || (!P)) from hd 27 (by kernel_rfl)).trans (gv_one _).symm))) ((show ∀ E WN P : Bool, (!(((!E) || ((!E) && (!WN))) || (!P))) = true → (true && ((((!E) || ((!E) && (!WN))) || (!P)) == false)) = true from by decide) E WN P hw), fun ev ec ef hev => ?_⟩
      have e38 : ev (.tmp 38) = .bool true := hev 38 _ ((hl.1 31 38 (by kernel_rfl) (by kernel_rfl)).trans (congrArg some ((show y 31 = (gv (!(((!E) || ((!E) && (!WN))) || (!P))) (.bool true)) from hd 31 (by kernel_rfl)).trans (gv_t ((show ∀ E WN P : Bool, (!(((!E) || ((!E) && (!WN))) || (!P))) = true → (!(((!E) || ((!E) && (!WN))) || (!P))) = true from by decide) E WN P hw)))))
      have e42 : ev (.tmp 42) = .bool L := hev 42 _ ((hl.1 35 42 (by kernel_rfl) (by kernel_rfl)).trans (congrArg some ((show y 35 = (gv (!(((!E) || ((!E) && (!WN))) || (!P))) (.bool L)) from hd 35 (by kernel_rfl)).trans (gv_t ((show ∀ E WN P : Bool, (!(((!E) || ((!E) && (!WN))) || (!P))) = true → (!(((!E) || ((!E) && (!WN))) || (!P))) = true from by decide) E WN P hw)))))
      clear hd hl hev
      replace hw := Lib.hid hw
      replace hJ := Lib.hid hJ
      go_simp
      refine hn _ _ (Below.refl _ _) (gv_t' hw.out ?_)
      (first | rfl | (cases L <;> rfl))
    | false =>
      exact Or.inr ⟨wanted_gv_no (j := 27) (d := 34) (x := true) (z := (((!E) || ((!E) && (!WN))) || (!P))) rfl rfl rfl ((hl.1 27 34 (by kernel_rfl) (by kernel_rfl)).trans (congrArg some ((show y 27 = .bool (((!E) || ((!E) && (!WN))) || (!P)) from hd 27 (by kernel_rfl)).trans (gv_one _).symm))) ((show ∀ E WN P : Bool, (!(((!E) || ((!E) && (!WN))) || (!P))) = false → (true && ((((!E) || ((!E) && (!WN))) || (!P)) == false)) = false from by decide) E WN P hw), hn _ _ (Below.refl _ _) (gv_f hw).symm⟩
  · intro y W next hl hJ hd hn
    refine Or.inl ⟨wanted_free rfl, fun ev ec ef hev => ?_⟩
    have e34 : ev (.tmp 34) = .bool (((!E) || ((!E) && (!WN))) || (!P)) := hev 34 _ ((hl.1 27 34 (by kernel_rfl) (by kernel_rfl)).trans (congrArg some (show y 27 = (.bool (((!E) || ((!E) && (!WN))) || (!P))) from hd 27 (by kernel_rfl))))
    cases hc : (((!E) || ((!E) && (!WN))) || (!P)) with
    | true =>
      rw [hc] at e34
      clear hd hl hev
      replace hc := Lib.hid hc
      replace hJ := Lib.hid hJ
      go_simp
      refine hn _ _ (Below.refl _ _) ?_
      exact congrArg Value.bool ((show ∀ E WN P L : Bool, (((!E) || ((!E) && (!WN))) || (!P)) = true → true = ((((!E) || ((!E) && (!WN))) || (!P)) || L) from by decide) E WN P L hc.out)
    | false =>
      rw [hc] at e34
      have e43 : ev (.tmp 43) = .bool L := hev 43 _ ((hl.1 36 43 (by kernel_rfl) (by kernel_rfl)).trans (congrArg some ((show y 36 = (gv (!(((!E) || ((!E) && (!WN))) || (!P))) (.bool L)) from hd 36 (by kernel_rfl)).trans (gv_t ((show ∀ E WN P : Bool, (((!E) || ((!E) && (!WN))) || (!P)) = false → (!(((!E) || ((!E) && (!WN))) || (!P))) = true from by decide) E WN P hc)))))
      clear hd hl hev
      replace hc := Lib.hid hc
      replace hJ := Lib.hid hJ
      go_simp
      refine hn _ _ (Below.refl _ _) ?_
      exact congrArg Value.bool ((show ∀ E WN P L : Bool, (((!E) || ((!E) && (!WN))) || (!P)) = false → L = ((((!E) || ((!E) && (!WN))) || (!P)) || L) from by decide) E WN P L hc.out)
  · intro y W next hl hJ hd hn
    refine Or.inl ⟨wanted_free rfl, fun ev ec ef hev => ?_⟩
    have e44 : ev (.tmp 44) = .bool ((((!E) || ((!E) && (!WN))) || (!P)) || L) := hev 44 _ ((hl.1 37 44 (by kernel_rfl) (by kernel_rfl)).trans (congrArg some (show y 37 = (.bool ((((!E) || ((!E) && (!WN))) || (!P)) || L)) from hd 37 (by kernel_rfl))))
    clear hd hl hev
    replace hJ := Lib.hid hJ
    go_simp
    exact hn _ _ (Below.refl _ _) rfl
  · intro y W next hl hJ hd hn
    cases hw : (!((((!E) || ((!E) && (!WN))) || (!P)) || L)) with
    | true =>
      refine Or.inl ⟨wanted_gv_yes (j := 38) (d := 45) (x := true) (z := ((((!E) || ((!E) && (!WN))) || (!P)) || L)) rfl rfl rfl ((hl.1 38 45 (by kernel_rfl) (by kernel_rfl)).trans (congrArg some ((show y 38 = .bool ((((!E) || ((!E) && (!WN))) || (!P)) || L) from hd 38 (by kernel_rfl)).trans (gv_one _).symm))) ((show ∀ E WN P L : Bool, (!((((!E) || ((!E) && (!WN))) || (!P)) || L)) = true → (true && (((((!E) || ((!E) && (!WN))) || (!P)) || L) == false)) = true from by decide) E WN P L hw), fun ev ec ef hev => ?_⟩
      have e1 : ev (.tmp 1) = .pointer (some ⟨w.heap.size, 0, none⟩) := hev 1 _ ((hl.2 1 (by kernel_rfl)).trans (by kernel_rfl))
      clear hd hl hev
      replace hw := Lib.hid hw
      replace hJ := Lib.hid hJ
      go_simp
      exact hn _ _ (Below.refl _ _) (gv_t' hw.out rfl)
    | false =>
      exact Or.inr ⟨wanted_gv_no (j := 38) (d := 45) (x := true) (z := ((((!E) || ((!E) && (!WN))) || (!P)) || L)) rfl rfl rfl ((hl.1 38 45 (by kernel_rfl) (by kernel_rfl)).trans (congrArg some ((show y 38 = .bool ((((!E) || ((!E) && (!WN))) || (!P)) || L) from hd 38 (by kernel_rfl)).trans (gv_one _).symm))) ((show ∀ E WN P L : Bool, (!((((!E) || ((!E) && (!WN))) || (!P)) || L)) = false → (true && (((((!E) || ((!E) && (!WN))) || (!P)) || L) == false)) = false from by decide) E WN P L hw), hn _ _ (Below.refl _ _) (gv_f hw).symm⟩
  · intro y W next hl hJ hd hn
    cases hw : (!((((!E) || ((!E) && (!WN))) || (!P)) || L)) with
    | true =>
      refine Or.inl ⟨wanted_gv_yes (j := 38) (d := 45) (x := true) (z := ((((!E) || ((!E) && (!WN))) || (!P)) || L)) rfl rfl rfl ((hl.1 38 45 (by kernel_rfl) (by kernel_rfl)).trans (congrArg some ((show y 38 = .bool ((((!E) || ((!E) && (!WN))) || (!P)) || L) from hd 38 (by kernel_rfl)).trans (gv_one _).symm))) ((show ∀ E WN P L : Bool, (!((((!E) || ((!E) && (!WN))) || (!P)) || L)) = true → (true && (((((!E) || ((!E) && (!WN))) || (!P)) || L) == false)) = true from by decide) E WN P L hw), fun ev ec ef hev => ?_⟩
      have e46 : ev (.tmp 46) = .pointer (some ⟨w.heap.size, 4, none⟩) := hev 46 _ ((hl.1 39 46 (by kernel_rfl) (by kernel_rfl)).trans (congrArg some ((show y 39 = (gv (!((((!E) || ((!E) && (!WN))) || (!P)) || L)) (.pointer (some ⟨w.heap.size, 4, none⟩))) from hd 39 (by kernel_rfl)).trans (gv_t ((show ∀ E WN P L : Bool, (!((((!E) || ((!E) && (!WN))) || (!P)) || L)) = true → (!((((!E) || ((!E) && (!WN))) || (!P)) || L)) = true from by decide) E WN P L hw)))))
      clear hd hl hev
      replace hw := Lib.hid hw
      obtain ⟨x0, x1, x2, x3, x4, x5, -⟩ := (hk.out.below hJ hk.out.lt).six
      replace hJ := Lib.hid hJ
      go_simp
      exact hn _ _ (Below.refl _ _) (gv_t' hw.out rfl)
    | false =>
      exact Or.inr ⟨wanted_gv_no (j := 38) (d := 45) (x := true) (z := ((((!E) || ((!E) && (!WN))) || (!P)) || L)) rfl rfl rfl ((hl.1 38 45 (by kernel_rfl) (by kernel_rfl)).trans (congrArg some ((show y 38 = .bool ((((!E) || ((!E) && (!WN))) || (!P)) || L) from hd 38 (by kernel_rfl)).trans (gv_one _).symm))) ((show ∀ E WN P L : Bool, (!((((!E) || ((!E) && (!WN))) || (!P)) || L)) = false → (true && (((((!E) || ((!E) && (!WN))) || (!P)) || L) == false)) = false from by decide) E WN P L hw), hn _ _ (Below.refl _ _) (gv_f hw).symm⟩
  · intro y W next hl hJ hd hn
    cases hw : (!((((!E) || ((!E) && (!WN))) || (!P)) || L)) with
    | true =>
      refine Or.inl ⟨wanted_gv_yes (j := 38) (d := 45) (x := true) (z := ((((!E) || ((!E) && (!WN))) || (!P)) || L)) rfl rfl rfl ((hl.1 38 45 (by kernel_rfl) (by kernel_rfl)).trans (congrArg some ((show y 38 = .bool ((((!E) || ((!E) && (!WN))) || (!P)) || L) from hd 38 (by kernel_rfl)).trans (gv_one _).symm))) ((show ∀ E WN P L : Bool, (!((((!E) || ((!E) && (!WN))) || (!P)) || L)) = true → (true && (((((!E) || ((!E) && (!WN))) || (!P)) || L) == false)) = true from by decide) E WN P L hw), fun ev ec ef hev => ?_⟩
      have e47 : ev (.tmp 47) = .int .i64 x.dest := hev 47 _ ((hl.1 40 47 (by kernel_rfl) (by kernel_rfl)).trans (congrArg some ((show y 40 = (gv (!((((!E) || ((!E) && (!WN))) || (!P)) || L)) (.int .i64 x.dest)) from hd 40 (by kernel_rfl)).trans (gv_t ((show ∀ E WN P L : Bool, (!((((!E) || ((!E) && (!WN))) || (!P)) || L)) = true → (!((((!E) || ((!E) && (!WN))) || (!P)) || L)) = true from by decide) E WN P L hw)))))
      clear hd hl hev
      replace hw := Lib.hid hw
      replace hJ := Lib.hid hJ
      go_simp
      refine (is_any x.dest 0 40 _).mono ?_
      rintro e w' ⟨rfl, rfl⟩
      refine ⟨_, rfl, hn _ _ (Below.refl _ _) (gv_t' hw.out ?_)⟩
      exact congrArg Value.bool hD.out
    | false =>
      exact Or.inr ⟨wanted_gv_no (j := 38) (d := 45) (x := true) (z := ((((!E) || ((!E) && (!WN))) || (!P)) || L)) rfl rfl rfl ((hl.1 38 45 (by kernel_rfl) (by kernel_rfl)).trans (congrArg some ((show y 38 = .bool ((((!E) || ((!E) && (!WN))) || (!P)) || L) from hd 38 (by kernel_rfl)).trans (gv_one _).symm))) ((show ∀ E WN P L : Bool, (!((((!E) || ((!E) && (!WN))) || (!P)) || L)) = false → (true && (((((!E) || ((!E) && (!WN))) || (!P)) || L) == false)) = false from by decide) E WN P L hw), hn _ _ (Below.refl _ _) (gv_f hw).symm⟩
  · intro y W next hl hJ hd hn
    cases hw : (!((((!E) || ((!E) && (!WN))) || (!P)) || L)) with
    | true =>
      refine Or.inl ⟨wanted_gv_yes (j := 38) (d := 45) (x := true) (z := ((((!E) || ((!E) && (!WN))) || (!P)) || L)) rfl rfl rfl ((hl.1 38 45 (by kernel_rfl) (by kernel_rfl)).trans (congrArg some ((show y 38 = .bool ((((!E) || ((!E) && (!WN))) || (!P)) || L) from hd 38 (by kernel_rfl)).trans (gv_one _).symm))) ((show ∀ E WN P L : Bool, (!((((!E) || ((!E) && (!WN))) || (!P)) || L)) = true → (true && (((((!E) || ((!E) && (!WN))) || (!P)) || L) == false)) = true from by decide) E WN P L hw), fun ev ec ef hev => ?_⟩
      have e48 : ev (.tmp 48) = .bool D := hev 48 _ ((hl.1 41 48 (by kernel_rfl) (by kernel_rfl)).trans (congrArg some ((show y 41 = (gv (!((((!E) || ((!E) && (!WN))) || (!P)) || L)) (.bool D)) from hd 41 (by kernel_rfl)).trans (gv_t ((show ∀ E WN P L : Bool, (!((((!E) || ((!E) && (!WN))) || (!P)) || L)) = true → (!((((!E) || ((!E) && (!WN))) || (!P)) || L)) = true from by decide) E WN P L hw)))))
      clear hd hl hev
      replace hw := Lib.hid hw
      replace hJ := Lib.hid hJ
      go_simp
      refine hn _ _ (Below.refl _ _) (gv_t' hw.out ?_)
      (first | rfl | (cases D <;> rfl))
    | false =>
      exact Or.inr ⟨wanted_gv_no (j := 38) (d := 45) (x := true) (z := ((((!E) || ((!E) && (!WN))) || (!P)) || L)) rfl rfl rfl ((hl.1 38 45 (by kernel_rfl) (by kernel_rfl)).trans (congrArg some ((show y 38 = .bool ((((!E) || ((!E) && (!WN))) || (!P)) || L) from hd 38 (by kernel_rfl)).trans (gv_one _).symm))) ((show ∀ E WN P L : Bool, (!((((!E) || ((!E) && (!WN))) || (!P)) || L)) = false → (true && (((((!E) || ((!E) && (!WN))) || (!P)) || L) == false)) = false from by decide) E WN P L hw), hn _ _ (Below.refl _ _) (gv_f hw).symm⟩
  · intro y W next hl hJ hd hn
    refine Or.inl ⟨wanted_free rfl, fun ev ec ef hev => ?_⟩
    have e45 : ev (.tmp 45) = .bool ((((!E) || ((!E) && (!WN))) || (!P)) || L) := hev 45 _ ((hl.1 38 45 (by kernel_rfl) (by kernel_rfl)).trans (congrArg some (show y 38 = (.bool ((((!E) || ((!E) && (!WN))) || (!P)) || L)) from hd 38 (by kernel_rfl))))
    cases hc : ((((!E) || ((!E) && (!WN))) || (!P)) || L) with
    | true =>
      rw [hc] at e45
      clear hd hl hev
      replace hc := Lib.hid hc
      replace hJ := Lib.hid hJ
      go_simp
      refine hn _ _ (Below.refl _ _) ?_
      exact congrArg Value.bool ((show ∀ E WN P L D : Bool, ((((!E) || ((!E) && (!WN))) || (!P)) || L) = true → true = (((((!E) || ((!E) && (!WN))) || (!P)) || L) || (!D)) from by decide) E WN P L D hc.out)
    | false =>
      rw [hc] at e45
      have e49 : ev (.tmp 49) = .bool (!D) := hev 49 _ ((hl.1 42 49 (by kernel_rfl) (by kernel_rfl)).trans (congrArg some ((show y 42 = (gv (!((((!E) || ((!E) && (!WN))) || (!P)) || L)) (.bool (!D))) from hd 42 (by kernel_rfl)).trans (gv_t ((show ∀ E WN P L : Bool, ((((!E) || ((!E) && (!WN))) || (!P)) || L) = false → (!((((!E) || ((!E) && (!WN))) || (!P)) || L)) = true from by decide) E WN P L hc)))))
      clear hd hl hev
      replace hc := Lib.hid hc
      replace hJ := Lib.hid hJ
      go_simp
      refine hn _ _ (Below.refl _ _) ?_
      exact congrArg Value.bool ((show ∀ E WN P L D : Bool, ((((!E) || ((!E) && (!WN))) || (!P)) || L) = false → (!D) = (((((!E) || ((!E) && (!WN))) || (!P)) || L) || (!D)) from by decide) E WN P L D hc.out)
  · intro y W next hl hJ hd hn
    refine Or.inl ⟨wanted_free rfl, fun ev ec ef hev => ?_⟩
    have e50 : ev (.tmp 50) = .bool (((((!E) || ((!E) && (!WN))) || (!P)) || L) || (!D)) := hev 50 _ ((hl.1 43 50 (by kernel_rfl) (by kernel_rfl)).trans (congrArg some (show y 43 = (.bool (((((!E) || ((!E) && (!WN))) || (!P)) || L) || (!D))) from hd 43 (by kernel_rfl))))
    clear hd hl hev
    replace hJ := Lib.hid hJ
    go_simp
    exact hn _ _ (Below.refl _ _) rfl
  · intro y W next hl hJ hd hn
    cases hw : (!(((((!E) || ((!E) && (!WN))) || (!P)) || L) || (!D))) with
    | true =>
      refine Or.inl ⟨wanted_gv_yes (j := 44) (d := 51) (x := true) (z := (((((!E) || ((!E) && (!WN))) || (!P)) || L) || (!D))) rfl rfl rfl ((hl.1 44 51 (by kernel_rfl) (by kernel_rfl)).trans (congrArg some ((show y 44 = .bool (((((!E) || ((!E) && (!WN))) || (!P)) || L) || (!D)) from hd 44 (by kernel_rfl)).trans (gv_one _).symm))) ((show ∀ E WN P L D : Bool, (!(((((!E) || ((!E) && (!WN))) || (!P)) || L) || (!D))) = true → (true && ((((((!E) || ((!E) && (!WN))) || (!P)) || L) || (!D)) == false)) = true from by decide) E WN P L D hw), fun ev ec ef hev => ?_⟩
      have e3 : ev (.tmp 3) = .string ⟨#[111]⟩ := hev 3 _ ((hl.2 3 (by kernel_rfl)).trans (by kernel_rfl))
      clear hd hl hev
      replace hw := Lib.hid hw
      replace hJ := Lib.hid hJ
      go_simp
      exact hn _ _ (Below.refl _ _) (gv_t' hw.out rfl)
    | false =>
      exact Or.inr ⟨wanted_gv_no (j := 44) (d := 51) (x := true) (z := (((((!E) || ((!E) && (!WN))) || (!P)) || L) || (!D))) rfl rfl rfl ((hl.1 44 51 (by kernel_rfl) (by kernel_rfl)).trans (congrArg some ((show y 44 = .bool (((((!E) || ((!E) && (!WN))) || (!P)) || L) || (!D)) from hd 44 (by kernel_rfl)).trans (gv_one _).symm))) ((show ∀ E WN P L D : Bool, (!(((((!E) || ((!E) && (!WN))) || (!P)) || L) || (!D))) = false → (true && ((((((!E) || ((!E) && (!WN))) || (!P)) || L) || (!D)) == false)) = false from by decide) E WN P L D hw), hn _ _ (Below.refl _ _) (gv_f hw).symm⟩
  · intro y W next hl hJ hd hn
    cases hw : (!(((((!E) || ((!E) && (!WN))) || (!P)) || L) || (!D))) with
    | true =>
      refine Or.inl ⟨wanted_gv_yes (j := 44) (d := 51) (x := true) (z := (((((!E) || ((!E) && (!WN))) || (!P)) || L) || (!D))) rfl rfl rfl ((hl.1 44 51 (by kernel_rfl) (by kernel_rfl)).trans (congrArg some ((show y 44 = .bool (((((!E) || ((!E) && (!WN))) || (!P)) || L) || (!D)) from hd 44 (by kernel_rfl)).trans (gv_one _).symm))) ((show ∀ E WN P L D : Bool, (!(((((!E) || ((!E) && (!WN))) || (!P)) || L) || (!D))) = true → (true && ((((((!E) || ((!E) && (!WN))) || (!P)) || L) || (!D)) == false)) = true from by decide) E WN P L D hw), fun ev ec ef hev => ?_⟩
      have e52 : ev (.tmp 52) = .string ⟨#[111]⟩ := hev 52 _ ((hl.1 45 52 (by kernel_rfl) (by kernel_rfl)).trans (congrArg some ((show y 45 = (gv (!(((((!E) || ((!E) && (!WN))) || (!P)) || L) || (!D))) (.string ⟨#[111]⟩)) from hd 45 (by kernel_rfl)).trans (gv_t ((show ∀ E WN P L D : Bool, (!(((((!E) || ((!E) && (!WN))) || (!P)) || L) || (!D))) = true → (!(((((!E) || ((!E) && (!WN))) || (!P)) || L) || (!D))) = true from by decide) E WN P L D hw)))))
      clear hd hl hev
      replace hw := Lib.hid hw
      replace hJ := Lib.hid hJ
      go_simp
      refine (specHas_any ⟨#[111]⟩ 111 (by decide) _).mono ?_
      rintro e w' ⟨rfl, rfl⟩
      refine ⟨_, rfl, hn _ _ (Below.refl _ _) (gv_t' hw.out ?_)⟩
      rfl
    | false =>
      exact Or.inr ⟨wanted_gv_no (j := 44) (d := 51) (x := true) (z := (((((!E) || ((!E) && (!WN))) || (!P)) || L) || (!D))) rfl rfl rfl ((hl.1 44 51 (by kernel_rfl) (by kernel_rfl)).trans (congrArg some ((show y 44 = .bool (((((!E) || ((!E) && (!WN))) || (!P)) || L) || (!D)) from hd 44 (by kernel_rfl)).trans (gv_one _).symm))) ((show ∀ E WN P L D : Bool, (!(((((!E) || ((!E) && (!WN))) || (!P)) || L) || (!D))) = false → (true && ((((((!E) || ((!E) && (!WN))) || (!P)) || L) || (!D)) == false)) = false from by decide) E WN P L D hw), hn _ _ (Below.refl _ _) (gv_f hw).symm⟩
  · intro y W next hl hJ hd hn
    cases hw : (!(((((!E) || ((!E) && (!WN))) || (!P)) || L) || (!D))) with
    | true =>
      refine Or.inl ⟨wanted_gv_yes (j := 44) (d := 51) (x := true) (z := (((((!E) || ((!E) && (!WN))) || (!P)) || L) || (!D))) rfl rfl rfl ((hl.1 44 51 (by kernel_rfl) (by kernel_rfl)).trans (congrArg some ((show y 44 = .bool (((((!E) || ((!E) && (!WN))) || (!P)) || L) || (!D)) from hd 44 (by kernel_rfl)).trans (gv_one _).symm))) ((show ∀ E WN P L D : Bool, (!(((((!E) || ((!E) && (!WN))) || (!P)) || L) || (!D))) = true → (true && ((((((!E) || ((!E) && (!WN))) || (!P)) || L) || (!D)) == false)) = true from by decide) E WN P L D hw), fun ev ec ef hev => ?_⟩
      have e53 : ev (.tmp 53) = .bool true := hev 53 _ ((hl.1 46 53 (by kernel_rfl) (by kernel_rfl)).trans (congrArg some ((show y 46 = (gv (!(((((!E) || ((!E) && (!WN))) || (!P)) || L) || (!D))) (.bool true)) from hd 46 (by kernel_rfl)).trans (gv_t ((show ∀ E WN P L D : Bool, (!(((((!E) || ((!E) && (!WN))) || (!P)) || L) || (!D))) = true → (!(((((!E) || ((!E) && (!WN))) || (!P)) || L) || (!D))) = true from by decide) E WN P L D hw)))))
      clear hd hl hev
      replace hw := Lib.hid hw
      replace hJ := Lib.hid hJ
      go_simp
      refine hn _ _ (Below.refl _ _) (gv_t' hw.out ?_)
      (first | rfl | (rfl))
    | false =>
      exact Or.inr ⟨wanted_gv_no (j := 44) (d := 51) (x := true) (z := (((((!E) || ((!E) && (!WN))) || (!P)) || L) || (!D))) rfl rfl rfl ((hl.1 44 51 (by kernel_rfl) (by kernel_rfl)).trans (congrArg some ((show y 44 = .bool (((((!E) || ((!E) && (!WN))) || (!P)) || L) || (!D)) from hd 44 (by kernel_rfl)).trans (gv_one _).symm))) ((show ∀ E WN P L D : Bool, (!(((((!E) || ((!E) && (!WN))) || (!P)) || L) || (!D))) = false → (true && ((((((!E) || ((!E) && (!WN))) || (!P)) || L) || (!D)) == false)) = false from by decide) E WN P L D hw), hn _ _ (Below.refl _ _) (gv_f hw).symm⟩
  · intro y W next hl hJ hd hn
    cases hw : (!(((((!E) || ((!E) && (!WN))) || (!P)) || L) || (!D))) with
    | true =>
      refine Or.inl ⟨wanted_gv_yes (j := 44) (d := 51) (x := true) (z := (((((!E) || ((!E) && (!WN))) || (!P)) || L) || (!D))) rfl rfl rfl ((hl.1 44 51 (by kernel_rfl) (by kernel_rfl)).trans (congrArg some ((show y 44 = .bool (((((!E) || ((!E) && (!WN))) || (!P)) || L) || (!D)) from hd 44 (by kernel_rfl)).trans (gv_one _).symm))) ((show ∀ E WN P L D : Bool, (!(((((!E) || ((!E) && (!WN))) || (!P)) || L) || (!D))) = true → (true && ((((((!E) || ((!E) && (!WN))) || (!P)) || L) || (!D)) == false)) = true from by decide) E WN P L D hw), fun ev ec ef hev => ?_⟩
      have e54 : ev (.tmp 54) = .bool false := hev 54 _ ((hl.1 47 54 (by kernel_rfl) (by kernel_rfl)).trans (congrArg some ((show y 47 = (gv (!(((((!E) || ((!E) && (!WN))) || (!P)) || L) || (!D))) (.bool false)) from hd 47 (by kernel_rfl)).trans (gv_t ((show ∀ E WN P L D : Bool, (!(((((!E) || ((!E) && (!WN))) || (!P)) || L) || (!D))) = true → (!(((((!E) || ((!E) && (!WN))) || (!P)) || L) || (!D))) = true from by decide) E WN P L D hw)))))
      clear hd hl hev
      replace hw := Lib.hid hw
      replace hJ := Lib.hid hJ
      go_simp
      exact hn _ _ (Below.refl _ _) (gv_t' hw.out rfl)
    | false =>
      exact Or.inr ⟨wanted_gv_no (j := 44) (d := 51) (x := true) (z := (((((!E) || ((!E) && (!WN))) || (!P)) || L) || (!D))) rfl rfl rfl ((hl.1 44 51 (by kernel_rfl) (by kernel_rfl)).trans (congrArg some ((show y 44 = .bool (((((!E) || ((!E) && (!WN))) || (!P)) || L) || (!D)) from hd 44 (by kernel_rfl)).trans (gv_one _).symm))) ((show ∀ E WN P L D : Bool, (!(((((!E) || ((!E) && (!WN))) || (!P)) || L) || (!D))) = false → (true && ((((((!E) || ((!E) && (!WN))) || (!P)) || L) || (!D)) == false)) = false from by decide) E WN P L D hw), hn _ _ (Below.refl _ _) (gv_f hw).symm⟩
  · intro y W next hl hJ hd hn
    exact Or.inr ⟨wanted_gv_no (j := 48) (d := 55) (x := (!(((((!E) || ((!E) && (!WN))) || (!P)) || L) || (!D)))) (z := false) rfl rfl rfl ((hl.1 48 55 (by kernel_rfl) (by kernel_rfl)).trans (congrArg some (show y 48 = (gv (!(((((!E) || ((!E) && (!WN))) || (!P)) || L) || (!D))) (.bool false)) from hd 48 (by kernel_rfl)))) ((show ∀ E WN P L D : Bool, ((!(((((!E) || ((!E) && (!WN))) || (!P)) || L) || (!D))) && (false == true)) = false from by decide) E WN P L D), hn _ _ (Below.refl _ _) rfl⟩
  · intro y W next hl hJ hd hn
    exact Or.inr ⟨wanted_gv_no (j := 48) (d := 55) (x := (!(((((!E) || ((!E) && (!WN))) || (!P)) || L) || (!D)))) (z := false) rfl rfl rfl ((hl.1 48 55 (by kernel_rfl) (by kernel_rfl)).trans (congrArg some (show y 48 = (gv (!(((((!E) || ((!E) && (!WN))) || (!P)) || L) || (!D))) (.bool false)) from hd 48 (by kernel_rfl)))) ((show ∀ E WN P L D : Bool, ((!(((((!E) || ((!E) && (!WN))) || (!P)) || L) || (!D))) && (false == true)) = false from by decide) E WN P L D), hn _ _ (Below.refl _ _) rfl⟩
  · intro y W next hl hJ hd hn
    exact Or.inr ⟨wanted_gv_no (j := 48) (d := 55) (x := (!(((((!E) || ((!E) && (!WN))) || (!P)) || L) || (!D)))) (z := false) rfl rfl rfl ((hl.1 48 55 (by kernel_rfl) (by kernel_rfl)).trans (congrArg some (show y 48 = (gv (!(((((!E) || ((!E) && (!WN))) || (!P)) || L) || (!D))) (.bool false)) from hd 48 (by kernel_rfl)))) ((show ∀ E WN P L D : Bool, ((!(((((!E) || ((!E) && (!WN))) || (!P)) || L) || (!D))) && (false == true)) = false from by decide) E WN P L D), hn _ _ (Below.refl _ _) rfl⟩
  · intro y W next hl hJ hd hn
    cases hw : (!(((((!E) || ((!E) && (!WN))) || (!P)) || L) || (!D))) with
    | true =>
      refine Or.inl ⟨wanted_gv_yes (j := 44) (d := 51) (x := true) (z := (((((!E) || ((!E) && (!WN))) || (!P)) || L) || (!D))) rfl rfl rfl ((hl.1 44 51 (by kernel_rfl) (by kernel_rfl)).trans (congrArg some ((show y 44 = .bool (((((!E) || ((!E) && (!WN))) || (!P)) || L) || (!D)) from hd 44 (by kernel_rfl)).trans (gv_one _).symm))) ((show ∀ E WN P L D : Bool, (!(((((!E) || ((!E) && (!WN))) || (!P)) || L) || (!D))) = true → (true && ((((((!E) || ((!E) && (!WN))) || (!P)) || L) || (!D)) == false)) = true from by decide) E WN P L D hw), fun ev ec ef hev => ?_⟩
      have e55 : ev (.tmp 55) = .bool false := hev 55 _ ((hl.1 48 55 (by kernel_rfl) (by kernel_rfl)).trans (congrArg some ((show y 48 = (gv (!(((((!E) || ((!E) && (!WN))) || (!P)) || L) || (!D))) (.bool false)) from hd 48 (by kernel_rfl)).trans (gv_t ((show ∀ E WN P L D : Bool, (!(((((!E) || ((!E) && (!WN))) || (!P)) || L) || (!D))) = true → (!(((((!E) || ((!E) && (!WN))) || (!P)) || L) || (!D))) = true from by decide) E WN P L D hw)))))
      clear hd hl hev
      replace hw := Lib.hid hw
      replace hJ := Lib.hid hJ
      go_simp
      exact hn _ _ (Below.refl _ _) (gv_t' hw.out rfl)
    | false =>
      exact Or.inr ⟨wanted_gv_no (j := 44) (d := 51) (x := true) (z := (((((!E) || ((!E) && (!WN))) || (!P)) || L) || (!D))) rfl rfl rfl ((hl.1 44 51 (by kernel_rfl) (by kernel_rfl)).trans (congrArg some ((show y 44 = .bool (((((!E) || ((!E) && (!WN))) || (!P)) || L) || (!D)) from hd 44 (by kernel_rfl)).trans (gv_one _).symm))) ((show ∀ E WN P L D : Bool, (!(((((!E) || ((!E) && (!WN))) || (!P)) || L) || (!D))) = false → (true && ((((((!E) || ((!E) && (!WN))) || (!P)) || L) || (!D)) == false)) = false from by decide) E WN P L D hw), hn _ _ (Below.refl _ _) (gv_f hw).symm⟩
  · intro y W next hl hJ hd hn
    refine Or.inl ⟨wanted_free rfl, fun ev ec ef hev => ?_⟩
    have e51 : ev (.tmp 51) = .bool (((((!E) || ((!E) && (!WN))) || (!P)) || L) || (!D)) := hev 51 _ ((hl.1 44 51 (by kernel_rfl) (by kernel_rfl)).trans (congrArg some (show y 44 = (.bool (((((!E) || ((!E) && (!WN))) || (!P)) || L) || (!D))) from hd 44 (by kernel_rfl))))
    cases hc : (((((!E) || ((!E) && (!WN))) || (!P)) || L) || (!D)) with
    | true =>
      rw [hc] at e51
      clear hd hl hev
      replace hc := Lib.hid hc
      replace hJ := Lib.hid hJ
      go_simp
      refine hn _ _ (Below.refl _ _) ?_
      exact congrArg Value.bool ((show ∀ E WN P L D : Bool, (((((!E) || ((!E) && (!WN))) || (!P)) || L) || (!D)) = true → true = (((((!E) || ((!E) && (!WN))) || (!P)) || L) || (!D)) from by decide) E WN P L D hc.out)
    | false =>
      rw [hc] at e51
      have e59 : ev (.tmp 59) = .bool false := hev 59 _ ((hl.1 52 59 (by kernel_rfl) (by kernel_rfl)).trans (congrArg some ((show y 52 = (gv (!(((((!E) || ((!E) && (!WN))) || (!P)) || L) || (!D))) (.bool false)) from hd 52 (by kernel_rfl)).trans (gv_t ((show ∀ E WN P L D : Bool, (((((!E) || ((!E) && (!WN))) || (!P)) || L) || (!D)) = false → (!(((((!E) || ((!E) && (!WN))) || (!P)) || L) || (!D))) = true from by decide) E WN P L D hc)))))
      clear hd hl hev
      replace hc := Lib.hid hc
      replace hJ := Lib.hid hJ
      go_simp
      refine hn _ _ (Below.refl _ _) ?_
      exact congrArg Value.bool ((show ∀ E WN P L D : Bool, (((((!E) || ((!E) && (!WN))) || (!P)) || L) || (!D)) = false → false = (((((!E) || ((!E) && (!WN))) || (!P)) || L) || (!D)) from by decide) E WN P L D hc.out)
  · intro y W3 hb3 hall
    have hy : y 53 = .bool (((((!E) || ((!E) && (!WN))) || (!P)) || L) || (!D)) := hall 53 (by decide)
    replace hk := Lib.hid (hk.out.below hb3 hk.out.lt)
    replace hb := Lib.hid (below_then hb.out hb3 (Nat.le_refl _))
    clear hall hb3
    simp only [lay_cons, lay_nil]
    rw [hy]
    clear hy
    simp only [Act.put, List.setIfInBounds_toArray]
    simp only [List.set_cons_succ, List.set_cons_zero]
    obtain ⟨d0, d1, d2, d3, d4, d5, -⟩ := hk.out.six
    cases hH : (((((!E) || ((!E) && (!WN))) || (!P)) || L) || (!D)) with
    | true =>
      have e2 := Lib.hid (show stmtOk x = false from by
          rw [hform.out, hD.out, hE.out, hL.out]
          exact (show ∀ E WN P L D Z TE NZ : Bool, (E = true → WN = false) → (L = false → P = true) → (Z = false → D = true) → (((((!E) || ((!E) && (!WN))) || (!P)) || L) || (!D)) = true → (D && (E && (TE && (NZ && !L)))) = false from by decide) E WN P L D Z (textless x) (numless x) i1.out i2.out i3.out hH)
      go_wp2
      go_ret
      exact ⟨by rw [e2.out]; rfl, hb.out⟩
    | false =>
      cases tTE : textless x with
      | false =>
        have te := text_no tTE
        have e2 := Lib.hid (show stmtOk x = false from by
            rw [hform.out, hD.out, hE.out, hL.out, tTE]
            exact (show ∀ E WN P L D Z NZ : Bool, (E = true → WN = false) → (L = false → P = true) → (Z = false → D = true) → (((((!E) || ((!E) && (!WN))) || (!P)) || L) || (!D)) = false → (D && (E && (false && (NZ && !L)))) = false from by decide) E WN P L D Z (numless x) i1.out i2.out i3.out hH)
        clear tTE
        go_wp2
        go_ret
        exact ⟨by rw [e2.out]; (first | rfl | exact ret_bool (by simp; omega)), hb.out⟩
      | true =>
        have te := text_yes tTE
        cases tNZ : numless x with
        | false =>
          have nz : (x.num == 0) = false := by simpa [numless] using tNZ
          have e2 := Lib.hid (show stmtOk x = false from by
              rw [hform.out, hD.out, hE.out, hL.out, tTE, tNZ]
              exact (show ∀ E WN P L D Z : Bool, (E = true → WN = false) → (L = false → P = true) → (Z = false → D = true) → (((((!E) || ((!E) && (!WN))) || (!P)) || L) || (!D)) = false → (D && (E && (true && (false && !L)))) = false from by decide) E WN P L D Z  i1.out i2.out i3.out hH)
          clear tTE tNZ
          go_wp2
          go_ret
          exact ⟨by rw [e2.out]; (first | rfl | exact ret_bool (by simp; omega)), hb.out⟩
        | true =>
          have nz : (x.num == 0) = true := by simpa [numless] using tNZ
          have e2 := Lib.hid (show stmtOk x = true from by
              rw [hform.out, hD.out, hE.out, hL.out, tTE, tNZ]
              exact (show ∀ E WN P L D Z : Bool, (E = true → WN = false) → (L = false → P = true) → (Z = false → D = true) → (((((!E) || ((!E) && (!WN))) || (!P)) || L) || (!D)) = false → (D && (E && (true && (true && !L)))) = true from by decide) E WN P L D Z  i1.out i2.out i3.out hH)
          clear tTE tNZ
          go_wp2
          go_ret
          exact ⟨by rw [e2.out]; (first | rfl | exact ret_bool (by simp; omega)), hb.out⟩
end Go.Proofs.Ytejmfpaegkgkjaa
