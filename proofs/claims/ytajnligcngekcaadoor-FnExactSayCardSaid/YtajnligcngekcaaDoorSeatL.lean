/- What may be said: the first secret that is denied; the program's mayLearn and saidTo (by the premise 'Four'), the model's way to it. -/
import Derived.Test.YtajnligcngekcaaDoorSeatJ
import Derived.Test.YtajnligcngekcaaDoorOwn2
import Derived.Test.YtajnligcngekcaaDoorKnownG
import Derived.BigQuiet
import Derived.Deep.QuietTactic
namespace Go.Proofs.YtajnligcngekcaaDoor
open Go.RowKit
/-- Is that bit set? -/
def bitB (M : Int) (k : Nat) : Bool := decide (M / 2 ^ k % 2 = 1)
theorem bit_fits : ∀ (M : Fin 16) (k : Fin 4), (bits .and .i64 M.1 (2 ^ k.1) != 0) = bitB M.1 k.1 ∧ (bits .and .i64 ((M.1 : Int) / 2 ^ k.1) 1 == 0) = !bitB M.1 k.1 := by decide +kernel
theorem bit_impl {M : Int} (hM : 0 ≤ M ∧ M ≤ 15) {k : Nat} (hk : k < 4) : (bits .and .i64 M (2 ^ k) != 0) = bitB M k := by
  obtain ⟨m, rfl⟩ : ∃ m : Nat, M = (m : Int) := ⟨M.toNat, by omega⟩
  exact (bit_fits ⟨m, by omega⟩ ⟨k, hk⟩).1
theorem bit_spec {M : Int} (hM : 0 ≤ M ∧ M ≤ 15) {k : Nat} (hk : k < 4) : (bits .and .i64 (M / 2 ^ k) 1 == 0) = !bitB M k := by
  obtain ⟨m, rfl⟩ : ∃ m : Nat, M = (m : Int) := ⟨M.toNat, by omega⟩
  exact (bit_fits ⟨m, by omega⟩ ⟨k, hk⟩).2
/-- Is it for that one? -/
def forB (n : Int) (v : List Sec) (k : Nat) : Bool := match v[k]? with | some y => y.seat == n | none => false
theorem forB_of {n : Int} {v : List Sec} {k : Nat} (hk : k < v.length) : forB n v k = (v[k].seat == n) := by simp [forB, List.getElem?_eq_getElem hk]
theorem forB_far {n : Int} {v : List Sec} {k : Nat} (hk : ¬ k < v.length) : forB n v k = false := by simp [forB, List.getElem?_eq_none (Nat.le_of_not_lt hk)]
/-- May it be learned there? -/
def learnB (b : Bool) (q n : Int) (v : List Sec) (k : Nat) : Bool := !b && forB n v k && bitB q k
/-- The first of four that is so. -/
def firstF (f : Nat → Bool) : Option Nat := if f 0 = true then some 0 else if f 1 = true then some 1 else if f 2 = true then some 2 else if f 3 = true then some 3 else none
theorem firstF_at {f : Nat → Bool} {k : Nat} (hk : k < 4) (h : ∀ j, j < k → f j = false) (hf : f k = true) : firstF f = some k := by
  rcases (show k = 0 ∨ k = 1 ∨ k = 2 ∨ k = 3 by omega) with rfl | rfl | rfl | rfl
  · simp [firstF, hf]
  · simp [firstF, hf, h 0]
  · simp [firstF, hf, h 0, h 1]
  · simp [firstF, hf, h 0, h 1, h 2]
theorem firstF_none {f : Nat → Bool} (h : ∀ j, j < 4 → f j = false) : firstF f = none := by simp [firstF, h 0, h 1, h 2, h 3]
/-- What is denied: the first mark of M that may not be learned. -/
def denyF (b : Bool) (q n : Int) (v : List Sec) (M : Int) (k : Nat) : Bool := bitB M k && !learnB b q n v k
set_option maxRecDepth 100000 in
set_option maxHeartbeats 8000000 in
theorem mayLearn_any (b o : Bool) (s : ByteArray) (q : Int) (t : ByteArray) (A : Option Addr) (l : List Int) (cap : Nat) (n : Int) (A2 : Option Addr) (m : List Sec) (cap2 : Nat) (k : Nat) (w : World) (hq : 0 ≤ q ∧ q ≤ 15) (hk : k < 4) (hu : Secs w (.slice A2 m.length cap2) m) (hg : Four w) :
    Calls Tryd.prog 46 #[.agg #[.bool b, .bool o, .string s, .int .i64 q, .string t, .slice A l.length cap, .int .i64 n, .slice A2 m.length cap2], .int .i64 (k : Int)] w (LookEnd (learnB b q n m k) w) := by
  have hbel := Lib.hid ((Below.refl w.heap.size w).alloc (Nat.le_refl _) (.cells #[.bool b, .bool o, .string s, .int .i64 q, .string t, .slice A l.length cap, .int .i64 n, .slice A2 m.length cap2] 70))
  cases b with
  | true =>
    have e0 := Lib.hid (show learnB true q n m k = false by simp [learnB])
    go_enter Tryd.func46, Tryd.ntmps46
    go_wp2
    go_ret
    exact LookEnd.of e0.out.symm hbel.out
  | false =>
    by_cases hlt : k < m.length
    · have hlt1 : ¬ (m.length : Int) ≤ (k : Int) := by omega
      have hlt2 : (k : Int) < (m.length : Int) := by omega
      have hk4 : (k : Int) < 4 := by omega
      have hk0 : (0 : Int) ≤ (k : Int) := by omega
      have hu2 := Lib.hid (hu.alloc (.cells #[.bool false, .bool o, .string s, .int .i64 q, .string t, .slice A l.length cap, .int .i64 n, .slice A2 m.length cap2] 70))
      have hg2 := Lib.hid (hg.below ((Below.refl _ _).alloc (Nat.le_refl _) (.cells #[.bool false, .bool o, .string s, .int .i64 q, .string t, .slice A l.length cap, .int .i64 n, .slice A2 m.length cap2] 70)))
      clear hu hg
      obtain ⟨bb, off, rfl, hbk, -, -, -, -⟩ := hu2.out.four k hlt
      obtain ⟨Vw, hV⟩ : ∃ Vw, Vw = w.alloc (.cells #[.bool false, .bool o, .string s, .int .i64 q, .string t, .slice A l.length cap, .int .i64 n, .slice (some ⟨bb, off, none⟩) m.length cap2] 70) := ⟨_, rfl⟩
      have hB := Lib.hid (show Blk Vw w.heap.size 70 [.bool false, .bool o, .string s, .int .i64 q, .string t, .slice A l.length cap, .int .i64 n, .slice (some ⟨bb, off, none⟩) m.length cap2] by rw [hV]; exact heap_alloc_new w _)
      replace hu2 := Lib.hid (show Secs Vw (.slice (some ⟨bb, off, none⟩) m.length cap2) m by rw [hV]; exact hu2.out)
      replace hg2 := Lib.hid (show Four Vw by rw [hV]; exact hg2.out)
      replace hbel := Lib.hid (show Below w.heap.size w Vw by rw [hV]; exact hbel.out)
      cases hse : (m[k].seat == n) with
      | false =>
        have e0 := Lib.hid (show learnB false q n m k = false by simp [learnB, forB_of hlt, hse])
        go_enter Tryd.func46, Tryd.ntmps46
        go_wp2
        rw [← hV]
        clear hV
        refine wp_region_knownG [(.is (.pointer (some ⟨w.heap.size, 7, none⟩))), (.is (.slice (some ⟨bb, off, none⟩) m.length cap2)), (.is (.int .i64 (k : Int))), (.is (.pointer (some ⟨bb, off + k * 4, none⟩))), (.is (.pointer (some ⟨bb, off + k * 4 + 1, none⟩))), (.is (.int .i64 m[k].seat)), (.is (.pointer (some ⟨w.heap.size, 6, none⟩))), (.is (.int .i64 n)), (.is (.bool false)), (.is (.bool false)), .any, .any, .any, .any, .any, .any, .any, .any, (.is (.bool false)), (.is (.bool false))] (by kernel_rfl) (by kernel_rfl) (by kernel_rfl) ⟨?_, ?_, ?_, ?_, ?_, ?_, ?_, ?_, ?_, ?_, ?_, ?_, ?_, ?_, ?_, ?_, ?_, ?_, ?_, ?_, trivial⟩ ?_
        · intro y W next hl hJ hd hn
          refine Or.inl ⟨wanted_free rfl, fun ev ec ef hev eg => ?_⟩
          have e2 : ev (.tmp 2) = .pointer (some ⟨w.heap.size, 0, none⟩) := hev 2 _ ((hl.2 2 (by kernel_rfl)).trans (by kernel_rfl))
          clear hd hl hev
          replace hJ := Lib.hid hJ
          go_simp
          exact hn _ _ (Below.refl _ _) rfl
        · intro y W next hl hJ hd hn
          refine Or.inl ⟨wanted_free rfl, fun ev ec ef hev eg => ?_⟩
          have e15 : ev (.tmp 15) =  (.pointer (some ⟨w.heap.size, 7, none⟩)) := hev 15 _ ((hl.1 0 15 (by kernel_rfl) (by kernel_rfl)).trans (congrArg some (show y 0 =  (.pointer (some ⟨w.heap.size, 7, none⟩)) from hd 0 (by kernel_rfl))))
          clear hd hl hev
          obtain ⟨u0, u1, u2, u3, u4, u5, u6, u7, -⟩ := (hB.out.below hJ hB.out.lt).eight
          replace hJ := Lib.hid hJ
          go_simp
          exact hn _ _ (Below.refl _ _) rfl
        · intro y W next hl hJ hd hn
          refine Or.inl ⟨wanted_free rfl, fun ev ec ef hev eg => ?_⟩
          have e1 : ev (.tmp 1) = .int .i64 (k : Int) := hev 1 _ ((hl.2 1 (by kernel_rfl)).trans (by kernel_rfl))
          clear hd hl hev
          replace hJ := Lib.hid hJ
          go_simp
          exact hn _ _ (Below.refl _ _) rfl
        · intro y W next hl hJ hd hn
          refine Or.inl ⟨wanted_free rfl, fun ev ec ef hev eg => ?_⟩
          have e16 : ev (.tmp 16) =  (.slice (some ⟨bb, off, none⟩) m.length cap2) := hev 16 _ ((hl.1 1 16 (by kernel_rfl) (by kernel_rfl)).trans (congrArg some (show y 1 =  (.slice (some ⟨bb, off, none⟩) m.length cap2) from hd 1 (by kernel_rfl))))
          have e17 : ev (.tmp 17) =  (.int .i64 (k : Int)) := hev 17 _ ((hl.1 2 17 (by kernel_rfl) (by kernel_rfl)).trans (congrArg some (show y 2 =  (.int .i64 (k : Int)) from hd 2 (by kernel_rfl))))
          clear hd hl hev
          replace hJ := Lib.hid hJ
          go_simp
          exact hn _ _ (Below.refl _ _) rfl
        · intro y W next hl hJ hd hn
          refine Or.inl ⟨wanted_free rfl, fun ev ec ef hev eg => ?_⟩
          have e18 : ev (.tmp 18) =  (.pointer (some ⟨bb, off + k * 4, none⟩)) := hev 18 _ ((hl.1 3 18 (by kernel_rfl) (by kernel_rfl)).trans (congrArg some (show y 3 =  (.pointer (some ⟨bb, off + k * 4, none⟩)) from hd 3 (by kernel_rfl))))
          clear hd hl hev
          replace hJ := Lib.hid hJ
          go_simp
          exact hn _ _ (Below.refl _ _) rfl
        · intro y W next hl hJ hd hn
          refine Or.inl ⟨wanted_free rfl, fun ev ec ef hev eg => ?_⟩
          have e19 : ev (.tmp 19) =  (.pointer (some ⟨bb, off + k * 4 + 1, none⟩)) := hev 19 _ ((hl.1 4 19 (by kernel_rfl) (by kernel_rfl)).trans (congrArg some (show y 4 =  (.pointer (some ⟨bb, off + k * 4 + 1, none⟩)) from hd 4 (by kernel_rfl))))
          clear hd hl hev
          obtain ⟨b', off', e', hb', p0, p1, p2, p3⟩ := (hu2.out.below hJ).four k hlt
          cases e'
          replace hJ := Lib.hid hJ
          go_simp
          exact hn _ _ (Below.refl _ _) rfl
        · intro y W next hl hJ hd hn
          refine Or.inl ⟨wanted_free rfl, fun ev ec ef hev eg => ?_⟩
          have e2 : ev (.tmp 2) = .pointer (some ⟨w.heap.size, 0, none⟩) := hev 2 _ ((hl.2 2 (by kernel_rfl)).trans (by kernel_rfl))
          clear hd hl hev
          replace hJ := Lib.hid hJ
          go_simp
          exact hn _ _ (Below.refl _ _) rfl
        · intro y W next hl hJ hd hn
          refine Or.inl ⟨wanted_free rfl, fun ev ec ef hev eg => ?_⟩
          have e21 : ev (.tmp 21) =  (.pointer (some ⟨w.heap.size, 6, none⟩)) := hev 21 _ ((hl.1 6 21 (by kernel_rfl) (by kernel_rfl)).trans (congrArg some (show y 6 =  (.pointer (some ⟨w.heap.size, 6, none⟩)) from hd 6 (by kernel_rfl))))
          clear hd hl hev
          obtain ⟨u0, u1, u2, u3, u4, u5, u6, u7, -⟩ := (hB.out.below hJ hB.out.lt).eight
          replace hJ := Lib.hid hJ
          go_simp
          exact hn _ _ (Below.refl _ _) rfl
        · intro y W next hl hJ hd hn
          refine Or.inl ⟨wanted_free rfl, fun ev ec ef hev eg => ?_⟩
          have e20 : ev (.tmp 20) =  (.int .i64 m[k].seat) := hev 20 _ ((hl.1 5 20 (by kernel_rfl) (by kernel_rfl)).trans (congrArg some (show y 5 =  (.int .i64 m[k].seat) from hd 5 (by kernel_rfl))))
          have e22 : ev (.tmp 22) =  (.int .i64 n) := hev 22 _ ((hl.1 7 22 (by kernel_rfl) (by kernel_rfl)).trans (congrArg some (show y 7 =  (.int .i64 n) from hd 7 (by kernel_rfl))))
          clear hd hl hev
          replace hJ := Lib.hid hJ
          go_simp
          exact hn _ _ (Below.refl _ _) rfl
        · intro y W next hl hJ hd hn
          refine Or.inl ⟨wanted_free rfl, fun ev ec ef hev eg => ?_⟩
          have e23 : ev (.tmp 23) =  (.bool false) := hev 23 _ ((hl.1 8 23 (by kernel_rfl) (by kernel_rfl)).trans (congrArg some (show y 8 =  (.bool false) from hd 8 (by kernel_rfl))))
          clear hd hl hev
          replace hJ := Lib.hid hJ
          go_simp
          exact hn _ _ (Below.refl _ _) rfl
        · intro y W next hl hJ hd hn
          exact Or.inr ⟨wanted_not (j := 9) (d := 24) rfl rfl rfl ((hl.1 9 24 (by kernel_rfl) (by kernel_rfl)).trans (congrArg some (show y 9 = .bool false from hd 9 (by kernel_rfl)))), hn _ _ (Below.refl _ _) trivial⟩
        · intro y W next hl hJ hd hn
          exact Or.inr ⟨wanted_not (j := 9) (d := 24) rfl rfl rfl ((hl.1 9 24 (by kernel_rfl) (by kernel_rfl)).trans (congrArg some (show y 9 = .bool false from hd 9 (by kernel_rfl)))), hn _ _ (Below.refl _ _) trivial⟩
        · intro y W next hl hJ hd hn
          exact Or.inr ⟨wanted_not (j := 9) (d := 24) rfl rfl rfl ((hl.1 9 24 (by kernel_rfl) (by kernel_rfl)).trans (congrArg some (show y 9 = .bool false from hd 9 (by kernel_rfl)))), hn _ _ (Below.refl _ _) trivial⟩
        · intro y W next hl hJ hd hn
          exact Or.inr ⟨wanted_not (j := 9) (d := 24) rfl rfl rfl ((hl.1 9 24 (by kernel_rfl) (by kernel_rfl)).trans (congrArg some (show y 9 = .bool false from hd 9 (by kernel_rfl)))), hn _ _ (Below.refl _ _) trivial⟩
        · intro y W next hl hJ hd hn
          exact Or.inr ⟨wanted_not (j := 9) (d := 24) rfl rfl rfl ((hl.1 9 24 (by kernel_rfl) (by kernel_rfl)).trans (congrArg some (show y 9 = .bool false from hd 9 (by kernel_rfl)))), hn _ _ (Below.refl _ _) trivial⟩
        · intro y W next hl hJ hd hn
          exact Or.inr ⟨wanted_not (j := 9) (d := 24) rfl rfl rfl ((hl.1 9 24 (by kernel_rfl) (by kernel_rfl)).trans (congrArg some (show y 9 = .bool false from hd 9 (by kernel_rfl)))), hn _ _ (Below.refl _ _) trivial⟩
        · intro y W next hl hJ hd hn
          exact Or.inr ⟨wanted_not (j := 9) (d := 24) rfl rfl rfl ((hl.1 9 24 (by kernel_rfl) (by kernel_rfl)).trans (congrArg some (show y 9 = .bool false from hd 9 (by kernel_rfl)))), hn _ _ (Below.refl _ _) trivial⟩
        · intro y W next hl hJ hd hn
          exact Or.inr ⟨wanted_not (j := 9) (d := 24) rfl rfl rfl ((hl.1 9 24 (by kernel_rfl) (by kernel_rfl)).trans (congrArg some (show y 9 = .bool false from hd 9 (by kernel_rfl)))), hn _ _ (Below.refl _ _) trivial⟩
        · intro y W next hl hJ hd hn
          refine Or.inl ⟨wanted_free rfl, fun ev ec ef hev eg => ?_⟩
          have e24 : ev (.tmp 24) =  (.bool false) := hev 24 _ ((hl.1 9 24 (by kernel_rfl) (by kernel_rfl)).trans (congrArg some (show y 9 =  (.bool false) from hd 9 (by kernel_rfl))))
          have e32 := hev 32 _ (hl.1 17 32 (by kernel_rfl) (by kernel_rfl))
          clear hd hl hev
          replace hJ := Lib.hid hJ
          go_simp
          exact hn _ _ (Below.refl _ _) rfl
        · intro y W next hl hJ hd hn
          refine Or.inl ⟨wanted_free rfl, fun ev ec ef hev eg => ?_⟩
          have e33 : ev (.tmp 33) =  (.bool false) := hev 33 _ ((hl.1 18 33 (by kernel_rfl) (by kernel_rfl)).trans (congrArg some (show y 18 =  (.bool false) from hd 18 (by kernel_rfl))))
          clear hd hl hev
          replace hJ := Lib.hid hJ
          go_simp
          exact hn _ _ (Below.refl _ _) rfl
        · intro y W hb3 hall
          have hy : y 19 = .bool false := hall 19 (by decide)
          replace hbel := Lib.hid (Below.then_ hbel.out hb3 (Nat.le_refl _))
          clear hall hb3
          simp only [lay_cons, lay_nil]
          rw [hy]
          clear hy
          simp only [Act.put, List.setIfInBounds_toArray]
          simp only [List.set_cons_succ, List.set_cons_zero]
          go_wp2
          go_ret
          exact LookEnd.of e0.out.symm hbel.out
      | true =>
        have hbit := bit_impl hq hk
        have e0 := Lib.hid (show learnB false q n m k = bitB q k by simp [learnB, forB_of hlt, hse])
        go_enter Tryd.func46, Tryd.ntmps46
        go_wp2
        rw [← hV]
        clear hV
        refine wp_region_knownG [(.is (.pointer (some ⟨w.heap.size, 7, none⟩))), (.is (.slice (some ⟨bb, off, none⟩) m.length cap2)), (.is (.int .i64 (k : Int))), (.is (.pointer (some ⟨bb, off + k * 4, none⟩))), (.is (.pointer (some ⟨bb, off + k * 4 + 1, none⟩))), (.is (.int .i64 m[k].seat)), (.is (.pointer (some ⟨w.heap.size, 6, none⟩))), (.is (.int .i64 n)), (.is (.bool true)), (.is (.bool true)), (.is (.pointer (some ⟨w.heap.size, 0, none⟩))), (.is (.pointer (some ⟨w.heap.size, 3, none⟩))), (.is (.int .i64 q)), (.is (.int .i64 (k : Int))), (.is (.pointer (some ⟨0, k, none⟩))), (.is (.int .i64 (2 ^ k))), (.is (.int .i64 (bits .and .i64 q (2 ^ k)))), (.is (.bool (bitB q k))), (.is (.bool (bitB q k))), (.is (.bool (bitB q k)))] (by kernel_rfl) (by kernel_rfl) (by kernel_rfl) ⟨?_, ?_, ?_, ?_, ?_, ?_, ?_, ?_, ?_, ?_, ?_, ?_, ?_, ?_, ?_, ?_, ?_, ?_, ?_, ?_, trivial⟩ ?_
        · intro y W next hl hJ hd hn
          refine Or.inl ⟨wanted_free rfl, fun ev ec ef hev eg => ?_⟩
          have e2 : ev (.tmp 2) = .pointer (some ⟨w.heap.size, 0, none⟩) := hev 2 _ ((hl.2 2 (by kernel_rfl)).trans (by kernel_rfl))
          clear hd hl hev
          replace hJ := Lib.hid hJ
          go_simp
          exact hn _ _ (Below.refl _ _) rfl
        · intro y W next hl hJ hd hn
          refine Or.inl ⟨wanted_free rfl, fun ev ec ef hev eg => ?_⟩
          have e15 : ev (.tmp 15) =  (.pointer (some ⟨w.heap.size, 7, none⟩)) := hev 15 _ ((hl.1 0 15 (by kernel_rfl) (by kernel_rfl)).trans (congrArg some (show y 0 =  (.pointer (some ⟨w.heap.size, 7, none⟩)) from hd 0 (by kernel_rfl))))
          clear hd hl hev
          obtain ⟨u0, u1, u2, u3, u4, u5, u6, u7, -⟩ := (hB.out.below hJ hB.out.lt).eight
          replace hJ := Lib.hid hJ
          go_simp
          exact hn _ _ (Below.refl _ _) rfl
        · intro y W next hl hJ hd hn
          refine Or.inl ⟨wanted_free rfl, fun ev ec ef hev eg => ?_⟩
          have e1 : ev (.tmp 1) = .int .i64 (k : Int) := hev 1 _ ((hl.2 1 (by kernel_rfl)).trans (by kernel_rfl))
          clear hd hl hev
          replace hJ := Lib.hid hJ
          go_simp
          exact hn _ _ (Below.refl _ _) rfl
        · intro y W next hl hJ hd hn
          refine Or.inl ⟨wanted_free rfl, fun ev ec ef hev eg => ?_⟩
          have e16 : ev (.tmp 16) =  (.slice (some ⟨bb, off, none⟩) m.length cap2) := hev 16 _ ((hl.1 1 16 (by kernel_rfl) (by kernel_rfl)).trans (congrArg some (show y 1 =  (.slice (some ⟨bb, off, none⟩) m.length cap2) from hd 1 (by kernel_rfl))))
          have e17 : ev (.tmp 17) =  (.int .i64 (k : Int)) := hev 17 _ ((hl.1 2 17 (by kernel_rfl) (by kernel_rfl)).trans (congrArg some (show y 2 =  (.int .i64 (k : Int)) from hd 2 (by kernel_rfl))))
          clear hd hl hev
          replace hJ := Lib.hid hJ
          go_simp
          exact hn _ _ (Below.refl _ _) rfl
        · intro y W next hl hJ hd hn
          refine Or.inl ⟨wanted_free rfl, fun ev ec ef hev eg => ?_⟩
          have e18 : ev (.tmp 18) =  (.pointer (some ⟨bb, off + k * 4, none⟩)) := hev 18 _ ((hl.1 3 18 (by kernel_rfl) (by kernel_rfl)).trans (congrArg some (show y 3 =  (.pointer (some ⟨bb, off + k * 4, none⟩)) from hd 3 (by kernel_rfl))))
          clear hd hl hev
          replace hJ := Lib.hid hJ
          go_simp
          exact hn _ _ (Below.refl _ _) rfl
        · intro y W next hl hJ hd hn
          refine Or.inl ⟨wanted_free rfl, fun ev ec ef hev eg => ?_⟩
          have e19 : ev (.tmp 19) =  (.pointer (some ⟨bb, off + k * 4 + 1, none⟩)) := hev 19 _ ((hl.1 4 19 (by kernel_rfl) (by kernel_rfl)).trans (congrArg some (show y 4 =  (.pointer (some ⟨bb, off + k * 4 + 1, none⟩)) from hd 4 (by kernel_rfl))))
          clear hd hl hev
          obtain ⟨b', off', e', hb', p0, p1, p2, p3⟩ := (hu2.out.below hJ).four k hlt
          cases e'
          replace hJ := Lib.hid hJ
          go_simp
          exact hn _ _ (Below.refl _ _) rfl
        · intro y W next hl hJ hd hn
          refine Or.inl ⟨wanted_free rfl, fun ev ec ef hev eg => ?_⟩
          have e2 : ev (.tmp 2) = .pointer (some ⟨w.heap.size, 0, none⟩) := hev 2 _ ((hl.2 2 (by kernel_rfl)).trans (by kernel_rfl))
          clear hd hl hev
          replace hJ := Lib.hid hJ
          go_simp
          exact hn _ _ (Below.refl _ _) rfl
        · intro y W next hl hJ hd hn
          refine Or.inl ⟨wanted_free rfl, fun ev ec ef hev eg => ?_⟩
          have e21 : ev (.tmp 21) =  (.pointer (some ⟨w.heap.size, 6, none⟩)) := hev 21 _ ((hl.1 6 21 (by kernel_rfl) (by kernel_rfl)).trans (congrArg some (show y 6 =  (.pointer (some ⟨w.heap.size, 6, none⟩)) from hd 6 (by kernel_rfl))))
          clear hd hl hev
          obtain ⟨u0, u1, u2, u3, u4, u5, u6, u7, -⟩ := (hB.out.below hJ hB.out.lt).eight
          replace hJ := Lib.hid hJ
          go_simp
          exact hn _ _ (Below.refl _ _) rfl
        · intro y W next hl hJ hd hn
          refine Or.inl ⟨wanted_free rfl, fun ev ec ef hev eg => ?_⟩
          have e20 : ev (.tmp 20) =  (.int .i64 m[k].seat) := hev 20 _ ((hl.1 5 20 (by kernel_rfl) (by kernel_rfl)).trans (congrArg some (show y 5 =  (.int .i64 m[k].seat) from hd 5 (by kernel_rfl))))
          have e22 : ev (.tmp 22) =  (.int .i64 n) := hev 22 _ ((hl.1 7 22 (by kernel_rfl) (by kernel_rfl)).trans (congrArg some (show y 7 =  (.int .i64 n) from hd 7 (by kernel_rfl))))
          clear hd hl hev
          replace hJ := Lib.hid hJ
          go_simp
          exact hn _ _ (Below.refl _ _) rfl
        · intro y W next hl hJ hd hn
          refine Or.inl ⟨wanted_free rfl, fun ev ec ef hev eg => ?_⟩
          have e23 : ev (.tmp 23) =  (.bool true) := hev 23 _ ((hl.1 8 23 (by kernel_rfl) (by kernel_rfl)).trans (congrArg some (show y 8 =  (.bool true) from hd 8 (by kernel_rfl))))
          clear hd hl hev
          replace hJ := Lib.hid hJ
          go_simp
          exact hn _ _ (Below.refl _ _) rfl
        · intro y W next hl hJ hd hn
          refine Or.inl ⟨wanted_of (j := 9) (d := 24) rfl rfl rfl ((hl.1 9 24 (by kernel_rfl) (by kernel_rfl)).trans (congrArg some (show y 9 = .bool true from hd 9 (by kernel_rfl)))), fun ev ec ef hev eg => ?_⟩
          have e2 : ev (.tmp 2) = .pointer (some ⟨w.heap.size, 0, none⟩) := hev 2 _ ((hl.2 2 (by kernel_rfl)).trans (by kernel_rfl))
          clear hd hl hev
          replace hJ := Lib.hid hJ
          go_simp
          exact hn _ _ (Below.refl _ _) rfl
        · intro y W next hl hJ hd hn
          refine Or.inl ⟨wanted_of (j := 9) (d := 24) rfl rfl rfl ((hl.1 9 24 (by kernel_rfl) (by kernel_rfl)).trans (congrArg some (show y 9 = .bool true from hd 9 (by kernel_rfl)))), fun ev ec ef hev eg => ?_⟩
          have e25 : ev (.tmp 25) =  (.pointer (some ⟨w.heap.size, 0, none⟩)) := hev 25 _ ((hl.1 10 25 (by kernel_rfl) (by kernel_rfl)).trans (congrArg some (show y 10 =  (.pointer (some ⟨w.heap.size, 0, none⟩)) from hd 10 (by kernel_rfl))))
          clear hd hl hev
          replace hJ := Lib.hid hJ
          go_simp
          exact hn _ _ (Below.refl _ _) rfl
        · intro y W next hl hJ hd hn
          refine Or.inl ⟨wanted_of (j := 9) (d := 24) rfl rfl rfl ((hl.1 9 24 (by kernel_rfl) (by kernel_rfl)).trans (congrArg some (show y 9 = .bool true from hd 9 (by kernel_rfl)))), fun ev ec ef hev eg => ?_⟩
          have e26 : ev (.tmp 26) =  (.pointer (some ⟨w.heap.size, 3, none⟩)) := hev 26 _ ((hl.1 11 26 (by kernel_rfl) (by kernel_rfl)).trans (congrArg some (show y 11 =  (.pointer (some ⟨w.heap.size, 3, none⟩)) from hd 11 (by kernel_rfl))))
          clear hd hl hev
          obtain ⟨u0, u1, u2, u3, u4, u5, u6, u7, -⟩ := (hB.out.below hJ hB.out.lt).eight
          replace hJ := Lib.hid hJ
          go_simp
          exact hn _ _ (Below.refl _ _) rfl
        · intro y W next hl hJ hd hn
          refine Or.inl ⟨wanted_of (j := 9) (d := 24) rfl rfl rfl ((hl.1 9 24 (by kernel_rfl) (by kernel_rfl)).trans (congrArg some (show y 9 = .bool true from hd 9 (by kernel_rfl)))), fun ev ec ef hev eg => ?_⟩
          have e1 : ev (.tmp 1) = .int .i64 (k : Int) := hev 1 _ ((hl.2 1 (by kernel_rfl)).trans (by kernel_rfl))
          clear hd hl hev
          replace hJ := Lib.hid hJ
          go_simp
          exact hn _ _ (Below.refl _ _) rfl
        · intro y W next hl hJ hd hn
          refine Or.inl ⟨wanted_of (j := 9) (d := 24) rfl rfl rfl ((hl.1 9 24 (by kernel_rfl) (by kernel_rfl)).trans (congrArg some (show y 9 = .bool true from hd 9 (by kernel_rfl)))), fun ev ec ef hev eg => ?_⟩
          have e28 : ev (.tmp 28) =  (.int .i64 (k : Int)) := hev 28 _ ((hl.1 13 28 (by kernel_rfl) (by kernel_rfl)).trans (congrArg some (show y 13 =  (.int .i64 (k : Int)) from hd 13 (by kernel_rfl))))
          clear hd hl hev
          replace hJ := Lib.hid hJ
          go_simp
          exact hn _ _ (Below.refl _ _) rfl
        · intro y W next hl hJ hd hn
          refine Or.inl ⟨wanted_of (j := 9) (d := 24) rfl rfl rfl ((hl.1 9 24 (by kernel_rfl) (by kernel_rfl)).trans (congrArg some (show y 9 = .bool true from hd 9 (by kernel_rfl)))), fun ev ec ef hev eg => ?_⟩
          have e29 : ev (.tmp 29) =  (.pointer (some ⟨0, k, none⟩)) := hev 29 _ ((hl.1 14 29 (by kernel_rfl) (by kernel_rfl)).trans (congrArg some (show y 14 =  (.pointer (some ⟨0, k, none⟩)) from hd 14 (by kernel_rfl))))
          clear hd hl hev
          have hgk := (hg2.out.below hJ).at_ hk
          replace hJ := Lib.hid hJ
          go_simp
          exact hn _ _ (Below.refl _ _) rfl
        · intro y W next hl hJ hd hn
          refine Or.inl ⟨wanted_of (j := 9) (d := 24) rfl rfl rfl ((hl.1 9 24 (by kernel_rfl) (by kernel_rfl)).trans (congrArg some (show y 9 = .bool true from hd 9 (by kernel_rfl)))), fun ev ec ef hev eg => ?_⟩
          have e27 : ev (.tmp 27) =  (.int .i64 q) := hev 27 _ ((hl.1 12 27 (by kernel_rfl) (by kernel_rfl)).trans (congrArg some (show y 12 =  (.int .i64 q) from hd 12 (by kernel_rfl))))
          have e30 : ev (.tmp 30) =  (.int .i64 (2 ^ k)) := hev 30 _ ((hl.1 15 30 (by kernel_rfl) (by kernel_rfl)).trans (congrArg some (show y 15 =  (.int .i64 (2 ^ k)) from hd 15 (by kernel_rfl))))
          clear hd hl hev
          replace hJ := Lib.hid hJ
          go_simp
          exact hn _ _ (Below.refl _ _) rfl
        · intro y W next hl hJ hd hn
          refine Or.inl ⟨wanted_of (j := 9) (d := 24) rfl rfl rfl ((hl.1 9 24 (by kernel_rfl) (by kernel_rfl)).trans (congrArg some (show y 9 = .bool true from hd 9 (by kernel_rfl)))), fun ev ec ef hev eg => ?_⟩
          have e31 : ev (.tmp 31) =  (.int .i64 (bits .and .i64 q (2 ^ k))) := hev 31 _ ((hl.1 16 31 (by kernel_rfl) (by kernel_rfl)).trans (congrArg some (show y 16 =  (.int .i64 (bits .and .i64 q (2 ^ k))) from hd 16 (by kernel_rfl))))
          clear hd hl hev
          replace hJ := Lib.hid hJ
          go_simp
          exact hn _ _ (Below.refl _ _) rfl
        · intro y W next hl hJ hd hn
          refine Or.inl ⟨wanted_free rfl, fun ev ec ef hev eg => ?_⟩
          have e24 : ev (.tmp 24) =  (.bool true) := hev 24 _ ((hl.1 9 24 (by kernel_rfl) (by kernel_rfl)).trans (congrArg some (show y 9 =  (.bool true) from hd 9 (by kernel_rfl))))
          have e32 : ev (.tmp 32) =  (.bool (bitB q k)) := hev 32 _ ((hl.1 17 32 (by kernel_rfl) (by kernel_rfl)).trans (congrArg some (show y 17 =  (.bool (bitB q k)) from hd 17 (by kernel_rfl))))
          clear hd hl hev
          replace hJ := Lib.hid hJ
          go_simp
          exact hn _ _ (Below.refl _ _) rfl
        · intro y W next hl hJ hd hn
          refine Or.inl ⟨wanted_free rfl, fun ev ec ef hev eg => ?_⟩
          have e33 : ev (.tmp 33) =  (.bool (bitB q k)) := hev 33 _ ((hl.1 18 33 (by kernel_rfl) (by kernel_rfl)).trans (congrArg some (show y 18 =  (.bool (bitB q k)) from hd 18 (by kernel_rfl))))
          clear hd hl hev
          replace hJ := Lib.hid hJ
          go_simp
          exact hn _ _ (Below.refl _ _) rfl
        · intro y W hb3 hall
          have hy : y 19 = .bool (bitB q k) := hall 19 (by decide)
          replace hbel := Lib.hid (Below.then_ hbel.out hb3 (Nat.le_refl _))
          clear hall hb3
          simp only [lay_cons, lay_nil]
          rw [hy]
          clear hy
          simp only [Act.put, List.setIfInBounds_toArray]
          simp only [List.set_cons_succ, List.set_cons_zero]
          go_wp2
          go_ret
          exact LookEnd.of e0.out.symm hbel.out
    · have hlt1 : (m.length : Int) ≤ (k : Int) := by omega
      have e0 := Lib.hid (show learnB false q n m k = false by simp [learnB, forB_far hlt])
      go_enter Tryd.func46, Tryd.ntmps46
      go_wp2
      go_ret
      exact LookEnd.of e0.out.symm hbel.out
theorem deny_no {b : Bool} {q n : Int} {v : List Sec} {M : Int} {k : Nat} (h : bitB M k = false) : denyF b q n v M k = false := by simp [denyF, h]
theorem deny_may {b : Bool} {q n : Int} {v : List Sec} {M : Int} {k : Nat} (h : learnB b q n v k = true) : denyF b q n v M k = false := by simp [denyF, h]
theorem deny_yes {b : Bool} {q n : Int} {v : List Sec} {M : Int} {k : Nat} (h : bitB M k = true) (h2 : learnB b q n v k = false) : denyF b q n v M k = true := by simp [denyF, h, h2]
theorem next_all {f : Nat → Bool} {k : Nat} (h : ∀ j, j < k → f j = false) (h2 : f k = false) : ∀ j, j < k + 1 → f j = false := fun j hj => by
  rcases Nat.lt_or_ge j k with h3 | h3
  · exact h j h3
  · obtain rfl : j = k := by omega
    exact h2
theorem or_fits : ∀ (a b : Fin 16), 0 ≤ orI a.1 b.1 ∧ orI a.1 b.1 ≤ 15 := by decide +kernel
theorem or_range {a b : Int} (ha : 0 ≤ a ∧ a ≤ 15) (hb : 0 ≤ b ∧ b ≤ 15) : 0 ≤ orI a b ∧ orI a b ≤ 15 := by
  obtain ⟨x, rfl⟩ : ∃ x : Nat, a = (x : Int) := ⟨a.toNat, by omega⟩
  obtain ⟨y, rfl⟩ : ∃ y : Nat, b = (y : Int) := ⟨b.toNat, by omega⟩
  exact or_fits ⟨x, by omega⟩ ⟨y, by omega⟩
theorem fold_range : ∀ (l : List Int) (a : Int), 0 ≤ a ∧ a ≤ 15 → (∀ m ∈ l, 0 ≤ m ∧ m ≤ 15) → 0 ≤ l.foldl orI a ∧ l.foldl orI a ≤ 15
  | [], _, h, _ => h
  | m :: l, a, h, hl => fold_range l (orI a m) (or_range h (hl m (List.mem_cons_self ..))) fun x hx => hl x (List.mem_cons_of_mem _ hx)
theorem markL_range {t : ByteArray} {l : List Int} (h : labB t l = true) : 0 ≤ markL l ∧ markL l ≤ 15 := fold_range l 0 (by decide) (labB_parts h).2.2
/-- What is told of what is denied: nothing, or its place as an error. -/
def SaidEnd (D : Option Nat) (w : World) (e : Ending) (w' : World) : Prop := e = .returned (match D with | none => .nilIface | some k => .iface 76 (.agg #[.int .i64 (k : Int)])) ∧ Below w.heap.size w w'
theorem SaidEnd.some {D : Option Nat} {k : Nat} {w w' : World} (h : D = some k) (hb : Below w.heap.size w w') : SaidEnd D w (.returned (.iface 76 (.agg #[.int .i64 (k : Int)]))) w' := by subst h; exact ⟨rfl, hb⟩
theorem SaidEnd.none {D : Option Nat} {w w' : World} (h : D = none) (hb : Below w.heap.size w w') : SaidEnd D w (.returned .nilIface) w' := by subst h; exact ⟨rfl, hb⟩
set_option maxRecDepth 100000 in
set_option maxHeartbeats 16000000 in
theorem saidTo_any (b o : Bool) (s : ByteArray) (q : Int) (t : ByteArray) (A : Option Addr) (l : List Int) (cap : Nat) (n : Int) (A2 : Option Addr) (m : List Sec) (cap2 : Nat) (x : ByteArray) (v3 : Value) (r : List Int) (w : World) (hq : 0 ≤ q ∧ q ≤ 15) (hx : x.size ≤ 1048576) (hr : labB x r = true) (hv3 : Ints w v3 r) (hu : Secs w (.slice A2 m.length cap2) m) (hg : Four w) :
    Calls Tryd.prog 45 #[.agg #[.string x, v3], .func (.func 46) #[.agg #[.bool b, .bool o, .string s, .int .i64 q, .string t, .slice A l.length cap, .int .i64 n, .slice A2 m.length cap2]] #[]] w (SaidEnd (firstF (denyF b q n m (markL r))) w) := by
  obtain ⟨A3, cap3, rfl⟩ := hv3.form
  have hM := markL_range hr
  have hMe := Lib.hid (markT_ok hr)
  obtain ⟨M, hMM⟩ : ∃ M, M = markL r := ⟨_, rfl⟩
  rw [← hMM] at hM hMe ⊢
  have hv3' := Lib.hid (hv3.alloc (.cells #[.string x, .slice A3 r.length cap3] 30))
  have hbel := Lib.hid ((Below.refl w.heap.size w).alloc (Nat.le_refl _) (.cells #[.string x, .slice A3 r.length cap3] 30))
  have hu' := Lib.hid hu
  have hg' := Lib.hid hg
  clear hMM hv3 hu hg
  go_enter Tryd.func45, Tryd.ntmps45
  go_wp2_with (go_at_call 64; refine (implMarkOf_any x _ r _ hx hv3'.out).mono ?_; rintro e w1 ⟨rfl, hb1⟩; rw [hMe.out]; have hbW := Lib.hid (Below.then_ hbel.out hb1 (Nat.le_refl _)); clear hb1; obtain ⟨g0, g1, g2, g3⟩ := hg'.out.below hbW.out)
  go_loopw [11] (fun i wr => ∃ k : Nat, k ≤ 4 ∧ i = .int .i64 (k : Int) ∧ (∀ j, j < k → denyF b q n m M j = false) ∧ Hid (Below w.heap.size w wr)) (fun i _ => 4 - (intOf i).toNat)
  case atStart => exact ⟨0, by omega, rfl, fun j hj => absurd hj (Nat.not_lt_zero _), hbW⟩
  case round =>
    obtain ⟨k, hk, rfl, hall, hb⟩ := hrel
    replace hall := Lib.hid hall
    clear g0 g1 g2 g3 hbW hbel
    rcases (show k = 0 ∨ k = 1 ∨ k = 2 ∨ k = 3 ∨ k = 4 by omega) with rfl | rfl | rfl | rfl | rfl
    · have hix : ∀ (w : World), (Instr.index 89 (.agg #[.int .i64 1, .int .i64 2, .int .i64 4, .int .i64 8]) (.int .i64 0)).run Tryd.prog w = .ok (.int .i64 1) w := fun w => by kernel_rfl
      cases hbit : bitB M 0 with
      | false =>
        have hb0 : (bits .and .i64 M 1 != 0) = false := (bit_impl hM (show 0 < 4 by decide)).trans hbit
        have hno := Lib.hid (deny_no (n := n) (v := m) (q := q) (b := b) hbit)
        go_wp2
        go_roundw
        case rel => exact ⟨0 + 1, by omega, by go_num, fun j hj => next_all hall.out hno.out j hj, hb⟩
        case measure => simp [intOf]
      | true =>
        have hb0 : (bits .and .i64 M 1 != 0) = true := (bit_impl hM (show 0 < 4 by decide)).trans hbit
        cases hlr : learnB b q n m 0 with
        | true =>
          have hno := Lib.hid (deny_may (M := M) hlr)
          go_wp2_with (go_at_call 46; refine (mayLearn_any b o s q t A l cap n A2 m cap2 0 _ hq (by decide) (hu'.out.below hb.out) (hg'.out.below hb.out)).mono ?_; rintro e w4 ⟨rfl, hb4⟩; rw [hlr]; have hb5 := Lib.hid (Below.then_ hb.out hb4 (Nat.le_refl _)); clear hb4)
          go_roundw
          case rel => exact ⟨0 + 1, by omega, by go_num, fun j hj => next_all hall.out hno.out j hj, hb5⟩
          case measure => simp [intOf]
        | false =>
          have hye := Lib.hid (firstF_at (show 0 < 4 by decide) hall.out (deny_yes hbit hlr))
          go_wp2_with (go_at_call 46; refine (mayLearn_any b o s q t A l cap n A2 m cap2 0 _ hq (by decide) (hu'.out.below hb.out) (hg'.out.below hb.out)).mono ?_; rintro e w4 ⟨rfl, hb4⟩; rw [hlr]; have hb5 := Lib.hid (Below.then_ hb.out hb4 (Nat.le_refl _)); clear hb4)
          go_ret
          exact SaidEnd.some hye.out hb5.out
    · have hix : ∀ (w : World), (Instr.index 89 (.agg #[.int .i64 1, .int .i64 2, .int .i64 4, .int .i64 8]) (.int .i64 1)).run Tryd.prog w = .ok (.int .i64 2) w := fun w => by kernel_rfl
      cases hbit : bitB M 1 with
      | false =>
        have hb0 : (bits .and .i64 M 2 != 0) = false := (bit_impl hM (show 1 < 4 by decide)).trans hbit
        have hno := Lib.hid (deny_no (n := n) (v := m) (q := q) (b := b) hbit)
        go_wp2
        go_roundw
        case rel => exact ⟨1 + 1, by omega, by go_num, fun j hj => next_all hall.out hno.out j hj, hb⟩
        case measure => simp [intOf]
      | true =>
        have hb0 : (bits .and .i64 M 2 != 0) = true := (bit_impl hM (show 1 < 4 by decide)).trans hbit
        cases hlr : learnB b q n m 1 with
        | true =>
          have hno := Lib.hid (deny_may (M := M) hlr)
          go_wp2_with (go_at_call 46; refine (mayLearn_any b o s q t A l cap n A2 m cap2 1 _ hq (by decide) (hu'.out.below hb.out) (hg'.out.below hb.out)).mono ?_; rintro e w4 ⟨rfl, hb4⟩; rw [hlr]; have hb5 := Lib.hid (Below.then_ hb.out hb4 (Nat.le_refl _)); clear hb4)
          go_roundw
          case rel => exact ⟨1 + 1, by omega, by go_num, fun j hj => next_all hall.out hno.out j hj, hb5⟩
          case measure => simp [intOf]
        | false =>
          have hye := Lib.hid (firstF_at (show 1 < 4 by decide) hall.out (deny_yes hbit hlr))
          go_wp2_with (go_at_call 46; refine (mayLearn_any b o s q t A l cap n A2 m cap2 1 _ hq (by decide) (hu'.out.below hb.out) (hg'.out.below hb.out)).mono ?_; rintro e w4 ⟨rfl, hb4⟩; rw [hlr]; have hb5 := Lib.hid (Below.then_ hb.out hb4 (Nat.le_refl _)); clear hb4)
          go_ret
          exact SaidEnd.some hye.out hb5.out
    · have hix : ∀ (w : World), (Instr.index 89 (.agg #[.int .i64 1, .int .i64 2, .int .i64 4, .int .i64 8]) (.int .i64 2)).run Tryd.prog w = .ok (.int .i64 4) w := fun w => by kernel_rfl
      cases hbit : bitB M 2 with
      | false =>
        have hb0 : (bits .and .i64 M 4 != 0) = false := (bit_impl hM (show 2 < 4 by decide)).trans hbit
        have hno := Lib.hid (deny_no (n := n) (v := m) (q := q) (b := b) hbit)
        go_wp2
        go_roundw
        case rel => exact ⟨2 + 1, by omega, by go_num, fun j hj => next_all hall.out hno.out j hj, hb⟩
        case measure => simp [intOf]
      | true =>
        have hb0 : (bits .and .i64 M 4 != 0) = true := (bit_impl hM (show 2 < 4 by decide)).trans hbit
        cases hlr : learnB b q n m 2 with
        | true =>
          have hno := Lib.hid (deny_may (M := M) hlr)
          go_wp2_with (go_at_call 46; refine (mayLearn_any b o s q t A l cap n A2 m cap2 2 _ hq (by decide) (hu'.out.below hb.out) (hg'.out.below hb.out)).mono ?_; rintro e w4 ⟨rfl, hb4⟩; rw [hlr]; have hb5 := Lib.hid (Below.then_ hb.out hb4 (Nat.le_refl _)); clear hb4)
          go_roundw
          case rel => exact ⟨2 + 1, by omega, by go_num, fun j hj => next_all hall.out hno.out j hj, hb5⟩
          case measure => simp [intOf]
        | false =>
          have hye := Lib.hid (firstF_at (show 2 < 4 by decide) hall.out (deny_yes hbit hlr))
          go_wp2_with (go_at_call 46; refine (mayLearn_any b o s q t A l cap n A2 m cap2 2 _ hq (by decide) (hu'.out.below hb.out) (hg'.out.below hb.out)).mono ?_; rintro e w4 ⟨rfl, hb4⟩; rw [hlr]; have hb5 := Lib.hid (Below.then_ hb.out hb4 (Nat.le_refl _)); clear hb4)
          go_ret
          exact SaidEnd.some hye.out hb5.out
    · have hix : ∀ (w : World), (Instr.index 89 (.agg #[.int .i64 1, .int .i64 2, .int .i64 4, .int .i64 8]) (.int .i64 3)).run Tryd.prog w = .ok (.int .i64 8) w := fun w => by kernel_rfl
      cases hbit : bitB M 3 with
      | false =>
        have hb0 : (bits .and .i64 M 8 != 0) = false := (bit_impl hM (show 3 < 4 by decide)).trans hbit
        have hno := Lib.hid (deny_no (n := n) (v := m) (q := q) (b := b) hbit)
        go_wp2
        go_roundw
        case rel => exact ⟨3 + 1, by omega, by go_num, fun j hj => next_all hall.out hno.out j hj, hb⟩
        case measure => simp [intOf]
      | true =>
        have hb0 : (bits .and .i64 M 8 != 0) = true := (bit_impl hM (show 3 < 4 by decide)).trans hbit
        cases hlr : learnB b q n m 3 with
        | true =>
          have hno := Lib.hid (deny_may (M := M) hlr)
          go_wp2_with (go_at_call 46; refine (mayLearn_any b o s q t A l cap n A2 m cap2 3 _ hq (by decide) (hu'.out.below hb.out) (hg'.out.below hb.out)).mono ?_; rintro e w4 ⟨rfl, hb4⟩; rw [hlr]; have hb5 := Lib.hid (Below.then_ hb.out hb4 (Nat.le_refl _)); clear hb4)
          go_roundw
          case rel => exact ⟨3 + 1, by omega, by go_num, fun j hj => next_all hall.out hno.out j hj, hb5⟩
          case measure => simp [intOf]
        | false =>
          have hye := Lib.hid (firstF_at (show 3 < 4 by decide) hall.out (deny_yes hbit hlr))
          go_wp2_with (go_at_call 46; refine (mayLearn_any b o s q t A l cap n A2 m cap2 3 _ hq (by decide) (hu'.out.below hb.out) (hg'.out.below hb.out)).mono ?_; rintro e w4 ⟨rfl, hb4⟩; rw [hlr]; have hb5 := Lib.hid (Below.then_ hb.out hb4 (Nat.le_refl _)); clear hb4)
          go_ret
          exact SaidEnd.some hye.out hb5.out
    · have hno := Lib.hid (firstF_none hall.out)
      go_wp2
      go_ret
      exact SaidEnd.none hno.out hb.out
/-- The place of what is denied, as the model tells it. -/
def denyI (D : Option Nat) : Int := match D with | none => -1 | some k => (k : Int)
theorem learn_far {b : Bool} {q n : Int} {v : List Sec} {k : Nat} (hk : ¬ k < v.length) : learnB b q n v k = false := by simp [learnB, forB_far hk]
theorem learn_seat {b : Bool} {q n : Int} {v : List Sec} {k : Nat} (hk : k < v.length) (h : (v[k].seat == n) = false) : learnB b q n v k = false := by simp [learnB, forB_of hk, h]
theorem learn_bit {b : Bool} {q n : Int} {v : List Sec} {k : Nat} (h : bitB q k = false) : learnB b q n v k = false := by simp [learnB, h]
theorem learn_is {b : Bool} {q n : Int} {v : List Sec} {k : Nat} (hk : k < v.length) (h : (v[k].seat == n) = true) (h2 : bitB q k = true) : learnB b q n v k = !b := by simp [learnB, forB_of hk, h, h2]
theorem denyI_at {f : Nat → Bool} {k : Nat} (hk : k < 4) (h : ∀ j, j < k → f j = false) (hf : f k = true) : denyI (firstF f) = (k : Int) := by rw [firstF_at hk h hf]; rfl
theorem denyI_none {f : Nat → Bool} (h : ∀ j, j < 4 → f j = false) : denyI (firstF f) = -1 := by rw [firstF_none h]; rfl
set_option maxRecDepth 100000 in
set_option maxHeartbeats 16000000 in
theorem specDenied_any (b o : Bool) (s : ByteArray) (q : Int) (t : ByteArray) (v : Value) (l : List Int) (n : Int) (u : Value) (m : List Sec) (M : Int) (w : World) (hq : 0 ≤ q ∧ q ≤ 15) (hM : 0 ≤ M ∧ M ≤ 15) (hv : Ints w v l) (hu : Secs w u m) :
    Calls Tryd.prog 61 #[.agg #[.bool b, .bool o, .string s, .int .i64 q, .string t, v], .int .i64 n, u, .int .i64 M] w (IntIs (denyI (firstF (denyF b q n m M))) w) := by
  obtain ⟨A, cap, rfl⟩ := hv.form
  obtain ⟨A2, cap2, rfl⟩ := hu.form
  have hml : (m.length : Int) ≤ 9223372036854775807 := by have := hu.1; unfold maxLen at this; omega
  have hbel := Lib.hid ((Below.refl w.heap.size w).alloc (Nat.le_refl _) (.cells #[.bool b, .bool o, .string s, .int .i64 q, .string t, .slice A l.length cap] 32))
  have hu' := Lib.hid (hu.alloc (.cells #[.bool b, .bool o, .string s, .int .i64 q, .string t, .slice A l.length cap] 32))
  clear hv hu
  go_enter Tryd.func61, Tryd.ntmps61
  go_wp2
  go_loop [9] (fun i => ∃ k : Nat, k ≤ 4 ∧ i = .int .i64 (k : Int) ∧ (∀ j, j < k → denyF b q n m M j = false)) (fun i => 4 - (intOf i).toNat)
  case atStart => exact ⟨0, by omega, rfl, fun j hj => absurd hj (Nat.not_lt_zero _)⟩
  case round =>
    obtain ⟨k, hk, rfl, hall⟩ := hrel
    replace hall := Lib.hid hall
    by_cases hlt : k < 4
    · have hlt' : (k : Int) < 4 := by omega
      have hk0 : (0 : Int) ≤ (k : Int) := by omega
      have hb0 := bit_spec hM hlt
      cases hbit : bitB M k with
      | false =>
        rw [hbit] at hb0
        have hno := Lib.hid (deny_no (n := n) (v := m) (q := q) (b := b) hbit)
        go_wp2
        go_round
        case rel => exact ⟨k + 1, by omega, by go_num, next_all hall.out hno.out⟩
        case measure => simp [intOf]; omega
      | true =>
        rw [hbit] at hb0
        by_cases hkm : k < m.length
        · have hkm1 : ¬ (m.length : Int) ≤ (k : Int) := by omega
          have hkm2 : (k : Int) < (m.length : Int) := by omega
          obtain ⟨bb, off, rfl, hbk, -, c1, -, -⟩ := hu'.out.four k hkm
          cases hse : (m[k].seat == n) with
          | false =>
            have hse2 : (m[k].seat != n) = true := by rw [bne, hse]; rfl
            have hye := Lib.hid (denyI_at hlt hall.out (deny_yes hbit (learn_seat (b := b) (q := q) hkm hse)))
            go_wp2
            go_ret
            exact IntIs.of hye.out.symm hbel.out
          | true =>
            have hse2 : (m[k].seat != n) = false := by rw [bne, hse]; rfl
            have hb1 := bit_spec hq hlt
            cases hbq : bitB q k with
            | false =>
              rw [hbq] at hb1
              have hye := Lib.hid (denyI_at hlt hall.out (deny_yes hbit (learn_bit (b := b) (n := n) (v := m) hbq)))
              go_wp2
              go_ret
              exact IntIs.of hye.out.symm hbel.out
            | true =>
              rw [hbq] at hb1
              have hli := learn_is (b := b) hkm hse hbq
              cases b with
              | true =>
                have hye := Lib.hid (denyI_at hlt hall.out (deny_yes hbit (hli.trans rfl)))
                go_wp2
                go_ret
                exact IntIs.of hye.out.symm hbel.out
              | false =>
                have hno := Lib.hid (deny_may (M := M) (hli.trans rfl))
                clear hli
                go_wp2
                go_round
                case rel => exact ⟨k + 1, by omega, by go_num, next_all hall.out hno.out⟩
                case measure => simp [intOf]; omega
        · have hkm1 : (m.length : Int) ≤ (k : Int) := by omega
          have hye := Lib.hid (denyI_at hlt hall.out (deny_yes hbit (learn_far (b := b) (q := q) (n := n) hkm)))
          go_wp2
          go_ret
          exact IntIs.of hye.out.symm hbel.out
    · have hlt' : ¬ (k : Int) < 4 := by omega
      obtain rfl : k = 4 := by omega
      have hno := Lib.hid (denyI_none hall.out)
      go_wp2
      go_ret
      exact IntIs.of hno.out.symm hbel.out
end Go.Proofs.YtajnligcngekcaaDoor
