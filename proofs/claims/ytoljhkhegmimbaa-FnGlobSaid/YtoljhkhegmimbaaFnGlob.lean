/- The walk of FnGlob. -/
import Derived.Test.YtoljhkhegmimbaaGlobL
import Derived.Test.YtoljhkhegmimbaaDrawH
import Derived.Test.YtoljhkhegmimbaaKnown
import Derived.Lib.IndexBytes
namespace Go.Proofs.Ytoljhkhegmimbaa
open Go.RowKit
attribute [local go_sem] vupon_value vupon_skip vupon_enter
theorem read_below {w w' : World} {A : Option Addr} {len : Nat} (h : Readable w w.heap.size A len) (hb : Below w.heap.size w w') : Readable w' w.heap.size A len := h.keep hb.block
theorem str_other {t s : ByteArray} (h : ¬ t = s) : (t.toList == s.toList) = false := by
  rw [beq_eq_false_iff_ne]
  intro e
  rw [ByteArray.toList_eq, ByteArray.toList_eq] at e
  apply h
  cases t; cases s
  simp at e
  rw [e]
theorem str_full {s : ByteArray} (h : ¬ s = ⟨#[]⟩) : s.toList.isEmpty = false := by
  cases hs : s.toList with
  | nil => exact (h (by rw [ByteArray.toList_eq] at hs; cases s; simp at hs; rw [hs])).elim
  | cons c l => rfl
theorem str_full2 {s : ByteArray} (h : ¬ s = ⟨#[]⟩) : ¬ s.toList = [] := fun e => by have := str_full h; rw [e] at this; cases this
theorem data_ext {u v : ByteArray} (h : u.data.toList = v.data.toList) : u = v := by
  cases u; cases v
  simp at h
  rw [h]
theorem some_step {P : Nat → Prop} {f : Nat} {b : Bool} (h : false = true ↔ ∃ f', f' < f ∧ P f') (hb : b = true ↔ P f) : b = true ↔ ∃ f', f' < f + 1 ∧ P f' := by
  rw [hb]
  constructor
  · exact fun h => ⟨f, by omega, h⟩
  · rintro ⟨f', h1, h2⟩
    by_cases e : f' = f
    · subst e; exact h2
    · have := h.2 ⟨f', by omega, h2⟩; cases this
theorem true_step {P : Nat → Prop} {f : Nat} (h : true = true ↔ ∃ f', f' < f ∧ P f') : true = true ↔ ∃ f', f' < f + 1 ∧ P f' := by
  obtain ⟨f', h1, h2⟩ := h.1 rfl
  exact ⟨fun _ => ⟨f', by omega, h2⟩, fun _ => rfl⟩
/-- What the fields of a found span are. -/
def SpanParts (r : Option (Nat × Nat)) (ra rb : Int) (rc : Bool) : Prop := (r = none ∧ rc = false) ∨ ∃ z, r = some z ∧ ra = (z.1 : Int) ∧ rb = (z.2 : Int) ∧ rc = true
theorem span_parts {r : Option (Nat × Nat)} {ra rb : Int} {rc : Bool} (h : spanV r = .agg #[.int .i64 ra, .int .i64 rb, .bool rc]) : SpanParts r ra rb rc := by
  rw [spanV_three] at h
  simp only [Value.agg.injEq] at h
  have h := congrArg Array.toList h
  simp at h
  cases r with
  | none => exact .inl ⟨rfl, by have := h.2.2; simp [sC] at this; first | exact this.symm | exact this⟩
  | some z =>
    refine .inr ⟨z, rfl, ?_, ?_, ?_⟩
    · have := h.1; simp [sA] at this; first | exact this.symm | exact this
    · have := h.2.1; simp [sB] at this; first | exact this.symm | exact this
    · have := h.2.2; simp [sC] at this; first | exact this.symm | exact this
theorem span_bound {pl tl : List UInt8} {r : Option (Nat × Nat)} {ra rb : Int} {rc : Bool} (h : FindsG pl tl r) (h8 : tl.length ≤ 8000) {f k : Nat} (hk : k ≤ tl.length) (hf : f ≤ k) (hm : Means pl ((tl.take k).drop f)) (hR : SpanParts r ra rb rc) :
    rc = true ∧ ¬ (f : Int) < ra ∧ ((f : Int) = ra → ¬ rb < (k : Int)) := by
  obtain ⟨z, hz, hb⟩ := find_bound h h8 hk hf hm
  rcases hR with ⟨h1, _⟩ | ⟨z', h1, h2, h3, h4⟩
  · rw [hz] at h1; cases h1
  · rw [hz] at h1; cases h1
    exact ⟨h4, by omega, fun _ => by omega⟩
set_option maxRecDepth 100000 in
set_option maxHeartbeats 16000000 in
theorem fnGlob_in (a0 : Option Addr) (len0 cap0 : Nat) (a1 : Option Addr) (len1 cap1 : Nat) (w : World) (r0 : Readable w w.heap.size a0 len0) (r1 : Readable w w.heap.size a1 len1) :
    Calls Try.prog 3 #[.slice a0 len0 cap0, .slice a1 len1 cap1] w fun e w' => e = .returned (.bool true) ∧ Below w.heap.size w w' := by
  have h0' : (len0 : Int) ≤ 1048576 := by have := r0.1; omega
  have h1' : (len1 : Int) ≤ 1048576 := by have := r1.1; omega
  replace r0 := Lib.hid r0
  replace r1 := Lib.hid r1
  have hW := Lib.hid (Below.refl w.heap.size w)
  go_enter Try.func3, Try.ntmps3
  go_wp2_with (go_at_call 9; refine (drawFind_any _ _ _ w.heap.size _ hW.out.size (read_below r0.out hW.out)).mono ?_; rintro e w1 ⟨⟨p, t, hp, ht, rfl⟩, hb⟩; replace hW := Lib.hid (below_then hW.out hb (Nat.le_refl _)); clear hb)
  go_wp2_with (go_at_call 10; refine (implFind_any p t (by unfold maxLen; omega) (by unfold maxLen; omega) _).mono ?_; rintro e w2 ⟨⟨r, hr, hsm, rfl⟩, hb⟩; obtain ⟨ra, rb, rc, hv⟩ := spanV_form r; rw [hv]; replace hW := Lib.hid (below_then hW.out hb (Nat.le_refl _)); replace hr := Lib.hid hr; replace hv := Lib.hid hv; replace hsm := Lib.hid hsm; clear hb; have hX := Lib.hid (Trio.new w2 26 (.int .i64 ra) (.int .i64 rb) (.bool rc)); replace hW := Lib.hid (hW.out.alloc hW.out.size (.cells #[.int .i64 ra, .int .i64 rb, .bool rc] 26)); obtain ⟨g, hg⟩ : ∃ g, g = w2.heap.size := ⟨_, rfl⟩)
  rw [← hg] at hX
  rw [← hg]
  replace hg := Lib.hid hg
  obtain ⟨W2, hW2⟩ : ∃ W2, W2 = w2.alloc (.cells #[.int .i64 ra, .int .i64 rb, .bool rc] 26) := ⟨_, rfl⟩
  rw [← hW2] at hW hX
  rw [← hW2]
  replace hW2 := Lib.hid hW2
  go_wp2_with (go_at_call 11; refine (drawAll_any _ _ _ w.heap.size _ hW.out.size (read_below r1.out hW.out)).mono ?_; rintro e w3 ⟨⟨q, u, hq, hu, rfl⟩, hb⟩; replace hW := Lib.hid (below_then hW.out hb (Nat.le_refl _)); replace hX := Lib.hid (hX.out.below hb (lt_of_block hX.out)); clear hb)
  go_wp2_with (go_at_call 12; refine (implEnds_any q u (by unfold maxLen; omega) (by unfold maxLen; omega) _).mono ?_; rintro e w4 ⟨⟨bE, hbE, rfl⟩, hb⟩; replace hW := Lib.hid (below_then hW.out hb (Nat.le_refl _)); replace hX := Lib.hid (hX.out.below hb (lt_of_block hX.out)); replace hbE := Lib.hid hbE; clear hb)
  go_wp2_with (go_at_call 13; refine (drawQuote_any _ _ _ w.heap.size _ hW.out.size (read_below r1.out hW.out)).mono ?_; rintro e w5 ⟨⟨wv, hwv, rfl⟩, hb⟩; replace hW := Lib.hid (below_then hW.out hb (Nat.le_refl _)); replace hX := Lib.hid (hX.out.below hb (lt_of_block hX.out)); clear hb)
  go_wp2_with (go_at_call 14; refine (implQuote_any wv (by omega) _).mono ?_; rintro e w6 ⟨rfl, hb⟩; replace hW := Lib.hid (below_then hW.out hb (Nat.le_refl _)); replace hX := Lib.hid (hX.out.below hb (lt_of_block hX.out)); clear hb; obtain ⟨gs, hgs⟩ : ∃ gs : ByteArray, strV (quoteT wv.data.toList) = .string gs := ⟨_, rfl⟩; rw [hgs]; replace hgs := Lib.hid hgs)
  obtain ⟨bA, hbA⟩ := bool_of (Means q.data.toList u.data.toList)
  obtain ⟨ok, hok⟩ : ∃ ok, globOk p.data.toList = ok := ⟨_, rfl⟩
  replace hbA := Lib.hid hbA
  replace hok := Lib.hid hok
  refine wp_region_known [(.is (.agg #[.int .i64 ra, .int .i64 rb, .bool rc])), (.is (.string p)), (.is (.string t)), (.is (.agg #[.int .i64 ra, .int .i64 rb, .bool rc])), (.is (.bool false)), (.is (.bool false)), (.is (.string q)), (.is (.string u)), (.is (.bool bA)), (.is (.string q)), (.is (.string u)), (.is (.bool bA)), (.is (.bool false)), (.is (.bool false)), (.is (.bool false)), (.is (.bool bE)), (.is (.string q)), (.is (.string u)), (.is (.bool bE)), (.is (.bool false)), (.is (.bool false)), (.is (.bool false)), (.is (.string gs)), (.is (.string wv)), (.is (.string gs)), (.is (.bool false)), (.is (.bool false)), (.is (.bool false)), (.is (.string p)), (.is (.bool ok)), (.is (.string p)), (.is (.bool ok)), (.is (.bool false)), (.is (.bool false))] (by kernel_rfl) (by kernel_rfl) (by kernel_rfl) ⟨?_, ?_, ?_, ?_, ?_, ?_, ?_, ?_, ?_, ?_, ?_, ?_, ?_, ?_, ?_, ?_, ?_, ?_, ?_, ?_, ?_, ?_, ?_, ?_, ?_, ?_, ?_, ?_, ?_, ?_, ?_, ?_, ?_, ?_, trivial⟩ ?_
  · intro y W next hl hJ hd hn
    refine Or.inl ⟨wanted_free rfl, fun ev ec ef hev => ?_⟩
    have e7 : ev (.tmp 7) = .pointer (some ⟨g, 0, none⟩) := hev 7 _ ((hl.2 7 (by kernel_rfl)).trans (by kernel_rfl))
    clear hd hl hev
    have hx := hX.out.below hJ (lt_of_block hX.out)
    obtain ⟨d0, d1, d2, -, -, -⟩ := hx.facts
    clear hx
    replace hJ := Lib.hid hJ
    go_simp
    exact hn _ _ (Below.refl _ _) rfl
  · intro y W next hl hJ hd hn
    refine Or.inl ⟨wanted_free rfl, fun ev ec ef hev => ?_⟩
    have e5 : ev (.tmp 5) = .string p := hev 5 _ ((hl.2 5 (by kernel_rfl)).trans (by kernel_rfl))
    clear hd hl hev
    replace hJ := Lib.hid hJ
    go_simp
    exact hn _ _ (Below.refl _ _) rfl
  · intro y W next hl hJ hd hn
    refine Or.inl ⟨wanted_free rfl, fun ev ec ef hev => ?_⟩
    have e6 : ev (.tmp 6) = .string t := hev 6 _ ((hl.2 6 (by kernel_rfl)).trans (by kernel_rfl))
    clear hd hl hev
    replace hJ := Lib.hid hJ
    go_simp
    exact hn _ _ (Below.refl _ _) rfl
  · intro y W next hl hJ hd hn
    refine Or.inl ⟨wanted_free rfl, fun ev ec ef hev => ?_⟩
    have e46 : ev (.tmp 46) =  (.string p) := hev 46 _ ((hl.1 1 46 (by kernel_rfl) (by kernel_rfl)).trans (congrArg some (show y 1 =  (.string p) from hd 1 (by kernel_rfl))))
    have e47 : ev (.tmp 47) =  (.string t) := hev 47 _ ((hl.1 2 47 (by kernel_rfl) (by kernel_rfl)).trans (congrArg some (show y 2 =  (.string t) from hd 2 (by kernel_rfl))))
    clear hd hl hev
    replace hJ := Lib.hid hJ
    go_simp
    refine (specFind_is p t (by omega) (by unfold maxLen; omega) r hr.out hv.out _).mono ?_
    rintro e w' ⟨rfl, hb⟩
    exact ⟨_, rfl, hn _ _ hb rfl⟩
  · intro y W next hl hJ hd hn
    refine Or.inl ⟨wanted_free rfl, fun ev ec ef hev => ?_⟩
    have e45 : ev (.tmp 45) =  (.agg #[.int .i64 ra, .int .i64 rb, .bool rc]) := hev 45 _ ((hl.1 0 45 (by kernel_rfl) (by kernel_rfl)).trans (congrArg some (show y 0 =  (.agg #[.int .i64 ra, .int .i64 rb, .bool rc]) from hd 0 (by kernel_rfl))))
    have e48 : ev (.tmp 48) =  (.agg #[.int .i64 ra, .int .i64 rb, .bool rc]) := hev 48 _ ((hl.1 3 48 (by kernel_rfl) (by kernel_rfl)).trans (congrArg some (show y 3 =  (.agg #[.int .i64 ra, .int .i64 rb, .bool rc]) from hd 3 (by kernel_rfl))))
    clear hd hl hev
    replace hJ := Lib.hid hJ
    go_simp
    exact hn _ _ (Below.refl _ _) rfl
  · intro y W next hl hJ hd hn
    refine Or.inl ⟨wanted_free rfl, fun ev ec ef hev => ?_⟩
    have e49 : ev (.tmp 49) =  (.bool false) := hev 49 _ ((hl.1 4 49 (by kernel_rfl) (by kernel_rfl)).trans (congrArg some (show y 4 =  (.bool false) from hd 4 (by kernel_rfl))))
    clear hd hl hev
    replace hJ := Lib.hid hJ
    go_simp
    exact hn _ _ (Below.refl _ _) rfl
  · intro y W next hl hJ hd hn
    refine Or.inl ⟨wanted_of (j := 5) (d := 50) rfl rfl rfl ((hl.1 5 50 (by kernel_rfl) (by kernel_rfl)).trans (congrArg some (show y 5 = .bool false from hd 5 (by kernel_rfl)))), fun ev ec ef hev => ?_⟩
    have e8 : ev (.tmp 8) = .string q := hev 8 _ ((hl.2 8 (by kernel_rfl)).trans (by kernel_rfl))
    clear hd hl hev
    replace hJ := Lib.hid hJ
    go_simp
    exact hn _ _ (Below.refl _ _) rfl
  · intro y W next hl hJ hd hn
    refine Or.inl ⟨wanted_of (j := 5) (d := 50) rfl rfl rfl ((hl.1 5 50 (by kernel_rfl) (by kernel_rfl)).trans (congrArg some (show y 5 = .bool false from hd 5 (by kernel_rfl)))), fun ev ec ef hev => ?_⟩
    have e9 : ev (.tmp 9) = .string u := hev 9 _ ((hl.2 9 (by kernel_rfl)).trans (by kernel_rfl))
    clear hd hl hev
    replace hJ := Lib.hid hJ
    go_simp
    exact hn _ _ (Below.refl _ _) rfl
  · intro y W next hl hJ hd hn
    refine Or.inl ⟨wanted_of (j := 5) (d := 50) rfl rfl rfl ((hl.1 5 50 (by kernel_rfl) (by kernel_rfl)).trans (congrArg some (show y 5 = .bool false from hd 5 (by kernel_rfl)))), fun ev ec ef hev => ?_⟩
    have e51 : ev (.tmp 51) =  (.string q) := hev 51 _ ((hl.1 6 51 (by kernel_rfl) (by kernel_rfl)).trans (congrArg some (show y 6 =  (.string q) from hd 6 (by kernel_rfl))))
    have e52 : ev (.tmp 52) =  (.string u) := hev 52 _ ((hl.1 7 52 (by kernel_rfl) (by kernel_rfl)).trans (congrArg some (show y 7 =  (.string u) from hd 7 (by kernel_rfl))))
    clear hd hl hev
    replace hJ := Lib.hid hJ
    go_simp
    refine (implAll_is q u (by unfold maxLen; omega) (by unfold maxLen; omega) bA hbA.out _).mono ?_
    rintro e w' ⟨rfl, hb⟩
    exact ⟨_, rfl, hn _ _ hb rfl⟩
  · intro y W next hl hJ hd hn
    refine Or.inl ⟨wanted_of (j := 5) (d := 50) rfl rfl rfl ((hl.1 5 50 (by kernel_rfl) (by kernel_rfl)).trans (congrArg some (show y 5 = .bool false from hd 5 (by kernel_rfl)))), fun ev ec ef hev => ?_⟩
    have e8 : ev (.tmp 8) = .string q := hev 8 _ ((hl.2 8 (by kernel_rfl)).trans (by kernel_rfl))
    clear hd hl hev
    replace hJ := Lib.hid hJ
    go_simp
    exact hn _ _ (Below.refl _ _) rfl
  · intro y W next hl hJ hd hn
    refine Or.inl ⟨wanted_of (j := 5) (d := 50) rfl rfl rfl ((hl.1 5 50 (by kernel_rfl) (by kernel_rfl)).trans (congrArg some (show y 5 = .bool false from hd 5 (by kernel_rfl)))), fun ev ec ef hev => ?_⟩
    have e9 : ev (.tmp 9) = .string u := hev 9 _ ((hl.2 9 (by kernel_rfl)).trans (by kernel_rfl))
    clear hd hl hev
    replace hJ := Lib.hid hJ
    go_simp
    exact hn _ _ (Below.refl _ _) rfl
  · intro y W next hl hJ hd hn
    refine Or.inl ⟨wanted_of (j := 5) (d := 50) rfl rfl rfl ((hl.1 5 50 (by kernel_rfl) (by kernel_rfl)).trans (congrArg some (show y 5 = .bool false from hd 5 (by kernel_rfl)))), fun ev ec ef hev => ?_⟩
    have e54 : ev (.tmp 54) =  (.string q) := hev 54 _ ((hl.1 9 54 (by kernel_rfl) (by kernel_rfl)).trans (congrArg some (show y 9 =  (.string q) from hd 9 (by kernel_rfl))))
    have e55 : ev (.tmp 55) =  (.string u) := hev 55 _ ((hl.1 10 55 (by kernel_rfl) (by kernel_rfl)).trans (congrArg some (show y 10 =  (.string u) from hd 10 (by kernel_rfl))))
    clear hd hl hev
    replace hJ := Lib.hid hJ
    go_simp
    refine (specAll_is q u (by omega) (by unfold maxLen; omega) bA hbA.out _).mono ?_
    rintro e w' ⟨rfl, hb⟩
    exact ⟨_, rfl, hn _ _ hb rfl⟩
  · intro y W next hl hJ hd hn
    refine Or.inl ⟨wanted_of (j := 5) (d := 50) rfl rfl rfl ((hl.1 5 50 (by kernel_rfl) (by kernel_rfl)).trans (congrArg some (show y 5 = .bool false from hd 5 (by kernel_rfl)))), fun ev ec ef hev => ?_⟩
    have e53 : ev (.tmp 53) =  (.bool bA) := hev 53 _ ((hl.1 8 53 (by kernel_rfl) (by kernel_rfl)).trans (congrArg some (show y 8 =  (.bool bA) from hd 8 (by kernel_rfl))))
    have e56 : ev (.tmp 56) =  (.bool bA) := hev 56 _ ((hl.1 11 56 (by kernel_rfl) (by kernel_rfl)).trans (congrArg some (show y 11 =  (.bool bA) from hd 11 (by kernel_rfl))))
    clear hd hl hev
    replace hJ := Lib.hid hJ
    go_simp
    exact hn _ _ (Below.refl _ _) rfl
  · intro y W next hl hJ hd hn
    refine Or.inl ⟨wanted_free rfl, fun ev ec ef hev => ?_⟩
    have e50 : ev (.tmp 50) =  (.bool false) := hev 50 _ ((hl.1 5 50 (by kernel_rfl) (by kernel_rfl)).trans (congrArg some (show y 5 =  (.bool false) from hd 5 (by kernel_rfl))))
    have e57 : ev (.tmp 57) =  (.bool false) := hev 57 _ ((hl.1 12 57 (by kernel_rfl) (by kernel_rfl)).trans (congrArg some (show y 12 =  (.bool false) from hd 12 (by kernel_rfl))))
    clear hd hl hev
    replace hJ := Lib.hid hJ
    go_simp
    exact hn _ _ (Below.refl _ _) rfl
  · intro y W next hl hJ hd hn
    refine Or.inl ⟨wanted_free rfl, fun ev ec ef hev => ?_⟩
    have e58 : ev (.tmp 58) =  (.bool false) := hev 58 _ ((hl.1 13 58 (by kernel_rfl) (by kernel_rfl)).trans (congrArg some (show y 13 =  (.bool false) from hd 13 (by kernel_rfl))))
    clear hd hl hev
    replace hJ := Lib.hid hJ
    go_simp
    exact hn _ _ (Below.refl _ _) rfl
  · intro y W next hl hJ hd hn
    refine Or.inl ⟨wanted_of (j := 14) (d := 59) rfl rfl rfl ((hl.1 14 59 (by kernel_rfl) (by kernel_rfl)).trans (congrArg some (show y 14 = .bool false from hd 14 (by kernel_rfl)))), fun ev ec ef hev => ?_⟩
    have e10 : ev (.tmp 10) = .bool bE := hev 10 _ ((hl.2 10 (by kernel_rfl)).trans (by kernel_rfl))
    clear hd hl hev
    replace hJ := Lib.hid hJ
    go_simp
    exact hn _ _ (Below.refl _ _) rfl
  · intro y W next hl hJ hd hn
    refine Or.inl ⟨wanted_of (j := 14) (d := 59) rfl rfl rfl ((hl.1 14 59 (by kernel_rfl) (by kernel_rfl)).trans (congrArg some (show y 14 = .bool false from hd 14 (by kernel_rfl)))), fun ev ec ef hev => ?_⟩
    have e8 : ev (.tmp 8) = .string q := hev 8 _ ((hl.2 8 (by kernel_rfl)).trans (by kernel_rfl))
    clear hd hl hev
    replace hJ := Lib.hid hJ
    go_simp
    exact hn _ _ (Below.refl _ _) rfl
  · intro y W next hl hJ hd hn
    refine Or.inl ⟨wanted_of (j := 14) (d := 59) rfl rfl rfl ((hl.1 14 59 (by kernel_rfl) (by kernel_rfl)).trans (congrArg some (show y 14 = .bool false from hd 14 (by kernel_rfl)))), fun ev ec ef hev => ?_⟩
    have e9 : ev (.tmp 9) = .string u := hev 9 _ ((hl.2 9 (by kernel_rfl)).trans (by kernel_rfl))
    clear hd hl hev
    replace hJ := Lib.hid hJ
    go_simp
    exact hn _ _ (Below.refl _ _) rfl
  · intro y W next hl hJ hd hn
    refine Or.inl ⟨wanted_of (j := 14) (d := 59) rfl rfl rfl ((hl.1 14 59 (by kernel_rfl) (by kernel_rfl)).trans (congrArg some (show y 14 = .bool false from hd 14 (by kernel_rfl)))), fun ev ec ef hev => ?_⟩
    have e61 : ev (.tmp 61) =  (.string q) := hev 61 _ ((hl.1 16 61 (by kernel_rfl) (by kernel_rfl)).trans (congrArg some (show y 16 =  (.string q) from hd 16 (by kernel_rfl))))
    have e62 : ev (.tmp 62) =  (.string u) := hev 62 _ ((hl.1 17 62 (by kernel_rfl) (by kernel_rfl)).trans (congrArg some (show y 17 =  (.string u) from hd 17 (by kernel_rfl))))
    clear hd hl hev
    replace hJ := Lib.hid hJ
    go_simp
    refine (specEnds_is q u (by omega) (by unfold maxLen; omega) bE hbE.out _).mono ?_
    rintro e w' ⟨rfl, hb⟩
    exact ⟨_, rfl, hn _ _ hb rfl⟩
  · intro y W next hl hJ hd hn
    refine Or.inl ⟨wanted_of (j := 14) (d := 59) rfl rfl rfl ((hl.1 14 59 (by kernel_rfl) (by kernel_rfl)).trans (congrArg some (show y 14 = .bool false from hd 14 (by kernel_rfl)))), fun ev ec ef hev => ?_⟩
    have e60 : ev (.tmp 60) =  (.bool bE) := hev 60 _ ((hl.1 15 60 (by kernel_rfl) (by kernel_rfl)).trans (congrArg some (show y 15 =  (.bool bE) from hd 15 (by kernel_rfl))))
    have e63 : ev (.tmp 63) =  (.bool bE) := hev 63 _ ((hl.1 18 63 (by kernel_rfl) (by kernel_rfl)).trans (congrArg some (show y 18 =  (.bool bE) from hd 18 (by kernel_rfl))))
    clear hd hl hev
    replace hJ := Lib.hid hJ
    go_simp
    exact hn _ _ (Below.refl _ _) rfl
  · intro y W next hl hJ hd hn
    refine Or.inl ⟨wanted_free rfl, fun ev ec ef hev => ?_⟩
    have e59 : ev (.tmp 59) =  (.bool false) := hev 59 _ ((hl.1 14 59 (by kernel_rfl) (by kernel_rfl)).trans (congrArg some (show y 14 =  (.bool false) from hd 14 (by kernel_rfl))))
    have e64 : ev (.tmp 64) =  (.bool false) := hev 64 _ ((hl.1 19 64 (by kernel_rfl) (by kernel_rfl)).trans (congrArg some (show y 19 =  (.bool false) from hd 19 (by kernel_rfl))))
    clear hd hl hev
    replace hJ := Lib.hid hJ
    go_simp
    exact hn _ _ (Below.refl _ _) rfl
  · intro y W next hl hJ hd hn
    refine Or.inl ⟨wanted_free rfl, fun ev ec ef hev => ?_⟩
    have e65 : ev (.tmp 65) =  (.bool false) := hev 65 _ ((hl.1 20 65 (by kernel_rfl) (by kernel_rfl)).trans (congrArg some (show y 20 =  (.bool false) from hd 20 (by kernel_rfl))))
    clear hd hl hev
    replace hJ := Lib.hid hJ
    go_simp
    exact hn _ _ (Below.refl _ _) rfl
  · intro y W next hl hJ hd hn
    refine Or.inl ⟨wanted_of (j := 21) (d := 66) rfl rfl rfl ((hl.1 21 66 (by kernel_rfl) (by kernel_rfl)).trans (congrArg some (show y 21 = .bool false from hd 21 (by kernel_rfl)))), fun ev ec ef hev => ?_⟩
    have e12 : ev (.tmp 12) = .string gs := hev 12 _ ((hl.2 12 (by kernel_rfl)).trans (by kernel_rfl))
    clear hd hl hev
    replace hJ := Lib.hid hJ
    go_simp
    exact hn _ _ (Below.refl _ _) rfl
  · intro y W next hl hJ hd hn
    refine Or.inl ⟨wanted_of (j := 21) (d := 66) rfl rfl rfl ((hl.1 21 66 (by kernel_rfl) (by kernel_rfl)).trans (congrArg some (show y 21 = .bool false from hd 21 (by kernel_rfl)))), fun ev ec ef hev => ?_⟩
    have e11 : ev (.tmp 11) = .string wv := hev 11 _ ((hl.2 11 (by kernel_rfl)).trans (by kernel_rfl))
    clear hd hl hev
    replace hJ := Lib.hid hJ
    go_simp
    exact hn _ _ (Below.refl _ _) rfl
  · intro y W next hl hJ hd hn
    refine Or.inl ⟨wanted_of (j := 21) (d := 66) rfl rfl rfl ((hl.1 21 66 (by kernel_rfl) (by kernel_rfl)).trans (congrArg some (show y 21 = .bool false from hd 21 (by kernel_rfl)))), fun ev ec ef hev => ?_⟩
    have e68 : ev (.tmp 68) =  (.string wv) := hev 68 _ ((hl.1 23 68 (by kernel_rfl) (by kernel_rfl)).trans (congrArg some (show y 23 =  (.string wv) from hd 23 (by kernel_rfl))))
    clear hd hl hev
    replace hJ := Lib.hid hJ
    go_simp
    refine (specQuote_is wv gs (by omega) hgs.out _).mono ?_
    rintro e w' ⟨rfl, hb⟩
    exact ⟨_, rfl, hn _ _ hb rfl⟩
  · intro y W next hl hJ hd hn
    refine Or.inl ⟨wanted_of (j := 21) (d := 66) rfl rfl rfl ((hl.1 21 66 (by kernel_rfl) (by kernel_rfl)).trans (congrArg some (show y 21 = .bool false from hd 21 (by kernel_rfl)))), fun ev ec ef hev => ?_⟩
    have e67 : ev (.tmp 67) =  (.string gs) := hev 67 _ ((hl.1 22 67 (by kernel_rfl) (by kernel_rfl)).trans (congrArg some (show y 22 =  (.string gs) from hd 22 (by kernel_rfl))))
    have e69 : ev (.tmp 69) =  (.string gs) := hev 69 _ ((hl.1 24 69 (by kernel_rfl) (by kernel_rfl)).trans (congrArg some (show y 24 =  (.string gs) from hd 24 (by kernel_rfl))))
    clear hd hl hev
    replace hJ := Lib.hid hJ
    go_simp
    exact hn _ _ (Below.refl _ _) rfl
  · intro y W next hl hJ hd hn
    refine Or.inl ⟨wanted_free rfl, fun ev ec ef hev => ?_⟩
    have e66 : ev (.tmp 66) =  (.bool false) := hev 66 _ ((hl.1 21 66 (by kernel_rfl) (by kernel_rfl)).trans (congrArg some (show y 21 =  (.bool false) from hd 21 (by kernel_rfl))))
    have e70 : ev (.tmp 70) =  (.bool false) := hev 70 _ ((hl.1 25 70 (by kernel_rfl) (by kernel_rfl)).trans (congrArg some (show y 25 =  (.bool false) from hd 25 (by kernel_rfl))))
    clear hd hl hev
    replace hJ := Lib.hid hJ
    go_simp
    exact hn _ _ (Below.refl _ _) rfl
  · intro y W next hl hJ hd hn
    refine Or.inl ⟨wanted_free rfl, fun ev ec ef hev => ?_⟩
    have e71 : ev (.tmp 71) =  (.bool false) := hev 71 _ ((hl.1 26 71 (by kernel_rfl) (by kernel_rfl)).trans (congrArg some (show y 26 =  (.bool false) from hd 26 (by kernel_rfl))))
    clear hd hl hev
    replace hJ := Lib.hid hJ
    go_simp
    exact hn _ _ (Below.refl _ _) rfl
  · intro y W next hl hJ hd hn
    refine Or.inl ⟨wanted_of (j := 27) (d := 72) rfl rfl rfl ((hl.1 27 72 (by kernel_rfl) (by kernel_rfl)).trans (congrArg some (show y 27 = .bool false from hd 27 (by kernel_rfl)))), fun ev ec ef hev => ?_⟩
    have e5 : ev (.tmp 5) = .string p := hev 5 _ ((hl.2 5 (by kernel_rfl)).trans (by kernel_rfl))
    clear hd hl hev
    replace hJ := Lib.hid hJ
    go_simp
    exact hn _ _ (Below.refl _ _) rfl
  · intro y W next hl hJ hd hn
    refine Or.inl ⟨wanted_of (j := 27) (d := 72) rfl rfl rfl ((hl.1 27 72 (by kernel_rfl) (by kernel_rfl)).trans (congrArg some (show y 27 = .bool false from hd 27 (by kernel_rfl)))), fun ev ec ef hev => ?_⟩
    have e73 : ev (.tmp 73) =  (.string p) := hev 73 _ ((hl.1 28 73 (by kernel_rfl) (by kernel_rfl)).trans (congrArg some (show y 28 =  (.string p) from hd 28 (by kernel_rfl))))
    clear hd hl hev
    replace hJ := Lib.hid hJ
    go_simp
    refine (implRight_is p (by unfold maxLen; omega) ok hok.out _).mono ?_
    rintro e w' ⟨rfl, hb⟩
    exact ⟨_, rfl, hn _ _ hb rfl⟩
  · intro y W next hl hJ hd hn
    refine Or.inl ⟨wanted_of (j := 27) (d := 72) rfl rfl rfl ((hl.1 27 72 (by kernel_rfl) (by kernel_rfl)).trans (congrArg some (show y 27 = .bool false from hd 27 (by kernel_rfl)))), fun ev ec ef hev => ?_⟩
    have e5 : ev (.tmp 5) = .string p := hev 5 _ ((hl.2 5 (by kernel_rfl)).trans (by kernel_rfl))
    clear hd hl hev
    replace hJ := Lib.hid hJ
    go_simp
    exact hn _ _ (Below.refl _ _) rfl
  · intro y W next hl hJ hd hn
    refine Or.inl ⟨wanted_of (j := 27) (d := 72) rfl rfl rfl ((hl.1 27 72 (by kernel_rfl) (by kernel_rfl)).trans (congrArg some (show y 27 = .bool false from hd 27 (by kernel_rfl)))), fun ev ec ef hev => ?_⟩
    have e75 : ev (.tmp 75) =  (.string p) := hev 75 _ ((hl.1 30 75 (by kernel_rfl) (by kernel_rfl)).trans (congrArg some (show y 30 =  (.string p) from hd 30 (by kernel_rfl))))
    clear hd hl hev
    replace hJ := Lib.hid hJ
    go_simp
    refine (specRight_is p (by omega) ok hok.out _).mono ?_
    rintro e w' ⟨rfl, hb⟩
    exact ⟨_, rfl, hn _ _ hb rfl⟩
  · intro y W next hl hJ hd hn
    refine Or.inl ⟨wanted_of (j := 27) (d := 72) rfl rfl rfl ((hl.1 27 72 (by kernel_rfl) (by kernel_rfl)).trans (congrArg some (show y 27 = .bool false from hd 27 (by kernel_rfl)))), fun ev ec ef hev => ?_⟩
    have e74 : ev (.tmp 74) =  (.bool ok) := hev 74 _ ((hl.1 29 74 (by kernel_rfl) (by kernel_rfl)).trans (congrArg some (show y 29 =  (.bool ok) from hd 29 (by kernel_rfl))))
    have e76 : ev (.tmp 76) =  (.bool ok) := hev 76 _ ((hl.1 31 76 (by kernel_rfl) (by kernel_rfl)).trans (congrArg some (show y 31 =  (.bool ok) from hd 31 (by kernel_rfl))))
    clear hd hl hev
    replace hJ := Lib.hid hJ
    go_simp
    exact hn _ _ (Below.refl _ _) rfl
  · intro y W next hl hJ hd hn
    refine Or.inl ⟨wanted_free rfl, fun ev ec ef hev => ?_⟩
    have e72 : ev (.tmp 72) =  (.bool false) := hev 72 _ ((hl.1 27 72 (by kernel_rfl) (by kernel_rfl)).trans (congrArg some (show y 27 =  (.bool false) from hd 27 (by kernel_rfl))))
    have e77 : ev (.tmp 77) =  (.bool false) := hev 77 _ ((hl.1 32 77 (by kernel_rfl) (by kernel_rfl)).trans (congrArg some (show y 32 =  (.bool false) from hd 32 (by kernel_rfl))))
    clear hd hl hev
    replace hJ := Lib.hid hJ
    go_simp
    exact hn _ _ (Below.refl _ _) rfl

  · intro y w7 hb hall
    have hy : y 33 = .bool false := hall 33 (by decide)
    replace hW := Lib.hid (below_then hW.out hb (Nat.le_refl _)); replace hX := Lib.hid (hX.out.below hb (lt_of_block hX.out)); 
    clear hall hb
    simp only [lay_cons, lay_nil]
    rw [hy]
    clear hy
    simp only [Act.put, List.setIfInBounds_toArray]
    simp only [List.set_cons_succ, List.set_cons_zero]
    have hR := Lib.hid (span_parts hv.out)
    have hu8 : u.data.toList.length ≤ 8000 := by rw [size_data]; omega
    have ht8 : t.data.toList.length ≤ 8000 := by rw [size_data]; omega
    replace hu8 := Lib.hid hu8
    replace ht8 := Lib.hid ht8
    go_wp2
    go_loopw [13, 14] (fun b i wr => ∃ (f : Nat) (e : Bool), f ≤ u.size + 1 ∧ i = .int .i64 (f : Int) ∧ b = .bool e ∧ Hid (e = true ↔ ∃ f', f' < f ∧ Means q.data.toList (u.data.toList.drop f')) ∧ Hid (Below w.heap.size w wr) ∧ Hid (Trio wr g 26 (.int .i64 ra) (.int .i64 rb) (.bool rc))) (fun _ i _ => u.size + 1 - (intOf i).toNat)
    case atStart => exact ⟨0, false, by omega, rfl, rfl, Lib.hid ⟨fun h => (by cases h), fun ⟨f', h, _⟩ => by omega⟩, hW, hX⟩
    case round =>
      clear hW hX
      obtain ⟨f, e, hf, rfl, rfl, he, hW, hX⟩ := hrel
      by_cases hlt : f ≤ u.size
      · cases e
        · obtain ⟨b2, hb2⟩ := bool_of (Means q.data.toList (u.data.toList.drop f))
          have hm := Lib.hid (show b2 = true ↔ Means q.data.toList (u.extract f u.size).data.toList by rw [Lib.extract_to_end]; exact hb2)
          have hsl : (u.extract f u.size).size ≤ 41 := by rw [ByteArray.size_extract]; omega
          have hst := Lib.hid (some_step (P := fun f' => Means q.data.toList (u.data.toList.drop f')) he.out hb2)
          replace hsl := Lib.hid hsl
          clear hb2
          go_wp2_with (go_at_call 17; refine (specAll_is q (u.extract f u.size) (by omega) (by have := hsl.out; unfold maxLen; omega) b2 hm.out _).mono ?_; rintro e w8 ⟨rfl, hb⟩; replace hW := Lib.hid (below_then hW.out hb (Nat.le_refl _)); replace hX := Lib.hid (hX.out.below hb (lt_of_block hX.out)); clear hb)
          go_roundw
          case rel =>
            refine ⟨_, _, _, _, _, _, _, _, _, _, _, _, _, _, _, _, ?_, rfl⟩
            exact ⟨f + 1, b2, by omega, by go_num, rfl, hst, hW, hX⟩
          case measure => simp [intOf]; omega
        · have hst := Lib.hid (true_step (P := fun f' => Means q.data.toList (u.data.toList.drop f')) he.out)
          go_wp2
          go_roundw
          case rel => exact ⟨f + 1, true, by omega, by go_num, rfl, hst, hW, hX⟩
          case measure => simp [intOf]; omega
      · obtain rfl : f = u.size + 1 := by omega
        obtain rfl : e = bE := SaysB.unique he.out (by rw [ends_some hu8.out, size_data] at hbE; exact hbE.out)
        clear he hbE
        have hlt' : (u.size : Int) < (u.size : Int) + 1 := by omega
        by_cases hg0 : quoteT wv.data.toList = []
        · obtain rfl : gs = ⟨#[]⟩ := by
            have := hgs.out
            rw [hg0] at this
            cases this; rfl
          replace hg0 := Lib.hid hg0
          go_wp2
          go_loopw [15] (fun i wr => ∃ f : Nat, f ≤ t.size + 1 ∧ i = .int .i64 (f : Int) ∧ Hid (Below w.heap.size w wr) ∧ Hid (Trio wr g 26 (.int .i64 ra) (.int .i64 rb) (.bool rc))) (fun i _ => t.size + 1 - (intOf i).toNat)
          case atStart => exact ⟨0, by omega, rfl, hW, hX⟩
          case round =>
            clear hW hX
            obtain ⟨f, hf2, rfl, hW, hX⟩ := hrel
            obtain ⟨wo, rfl⟩ : ∃ wo : World, wo = wr := ⟨_, rfl⟩
            by_cases hlt : f ≤ t.size
            · go_wp2
              go_loopw [16] (fun i wi => ∃ k : Nat, f ≤ k ∧ k ≤ t.size + 1 ∧ i = .int .i64 (k : Int) ∧ Hid (Below w.heap.size w wi) ∧ Hid (Trio wi g 26 (.int .i64 ra) (.int .i64 rb) (.bool rc))) (fun i _ => t.size + 1 - (intOf i).toNat)
              case atStart => exact ⟨f, Nat.le_refl _, by omega, rfl, hW, hX⟩
              case round =>
                clear hW hX
                obtain ⟨k, hfk, hk2, rfl, hW, hX⟩ := hrel
                by_cases hlk : k ≤ t.size
                · obtain ⟨b2, hb2⟩ := bool_of (Means p.data.toList ((t.data.toList.take k).drop f))
                  have hm := Lib.hid (show b2 = true ↔ Means p.data.toList (t.extract f k).data.toList by rw [Lib.extract_data, ← List.drop_take]; exact hb2)
                  have hsl := Lib.hid (show (t.extract f k).size ≤ 41 by rw [ByteArray.size_extract]; omega)
                  cases b2
                  · clear hb2
                    go_wp2_with (go_at_call 17; refine (specAll_is p (t.extract f k) (by omega) (by have := hsl.out; unfold maxLen; omega) false hm.out _).mono ?_; rintro e w12 ⟨rfl, hb⟩; replace hW := Lib.hid (below_then hW.out hb (Nat.le_refl _)); replace hX := Lib.hid (hX.out.below hb (lt_of_block hX.out)); clear hb)
                    go_roundw
                    case rel => first | exact ⟨k + 1, by omega, by omega, by go_num, hW, hX⟩ | ((repeat apply Exists.intro); exact ⟨⟨k + 1, by omega, by omega, by go_num, hW, hX⟩, rfl⟩)
                    case measure => simp [intOf]; omega
                  · have hfb := Lib.hid (span_bound hr.out ht8.out (by rw [size_data]; exact hlk) hfk (hb2.1 rfl) hR.out)
                    clear hb2
                    by_cases hfr : (f : Int) = ra
                    · have hn2 : ((f : Int) == ra) = true := by simp [hfr]
                      have hn3 : ¬ rb < (k : Int) := hfb.out.2.2 hfr
                      replace hfr := Lib.hid hfr
                      go_wp2_with (go_at_call 17; refine (specAll_is p (t.extract f k) (by omega) (by have := hsl.out; unfold maxLen; omega) true hm.out _).mono ?_; rintro e w12 ⟨rfl, hb⟩; replace hW := Lib.hid (below_then hW.out hb (Nat.le_refl _)); replace hX := Lib.hid (hX.out.below hb (lt_of_block hX.out)); clear hb; obtain ⟨d0, d1, d2, -, -, -⟩ := hX.out.facts; rw [hfb.out.1] at d2; have hn1 : ¬ (f : Int) < ra := hfb.out.2.1)
                      go_roundw
                      case rel => first | exact ⟨k + 1, by omega, by omega, by go_num, hW, hX⟩ | ((repeat apply Exists.intro); exact ⟨⟨k + 1, by omega, by omega, by go_num, hW, hX⟩, rfl⟩)
                      case measure => simp [intOf]; omega
                    · have hn2 : ((f : Int) == ra) = false := by rw [beq_eq_false_iff_ne]; exact hfr
                      replace hfr := Lib.hid hfr
                      go_wp2_with (go_at_call 17; refine (specAll_is p (t.extract f k) (by omega) (by have := hsl.out; unfold maxLen; omega) true hm.out _).mono ?_; rintro e w12 ⟨rfl, hb⟩; replace hW := Lib.hid (below_then hW.out hb (Nat.le_refl _)); replace hX := Lib.hid (hX.out.below hb (lt_of_block hX.out)); clear hb; obtain ⟨d0, d1, d2, -, -, -⟩ := hX.out.facts; rw [hfb.out.1] at d2; have hn1 : ¬ (f : Int) < ra := hfb.out.2.1)
                      go_roundw
                      case rel => first | exact ⟨k + 1, by omega, by omega, by go_num, hW, hX⟩ | ((repeat apply Exists.intro); exact ⟨⟨k + 1, by omega, by omega, by go_num, hW, hX⟩, rfl⟩)
                      case measure => simp [intOf]; omega
                · have hgk : (t.size : Int) < (k : Int) := by omega
                  go_wp2
                  go_roundw
                  case rel => first | exact ⟨f + 1, by omega, by go_num, hW, hX⟩ | ((repeat apply Exists.intro); exact ⟨⟨f + 1, by omega, by go_num, hW, hX⟩, rfl⟩)
                  case measure => simp [intOf]; omega
            · have hgf : (t.size : Int) < (f : Int) := by omega
              obtain ⟨d0, d1, d2, -, -, -⟩ := hX.out.facts
              rcases hR.out with ⟨h1, h2⟩ | ⟨z, h1, h2, h3, h4⟩
              · rw [h2] at d2
                clear h1 h2
                go_wp2
                go_ret
                exact ⟨rfl, hW.out⟩
              · rw [h2] at d0
                rw [h3] at d1
                rw [h4] at d2
                have hfm := Lib.hid (find_means (by rw [← h1]; exact hr.out) ht8.out)
                have hz12 : z.1 ≤ z.2 := hfm.out.1
                have hz2t : z.2 ≤ t.size := by have := hfm.out.2.1; rw [size_data] at this; exact this
                have hm := Lib.hid (show (true = true) ↔ Means p.data.toList (t.extract z.1 z.2).data.toList by rw [Lib.extract_data, ← List.drop_take]; exact ⟨fun _ => hfm.out.2.2, fun _ => rfl⟩)
                have hsl := Lib.hid (show (t.extract z.1 z.2).size ≤ 41 by rw [ByteArray.size_extract]; omega)
                clear h1 h2 h3 h4
                go_wp2_with (go_at_call 16; refine (implAll_is p (t.extract z.1 z.2) (by unfold maxLen; omega) (by have := hsl.out; unfold maxLen; omega) true hm.out _).mono ?_; rintro e w13 ⟨rfl, hb⟩; replace hW := Lib.hid (below_then hW.out hb (Nat.le_refl _)); clear hb)
                go_ret
                exact ⟨rfl, hW.out⟩
        · have hgd : gs.data.toList = quoteT wv.data.toList := by
            have := hgs.out
            unfold strV at this
            injection this with this
            rw [← this]
          have hgz : gs.size ≤ 40 := by
            have h := size_data gs
            rw [hgd] at h
            rw [← h]
            unfold quoteT
            split
            · rename_i h; exact h.2
            · simp
          have hgne : ¬ gs = ⟨#[]⟩ := fun h => hg0 (by rw [← hgd, h])
          have hq := fun (v : ByteArray) (h : v.data.toList.length ≤ 8000) => (quote_means (w := wv.data.toList) (v := v.data.toList) hg0 h)
          have hz1 := Lib.hid (show (true = true) ↔ Means gs.data.toList wv.data.toList from ⟨fun _ => by rw [hgd]; exact (hq wv (by rw [size_data]; omega)).2 rfl, fun _ => rfl⟩)
          obtain ⟨wx, hwx⟩ : ∃ wx : ByteArray, wx = wv ++ ⟨#[120]⟩ := ⟨_, rfl⟩
          have hwl : wx.size = wv.size + 1 := by rw [hwx, concat_size]; rfl
          have hz2 := Lib.hid (show (false = true) ↔ Means gs.data.toList wx.data.toList from ⟨fun h => (by cases h), fun h => by
            rw [hgd, hq _ (by rw [size_data]; omega)] at h
            have h2 := congrArg List.length h
            rw [size_data, size_data] at h2
            omega⟩)
          have hz3 := Lib.hid (show ¬ u = wv → ((false = true) ↔ Means gs.data.toList u.data.toList) from fun hne => ⟨fun h => (by cases h), fun h => by
            rw [hgd, hq _ (by rw [size_data]; omega)] at h
            exact (hne (data_ext h)).elim⟩)
          have hadd := fun (W : World) => (show (Op.stringOp .add wv ⟨#[120]⟩).run Try.prog W = .ok (.string wx) W by rw [hwx]; exact run_string_add_sum (P := Try.prog) W wv ⟨#[120]⟩ (by show wv.size + 1 ≤ _; omega))
          have hcs : wx.size ≤ 43 := by omega
          replace hwx := Lib.hid hwx
          replace hwl := Lib.hid hwl
          have hg1 := str_other hgne
          have hg2 := str_full hgne
          have hg3 := str_full2 hgne
          clear hgd hq hgne
          replace hg0 := Lib.hid hg0
          by_cases huw : u = wv
          · have huw' : (u.toList == wv.toList) = true := by rw [huw]; simp
            replace huw := Lib.hid huw
            go_wp2_with (first | (go_at_call_of 16 (Value.string wv); refine (implAll_is gs wv (by unfold maxLen; omega) (by unfold maxLen; omega) true hz1.out _).mono ?_; rintro e w9 ⟨rfl, hb⟩; replace hW := Lib.hid (below_then hW.out hb (Nat.le_refl _)); replace hX := Lib.hid (hX.out.below hb (lt_of_block hX.out)); clear hb) | (go_at_call_of 16 (Value.string wx); refine (implAll_is gs wx (by unfold maxLen; omega) (by unfold maxLen; omega) false hz2.out _).mono ?_; rintro e w10 ⟨rfl, hb⟩; replace hW := Lib.hid (below_then hW.out hb (Nat.le_refl _)); replace hX := Lib.hid (hX.out.below hb (lt_of_block hX.out)); clear hb))
            go_loopw [15] (fun i wr => ∃ f : Nat, f ≤ t.size + 1 ∧ i = .int .i64 (f : Int) ∧ Hid (Below w.heap.size w wr) ∧ Hid (Trio wr g 26 (.int .i64 ra) (.int .i64 rb) (.bool rc))) (fun i _ => t.size + 1 - (intOf i).toNat)
            case atStart => exact ⟨0, by omega, rfl, hW, hX⟩
            case round =>
              clear hW hX
              obtain ⟨f, hf2, rfl, hW, hX⟩ := hrel
              obtain ⟨wo, rfl⟩ : ∃ wo : World, wo = wr := ⟨_, rfl⟩
              by_cases hlt : f ≤ t.size
              · go_wp2
                go_loopw [16] (fun i wi => ∃ k : Nat, f ≤ k ∧ k ≤ t.size + 1 ∧ i = .int .i64 (k : Int) ∧ Hid (Below w.heap.size w wi) ∧ Hid (Trio wi g 26 (.int .i64 ra) (.int .i64 rb) (.bool rc))) (fun i _ => t.size + 1 - (intOf i).toNat)
                case atStart => exact ⟨f, Nat.le_refl _, by omega, rfl, hW, hX⟩
                case round =>
                  clear hW hX
                  obtain ⟨k, hfk, hk2, rfl, hW, hX⟩ := hrel
                  by_cases hlk : k ≤ t.size
                  · obtain ⟨b2, hb2⟩ := bool_of (Means p.data.toList ((t.data.toList.take k).drop f))
                    have hm := Lib.hid (show b2 = true ↔ Means p.data.toList (t.extract f k).data.toList by rw [Lib.extract_data, ← List.drop_take]; exact hb2)
                    have hsl := Lib.hid (show (t.extract f k).size ≤ 41 by rw [ByteArray.size_extract]; omega)
                    cases b2
                    · clear hb2
                      go_wp2_with (go_at_call 17; refine (specAll_is p (t.extract f k) (by omega) (by have := hsl.out; unfold maxLen; omega) false hm.out _).mono ?_; rintro e w12 ⟨rfl, hb⟩; replace hW := Lib.hid (below_then hW.out hb (Nat.le_refl _)); replace hX := Lib.hid (hX.out.below hb (lt_of_block hX.out)); clear hb)
                      go_roundw
                      case rel => first | exact ⟨k + 1, by omega, by omega, by go_num, hW, hX⟩ | ((repeat apply Exists.intro); exact ⟨⟨k + 1, by omega, by omega, by go_num, hW, hX⟩, rfl⟩)
                      case measure => simp [intOf]; omega
                    · have hfb := Lib.hid (span_bound hr.out ht8.out (by rw [size_data]; exact hlk) hfk (hb2.1 rfl) hR.out)
                      clear hb2
                      by_cases hfr : (f : Int) = ra
                      · have hn2 : ((f : Int) == ra) = true := by simp [hfr]
                        have hn3 : ¬ rb < (k : Int) := hfb.out.2.2 hfr
                        replace hfr := Lib.hid hfr
                        go_wp2_with (go_at_call 17; refine (specAll_is p (t.extract f k) (by omega) (by have := hsl.out; unfold maxLen; omega) true hm.out _).mono ?_; rintro e w12 ⟨rfl, hb⟩; replace hW := Lib.hid (below_then hW.out hb (Nat.le_refl _)); replace hX := Lib.hid (hX.out.below hb (lt_of_block hX.out)); clear hb; obtain ⟨d0, d1, d2, -, -, -⟩ := hX.out.facts; rw [hfb.out.1] at d2; have hn1 : ¬ (f : Int) < ra := hfb.out.2.1)
                        go_roundw
                        case rel => first | exact ⟨k + 1, by omega, by omega, by go_num, hW, hX⟩ | ((repeat apply Exists.intro); exact ⟨⟨k + 1, by omega, by omega, by go_num, hW, hX⟩, rfl⟩)
                        case measure => simp [intOf]; omega
                      · have hn2 : ((f : Int) == ra) = false := by rw [beq_eq_false_iff_ne]; exact hfr
                        replace hfr := Lib.hid hfr
                        go_wp2_with (go_at_call 17; refine (specAll_is p (t.extract f k) (by omega) (by have := hsl.out; unfold maxLen; omega) true hm.out _).mono ?_; rintro e w12 ⟨rfl, hb⟩; replace hW := Lib.hid (below_then hW.out hb (Nat.le_refl _)); replace hX := Lib.hid (hX.out.below hb (lt_of_block hX.out)); clear hb; obtain ⟨d0, d1, d2, -, -, -⟩ := hX.out.facts; rw [hfb.out.1] at d2; have hn1 : ¬ (f : Int) < ra := hfb.out.2.1)
                        go_roundw
                        case rel => first | exact ⟨k + 1, by omega, by omega, by go_num, hW, hX⟩ | ((repeat apply Exists.intro); exact ⟨⟨k + 1, by omega, by omega, by go_num, hW, hX⟩, rfl⟩)
                        case measure => simp [intOf]; omega
                  · have hgk : (t.size : Int) < (k : Int) := by omega
                    go_wp2
                    go_roundw
                    case rel => first | exact ⟨f + 1, by omega, by go_num, hW, hX⟩ | ((repeat apply Exists.intro); exact ⟨⟨f + 1, by omega, by go_num, hW, hX⟩, rfl⟩)
                    case measure => simp [intOf]; omega
              · have hgf : (t.size : Int) < (f : Int) := by omega
                obtain ⟨d0, d1, d2, -, -, -⟩ := hX.out.facts
                rcases hR.out with ⟨h1, h2⟩ | ⟨z, h1, h2, h3, h4⟩
                · rw [h2] at d2
                  clear h1 h2
                  go_wp2
                  go_ret
                  exact ⟨rfl, hW.out⟩
                · rw [h2] at d0
                  rw [h3] at d1
                  rw [h4] at d2
                  have hfm := Lib.hid (find_means (by rw [← h1]; exact hr.out) ht8.out)
                  have hz12 : z.1 ≤ z.2 := hfm.out.1
                  have hz2t : z.2 ≤ t.size := by have := hfm.out.2.1; rw [size_data] at this; exact this
                  have hm := Lib.hid (show (true = true) ↔ Means p.data.toList (t.extract z.1 z.2).data.toList by rw [Lib.extract_data, ← List.drop_take]; exact ⟨fun _ => hfm.out.2.2, fun _ => rfl⟩)
                  have hsl := Lib.hid (show (t.extract z.1 z.2).size ≤ 41 by rw [ByteArray.size_extract]; omega)
                  clear h1 h2 h3 h4
                  go_wp2_with (go_at_call 16; refine (implAll_is p (t.extract z.1 z.2) (by unfold maxLen; omega) (by have := hsl.out; unfold maxLen; omega) true hm.out _).mono ?_; rintro e w13 ⟨rfl, hb⟩; replace hW := Lib.hid (below_then hW.out hb (Nat.le_refl _)); clear hb)
                  go_ret
                  exact ⟨rfl, hW.out⟩
          · have huw' := str_other huw
            have hz4 := Lib.hid (hz3.out huw)
            replace huw := Lib.hid huw
            go_wp2_with (first | (go_at_call_of 16 (Value.string wv); refine (implAll_is gs wv (by unfold maxLen; omega) (by unfold maxLen; omega) true hz1.out _).mono ?_; rintro e w9 ⟨rfl, hb⟩; replace hW := Lib.hid (below_then hW.out hb (Nat.le_refl _)); replace hX := Lib.hid (hX.out.below hb (lt_of_block hX.out)); clear hb) | (go_at_call_of 16 (Value.string wx); refine (implAll_is gs wx (by unfold maxLen; omega) (by unfold maxLen; omega) false hz2.out _).mono ?_; rintro e w10 ⟨rfl, hb⟩; replace hW := Lib.hid (below_then hW.out hb (Nat.le_refl _)); replace hX := Lib.hid (hX.out.below hb (lt_of_block hX.out)); clear hb) | (go_at_call_of 16 (Value.string u); refine (implAll_is gs u (by unfold maxLen; omega) (by unfold maxLen; omega) false hz4.out _).mono ?_; rintro e w11 ⟨rfl, hb⟩; replace hW := Lib.hid (below_then hW.out hb (Nat.le_refl _)); replace hX := Lib.hid (hX.out.below hb (lt_of_block hX.out)); clear hb))
            go_loopw [15] (fun i wr => ∃ f : Nat, f ≤ t.size + 1 ∧ i = .int .i64 (f : Int) ∧ Hid (Below w.heap.size w wr) ∧ Hid (Trio wr g 26 (.int .i64 ra) (.int .i64 rb) (.bool rc))) (fun i _ => t.size + 1 - (intOf i).toNat)
            case atStart => exact ⟨0, by omega, rfl, hW, hX⟩
            case round =>
              clear hW hX
              obtain ⟨f, hf2, rfl, hW, hX⟩ := hrel
              obtain ⟨wo, rfl⟩ : ∃ wo : World, wo = wr := ⟨_, rfl⟩
              by_cases hlt : f ≤ t.size
              · go_wp2
                go_loopw [16] (fun i wi => ∃ k : Nat, f ≤ k ∧ k ≤ t.size + 1 ∧ i = .int .i64 (k : Int) ∧ Hid (Below w.heap.size w wi) ∧ Hid (Trio wi g 26 (.int .i64 ra) (.int .i64 rb) (.bool rc))) (fun i _ => t.size + 1 - (intOf i).toNat)
                case atStart => exact ⟨f, Nat.le_refl _, by omega, rfl, hW, hX⟩
                case round =>
                  clear hW hX
                  obtain ⟨k, hfk, hk2, rfl, hW, hX⟩ := hrel
                  by_cases hlk : k ≤ t.size
                  · obtain ⟨b2, hb2⟩ := bool_of (Means p.data.toList ((t.data.toList.take k).drop f))
                    have hm := Lib.hid (show b2 = true ↔ Means p.data.toList (t.extract f k).data.toList by rw [Lib.extract_data, ← List.drop_take]; exact hb2)
                    have hsl := Lib.hid (show (t.extract f k).size ≤ 41 by rw [ByteArray.size_extract]; omega)
                    cases b2
                    · clear hb2
                      go_wp2_with (go_at_call 17; refine (specAll_is p (t.extract f k) (by omega) (by have := hsl.out; unfold maxLen; omega) false hm.out _).mono ?_; rintro e w12 ⟨rfl, hb⟩; replace hW := Lib.hid (below_then hW.out hb (Nat.le_refl _)); replace hX := Lib.hid (hX.out.below hb (lt_of_block hX.out)); clear hb)
                      go_roundw
                      case rel => first | exact ⟨k + 1, by omega, by omega, by go_num, hW, hX⟩ | ((repeat apply Exists.intro); exact ⟨⟨k + 1, by omega, by omega, by go_num, hW, hX⟩, rfl⟩)
                      case measure => simp [intOf]; omega
                    · have hfb := Lib.hid (span_bound hr.out ht8.out (by rw [size_data]; exact hlk) hfk (hb2.1 rfl) hR.out)
                      clear hb2
                      by_cases hfr : (f : Int) = ra
                      · have hn2 : ((f : Int) == ra) = true := by simp [hfr]
                        have hn3 : ¬ rb < (k : Int) := hfb.out.2.2 hfr
                        replace hfr := Lib.hid hfr
                        go_wp2_with (go_at_call 17; refine (specAll_is p (t.extract f k) (by omega) (by have := hsl.out; unfold maxLen; omega) true hm.out _).mono ?_; rintro e w12 ⟨rfl, hb⟩; replace hW := Lib.hid (below_then hW.out hb (Nat.le_refl _)); replace hX := Lib.hid (hX.out.below hb (lt_of_block hX.out)); clear hb; obtain ⟨d0, d1, d2, -, -, -⟩ := hX.out.facts; rw [hfb.out.1] at d2; have hn1 : ¬ (f : Int) < ra := hfb.out.2.1)
                        go_roundw
                        case rel => first | exact ⟨k + 1, by omega, by omega, by go_num, hW, hX⟩ | ((repeat apply Exists.intro); exact ⟨⟨k + 1, by omega, by omega, by go_num, hW, hX⟩, rfl⟩)
                        case measure => simp [intOf]; omega
                      · have hn2 : ((f : Int) == ra) = false := by rw [beq_eq_false_iff_ne]; exact hfr
                        replace hfr := Lib.hid hfr
                        go_wp2_with (go_at_call 17; refine (specAll_is p (t.extract f k) (by omega) (by have := hsl.out; unfold maxLen; omega) true hm.out _).mono ?_; rintro e w12 ⟨rfl, hb⟩; replace hW := Lib.hid (below_then hW.out hb (Nat.le_refl _)); replace hX := Lib.hid (hX.out.below hb (lt_of_block hX.out)); clear hb; obtain ⟨d0, d1, d2, -, -, -⟩ := hX.out.facts; rw [hfb.out.1] at d2; have hn1 : ¬ (f : Int) < ra := hfb.out.2.1)
                        go_roundw
                        case rel => first | exact ⟨k + 1, by omega, by omega, by go_num, hW, hX⟩ | ((repeat apply Exists.intro); exact ⟨⟨k + 1, by omega, by omega, by go_num, hW, hX⟩, rfl⟩)
                        case measure => simp [intOf]; omega
                  · have hgk : (t.size : Int) < (k : Int) := by omega
                    go_wp2
                    go_roundw
                    case rel => first | exact ⟨f + 1, by omega, by go_num, hW, hX⟩ | ((repeat apply Exists.intro); exact ⟨⟨f + 1, by omega, by go_num, hW, hX⟩, rfl⟩)
                    case measure => simp [intOf]; omega
              · have hgf : (t.size : Int) < (f : Int) := by omega
                obtain ⟨d0, d1, d2, -, -, -⟩ := hX.out.facts
                rcases hR.out with ⟨h1, h2⟩ | ⟨z, h1, h2, h3, h4⟩
                · rw [h2] at d2
                  clear h1 h2
                  go_wp2
                  go_ret
                  exact ⟨rfl, hW.out⟩
                · rw [h2] at d0
                  rw [h3] at d1
                  rw [h4] at d2
                  have hfm := Lib.hid (find_means (by rw [← h1]; exact hr.out) ht8.out)
                  have hz12 : z.1 ≤ z.2 := hfm.out.1
                  have hz2t : z.2 ≤ t.size := by have := hfm.out.2.1; rw [size_data] at this; exact this
                  have hm := Lib.hid (show (true = true) ↔ Means p.data.toList (t.extract z.1 z.2).data.toList by rw [Lib.extract_data, ← List.drop_take]; exact ⟨fun _ => hfm.out.2.2, fun _ => rfl⟩)
                  have hsl := Lib.hid (show (t.extract z.1 z.2).size ≤ 41 by rw [ByteArray.size_extract]; omega)
                  clear h1 h2 h3 h4
                  go_wp2_with (go_at_call 16; refine (implAll_is p (t.extract z.1 z.2) (by unfold maxLen; omega) (by have := hsl.out; unfold maxLen; omega) true hm.out _).mono ?_; rintro e w13 ⟨rfl, hb⟩; replace hW := Lib.hid (below_then hW.out hb (Nat.le_refl _)); clear hb)
                  go_ret
                  exact ⟨rfl, hW.out⟩
end Go.Proofs.Ytoljhkhegmimbaa
